/- Plain facts: parameter lists of the rest of a text, at shifted offsets; how much fuel does not matter. No program. -/
import Derived.Test.YtmmjfofdnpafkaaGreatDoorM4
import Derived.Test.YtmmjfofdnpafkaaGreatDoorAdRo
namespace Go.Proofs.YtmmjfofdnpafkaaGreatDoor
namespace Ad
open Lx

theorem opE_at (l : List UInt8) (k : Nat) (h : atB l k = 34) : opE 34 l (k : Int) = 0 := by
  have hk := atB_lt l k (by rw [h]; decide)
  have e : l.drop k = l[k] :: l.drop (k + 1) := (List.drop_eq_getElem_cons hk)
  unfold opE
  rw [if_neg (by omega), Int.toNat_natCast, e]
  dsimp only
  unfold atB at h
  rw [List.getElem?_eq_getElem hk] at h
  exact if_pos h
end Ad
end Go.Proofs.YtmmjfofdnpafkaaGreatDoor
