/- Contract of the reference's PrintParams (dialtoneref02). Names and values have at most 2^21 bytes. -/
import Derived.Test.YtmmjfofdnpafkaaGreatDoorAdRo
namespace Go.Proofs.YtmmjfofdnpafkaaGreatDoor
namespace Ad
open Go.RowKit Lx

/-- The names so far are in lower case. -/
def LowN (l : List Prm) (j : Nat) : Prop := ∀ q ∈ l.take j, lowL q.1 = q.1
theorem LowN.succ {l : List Prm} {j : Nat} (h : LowN l j) (hj : j < l.length) (h2 : lowL l[j]!.1 = l[j]!.1) : LowN l (j + 1) := fun q hq => by
  rw [List.take_succ_eq_append_getElem hj] at hq
  rcases List.mem_append.1 hq with h3 | h3
  · exact h q h3
  · rw [List.mem_singleton.1 h3, ← getElem!_pos l j hj]; exact h2
end Ad
end Go.Proofs.YtmmjfofdnpafkaaGreatDoor
