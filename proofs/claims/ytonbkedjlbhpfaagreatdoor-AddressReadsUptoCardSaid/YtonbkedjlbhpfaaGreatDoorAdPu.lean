/- Contract of PrintParams of package address. Names and values have at most 2^21 bytes. -/
import Derived.Test.YtonbkedjlbhpfaaGreatDoorAdPq
import Derived.Test.YtonbkedjlbhpfaaGreatDoorM7
namespace Go.Proofs.YtonbkedjlbhpfaaGreatDoor
namespace Ad
open Go.RowKit Lx

/-- An error code, and memory that is only added to. -/
def ErK (x : Int) (w : World) (e : Ending) (w' : World) : Prop := e = .returned (.int .u8 x) ∧ Kp [] w w'
theorem PmIn.take {B : Nat} {w : World} {b o n c : Nat} {l : List Prm} (hb : b < B) (hn : l.length = n) (hc : n ≤ c) (hcell : ∀ (i : Nat) (u : Value), (pcl l)[i]? = some u → w.cell? ⟨b, o + i, none⟩ = some u) (j : Nat) (hj : j ≤ n) : PmIn B w (.slice (some ⟨b, o, none⟩) j c) (l.take j) := by
  refine ⟨j, c, by rw [List.length_take]; omega, by omega, .inr ⟨b, o, rfl, hb, fun i u hu => hcell i u ?_⟩⟩
  have e : pcl l = pcl (l.take j) ++ pcl (l.drop j) := by rw [← pcl_app, List.take_append_drop]
  rw [e, List.getElem?_append_left (by exact (List.getElem?_eq_some_iff.1 hu).1)]; exact hu
end Ad
end Go.Proofs.YtonbkedjlbhpfaaGreatDoor
