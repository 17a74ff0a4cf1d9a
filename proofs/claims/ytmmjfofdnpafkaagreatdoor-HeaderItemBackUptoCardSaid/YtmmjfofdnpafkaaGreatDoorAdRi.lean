/- Contract of the reference's groups (dialtoneref02). -/
import Derived.Test.YtmmjfofdnpafkaaGreatDoorAdRg
import Derived.Test.YtmmjfofdnpafkaaGreatDoorM7
import Derived.Deep.AppendLies
namespace Go.Proofs.YtmmjfofdnpafkaaGreatDoor
namespace Ad
open Go.RowKit Lx

theorem Txs.below {w w' : World} {g : Nat} {xs : List (List UInt8)} (h : Txs w g xs) (hg : g < w.heap.size) (hB : Below w.heap.size w w') : Txs w' g xs := fun j x hx => (hB.cell (p := ⟨g, j, none⟩) hg).trans (h j x hx)
/-- What a call of groups answers. -/
def GsP (l : List UInt8) (w : World) (e : Ending) (w' : World) : Prop :=
  e = .returned (.tuple #[.string (Txt (joinL 58 ((grps l).getD []))), .int .i64 ((grps l).getD []).length, .bool (grps l).isSome]) ∧ Below w.heap.size w w'
theorem GsP.no {l : List UInt8} {w w' : World} (h : grps l = none) (hB : Below w.heap.size w w') : GsP l w (.returned (.tuple #[.string ⟨#[]⟩, .int .i64 0, .bool false])) w' := by
  unfold GsP; rw [h]; exact ⟨rfl, hB⟩
end Ad
end Go.Proofs.YtmmjfofdnpafkaaGreatDoor
