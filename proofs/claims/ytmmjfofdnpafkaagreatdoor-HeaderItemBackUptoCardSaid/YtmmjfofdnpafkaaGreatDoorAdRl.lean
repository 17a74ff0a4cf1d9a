/- Contract of the reference's Host (dialtoneref02). -/
import Derived.Test.YtmmjfofdnpafkaaGreatDoorAdRj
namespace Go.Proofs.YtmmjfofdnpafkaaGreatDoor
namespace Ad
open Go.RowKit Lx

theorem HoP.no {l : List UInt8} {w w' : World} (h : hostO l = none) (hB : Below w.heap.size w w') : HoP (hostO l) w (.returned (.tuple #[.string ⟨#[]⟩, .bool false])) w' := by
  unfold HoP; rw [h]; exact ⟨rfl, hB⟩
end Ad
end Go.Proofs.YtmmjfofdnpafkaaGreatDoor
