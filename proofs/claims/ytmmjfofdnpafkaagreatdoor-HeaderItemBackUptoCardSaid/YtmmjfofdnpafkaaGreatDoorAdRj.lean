/- Contract of the reference's six (dialtoneref02): what stands in the brackets of a host. -/
import Derived.Test.YtmmjfofdnpafkaaGreatDoorAdRi
namespace Go.Proofs.YtmmjfofdnpafkaaGreatDoor
namespace Ad
open Go.RowKit Lx

/-- What a call of six answers. -/
def SxP (l : List UInt8) (w : World) (e : Ending) (w' : World) : Prop :=
  ∃ (a : ByteArray) (b : Bool), e = .returned (.tuple #[.string a, .bool b]) ∧ b = (six l).isSome ∧ (∀ x, six l = some x → a = Txt x) ∧ Below w.heap.size w w'
theorem SxP.no {l : List UInt8} {w w' : World} (a : ByteArray) (h : six l = none) (hB : Below w.heap.size w w') : SxP l w (.returned (.tuple #[.string a, .bool false])) w' :=
  ⟨a, false, rfl, by rw [h]; rfl, fun x hx => (by rw [h] at hx; cases hx), hB⟩
end Ad
end Go.Proofs.YtmmjfofdnpafkaaGreatDoor
