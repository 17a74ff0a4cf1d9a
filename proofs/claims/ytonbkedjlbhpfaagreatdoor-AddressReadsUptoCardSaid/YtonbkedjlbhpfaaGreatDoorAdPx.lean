/- Contract of PrintAddress of package address. Texts have at most 2^20 bytes. -/
import Derived.Test.YtonbkedjlbhpfaaGreatDoorAdPw
import Derived.Test.YtonbkedjlbhpfaaGreatDoorM8
namespace Go.Proofs.YtonbkedjlbhpfaaGreatDoor
namespace Ad
open Go.RowKit Lx

theorem sz_one (c : UInt8) : (⟨#[c]⟩ : ByteArray).size = 1 := rfl
/-- Behind a call that hands back a text and an error, and only adds to memory. -/
def PrK (o : Option (List UInt8)) (w : World) (e : Ending) (w' : World) : Prop :=
  e = .returned (.tuple #[.string (Txt (o.getD [])), .int .u8 (if o.isSome then 0 else 2)]) ∧ Kp [] w w'
theorem PrK.none {o : Option (List UInt8)} {w w' : World} (h : o = none) (k : Kp [] w w') : PrK o w (.returned (.tuple #[.string ⟨#[]⟩, .int .u8 2])) w' := by
  unfold PrK; rw [h]; exact ⟨rfl, k⟩
theorem PrK.some {o : Option (List UInt8)} {t : List UInt8} {s : ByteArray} {w w' : World} (h : o = some t) (hs : s = Txt t) (k : Kp [] w w') : PrK o w (.returned (.tuple #[.string s, .int .u8 0])) w' := by
  unfold PrK; rw [h, hs]; exact ⟨rfl, k⟩
end Ad
end Go.Proofs.YtonbkedjlbhpfaaGreatDoor
