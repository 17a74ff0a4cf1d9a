/- Texts of one set of library modules: LxUnfold. -/
import Derived.Test.YtbcaindpbeaheaaGreatDoorZ25
import Derived.Shelf.Strings.SlTrimAscii
namespace Go.Proofs.YtbcaindpbeaheaaGreatDoor
namespace Lx
open Go.RowKit Go.Shelf
attribute [local go_sem] Oper.semAt_some
theorem trim_set (s : ByteArray) (w : World) (hs : s.size ≤ 9223372036854775807) :
   Calls Tryz.prog 66 #[.string s, .string ⟨#[32, 9]⟩] w fun e w' => e = .returned (.string ⟨(Lib.trimS s.data.toList blk).toArray⟩) ∧ Below w.heap.size w w' :=
 Any.strings_Trim_laid Tryz.lays160 (by kernel_rfl) s ⟨#[32, 9]⟩ w hs (by decide) (ascii_of_all (by decide))
end Lx
end Go.Proofs.YtbcaindpbeaheaaGreatDoor
