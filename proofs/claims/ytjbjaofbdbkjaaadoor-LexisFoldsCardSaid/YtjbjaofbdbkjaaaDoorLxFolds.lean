/- The law of LexisFolds. Condition: the library's variable bytealg.MaxLen holds an int. -/
import Derived.Test.YtjbjaofbdbkjaaaDoorLxF
import Derived.Test.YtjbjaofbdbkjaaaDoorLxAwake
namespace Go.Proofs.YtjbjaofbdbkjaaaDoor
namespace Lx
open Go.RowKit

set_option maxRecDepth 100000 in
set_option maxHeartbeats 1000000 in
theorem folds_law (s : ByteArray) (wd : Int) (m : Int) (w : World) (hs : s.size ≤ maxLen) (hm : w.cell? ⟨0, 0, none⟩ = some (.int .i64 m)) :
    Calls Tryd.prog 7 #[.string s, .int .i64 wd] w fun e w' => e = .returned (.bool true) ∧ Below w.heap.size w w' := by
  have h0 := cell_lt hm
  have Hm := Lib.hid hm
  have Hml := Lib.hid hs
  unfold maxLen at hs
  clear hm
  by_cases hbig : 5000 < s.size
  · go_enter Tryd.func7, Tryd.ntmps7
    go_wp2_with fail
    refine (awake_any m _ Hm.out).mono ?_
    rintro e w' ⟨rfl, hB9⟩
    go_wp2_with fail
    go_ret
    exact ⟨rfl, hB9⟩
  · obtain ⟨E, hE⟩ : ∃ E, foE s wd = E := ⟨_, rfl⟩
    obtain ⟨T, hT⟩ : ∃ T : ByteArray, ⟨(foT s wd).toArray⟩ = T := ⟨_, rfl⟩
    have HE := Lib.hid hE
    have HT := Lib.hid hT
    have hEb : (E == E) = true := by simp
    have hTb : (T.toList == T.toList) = true := by simp
    clear hE hT
    go_enter Tryd.func7, Tryd.ntmps7
    go_wp2_with fail
    refine (fold_any s wd w (by omega)).mono ?_
    rintro e w1 ⟨rfl, hB1⟩
    rw [HE.out, HT.out]
    have hs1 := hB1.size
    go_wp2_with fail
    refine (rfold_any s wd w1 (by omega)).mono ?_
    rintro e w2 ⟨rfl, rfl⟩
    rw [HE.out, HT.out]
    go_wp2_with fail
    refine (awake_any m _ ((hB1.cell (p := ⟨0, 0, none⟩) h0).trans Hm.out)).mono ?_
    rintro e w' ⟨rfl, hB9⟩
    go_wp2_with fail
    go_ret
    exact ⟨rfl, hB1.trans (hB9.mono hs1)⟩
end Lx
end Go.Proofs.YtjbjaofbdbkjaaaDoor
