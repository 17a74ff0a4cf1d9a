/- Contracts of the reference's telephoned and index (dialtoneref02). A text has at most 2^21 bytes. -/
import Derived.Test.YtjkkcoiebnmkcaaGreatDoorAdVb
namespace Go.Proofs.YtjkkcoiebnmkcaaGreatDoor
namespace Ad
open Go.RowKit Lx

set_option maxRecDepth 100000 in
set_option maxHeartbeats 1000000 in
theorem rtelephoned_any (l : List UInt8) (w : World) (hl : l.length ≤ 2097152) :
    Calls Tryz.prog 101 #[.string (Txt l)] w (BoK (isNum l) w) := by
  have KA := Lib.hid ((Kp.refl [] w).alloc (.cells #[.string (Txt l), .int .i64 0, .int .i64 0, .int .u8 0] 103))
  have RA := Lib.hid (show Rdr w.heap.size (Txt l) 0 0 0 (w.alloc (.cells #[.string (Txt l), .int .i64 0, .int .i64 0, .int .u8 0] 103)) from Blk.new w _ _)
  obtain ⟨r1, r2, x, hr⟩ : ∃ a b c, telR l 0 = (a, b, c) := ⟨_, _, _, rfl⟩
  have HI := Lib.hid (by unfold isNum; rw [hr] : isNum l = (decide (x = 0) && decide (r1 = l)))
  have HR := Lib.hid hr
  clear hr
  go_enter Tryz.func101, Tryz.ntmps101
  go_wp2_with fail
  refine (rtelephone_any w.heap.size 0 (Txt l) _ RA.out (Nat.zero_le _) (by rw [txt_size]; exact hl)).mono ?_
  rintro e w1 ⟨t, i', rfl, hi', hR1, hK1, hx⟩
  rw [txt_list, HR.out] at hR1 hx
  dsimp only at hR1 hx
  have HB := Lib.hid (KA.out.to_ hK1 (by intro y hy; simp at hy; subst hy; right; omega))
  have u3 := hR1.c3
  have Hx := Lib.hid hx
  clear hR1 hK1 hx hi'
  by_cases hx0 : x = 0
  · subst hx0
    obtain ⟨ht, _⟩ := Hx.out (by trivial)
    subst ht
    have HF := Lib.hid (by rw [HI.out, str_beq, decide_eq_true rfl, Bool.true_and]; exact dec_beq _ _ : isNum l = ((Txt r1).toList == (Txt l).toList))
    go_wp2_with fail
    go_ret
    exact ⟨ret_bool HF.out.symm, HB.out⟩
  · have bx : (x == 0) = false := beq_eq_false_iff_ne.2 hx0
    have HF := Lib.hid (by rw [HI.out, decide_eq_false hx0]; rfl : isNum l = false)
    clear hx0
    go_wp2_with fail
    go_ret
    exact ⟨ret_bool HF.out.symm, HB.out⟩
end Ad
end Go.Proofs.YtjkkcoiebnmkcaaGreatDoor
