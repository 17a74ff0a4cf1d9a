/- awake of package dialtonelaw01 returns true; nothing that lay before has turned. Condition: the library's variable bytealg.MaxLen holds an int. -/
import Derived.Test.YtjbjaofbdbkjaaaDoorLxUBody
import Derived.Test.YtjbjaofbdbkjaaaDoorLxQ
import Derived.Test.YtjbjaofbdbkjaaaDoorLxN
import Derived.Test.YtjbjaofbdbkjaaaDoorLxSame
namespace Go.Proofs.YtjbjaofbdbkjaaaDoor
namespace Lx
open Go.RowKit

theorem aw_u (w : World) : Calls Tryd.prog 25 #[.string ⟨#[120, 32, 34, 97, 92, 34, 34]⟩, .int .i64 2] w fun e w' => e = .returned (.tuple #[.string ⟨#[97, 34]⟩, .int .i64 7, .int .u8 0]) ∧ Below w.heap.size w w' := by
  refine (unquote_any ⟨#[120, 32, 34, 97, 92, 34, 34]⟩ 2 w (by decide)).mono ?_
  rintro e w' ⟨rfl, h⟩
  exact ⟨ret_3 (congrArg (fun l : List UInt8 => (⟨l.toArray⟩ : ByteArray)) (show uqT [120, 32, 34, 97, 92, 34, 34] 2 = [97, 34] by decide +kernel)) (show uqN [120, 32, 34, 97, 92, 34, 34] 2 = 7 by decide +kernel) (show uqE [120, 32, 34, 97, 92, 34, 34] 2 = 0 by decide +kernel), h⟩
theorem aw_c (w : World) : Calls Tryd.prog 27 #[.string ⟨#[40, 97, 32, 40, 98, 41, 41, 99]⟩, .int .i64 0] w fun e w' => (∃ x, e = .returned (.tuple #[.string x, .int .i64 7, .int .u8 0])) ∧ Below w.heap.size w w' := by
  refine (comment_any ⟨#[40, 97, 32, 40, 98, 41, 41, 99]⟩ 0 w (by decide)).mono ?_
  rintro e w' ⟨rfl, h⟩
  exact ⟨⟨_, ret_3 rfl (show cmN [40, 97, 32, 40, 98, 41, 41, 99] 0 = 7 by decide +kernel) (show cmE [40, 97, 32, 40, 98, 41, 41, 99] 0 = 0 by decide +kernel)⟩, h⟩
theorem aw_n (w : World) : Calls Tryd.prog 14 #[.string ⟨#[48, 48, 55]⟩] w (Ret (.tuple #[.int .i64 7, .int .u8 0]) w) := by
  refine (number_any ⟨#[48, 48, 55]⟩ w (by unfold maxLen; decide)).mono ?_
  rintro e w' ⟨rfl, rfl⟩
  exact ⟨ret_ii (show numN [48, 48, 55] = 7 by decide +kernel) (show numE [48, 48, 55] = 0 by decide +kernel), rfl⟩
abbrev awL : List (Nat × List UInt8) := [(0, [97, 58, 32, 49, 32, 50]), (12, [])]
theorem aw_f (m : Int) (w : World) (hm : w.cell? ⟨0, 0, none⟩ = some (.int .i64 m)) : Calls Tryd.prog 32 #[.string ⟨#[97, 58, 32, 49, 13, 10, 32, 32, 50, 32, 13, 10, 13, 10]⟩] w fun e w' => (∃ v, e = .returned (.tuple #[v, .int .i64 0, .int .u8 0]) ∧ PcIn w' v awL) ∧ Below w.heap.size w w' := by
  refine (unfold_any ⟨#[97, 58, 32, 49, 13, 10, 32, 32, 50, 32, 13, 10, 13, 10]⟩ m w (by decide) hm).mono ?_
  rintro e w' ⟨v, rfl, hr, hB⟩
  have e1 : unfL (⟨#[97, 58, 32, 49, 13, 10, 32, 32, 50, 32, 13, 10, 13, 10]⟩ : ByteArray).data.toList = awL := by decide +kernel
  have e2 : (unfAt (⟨#[97, 58, 32, 49, 13, 10, 32, 32, 50, 32, 13, 10, 13, 10]⟩ : ByteArray).data.toList : Int) = 0 := by decide +kernel
  have e3 : unfE (⟨#[97, 58, 32, 49, 13, 10, 32, 32, 50, 32, 13, 10, 13, 10]⟩ : ByteArray).data.toList = 0 := by decide +kernel
  rw [e1] at hr
  rw [e2, e3]
  exact ⟨⟨v, rfl, PcIn.of_row hr⟩, hB⟩
theorem aw_t1 (w : World) : Calls Tryd.prog 16 #[.string ⟨#[97, 45, 49, 46, 98]⟩] w (Ret (.bool true) w) := by
  refine (token_any ⟨#[97, 45, 49, 46, 98]⟩ w (by unfold maxLen; decide)).mono ?_
  rintro e w' ⟨rfl, rfl⟩
  exact ⟨ret_bool (by decide +kernel), rfl⟩
theorem aw_t2 (w : World) : Calls Tryd.prog 16 #[.string ⟨#[97, 47, 98]⟩] w (Ret (.bool false) w) := by
  refine (token_any ⟨#[97, 47, 98]⟩ w (by unfold maxLen; decide)).mono ?_
  rintro e w' ⟨rfl, rfl⟩
  exact ⟨ret_bool (by decide +kernel), rfl⟩

set_option maxRecDepth 100000 in
set_option maxHeartbeats 2000000 in
theorem awake_any (m : Int) (w : World) (hm : w.cell? ⟨0, 0, none⟩ = some (.int .i64 m)) : Calls Tryd.prog 22 #[] w fun e w' => e = .returned (.bool true) ∧ Below w.heap.size w w' := by
  have h0 := cell_lt' hm
  have Hm := Lib.hid hm
  clear hm
  go_enter Tryd.func22, Tryd.ntmps22
  go_wp2_with fail
  refine (aw_u _).mono ?_
  rintro e w1 ⟨rfl, hB1⟩
  go_wp2_with fail
  refine (aw_c _).mono ?_
  rintro e w2 ⟨⟨x, rfl⟩, hB2⟩
  have hB2' := hB1.trans (hB2.mono hB1.size)
  go_wp2_with fail
  refine (aw_n _).mono ?_
  rintro e w3 ⟨rfl, rfl⟩
  go_wp2_with fail
  refine (aw_f m _ ((hB2'.cell (p := ⟨0, 0, none⟩) h0).trans Hm.out)).mono ?_
  rintro e w4 ⟨⟨v, rfl, hp⟩, hB4⟩
  have hB4' := hB2'.trans (hB4.mono hB2'.size)
  have Hp := Lib.hid hp
  obtain ⟨va, vc, rfl, _⟩ := id hp
  clear hp
  go_wp2_with fail
  have hal := (Below.refl w4.heap.size w4).alloc (Nat.le_refl _) (.cells #[.int .i64 0, .string ⟨#[97, 58, 32, 49, 32, 50]⟩, .int .i64 12, .string ⟨#[]⟩] 43)
  refine (same_any _ _ awL awL _ (Hp.out.below hal) (PcIn.new w4 awL _ rfl) (by decide) (by decide)).mono ?_
  rintro e w5 ⟨rfl, n, rfl⟩
  rw [show decide (awL = awL) = true from by decide]
  have hB5 : Below w.heap.size w ((w4.alloc (.cells #[.int .i64 0, .string ⟨#[97, 58, 32, 49, 32, 50]⟩, .int .i64 12, .string ⟨#[]⟩] 43)).drewN n) :=
    have h := hB4'.trans (hal.mono hB4'.size)
    ⟨h.os, h.tape, h.output, h.size, h.block⟩
  go_wp2_with fail
  refine (aw_t1 _).mono ?_
  rintro e w6 ⟨rfl, rfl⟩
  go_wp2_with fail
  refine (aw_t2 _).mono ?_
  rintro e w7 ⟨rfl, rfl⟩
  go_wp2_with fail
  go_ret
  exact ⟨rfl, hB5⟩
end Lx
end Go.Proofs.YtjbjaofbdbkjaaaDoor
