/- Texts of one set of library modules: LxA, LxN. -/
import Derived.Test.YtbcaindpbeaheaaGreatDoorZ1
import Derived.Test.YtbcaindpbeaheaaGreatDoorShelf
import Derived.WalkKit
import Derived.WalkSpells
import Derived.WalkLawsBesides
import Derived.Deep.QuietTactic
import Derived.BigQuiet
import Derived.LoopTactic
import Derived.RegionTactic
import Derived.Lib.Hide
import Derived.KernelRfl
import Derived.Shelf.Abstract
namespace Go.Proofs.YtbcaindpbeaheaaGreatDoor
namespace Lx
open Go.RowKit
theorem blank_any (c : Int) (w : World) : Calls Tryz.prog 60 #[.int .u8 c] w (Ret (.bool (blankI c)) w) := by
 go_enter Tryz.func60, Tryz.ntmps60
 go_wp2
 all_goals (go_ret; exact ⟨by simp [blankI, *], rfl⟩)
theorem ctl_any (c : Int) (w : World) : Calls Tryz.prog 88 #[.int .u8 c] w (Ret (.bool (ctlI c)) w) := by
 go_enter Tryz.func88, Tryz.ntmps88
 go_wp2
 all_goals (go_ret; exact ⟨by simp [ctlI, *] <;> omega, rfl⟩)
theorem digit_any (c : Int) (w : World) : Calls Tryz.prog 117 #[.int .u8 c] w (Ret (.bool (digitI c)) w) := by
 go_enter Tryz.func117, Tryz.ntmps117
 go_wp2
 all_goals (go_ret; exact ⟨by simp [digitI, *] <;> omega, rfl⟩)
theorem letter_any (c : Int) (w : World) : Calls Tryz.prog 124 #[.int .u8 c] w (Ret (.bool (letterI c)) w) := by
 go_enter Tryz.func124, Tryz.ntmps124
 go_wp2
 all_goals (go_ret; exact ⟨by simp [letterI, *] <;> omega, rfl⟩)
theorem esc_any (c : Int) (w : World) : Calls Tryz.prog 204 #[.int .u8 c] w (Ret (.bool (escI c)) w) := by
 go_enter Tryz.func204, Tryz.ntmps204
 go_wp2
 all_goals (go_ret; exact ⟨by simp [escI, *] <;> omega, rfl⟩)
theorem indexByte_cons (b : UInt8) (t : List UInt8) (c : UInt8) : Lib.indexByte (b :: t) c = if b == c then 0 else if Lib.indexByte t c == -1 then -1 else Lib.indexByte t c + 1 := rfl
theorem indexByte_any (l : List UInt8) (c : UInt8) : 0 ≤ Lib.indexByte l c ↔ (l.any fun b => b == c) = true := by
 induction l with
 | nil => simp [Lib.indexByte]
 | cons b t ih =>
   have hb := Lib.indexByte_ge t c
   rw [List.any_cons, Bool.or_eq_true, ← ih, indexByte_cons]
   by_cases h : (b == c) = true
   ·simp [h]
   ·rw [if_neg h]
    by_cases h2 : Lib.indexByte t c = -1
    ·rw [if_pos (by simpa using h2)]
     constructor
     ·intro h3; omega
     ·rintro (h3 | h3)
      ·exact absurd h3 h
      ·omega
    ·rw [if_neg (by simpa using h2)]
     constructor
     ·intro _; right; omega
     ·intro _; omega
theorem u8_eq (b : UInt8) (c : Int) (h0 : 0 ≤ c) (h1 : c < 256) : (b == c.toNat.toUInt8) = ((b.toNat : Int) == c) := by
 have hb := b.toNat_lt
 rw [Bool.eq_iff_iff, beq_iff_eq, beq_iff_eq, ← UInt8.toNat_inj]
 simp only [Nat.toUInt8, UInt8.toNat_ofNat']
 omega
theorem mark_any (c : Int) (h0 : 0 ≤ c) (h1 : c < 256) : decide (0 ≤ Lib.indexByte [45, 46, 33, 37, 42, 95, 43, 39, 126, 96] c.toNat.toUInt8) = markI c := by
 rw [Bool.eq_iff_iff, decide_eq_true_iff, indexByte_any]
 unfold markI marksL
 have : (fun b : UInt8 => b == c.toNat.toUInt8) = fun b => ((b.toNat : Int) == c) := by funext b; exact u8_eq b c h0 h1
 rw [this]
set_option maxRecDepth 100000 in
set_option maxHeartbeats 400000 in
theorem tok_any (c : Int) (w : World) (h0 : 0 ≤ c) (h1 : c < 256) : Calls Tryz.prog 74 #[.int .u8 c] w (Ret (.bool (tokI c)) w) := by
 have hm := Lib.hid (mark_any c h0 h1)
 cases hl : letterI c
 ·cases hd : digitI c
  ·have Hl := Lib.hid hl
   have Hd := Lib.hid hd;clear hl hd
   go_enter Tryz.func74, Tryz.ntmps74
   go_wp2_with fail
   refine (letter_any _ _).mono ?_
   rintro e w' ⟨rfl, rfl⟩
   rw [Hl.out]
   go_wp2_with fail
   refine (digit_any _ _).mono ?_
   rintro e w' ⟨rfl, rfl⟩
   rw [Hd.out]
   go_wp2_with fail
   refine (Tryz.strings_IndexByte _ _ _).mono ?_
   rintro e w' ⟨rfl, rfl⟩
   go_wp2_with fail
   go_ret
   exact ⟨ret_bool (by rw [hm.out]; simp [tokI, Hl.out, Hd.out]), rfl⟩
  ·have Hl := Lib.hid hl
   have Hd := Lib.hid hd;clear hl hd
   go_enter Tryz.func74, Tryz.ntmps74
   go_wp2_with fail
   refine (letter_any _ _).mono ?_
   rintro e w' ⟨rfl, rfl⟩
   rw [Hl.out]
   go_wp2_with fail
   refine (digit_any _ _).mono ?_
   rintro e w' ⟨rfl, rfl⟩
   rw [Hd.out]
   go_wp2_with fail
   go_ret
   exact ⟨ret_bool (by simp [tokI, Hl.out, Hd.out]), rfl⟩
 ·have Hl := Lib.hid hl
  clear hl
  go_enter Tryz.func74, Tryz.ntmps74
  go_wp2_with fail
  refine (letter_any _ _).mono ?_
  rintro e w' ⟨rfl, rfl⟩
  rw [Hl.out]
  go_wp2_with fail
  go_ret
  exact ⟨ret_bool (by simp [tokI, Hl.out]), rfl⟩
structure ClassFn (f : Nat) (p : Int → Bool) : Prop where
 ent : ∀ (c : Int) (w : World), Sem.run Tryz.prog (callFunc f #[.int .u8 c]) w = .ok (.enter f #[.int .u8 c]) w
 calls : ∀ (c : Int) (w : World), 0 ≤ c → c < 256 → Calls Tryz.prog f #[.int .u8 c] w (Ret (.bool (p c)) w)
theorem tokFn : ClassFn 74 tokI := ⟨fun _ _ => by kernel_rfl, fun c w h0 h1 => tok_any c w h0 h1⟩
theorem blankFn : ClassFn 60 blankI := ⟨fun _ _ => by kernel_rfl, fun c w _ _ => blank_any c w⟩
theorem digitFn : ClassFn 117 digitI := ⟨fun _ _ => by kernel_rfl, fun c w _ _ => digit_any c w⟩
theorem ctlFn : ClassFn 88 ctlI := ⟨fun _ _ => by kernel_rfl, fun c w _ _ => ctl_any c w⟩
theorem byte_lo (b : UInt8) : (0 : Int) ≤ (b.toNat : Int) := by omega
theorem byte_hi (b : UInt8) : (b.toNat : Int) < 256 := by have := b.toNat_lt; omega
set_option maxRecDepth 100000 in
set_option maxHeartbeats 400000 in
theorem behind_any (f : Nat) (p : Int → Bool) (hf : ClassFn f p) (s : ByteArray) (i : Int) (w : World) (hs : s.size ≤ maxLen) :
   Calls Tryz.prog 73 #[.string s, .int .i64 i, .func (.func f) #[] #[]] w (Ret (.int .i64 (bhd p s (min i.toNat s.size) : Nat)) w) := by
 unfold maxLen at hs
 go_enter Tryz.func73, Tryz.ntmps73
 go_wp2
 all_goals
  go_loop [1] (fun i' => ∃ k : Nat, k ≤ s.size ∧ i' = .int .i64 k ∧ bhd p s k = bhd p s (min i.toNat s.size)) (fun i' => s.size - (intOf i').toNat)
  case atStart => exact ⟨min i.toNat s.size, by omega, by first | (congr 1; omega) | (congr 1; simp; omega), rfl⟩
  case round =>
   obtain ⟨k, hk, rfl, he⟩ := hrel
   have He := Lib.hid he;clear he
   by_cases hlt : k < s.size
   ·cases hb : p s[k].toNat
    ·have H1 := Lib.hid (bhd_no p s k hlt hb)
     have H2 := Lib.hid hb;clear hb
     go_wp2_with fail
     rw [hf.ent, Oper.upon_enter]
     refine (hf.calls _ _ (byte_lo _) (byte_hi _)).mono ?_
     rintro e w' ⟨rfl, rfl⟩
     rw [H2.out]
     go_wp2_with fail
     go_ret
     exact ⟨ret_int (by rw [← He.out, H1.out]), rfl⟩
    ·have H1 := Lib.hid (bhd_yes p s k hlt hb)
     have H2 := Lib.hid hb;clear hb
     go_wp2_with fail
     rw [hf.ent, Oper.upon_enter]
     refine (hf.calls _ _ (byte_lo _) (byte_hi _)).mono ?_
     rintro e w' ⟨rfl, rfl⟩
     rw [H2.out]
     go_wp2_with fail
     go_round
     case rel => exact ⟨k + 1, by omega, by go_num, by rw [← H1.out, He.out]⟩
     case measure => simp [intOf]; omega
   ·have H1 := Lib.hid (bhd_end p s k (by omega))
    go_wp2
    go_ret
    exact ⟨ret_int (by rw [← He.out, H1.out]), rfl⟩
set_option maxRecDepth 100000 in
theorem tokenEnd_any (s : ByteArray) (i : Int) (w : World) (hs : s.size ≤ maxLen) :
   Calls Tryz.prog 40 #[.string s, .int .i64 i] w (Ret (.int .i64 (bhd tokI s (min i.toNat s.size) : Nat)) w) := by
 go_enter Tryz.func40, Tryz.ntmps40
 go_wp2_with fail
 refine (behind_any _ _ tokFn s i w hs).mono ?_
 rintro e w' ⟨rfl, rfl⟩
 go_wp2_with fail
 go_ret
 exact ⟨rfl, rfl⟩
set_option maxRecDepth 100000 in
theorem blanks_any (s : ByteArray) (i : Int) (w : World) (hs : s.size ≤ maxLen) :
   Calls Tryz.prog 65 #[.string s, .int .i64 i] w (Ret (.int .i64 (bhd blankI s (min i.toNat s.size) : Nat)) w) := by
 go_enter Tryz.func65, Tryz.ntmps65
 go_wp2_with fail
 refine (behind_any _ _ blankFn s i w hs).mono ?_
 rintro e w' ⟨rfl, rfl⟩
 go_wp2_with fail
 go_ret
 exact ⟨rfl, rfl⟩
theorem bhd_zero (p : Int → Bool) (s : ByteArray) : bhd p s (min (0 : Int).toNat s.size) = bhd p s 0 := by simp
def tokenB (s : ByteArray) : Bool := decide (1 ≤ s.size) && decide (bhd tokI s 0 = s.size)
theorem cast_beq (a b : Nat) : ((a : Int) == (b : Int)) = decide (a = b) := by
 rw [Bool.eq_iff_iff, beq_iff_eq, decide_eq_true_iff]; omega
theorem toList_ne (s : ByteArray) (h : 1 ≤ s.size) : ¬ s.toList = [] := by
 rw [Lib.toList_data]; intro hh
 have := len_list s
 rw [hh] at this; simp at this; omega
theorem toList_nil (s : ByteArray) (h : ¬ 1 ≤ s.size) : s.toList = [] := by
 rw [Lib.toList_data]; exact List.eq_nil_of_length_eq_zero (by have := len_list s; omega)
theorem isEmpty_no (s : ByteArray) (h : 1 ≤ s.size) : s.toList.isEmpty = false := by
 have := toList_ne s h
 cases hl : s.toList <;> simp_all
theorem isEmpty_yes (s : ByteArray) (h : ¬ 1 ≤ s.size) : s.toList.isEmpty = true := by rw [toList_nil s h]; rfl
set_option maxRecDepth 100000 in
theorem token_any (s : ByteArray) (w : World) (hs : s.size ≤ maxLen) :
   Calls Tryz.prog 13 #[.string s] w (Ret (.bool (tokenB s)) w) := by
 by_cases h1 : 1 ≤ s.size
 ·have he := isEmpty_no s h1
  have hn := toList_ne s h1;have Hs := Lib.hid hs;have H1 := Lib.hid h1;clear hs h1
  go_enter Tryz.func13, Tryz.ntmps13
  go_wp2_with fail
  refine (tokenEnd_any _ _ _ Hs.out).mono ?_
  rintro e w' ⟨rfl, rfl⟩
  rw [bhd_zero]
  go_wp2_with fail
  go_ret
  exact ⟨ret_bool (by rw [cast_beq]; simp [tokenB, H1.out]), rfl⟩
 ·have he := isEmpty_yes s h1
  have hn := toList_nil s h1;have Hs := Lib.hid hs;have H1 := Lib.hid h1;clear hs h1
  go_enter Tryz.func13, Tryz.ntmps13
  go_wp2_with fail
  go_ret
  exact ⟨ret_bool (by simp [tokenB]; intro h; exact absurd h H1.out), rfl⟩
end Lx
end Go.Proofs.YtbcaindpbeaheaaGreatDoor
namespace Go.Proofs.YtbcaindpbeaheaaGreatDoor
namespace Lx
open Go.RowKit
theorem runL_digits (s : ByteArray) : bhd digitI s (min (0 : Int).toNat s.size) = s.size ↔ allD s.data.toList = true := by
 rw [bhd_zero, ← runL_all, len_list]; simp [bhd]
theorem allD_take (l : List UInt8) (k : Nat) (h : allD l = true) : allD (l.take k) = true := by
 simp only [allD, List.all_eq_true] at h ⊢
 intro x hx; exact h x (List.mem_of_mem_take hx)
theorem allD_at (s : ByteArray) (h : allD s.data.toList = true) (k : Nat) (hk : k < s.size) : 48 ≤ (s[k].toNat : Int) ∧ (s[k].toNat : Int) ≤ 57 := by
 simp only [allD, List.all_eq_true] at h
 have : s[k] ∈ s.data.toList := Array.getElem_mem_toList (xs := s.data) hk
 have := h _ this
 simpa [digitI] using this
set_option maxRecDepth 100000 in
set_option maxHeartbeats 400000 in
theorem number_any (s : ByteArray) (w : World) (hs : s.size ≤ maxLen) :
   Calls Tryz.prog 69 #[.string s] w (Ret (.tuple #[.int .i64 (numN s.data.toList), .int .u8 (numE s.data.toList)]) w) := by
 have hL := len_list s
 by_cases h1 : s.size < 1
 ·have hb := num_bad s.data.toList (by omega)
  have Hb := Lib.hid hb;clear hb hL
  unfold maxLen at hs
  go_enter Tryz.func69, Tryz.ntmps69
  go_wp2_with fail
  go_ret2
  exact ⟨ret_ii Hb.out.1.symm Hb.out.2.symm, rfl⟩
 by_cases h2 : 10 < s.size
 ·have hb := num_bad s.data.toList (by omega)
  have Hb := Lib.hid hb;clear hb hL
  unfold maxLen at hs
  go_enter Tryz.func69, Tryz.ntmps69
  go_wp2_with fail
  go_ret2
  exact ⟨ret_ii Hb.out.1.symm Hb.out.2.symm, rfl⟩
 have hle := bhd_le digitI s (min (0 : Int).toNat s.size) (by omega)
 cases h3 : allD s.data.toList
 ·have hb := num_bad s.data.toList (by simp [h3])
  have Hb := Lib.hid hb
  have hlt : bhd digitI s (min (0 : Int).toNat s.size) < s.size := by
   have := runL_digits s
   rw [h3] at this
   have : ¬ bhd digitI s (min (0 : Int).toNat s.size) = s.size := fun h => by have := this.1 h; cases this
   omega
  generalize hB : bhd digitI s (min (0 : Int).toNat s.size) = B at hlt hle
  have HB := Lib.hid hB;have Hs := Lib.hid hs;clear hb hL hB h3
  unfold maxLen at hs
  go_enter Tryz.func69, Tryz.ntmps69
  go_wp2_with fail
  refine (behind_any _ _ digitFn _ _ _ Hs.out).mono ?_
  rintro e w' ⟨rfl, rfl⟩
  rw [HB.out]
  go_wp2_with fail
  go_ret2
  exact ⟨ret_ii Hb.out.1.symm Hb.out.2.symm, rfl⟩
 ·have hEq : bhd digitI s (min (0 : Int).toNat s.size) = s.size := (runL_digits s).2 h3
  have HE := Lib.hid hEq;have H3 := Lib.hid h3;have HL := Lib.hid hL;have Hs := Lib.hid hs;clear hL hEq h3 hle
  unfold maxLen at hs
  go_enter Tryz.func69, Tryz.ntmps69
  go_wp2_with fail
  refine (behind_any _ _ digitFn _ _ _ Hs.out).mono ?_
  rintro e w' ⟨rfl, rfl⟩
  rw [HE.out]
  go_wp2_with fail
  go_loop [4, 5, 23] (fun n _ i => ∃ k : Nat, k ≤ s.size ∧ i = .int .i64 k ∧ n = .int .i64 (valL (s.data.toList.take k))) (fun _ _ i => s.size - (intOf i).toNat)
  case atStart => exact ⟨0, by omega, rfl, rfl⟩
  case round =>
   obtain ⟨k, hk, rfl, rfl⟩ := hrel
   by_cases hlt : k < s.size
   ·have hd := allD_at s H3.out k hlt
    have hv := valL_small (s.data.toList.take k) (allD_take _ _ H3.out) (by simp; omega)
    have hsn := Lib.hid (by rw [take_snoc s k hlt, valL_snoc] : valL (s.data.toList.take (k + 1)) = valL (s.data.toList.take k) * 10 + ((s[k].toNat : Int) - 48))
    go_wp2_with fail
    go_round
    case rel => exact ⟨k + 1, by omega, by go_num, by rw [hsn.out]⟩
    case measure => simp [intOf]; omega
   ·obtain rfl : k = s.size := by omega
    have htk := Lib.hid (by rw [List.take_of_length_le (by rw [HL.out]; exact Nat.le_refl _)] : valL (s.data.toList.take s.size) = valL s.data.toList)
    by_cases hbig : 2147483647 < valL (s.data.toList.take s.size)
    ·have Hb := Lib.hid (num_big s.data.toList (by rw [HL.out]; omega) (by rw [HL.out]; omega) H3.out (by rw [← htk.out]; exact hbig))
     go_wp2_with fail
     go_ret2
     exact ⟨ret_ii Hb.out.1.symm Hb.out.2.symm, rfl⟩
    ·have Hb := Lib.hid (num_ok s.data.toList (by rw [HL.out]; omega) (by rw [HL.out]; omega) H3.out (by rw [← htk.out]; omega))
     go_wp2_with fail
     go_ret2
     exact ⟨ret_ii (by rw [Hb.out.1, htk.out]) Hb.out.2.symm, rfl⟩
end Lx
end Go.Proofs.YtbcaindpbeaheaaGreatDoor
