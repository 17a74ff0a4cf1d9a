/- Texts of one set of library modules: LxQ. -/
import Derived.Test.YtbcaindpbeaheaaGreatDoorZ1
import Derived.Test.YtbcaindpbeaheaaGreatDoorZ5
import Derived.Test.YtbcaindpbeaheaaGreatDoorZ6
import Derived.Lib.Strings
import Derived.WalkMore
import Derived.Outline
namespace Go.Proofs.YtbcaindpbeaheaaGreatDoor
namespace Lx
open Go.RowKit
theorem opE_out (mark : Int) (l : List UInt8) (a : Int) (h : a < 0 ∨ (l.length : Int) < a) : opN l a = 0 ∧ opE mark l a = 2 := by unfold opN opE; rw [if_pos h, if_pos h]; exact ⟨rfl, rfl⟩
theorem opN_in (l : List UInt8) (k : Nat) (h : k ≤ l.length) : opN l k = k := by unfold opN; rw [if_neg (by omega)]
theorem opE_end (mark : Int) (l : List UInt8) (k : Nat) (h : k = l.length) : opE mark l k = 5 := by
 unfold opE; rw [if_neg (by omega)]
 have : l.drop (k : Int).toNat = [] := List.drop_eq_nil_of_le (by simp; omega)
 rw [this]
theorem opE_at (mark : Int) (s : ByteArray) (k : Nat) (h : k < s.size) : opE mark s.data.toList k = if (s[k].toNat : Int) = mark then 0 else 5 := by
 unfold opE; rw [if_neg (by rw [len_list]; omega), Int.toNat_natCast, drop_step s k h]
set_option maxRecDepth 100000 in
set_option maxHeartbeats 400000 in
theorem opens_any (s : ByteArray) (a mark : Int) (w : World) (_hs : s.size ≤ maxLen) :
   Calls Tryz.prog 155 #[.string s, .int .i64 a, .int .u8 mark] w (Ret (.tuple #[.int .i64 (opN s.data.toList a), .int .u8 (opE mark s.data.toList a)]) w) := by
 unfold maxLen at _hs
 by_cases h1 : a < 0
 ·have H := Lib.hid (opE_out mark s.data.toList a (.inl h1))
  go_enter Tryz.func155, Tryz.ntmps155
  go_wp2_with fail
  go_ret2
  exact ⟨ret_ii H.out.1.symm H.out.2.symm, rfl⟩
 by_cases h2 : (s.size : Int) < a
 ·have H := Lib.hid (opE_out mark s.data.toList a (.inr (by rw [len_list]; exact h2)))
  go_enter Tryz.func155, Tryz.ntmps155
  go_wp2_with fail
  go_ret2
  exact ⟨ret_ii H.out.1.symm H.out.2.symm, rfl⟩
 obtain ⟨k, rfl⟩ := Int.eq_ofNat_of_zero_le (by omega : 0 ≤ a)
 have H1 := Lib.hid (opN_in s.data.toList k (by rw [len_list]; omega))
 rcases Nat.lt_or_ge k s.size with h3 | h3
 ·have h4 : ((k : Int) == (s.size : Int)) = false := by rw [beq_eq_false_iff_ne]; omega
  have HE := Lib.hid (opE_at mark s k h3)
  by_cases h5 : (s[k].toNat : Int) = mark
  ·have h6 : ((s[k].toNat : Int) != mark) = false := by simp [h5]
   have H5 := Lib.hid h5;clear h5
   go_enter Tryz.func155, Tryz.ntmps155
   go_wp2_with fail
   go_ret2
   exact ⟨ret_ii H1.out.symm (by rw [HE.out, if_pos H5.out]), rfl⟩
  ·have h6 : ((s[k].toNat : Int) != mark) = true := by simp [h5]
   have H5 := Lib.hid h5;clear h5
   go_enter Tryz.func155, Tryz.ntmps155
   go_wp2_with fail
   go_ret2
   exact ⟨ret_ii H1.out.symm (by rw [HE.out, if_neg H5.out]), rfl⟩
 ·have h4 : ((k : Int) == (s.size : Int)) = true := by rw [beq_iff_eq]; omega
  have HE := Lib.hid (opE_end mark s.data.toList k (by rw [len_list]; omega))
  go_enter Tryz.func155, Tryz.ntmps155
  go_wp2_with fail
  go_ret2
  exact ⟨ret_ii H1.out.symm HE.out.symm, rfl⟩
set_option maxRecDepth 100000 in
set_option maxHeartbeats 400000 in
theorem step_any (s : ByteArray) (k : Nat) (w : World) (hs : s.size ≤ 70368744177664) (hk : k < s.size) :
   Calls Tryz.prog 156 #[.string s, .int .i64 k] w (Ret (.tuple #[.int .i64 ((stepS (s.data.toList.drop k) k).1 : Nat), .int .u8 (stepS (s.data.toList.drop k) k).2]) w) := by
 have hd := drop_step s k hk
 cases hc : ctlI s[k].toNat
 ·by_cases h9 : s[k].toNat = 92
  ·have h9b : ((s[k].toNat : Int) != 92) = false := by simp; omega
   rcases Nat.lt_or_ge (k + 1) s.size with h3 | h3
   ·have hd2 := drop_step s (k + 1) h3
    have h4 : (((k : Int) + 1) == (s.size : Int)) = false := by rw [beq_eq_false_iff_ne]; omega
    cases he : escI s[k + 1].toNat
    ·have HR := Lib.hid (by rw [hd, hd2]; exact stepS_bad _ _ _ k hc h9 he : stepS (s.data.toList.drop k) k = (k, 5))
     have Hc := Lib.hid hc;have He := Lib.hid he;clear hd hd2 hc he h9
     go_enter Tryz.func156, Tryz.ntmps156
     go_wp2_with fail
     refine (ctl_any _ _).mono ?_
     rintro e w' ⟨rfl, rfl⟩
     rw [Hc.out]
     go_wp2_with fail
     refine (esc_any _ _).mono ?_
     rintro e w' ⟨rfl, rfl⟩
     rw [He.out]
     go_wp2_with fail
     go_ret2
     exact ⟨ret_ii (by rw [HR.out]) (by rw [HR.out]), rfl⟩
    ·have HR := Lib.hid (by rw [hd, hd2]; exact stepS_two _ _ _ k hc h9 he : stepS (s.data.toList.drop k) k = (k + 2, 0))
     have Hc := Lib.hid hc;have He := Lib.hid he;clear hd hd2 hc he h9
     go_enter Tryz.func156, Tryz.ntmps156
     go_wp2_with fail
     refine (ctl_any _ _).mono ?_
     rintro e w' ⟨rfl, rfl⟩
     rw [Hc.out]
     go_wp2_with fail
     refine (esc_any _ _).mono ?_
     rintro e w' ⟨rfl, rfl⟩
     rw [He.out]
     go_wp2_with fail
     go_ret2
     exact ⟨ret_ii (by rw [HR.out]; simp) (by rw [HR.out]), rfl⟩
   ·have hd2 := drop_end s (k + 1) h3
    have h4 : (((k : Int) + 1) == (s.size : Int)) = true := by rw [beq_iff_eq]; omega
    have HR := Lib.hid (by rw [hd, hd2]; exact stepS_end _ k hc h9 : stepS (s.data.toList.drop k) k = (k + 1, 6))
    have Hc := Lib.hid hc;clear hd hd2 hc h9
    go_enter Tryz.func156, Tryz.ntmps156
    go_wp2_with fail
    refine (ctl_any _ _).mono ?_
    rintro e w' ⟨rfl, rfl⟩
    rw [Hc.out]
    go_wp2_with fail
    go_ret2
    exact ⟨ret_ii (by rw [HR.out]; simp; omega) (by rw [HR.out]), rfl⟩
  ·have h9b : ((s[k].toNat : Int) != 92) = true := by simp; omega
   have HR := Lib.hid (by rw [hd]; exact stepS_one _ _ k hc h9 : stepS (s.data.toList.drop k) k = (k + 1, 0))
   have Hc := Lib.hid hc;clear hd hc h9
   go_enter Tryz.func156, Tryz.ntmps156
   go_wp2_with fail
   refine (ctl_any _ _).mono ?_
   rintro e w' ⟨rfl, rfl⟩
   rw [Hc.out]
   go_wp2_with fail
   go_ret2
   exact ⟨ret_ii (by rw [HR.out]; simp) (by rw [HR.out]), rfl⟩
 ·have HR := Lib.hid (by rw [hd]; exact stepS_ctl _ _ k hc : stepS (s.data.toList.drop k) k = (k, 5))
  have Hc := Lib.hid hc;clear hd hc
  go_enter Tryz.func156, Tryz.ntmps156
  go_wp2_with fail
  refine (ctl_any _ _).mono ?_
  rintro e w' ⟨rfl, rfl⟩
  rw [Hc.out]
  go_wp2_with fail
  go_ret2
  exact ⟨ret_ii (by rw [HR.out]) (by rw [HR.out]), rfl⟩
theorem opE_ok (mark : Int) (s : ByteArray) (a : Int) (h : opE mark s.data.toList a = 0) : ∃ k : Nat, a = k ∧ k < s.size := by
 by_cases h1 : a < 0 ∨ (s.data.toList.length : Int) < a
 ·rw [(opE_out mark _ a h1).2] at h; omega
 ·obtain ⟨k, rfl⟩ := Int.eq_ofNat_of_zero_le (by omega : 0 ≤ a)
  refine ⟨k, rfl, ?_⟩
  rcases Nat.lt_or_ge k s.size with h3 | h3
  ·exact h3
  ·rw [len_list] at h1
   rw [opE_end mark _ k (by rw [len_list]; omega)] at h; omega
set_option maxRecDepth 100000 in
set_option maxHeartbeats 400000 in
theorem quotedEnd_any (s : ByteArray) (a : Int) (w : World) (hs : s.size ≤ 70368744177664) :
   Calls Tryz.prog 102 #[.string s, .int .i64 a] w (Ret (.tuple #[.int .i64 (uqN s.data.toList a), .int .u8 (uqE s.data.toList a)]) w) := by
 by_cases h0 : opE 34 s.data.toList a = 0
 ·obtain ⟨k, rfl, hk⟩ := opE_ok 34 s a h0
  have HN := Lib.hid (by unfold uqN; rw [if_neg (by simp [h0])]; rfl : uqN s.data.toList k = (qEnd (s.data.toList.drop (k + 1)) (k + 1)).1)
  have HE := Lib.hid (by unfold uqE; rw [if_neg (by simp [h0])]; rfl : uqE s.data.toList k = (qEnd (s.data.toList.drop (k + 1)) (k + 1)).2)
  have H0 := Lib.hid h0;clear h0
  go_enter Tryz.func102, Tryz.ntmps102
  go_wp2_with fail
  go_step3
  go_wp2_with fail
  refine (opens_any s _ 34 w (by unfold maxLen; omega)).mono ?_
  rintro e w' ⟨rfl, rfl⟩
  rw [H0.out]
  go_wp2_with fail
  go_step3
  go_wp2_with fail
  go_loop [1] (fun i => ∃ j : Nat, j ≤ s.size ∧ i = .int .i64 j ∧ qEnd (s.data.toList.drop j) j = qEnd (s.data.toList.drop (k + 1)) (k + 1)) (fun i => s.size - (intOf i).toNat)
  case atStart => exact ⟨k + 1, by omega, by go_num, rfl⟩
  case round =>
   obtain ⟨j, hj, rfl, hq⟩ := hrel
   have Hq := Lib.hid hq;clear hq
   by_cases hlt : j < s.size
   ·have Hd := Lib.hid (drop_step s j hlt)
    by_cases h34 : s[j].toNat = 34
    ·have h34b : ((s[j].toNat : Int) == 34) = true := by simp; omega
     have HQ := Lib.hid (by rw [← Hq.out, Hd.out]; exact qEnd_quote _ _ j h34 : qEnd (s.data.toList.drop (k + 1)) (k + 1) = (j + 1, 0))
     have hb : ((j : Int) == (s.size : Int)) = false := by rw [beq_eq_false_iff_ne]; omega
     clear h34
     go_wp2_with fail
     go_ret2
     exact ⟨ret_ii (by rw [HN.out, HQ.out]; simp) (by rw [HE.out, HQ.out]), rfl⟩
    ·have h34b : ((s[j].toNat : Int) == 34) = false := by simp; omega
     have H34 := Lib.hid h34;clear h34
     by_cases hs0 : (stepS (s.data.toList.drop j) j).2 = 0
     ·have hok := stepS_ok _ _ hs0
      have HQ := Lib.hid (by rw [← Hq.out, Hd.out, qEnd_step _ _ j H34.out (by rw [← Hd.out]; exact hs0), ← Hd.out, List.drop_drop] : qEnd (s.data.toList.drop (k + 1)) (k + 1) = qEnd (s.data.toList.drop (j + ((stepS (s.data.toList.drop j) j).1 - j))) (stepS (s.data.toList.drop j) j).1)
      rw [List.length_drop, len_list] at hok
      obtain ⟨j2, hj2⟩ : ∃ j2, (stepS (s.data.toList.drop j) j).1 = j2 := ⟨_, rfl⟩
      rw [hj2] at hok
      have Hj2 := Lib.hid hj2;have Hs0 := Lib.hid hs0;clear hj2 hs0
      go_wp2_with fail
      refine (step_any s j w hs hlt).mono ?_
      rintro e w' ⟨rfl, rfl⟩
      rw [Hj2.out, Hs0.out]
      go_wp2_with fail
      go_round
      case rel => exact ⟨j2, by omega, by go_num, by rw [HQ.out, Hj2.out]; congr 2; omega⟩
      case measure => simp [intOf]; omega
     ·have HQ := Lib.hid (by rw [← Hq.out, Hd.out, qEnd_err _ _ j H34.out (by rw [← Hd.out]; exact hs0), ← Hd.out] : qEnd (s.data.toList.drop (k + 1)) (k + 1) = stepS (s.data.toList.drop j) j)
      obtain ⟨x, hx⟩ : ∃ x, (stepS (s.data.toList.drop j) j).2 = x := ⟨_, rfl⟩
      have hx5 := stepS_e (s.data.toList.drop j) j
      rw [hx] at hx5 hs0
      have hxb : (x != 0) = true := by simpa using hs0
      have Hx := Lib.hid hx;have Hx5 := Lib.hid hx5;clear hx hx5 hs0
      go_wp2_with fail
      refine (step_any s j w hs hlt).mono ?_
      rintro e w' ⟨rfl, rfl⟩
      rw [Hx.out]
      go_wp2_with fail
      rw [Exit.noGoto_ret]
      go_ret2
      exact ⟨ret_ii (by rw [HN.out, HQ.out]) (by rw [HE.out, HQ.out, Hx.out]), rfl⟩
   ·have h6 := Lib.hid (by rw [← Hq.out, drop_end s j (by omega), qEnd_nil] : qEnd (s.data.toList.drop (k + 1)) (k + 1) = (j, 6))
    have hb : ((j : Int) == (s.size : Int)) = true := by rw [beq_iff_eq]; omega
    go_wp2_with fail
    go_ret2
    exact ⟨ret_ii (by rw [HN.out, h6.out]) (by rw [HE.out, h6.out]), rfl⟩
 ·have HN := Lib.hid (by unfold uqN; rw [if_pos h0] : uqN s.data.toList a = opN s.data.toList a)
  have HE := Lib.hid (by unfold uqE; rw [if_pos h0] : uqE s.data.toList a = opE 34 s.data.toList a)
  obtain ⟨x, hx⟩ : ∃ x, opE 34 s.data.toList a = x := ⟨_, rfl⟩
  rw [hx] at h0
  have hxb : (x != 0) = true := by simpa using h0
  have Hx := Lib.hid hx;clear h0 hx
  go_enter Tryz.func102, Tryz.ntmps102
  go_wp2_with fail
  go_step3
  go_wp2_with fail
  refine (opens_any s _ 34 w (by unfold maxLen; omega)).mono ?_
  rintro e w' ⟨rfl, rfl⟩
  rw [Hx.out]
  go_wp2_with fail
  rw [Exit.noGoto_ret]
  go_ret2
  exact ⟨ret_ii HN.out.symm (by rw [HE.out, Hx.out]), rfl⟩
theorem bd_byteCells (l : List UInt8) (c : UInt8) : Lib.byteCells l ++ [.int .u8 (c.toNat : Int)] = Lib.byteCells (l ++ [c]) := by simp [Lib.byteCells]
theorem fresh_isB (w : World) : IsB w.heap.size w.heap.size (Lib.byteCells []) (w.alloc (.cells #[.pointer none, .slice none 0 0] 74)) := Lib.fresh_isBuilder _ _ w
def RetNew (t : List UInt8) (w : World) (e : Ending) (w' : World) : Prop := e = .returned (.string ⟨t.toArray⟩) ∧ Below w.heap.size w w'
set_option maxRecDepth 100000 in
set_option maxHeartbeats 400000 in
theorem unescape_any (s : ByteArray) (w : World) (hs : s.size ≤ 70368744177664) (hok : escOK s.data.toList = true) :
   Calls Tryz.prog 208 #[.string s] w (RetNew (unesc s.data.toList) w) := by
 have Hok := Lib.hid hok;clear hok
 go_enter Tryz.func208, Tryz.ntmps208
 go_wp2_with fail
 go_loopw [4] (fun i wr => ∃ (j : Nat) (acc : List UInt8), j ≤ s.size ∧ acc.length ≤ j ∧ i = .int .i64 j ∧ acc ++ unesc (s.data.toList.drop j) = unesc s.data.toList ∧ escOK (s.data.toList.drop j) = true ∧ IsB w.heap.size w.heap.size (Lib.byteCells acc) wr ∧ Below w.heap.size w wr) (fun i _ => s.size - (intOf i).toNat)
 case atStart => exact ⟨0, [], by omega, by simp, rfl, rfl, Hok.out, fresh_isB w, (Below.refl _ w).alloc (Nat.le_refl _) _⟩
 case round =>
  obtain ⟨j, acc, hj, ha, rfl, hu, he, hb, hB⟩ := hrel
  have Hu := Lib.hid hu;have He := Lib.hid he;have Hb := Lib.hid hb;have hsz := hB.size;clear hu he hb
  by_cases hlt : j < s.size
  ·have Hd := Lib.hid (drop_step s j hlt)
   by_cases h92 : s[j].toNat = 92
   ·have h9b : ((s[j].toNat : Int) == 92) = true := by simp; omega
    have h3 : j + 1 < s.size := by
     rcases Nat.lt_or_ge (j + 1) s.size with h | h
     ·exact h
     ·have := He.out
      rw [Hd.out, drop_end s (j + 1) h, escOK_end _ h92] at this
      cases this
    have Hd2 := Lib.hid (drop_step s (j + 1) h3)
    have HU := Lib.hid (by rw [Hd.out, Hd2.out, unesc_two _ _ _ h92] : unesc (s.data.toList.drop j) = s[j + 1] :: unesc (s.data.toList.drop (j + 1 + 1)))
    have HE := Lib.hid (by rw [Hd.out, Hd2.out, escOK_two _ _ _ h92] : escOK (s.data.toList.drop j) = escOK (s.data.toList.drop (j + 1 + 1)))
    clear h92
    go_wp2_with fail
    refine (writeByte_any w.heap.size w.heap.size _ _ _ Hb.out (by rw [Lib.byteCells_length]; omega) (by omega)).mono ?_
    rintro e w1 ⟨rfl, hb1, hk1⟩
    have Hb1 := Lib.hid (isB_of hb1 rfl);clear hb1
    go_wp2_with fail
    go_roundw
    case rel => exact ⟨j + 1 + 1, acc ++ [s[j + 1]], by omega, by simp; omega, by go_num, by rw [← Hu.out, HU.out]; simp, by rw [← HE.out, He.out], by rw [← bd_byteCells]; exact Hb1.out, hB.trans hk1.below⟩
    case measure => simp [intOf]; omega
   ·have h9b : ((s[j].toNat : Int) == 92) = false := by simp; omega
    have HU := Lib.hid (by rw [Hd.out, unesc_one _ _ h92] : unesc (s.data.toList.drop j) = s[j] :: unesc (s.data.toList.drop (j + 1)))
    have HE := Lib.hid (by rw [Hd.out, escOK_one _ _ h92] : escOK (s.data.toList.drop j) = escOK (s.data.toList.drop (j + 1)))
    clear h92
    go_wp2_with fail
    refine (writeByte_any w.heap.size w.heap.size _ _ _ Hb.out (by rw [Lib.byteCells_length]; omega) (by omega)).mono ?_
    rintro e w1 ⟨rfl, hb1, hk1⟩
    have Hb1 := Lib.hid (isB_of hb1 rfl);clear hb1
    go_wp2_with fail
    go_roundw
    case rel => exact ⟨j + 1, acc ++ [s[j]], by omega, by simp; omega, by go_num, by rw [← Hu.out, HU.out]; simp, by rw [← HE.out, He.out], by rw [← bd_byteCells]; exact Hb1.out, hB.trans hk1.below⟩
    case measure => simp [intOf]; omega
  ·have Hacc := Lib.hid (by rw [← Hu.out, drop_end s j (by omega)]; simp [unesc] : unesc s.data.toList = acc)
   go_wp2_with fail
   refine (string_any w.heap.size w.heap.size acc _ Hb.out (by omega)).mono ?_
   rintro e w1 ⟨rfl, hk1, _⟩
   go_wp2_with fail
   go_ret
   exact ⟨by rw [Hacc.out]; rfl, hB.trans hk1.below⟩
def Ret3 (t : List UInt8) (n e' : Int) (w : World) (e : Ending) (w' : World) : Prop := e = .returned (.tuple #[.string ⟨t.toArray⟩, .int .i64 n, .int .u8 e']) ∧ Below w.heap.size w w'
theorem ret_3 {t u : ByteArray} {n m a b : Int} (h1 : t = u) (h2 : n = m) (h3 : a = b) : Ending.returned (.tuple #[.string t, .int .i64 n, .int .u8 a]) = .returned (.tuple #[.string u, .int .i64 m, .int .u8 b]) := by rw [h1, h2, h3]
set_option maxRecDepth 100000 in
set_option maxHeartbeats 400000 in
theorem unquote_any (s : ByteArray) (a : Int) (w : World) (hs : s.size ≤ 70368744177664) :
   Calls Tryz.prog 166 #[.string s, .int .i64 a] w (Ret3 (uqT s.data.toList a) (uqN s.data.toList a) (uqE s.data.toList a) w) := by
 by_cases h0 : uqE s.data.toList a = 0
 ·have hop : opE 34 s.data.toList a = 0 := by
    by_cases h : opE 34 s.data.toList a = 0
    ·exact h
    ·unfold uqE at h0; rw [if_pos h] at h0; exact absurd h0 h
  obtain ⟨k, rfl, hk⟩ := opE_ok 34 s a hop
  have hr : (uqR s.data.toList k).2 = 0 := by unfold uqE at h0; rw [if_neg (by simp [hop])] at h0; exact h0
  have hN : uqN s.data.toList k = (uqR s.data.toList k).1 := by unfold uqN; rw [if_neg (by simp [hop])]
  have hT : uqT s.data.toList k = qText (s.data.toList.drop (k + 1)) := by unfold uqT; rw [if_neg (by simp [hop, hr])]; simp
  obtain ⟨tq, hto⟩ : ∃ tq, (uqR s.data.toList k).1 = tq := ⟨_, rfl⟩
  have hqe : qEnd (s.data.toList.drop (k + 1)) (k + 1) = (tq, 0) := Prod.ext hto hr
  obtain ⟨b1, b2, b3, b4⟩ := qEnd_part _ _ _ _ (Nat.le_refl _) hqe
  rw [List.length_drop, len_list] at b2
  rw [hto] at hN
  have hpart : (s.extract (k + 1) (tq - 1)).data.toList = (s.data.toList.drop (k + 1)).take (tq - 1 - (k + 1)) := Lib.extract_data _ _ _
  have Hok := Lib.hid (by rw [hpart]; exact b3 : escOK (s.extract (k + 1) (tq - 1)).data.toList = true)
  have Hun := Lib.hid (b4.trans hT.symm);have H0 := Lib.hid h0;have HN := Lib.hid hN;clear hop hr hN hT hto hqe b3 b4 hpart h0
  go_enter Tryz.func166, Tryz.ntmps166
  go_wp2_with fail
  refine (quotedEnd_any s _ w hs).mono ?_
  rintro e w' ⟨rfl, rfl⟩
  rw [H0.out, HN.out]
  go_wp2_with fail
  refine (unescape_any _ _ (by simp; omega) Hok.out).mono ?_
  rintro e w1 ⟨rfl, hB⟩
  go_wp2_with fail
  go_ret3
  exact ⟨ret_3 (by rw [← Hun.out]) HN.out.symm H0.out.symm, hB⟩
 ·have hT : uqT s.data.toList a = [] := by
    unfold uqT
    rw [if_pos]
    unfold uqE at h0
    by_cases h : opE 34 s.data.toList a = 0
    ·rw [if_neg (by simp [h])] at h0; exact .inr h0
    ·exact .inl h
  obtain ⟨x, hx⟩ : ∃ x, uqE s.data.toList a = x := ⟨_, rfl⟩
  rw [hx] at h0
  have hxb : (x != 0) = true := by simpa using h0
  have Hx := Lib.hid hx;have HT := Lib.hid hT;clear h0 hx hT
  go_enter Tryz.func166, Tryz.ntmps166
  go_wp2_with fail
  refine (quotedEnd_any s _ w hs).mono ?_
  rintro e w' ⟨rfl, rfl⟩
  rw [Hx.out]
  go_wp2_with fail
  go_ret3
  exact ⟨ret_3 (by rw [HT.out]) rfl Hx.out.symm, Below.refl _ _⟩
def anyC (p : Int → Bool) (l : List UInt8) : Bool := l.any fun c => p c.toNat
set_option maxRecDepth 100000 in
set_option maxHeartbeats 400000 in
theorem contains_any (f : Nat) (p : Int → Bool) (hf : ClassFn f p) (s : ByteArray) (w : World) (hs : s.size ≤ 70368744177664) :
   Calls Tryz.prog 87 #[.string s, .func (.func f) #[] #[]] w (Ret (.bool (anyC p s.data.toList)) w) := by
 go_enter Tryz.func87, Tryz.ntmps87
 go_wp2_with fail
 go_loop [5, 8] (fun _ i => ∃ k : Nat, k ≤ s.size ∧ i = .int .i64 k ∧ anyC p (s.data.toList.drop k) = anyC p s.data.toList) (fun _ i => s.size - (intOf i).toNat)
 case atStart => exact ⟨0, by omega, rfl, rfl⟩
 case round =>
  obtain ⟨k, hk, rfl, he⟩ := hrel
  have He := Lib.hid he;clear he
  by_cases hlt : k < s.size
  ·have Hd := Lib.hid (drop_step s k hlt)
   cases hb : p s[k].toNat
   ·have Hb := Lib.hid hb
    clear hb
    go_wp2_with fail
    rw [hf.ent, Oper.upon_enter]
    refine (hf.calls _ _ (byte_lo _) (byte_hi _)).mono ?_
    rintro e w' ⟨rfl, rfl⟩
    rw [Hb.out]
    go_wp2_with fail
    go_round
    case rel => exact ⟨k + 1, by omega, by go_num, by rw [← He.out, Hd.out]; simp [anyC, Hb.out]⟩
    case measure => simp [intOf]; omega
   ·have Hb := Lib.hid hb
    clear hb
    go_wp2_with fail
    rw [hf.ent, Oper.upon_enter]
    refine (hf.calls _ _ (byte_lo _) (byte_hi _)).mono ?_
    rintro e w' ⟨rfl, rfl⟩
    rw [Hb.out]
    go_wp2_with fail
    go_ret
    exact ⟨ret_bool (by rw [← He.out, Hd.out]; simp [anyC, Hb.out]), rfl⟩
  ·have HF := Lib.hid (by rw [← He.out, drop_end s k (by omega)]; rfl : anyC p s.data.toList = false)
   go_wp2_with fail
   go_ret
   exact ⟨ret_bool (by rw [HF.out]), rfl⟩
def Ret2 (t : List UInt8) (e' : Int) (w : World) (e : Ending) (w' : World) : Prop := e = .returned (.tuple #[.string ⟨t.toArray⟩, .int .u8 e']) ∧ Below w.heap.size w w'
theorem escL_snoc (l : List UInt8) (c : UInt8) : escL (l ++ [c]) = escL l ++ (if c.toNat = 34 ∨ c.toNat = 92 then [92, c] else [c]) := by simp [escL]
theorem escL_len (l : List UInt8) : (escL l).length ≤ 2 * l.length := by
 induction l with
 | nil => simp [escL]
 | cons c t ih =>
   have : escL (c :: t) = (if c.toNat = 34 ∨ c.toNat = 92 then [92, c] else [c]) ++ escL t := by simp [escL]
   rw [this]
   simp only [List.length_append, List.length_cons]
   split <;> simp <;> omega
set_option maxRecDepth 100000 in
set_option maxHeartbeats 1000000 in
theorem quote_any (s : ByteArray) (w : World) (hs : s.size ≤ 35184372088832) :
   Calls Tryz.prog 49 #[.string s] w (Ret2 (quT s.data.toList) (quE s.data.toList) w) := by
 cases hc : anyC ctlI s.data.toList
 ·have HT := Lib.hid (by unfold quT; rw [if_neg (by rw [show hasCtl s.data.toList = anyC ctlI s.data.toList from rfl, hc]; simp)] : quT s.data.toList = [34] ++ escL s.data.toList ++ [34])
  have HE := Lib.hid (by unfold quE; rw [if_neg (by rw [show hasCtl s.data.toList = anyC ctlI s.data.toList from rfl, hc]; simp)] : quE s.data.toList = 0)
  have Hc := Lib.hid hc;clear hc
  go_enter Tryz.func49, Tryz.ntmps49
  go_wp2_with fail
  refine (contains_any _ _ ctlFn s w (by omega)).mono ?_
  rintro e w' ⟨rfl, rfl⟩
  rw [Hc.out]
  go_wp2_with fail
  refine (writeByte_any w.heap.size w.heap.size _ 34 _ (fresh_isB w) (by simp [Lib.byteCells]) (by simp)).mono ?_
  rintro e w1 ⟨rfl, hb1, hk1⟩
  have Hb1 := Lib.hid (isB_of hb1 rfl)
  have hB1 := ((Below.refl _ w).alloc (Nat.le_refl _) (.cells #[.pointer none, .slice none 0 0] 74)).trans hk1.below
  clear hb1 hk1
  go_wp2_with fail
  go_loopw [5, 11] (fun _ i wr => ∃ j : Nat, j ≤ s.size ∧ i = .int .i64 j ∧ IsB w.heap.size w.heap.size (Lib.byteCells ([34] ++ escL (s.data.toList.take j))) wr ∧ Below w.heap.size w wr) (fun _ i _ => s.size - (intOf i).toNat)
  case atStart => exact ⟨0, by omega, rfl, Hb1.out, hB1⟩
  case round =>
   obtain ⟨j, hj, rfl, hb, hB⟩ := hrel
   have hsz := hB.size;have hel := escL_len (s.data.toList.take j)
   rw [List.length_take, len_list] at hel
   have hlen : (Lib.byteCells ([34] ++ escL (s.data.toList.take j))).length ≤ 2 * s.size + 1 := by
    rw [Lib.byteCells_length, List.length_append, List.length_singleton]; omega
   have Hb := Lib.hid hb;clear hb hel
   by_cases hlt : j < s.size
   ·have HS := Lib.hid (by rw [take_snoc s j hlt, escL_snoc] : escL (s.data.toList.take (j + 1)) = escL (s.data.toList.take j) ++ (if s[j].toNat = 34 ∨ s[j].toNat = 92 then [92, s[j]] else [s[j]]))
    by_cases hq : s[j].toNat = 34 ∨ s[j].toNat = 92
    ·have Hq := Lib.hid hq
     have hfin : ∀ (w5 : World) (x : Int), x = (s[j].toNat : Int) → IsB w.heap.size w.heap.size (Lib.byteCells ([34] ++ escL (s.data.toList.take j)) ++ [.int .u8 92] ++ [.int .u8 x]) w5 → IsB w.heap.size w.heap.size (Lib.byteCells ([34] ++ escL (s.data.toList.take (j + 1)))) w5 := by
      intro w5 x hx h5
      subst hx
      rw [HS.out, if_pos Hq.out]
      simpa [Lib.byteCells] using h5
     have Hfin := Lib.hid hfin;clear hfin
     rcases hq with hq | hq
     ·have q1 : ((s[j].toNat : Int) == 34) = true := by simp; omega
      clear hq
      go_wp2_with fail
      refine (writeByte_any w.heap.size w.heap.size _ 92 _ Hb.out (by omega) (by omega)).mono ?_
      rintro e w3 ⟨rfl, hb3, hk3⟩
      have hs3 := hk3.below.size;have Hb3 := Lib.hid (isB_of hb3 rfl);clear hb3
      go_wp2_with fail
      refine (writeByte_any w.heap.size w.heap.size _ _ _ Hb3.out (by rw [List.length_append, List.length_singleton]; omega) (by omega)).mono ?_
      rintro e w4 ⟨rfl, hb4, hk4⟩
      have Hb4 := Lib.hid (isB_of hb4 rfl);clear hb4
      go_wp2_with fail
      go_roundw
      case rel => exact ⟨j + 1, by omega, by go_num, Hfin.out _ _ rfl Hb4.out, (hB.trans hk3.below).trans hk4.below⟩
      case measure => simp [intOf]; omega
     ·have q1 : ((s[j].toNat : Int) == 34) = false := by simp; omega
      have q2 : ((s[j].toNat : Int) == 92) = true := by simp; omega
      clear hq
      go_wp2_with fail
      refine (writeByte_any w.heap.size w.heap.size _ 92 _ Hb.out (by omega) (by omega)).mono ?_
      rintro e w3 ⟨rfl, hb3, hk3⟩
      have hs3 := hk3.below.size;have Hb3 := Lib.hid (isB_of hb3 rfl);clear hb3
      go_wp2_with fail
      refine (writeByte_any w.heap.size w.heap.size _ _ _ Hb3.out (by rw [List.length_append, List.length_singleton]; omega) (by omega)).mono ?_
      rintro e w4 ⟨rfl, hb4, hk4⟩
      have Hb4 := Lib.hid (isB_of hb4 rfl);clear hb4
      go_wp2_with fail
      go_roundw
      case rel => exact ⟨j + 1, by omega, by go_num, Hfin.out _ _ rfl Hb4.out, (hB.trans hk3.below).trans hk4.below⟩
      case measure => simp [intOf]; omega
    ·have hfin : ∀ (w5 : World), IsB w.heap.size w.heap.size (Lib.byteCells ([34] ++ escL (s.data.toList.take j)) ++ [.int .u8 (s[j].toNat : Int)]) w5 → IsB w.heap.size w.heap.size (Lib.byteCells ([34] ++ escL (s.data.toList.take (j + 1)))) w5 := by
       intro w5 h5
       rw [HS.out, if_neg hq]
       simpa [Lib.byteCells] using h5
     have Hfin := Lib.hid hfin
     have q1 : ((s[j].toNat : Int) == 34) = false := by simp; omega
     have q2 : ((s[j].toNat : Int) == 92) = false := by simp; omega
     clear hfin hq
     go_wp2_with fail
     refine (writeByte_any w.heap.size w.heap.size _ _ _ Hb.out (by omega) (by omega)).mono ?_
     rintro e w4 ⟨rfl, hb4, hk4⟩
     have Hb4 := Lib.hid (isB_of hb4 rfl);clear hb4
     go_wp2_with fail
     go_roundw
     case rel => exact ⟨j + 1, by omega, by go_num, Hfin.out _ Hb4.out, hB.trans hk4.below⟩
     case measure => simp [intOf]; omega
   ·have htk : s.data.toList.take j = s.data.toList := List.take_of_length_le (by rw [len_list]; omega)
    have Hb' := Lib.hid (by rw [← htk]; exact Hb.out : IsB w.heap.size w.heap.size (Lib.byteCells ([34] ++ escL s.data.toList)) wr)
    have hlen' : (Lib.byteCells ([34] ++ escL s.data.toList)).length ≤ 2 * s.size + 1 := by rw [← htk]; exact hlen
    clear htk hlen
    go_wp2_with fail
    refine (writeByte_any w.heap.size w.heap.size _ 34 _ Hb'.out (by omega) (by omega)).mono ?_
    rintro e w4 ⟨rfl, hb4, hk4⟩
    have hs4 := hk4.below.size
    have Hb4 := Lib.hid (by have := isB_of hb4 rfl; rw [show Lib.byteCells ([34] ++ escL s.data.toList) ++ [Value.int .u8 34] = Lib.byteCells ([34] ++ escL s.data.toList ++ [34]) from by simp [Lib.byteCells]] at this; exact this : IsB w.heap.size w.heap.size (Lib.byteCells ([34] ++ escL s.data.toList ++ [34])) w4)
    clear hb4
    go_wp2_with fail
    refine (string_any w.heap.size w.heap.size _ _ Hb4.out (by omega)).mono ?_
    rintro e w5 ⟨rfl, hk5, _⟩
    go_wp2_with fail
    go_ret2
    exact ⟨ret_si (by rw [HT.out]; rfl) HE.out.symm, (hB.trans hk4.below).trans hk5.below⟩
 ·have HT := Lib.hid (by unfold quT; rw [if_pos (show hasCtl s.data.toList = true from hc)] : quT s.data.toList = [])
  have HE := Lib.hid (by unfold quE; rw [if_pos (show hasCtl s.data.toList = true from hc)] : quE s.data.toList = 5)
  have Hc := Lib.hid hc;clear hc
  go_enter Tryz.func49, Tryz.ntmps49
  go_wp2_with fail
  refine (contains_any _ _ ctlFn s w (by omega)).mono ?_
  rintro e w' ⟨rfl, rfl⟩
  rw [Hc.out]
  go_wp2_with fail
  go_ret2
  exact ⟨ret_si (by rw [HT.out]) HE.out.symm, Below.refl _ _⟩
end Lx
end Go.Proofs.YtbcaindpbeaheaaGreatDoor
