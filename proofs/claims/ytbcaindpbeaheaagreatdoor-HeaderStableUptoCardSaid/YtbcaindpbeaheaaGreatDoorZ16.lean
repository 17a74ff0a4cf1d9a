/- Texts of one set of library modules: AdN, AdO, AdQ, AdR, AdS, AdU, AdV. -/
import Derived.Test.YtbcaindpbeaheaaGreatDoorZ15
import Derived.Test.YtbcaindpbeaheaaGreatDoorZ2
import Derived.Deep.RegionWith
import Derived.Sort.CutIn
import Derived.Deep.LoopGhost
import Derived.Test.YtbcaindpbeaheaaGreatDoorZ5
namespace Go.Proofs.YtbcaindpbeaheaaGreatDoor
namespace Ad
open Go.RowKit Lx
theorem wrdR_empty (k : Int) (l : List UInt8) (h : ¬ (wrdR k l).2 < l.length) (h2 : (wrdR k l).1 = []) : l = [] := by
 cases l with
 | nil => rfl
 | cons c t =>
   exfalso
   rw [wrdR.eq_def] at h h2
   dsimp only at h h2
   split at h
   ·rename_i h37
    rw [if_pos h37] at h2
    split at h
    ·rename_i hi; rw [if_pos hi] at h2; simp at h2
    ·simp at h
   ·rename_i h37
    rw [if_neg h37] at h2
    split at h
    ·rename_i a b r
     dsimp only at h2
     split at h
     ·rename_i hi; rw [if_pos hi] at h2; simp at h2
     ·simp at h
    ·simp at h
def PaQ (b : Nat) (s : ByteArray) (r : Prm × Nat × Int) (w : World) (e : Ending) (w' : World) : Prop :=
 ∃ q, e = .returned (.tuple #[encP q, .int .u8 r.2.2]) ∧ (r.2.2 = 0 → q = r.1) ∧ Cur b s r.2.1 w' ∧ Kp [b] w w'
theorem wrdR_len (k : Int) (n : Nat) : ∀ l : List UInt8, l.length ≤ n → (wrdR k l).1.length ≤ l.length := by
 induction n with
 | zero => intro l h; have : l = [] := List.eq_nil_of_length_eq_zero (by omega); subst this; exact Nat.le_refl _
 | succ n ih =>
   intro l h
   cases l with
   | nil => exact Nat.le_refl _
   | cons c t =>
     simp only [List.length_cons] at h ⊢
     rw [wrdR.eq_def]
     dsimp only
     split
     ·split
      ·have := ih t (by omega); simp only [List.length_cons]; omega
      ·simp
     ·split
      ·rename_i a b r
       split
       ·have := ih r (by simp only [List.length_cons] at h; omega)
        simp only [List.length_cons]; omega
       ·simp
      ·simp
def wdR (cls : Int) (l : List UInt8) (k t : Nat) : List UInt8 × Nat × Int :=
 if (wrdR cls (slc l k t)).2 < t - k then ([], k + (wrdR cls (slc l k t)).2, 5) else ((wrdR cls (slc l k t)).1, t, 0)
theorem wdR_len (cls : Int) (l : List UInt8) (k t : Nat) : (wdR cls l k t).1.length ≤ l.length := by
 unfold wdR
 split
 ·simp
 ·have := wrdR_len cls _ (slc l k t) (Nat.le_refl _)
  have h2 : (slc l k t).length ≤ l.length := by unfold slc; simp; omega
  dsimp only; omega
theorem word_k (cls : Int) (b k t : Nat) (s : ByteArray) (w : World) (hs : s.size ≤ 2097152) (hk : k ≤ t) (ht : t ≤ s.size) (C : Cur b s k w) (E : Env w) (c : List UInt8) (k2 : Nat) (x : Int) (h : Hid (wdR cls s.data.toList k t = (c, k2, x))) :
   Calls Tryz.prog 253 #[.pointer (some ⟨b, 0, none⟩), .int .i64 t, .int .i64 cls] w (CuW b s k2 c x w) := by
 have h := h.out
 unfold wdR at h
 split at h
 ·rename_i h1
  injection h with h2 h3
  injection h3 with h3 h4
  subst h2 h3 h4
  exact word_bad cls b k t s w hs hk ht C E h1
 ·rename_i h1
  injection h with h2 h3
  injection h3 with h3 h4
  subst h2 h3 h4
  exact word_ok cls b k t s w hs hk ht C E h1
theorem wdR_bd (cls : Int) (l : List UInt8) (k t : Nat) (hk : k ≤ t) : (wdR cls l k t).2.1 ≤ t := by
 unfold wdR
 split
 ·dsimp only; omega
 ·exact Nat.le_refl _
theorem wdR_ok (cls : Int) (l : List UInt8) (k t : Nat) (h : (wdR cls l k t).2.2 = 0) : (wdR cls l k t).2.1 = t := by
 unfold wdR at h ⊢
 split
 ·rename_i h1; rw [if_pos h1] at h; simp at h
 ·rfl
theorem prR_wd (cls : Int) (l : List UInt8) (k t m : Nat) (ht : t ≤ l.length) (hm : min (endP (· == 61) l k) t = m) (hkm : k ≤ m) (c : List UInt8) (k2 : Nat) (x : Int) (h : wdR cls l k m = (c, k2, x)) :
   prR cls l k t = if x ≠ 0 then (([], [], false), k2, x)
    else if c = [] then (([], [], false), k2, 5)
    else if m = t then (if cls = 2 then (([], [], false), t, 5) else ((lowL c, [], false), t, 0))
    else if (wdR cls l (m + 1) t).2.2 ≠ 0 then (([], [], false), (wdR cls l (m + 1) t).2)
    else if cls = 1 ∧ (wdR cls l (m + 1) t).1 = [] then (([], [], false), t, 5)
    else ((lowL c, (wdR cls l (m + 1) t).1, true), t, 0) := by
 have hmt : m ≤ t := by omega
 unfold prR
 rw [hm]
 unfold wdR at h
 split at h
 ·rename_i h1
  injection h with h2 h3
  injection h3 with h3 h4
  subst h2 h3 h4
  rw [if_pos h1, if_pos (by decide)]
 ·rename_i h1
  injection h with h2 h3
  injection h3 with h3 h4
  subst h2 h3 h4
  rw [if_neg h1, if_neg (show ¬ ((0 : Int) ≠ 0) by decide)]
  by_cases hc : (wrdR cls (slc l k m)).1 = []
  ·have hl := slc_len l k m (by omega)
   have he := wrdR_empty cls (slc l k m) (by rw [hl]; exact h1) hc
   rw [he] at hl
   have : k = m := by simp at hl; omega
   rw [if_pos hc, if_pos hc, this]
  ·rw [if_neg hc, if_neg hc]
   by_cases hmt' : m = t
   ·rw [if_pos hmt', if_pos hmt', hmt']
   ·rw [if_neg hmt', if_neg hmt']
    have hn : endP (· == 61) l k = m := by omega
    rw [hn]
    unfold wdR
    by_cases h5 : (wrdR cls (slc l (m + 1) t)).2 < t - (m + 1)
    ·rw [if_pos h5, if_pos h5, if_pos (show (5 : Int) ≠ 0 by decide)]
    ·rw [if_neg h5, if_neg h5, if_neg (show ¬ ((0 : Int) ≠ 0) by decide)]
set_option maxRecDepth 100000 in
set_option maxHeartbeats 2000000 in
theorem pair_k (cls : Int) (b k t : Nat) (s : ByteArray) (w : World) (hs : s.size ≤ 2097152) (hk : k ≤ t) (ht : t ≤ s.size) (C : Cur b s k w) (E : Env w) (hb7 : 7 ≤ b) :
   Calls Tryz.prog 258 #[.pointer (some ⟨b, 0, none⟩), .int .i64 t, .int .i64 cls] w (PaQ b s (prR cls s.data.toList k t) w) := by
 have hbw := C.lt
 have hbne : b ≠ w.heap.size := by omega
 have CA := Lib.hid (C.alloc (.cells #[.string ⟨#[]⟩, .string ⟨#[]⟩, .bool false] 109))
 have KA := Lib.hid ((Kp.refl [b] w).alloc (.cells #[.string ⟨#[]⟩, .string ⟨#[]⟩, .bool false] 109))
 have BA := Lib.hid (Blk.new w 109 #[.string ⟨#[]⟩, .string ⟨#[]⟩, .bool false])
 have EA := Lib.hid (E.kp KA.out (by simp; omega))
 obtain ⟨n, hn⟩ : ∃ n, endP (· == 61) s.data.toList k = n := ⟨_, rfl⟩
 have hnk : k ≤ n := by rw [← hn]; exact endP_ge _ _ _
 obtain ⟨m, hm⟩ : ∃ m, min n t = m := ⟨_, rfl⟩
 have hkm : k ≤ m := by omega
 have hmt : m ≤ t := by omega
 obtain ⟨c, k2, x, hx⟩ : ∃ c k2 x, wdR cls s.data.toList k m = (c, k2, x) := ⟨_, _, _, rfl⟩
 have hk2 : k2 ≤ m := by have := wdR_bd cls s.data.toList k m hkm; rw [hx] at this; exact this
 have HV := Lib.hid (prR_wd cls s.data.toList k t m (by rw [len_list]; exact ht) (by rw [hn, hm]) hkm c k2 x hx)
 have HX := Lib.hid hx;have HN := Lib.hid hn
 have HM := Lib.hid (by omega : min (n : Int) (t : Int) = (m : Int))
 have hnm : m ≠ t → m = n := by omega
 have HNM := Lib.hid hnm
 have hm9 : m ≤ n := by omega
 have c0 := CA.out.c0;have c1 := CA.out.c1;clear hm hn E C hx hnm
 go_enter Tryz.func258, Tryz.ntmps258
 go_upto_region 1 with fail
 go_cut [8, 9] from 11 to 28 (fun a e wx => a = .string (Txt c) ∧ e = .int .u8 x ∧ Cur b s k2 wx ∧ Kp [b] (w.alloc (.cells #[.string ⟨#[]⟩, .string ⟨#[]⟩, .bool false] 109)) wx)
 case first =>
  go_region_with (first
   | (go_at_call 126; refine (end_m (· == 61) s ⟨#[61]⟩ k _ hs (by omega) m61).mono ?_; rintro e w2 ⟨rfl, rfl⟩; rw [HN.out])
   | (go_at_call 253; rw [HM.out]; refine (word_k cls b k m s _ hs hkm (by omega) ?_ ?_ c k2 x HX).mono ?_; exact Cur.drewN CA.out 1; exact Env.drewN EA.out 1; rintro e w2 ⟨rfl, C2, hK2⟩))
  all_goals (go_wp2_with fail; go_meet; exact ⟨rfl, rfl, C2, ((Kp.refl [b] _).drewN 1).trans hK2⟩)
 case rest =>
  obtain ⟨rfl, rfl, hC, hK1⟩ := hcut
  have B1 := Lib.hid (BA.out.kp hK1 (by simp; omega))
  have d0 := B1.out.cell 0;have d1 := B1.out.cell 1;have d2 := B1.out.cell 2;have g0 := B1.out.frozen 0;have g1 := B1.out.frozen 1;have g2 := B1.out.frozen 2;have K1 := Lib.hid (KA.out.trans hK1);have HC := Lib.hid hC
  have E1 := Lib.hid (EA.out.kp hK1 (by simp; omega))
  have hsz := hK1.size
  have hsz1 : w.heap.size + 1 ≤ wc.heap.size := by simpa using hsz
  clear hC hK1 c0 c1 hsz
  by_cases hx0 : x = 0
  ·subst hx0
   have hkm2 : k2 = m := by have := wdR_ok cls s.data.toList k m (by rw [HX.out]); rw [HX.out] at this; exact this
   subst hkm2
   by_cases hc0 : c = []
   ·have HW := Lib.hid (HV.out.trans (by rw [if_neg (by decide), if_pos hc0]))
    have hemp : Txt c = ⟨#[]⟩ := by rw [hc0]; rfl
    rw [hemp]
    clear hc0 hemp
    go_wp2_with fail
    refine bodyPost_ret (results_two rfl _ _ w.heap.size 109 _ (0, 0) _ rfl (blk3 B1.out _ _ _) Tryz.underlying109 rfl infoPrm) rfl ?_
    rw [HW.out]
    exact ⟨([], [], false), rfl, fun _ => rfl, cur3 HC.out hbne _ _ _, kp3 K1.out (Nat.le_refl _) _ _ _⟩
   ·have hlen : c.length ≤ s.data.toList.length := by have := wdR_len cls s.data.toList k k2; rw [HX.out] at this; exact this
    rw [len_list] at hlen
    have hxl : 1 ≤ (Txt c).size := by rw [txt_size]; cases c with | nil => exact absurd rfl hc0 | cons a b => simp
    have hxs : (Txt c).size ≤ 2097152 := by rw [txt_size]; omega
    have he := isEmpty_no _ hxl;have hne := toList_ne _ hxl
    have HW := Lib.hid (HV.out.trans (by rw [if_neg (by decide), if_neg hc0]))
    clear hc0
    go_wp2_with fail
    refine (lower_any (Txt c) _ (by omega)).mono ?_
    rintro e w3 ⟨rfl, hB3⟩
    rw [txt_list]
    have K3 := K1.out.below hB3;have hs3 := hB3.size;have C3 := HC.out.below hB3
    have PP := Lib.hid (Blk.new w3 109 #[.string ⟨(lowL c).toArray⟩, .string ⟨#[]⟩, .bool false])
    have KP := Lib.hid (K3.alloc (.cells #[.string ⟨(lowL c).toArray⟩, .string ⟨#[]⟩, .bool false] 109))
    have CP := Lib.hid (Cur.alloc C3 (.cells #[.string ⟨(lowL c).toArray⟩, .string ⟨#[]⟩, .bool false] 109))
    have BP := Lib.hid ((B1.out.below hB3 (by omega)).alloc (.cells #[.string ⟨(lowL c).toArray⟩, .string ⟨#[]⟩, .bool false] 109))
    have EP := Lib.hid ((E1.out.kp ((Kp.refl [] wc).below hB3) (by simp)).kp ((Kp.refl [] w3).alloc (.cells #[.string ⟨(lowL c).toArray⟩, .string ⟨#[]⟩, .bool false] 109)) (by simp))
    clear d0 d1 d2 g0 g1 g2 K3 C3;have c1 := CP.out.c1;have d0 := BP.out.cell 0;have d1 := BP.out.cell 1;have d2 := BP.out.cell 2;have g0 := BP.out.frozen 0;have g1 := BP.out.frozen 1;have g2 := BP.out.frozen 2;have p0 := PP.out.cell 0;have p1 := PP.out.cell 1;have p2 := PP.out.cell 2
    by_cases hkt : k2 = t
    ·have bt : ((k2 : Int) == (t : Int)) = true := by rw [hkt]; simp
     by_cases hc2 : cls = 2
     ·have b2 : (cls == 2) = true := by rw [hc2]; rfl
      have HW2 := Lib.hid (HW.out.trans (by rw [if_pos hkt, if_pos hc2]))
      have HKT := Lib.hid hkt;clear hkt hc2
      go_wp2_with fail
      refine bodyPost_ret (results_two rfl _ _ w.heap.size 109 _ (0, 0) _ rfl (blk3 BP.out _ _ _) Tryz.underlying109 rfl infoPrm) rfl ?_
      rw [HW2.out]
      exact ⟨([], [], false), rfl, fun _ => rfl, by have h := CP.out; rw [HKT.out] at h; exact cur3 h hbne _ _ _, kp3 KP.out (Nat.le_refl _) _ _ _⟩
     ·have b2 : (cls == 2) = false := beq_eq_false_iff_ne.2 hc2
      have HW2 := Lib.hid (HW.out.trans (by rw [if_pos hkt, if_neg hc2]))
      have HKT := Lib.hid hkt;clear hkt hc2
      go_wp2_with fail
      refine bodyPost_ret (results_two rfl _ _ w.heap.size 109 _ (0, 0) _ rfl (blk3 BP.out _ _ _) Tryz.underlying109 rfl infoPrm) rfl ?_
      rw [HW2.out]
      exact ⟨(lowL c, [], false), rfl, fun _ => rfl, by have h := CP.out; rw [HKT.out] at h; exact cur3 h hbne _ _ _, kp3 KP.out (Nat.le_refl _) _ _ _⟩
    ·have bt : ((k2 : Int) == (t : Int)) = false := by rw [beq_eq_false_iff_ne]; omega
     have hk1 : k2 + 1 ≤ t := by omega
     obtain ⟨c', k3, x', hx'⟩ : ∃ c' k3 x', wdR cls s.data.toList (k2 + 1) t = (c', k3, x') := ⟨_, _, _, rfl⟩
     have HW2 := Lib.hid (HW.out.trans (by rw [if_neg hkt, hx']))
     have HX' := Lib.hid hx';have f1 := CP.out.f1;have q2 := PP.out.frozen 2;clear hkt hx'
     have hne3 : b ≠ w3.heap.size := by omega
     have hne4 : w.heap.size ≠ w3.heap.size := by omega
     have C4 : Cur b s (k2 + 1) (((w3.alloc (.cells #[.string ⟨(lowL c).toArray⟩, .string ⟨#[]⟩, .bool false] 109)).setCell ⟨b, 1, none⟩ (.int .i64 ((k2 : Int) + 1))).setCell ⟨w3.heap.size, 2, none⟩ (.bool true)) := by
      have h := CP.out.set (k2 + 1)
      rw [Int.natCast_add] at h
      exact Blk.far h (p := ⟨w3.heap.size, 2, none⟩) hne3 _
     have P4 := Lib.hid ((PP.out.far (p := ⟨b, 1, none⟩) (Ne.symm hne3) (.int .i64 ((k2 : Int) + 1))).set_ 2 (.bool true))
     have B4 := Lib.hid ((BP.out.far (p := ⟨b, 1, none⟩) (Ne.symm hbne) (.int .i64 ((k2 : Int) + 1))).far (p := ⟨w3.heap.size, 2, none⟩) hne4 (.bool true))
     have K4 := Lib.hid ((KP.out.setCell (p := ⟨b, 1, none⟩) (.inl (by simp)) (.int .i64 ((k2 : Int) + 1))).setCell (p := ⟨w3.heap.size, 2, none⟩) (.inr (by show w.heap.size ≤ w3.heap.size; omega)) (.bool true))
     have E4 := Lib.hid (EP.out.kp (((Kp.refl [b, w3.heap.size] _).setCell (p := ⟨b, 1, none⟩) (.inl (by simp)) (.int .i64 ((k2 : Int) + 1))).setCell (p := ⟨w3.heap.size, 2, none⟩) (.inl (by simp)) (.bool true)) (by simp; omega))
     have C4 := Lib.hid C4
     go_wp2_with fail
     refine (word_k cls b (k2 + 1) t s _ hs hk1 ht C4.out E4.out c' k3 x' HX').mono ?_
     rintro e w5 ⟨rfl, C5, hK5⟩
     have P5 := Lib.hid (P4.out.kp hK5 (by simp; omega))
     have B5 := Lib.hid (B4.out.kp hK5 (by simp; omega))
     have K6 := Lib.hid ((K4.out.trans hK5).setCell (p := ⟨w3.heap.size, 1, none⟩) (.inr (by show w.heap.size ≤ w3.heap.size; omega)) (.string (Txt c')))
     have C6 := Lib.hid (Blk.far C5 (p := ⟨w3.heap.size, 1, none⟩) hne3 (.string (Txt c')) : Cur b s k3 _)
     have P6 := Lib.hid (P5.out.set_ 1 (.string (Txt c')))
     have B6 := Lib.hid (B5.out.far (p := ⟨w3.heap.size, 1, none⟩) hne4 (.string (Txt c')))
     clear C5 hK5 c1 f1 d0 d1 d2 g0 g1 g2 p0 p1 p2 q2;have n1 := P5.out.frozen 1
     have p0 : (w5.setCell ⟨w3.heap.size, 1, none⟩ (.string (Txt c'))).cell? ⟨w3.heap.size, 0, none⟩ = some (.string ⟨(lowL c).toArray⟩) := P6.out.cell 0
     have p1 : (w5.setCell ⟨w3.heap.size, 1, none⟩ (.string (Txt c'))).cell? ⟨w3.heap.size, 1, none⟩ = some (.string (Txt c')) := P6.out.cell 1
     have p2 : (w5.setCell ⟨w3.heap.size, 1, none⟩ (.string (Txt c'))).cell? ⟨w3.heap.size, 2, none⟩ = some (.bool true) := P6.out.cell 2
     have m1 : w5.cell? ⟨w3.heap.size, 1, none⟩ = some (.string ⟨#[]⟩) := P5.out.cell 1
     have d0 := B6.out.cell 0;have d1 := B6.out.cell 1;have d2 := B6.out.cell 2;have g0 := B6.out.frozen 0;have g1 := B6.out.frozen 1;have g2 := B6.out.frozen 2
     by_cases hx1 : x' = 0
     ·subst hx1
      have hk3 : k3 = t := by have := wdR_ok cls s.data.toList (k2 + 1) t (by rw [HX'.out]); rw [HX'.out] at this; exact this
      have HK3 := Lib.hid hk3;clear hk3
      by_cases hc1 : c' = []
      ·have HC1 := Lib.hid hc1
       have hemp : Txt c' = ⟨#[]⟩ := by rw [hc1]; rfl
       rw [hemp] at p0 p1 p2 d0 d1 d2 g0 g1 g2 C6 K6 B6 ⊢
       by_cases hc2 : cls = 1
       ·have b2 : (cls == 1) = true := by rw [hc2]; rfl
        have HW3 := Lib.hid (HW2.out.trans (by rw [if_neg (by decide), if_pos ⟨hc2, hc1⟩]))
        clear hc1 hc2 hemp
        go_wp2_with fail
        refine bodyPost_ret (results_two rfl _ _ w.heap.size 109 _ (0, 0) _ rfl (blk3 B6.out _ _ _) Tryz.underlying109 rfl infoPrm) rfl ?_
        rw [HW3.out]
        exact ⟨(lowL c, [], true), rfl, fun h => by simp at h, by have h := C6.out; rw [HK3.out] at h; exact cur3 h hbne _ _ _, kp3 K6.out (Nat.le_refl _) _ _ _⟩
       ·have b2 : (cls == 1) = false := beq_eq_false_iff_ne.2 hc2
        have HW3 := Lib.hid (HW2.out.trans (by rw [if_neg (by decide), if_neg (fun h => hc2 h.1)]))
        clear hc1 hc2 hemp
        go_wp2_with fail
        refine bodyPost_ret (results_two rfl _ _ w.heap.size 109 _ (0, 0) _ rfl (blk3 B6.out _ _ _) Tryz.underlying109 rfl infoPrm) rfl ?_
        rw [HW3.out]
        exact ⟨(lowL c, [], true), rfl, fun _ => by rw [HC1.out], by have h := C6.out; rw [HK3.out] at h; exact cur3 h hbne _ _ _, kp3 K6.out (Nat.le_refl _) _ _ _⟩
      ·have hlen : c'.length ≤ s.data.toList.length := by have := wdR_len cls s.data.toList (k2 + 1) t; rw [HX'.out] at this; exact this
       have hxl' : 1 ≤ (Txt c').size := by rw [txt_size]; cases c' with | nil => exact absurd rfl hc1 | cons a b => simp
       have he' := isEmpty_no _ hxl';have hne' := toList_ne _ hxl'
       have HW3 := Lib.hid (HW2.out.trans (by rw [if_neg (by decide), if_neg (fun h => hc1 h.2)]))
       clear hc1
       go_wp2_with fail
       refine bodyPost_ret (results_two rfl _ _ w.heap.size 109 _ (0, 0) _ rfl (blk3 B6.out _ _ _) Tryz.underlying109 rfl infoPrm) rfl ?_
       rw [HW3.out]
       exact ⟨(lowL c, c', true), rfl, fun _ => rfl, by have h := C6.out; rw [HK3.out] at h; exact cur3 h hbne _ _ _, kp3 K6.out (Nat.le_refl _) _ _ _⟩
     ·have bx' : (x' == 0) = false := beq_eq_false_iff_ne.2 hx1
      have HX1 := Lib.hid hx1
      have HW3 := Lib.hid (HW2.out.trans (by rw [if_pos hx1]))
      clear hx1
      go_wp2_with fail
      refine bodyPost_ret (results_two rfl _ _ w.heap.size 109 _ (0, 0) _ rfl (blk3 B6.out _ _ _) Tryz.underlying109 rfl infoPrm) rfl ?_
      rw [HW3.out]
      exact ⟨(lowL c, c', true), rfl, fun h => absurd h HX1.out, cur3 C6.out hbne _ _ _, kp3 K6.out (Nat.le_refl _) _ _ _⟩
  ·have bx : (x != 0) = true := by rw [bne_iff_ne]; exact hx0
   have HW := Lib.hid (HV.out.trans (by rw [if_pos hx0]))
   clear hx0
   go_wp2_with fail
   refine bodyPost_ret (results_two rfl _ _ w.heap.size 109 _ (0, 0) _ rfl (blk3 B1.out _ _ _) Tryz.underlying109 rfl infoPrm) rfl ?_
   rw [HW.out]
   exact ⟨([], [], false), rfl, fun _ => rfl, cur3 HC.out hbne _ _ _, kp3 K1.out (Nat.le_refl _) _ _ _⟩
end Ad
end Go.Proofs.YtbcaindpbeaheaaGreatDoor
namespace Go.Proofs.YtbcaindpbeaheaaGreatDoor
namespace Ad
open Go.RowKit Lx
theorem prR_to (cls : Int) (l : List UInt8) (k t : Nat) : (prR cls l k t).2.2 = 0 → (prR cls l k t).2.1 = t := by
 unfold prR
 repeat' split
 all_goals (intro h; first | rfl | (simp at h))
theorem prsF_end (bg es : Int → Bool) (cls : Int) (n : Nat) (l : List UInt8) (k : Nat) (acc : List Prm) (h : bg (atB l k) = false) : prsF bg es cls (n + 1) l k acc = (acc, k, 0) := by rw [prsF, if_pos h]
theorem prsF_err2 (bg es : Int → Bool) (cls : Int) (n : Nat) (l : List UInt8) (k : Nat) (acc : List Prm) (h : bg (atB l k) = true) (h3 : (prR cls l (k + 1) (endP es l (k + 1))).2.2 ≠ 0) :
   prsF bg es cls (n + 1) l k acc = ([], (prR cls l (k + 1) (endP es l (k + 1))).2) := by rw [prsF, if_neg (by rw [h]; decide), if_pos h3]
theorem prsF_err3 (bg es : Int → Bool) (cls : Int) (n : Nat) (l : List UInt8) (k : Nat) (acc : List Prm) (h : bg (atB l k) = true) (h3 : (prR cls l (k + 1) (endP es l (k + 1))).2.2 = 0) (h4 : room acc (prR cls l (k + 1) (endP es l (k + 1))).1.1 ≠ 0) :
   prsF bg es cls (n + 1) l k acc = ([], k + 1, room acc (prR cls l (k + 1) (endP es l (k + 1))).1.1) := by rw [prsF, if_neg (by rw [h]; decide), if_neg (by rw [h3]; decide), if_pos h4]
theorem prsF_step (bg es : Int → Bool) (cls : Int) (n : Nat) (l : List UInt8) (k : Nat) (acc : List Prm) (h : bg (atB l k) = true) (h3 : (prR cls l (k + 1) (endP es l (k + 1))).2.2 = 0) (h4 : room acc (prR cls l (k + 1) (endP es l (k + 1))).1.1 = 0) :
   prsF bg es cls (n + 1) l k acc = prsF bg es cls n l (endP es l (k + 1)) (acc ++ [(prR cls l (k + 1) (endP es l (k + 1))).1]) := by rw [prsF, if_neg (by rw [h]; decide), if_neg (by rw [h3]; decide), if_neg (by rw [h4]; decide)]
def LsP (b : Nat) (s : ByteArray) (r : List Prm × Nat × Int) (w : World) (e : Ending) (w' : World) : Prop :=
 ∃ v, e = .returned (.tuple #[v, .int .u8 r.2.2]) ∧ PmIn w'.heap.size w' v (srt r.1) ∧ Cur b s r.2.1 w' ∧ Kp [b] w w' ∧ r.1.length ≤ 16
set_option maxRecDepth 100000 in
set_option maxHeartbeats 4000000 in
theorem pairs_k (bg es : Int → Bool) (cls : Int) (b k : Nat) (s begins ends : ByteArray) (w : World) (hs : s.size ≤ 2097152) (hk : k ≤ s.size) (C : Cur b s k w) (E : Env w) (hb7 : 7 ≤ b)
   (hbg : memB begins.data.toList = bg) (hes : memB ends.data.toList = es) (hb0 : bg 0 = false) (hb1 : bg (-1) = false) :
   Calls Tryz.prog 254 #[.pointer (some ⟨b, 0, none⟩), .string begins, .string ends, .int .i64 cls] w (LsP b s (prsF bg es cls (s.data.toList.length + 1) s.data.toList k []) w) := by
 have hbw := C.lt;have HE := Lib.hid E;have HC := Lib.hid C;have HBG := Lib.hid hbg;have HES := Lib.hid hes
 have test : ∀ j, decide (0 ≤ Lib.indexByte begins.data.toList (nxt s.data.toList j).toNat.toUInt8) = bg (atB s.data.toList j) := by
  intro j
  have hb := nxt_bd s.data.toList j
  rw [mem_any begins.data.toList _ hb.1 hb.2, hbg]
  unfold nxt
  split
  ·rfl
  ·rename_i h
   rw [hb0]
   have : atB s.data.toList j = -1 := by unfold atB; rw [List.getElem?_eq_none (by omega)]
   rw [this, hb1]
 have HT := Lib.hid test
 have hinb : ∀ j, bg (atB s.data.toList j) = true → j < s.size := by
  intro j h
  rw [← len_list]
  exact atB_lt _ _ (fun e => by rw [e, hb1] at h; cases h)
 have HI := Lib.hid hinb
 obtain ⟨R, hR⟩ : ∃ R, prsF bg es cls (s.data.toList.length + 1) s.data.toList k [] = R := ⟨_, rfl⟩
 have HR := Lib.hid hR
 rw [hR]
 obtain ⟨i0, hi, hz0, hz1, hz2⟩ := info_parts infoPrm3
 clear hR E C hbg hes hb0 hb1 test hinb
 go_enter Tryz.func254, Tryz.ntmps254
 go_wp2_with fail
 go_loopg [10, 11, 12, 13, 14] (s.size + 1) (fun gg v _ _ _ _ wr => ∃ (j n : Nat) (acc : List Prm), j ≤ s.size ∧ s.size - j < n ∧ s.size - j < gg ∧ Cur b s j wr ∧ prsF bg es cls n s.data.toList j acc = R ∧ wr.ownsRow w.heap.size 109 3 v acc.length (pcl acc) ∧ Names acc ∧ acc.length ≤ 16 ∧ Kp [b] w wr)
 case atStart => exact ⟨k, s.data.toList.length + 1, [], hk, by rw [len_list]; omega, by omega, HC.out, HR.out, World.ownsRow_nil _ _ _ _, List.nodup_nil, by simp, Kp.refl _ _⟩
 case round =>
  obtain ⟨j, n, acc, hj, hn, hg, hC, hr, hown, hnm, hl, hK⟩ := hrel
  have Hr := Lib.hid hr;have Ho := Lib.hid hown;have HNm := Lib.hid hnm;have hsz := hK.size;clear hr hown hnm
  obtain ⟨n, rfl⟩ : ∃ m, n = m + 1 := ⟨n - 1, by omega⟩
  go_wp2_with fail
  refine (next_k b j s _ hs hj hC).mono ?_
  rintro e w2 ⟨rfl, C2, hK2⟩
  have K2 := hK.trans hK2;have HC2 := Lib.hid C2
  have Ho2 := Lib.hid (own_kp Ho.out hK2 (by simp; omega))
  have hsz2 := hK2.size;have c0 := C2.c0;have c1 := C2.c1;have f1 := C2.f1;clear C2 hC
  go_wp2_with fail
  refine (Tryz.strings_IndexByte _ _ _).mono ?_
  rintro e w3 ⟨rfl, hw3⟩
  obtain rfl := hw3.symm
  have ht := HT.out j
  cases hbt : bg (atB s.data.toList j)
  ·rw [hbt] at ht
   have HX := Lib.hid (Hr.out.symm.trans (prsF_end bg es cls n _ j acc hbt));clear hbt
   go_wp2_with fail
   refine (sorted_any w2.heap.size _ acc _ (own_pm Ho2.out) (Nat.le_refl _) (by omega)).mono ?_
   rintro e w4 ⟨v', l', rfl, hPm, hPe, hSo, hK4⟩
   have hl' := srt_of l' acc hPe hSo HNm.out
   subst hl'
   obtain ⟨A, cA, rfl⟩ := hPm.form
   have HP := Lib.hid hPm;have HK4 := Lib.hid (K2.nil_to hK4)
   have HC4 := Lib.hid (HC2.out.kp hK4 (by simp))
   clear hPm hPe hSo hK4 c0 c1 f1
   go_wp2_with fail
   go_ret2
   rw [HX.out]
   exact ⟨_, rfl, HP.out, HC4.out, HK4.out, hl⟩
  ·rw [hbt] at ht
   have hlt := HI.out j hbt
   obtain ⟨t, hte⟩ : ∃ t, endP es s.data.toList (j + 1) = t := ⟨_, rfl⟩
   have ht1 : j + 1 ≤ t := by rw [← hte]; exact endP_ge _ _ _
   have ht2 : t ≤ s.size := by rw [← hte, ← len_list]; exact endP_le _ _ _ (by rw [len_list]; omega)
   obtain ⟨q0, m, x, hq⟩ : ∃ q0 m x, prR cls s.data.toList (j + 1) t = (q0, m, x) := ⟨_, _, _, rfl⟩
   have HTE := Lib.hid hte;have HQ := Lib.hid hq;have HBT := Lib.hid hbt;clear hbt hte hq
   go_wp2_with fail
   refine (end_m es s ends (j + 1) _ hs (by omega) HES.out).mono ?_
   rintro e w3 ⟨rfl, hw3⟩
   obtain rfl := hw3.symm
   rw [HTE.out]
   have C3 : Cur b s (j + 1) (w2.setCell ⟨b, 1, none⟩ (.int .i64 ((j : Int) + 1))) := by have h := HC2.out.set (j + 1); rwa [Int.natCast_add] at h
   have hK3 := (Kp.refl [b] w2).setCell (p := ⟨b, 1, none⟩) (.inl (by simp)) (.int .i64 ((j : Int) + 1))
   have K3 := Lib.hid (K2.trans hK3)
   have Ho3 := Lib.hid (own_kp Ho2.out hK3 (by simp; omega))
   have C3 := Lib.hid C3
   have E3 := Lib.hid (HE.out.kp K3.out (by simp; omega))
   have hsz3 := K3.out.size;clear hK3
   go_wp2_with fail
   refine (pair_k cls b (j + 1) t s _ hs ht1 ht2 C3.out E3.out hb7).mono ?_
   rintro e w5 ⟨q, rfl, hq0, hC5, hK5⟩
   rw [HQ.out] at hq0 hC5 ⊢
   dsimp only at hq0 hC5 ⊢
   obtain ⟨q1, q2, q3⟩ := q
   rw [encP_eq]
   have K5 := K3.out.trans hK5
   have Ho5 := Lib.hid (own_kp Ho3.out hK5 (by simp; omega))
   have HC5 := Lib.hid hC5;have hsz5 := K5.size;have hsz5' := hK5.size;have HQ0 := Lib.hid hq0
   have KA := Lib.hid (K5.alloc (.cells #[.string ⟨q1.toArray⟩, .string ⟨q2.toArray⟩, .bool q3] 109))
   have CA := Lib.hid (HC5.out.alloc (.cells #[.string ⟨q1.toArray⟩, .string ⟨q2.toArray⟩, .bool q3] 109))
   have OA := Lib.hid (own_kp Ho5.out ((Kp.refl [] w5).alloc (.cells #[.string ⟨q1.toArray⟩, .string ⟨q2.toArray⟩, .bool q3] 109)) (by simp))
   have PA := Lib.hid (Blk.new w5 109 #[.string ⟨q1.toArray⟩, .string ⟨q2.toArray⟩, .bool q3])
   clear c0 c1 f1 hC5 hq0
   by_cases hx : x = 0
   ·subst hx
    have hq' : q0 = (q1, q2, q3) := (HQ0.out rfl).symm
    subst hq'
    have hmt : m = t := by have := prR_to cls s.data.toList (j + 1) t (by rw [HQ.out]); rw [HQ.out] at this; exact this
    subst hmt
    have p0 := PA.out.cell 0;have p1 := PA.out.cell 1;have p2 := PA.out.cell 2
    by_cases hr0 : room acc q1 = 0
    ·have hri := (room_iff acc q1).1 hr0
     have HNm2 := Lib.hid (names_snoc acc (q1, q2, q3) HNm.out hri.1)
     have hl16 : acc.length ≤ 15 := by have := hri.2; omega
     have HX := Lib.hid (Hr.out.symm.trans ((prsF_step bg es cls n s.data.toList j acc HBT.out (by rw [HTE.out, HQ.out]) (by rw [HTE.out, HQ.out]; exact hr0)).trans (by rw [HTE.out, HQ.out])))
     have HR0 := Lib.hid hr0;clear hr0 hri
     go_wp2_with fail
     refine (mayJoin_any _ _ acc (q1, q2, q3) _ (own_pm OA.out) (Nat.le_refl _) (by omega)).mono ?_
     rintro e w6 ⟨rfl, hB6⟩
     rw [HR0.out]
     have K6 := KA.out.below hB6
     have O6 := Lib.hid (own_kp OA.out ((Kp.refl [] _).below hB6) (by simp))
     have C6 := Lib.hid (CA.out.below hB6);have hsz6 := K6.size;have hs6 := hB6.size
     have B6 := Lib.hid (PA.out.below hB6 (by simp))
     clear p0 p1 p2;have d0 := B6.out.cell 0;have d1 := B6.out.cell 1;have d2 := B6.out.cell 2
     go_wp2_with (at_builtin; refine wpList_append_own _ rfl _ _ 36 rfl w.heap.size 109 i0 (.agg #[.string .empty, .string .empty, .bool false]) 3 40 Tryz.underlying36 hi hz0 hz1 hz2 rfl (by decide) _ _ _ rfl (O6.out.alloc _) ⟨w6.heap.size, 0, none⟩ 1 1 [.string ⟨q1.toArray⟩, .string ⟨q2.toArray⟩, .bool q3] rfl rfl (cell_three_new _ _ _ _ _) (by simp [Value.oneCell']) ?c3 ?c4 ?c5 ?_)
     case c3 => unfold maxLen; omega
     case c4 => omega
     case c5 => simp; omega
     intro v' w7 hown' hgrow _
     have K7 := Lib.hid ((K6.alloc (.cells #[.string ⟨q1.toArray⟩, .string ⟨q2.toArray⟩, .bool q3] 109)).grown hgrow (fun g hg => .inr (O6.out.lt g hg).1))
     have hC7 : Cur b s m w7 := by
      have h1 := C6.out.alloc (.cells #[.string ⟨q1.toArray⟩, .string ⟨q2.toArray⟩, .bool q3] 109)
      exact (hgrow.block b h1.lt (fun e => by have := (O6.out.lt b e.symm).1; omega)).trans h1
     have HC7 := Lib.hid hC7
     have HO7 := Lib.hid (by simpa [pcl, pc1] using hown' : w7.ownsRow w.heap.size 109 3 v' (acc ++ [(q1, q2, q3)]).length (pcl (acc ++ [(q1, q2, q3)])))
     clear hown' hgrow d0 d1 d2 hC7
     go_wp2_with fail
     go_roundg (s.size - m + 1)
     case measure => omega
     case rel => exact ⟨m, n, acc ++ [(q1, q2, q3)], ht2, by omega, by omega, HC7.out, HX.out.symm, HO7.out, HNm2.out, by simp; omega, K7.out⟩
    ·have br : (room acc q1 != 0) = true := by rw [bne_iff_ne]; exact hr0
     have HX := Lib.hid (Hr.out.symm.trans ((prsF_err3 bg es cls n s.data.toList j acc HBT.out (by rw [HTE.out, HQ.out]) (by rw [HTE.out, HQ.out]; exact hr0)).trans (by rw [HTE.out, HQ.out])))
     have HBr := Lib.hid br;clear hr0 br
     go_wp2_with fail
     refine (mayJoin_any _ _ acc (q1, q2, q3) _ (own_pm OA.out) (Nat.le_refl _) (by omega)).mono ?_
     rintro e w6 ⟨rfl, hB6⟩
     have br := HBr.out;have K6 := Lib.hid (KA.out.below hB6);have C6 := Lib.hid (CA.out.below hB6);clear p0 p1 p2
     go_wp2_with fail
     have hfail := fail_k b m (j + 1) (room acc q1) s w6 C6.out
     rw [Int.natCast_add] at hfail
     refine hfail.mono ?_
     rintro e w7 ⟨rfl, C7, hK7⟩
     have HC7 := Lib.hid C7;clear C7 hfail
     go_wp2_with fail
     go_ret2
     rw [HX.out]
     exact ⟨_, rfl, PmIn.nil _ _, HC7.out, K6.out.trans hK7, by simp⟩
   ·have bx : (x != 0) = true := by rw [bne_iff_ne]; exact hx
    have HX := Lib.hid (Hr.out.symm.trans ((prsF_err2 bg es cls n s.data.toList j acc HBT.out (by rw [HTE.out, HQ.out]; exact hx)).trans (by rw [HTE.out, HQ.out])))
    clear hx
    go_wp2_with fail
    go_ret2
    rw [HX.out]
    exact ⟨_, rfl, PmIn.nil _ _, CA.out, KA.out, by simp⟩
end Ad
end Go.Proofs.YtbcaindpbeaheaaGreatDoor
namespace Go.Proofs.YtbcaindpbeaheaaGreatDoor
namespace Ad
open Go.RowKit Lx
theorem Cur.far {b k : Nat} {s : ByteArray} {w : World} (h : Cur b s k w) {p : Addr} (hp : b ≠ p.block) (u : Value) : Cur b s k (w.setCell p u) := Blk.far h hp u
def Urb (w : World) (bu : Nat) (S U H P vp vh : Value) : Prop := Blk w bu 54 #[S, U, H, P, vp, vh]
def PtP (b bu : Nat) (s : ByteArray) (k' : Nat) (x : Int) (F : World → Prop) (w : World) (e : Ending) (w' : World) : Prop :=
 e = .returned (.int .u8 x) ∧ Cur b s k' w' ∧ Kp [b, bu] w w' ∧ F w'
def knB (l : List UInt8) : Bool := l == sipL || (l == sipsL || l == telL)
set_option maxRecDepth 100000 in
set_option maxHeartbeats 400000 in
theorem known_any (l : List UInt8) (w : World) : Calls Tryz.prog 134 #[.string (Txt l)] w (Ret (.bool (knB l)) w) := by
 have e : (Txt l).toList = l := by rw [Lib.toList_data]; rfl
 have HE := Lib.hid e;clear e
 go_enter Tryz.func134, Tryz.ntmps134
 go_wp2_with fail
 all_goals
  rw [HE.out] at *
  go_ret
  refine ⟨ret_bool ?_, rfl⟩
  simp_all [knB, sipL, sipsL, telL, Bool.or_assoc]
theorem lower_n (s : ByteArray) (w : World) (hs : s.size ≤ 2097152) :
   Calls Tryz.prog 91 #[.string s] w (RetNew (lowL s.data.toList) w) := lower_any s w (by omega)
def schR (l : List UInt8) : Nat × Int :=
 if endP (· == 58) l 0 = l.length then (l.length, 5) else if knB (lowL (l.take (endP (· == 58) l 0))) then (endP (· == 58) l 0 + 1, 0) else (0, 15)
def SchF (bu : Nat) (l : List UInt8) (x : Int) (U H P vp vh : Value) (w : World) : Prop :=
 ∃ S, Urb w bu (.string (Txt S)) U H P vp vh ∧ (x = 0 → S = lowL (l.take (endP (· == 58) l 0)))
theorem take_slc (s : ByteArray) (n : Nat) : s.extract 0 n = Txt (s.data.toList.take n) := by rw [slc_txt]; rfl
set_option maxRecDepth 100000 in
set_option maxHeartbeats 1000000 in
theorem scheme_k (b bu k : Nat) (s : ByteArray) (S : List UInt8) (U H P vp vh : Value) (w : World) (hs : s.size ≤ 2097152) (C : Cur b s k w) (B : Urb w bu (.string (Txt S)) U H P vp vh) (hne : b ≠ bu) :
   Calls Tryz.prog 236 #[.pointer (some ⟨b, 0, none⟩), .pointer (some ⟨bu, 0, none⟩)] w (PtP b bu s (schR s.data.toList).1 (schR s.data.toList).2 (SchF bu s.data.toList (schR s.data.toList).2 U H P vp vh) w) := by
 have c0 := C.c0;have HC := Lib.hid C;have HB := Lib.hid B;clear C B
 obtain ⟨n, hn⟩ : ∃ n, endP (· == 58) s.data.toList 0 = n := ⟨_, rfl⟩
 have hns : n ≤ s.size := by rw [← hn, ← len_list]; exact endP_le _ _ _ (Nat.zero_le _)
 have HN := Lib.hid hn
 by_cases h : n = s.size
 ·have HV := Lib.hid (by unfold schR; rw [hn, len_list, if_pos h] : schR s.data.toList = (s.size, 5))
  have H9 := Lib.hid h
  have bn : ((n : Int) == (s.size : Int)) = true := by rw [h]; simp
  clear h hn
  rw [HV.out]
  go_enter Tryz.func236, Tryz.ntmps236
  go_wp2_with fail
  have hend := end_m (· == 58) s ⟨#[58]⟩ 0 w hs (Nat.zero_le _) m58
  rw [HN.out] at hend
  refine hend.mono ?_
  rintro e w2 ⟨rfl, rfl⟩
  clear hend
  go_wp2_with fail
  refine (fail_k b k n 5 s _ HC.out).mono ?_
  rintro e w1 ⟨rfl, C1, hK1⟩
  have HC1 := Lib.hid C1
  have HB1 := Lib.hid (HB.out.kp hK1 (by simp; omega))
  clear C1
  go_wp2_with fail
  go_ret
  exact ⟨rfl, by have h := HC1.out; rw [H9.out] at h; exact h, hK1.mono (by simp), S, HB1.out, fun h => by simp at h⟩
 ·have bn : ((n : Int) == (s.size : Int)) = false := by rw [beq_eq_false_iff_ne]; omega
  have hlt : n < s.size := by omega
  have HX := Lib.hid (take_slc s n)
  obtain ⟨y, hy⟩ : ∃ y, s.data.toList.take n = y := ⟨_, rfl⟩
  have hyl : y.length ≤ s.size := by rw [← hy]; simp; omega
  rw [hy] at HX
  obtain ⟨z, hz⟩ : ∃ z, lowL y = z := ⟨_, rfl⟩
  have HZ := Lib.hid hz
  cases hk : knB z
  ·have HV := Lib.hid (by unfold schR; rw [hn, len_list, if_neg h, hy, hz, if_neg (by rw [hk]; decide)] : schR s.data.toList = (0, 15))
   have HK := Lib.hid hk;clear h hn hy hz hk
   rw [HV.out]
   go_enter Tryz.func236, Tryz.ntmps236
   go_wp2_with fail
   have hend := end_m (· == 58) s ⟨#[58]⟩ 0 w hs (Nat.zero_le _) m58
   rw [HN.out] at hend
   refine hend.mono ?_
   rintro e w2 ⟨rfl, rfl⟩
   clear hend
   go_wp2_with fail
   rw [HX.out]
   refine (lower_n (Txt y) _ (by rw [txt_size]; omega)).mono ?_
   rintro e w1 ⟨rfl, hB1⟩
   rw [txt_list, HZ.out]
   have K1 := (Kp.refl [b, bu] w).below hB1
   have HB1 := Lib.hid (HB.out.below hB1 HB.out.lt);have HC1 := Lib.hid (HC.out.below hB1);have f0 := HB1.out.frozen 0;have d0 := HB1.out.cell 0
   go_wp2_with fail
   refine (known_any z _).mono ?_
   rintro e w3 ⟨rfl, rfl⟩
   rw [HK.out]
   have K2 := K1.setCell (p := ⟨bu, 0, none⟩) (.inl (by simp)) (.string ⟨z.toArray⟩)
   have HC2 := Lib.hid (Cur.far HC1.out (p := ⟨bu, 0, none⟩) hne (.string ⟨z.toArray⟩))
   have HB2 := Lib.hid (HB1.out.set_ 0 (.string ⟨z.toArray⟩))
   go_wp2_with fail
   refine (fail_k b k 0 15 s _ HC2.out).mono ?_
   rintro e w4 ⟨rfl, C4, hK4⟩
   have HC4 := Lib.hid C4
   have HB4 := Lib.hid (HB2.out.kp hK4 (by simp; omega))
   have K4 := K2.to_ hK4 (by simp)
   clear C4
   go_wp2_with fail
   go_ret
   exact ⟨rfl, HC4.out, K4, z, HB4.out, fun h => by simp at h⟩
  ·have HV := Lib.hid (by unfold schR; rw [hn, len_list, if_neg h, hy, hz, if_pos hk] : schR s.data.toList = (n + 1, 0))
   have HK := Lib.hid hk
   have HS := Lib.hid (by rw [hn, hy, hz] : lowL (s.data.toList.take (endP (· == 58) s.data.toList 0)) = z)
   clear h hn hy hz hk
   rw [HV.out]
   go_enter Tryz.func236, Tryz.ntmps236
   go_wp2_with fail
   have hend := end_m (· == 58) s ⟨#[58]⟩ 0 w hs (Nat.zero_le _) m58
   rw [HN.out] at hend
   refine hend.mono ?_
   rintro e w2 ⟨rfl, rfl⟩
   clear hend
   go_wp2_with fail
   rw [HX.out]
   refine (lower_n (Txt y) _ (by rw [txt_size]; omega)).mono ?_
   rintro e w1 ⟨rfl, hB1⟩
   rw [txt_list, HZ.out]
   have K1 := (Kp.refl [b, bu] w).below hB1
   have HB1 := Lib.hid (HB.out.below hB1 HB.out.lt);have HC1 := Lib.hid (HC.out.below hB1);have f0 := HB1.out.frozen 0;have d0 := HB1.out.cell 0
   go_wp2_with fail
   refine (known_any z _).mono ?_
   rintro e w3 ⟨rfl, rfl⟩
   rw [HK.out]
   have K2 := K1.setCell (p := ⟨bu, 0, none⟩) (.inl (by simp)) (.string ⟨z.toArray⟩)
   have HC2 := Lib.hid (Cur.far HC1.out (p := ⟨bu, 0, none⟩) hne (.string ⟨z.toArray⟩))
   have HB2 := Lib.hid (HB1.out.set_ 0 (.string ⟨z.toArray⟩));have c1 := HC2.out.c1;have f1 := HC2.out.f1
   go_wp2_with fail
   go_ret
   exact ⟨rfl, by have h := HC2.out.set (n + 1); rwa [Int.natCast_add] at h, K2.setCell (p := ⟨b, 1, none⟩) (.inl (by simp)) _, z, HB2.out.far (p := ⟨b, 1, none⟩) (Ne.symm hne) _, fun _ => HS.out.symm⟩
def UsrF (bu : Nat) (r : List UInt8 × Nat × Int) (S H P vp vh : Value) (w : World) : Prop :=
 ∃ U, Urb w bu S (.string (Txt U)) H P vp vh ∧ (r.2.2 = 0 → U = r.1)
theorem usrR_wd (l : List UInt8) (k n : Nat) (hn : endP (· == 64) l k = n) (c : List UInt8) (k2 : Nat) (x : Int) (h : wdR 0 l k n = (c, k2, x)) :
   usrR l k = if n = l.length then ([], k, 0) else if x ≠ 0 then ([], k2, if atB l k2 = 58 then 15 else 5) else if c = [] then ([], n, 5) else (c, n + 1, 0) := by
 unfold usrR
 rw [hn]
 unfold wdR at h
 split at h
 ·rename_i h1
  injection h with h2 h3
  injection h3 with h3 h4
  subst h2 h3 h4
  rw [if_pos h1, if_pos (show (5 : Int) ≠ 0 by decide)]
 ·rename_i h1
  injection h with h2 h3
  injection h3 with h3 h4
  subst h2 h3 h4
  rw [if_neg h1, if_neg (show ¬ ((0 : Int) ≠ 0) by decide)]
set_option maxRecDepth 100000 in
set_option maxHeartbeats 1000000 in
theorem user_k (b bu k : Nat) (s : ByteArray) (S H P vp vh : Value) (w : World) (hs : s.size ≤ 2097152) (hk : k ≤ s.size) (C : Cur b s k w) (B : Urb w bu S (.string (Txt [])) H P vp vh) (E : Env w) (hne : b ≠ bu) (hb7 : 7 ≤ b) :
   Calls Tryz.prog 237 #[.pointer (some ⟨b, 0, none⟩), .pointer (some ⟨bu, 0, none⟩)] w (PtP b bu s (usrR s.data.toList k).2.1 (usrR s.data.toList k).2.2 (UsrF bu (usrR s.data.toList k) S H P vp vh) w) := by
 have c0 := C.c0;have c1 := C.c1;have HC := Lib.hid C;have HB := Lib.hid B;have HE := Lib.hid E;clear C B E
 obtain ⟨n, hn⟩ : ∃ n, endP (· == 64) s.data.toList k = n := ⟨_, rfl⟩
 have hns : n ≤ s.size := by rw [← hn, ← len_list]; exact endP_le _ _ _ (by rw [len_list]; exact hk)
 have hkn : k ≤ n := by rw [← hn]; exact endP_ge _ _ _
 have HN := Lib.hid hn
 obtain ⟨c, k2, x, hx⟩ : ∃ c k2 x, wdR 0 s.data.toList k n = (c, k2, x) := ⟨_, _, _, rfl⟩
 have hk2 : k2 ≤ n := by have := wdR_bd 0 s.data.toList k n hkn; rw [hx] at this; exact this
 have HX := Lib.hid hx;have hV := usrR_wd s.data.toList k n hn c k2 x hx
 rw [len_list] at hV
 clear hx
 by_cases h : n = s.size
 ·have HV := Lib.hid (hV.trans (by rw [if_pos h]))
  have bn : ((n : Int) == (s.size : Int)) = true := by rw [h]; simp
  clear h hn hV
  rw [HV.out]
  go_enter Tryz.func237, Tryz.ntmps237
  go_wp2_with fail
  go_quiet ((go_at_call 126; exact Calls.quiet_of_same (end_q (· == 64) s ⟨#[64]⟩ k _ hs hk m64)))
  rw [HN.out]
  obtain ⟨w2, hw2⟩ : ∃ w2, w.drewN nq = w2 := ⟨_, rfl⟩
  rw [hw2]
  have C2 : Cur b s k w2 := by rw [← hw2]; exact HC.out
  have K2 : Kp [b, bu] w w2 := by rw [← hw2]; exact (Kp.refl _ _).drewN _
  have B2 := Lib.hid (by rw [← hw2]; exact HB.out : Urb w2 bu S (.string (Txt [])) H P vp vh)
  clear hw2 c0 c1;have c0 := C2.c0;have H2 := Lib.hid C2;clear C2
  go_wp2_with fail
  go_ret
  exact ⟨rfl, H2.out, K2, [], B2.out, fun _ => rfl⟩
 ·have bn : ((n : Int) == (s.size : Int)) = false := by rw [beq_eq_false_iff_ne]; omega
  have hV := hV.trans (by rw [if_neg h])
  by_cases hx0 : x = 0
  ·subst hx0
   have hk2n : k2 = n := by have := wdR_ok 0 s.data.toList k n (by rw [HX.out]); rw [HX.out] at this; exact this
   subst hk2n
   have hV := hV.trans (by rw [if_neg (by decide)])
   by_cases hc0 : c = []
   ·have HV := Lib.hid (hV.trans (by rw [if_pos hc0]))
    have hemp : Txt c = ⟨#[]⟩ := by rw [hc0]; rfl
    have HP := Lib.hid hemp;clear h hn hV hc0 hemp
    rw [HV.out]
    go_enter Tryz.func237, Tryz.ntmps237
    go_wp2_with fail
    go_quiet ((go_at_call 126; exact Calls.quiet_of_same (end_q (· == 64) s ⟨#[64]⟩ k _ hs hk m64)))
    rw [HN.out]
    obtain ⟨w2, hw2⟩ : ∃ w2, w.drewN nq = w2 := ⟨_, rfl⟩
    rw [hw2]
    have C2 : Cur b s k w2 := by rw [← hw2]; exact HC.out
    have K2 : Kp [b, bu] w w2 := by rw [← hw2]; exact (Kp.refl _ _).drewN _
    have B2 := Lib.hid (by rw [← hw2]; exact HB.out : Urb w2 bu S (.string (Txt [])) H P vp vh)
    have E2 := Lib.hid (by rw [← hw2]; exact HE.out.drewN nq : Env w2)
    clear hw2 c0 c1;have c0 := C2.c0;have H2 := Lib.hid C2;clear C2
    go_wp2_with fail
    refine (word_k 0 b k k2 s _ hs hkn hns H2.out E2.out c k2 0 HX).mono ?_
    rintro e w3 ⟨rfl, C3, hK3⟩
    rw [HP.out]
    have HC3 := Lib.hid C3
    have HB3 := Lib.hid (B2.out.kp hK3 (by simp; omega))
    clear C3
    go_wp2_with fail
    go_ret
    exact ⟨rfl, HC3.out, K2.to_ hK3 (by simp), [], HB3.out, fun h => by simp at h⟩
   ·have HV := Lib.hid (hV.trans (by rw [if_neg hc0]))
    have hlen : c.length ≤ s.data.toList.length := by have := wdR_len 0 s.data.toList k k2; rw [HX.out] at this; exact this
    rw [len_list] at hlen
    have hxl : 1 ≤ (Txt c).size := by rw [txt_size]; cases c with | nil => exact absurd rfl hc0 | cons a b => simp
    have he := isEmpty_no _ hxl;have hne' := toList_ne _ hxl
    have hlt : k2 < s.size := by omega
    clear h hn hV hc0
    rw [HV.out]
    go_enter Tryz.func237, Tryz.ntmps237
    go_wp2_with fail
    go_quiet ((go_at_call 126; exact Calls.quiet_of_same (end_q (· == 64) s ⟨#[64]⟩ k _ hs hk m64)))
    rw [HN.out]
    obtain ⟨w2, hw2⟩ : ∃ w2, w.drewN nq = w2 := ⟨_, rfl⟩
    rw [hw2]
    have C2 : Cur b s k w2 := by rw [← hw2]; exact HC.out
    have K2 : Kp [b, bu] w w2 := by rw [← hw2]; exact (Kp.refl _ _).drewN _
    have B2 := Lib.hid (by rw [← hw2]; exact HB.out : Urb w2 bu S (.string (Txt [])) H P vp vh)
    have E2 := Lib.hid (by rw [← hw2]; exact HE.out.drewN nq : Env w2)
    clear hw2 c0 c1;have c0 := C2.c0;have H2 := Lib.hid C2;clear C2
    go_wp2_with fail
    refine (word_k 0 b k k2 s _ hs hkn hns H2.out E2.out c k2 0 HX).mono ?_
    rintro e w3 ⟨rfl, C3, hK3⟩
    have HB3 := Lib.hid (B2.out.kp hK3 (by simp; omega))
    have c1 := C3.c1;have f1 := C3.f1;have u1 := HB3.out.cell 1;have g1 := HB3.out.frozen 1
    have HC4 := Lib.hid (Cur.far C3 (p := ⟨bu, 1, none⟩) hne (.string (Txt c)))
    have HB4 := Lib.hid (HB3.out.set_ 1 (.string (Txt c)))
    have K4 := (K2.to_ hK3 (by simp)).setCell (p := ⟨bu, 1, none⟩) (.inl (by simp)) (.string (Txt c))
    clear C3;have c1' := HC4.out.c1;have f1' := HC4.out.f1
    go_wp2_with fail
    go_ret
    exact ⟨rfl, by have h := HC4.out.set (k2 + 1); rwa [Int.natCast_add] at h, K4.setCell (p := ⟨b, 1, none⟩) (.inl (by simp)) _, c, HB4.out.far (p := ⟨b, 1, none⟩) (Ne.symm hne) _, fun _ => rfl⟩
  ·have bx : (x != 0) = true := by rw [bne_iff_ne]; exact hx0
   have HV := Lib.hid (hV.trans (by rw [if_pos hx0]))
   have hlt : k2 < s.size := by omega
   have hn58 : (nxt s.data.toList k2 == 58) = decide (atB s.data.toList k2 = 58) := by rw [nxt_eq _ _ _ (by decide) (by decide)]; rfl
   by_cases h58 : atB s.data.toList k2 = 58
   ·have HV2 := Lib.hid (HV.out.trans (by rw [if_pos h58]))
    have t58 : (nxt s.data.toList k2 == 58) = true := by rw [hn58]; exact decide_eq_true h58
    have T58 := Lib.hid t58;clear h hn hV hx0 hn58 h58 t58
    rw [HV2.out]
    go_enter Tryz.func237, Tryz.ntmps237
    go_wp2_with fail
    go_quiet ((go_at_call 126; exact Calls.quiet_of_same (end_q (· == 64) s ⟨#[64]⟩ k _ hs hk m64)))
    rw [HN.out]
    obtain ⟨w2, hw2⟩ : ∃ w2, w.drewN nq = w2 := ⟨_, rfl⟩
    rw [hw2]
    have C2 : Cur b s k w2 := by rw [← hw2]; exact HC.out
    have K2 : Kp [b, bu] w w2 := by rw [← hw2]; exact (Kp.refl _ _).drewN _
    have B2 := Lib.hid (by rw [← hw2]; exact HB.out : Urb w2 bu S (.string (Txt [])) H P vp vh)
    have E2 := Lib.hid (by rw [← hw2]; exact HE.out.drewN nq : Env w2)
    clear hw2 c0 c1;have c0 := C2.c0;have H2 := Lib.hid C2;clear C2
    go_wp2_with fail
    refine (word_k 0 b k n s _ hs hkn hns H2.out E2.out c k2 x HX).mono ?_
    rintro e w3 ⟨rfl, C3, hK3⟩
    have HC3 := Lib.hid C3
    have HB3 := Lib.hid (B2.out.kp hK3 (by simp; omega))
    clear C3
    go_wp2_with fail
    refine (next_k b k2 s _ hs (by omega) HC3.out).mono ?_
    rintro e w4 ⟨rfl, C4, hK4⟩
    have t58 := T58.out;have HC4 := Lib.hid C4
    have HB4 := Lib.hid (HB3.out.kp hK4 (by simp; omega))
    clear C4
    go_wp2_with fail
    go_ret
    exact ⟨rfl, HC4.out, K2.to_ (hK3.trans hK4) (by simp), [], HB4.out, fun h => by simp at h⟩
   ·have HV2 := Lib.hid (HV.out.trans (by rw [if_neg h58]))
    have t58 : (nxt s.data.toList k2 == 58) = false := by rw [hn58]; exact decide_eq_false h58
    have T58 := Lib.hid t58
    have hx5 : x = 5 := by
     have hh := HX.out
     unfold wdR at hh
     split at hh
     ·injection hh with _ h3; injection h3 with _ h4; exact h4.symm
     ·injection hh with _ h3; injection h3 with _ h4; exact absurd h4.symm hx0
    have HX5 := Lib.hid hx5;clear h hn hV hx0 hn58 h58 t58 hx5
    rw [HV2.out]
    go_enter Tryz.func237, Tryz.ntmps237
    go_wp2_with fail
    go_quiet ((go_at_call 126; exact Calls.quiet_of_same (end_q (· == 64) s ⟨#[64]⟩ k _ hs hk m64)))
    rw [HN.out]
    obtain ⟨w2, hw2⟩ : ∃ w2, w.drewN nq = w2 := ⟨_, rfl⟩
    rw [hw2]
    have C2 : Cur b s k w2 := by rw [← hw2]; exact HC.out
    have K2 : Kp [b, bu] w w2 := by rw [← hw2]; exact (Kp.refl _ _).drewN _
    have B2 := Lib.hid (by rw [← hw2]; exact HB.out : Urb w2 bu S (.string (Txt [])) H P vp vh)
    have E2 := Lib.hid (by rw [← hw2]; exact HE.out.drewN nq : Env w2)
    clear hw2 c0 c1;have c0 := C2.c0;have H2 := Lib.hid C2;clear C2
    go_wp2_with fail
    refine (word_k 0 b k n s _ hs hkn hns H2.out E2.out c k2 x HX).mono ?_
    rintro e w3 ⟨rfl, C3, hK3⟩
    have HC3 := Lib.hid C3
    have HB3 := Lib.hid (B2.out.kp hK3 (by simp; omega))
    clear C3
    go_wp2_with fail
    refine (next_k b k2 s _ hs (by omega) HC3.out).mono ?_
    rintro e w4 ⟨rfl, C4, hK4⟩
    have t58 := T58.out;have HC4 := Lib.hid C4
    have HB4 := Lib.hid (HB3.out.kp hK4 (by simp; omega))
    clear C4
    go_wp2_with fail
    go_ret
    exact ⟨ret_int (by rw [HX5.out]), HC4.out, K2.to_ (hK3.trans hK4) (by simp), [], HB4.out, fun h => by simp at h⟩
set_option maxRecDepth 100000 in
set_option maxHeartbeats 400000 in
theorem fits_k (b k : Nat) (s : ByteArray) (w : World) (hs : s.size ≤ 2097152) (C : Cur b s k w) :
   Calls Tryz.prog 125 #[.pointer (some ⟨b, 0, none⟩)] w (CuP b s (if 1024 < s.size then 1024 else k) (.int .u8 (if 1024 < s.size then 4 else 0)) w) := by
 have c0 := C.c0;have HC := Lib.hid C;clear C
 by_cases h : 1024 < s.size
 ·have H1 := Lib.hid (if_pos h : (if 1024 < s.size then 1024 else k) = 1024)
  have H2 := Lib.hid (if_pos h : (if 1024 < s.size then (4 : Int) else 0) = 4)
  rw [H1.out, H2.out]
  go_enter Tryz.func125, Tryz.ntmps125
  go_wp2_with fail
  refine (fail_k b k 1024 4 s _ HC.out).mono ?_
  rintro e w1 ⟨rfl, C1, hK1⟩
  have HC1 := Lib.hid C1;clear C1
  go_wp2_with fail
  go_ret
  exact ⟨rfl, HC1.out, hK1⟩
 ·have H1 := Lib.hid (if_neg h : (if 1024 < s.size then 1024 else k) = k)
  have H2 := Lib.hid (if_neg h : (if 1024 < s.size then (4 : Int) else 0) = 0)
  rw [H1.out, H2.out]
  go_enter Tryz.func125, Tryz.ntmps125
  go_wp2_with fail
  go_ret
  exact ⟨rfl, HC.out, Kp.refl _ _⟩
end Ad
end Go.Proofs.YtbcaindpbeaheaaGreatDoor
namespace Go.Proofs.YtbcaindpbeaheaaGreatDoor
namespace Ad
open Go.RowKit Lx
def HstF (bu : Nat) (r : List UInt8 × Nat × Int) (S U P vp vh : Value) (w : World) : Prop :=
 ∃ H, Urb w bu S U (.string (Txt H)) P vp vh ∧ (r.2.2 = 0 → H = r.1)
theorem hstR_eq (l : List UInt8) (k t : Nat) (h : hstTo l k = t) : hstR l k = match hostO (slc l k t) with | some h => (h, t, 0) | none => ([], k, 5) := by unfold hstR; rw [h]; rfl
set_option maxRecDepth 100000 in
set_option maxHeartbeats 1000000 in
theorem host_k (b bu k : Nat) (s : ByteArray) (S U P vp vh : Value) (w : World) (hs : s.size ≤ 2097152) (hk : k ≤ s.size) (C : Cur b s k w) (B : Urb w bu S U (.string (Txt [])) P vp vh) (E : Env w) (hne : b ≠ bu) (hb7 : 7 ≤ b) :
   Calls Tryz.prog 238 #[.pointer (some ⟨b, 0, none⟩), .pointer (some ⟨bu, 0, none⟩)] w (PtP b bu s (hstR s.data.toList k).2.1 (hstR s.data.toList k).2.2 (HstF bu (hstR s.data.toList k) S U P vp vh) w) := by
 have c0 := C.c0;have c1 := C.c1;have HC := Lib.hid C;have HB := Lib.hid B;have HE := Lib.hid E;clear C B E
 obtain ⟨n1, hn1⟩ : ∃ n, endP hendC s.data.toList k = n := ⟨_, rfl⟩
 have hns1 : n1 ≤ s.size := by rw [← hn1, ← len_list]; exact endP_le _ _ _ (by rw [len_list]; exact hk)
 have hkn1 : k ≤ n1 := by rw [← hn1]; exact endP_ge _ _ _
 have HN1 := Lib.hid hn1
 have h7u : Kp [b, bu] w w := Kp.refl _ _
 by_cases h91 : atB s.data.toList k = 91
 ·have t91 : (nxt s.data.toList k == 91) = true := by rw [nxt_eq _ _ _ (by decide) (by decide), h91]; rfl
  have T91 := Lib.hid t91
  obtain ⟨n, hn⟩ : ∃ n, endP (· == 93) s.data.toList k = n := ⟨_, rfl⟩
  have HN := Lib.hid hn
  have hnk : k ≤ n := by rw [← hn]; exact endP_ge _ _ _
  have hns : n ≤ s.size := by rw [← hn, ← len_list]; exact endP_le _ _ _ (by rw [len_list]; exact hk)
  obtain ⟨m, hm⟩ : ∃ m, min (n + 1) s.size = m := ⟨_, rfl⟩
  have HX := Lib.hid (slc_txt s k m)
  have HV := Lib.hid (hstR_eq s.data.toList k m (by unfold hstTo; rw [if_pos h91, hn, len_list, hm]))
  have hkm : k ≤ m := by have := atB_lt s.data.toList k (by rw [h91]; decide); rw [len_list] at this; omega
  have hms : m ≤ s.size := by omega
  have HM := Lib.hid (by omega : min ((n : Int) + 1) (s.size : Int) = (m : Int))
  clear h91 t91 hn hn1 hm
  go_enter Tryz.func238, Tryz.ntmps238
  go_wp2_with fail
  go_quiet ((go_at_call 126; exact Calls.quiet_of_same (end_q hendC s ⟨#[58, 59, 63]⟩ k _ hs hk mHend)))
  rw [HN1.out]
  obtain ⟨w2, hw2⟩ : ∃ w2, w.drewN nq = w2 := ⟨_, rfl⟩
  rw [hw2]
  have C2 : Cur b s k w2 := by rw [← hw2]; exact HC.out
  have K2 : Kp [b, bu] w w2 := by rw [← hw2]; exact h7u.drewN _
  have B2 := Lib.hid (by rw [← hw2]; exact HB.out : Urb w2 bu S U (.string (Txt [])) P vp vh)
  have E2 := Lib.hid (by rw [← hw2]; exact HE.out.drewN nq : Env w2)
  clear hw2 c0 c1;have H2 := Lib.hid C2;clear C2
  go_wp2_with fail
  refine (next_k b k s _ hs hk H2.out).mono ?_
  rintro e w3 ⟨rfl, C3, hK3⟩
  have K3 := K2.to_ hK3 (by simp)
  have B3 := Lib.hid (B2.out.kp hK3 (by simp; omega))
  have E3 := Lib.hid (E2.out.kp hK3 (by simp; omega))
  have c0 := C3.c0;have c1 := C3.c1;have H3 := Lib.hid C3;clear C3 hK3;have t91 := T91.out
  go_wp2_with fail
  go_quiet ((go_at_call 126; exact Calls.quiet_of_same (end_q (· == 93) s ⟨#[93]⟩ k _ hs hk m93)))
  rw [HN.out, w64 n (by omega), HM.out]
  obtain ⟨w4, hw4⟩ : ∃ w4, w3.drewN nq = w4 := ⟨_, rfl⟩
  rw [hw4]
  have C4 : Cur b s k w4 := by rw [← hw4]; exact H3.out
  have K4 : Kp [b, bu] w w4 := by rw [← hw4]; exact K3.drewN _
  have B4 := Lib.hid (by rw [← hw4]; exact B3.out : Urb w4 bu S U (.string (Txt [])) P vp vh)
  have E4 : Env w4 := by rw [← hw4]; exact E3.out.drewN _
  clear hw4 c0 c1;have c0 := C4.c0;have c1 := C4.c1;have H4 := Lib.hid C4;clear C4
  go_wp2_with fail
  go_region_held3 (fun w' => w'.cell? ⟨b, 0, none⟩ = some (.string s) ∧ w'.cell? ⟨b, 1, none⟩ = some (.int .i64 k)) (go_keep)
   ((go_at_call 50; rw [HX.out]; refine (Host_any (Txt (slc s.data.toList k m)) _ (by rw [txt_size]; have := slc_le s.data.toList k m; omega) (Env.drewN E4 _)).mono ?_; rintro e w5 ⟨rfl, hB⟩; have C5 : Cur b s k w5 := Cur.below (Cur.drewN H4.out _) hB; have d0 := C5.c0; have d1 := C5.c1))
  have K5 : Kp [b, bu] w w5 := Kp.below (Kp.drewN K4 _) hB
  have B5 := Lib.hid (Blk.below (Blk.drewN B4.out _) hB (Nat.lt_of_lt_of_le B4.out.lt (Nat.le_refl _)))
  rw [txt_list]
  have c1' := C5.c1;have f1' := C5.f1;have HC5 := Lib.hid C5;clear C5 d0 d1 c0 c1
  cases ho : hostO (slc s.data.toList k m) with
  | none =>
    have HR := Lib.hid (HV.out.trans (by rw [ho]))
    clear ho
    go_wp2_with fail
    go_ret
    rw [HR.out]
    exact ⟨rfl, HC5.out, K5, [], B5.out, fun h => by simp at h⟩
  | some h =>
    have HR := Lib.hid (HV.out.trans (by rw [ho]))
    have u2 := B5.out.cell 2;have g2 := B5.out.frozen 2;have B6 := Lib.hid (B5.out.set_ 2 (.string (Txt h)))
    have HC6 := Lib.hid (Cur.far HC5.out (p := ⟨bu, 2, none⟩) hne (.string (Txt h)))
    have c1'' := HC6.out.c1;have f1'' := HC6.out.f1;clear ho
    go_wp2_with fail
    go_ret
    rw [HR.out]
    exact ⟨rfl, HC6.out.set m, (K5.setCell (p := ⟨bu, 2, none⟩) (.inl (by simp)) _).setCell (p := ⟨b, 1, none⟩) (.inl (by simp)) _, h, B6.out.far (p := ⟨b, 1, none⟩) (Ne.symm hne) _, fun _ => rfl⟩
 ·have t91 : (nxt s.data.toList k == 91) = false := by rw [nxt_eq _ _ _ (by decide) (by decide)]; exact beq_eq_false_iff_ne.2 h91
  have T91 := Lib.hid t91
  have HV := Lib.hid (hstR_eq s.data.toList k n1 (by unfold hstTo; rw [if_neg h91, hn1]))
  have HX := Lib.hid (slc_txt s k n1);clear h91 t91 hn1
  go_enter Tryz.func238, Tryz.ntmps238
  go_wp2_with fail
  go_quiet ((go_at_call 126; exact Calls.quiet_of_same (end_q hendC s ⟨#[58, 59, 63]⟩ k _ hs hk mHend)))
  rw [HN1.out]
  obtain ⟨w2, hw2⟩ : ∃ w2, w.drewN nq = w2 := ⟨_, rfl⟩
  rw [hw2]
  have C2 : Cur b s k w2 := by rw [← hw2]; exact HC.out
  have K2 : Kp [b, bu] w w2 := by rw [← hw2]; exact h7u.drewN _
  have B2 := Lib.hid (by rw [← hw2]; exact HB.out : Urb w2 bu S U (.string (Txt [])) P vp vh)
  have E2 := Lib.hid (by rw [← hw2]; exact HE.out.drewN nq : Env w2)
  clear hw2 c0 c1;have H2 := Lib.hid C2;clear C2
  go_wp2_with fail
  refine (next_k b k s _ hs hk H2.out).mono ?_
  rintro e w3 ⟨rfl, C3, hK3⟩
  have K3 := K2.to_ hK3 (by simp)
  have B3 := Lib.hid (B2.out.kp hK3 (by simp; omega))
  have E3 := Lib.hid (E2.out.kp hK3 (by simp; omega))
  have c0 := C3.c0;have c1 := C3.c1;have H3 := Lib.hid C3;clear C3 hK3;have t91 := T91.out;have K4 := K3;have B4 := B3;have E4 := E3.out;have H4 := H3
  go_wp2_with fail
  go_region_held3 (fun w' => w'.cell? ⟨b, 0, none⟩ = some (.string s) ∧ w'.cell? ⟨b, 1, none⟩ = some (.int .i64 k)) (go_keep)
   ((go_at_call 50; rw [HX.out]; refine (Host_any (Txt (slc s.data.toList k n1)) _ (by rw [txt_size]; have := slc_le s.data.toList k n1; omega) (Env.drewN E4 _)).mono ?_; rintro e w5 ⟨rfl, hB⟩; have C5 : Cur b s k w5 := Cur.below (Cur.drewN H4.out _) hB; have d0 := C5.c0; have d1 := C5.c1))
  have K5 : Kp [b, bu] w w5 := Kp.below (Kp.drewN K4 _) hB
  have B5 := Lib.hid (Blk.below (Blk.drewN B4.out _) hB (Nat.lt_of_lt_of_le B4.out.lt (Nat.le_refl _)))
  rw [txt_list]
  have c1' := C5.c1;have f1' := C5.f1;have HC5 := Lib.hid C5;clear C5 d0 d1 c0 c1
  cases ho : hostO (slc s.data.toList k n1) with
  | none =>
    have HR := Lib.hid (HV.out.trans (by rw [ho]))
    clear ho
    go_wp2_with fail
    go_ret
    rw [HR.out]
    exact ⟨rfl, HC5.out, K5, [], B5.out, fun h => by simp at h⟩
  | some h =>
    have HR := Lib.hid (HV.out.trans (by rw [ho]))
    have u2 := B5.out.cell 2;have g2 := B5.out.frozen 2;have B6 := Lib.hid (B5.out.set_ 2 (.string (Txt h)))
    have HC6 := Lib.hid (Cur.far HC5.out (p := ⟨bu, 2, none⟩) hne (.string (Txt h)))
    have c1'' := HC6.out.c1;have f1'' := HC6.out.f1;clear ho
    go_wp2_with fail
    go_ret
    rw [HR.out]
    exact ⟨rfl, HC6.out.set n1, (K5.setCell (p := ⟨bu, 2, none⟩) (.inl (by simp)) _).setCell (p := ⟨b, 1, none⟩) (.inl (by simp)) _, h, B6.out.far (p := ⟨b, 1, none⟩) (Ne.symm hne) _, fun _ => rfl⟩
def PrtF (bu : Nat) (r : Int × Nat × Int) (S U H vp vh : Value) (w : World) : Prop :=
 ∃ P, Urb w bu S U H (.int .i64 P) vp vh ∧ (r.2.2 = 0 → P = r.1)
theorem number_q (s : ByteArray) (w : World) (hs : s.size ≤ 2097152) :
   Calls Tryz.prog 69 #[.string s] w fun e w' => e = .returned (.tuple #[.int .i64 (numN s.data.toList), .int .u8 (numE s.data.toList)]) ∧ w' = w :=
 (Lx.number_any s w (by unfold maxLen; omega)).mono fun _ _ h => ⟨h.1, h.2.symm⟩
theorem prtR_c (l : List UInt8) (k t : Nat) (h : atB l k = 58) (ht : endP semq l (k + 1) = t) (N X : Int) (hN : numN (slc l (k + 1) t) = N) (hX : numE (slc l (k + 1) t) = X) :
   prtR l k = if X ≠ 0 then (0, k + 1, X) else if N < 1 ∨ 65535 < N then (0, k + 1, 3) else (N, t, 0) := by
 unfold prtR; rw [if_pos h, ht, hN, hX]
set_option maxRecDepth 100000 in
set_option maxHeartbeats 1000000 in
theorem port_k (b bu k : Nat) (s : ByteArray) (S U H vp vh : Value) (w : World) (hs : s.size ≤ 2097152) (hk : k ≤ s.size) (C : Cur b s k w) (B : Urb w bu S U H (.int .i64 0) vp vh) (hne : b ≠ bu) :
   Calls Tryz.prog 239 #[.pointer (some ⟨b, 0, none⟩), .pointer (some ⟨bu, 0, none⟩)] w (PtP b bu s (prtR s.data.toList k).2.1 (prtR s.data.toList k).2.2 (PrtF bu (prtR s.data.toList k) S U H vp vh) w) := by
 have c0 := C.c0;have c1 := C.c1;have HC := Lib.hid C;have HB := Lib.hid B;clear C B
 obtain ⟨t, ht⟩ : ∃ n, endP semq s.data.toList k = n := ⟨_, rfl⟩
 have hns1 : t ≤ s.size := by rw [← ht, ← len_list]; exact endP_le _ _ _ (by rw [len_list]; exact hk)
 have hkn1 : k ≤ t := by rw [← ht]; exact endP_ge _ _ _
 have HN1 := Lib.hid ht
 have h7u : Kp [b, bu] w w := Kp.refl _ _
 by_cases h58 : atB s.data.toList k = 58
 ·have t58 : (nxt s.data.toList k == 58) = true := by rw [nxt_eq _ _ _ (by decide) (by decide), h58]; rfl
  have T58 := Lib.hid t58
  have hlt : k < s.size := by have := atB_lt s.data.toList k (by rw [h58]; decide); rwa [len_list] at this
  have h5b : semq s[k].toNat = false := by
   have := atB_get s k hlt
   rw [h58] at this
   rw [← this]; rfl
  have ht1 : endP semq s.data.toList (k + 1) = t := by rw [← ht]; exact (endP_next semq s k hlt h5b).symm
  have hk1t : k + 1 ≤ t := by rw [← ht1]; exact endP_ge _ _ _
  obtain ⟨N, hN⟩ : ∃ N, numN (slc s.data.toList (k + 1) t) = N := ⟨_, rfl⟩
  obtain ⟨X, hX⟩ : ∃ X, numE (slc s.data.toList (k + 1) t) = X := ⟨_, rfl⟩
  have hV0 := prtR_c s.data.toList k t h58 ht1 N X hN hX;have HN := Lib.hid hN;have HE := Lib.hid hX
  have HX := Lib.hid (slc_txt s (k + 1) t)
  clear h58 t58 ht ht1 hN hX h5b
  by_cases hx0 : X = 0
  ·subst hx0
   have hV := hV0.trans (by rw [if_neg (by decide)])
   clear hV0
   by_cases hr : N < 1 ∨ 65535 < N
   ·have HV := Lib.hid (hV.trans (by rw [if_pos hr]))
    clear hV
    by_cases hr1 : N < 1
    ·have br : decide (N < 1) = true := decide_eq_true hr1
     clear hr
     go_enter Tryz.func239, Tryz.ntmps239
     go_wp2_with fail
     go_quiet ((go_at_call 126; exact Calls.quiet_of_same (end_q semq s ⟨#[59, 63]⟩ k _ hs hk mSemq)))
     rw [HN1.out]
     obtain ⟨w2, hw2⟩ : ∃ w2, w.drewN nq = w2 := ⟨_, rfl⟩
     rw [hw2]
     have C2 : Cur b s k w2 := by rw [← hw2]; exact HC.out
     have K2 : Kp [b, bu] w w2 := by rw [← hw2]; exact h7u.drewN _
     have B2 := Lib.hid (by rw [← hw2]; exact HB.out : Urb w2 bu S U H (.int .i64 0) vp vh)
     clear hw2 c0 c1;have H2 := Lib.hid C2;clear C2
     go_wp2_with fail
     refine (take_yes b k 58 s _ hs hlt H2.out T58.out).mono ?_
     rintro e w3 ⟨rfl, C3, hK3⟩
     have K3 := K2.to_ hK3 (by simp)
     have B3 := Lib.hid (B2.out.kp hK3 (by simp; omega))
     have c0 := C3.c0;have c1 := C3.c1;have H3 := Lib.hid C3;clear C3 hK3
     go_wp2_with fail
     go_quiet ((go_at_call 69; rw [HX.out]; exact Calls.quiet_of_same (number_q (Txt (slc s.data.toList (k + 1) t)) _ (by rw [txt_size]; have := slc_le s.data.toList (k + 1) t; omega))))
     rw [txt_list, HN.out, HE.out]
     obtain ⟨w4, hw4⟩ : ∃ w4, w3.drewN nq = w4 := ⟨_, rfl⟩
     rw [hw4]
     have C4 : Cur b s (k + 1) w4 := by rw [← hw4]; exact H3.out
     have K4 : Kp [b, bu] w w4 := by rw [← hw4]; exact K3.drewN _
     have B4 := Lib.hid (by rw [← hw4]; exact B3.out : Urb w4 bu S U H (.int .i64 0) vp vh)
     clear hw4 c0 c1;have H4 := Lib.hid C4;clear C4
     go_wp2_with fail
     go_ret
     rw [HV.out]
     exact ⟨rfl, H4.out, K4, 0, B4.out, fun h => by simp at h⟩
    ·have br : decide (N < 1) = false := decide_eq_false hr1
     have br2 : decide (65535 < N) = true := decide_eq_true (by omega)
     clear hr hr1
     go_enter Tryz.func239, Tryz.ntmps239
     go_wp2_with fail
     go_quiet ((go_at_call 126; exact Calls.quiet_of_same (end_q semq s ⟨#[59, 63]⟩ k _ hs hk mSemq)))
     rw [HN1.out]
     obtain ⟨w2, hw2⟩ : ∃ w2, w.drewN nq = w2 := ⟨_, rfl⟩
     rw [hw2]
     have C2 : Cur b s k w2 := by rw [← hw2]; exact HC.out
     have K2 : Kp [b, bu] w w2 := by rw [← hw2]; exact h7u.drewN _
     have B2 := Lib.hid (by rw [← hw2]; exact HB.out : Urb w2 bu S U H (.int .i64 0) vp vh)
     clear hw2 c0 c1;have H2 := Lib.hid C2;clear C2
     go_wp2_with fail
     refine (take_yes b k 58 s _ hs hlt H2.out T58.out).mono ?_
     rintro e w3 ⟨rfl, C3, hK3⟩
     have K3 := K2.to_ hK3 (by simp)
     have B3 := Lib.hid (B2.out.kp hK3 (by simp; omega))
     have c0 := C3.c0;have c1 := C3.c1;have H3 := Lib.hid C3;clear C3 hK3
     go_wp2_with fail
     go_quiet ((go_at_call 69; rw [HX.out]; exact Calls.quiet_of_same (number_q (Txt (slc s.data.toList (k + 1) t)) _ (by rw [txt_size]; have := slc_le s.data.toList (k + 1) t; omega))))
     rw [txt_list, HN.out, HE.out]
     obtain ⟨w4, hw4⟩ : ∃ w4, w3.drewN nq = w4 := ⟨_, rfl⟩
     rw [hw4]
     have C4 : Cur b s (k + 1) w4 := by rw [← hw4]; exact H3.out
     have K4 : Kp [b, bu] w w4 := by rw [← hw4]; exact K3.drewN _
     have B4 := Lib.hid (by rw [← hw4]; exact B3.out : Urb w4 bu S U H (.int .i64 0) vp vh)
     clear hw4 c0 c1;have H4 := Lib.hid C4;clear C4
     go_wp2_with fail
     go_ret
     rw [HV.out]
     exact ⟨rfl, H4.out, K4, 0, B4.out, fun h => by simp at h⟩
   ·have HV := Lib.hid (hV.trans (by rw [if_neg hr]))
    have br : decide (N < 1) = false := decide_eq_false (by omega)
    have br2 : decide (65535 < N) = false := decide_eq_false (by omega)
    clear hV hr
    go_enter Tryz.func239, Tryz.ntmps239
    go_wp2_with fail
    go_quiet ((go_at_call 126; exact Calls.quiet_of_same (end_q semq s ⟨#[59, 63]⟩ k _ hs hk mSemq)))
    rw [HN1.out]
    obtain ⟨w2, hw2⟩ : ∃ w2, w.drewN nq = w2 := ⟨_, rfl⟩
    rw [hw2]
    have C2 : Cur b s k w2 := by rw [← hw2]; exact HC.out
    have K2 : Kp [b, bu] w w2 := by rw [← hw2]; exact h7u.drewN _
    have B2 := Lib.hid (by rw [← hw2]; exact HB.out : Urb w2 bu S U H (.int .i64 0) vp vh)
    clear hw2 c0 c1;have H2 := Lib.hid C2;clear C2
    go_wp2_with fail
    refine (take_yes b k 58 s _ hs hlt H2.out T58.out).mono ?_
    rintro e w3 ⟨rfl, C3, hK3⟩
    have K3 := K2.to_ hK3 (by simp)
    have B3 := Lib.hid (B2.out.kp hK3 (by simp; omega))
    have c0 := C3.c0;have c1 := C3.c1;have H3 := Lib.hid C3;clear C3 hK3
    go_wp2_with fail
    go_quiet ((go_at_call 69; rw [HX.out]; exact Calls.quiet_of_same (number_q (Txt (slc s.data.toList (k + 1) t)) _ (by rw [txt_size]; have := slc_le s.data.toList (k + 1) t; omega))))
    rw [txt_list, HN.out, HE.out]
    obtain ⟨w4, hw4⟩ : ∃ w4, w3.drewN nq = w4 := ⟨_, rfl⟩
    rw [hw4]
    have C4 : Cur b s (k + 1) w4 := by rw [← hw4]; exact H3.out
    have K4 : Kp [b, bu] w w4 := by rw [← hw4]; exact K3.drewN _
    have B4 := Lib.hid (by rw [← hw4]; exact B3.out : Urb w4 bu S U H (.int .i64 0) vp vh)
    clear hw4 c0 c1;have H4 := Lib.hid C4;clear C4;have u3 := B4.out.cell 3;have g3 := B4.out.frozen 3;have B6 := Lib.hid (B4.out.set_ 3 (.int .i64 N))
    have HC6 := Lib.hid (Cur.far H4.out (p := ⟨bu, 3, none⟩) hne (.int .i64 N))
    have c1'' := HC6.out.c1;have f1'' := HC6.out.f1
    go_wp2_with fail
    go_ret
    rw [HV.out]
    exact ⟨rfl, HC6.out.set t, (K4.setCell (p := ⟨bu, 3, none⟩) (.inl (by simp)) _).setCell (p := ⟨b, 1, none⟩) (.inl (by simp)) _, N, B6.out.far (p := ⟨b, 1, none⟩) (Ne.symm hne) _, fun _ => rfl⟩
  ·have bx : (X != 0) = true := by rw [bne_iff_ne]; exact hx0
   have HV := Lib.hid (hV0.trans (by rw [if_pos hx0]))
   have HX0 := Lib.hid hx0;clear hV0 hx0
   go_enter Tryz.func239, Tryz.ntmps239
   go_wp2_with fail
   go_quiet ((go_at_call 126; exact Calls.quiet_of_same (end_q semq s ⟨#[59, 63]⟩ k _ hs hk mSemq)))
   rw [HN1.out]
   obtain ⟨w2, hw2⟩ : ∃ w2, w.drewN nq = w2 := ⟨_, rfl⟩
   rw [hw2]
   have C2 : Cur b s k w2 := by rw [← hw2]; exact HC.out
   have K2 : Kp [b, bu] w w2 := by rw [← hw2]; exact h7u.drewN _
   have B2 := Lib.hid (by rw [← hw2]; exact HB.out : Urb w2 bu S U H (.int .i64 0) vp vh)
   clear hw2 c0 c1;have H2 := Lib.hid C2;clear C2
   go_wp2_with fail
   refine (take_yes b k 58 s _ hs hlt H2.out T58.out).mono ?_
   rintro e w3 ⟨rfl, C3, hK3⟩
   have K3 := K2.to_ hK3 (by simp)
   have B3 := Lib.hid (B2.out.kp hK3 (by simp; omega))
   have c0 := C3.c0;have c1 := C3.c1;have H3 := Lib.hid C3;clear C3 hK3
   go_wp2_with fail
   go_quiet ((go_at_call 69; rw [HX.out]; exact Calls.quiet_of_same (number_q (Txt (slc s.data.toList (k + 1) t)) _ (by rw [txt_size]; have := slc_le s.data.toList (k + 1) t; omega))))
   rw [txt_list, HN.out, HE.out]
   obtain ⟨w4, hw4⟩ : ∃ w4, w3.drewN nq = w4 := ⟨_, rfl⟩
   rw [hw4]
   have C4 : Cur b s (k + 1) w4 := by rw [← hw4]; exact H3.out
   have K4 : Kp [b, bu] w w4 := by rw [← hw4]; exact K3.drewN _
   have B4 := Lib.hid (by rw [← hw4]; exact B3.out : Urb w4 bu S U H (.int .i64 0) vp vh)
   clear hw4 c0 c1;have H4 := Lib.hid C4;clear C4
   go_wp2_with fail
   go_ret
   rw [HV.out]
   exact ⟨rfl, H4.out, K4, 0, B4.out, fun h => absurd h HX0.out⟩
 ·have t58 : (nxt s.data.toList k == 58) = false := by rw [nxt_eq _ _ _ (by decide) (by decide)]; exact beq_eq_false_iff_ne.2 h58
  have T58 := Lib.hid t58
  by_cases hkt : k < t
  ·have HV := Lib.hid (by unfold prtR; rw [if_neg h58, ht, if_pos hkt] : prtR s.data.toList k = (0, k, 5))
   clear h58 t58 ht
   go_enter Tryz.func239, Tryz.ntmps239
   go_wp2_with fail
   go_quiet ((go_at_call 126; exact Calls.quiet_of_same (end_q semq s ⟨#[59, 63]⟩ k _ hs hk mSemq)))
   rw [HN1.out]
   obtain ⟨w2, hw2⟩ : ∃ w2, w.drewN nq = w2 := ⟨_, rfl⟩
   rw [hw2]
   have C2 : Cur b s k w2 := by rw [← hw2]; exact HC.out
   have K2 : Kp [b, bu] w w2 := by rw [← hw2]; exact h7u.drewN _
   have B2 := Lib.hid (by rw [← hw2]; exact HB.out : Urb w2 bu S U H (.int .i64 0) vp vh)
   clear hw2 c0 c1;have H2 := Lib.hid C2;clear C2
   go_wp2_with fail
   refine (take_no b k 58 s _ hs (by omega) H2.out T58.out).mono ?_
   rintro e w3 ⟨rfl, C3, hK3⟩
   have K3 := K2.to_ hK3 (by simp)
   have B3 := Lib.hid (B2.out.kp hK3 (by simp; omega))
   have c1 := C3.c1;have H3 := Lib.hid C3;clear C3 hK3
   go_wp2_with fail
   go_ret
   rw [HV.out]
   exact ⟨rfl, H3.out, K3, 0, B3.out, fun h => by simp at h⟩
  ·have HV := Lib.hid (by unfold prtR; rw [if_neg h58, ht, if_neg hkt] : prtR s.data.toList k = (0, k, 0))
   clear h58 t58 ht
   go_enter Tryz.func239, Tryz.ntmps239
   go_wp2_with fail
   go_quiet ((go_at_call 126; exact Calls.quiet_of_same (end_q semq s ⟨#[59, 63]⟩ k _ hs hk mSemq)))
   rw [HN1.out]
   obtain ⟨w2, hw2⟩ : ∃ w2, w.drewN nq = w2 := ⟨_, rfl⟩
   rw [hw2]
   have C2 : Cur b s k w2 := by rw [← hw2]; exact HC.out
   have K2 : Kp [b, bu] w w2 := by rw [← hw2]; exact h7u.drewN _
   have B2 := Lib.hid (by rw [← hw2]; exact HB.out : Urb w2 bu S U H (.int .i64 0) vp vh)
   clear hw2 c0 c1;have H2 := Lib.hid C2;clear C2
   go_wp2_with fail
   refine (take_no b k 58 s _ hs (by omega) H2.out T58.out).mono ?_
   rintro e w3 ⟨rfl, C3, hK3⟩
   have K3 := K2.to_ hK3 (by simp)
   have B3 := Lib.hid (B2.out.kp hK3 (by simp; omega))
   have c1 := C3.c1;have H3 := Lib.hid C3;clear C3 hK3
   go_wp2_with fail
   go_ret
   rw [HV.out]
   exact ⟨rfl, H3.out, K3, 0, B3.out, fun _ => rfl⟩
end Ad
end Go.Proofs.YtbcaindpbeaheaaGreatDoor
namespace Go.Proofs.YtbcaindpbeaheaaGreatDoor
namespace Ad
open Go.RowKit Lx
def NoB (w : World) (g : Nat) : Prop := ∀ i t, w.cell? ⟨g, i, none⟩ ≠ some (.bool t)
theorem NoB.cur {b k : Nat} {s : ByteArray} {w : World} (h : Cur b s k w) : NoB w b := by
 intro i t hc
 rw [Blk.cell h i] at hc
 match i, hc with
 | 0, hc => simp at hc
 | 1, hc => simp at hc
 | i + 2, hc => simp at hc
theorem NoB.urb {w : World} {bu : Nat} {S U H : ByteArray} {P : Int} {a1 a2 : Option Addr} {n1 c1 n2 c2 : Nat} (h : Urb w bu (.string S) (.string U) (.string H) (.int .i64 P) (.slice a1 n1 c1) (.slice a2 n2 c2)) : NoB w bu := by
 intro i t hc
 rw [Blk.cell h i] at hc
 match i, hc with
 | 0, hc => simp at hc
 | 1, hc => simp at hc
 | 2, hc => simp at hc
 | 3, hc => simp at hc
 | 4, hc => simp at hc
 | 5, hc => simp at hc
 | i + 6, hc => simp at hc
theorem PmIn.kpA {X : List Nat} {w w' : World} {B : Nat} {v : Value} {l : List Prm} (h : PmIn B w v l) (k : Kp X w w') (hB : B ≤ w.heap.size) (hX : ∀ x ∈ X, NoB w x) : PmIn B w' v l := by
 obtain ⟨n, c, hn, hc, h0 | ⟨b, o, e, hb, hcell⟩⟩ := h
 ·exact ⟨n, c, hn, hc, .inl h0⟩
 ·refine ⟨n, c, hn, hc, .inr ⟨b, o, e, hb, fun j u hu => ?_⟩⟩
  have hbx : b ∉ X := by
   intro hm
   cases l with
   | nil => simp [pcl] at hu
   | cons p t => exact hX b hm (o + 2) p.2.2 (hcell 2 (.bool p.2.2) rfl)
  exact (k.cell (p := ⟨b, o + j, none⟩) (by show b < _; omega) hbx).trans (hcell j u hu)
theorem PmIn.grow {w w' : World} {v : Value} {l : List Prm} (h : PmIn w.heap.size w v l) {X : List Nat} (k : Kp X w w') (hX : ∀ x ∈ X, NoB w x) : PmIn w'.heap.size w' v l :=
 (h.kpA k (Nat.le_refl _) hX).more k.size
def PrsF (bu : Nat) (r : List Prm × Nat × Int) (S U H P : Value) (w : World) : Prop :=
 ∃ A n c, Urb w bu S U H P (.slice A n c) (.slice none 0 0) ∧ PmIn w.heap.size w (.slice A n c) (srt r.1)
set_option maxRecDepth 100000 in
set_option maxHeartbeats 1000000 in
theorem params_k (ends : Int → Bool) (b bu k : Nat) (s : ByteArray) (S U H : List UInt8) (P : Int) (w : World) (hs : s.size ≤ 2097152) (hk : k ≤ s.size) (C : Cur b s k w) (B : Urb w bu (.string (Txt S)) (.string (Txt U)) (.string (Txt H)) (.int .i64 P) (.slice none 0 0) (.slice none 0 0)) (E : Env w) (hne : b ≠ bu) (hb7 : 7 ≤ b)
   (hends : ends = if S = telL then (· == 59) else semq) :
   Calls Tryz.prog 240 #[.pointer (some ⟨b, 0, none⟩), .pointer (some ⟨bu, 0, none⟩)] w
    (PtP b bu s (prmsR ends s.data.toList k).2.1 (prmsR ends s.data.toList k).2.2 (PrsF bu (prmsR ends s.data.toList k) (.string (Txt S)) (.string (Txt U)) (.string (Txt H)) (.int .i64 P)) w) := by
 have HC := Lib.hid C;have HB := Lib.hid B;have HE := Lib.hid E;have u0 := B.cell 0
 have eS : (Txt S).toList = S := by rw [Lib.toList_data]; rfl
 clear C B E
 obtain ⟨R, hR⟩ : ∃ R, prmsR ends s.data.toList k = R := ⟨_, rfl⟩
 have HR := Lib.hid hR
 rw [hR]
 clear hR
 by_cases ht : S = telL
 ·have bt : ((Txt S).toList == [116, 101, 108]) = true := by rw [eS, ht]; rfl
  have HEn := Lib.hid (by rw [hends, if_pos ht] : ends = (· == 59))
  clear hends ht eS
  go_enter Tryz.func240, Tryz.ntmps240
  go_wp2_with fail
  refine (pairs_k (· == 59) ends 1 b k s ⟨#[59]⟩ ⟨#[59]⟩ w hs hk HC.out HE.out hb7 m59 (by rw [HEn.out]; exact m59) rfl rfl).mono ?_
  rintro e w2 ⟨v, rfl, hP, hC, hK, hl⟩
  have hR2 : prsF (· == 59) ends 1 (s.data.toList.length + 1) s.data.toList k [] = R := HR.out
  rw [hR2] at hP hC ⊢
  obtain ⟨A, c, rfl⟩ := hP.form
  have HB2 := Lib.hid (HB.out.kp hK (by simp; omega))
  have u4 := HB2.out.cell 4;have g4 := HB2.out.frozen 4;have B3 := Lib.hid (HB2.out.set_ 4 (.slice A (srt R.1).length c))
  have hK3 := (Kp.refl [bu] w2).setCell (p := ⟨bu, 4, none⟩) (.inl (by simp)) (.slice A (srt R.1).length c)
  have P3 := Lib.hid (hP.grow hK3 (by intro x hx; rw [List.mem_singleton.1 hx]; exact NoB.urb HB2.out))
  have C3 := Lib.hid (hC.far (p := ⟨bu, 4, none⟩) hne (.slice A (srt R.1).length c))
  have K3 := Lib.hid ((hK.mono (Y := [b, bu]) (by simp)).setCell (p := ⟨bu, 4, none⟩) (.inl (by simp)) (.slice A (srt R.1).length c))
  clear hP hC hK hK3 hl hR2 u0
  go_wp2_with fail
  go_ret
  exact ⟨rfl, C3.out, K3.out, A, _, c, B3.out, P3.out⟩
 ·have bt : ((Txt S).toList == [116, 101, 108]) = false := by rw [eS]; exact beq_eq_false_iff_ne.2 ht
  have HEn := Lib.hid (by rw [hends, if_neg ht] : ends = semq)
  clear hends ht eS
  go_enter Tryz.func240, Tryz.ntmps240
  go_wp2_with fail
  refine (pairs_k (· == 59) ends 1 b k s ⟨#[59]⟩ ⟨#[59, 63]⟩ w hs hk HC.out HE.out hb7 m59 (by rw [HEn.out]; exact mSemq) rfl rfl).mono ?_
  rintro e w2 ⟨v, rfl, hP, hC, hK, hl⟩
  have hR2 : prsF (· == 59) ends 1 (s.data.toList.length + 1) s.data.toList k [] = R := HR.out
  rw [hR2] at hP hC ⊢
  obtain ⟨A, c, rfl⟩ := hP.form
  have HB2 := Lib.hid (HB.out.kp hK (by simp; omega))
  have u4 := HB2.out.cell 4;have g4 := HB2.out.frozen 4;have B3 := Lib.hid (HB2.out.set_ 4 (.slice A (srt R.1).length c))
  have hK3 := (Kp.refl [bu] w2).setCell (p := ⟨bu, 4, none⟩) (.inl (by simp)) (.slice A (srt R.1).length c)
  have P3 := Lib.hid (hP.grow hK3 (by intro x hx; rw [List.mem_singleton.1 hx]; exact NoB.urb HB2.out))
  have C3 := Lib.hid (hC.far (p := ⟨bu, 4, none⟩) hne (.slice A (srt R.1).length c))
  have K3 := Lib.hid ((hK.mono (Y := [b, bu]) (by simp)).setCell (p := ⟨bu, 4, none⟩) (.inl (by simp)) (.slice A (srt R.1).length c))
  clear hP hC hK hK3 hl hR2 u0
  go_wp2_with fail
  go_ret
  exact ⟨rfl, C3.out, K3.out, A, _, c, B3.out, P3.out⟩
def HdsF (bu : Nat) (r : List Prm × Nat × Int) (S U H P vp : Value) (ps : List Prm) (w : World) : Prop :=
 ∃ A n c, Urb w bu S U H P vp (.slice A n c) ∧ PmIn w.heap.size w vp ps ∧ PmIn w.heap.size w (.slice A n c) (srt r.1)
set_option maxRecDepth 100000 in
set_option maxHeartbeats 1000000 in
theorem heads_k (b bu k : Nat) (s : ByteArray) (S U H : List UInt8) (P : Int) (vp : Value) (ps : List Prm) (w : World) (hs : s.size ≤ 2097152) (hk : k ≤ s.size) (C : Cur b s k w) (B : Urb w bu (.string (Txt S)) (.string (Txt U)) (.string (Txt H)) (.int .i64 P) vp (.slice none 0 0)) (hPs : PmIn w.heap.size w vp ps) (E : Env w) (hne : b ≠ bu) (hb7 : 7 ≤ b) :
   Calls Tryz.prog 241 #[.pointer (some ⟨b, 0, none⟩), .pointer (some ⟨bu, 0, none⟩)] w
    (PtP b bu s (headsR s.data.toList k).2.1 (headsR s.data.toList k).2.2 (HdsF bu (headsR s.data.toList k) (.string (Txt S)) (.string (Txt U)) (.string (Txt H)) (.int .i64 P) vp ps) w) := by
 obtain ⟨A0, c0, rfl⟩ := hPs.form
 have HPs := Lib.hid hPs;have HC := Lib.hid C;have HB := Lib.hid B;have HE := Lib.hid E;clear C B E hPs
 obtain ⟨R, hR⟩ : ∃ R, headsR s.data.toList k = R := ⟨_, rfl⟩
 have HR := Lib.hid hR
 rw [hR]
 clear hR
 go_enter Tryz.func241, Tryz.ntmps241
 go_wp2_with fail
 refine (pairs_k headC (· == 38) 2 b k s ⟨#[63, 38]⟩ ⟨#[38]⟩ w hs hk HC.out HE.out hb7 mHead m38 rfl rfl).mono ?_
 rintro e w2 ⟨v, rfl, hP, hC, hK, hl⟩
 have hR2 : prsF headC (· == 38) 2 (s.data.toList.length + 1) s.data.toList k [] = R := HR.out
 rw [hR2] at hP hC ⊢
 obtain ⟨A, c, rfl⟩ := hP.form
 have HB2 := Lib.hid (HB.out.kp hK (by simp; omega))
 have u5 := HB2.out.cell 5;have g5 := HB2.out.frozen 5;have B3 := Lib.hid (HB2.out.set_ 5 (.slice A (srt R.1).length c))
 have hK3 := (Kp.refl [bu] w2).setCell (p := ⟨bu, 5, none⟩) (.inl (by simp)) (.slice A (srt R.1).length c)
 have hnb : ∀ x ∈ [bu], NoB w2 x := by intro x hx; rw [List.mem_singleton.1 hx]; exact NoB.urb HB2.out
 have P3 := Lib.hid (hP.grow hK3 hnb)
 have Q3 := Lib.hid ((HPs.out.grow hK (by intro x hx; rw [List.mem_singleton.1 hx]; exact NoB.cur HC.out)).grow hK3 hnb)
 have C3 := Lib.hid (hC.far (p := ⟨bu, 5, none⟩) hne (.slice A (srt R.1).length c))
 have K3 := Lib.hid ((hK.mono (Y := [b, bu]) (by simp)).setCell (p := ⟨bu, 5, none⟩) (.inl (by simp)) (.slice A (srt R.1).length c))
 clear hP hC hK hK3 hl hR2 hnb
 go_wp2_with fail
 go_ret
 exact ⟨rfl, C3.out, K3.out, A, _, c, B3.out, Q3.out, P3.out⟩
end Ad
end Go.Proofs.YtbcaindpbeaheaaGreatDoor
namespace Go.Proofs.YtbcaindpbeaheaaGreatDoor
namespace Ad
open Go.RowKit Lx
theorem isB_kp {B g : Nat} {bs : List Value} {w w' : World} {X : List Nat} (h : IsB B g bs w) (k : Kp X w w') (hX : ∀ x ∈ X, x < B) : IsB B g bs w' := by
 rcases h with ⟨h1, v, h2, h3, h4⟩ | ⟨h1, v, h2, h3, h4⟩
 ·exact .inl ⟨h1, v, (k.block g (lt_of_some h2) (fun hm => by have := hX g hm; omega)).trans h2, own_kp h3 k hX, h4⟩
 ·exact .inr ⟨h1, v, (k.block g (lt_of_some h2) (fun hm => by have := hX g hm; omega)).trans h2, own_kp h3 k hX, h4⟩
def telQ (plus : List UInt8) (l : List UInt8) (k j t : Nat) (r : List UInt8 × Nat) : List UInt8 × Nat × Int :=
 if r.2 < t - j then ([], j + r.2, 5) else if r.1 = [] then ([], k, 5) else if 30 < r.1.length then ([], k, 4) else (plus ++ r.1, t, 0)
theorem telR_q (l : List UInt8) (k t : Nat) (ht : endP (· == 59) l k = t) :
   telR l k = if atB l k = 43 then telQ [43] l k (k + 1) t (telS false (slc l (k + 1) t)) else telQ [] l k k t (telS true (slc l k t)) := by
 unfold telR telQ; rw [ht]; rfl
theorem telS_dig (o : Bool) (c : UInt8) (t : List UInt8) (h : (digitI c.toNat || (o && locC c.toNat)) = true) : telS o (c :: t) = (c :: (telS o t).1, (telS o t).2 + 1) := by rw [telS, if_pos h]
theorem telS_sep (o : Bool) (c : UInt8) (t : List UInt8) (h : (digitI c.toNat || (o && locC c.toNat)) = false) (h2 : sepC c.toNat = true) : telS o (c :: t) = ((telS o t).1, (telS o t).2 + 1) := by rw [telS, if_neg (by rw [h]; decide), if_pos h2]
theorem telS_bad (o : Bool) (c : UInt8) (t : List UInt8) (h : (digitI c.toNat || (o && locC c.toNat)) = false) (h2 : sepC c.toNat = false) : telS o (c :: t) = ([], 0) := by rw [telS, if_neg (by rw [h]; decide), if_neg (by rw [h2]; decide)]
theorem mSep : memB (⟨#[45, 46, 40, 41]⟩ : ByteArray).data.toList = sepC := memB_fun _ _ fun c => by show ((45 : Int) == c || ((46 : Int) == c || ((40 : Int) == c || ((41 : Int) == c || false)))) = _; unfold sepC; rw [Bool.or_false, comm_beq 45, comm_beq 46, comm_beq 40, comm_beq 41]
theorem mLoc : memB (⟨#[42, 35]⟩ : ByteArray).data.toList = locC := memB_fun _ _ fun c => by show ((42 : Int) == c || ((35 : Int) == c || false)) = _; unfold locC; rw [Bool.or_false, comm_beq 42, comm_beq 35]
theorem sep_neg (c : UInt8) : decide (Lib.indexByte [45, 46, 40, 41] c < 0) = !sepC c.toNat := by
 have h := mem_u8 [45, 46, 40, 41] c
 have e : memB [45, 46, 40, 41] c.toNat = sepC c.toNat := congrFun mSep _
 rw [e] at h
 rw [← h]
 by_cases h0 : 0 ≤ Lib.indexByte [45, 46, 40, 41] c
 ·rw [decide_eq_true h0, decide_eq_false (by omega)]; rfl
 ·rw [decide_eq_false h0, decide_eq_true (by omega)]; rfl
theorem loc_pos (c : UInt8) : decide (0 ≤ Lib.indexByte [42, 35] c) = (true && locC c.toNat) := by
 have h := mem_u8 [42, 35] c
 have e : memB [42, 35] c.toNat = locC c.toNat := congrFun mLoc _
 rw [h, e]; rfl
theorem non_pos (c : UInt8) : decide (0 ≤ Lib.indexByte [] c) = (false && locC c.toNat) := by
 have h := mem_u8 [] c
 rw [h]; rfl
set_option maxRecDepth 100000 in
set_option maxHeartbeats 2000000 in
theorem number_k (b bu k : Nat) (s : ByteArray) (S H P vp vh : Value) (w : World) (hs : s.size ≤ 2097152) (hk : k ≤ s.size) (C : Cur b s k w) (B : Urb w bu S (.string (Txt [])) H P vp vh) (hne : b ≠ bu) :
   Calls Tryz.prog 169 #[.pointer (some ⟨b, 0, none⟩), .pointer (some ⟨bu, 0, none⟩)] w (PtP b bu s (telR s.data.toList k).2.1 (telR s.data.toList k).2.2 (UsrF bu (telR s.data.toList k) S H P vp vh) w) := by
 have c0 := C.c0;have c1 := C.c1;have hbw := C.lt;have hbuw := B.lt;have HC := Lib.hid C;have HB := Lib.hid B;clear C B
 obtain ⟨t, ht⟩ : ∃ n, endP (· == 59) s.data.toList k = n := ⟨_, rfl⟩
 have hts : t ≤ s.size := by rw [← ht, ← len_list]; exact endP_le _ _ _ (by rw [len_list]; exact hk)
 have hkt : k ≤ t := by rw [← ht]; exact endP_ge _ _ _
 have HT := Lib.hid ht;have hV0 := telR_q s.data.toList k t ht
 have h7u : Kp [b, bu] w w := Kp.refl _ _
 by_cases h43 : atB s.data.toList k = 43
 ·have t43 : (nxt s.data.toList k == 43) = true := by rw [nxt_eq _ _ _ (by decide) (by decide), h43]; rfl
  have T43 := Lib.hid t43
  have hlt : k < s.size := by have := atB_lt s.data.toList k (by rw [h43]; decide); rwa [len_list] at this
  have h5b : ((s[k].toNat : Int) == 59) = false := by
   have := atB_get s k hlt
   rw [h43] at this
   rw [← this]; rfl
  have hk1 : k + 1 ≤ t := by
   have h9 := endP_next (· == 59) s k hlt h5b
   rw [ht] at h9
   rw [h9]; exact endP_ge _ _ _
  have HV := Lib.hid (hV0.trans (by rw [if_pos h43]))
  obtain ⟨r1, r2, hr⟩ : ∃ r1 r2, telS false (slc s.data.toList (k + 1) t) = (r1, r2) := ⟨_, _, rfl⟩
  have HR := Lib.hid hr
  rw [hr] at HV
  clear h43 t43 ht hV0 h5b hr
  go_enter Tryz.func169, Tryz.ntmps169
  go_wp2_with fail
  go_quiet ((go_at_call 126; exact Calls.quiet_of_same (end_q (· == 59) s ⟨#[59]⟩ k _ hs hk m59)))
  rw [HT.out]
  obtain ⟨w2, hw2⟩ : ∃ w2, w.drewN nq = w2 := ⟨_, rfl⟩
  rw [hw2]
  have C2 : Cur b s k w2 := by rw [← hw2]; exact HC.out
  have K2 : Kp [b, bu] w w2 := by rw [← hw2]; exact h7u.drewN _
  have B2 := Lib.hid (by rw [← hw2]; exact HB.out : Urb w2 bu S (.string (Txt [])) H P vp vh)
  clear hw2 c0 c1;have H2 := Lib.hid C2;clear C2
  go_wp2_with fail
  refine (take_yes b k 43 s _ hs hlt H2.out T43.out).mono ?_
  rintro e w3 ⟨rfl, C3, hK3⟩
  have K3 := K2.to_ hK3 (by simp)
  have B3 := Lib.hid (B2.out.kp hK3 (by simp; omega))
  have H3 := Lib.hid C3;have hs3 := K3.size;clear C3 hK3
  go_wp2_with fail
  go_loopg [10] (s.size + 1) (fun gg _ wr => ∃ (j : Nat) (acc : List UInt8), (k + 1) ≤ j ∧ j ≤ t ∧ t - j < gg ∧ Cur b s j wr ∧ IsB w3.heap.size w3.heap.size (Lib.byteCells acc) wr ∧ acc.length ≤ j ∧ acc ++ (telS false (slc s.data.toList j t)).1 = r1 ∧ j + (telS false (slc s.data.toList j t)).2 = (k + 1) + r2 ∧ Kp [b] w3 wr)
  case atStart => exact ⟨(k + 1), [], Nat.le_refl _, hk1, by omega, H3.out.alloc _, fresh_isB w3, Nat.zero_le _, by rw [HR.out]; rfl, by rw [HR.out], (Kp.refl [b] w3).alloc _⟩
  case round =>
   obtain ⟨j, acc, hj0, hjt, hg, hC, hI, hal, hr1, hr2, hK⟩ := hrel
   have c0 := hC.c0;have c1 := hC.c1;have f1 := hC.f1;have HC4 := Lib.hid hC;have HI := Lib.hid hI;have hszr := hK.size
   have hlen : (Lib.byteCells acc).length ≤ j := by rw [Lib.byteCells_length]; exact hal
   clear hC hI
   by_cases hlt4 : j < t
   ·have hjs : j < s.size := by omega
    have hst := slc_step s j t hlt4 hts
    rw [hst] at hr1 hr2
    have hsn := sep_neg s[j]
    have hlp := non_pos s[j]
    cases hd : digitI s[j].toNat
    ·cases hl : (false && locC s[j].toNat)
     ·have hdl : (digitI s[j].toNat || (false && locC s[j].toNat)) = false := by rw [hd, hl]; rfl
      cases hsp : sepC s[j].toNat
      ·rw [telS_bad _ _ _ hdl hsp] at hr1 hr2
       have hlt5 : r2 < t - (k + 1) := by simp at hr2; omega
       have hjr : j = (k + 1) + r2 := by simpa using hr2
       have HV2 := Lib.hid (HV.out.trans (by unfold telQ; rw [if_pos hlt5] : _ = (([] : List UInt8), (k + 1) + r2, (5 : Int))))
       have HJ := Lib.hid hjr;have HD := Lib.hid hd
       rw [hsp] at hsn
       rw [hl] at hlp
       have HLP := Lib.hid hlp;have HSN := Lib.hid hsn;clear hd hl hsp hdl hjr hr1 hr2 hst hsn hlp
       go_wp2_with fail
       go_quiet (fail)
       go_wp2_with fail
       refine (adigit_any _ _).mono ?_
       rintro e w5 ⟨rfl, rfl⟩
       rw [HD.out]
       go_wp2_with fail
       refine (Tryz.strings_IndexByte _ _ _).mono ?_
       rintro e w6 ⟨rfl, rfl⟩
       have hlp := HLP.out
       go_wp2_with fail
       refine (Tryz.strings_IndexByte _ _ _).mono ?_
       rintro e w6 ⟨rfl, rfl⟩
       have hsn := HSN.out
       go_wp2_with fail
       go_ret
       rw [HV2.out]
       exact ⟨rfl, by have h := HC4.out; rw [HJ.out] at h; exact h, (K3.to_ hK (by simp)).drewN _, [], Blk.drewN (B3.out.kp hK (by simp; omega)) _, fun h => by simp at h⟩
      ·rw [telS_sep _ _ _ hdl hsp] at hr1 hr2
       have HR1 := Lib.hid hr1;have HR2 := Lib.hid hr2;have HD := Lib.hid hd
       rw [hsp] at hsn
       rw [hl] at hlp
       have HLP := Lib.hid hlp;have HSN := Lib.hid hsn;clear hd hl hsp hdl hr1 hr2 hst hsn hlp
       go_wp2_with fail
       go_quiet (fail)
       go_wp2_with fail
       refine (adigit_any _ _).mono ?_
       rintro e w5 ⟨rfl, rfl⟩
       rw [HD.out]
       go_wp2_with fail
       refine (Tryz.strings_IndexByte _ _ _).mono ?_
       rintro e w6 ⟨rfl, rfl⟩
       have hlp := HLP.out
       go_wp2_with fail
       refine (Tryz.strings_IndexByte _ _ _).mono ?_
       rintro e w6 ⟨rfl, rfl⟩
       have hsn := HSN.out
       go_wp2_with fail
       have hK9 := ((Kp.refl [b] wr).drewN nq).setCell (p := ⟨b, 1, none⟩) (.inl (by simp)) (.int .i64 ((j : Int) + 1))
       go_roundg (t - j)
       case measure => omega
       case rel => exact ⟨j + 1, acc, by omega, by omega, by omega, by have h := (show Cur b s j (wr.drewN nq) from Blk.drewN HC4.out nq).set (j + 1); rwa [Int.natCast_add] at h, isB_kp HI.out hK9 (by simp; omega), by omega, HR1.out, by have := HR2.out; omega, hK.trans hK9⟩
     ·have hdl : (digitI s[j].toNat || (false && locC s[j].toNat)) = true := by rw [hd, hl]; rfl
      rw [telS_dig _ _ _ hdl] at hr1 hr2
      have HR1 := Lib.hid hr1;have HR2 := Lib.hid hr2;have HD := Lib.hid hd
      rw [hl] at hlp
      have HLP := Lib.hid hlp;clear hd hl hdl hr1 hr2 hst hsn hlp
      go_wp2_with fail
      go_quiet (fail)
      go_wp2_with fail
      refine (adigit_any _ _).mono ?_
      rintro e w5 ⟨rfl, rfl⟩
      rw [HD.out]
      go_wp2_with fail
      refine (Tryz.strings_IndexByte _ _ _).mono ?_
      rintro e w6 ⟨rfl, rfl⟩
      have hlp := HLP.out
      go_wp2_with fail
      refine (writeByte_any w3.heap.size w3.heap.size _ _ _ (isB_kp HI.out ((Kp.refl [] wr).drewN nq) (by simp)) (by omega) (by simp; omega)).mono ?_
      rintro e w7 ⟨rfl, hb7, hk7⟩
      have Hb7 := Lib.hid (isB_of hb7 rfl)
      have hC7 : Cur b s j w7 := Blk.below (Blk.drewN HC4.out nq) hk7.below (by omega)
      have hK7 := (hK.drewN nq).kb hk7.below (by omega)
      have c1 := hC7.c1;have f1 := hC7.f1;have HC7 := Lib.hid hC7;clear hb7 hC7
      go_wp2_with fail
      have hK9 := (Kp.refl [b] w7).setCell (p := ⟨b, 1, none⟩) (.inl (by simp)) (.int .i64 ((j : Int) + 1))
      go_roundg (t - j)
      case measure => omega
      case rel => exact ⟨j + 1, acc ++ [s[j]], by omega, by omega, by omega, by have h := HC7.out.set (j + 1); rwa [Int.natCast_add] at h, isB_kp (by rw [← bd_byteCells]; exact Hb7.out) hK9 (by simp; omega), by simp; omega, by rw [List.append_assoc]; exact HR1.out, by have := HR2.out; omega, hK7.trans hK9⟩
    ·have hdl : (digitI s[j].toNat || (false && locC s[j].toNat)) = true := by rw [hd]; rfl
     rw [telS_dig _ _ _ hdl] at hr1 hr2
     have HR1 := Lib.hid hr1;have HR2 := Lib.hid hr2;have HD := Lib.hid hd;clear hd hdl hr1 hr2 hst hsn hlp
     go_wp2_with fail
     go_quiet (fail)
     go_wp2_with fail
     refine (adigit_any _ _).mono ?_
     rintro e w5 ⟨rfl, rfl⟩
     rw [HD.out]
     go_wp2_with fail
     refine (writeByte_any w3.heap.size w3.heap.size _ _ _ (isB_kp HI.out ((Kp.refl [] wr).drewN nq) (by simp)) (by omega) (by simp; omega)).mono ?_
     rintro e w7 ⟨rfl, hb7, hk7⟩
     have Hb7 := Lib.hid (isB_of hb7 rfl)
     have hC7 : Cur b s j w7 := Blk.below (Blk.drewN HC4.out nq) hk7.below (by omega)
     have hK7 := (hK.drewN nq).kb hk7.below (by omega)
     have c1 := hC7.c1;have f1 := hC7.f1;have HC7 := Lib.hid hC7;clear hb7 hC7
     go_wp2_with fail
     have hK9 := (Kp.refl [b] w7).setCell (p := ⟨b, 1, none⟩) (.inl (by simp)) (.int .i64 ((j : Int) + 1))
     go_roundg (t - j)
     case measure => omega
     case rel => exact ⟨j + 1, acc ++ [s[j]], by omega, by omega, by omega, by have h := HC7.out.set (j + 1); rwa [Int.natCast_add] at h, isB_kp (by rw [← bd_byteCells]; exact Hb7.out) hK9 (by simp; omega), by simp; omega, by rw [List.append_assoc]; exact HR1.out, by have := HR2.out; omega, hK7.trans hK9⟩
   ·have hjt' : j = t := by omega
    have hsl : slc s.data.toList j t = [] := slc_nil _ _ _ (by omega)
    rw [hsl] at hr1 hr2
    have hr1' : acc = r1 := by simpa [telS] using hr1
    have hr2' : j = (k + 1) + r2 := by simpa [telS] using hr2
    have hV1 := HV.out.trans (by unfold telQ; rw [if_neg (by omega)])
    subst hr1'
    have HJT := Lib.hid hjt';clear hr1 hr2 hsl hr2' hjt'
    have hlb : (Lib.byteCells acc).length = acc.length := Lib.byteCells_length _
    have HLB := Lib.hid hlb
    have K4 := K3.to_ hK (by simp)
    have B4 := Lib.hid (B3.out.kp hK (by simp; omega))
    clear hlb
    by_cases he0 : acc = []
    ·have HV2 := Lib.hid (hV1.trans (by rw [if_pos he0]))
     have bl : ((Lib.byteCells acc).length : Int) = 0 := by rw [he0]; rfl
     have BL := Lib.hid bl;clear hV1 he0 bl
     go_wp2_with fail
     refine (Tryz.Builder_Len w3.heap.size w3.heap.size _ _ HI.out).mono ?_
     rintro e w5 ⟨rfl, hw5⟩
     obtain rfl := hw5.symm
     rw [BL.out]
     go_wp2_with fail
     refine (fail_k b j k 5 s _ HC4.out).mono ?_
     rintro e w6 ⟨rfl, C6, hK6⟩
     have HC6 := Lib.hid C6
     have HB6 := Lib.hid (B4.out.kp hK6 (by simp; omega))
     clear C6
     go_wp2_with fail
     go_ret
     rw [HV2.out]
     exact ⟨rfl, HC6.out, K4.to_ hK6 (by simp), [], HB6.out, fun h => by simp at h⟩
    ·have hpos : 1 ≤ acc.length := by cases acc with | nil => exact absurd rfl he0 | cons a b => simp
     have bz : ((acc.length : Int) == 0) = false := by rw [beq_eq_false_iff_ne]; omega
     by_cases h30 : 30 < acc.length
     ·have HV2 := Lib.hid (hV1.trans (by rw [if_neg he0, if_pos h30]))
      have b30 : (30 : Int) < (acc.length : Int) := by omega
      clear hV1 he0 h30
      go_wp2_with fail
      refine (Tryz.Builder_Len w3.heap.size w3.heap.size _ _ HI.out).mono ?_
      rintro e w5 ⟨rfl, hw5⟩
      obtain rfl := hw5.symm
      rw [HLB.out]
      go_wp2_with fail
      refine (Tryz.Builder_Len w3.heap.size w3.heap.size _ _ HI.out).mono ?_
      rintro e w5 ⟨rfl, hw5⟩
      obtain rfl := hw5.symm
      rw [HLB.out]
      go_wp2_with fail
      refine (fail_k b j k 4 s _ HC4.out).mono ?_
      rintro e w6 ⟨rfl, C6, hK6⟩
      have HC6 := Lib.hid C6
      have HB6 := Lib.hid (B4.out.kp hK6 (by simp; omega))
      clear C6
      go_wp2_with fail
      go_ret
      rw [HV2.out]
      exact ⟨rfl, HC6.out, K4.to_ hK6 (by simp), [], HB6.out, fun h => by simp at h⟩
     ·have HV2 := Lib.hid (hV1.trans (by rw [if_neg he0, if_neg h30]))
      have b30 : ¬ (30 : Int) < (acc.length : Int) := by omega
      have hb1 : (⟨acc.toArray⟩ : ByteArray).toList.length ≤ 30 := by rw [Lib.toList_data]; simp; omega
      clear hV1 he0 h30
      go_wp2_with fail
      refine (Tryz.Builder_Len w3.heap.size w3.heap.size _ _ HI.out).mono ?_
      rintro e w5 ⟨rfl, hw5⟩
      obtain rfl := hw5.symm
      rw [HLB.out]
      go_wp2_with fail
      refine (Tryz.Builder_Len w3.heap.size w3.heap.size _ _ HI.out).mono ?_
      rintro e w5 ⟨rfl, hw5⟩
      obtain rfl := hw5.symm
      rw [HLB.out]
      go_wp2_with fail
      refine (string_any w3.heap.size w3.heap.size acc _ HI.out (by omega)).mono ?_
      rintro e w6 ⟨rfl, hk6, _⟩
      have K6 := hK.kb hk6.below (Nat.le_refl _)
      have B6 := Lib.hid (B3.out.kp K6 (by simp; omega))
      have C6 := Lib.hid (show Cur b s j w6 from Blk.below HC4.out hk6.below (by omega))
      have u1 := B6.out.cell 1;have g1 := B6.out.frozen 1;have c0 := C6.out.c0
      go_wp2_with fail
      have hcat : (⟨#[43]⟩ : ByteArray) ++ (⟨acc.toArray⟩ : ByteArray) = Txt ([43] ++ acc) := cat_txt [43] acc
      rw [hcat]
      go_ret
      rw [HV2.out]
      exact ⟨rfl, (by have h := C6.out; rw [HJT.out] at h; exact h.far (p := ⟨bu, 1, none⟩) hne _), (K3.to_ K6 (by simp)).setCell (p := ⟨bu, 1, none⟩) (.inl (by simp)) _, [43] ++ acc, B6.out.set_ 1 (.string (Txt ([43] ++ acc))), fun _ => rfl⟩
 ·have t43 : (nxt s.data.toList k == 43) = false := by rw [nxt_eq _ _ _ (by decide) (by decide)]; exact beq_eq_false_iff_ne.2 h43
  have T43 := Lib.hid t43
  have HV := Lib.hid (hV0.trans (by rw [if_neg h43]))
  obtain ⟨r1, r2, hr⟩ : ∃ r1 r2, telS true (slc s.data.toList k t) = (r1, r2) := ⟨_, _, rfl⟩
  have HR := Lib.hid hr
  rw [hr] at HV
  clear h43 t43 ht hV0 hr
  go_enter Tryz.func169, Tryz.ntmps169
  go_wp2_with fail
  go_quiet ((go_at_call 126; exact Calls.quiet_of_same (end_q (· == 59) s ⟨#[59]⟩ k _ hs hk m59)))
  rw [HT.out]
  obtain ⟨w2, hw2⟩ : ∃ w2, w.drewN nq = w2 := ⟨_, rfl⟩
  rw [hw2]
  have C2 : Cur b s k w2 := by rw [← hw2]; exact HC.out
  have K2 : Kp [b, bu] w w2 := by rw [← hw2]; exact h7u.drewN _
  have B2 := Lib.hid (by rw [← hw2]; exact HB.out : Urb w2 bu S (.string (Txt [])) H P vp vh)
  clear hw2 c0 c1;have H2 := Lib.hid C2;clear C2
  go_wp2_with fail
  refine (take_no b k 43 s _ hs hk H2.out T43.out).mono ?_
  rintro e w3 ⟨rfl, C3, hK3⟩
  have K3 := K2.to_ hK3 (by simp)
  have B3 := Lib.hid (B2.out.kp hK3 (by simp; omega))
  have H3 := Lib.hid C3;have hs3 := K3.size;clear C3 hK3
  go_wp2_with fail
  go_loopg [10] (s.size + 1) (fun gg _ wr => ∃ (j : Nat) (acc : List UInt8), k ≤ j ∧ j ≤ t ∧ t - j < gg ∧ Cur b s j wr ∧ IsB w3.heap.size w3.heap.size (Lib.byteCells acc) wr ∧ acc.length ≤ j ∧ acc ++ (telS true (slc s.data.toList j t)).1 = r1 ∧ j + (telS true (slc s.data.toList j t)).2 = k + r2 ∧ Kp [b] w3 wr)
  case atStart => exact ⟨k, [], Nat.le_refl _, hkt, by omega, H3.out.alloc _, fresh_isB w3, Nat.zero_le _, by rw [HR.out]; rfl, by rw [HR.out], (Kp.refl [b] w3).alloc _⟩
  case round =>
   obtain ⟨j, acc, hj0, hjt, hg, hC, hI, hal, hr1, hr2, hK⟩ := hrel
   have c0 := hC.c0;have c1 := hC.c1;have f1 := hC.f1;have HC4 := Lib.hid hC;have HI := Lib.hid hI;have hszr := hK.size
   have hlen : (Lib.byteCells acc).length ≤ j := by rw [Lib.byteCells_length]; exact hal
   clear hC hI
   by_cases hlt4 : j < t
   ·have hjs : j < s.size := by omega
    have hst := slc_step s j t hlt4 hts
    rw [hst] at hr1 hr2
    have hsn := sep_neg s[j]
    have hlp := loc_pos s[j]
    cases hd : digitI s[j].toNat
    ·cases hl : (true && locC s[j].toNat)
     ·have hdl : (digitI s[j].toNat || (true && locC s[j].toNat)) = false := by rw [hd, hl]; rfl
      cases hsp : sepC s[j].toNat
      ·rw [telS_bad _ _ _ hdl hsp] at hr1 hr2
       have hlt5 : r2 < t - k := by simp at hr2; omega
       have hjr : j = k + r2 := by simpa using hr2
       have HV2 := Lib.hid (HV.out.trans (by unfold telQ; rw [if_pos hlt5] : _ = (([] : List UInt8), k + r2, (5 : Int))))
       have HJ := Lib.hid hjr;have HD := Lib.hid hd
       rw [hsp] at hsn
       rw [hl] at hlp
       have HLP := Lib.hid hlp;have HSN := Lib.hid hsn;clear hd hl hsp hdl hjr hr1 hr2 hst hsn hlp
       go_wp2_with fail
       go_quiet (fail)
       go_wp2_with fail
       refine (adigit_any _ _).mono ?_
       rintro e w5 ⟨rfl, rfl⟩
       rw [HD.out]
       go_wp2_with fail
       refine (Tryz.strings_IndexByte _ _ _).mono ?_
       rintro e w6 ⟨rfl, rfl⟩
       have hlp := HLP.out
       go_wp2_with fail
       refine (Tryz.strings_IndexByte _ _ _).mono ?_
       rintro e w6 ⟨rfl, rfl⟩
       have hsn := HSN.out
       go_wp2_with fail
       go_ret
       rw [HV2.out]
       exact ⟨rfl, by have h := HC4.out; rw [HJ.out] at h; exact h, (K3.to_ hK (by simp)).drewN _, [], Blk.drewN (B3.out.kp hK (by simp; omega)) _, fun h => by simp at h⟩
      ·rw [telS_sep _ _ _ hdl hsp] at hr1 hr2
       have HR1 := Lib.hid hr1;have HR2 := Lib.hid hr2;have HD := Lib.hid hd
       rw [hsp] at hsn
       rw [hl] at hlp
       have HLP := Lib.hid hlp;have HSN := Lib.hid hsn;clear hd hl hsp hdl hr1 hr2 hst hsn hlp
       go_wp2_with fail
       go_quiet (fail)
       go_wp2_with fail
       refine (adigit_any _ _).mono ?_
       rintro e w5 ⟨rfl, rfl⟩
       rw [HD.out]
       go_wp2_with fail
       refine (Tryz.strings_IndexByte _ _ _).mono ?_
       rintro e w6 ⟨rfl, rfl⟩
       have hlp := HLP.out
       go_wp2_with fail
       refine (Tryz.strings_IndexByte _ _ _).mono ?_
       rintro e w6 ⟨rfl, rfl⟩
       have hsn := HSN.out
       go_wp2_with fail
       have hK9 := ((Kp.refl [b] wr).drewN nq).setCell (p := ⟨b, 1, none⟩) (.inl (by simp)) (.int .i64 ((j : Int) + 1))
       go_roundg (t - j)
       case measure => omega
       case rel => exact ⟨j + 1, acc, by omega, by omega, by omega, by have h := (show Cur b s j (wr.drewN nq) from Blk.drewN HC4.out nq).set (j + 1); rwa [Int.natCast_add] at h, isB_kp HI.out hK9 (by simp; omega), by omega, HR1.out, by have := HR2.out; omega, hK.trans hK9⟩
     ·have hdl : (digitI s[j].toNat || (true && locC s[j].toNat)) = true := by rw [hd, hl]; rfl
      rw [telS_dig _ _ _ hdl] at hr1 hr2
      have HR1 := Lib.hid hr1;have HR2 := Lib.hid hr2;have HD := Lib.hid hd
      rw [hl] at hlp
      have HLP := Lib.hid hlp;clear hd hl hdl hr1 hr2 hst hsn hlp
      go_wp2_with fail
      go_quiet (fail)
      go_wp2_with fail
      refine (adigit_any _ _).mono ?_
      rintro e w5 ⟨rfl, rfl⟩
      rw [HD.out]
      go_wp2_with fail
      refine (Tryz.strings_IndexByte _ _ _).mono ?_
      rintro e w6 ⟨rfl, rfl⟩
      have hlp := HLP.out
      go_wp2_with fail
      refine (writeByte_any w3.heap.size w3.heap.size _ _ _ (isB_kp HI.out ((Kp.refl [] wr).drewN nq) (by simp)) (by omega) (by simp; omega)).mono ?_
      rintro e w7 ⟨rfl, hb7, hk7⟩
      have Hb7 := Lib.hid (isB_of hb7 rfl)
      have hC7 : Cur b s j w7 := Blk.below (Blk.drewN HC4.out nq) hk7.below (by omega)
      have hK7 := (hK.drewN nq).kb hk7.below (by omega)
      have c1 := hC7.c1;have f1 := hC7.f1;have HC7 := Lib.hid hC7;clear hb7 hC7
      go_wp2_with fail
      have hK9 := (Kp.refl [b] w7).setCell (p := ⟨b, 1, none⟩) (.inl (by simp)) (.int .i64 ((j : Int) + 1))
      go_roundg (t - j)
      case measure => omega
      case rel => exact ⟨j + 1, acc ++ [s[j]], by omega, by omega, by omega, by have h := HC7.out.set (j + 1); rwa [Int.natCast_add] at h, isB_kp (by rw [← bd_byteCells]; exact Hb7.out) hK9 (by simp; omega), by simp; omega, by rw [List.append_assoc]; exact HR1.out, by have := HR2.out; omega, hK7.trans hK9⟩
    ·have hdl : (digitI s[j].toNat || (true && locC s[j].toNat)) = true := by rw [hd]; rfl
     rw [telS_dig _ _ _ hdl] at hr1 hr2
     have HR1 := Lib.hid hr1;have HR2 := Lib.hid hr2;have HD := Lib.hid hd;clear hd hdl hr1 hr2 hst hsn hlp
     go_wp2_with fail
     go_quiet (fail)
     go_wp2_with fail
     refine (adigit_any _ _).mono ?_
     rintro e w5 ⟨rfl, rfl⟩
     rw [HD.out]
     go_wp2_with fail
     refine (writeByte_any w3.heap.size w3.heap.size _ _ _ (isB_kp HI.out ((Kp.refl [] wr).drewN nq) (by simp)) (by omega) (by simp; omega)).mono ?_
     rintro e w7 ⟨rfl, hb7, hk7⟩
     have Hb7 := Lib.hid (isB_of hb7 rfl)
     have hC7 : Cur b s j w7 := Blk.below (Blk.drewN HC4.out nq) hk7.below (by omega)
     have hK7 := (hK.drewN nq).kb hk7.below (by omega)
     have c1 := hC7.c1;have f1 := hC7.f1;have HC7 := Lib.hid hC7;clear hb7 hC7
     go_wp2_with fail
     have hK9 := (Kp.refl [b] w7).setCell (p := ⟨b, 1, none⟩) (.inl (by simp)) (.int .i64 ((j : Int) + 1))
     go_roundg (t - j)
     case measure => omega
     case rel => exact ⟨j + 1, acc ++ [s[j]], by omega, by omega, by omega, by have h := HC7.out.set (j + 1); rwa [Int.natCast_add] at h, isB_kp (by rw [← bd_byteCells]; exact Hb7.out) hK9 (by simp; omega), by simp; omega, by rw [List.append_assoc]; exact HR1.out, by have := HR2.out; omega, hK7.trans hK9⟩
   ·have hjt' : j = t := by omega
    have hsl : slc s.data.toList j t = [] := slc_nil _ _ _ (by omega)
    rw [hsl] at hr1 hr2
    have hr1' : acc = r1 := by simpa [telS] using hr1
    have hr2' : j = k + r2 := by simpa [telS] using hr2
    have hV1 := HV.out.trans (by unfold telQ; rw [if_neg (by omega)])
    subst hr1'
    have HJT := Lib.hid hjt';clear hr1 hr2 hsl hr2' hjt'
    have hlb : (Lib.byteCells acc).length = acc.length := Lib.byteCells_length _
    have HLB := Lib.hid hlb
    have K4 := K3.to_ hK (by simp)
    have B4 := Lib.hid (B3.out.kp hK (by simp; omega))
    clear hlb
    by_cases he0 : acc = []
    ·have HV2 := Lib.hid (hV1.trans (by rw [if_pos he0]))
     have bl : ((Lib.byteCells acc).length : Int) = 0 := by rw [he0]; rfl
     have BL := Lib.hid bl;clear hV1 he0 bl
     go_wp2_with fail
     refine (Tryz.Builder_Len w3.heap.size w3.heap.size _ _ HI.out).mono ?_
     rintro e w5 ⟨rfl, hw5⟩
     obtain rfl := hw5.symm
     rw [BL.out]
     go_wp2_with fail
     refine (fail_k b j k 5 s _ HC4.out).mono ?_
     rintro e w6 ⟨rfl, C6, hK6⟩
     have HC6 := Lib.hid C6
     have HB6 := Lib.hid (B4.out.kp hK6 (by simp; omega))
     clear C6
     go_wp2_with fail
     go_ret
     rw [HV2.out]
     exact ⟨rfl, HC6.out, K4.to_ hK6 (by simp), [], HB6.out, fun h => by simp at h⟩
    ·have hpos : 1 ≤ acc.length := by cases acc with | nil => exact absurd rfl he0 | cons a b => simp
     have bz : ((acc.length : Int) == 0) = false := by rw [beq_eq_false_iff_ne]; omega
     by_cases h30 : 30 < acc.length
     ·have HV2 := Lib.hid (hV1.trans (by rw [if_neg he0, if_pos h30]))
      have b30 : (30 : Int) < (acc.length : Int) := by omega
      clear hV1 he0 h30
      go_wp2_with fail
      refine (Tryz.Builder_Len w3.heap.size w3.heap.size _ _ HI.out).mono ?_
      rintro e w5 ⟨rfl, hw5⟩
      obtain rfl := hw5.symm
      rw [HLB.out]
      go_wp2_with fail
      refine (Tryz.Builder_Len w3.heap.size w3.heap.size _ _ HI.out).mono ?_
      rintro e w5 ⟨rfl, hw5⟩
      obtain rfl := hw5.symm
      rw [HLB.out]
      go_wp2_with fail
      refine (fail_k b j k 4 s _ HC4.out).mono ?_
      rintro e w6 ⟨rfl, C6, hK6⟩
      have HC6 := Lib.hid C6
      have HB6 := Lib.hid (B4.out.kp hK6 (by simp; omega))
      clear C6
      go_wp2_with fail
      go_ret
      rw [HV2.out]
      exact ⟨rfl, HC6.out, K4.to_ hK6 (by simp), [], HB6.out, fun h => by simp at h⟩
     ·have HV2 := Lib.hid (hV1.trans (by rw [if_neg he0, if_neg h30]))
      have b30 : ¬ (30 : Int) < (acc.length : Int) := by omega
      have hb1 : (⟨acc.toArray⟩ : ByteArray).toList.length ≤ 30 := by rw [Lib.toList_data]; simp; omega
      clear hV1 he0 h30
      go_wp2_with fail
      refine (Tryz.Builder_Len w3.heap.size w3.heap.size _ _ HI.out).mono ?_
      rintro e w5 ⟨rfl, hw5⟩
      obtain rfl := hw5.symm
      rw [HLB.out]
      go_wp2_with fail
      refine (Tryz.Builder_Len w3.heap.size w3.heap.size _ _ HI.out).mono ?_
      rintro e w5 ⟨rfl, hw5⟩
      obtain rfl := hw5.symm
      rw [HLB.out]
      go_wp2_with fail
      refine (string_any w3.heap.size w3.heap.size acc _ HI.out (by omega)).mono ?_
      rintro e w6 ⟨rfl, hk6, _⟩
      have K6 := hK.kb hk6.below (Nat.le_refl _)
      have B6 := Lib.hid (B3.out.kp K6 (by simp; omega))
      have C6 := Lib.hid (show Cur b s j w6 from Blk.below HC4.out hk6.below (by omega))
      have u1 := B6.out.cell 1;have g1 := B6.out.frozen 1;have c0 := C6.out.c0
      go_wp2_with fail
      have hcat : (⟨#[]⟩ : ByteArray) ++ (⟨acc.toArray⟩ : ByteArray) = Txt ([] ++ acc) := cat_txt [] acc
      rw [hcat]
      go_ret
      rw [HV2.out]
      exact ⟨rfl, (by have h := C6.out; rw [HJT.out] at h; exact h.far (p := ⟨bu, 1, none⟩) hne _), (K3.to_ K6 (by simp)).setCell (p := ⟨bu, 1, none⟩) (.inl (by simp)) _, [] ++ acc, B6.out.set_ 1 (.string (Txt ([] ++ acc))), fun _ => rfl⟩
end Ad
end Go.Proofs.YtbcaindpbeaheaaGreatDoor
namespace Go.Proofs.YtbcaindpbeaheaaGreatDoor
namespace Ad
open Go.RowKit Lx
def UriIn (B : Nat) (w : World) (v : Value) (u : Uri) : Prop :=
 ∃ vp vh, v = .agg #[.string (Txt u.scheme), .string (Txt u.user), .string (Txt u.host), .int .i64 u.port, vp, vh] ∧ PmIn B w vp u.params ∧ PmIn B w vh u.heads
def UkP (b : Nat) (s : ByteArray) (r : Uri × Nat × Int) (w : World) (e : Ending) (w' : World) : Prop :=
 ∃ (S U H : ByteArray) (P : Int) (a1 : Option Addr) (n1 c1 : Nat) (a2 : Option Addr) (n2 c2 k' : Nat), e = .returned (.tuple #[.agg #[.string S, .string U, .string H, .int .i64 P, .slice a1 n1 c1, .slice a2 n2 c2], .int .u8 r.2.2]) ∧ (r.2.2 ≠ 0 → k' = r.2.1) ∧ (r.2.2 = 0 → UriIn w'.heap.size w' (.agg #[.string S, .string U, .string H, .int .i64 P, .slice a1 n1 c1, .slice a2 n2 c2]) r.1) ∧ Cur b s k' w' ∧ Kp [b] w w'
theorem infoUri : (Tryz.prog.info? 54).map (·.size) = some 6 := by kernel_rfl
theorem parse_sch (l : List UInt8) (h : ¬ 1024 < l.length) (n : Nat) (x : Int) (hs : schR l = (n, x)) (z : List UInt8) (hz : lowL (l.take (endP (· == 58) l 0)) = z) :
   parse l = if x ≠ 0 then (nilU, n, x) else if z = telL then telU l n else sipR z l n := by
 unfold parse
 unfold schR at hs
 rw [if_neg h, hz]
 rw [hz] at hs
 split at hs
 ·rename_i h1
  injection hs with h2 h3
  subst h2 h3
  rw [if_pos h1, if_pos (show (5 : Int) ≠ 0 by decide)]
 ·rename_i h1
  rw [if_neg h1]
  split at hs
  ·rename_i hk
   injection hs with h2 h3
   subst h2 h3
   rw [if_neg (show ¬ ((0 : Int) ≠ 0) by decide)]
   by_cases ht : z = telL
   ·rw [if_pos ht, if_neg (by rw [ht]; decide), if_pos ht]
   ·rw [if_pos (by simpa [knB, ht] using hk), if_neg ht]
  ·rename_i hk
   injection hs with h2 h3
   subst h2 h3
   rw [if_pos (show (15 : Int) ≠ 0 by decide)]
   have hk' : knB z = false := by simpa using hk
   simp only [knB, Bool.or_eq_false_iff, beq_eq_false_iff_ne] at hk'
   rw [if_neg (by rintro (h | h); exact hk'.1 h; exact hk'.2.1 h), if_neg hk'.2.2]
theorem blk6 {w : World} {g : Nat} {c0 c1 c2 c3 c4 c5 : Value} (h : Blk w g 54 #[c0, c1, c2, c3, c4, c5]) (x0 x1 x2 x3 x4 x5 : Value) :
   Blk ((((((w.setCell ⟨g, 0, none⟩ x0).setCell ⟨g, 1, none⟩ x1).setCell ⟨g, 2, none⟩ x2).setCell ⟨g, 3, none⟩ x3).setCell ⟨g, 4, none⟩ x4).setCell ⟨g, 5, none⟩ x5) g 54 #[x0, x1, x2, x3, x4, x5] :=
 (((((h.set_ 0 x0).set_ 1 x1).set_ 2 x2).set_ 3 x3).set_ 4 x4).set_ 5 x5
theorem kp6 {X : List Nat} {a w : World} (h : Kp X a w) {g : Nat} (hg : g ∈ X ∨ a.heap.size ≤ g) (x0 x1 x2 x3 x4 x5 : Value) :
   Kp X a ((((((w.setCell ⟨g, 0, none⟩ x0).setCell ⟨g, 1, none⟩ x1).setCell ⟨g, 2, none⟩ x2).setCell ⟨g, 3, none⟩ x3).setCell ⟨g, 4, none⟩ x4).setCell ⟨g, 5, none⟩ x5) :=
 (((((h.setCell (p := ⟨g, 0, none⟩) hg x0).setCell (p := ⟨g, 1, none⟩) hg x1).setCell (p := ⟨g, 2, none⟩) hg x2).setCell (p := ⟨g, 3, none⟩) hg x3).setCell (p := ⟨g, 4, none⟩) hg x4).setCell (p := ⟨g, 5, none⟩) hg x5
def Zub (w : World) (g : Nat) : Prop := Blk w g 54 #[.string ⟨#[]⟩, .string ⟨#[]⟩, .string ⟨#[]⟩, .int .i64 0, .slice none 0 0, .slice none 0 0]
theorem Zub.nob {w : World} {g : Nat} (h : Zub w g) : NoB w g := NoB.urb h
theorem uri_fin (b g k' : Nat) (s : ByteArray) (r : Uri × Nat × Int) (w wx : World) (x : Int) (S U H : ByteArray) (P : Int) (a1 : Option Addr) (n1 c1 : Nat) (a2 : Option Addr) (n2 c2 : Nat) (hx : x = r.2.2) (C : Cur b s k' wx) (hbg : b ≠ g) (K : Kp [b] w wx) (hg : w.heap.size ≤ g) (Z : Zub wx g)
   (he : r.2.2 ≠ 0 → k' = r.2.1) (hu : r.2.2 = 0 → UriIn wx.heap.size wx (.agg #[.string S, .string U, .string H, .int .i64 P, .slice a1 n1 c1, .slice a2 n2 c2]) r.1) :
   UkP b s r w (.returned (.tuple #[.agg #[.string S, .string U, .string H, .int .i64 P, .slice a1 n1 c1, .slice a2 n2 c2], .int .u8 x])) ((((((wx.setCell ⟨g, 0, none⟩ (.string S)).setCell ⟨g, 1, none⟩ (.string U)).setCell ⟨g, 2, none⟩ (.string H)).setCell ⟨g, 3, none⟩ (.int .i64 P)).setCell ⟨g, 4, none⟩ (.slice a1 n1 c1)).setCell ⟨g, 5, none⟩ (.slice a2 n2 c2)) := by
 subst hx
 refine ⟨S, U, H, P, a1, n1, c1, a2, n2, c2, k', rfl, he, fun h0 => ?_, ?_, kp6 K (.inr hg) _ _ _ _ _ _⟩
 ·obtain ⟨vp, vh, he2, h1, h2⟩ := hu h0
  have hk := kp6 (Kp.refl [g] wx) (g := g) (.inl (by simp)) (.string S) (.string U) (.string H) (.int .i64 P) (.slice a1 n1 c1) (.slice a2 n2 c2)
  have hn : ∀ y ∈ [g], NoB wx y := by intro y hy; rw [List.mem_singleton.1 hy]; exact Z.nob
  exact ⟨vp, vh, he2, h1.grow hk hn, h2.grow hk hn⟩
 ·exact (((((C.far (p := ⟨g, 0, none⟩) hbg _).far (p := ⟨g, 1, none⟩) hbg _).far (p := ⟨g, 2, none⟩) hbg _).far (p := ⟨g, 3, none⟩) hbg _).far (p := ⟨g, 4, none⟩) hbg _).far (p := ⟨g, 5, none⟩) hbg _
theorem sipR_eq (S l : List UInt8) (n : Nat) (uc : List UInt8) (n1 : Nat) (x1 : Int) (h1 : usrR l n = (uc, n1, x1)) (hc : List UInt8) (n2 : Nat) (x2 : Int) (h2 : hstR l n1 = (hc, n2, x2)) (pc : Int) (n3 : Nat) (x3 : Int) (h3 : prtR l n2 = (pc, n3, x3))
   (ps : List Prm) (n4 : Nat) (x4 : Int) (h4 : prmsR semq l n3 = (ps, n4, x4)) (hd : List Prm) (n5 : Nat) (x5 : Int) (h5 : headsR l n4 = (hd, n5, x5)) :
   sipR S l n = if x1 ≠ 0 then (nilU, n1, x1) else if x2 ≠ 0 then (nilU, n2, x2) else if x3 ≠ 0 then (nilU, n3, x3) else if x4 ≠ 0 then (nilU, n4, x4) else if x5 ≠ 0 then (nilU, n5, x5) else (⟨S, uc, hc, pc, srt ps, srt hd⟩, 0, 0) := by
 unfold sipR; simp only [h1, h2, h3, h4, h5]
theorem telU_eq (l : List UInt8) (n : Nat) (uc : List UInt8) (n1 : Nat) (x1 : Int) (h1 : telR l n = (uc, n1, x1)) (ps : List Prm) (n2 : Nat) (x2 : Int) (h2 : prmsR (· == 59) l n1 = (ps, n2, x2)) :
   telU l n = if x1 ≠ 0 then (nilU, n1, x1) else if x2 ≠ 0 then (nilU, n2, x2) else (⟨telL, uc, [], 0, srt ps, []⟩, 0, 0) := by
 unfold telU; simp only [h1, h2]
theorem schR_at (l : List UInt8) : (schR l).1 ≤ l.length := by
 unfold schR
 have := endP_le (· == 58) l 0 (Nat.zero_le _)
 split
 ·exact Nat.le_refl _
 ·split
  ·dsimp only; omega
  ·exact Nat.zero_le _
def prt5 (b : Nat) : Array Value := #[.func (.func 237) #[.pointer (some ⟨b, 0, none⟩)] #[], .func (.func 238) #[.pointer (some ⟨b, 0, none⟩)] #[], .func (.func 239) #[.pointer (some ⟨b, 0, none⟩)] #[], .func (.func 240) #[.pointer (some ⟨b, 0, none⟩)] #[], .func (.func 241) #[.pointer (some ⟨b, 0, none⟩)] #[]]
def prt2 (b : Nat) : Array Value := #[.func (.func 169) #[.pointer (some ⟨b, 0, none⟩)] #[], .func (.func 240) #[.pointer (some ⟨b, 0, none⟩)] #[]]
set_option maxRecDepth 100000 in
set_option maxHeartbeats 4000000 in
theorem uri_k (b k : Nat) (s : ByteArray) (w : World) (hs : s.size ≤ 2097152) (hk : k ≤ s.size) (C : Cur b s k w) (E : Env w) (hb7 : 7 ≤ b) :
   Calls Tryz.prog 210 #[.pointer (some ⟨b, 0, none⟩)] w (UkP b s (parse s.data.toList) w) := by
 have hbw := C.lt
 have hb1 : b ≠ w.heap.size := by omega
 have CA := Lib.hid (C.alloc (.cells #[.string ⟨#[]⟩, .string ⟨#[]⟩, .string ⟨#[]⟩, .int .i64 0, .slice none 0 0, .slice none 0 0] 54))
 have KA := Lib.hid ((Kp.refl [b] w).alloc (.cells #[.string ⟨#[]⟩, .string ⟨#[]⟩, .string ⟨#[]⟩, .int .i64 0, .slice none 0 0, .slice none 0 0] 54))
 have BA := Lib.hid (Blk.new w 54 #[.string ⟨#[]⟩, .string ⟨#[]⟩, .string ⟨#[]⟩, .int .i64 0, .slice none 0 0, .slice none 0 0])
 have EA := Lib.hid (E.kp KA.out (by simp; omega))
 clear C E
 by_cases h1 : 1024 < s.size
 ·have HV := Lib.hid (by unfold parse; rw [len_list, if_pos h1] : parse s.data.toList = (nilU, 1024, 4))
  have hf := fits_k b k s (w.alloc (.cells #[.string ⟨#[]⟩, .string ⟨#[]⟩, .string ⟨#[]⟩, .int .i64 0, .slice none 0 0, .slice none 0 0] 54)) hs CA.out
  rw [if_pos h1, if_pos h1] at hf
  have HF := Lib.hid hf;clear h1 hf
  go_enter Tryz.func210, Tryz.ntmps210
  go_wp2_with fail
  refine HF.out.mono ?_
  rintro e w2 ⟨rfl, C2, hK2⟩
  have B2 := Lib.hid (BA.out.kp hK2 (by simp; omega))
  have HC2 := Lib.hid C2;have K2 := Lib.hid (KA.out.trans hK2);have d0 := B2.out.cell 0;have d1 := B2.out.cell 1;have d2 := B2.out.cell 2;have d3 := B2.out.cell 3;have d4 := B2.out.cell 4;have d5 := B2.out.cell 5;have g0 := B2.out.frozen 0;have g1 := B2.out.frozen 1;have g2 := B2.out.frozen 2;have g3 := B2.out.frozen 3;have g4 := B2.out.frozen 4;have g5 := B2.out.frozen 5;clear C2 hK2
  go_wp2_with fail
  refine bodyPost_ret (results_two rfl _ _ w.heap.size 54 _ (0, 0) _ rfl (blk6 B2.out _ _ _ _ _ _) Tryz.underlying54 rfl infoUri) rfl ?_
  rw [HV.out]
  exact uri_fin b w.heap.size 1024 s _ w _ 4 _ _ _ _ _ _ _ _ _ _ rfl HC2.out hb1 K2.out (Nat.le_refl _) B2.out (fun _ => rfl) (fun h => by simp at h)
 ·have hf := fits_k b k s (w.alloc (.cells #[.string ⟨#[]⟩, .string ⟨#[]⟩, .string ⟨#[]⟩, .int .i64 0, .slice none 0 0, .slice none 0 0] 54)) hs CA.out
  rw [if_neg h1, if_neg h1] at hf
  have HF := Lib.hid hf;clear hf
  go_enter Tryz.func210, Tryz.ntmps210
  go_wp2_with fail
  refine HF.out.mono ?_
  rintro e w2 ⟨rfl, C2, hK2⟩
  have HC2 := Lib.hid C2;have K2 := Lib.hid (KA.out.trans hK2)
  have B2 := Lib.hid (BA.out.kp hK2 (by simp; omega))
  clear C2;have hs2 := K2.out.size;have hs2a := hK2.size
  have hs2b : w.heap.size + 1 ≤ w2.heap.size := by simpa using hs2a
  have KB := Lib.hid (K2.out.alloc (.cells #[.string ⟨#[]⟩, .string ⟨#[]⟩, .string ⟨#[]⟩, .int .i64 0, .slice none 0 0, .slice none 0 0] 54))
  have CB := Lib.hid (HC2.out.alloc (.cells #[.string ⟨#[]⟩, .string ⟨#[]⟩, .string ⟨#[]⟩, .int .i64 0, .slice none 0 0, .slice none 0 0] 54))
  have RB := Lib.hid (B2.out.alloc (.cells #[.string ⟨#[]⟩, .string ⟨#[]⟩, .string ⟨#[]⟩, .int .i64 0, .slice none 0 0, .slice none 0 0] 54))
  have UB := Lib.hid (Blk.new w2 54 #[.string ⟨#[]⟩, .string ⟨#[]⟩, .string ⟨#[]⟩, .int .i64 0, .slice none 0 0, .slice none 0 0])
  have EB := Lib.hid ((EA.out.kp hK2 (by simp; omega)).kp ((Kp.refl [] w2).alloc (.cells #[.string ⟨#[]⟩, .string ⟨#[]⟩, .string ⟨#[]⟩, .int .i64 0, .slice none 0 0, .slice none 0 0] 54)) (by simp))
  obtain ⟨n, x, hsc⟩ : ∃ n x, schR s.data.toList = (n, x) := ⟨_, _, rfl⟩
  have HV := Lib.hid (parse_sch s.data.toList (by rw [len_list]; exact h1) n x hsc _ rfl)
  have HS := Lib.hid hsc
  have hbu : b ≠ w2.heap.size := by omega
  have hru : w.heap.size ≠ w2.heap.size := by omega
  clear h1 hK2 hsc
  go_wp2_with fail
  refine (scheme_k b w2.heap.size k s [] _ _ _ _ _ _ hs CB.out UB.out hbu).mono ?_
  rintro e w3 ⟨rfl, C3, hK3, S, U3, hS3⟩
  rw [HS.out] at C3 hS3 ⊢
  dsimp only at C3 hS3 ⊢
  have K3 := KB.out.to_ hK3 (by intro y hy; simp at hy; rcases hy with rfl | rfl; left; simp; right; omega)
  have R3 := RB.out.kp hK3 (by simp; omega)
  have E3 := EB.out.kp hK3 (by simp; omega)
  have hs3a := hK3.size
  have hs3b : w2.heap.size + 1 ≤ w3.heap.size := by simpa using hs3a
  have eS : (Txt S).toList = S := by rw [Lib.toList_data]; rfl
  have K4 := Lib.hid (K3.alloc (.cells (prt5 b) 203));have C4 := Lib.hid (C3.alloc (.cells (prt5 b) 203));have R4 := Lib.hid (R3.alloc (.cells (prt5 b) 203));have U4 := Lib.hid (Blk.alloc U3 (.cells (prt5 b) 203));have P4 := Lib.hid (Blk.new w3 203 (prt5 b))
  have E4 := Lib.hid (E3.kp ((Kp.refl [] w3).alloc (.cells (prt5 b) 203)) (by simp))
  have u0 : (w3.alloc (.cells (prt5 b) 203)).cell? ⟨w2.heap.size, 0, none⟩ = some (.string (Txt S)) := U4.out.cell 0
  have HS3 := Lib.hid hS3;clear hK3 hS3 K3 R3 E3 C3 U3
  have hn0 : n ≤ s.size := by have := schR_at s.data.toList; rwa [HS.out, len_list] at this
  by_cases ht : S = telL
  ·subst ht
   have bt : ((Txt telL).toList == [116, 101, 108]) = true := by rw [eS]; rfl
   have K5 := Lib.hid (K4.out.alloc (.cells (prt2 b) 203));have C5 := Lib.hid (C4.out.alloc (.cells (prt2 b) 203));have R5 := Lib.hid (R4.out.alloc (.cells (prt2 b) 203));have U5 := Lib.hid (Blk.alloc U4.out (.cells (prt2 b) 203));have P5 := Lib.hid (Blk.new (w3.alloc (.cells (prt5 b) 203)) 203 (prt2 b))
   have E5 := Lib.hid (E4.out.kp ((Kp.refl [] _).alloc (.cells (prt2 b) 203)) (by simp))
   have hpb : (w3.alloc (.cells (prt5 b) 203)).heap.size = w3.heap.size + 1 := by simp
   rw [hpb] at P5
   clear K4 C4 R4 U4 P4 E4 eS hpb;have K4 := K5;have C4 := C5;have R4 := R5;have U4 := U5;have P4 := P5;have E4 := E5;clear K5 C5 R5 U5 P5 E5
   by_cases hx : x = 0
   ·subst hx
    have hsz := HS3.out rfl
    have HV0 := Lib.hid (HV.out.trans (by rw [if_neg (by decide), if_pos hsz.symm]))
    clear hsz
    simp only [prt5] at u0
    obtain ⟨uc, n1, x1, hu1⟩ : ∃ a b c, telR s.data.toList n = (a, b, c) := ⟨_, _, _, rfl⟩
    obtain ⟨ps, n2, x2, hu2⟩ : ∃ a b c, prmsR (· == 59) s.data.toList n1 = (a, b, c) := ⟨_, _, _, rfl⟩
    have hn1 : n1 ≤ s.size := by have := telR_at s.data.toList n (by rw [len_list]; exact hn0); rwa [hu1, len_list] at this
    have HV4 := Lib.hid (HV0.out.trans (telU_eq s.data.toList n uc n1 x1 hu1 ps n2 x2 hu2));have HU1 := Lib.hid hu1;have HU2 := Lib.hid hu2;clear hu1 hu2
    go_wp2_with fail
    refine wp_loop_rounds 3 ?_
    rw [rounds_succ]
    have p0 : ((w3.alloc (.cells (prt5 b) 203)).alloc (.cells (prt2 b) 203)).cell? ⟨w3.heap.size + 1, 0, none⟩ = some (.func (.func 169) #[.pointer (some ⟨b, 0, none⟩)] #[]) := P4.out.cell 0
    simp only [prt5, prt2] at p0
    go_wp2_with fail
    clear p0 u0
    refine (number_k b w2.heap.size n s _ _ _ _ _ _ hs hn0 C4.out U4.out hbu).mono ?_
    rintro e w5 ⟨rfl, C5, hK5, U, U5, hU⟩
    rw [HU1.out] at C5 hU ⊢
    dsimp only at C5 hU ⊢
    have K5 := Lib.hid (K4.out.to_ hK5 (by intro y hy; simp at hy; rcases hy with rfl | rfl; left; simp; right; omega))
    have R5 := Lib.hid (R4.out.kp hK5 (by simp; omega))
    have E5 := Lib.hid (E4.out.kp hK5 (by simp; omega))
    have P5 := Lib.hid (P4.out.kp hK5 (by simp; omega))
    have C5 := Lib.hid C5;have U5 := Lib.hid U5;clear hK5
    by_cases hx1 : x1 = 0
    ·subst hx1
     have hq : U = uc := hU rfl
     subst hq
     clear hU
     have HV5 := Lib.hid (HV4.out.trans (by rw [if_neg (by decide)]))
     have p1 : w5.cell? ⟨(w3.heap.size + 1), 1, none⟩ = some (.func (.func 240) #[.pointer (some ⟨b, 0, none⟩)] #[]) := P5.out.cell 1
     go_wp2_with fail
     rw [rounds_succ]
     go_wp2_with fail
     clear p1
     refine (params_k (· == 59) b w2.heap.size n1 s telL _ [] 0 _ hs hn1 C5.out U5.out E5.out hbu hb7 (by rw [if_pos rfl])).mono ?_
     rintro e w6 ⟨rfl, C6, hK6, A, m, c, U6, hPm⟩
     rw [HU2.out] at C6 hPm ⊢
     dsimp only at C6 hPm ⊢
     have HPm6 := Lib.hid hPm;clear hPm
     have K6 := Lib.hid (K5.out.to_ hK6 (by intro y hy; simp at hy; rcases hy with rfl | rfl; left; simp; right; omega))
     have R6 := Lib.hid (R5.out.kp hK6 (by simp; omega))
     have E6 := Lib.hid (E5.out.kp hK6 (by simp; omega))
     have P6 := Lib.hid (P5.out.kp hK6 (by simp; omega))
     have C6 := Lib.hid C6;have U6 := Lib.hid U6;clear hK6
     by_cases hx2 : x2 = 0
     ·subst hx2
      have HV6 := Lib.hid (HV5.out.trans (by rw [if_neg (by decide)]))
      go_wp2_with fail
      rw [rounds_succ]
      have u0 := U6.out.cell 0;have u1 := U6.out.cell 1;have u2 := U6.out.cell 2;have u3 := U6.out.cell 3;have u4 := U6.out.cell 4;have u5 := U6.out.cell 5;have d0 := R6.out.cell 0;have g0 := R6.out.frozen 0;have d1 := R6.out.cell 1;have g1 := R6.out.frozen 1;have d2 := R6.out.cell 2;have g2 := R6.out.frozen 2;have d3 := R6.out.cell 3;have g3 := R6.out.frozen 3;have d4 := R6.out.cell 4;have g4 := R6.out.frozen 4;have d5 := R6.out.cell 5;have g5 := R6.out.frozen 5
      go_wp2_with fail
      refine bodyPost_ret (results_two rfl _ _ w.heap.size 54 _ (0, 0) _ rfl (blk6 R6.out _ _ _ _ _ _) Tryz.underlying54 rfl infoUri) rfl ?_
      rw [HV6.out]
      exact uri_fin b w.heap.size _ s _ w _ 0 _ _ _ _ _ _ _ _ _ _ rfl C6.out hb1 K6.out (Nat.le_refl _) R6.out (fun h => absurd rfl h) (fun _ => ⟨_, _, rfl, HPm6.out, PmIn.nil _ _⟩)
     ·have bx : (x2 == 0) = false := beq_eq_false_iff_ne.2 hx2
      have HX2 := Lib.hid hx2
      have HV6 := Lib.hid (HV5.out.trans (by rw [if_pos hx2]))
      clear hx2
      go_wp2_with fail
      rw [rounds_succ]
      have u0 := U6.out.cell 0;have u1 := U6.out.cell 1;have u2 := U6.out.cell 2;have u3 := U6.out.cell 3;have u4 := U6.out.cell 4;have u5 := U6.out.cell 5;have d0 := R6.out.cell 0;have g0 := R6.out.frozen 0;have d1 := R6.out.cell 1;have g1 := R6.out.frozen 1;have d2 := R6.out.cell 2;have g2 := R6.out.frozen 2;have d3 := R6.out.cell 3;have g3 := R6.out.frozen 3;have d4 := R6.out.cell 4;have g4 := R6.out.frozen 4;have d5 := R6.out.cell 5;have g5 := R6.out.frozen 5
      go_wp2_with fail
      refine bodyPost_ret (results_two rfl _ _ w.heap.size 54 _ (0, 0) _ rfl (blk6 R6.out _ _ _ _ _ _) Tryz.underlying54 rfl infoUri) rfl ?_
      rw [HV6.out]
      exact uri_fin b w.heap.size n2 s _ w _ x2 _ _ _ _ _ _ _ _ _ _ rfl C6.out hb1 K6.out (Nat.le_refl _) R6.out (fun _ => rfl) (fun h => absurd h HX2.out)
    ·have bx : (x1 == 0) = false := beq_eq_false_iff_ne.2 hx1
     have HX1 := Lib.hid hx1
     have HV5 := Lib.hid (HV4.out.trans (by rw [if_pos hx1]))
     clear hx1
     go_wp2_with fail
     rw [rounds_succ]
     have u0 := U5.out.cell 0;have u1 := U5.out.cell 1;have u2 := U5.out.cell 2;have u3 := U5.out.cell 3;have u4 := U5.out.cell 4;have u5 := U5.out.cell 5;have d0 := R5.out.cell 0;have g0 := R5.out.frozen 0;have d1 := R5.out.cell 1;have g1 := R5.out.frozen 1;have d2 := R5.out.cell 2;have g2 := R5.out.frozen 2;have d3 := R5.out.cell 3;have g3 := R5.out.frozen 3;have d4 := R5.out.cell 4;have g4 := R5.out.frozen 4;have d5 := R5.out.cell 5;have g5 := R5.out.frozen 5
     go_wp2_with fail
     refine bodyPost_ret (results_two rfl _ _ w.heap.size 54 _ (0, 0) _ rfl (blk6 R5.out _ _ _ _ _ _) Tryz.underlying54 rfl infoUri) rfl ?_
     rw [HV5.out]
     exact uri_fin b w.heap.size n1 s _ w _ x1 _ _ _ _ _ _ _ _ _ _ rfl C5.out hb1 K5.out (Nat.le_refl _) R5.out (fun _ => rfl) (fun h => absurd h HX1.out)
   ·have bx : (x == 0) = false := beq_eq_false_iff_ne.2 hx
    have HX := Lib.hid hx
    have HV2 := Lib.hid (HV.out.trans (by rw [if_pos hx]))
    clear hx
    simp only [prt5] at u0
    go_wp2_with fail
    refine wp_loop_rounds 1 ?_
    rw [rounds_succ]
    clear u0;have u0 := U4.out.cell 0;have u1 := U4.out.cell 1;have u2 := U4.out.cell 2;have u3 := U4.out.cell 3;have u4 := U4.out.cell 4;have u5 := U4.out.cell 5;have d0 := R4.out.cell 0;have g0 := R4.out.frozen 0;have d1 := R4.out.cell 1;have g1 := R4.out.frozen 1;have d2 := R4.out.cell 2;have g2 := R4.out.frozen 2;have d3 := R4.out.cell 3;have g3 := R4.out.frozen 3;have d4 := R4.out.cell 4;have g4 := R4.out.frozen 4;have d5 := R4.out.cell 5;have g5 := R4.out.frozen 5
    simp only [prt5, prt2] at u0 u1 u2 u3 u4 u5 d0 d1 d2 d3 d4 d5 g0 g1 g2 g3 g4 g5
    go_wp2_with fail
    refine bodyPost_ret (results_two rfl _ _ w.heap.size 54 _ (0, 0) _ rfl (blk6 R4.out _ _ _ _ _ _) Tryz.underlying54 rfl infoUri) rfl ?_
    rw [HV2.out]
    exact uri_fin b w.heap.size n s _ w _ x _ _ _ _ _ _ _ _ _ _ rfl C4.out hb1 K4.out (Nat.le_refl _) R4.out (fun _ => rfl) (fun h => absurd h HX.out)
  ·have bt : ((Txt S).toList == [116, 101, 108]) = false := by rw [eS]; exact beq_eq_false_iff_ne.2 ht
   have HTe := Lib.hid ht
   by_cases hx : x = 0
   ·subst hx
    have hsz := HS3.out rfl
    have HV0 := Lib.hid (HV.out.trans (by rw [if_neg (by decide), ← hsz, if_neg ht]))
    clear hsz ht eS
    simp only [prt5] at u0
    obtain ⟨uc, n1, x1, hu1⟩ : ∃ a b c, usrR s.data.toList n = (a, b, c) := ⟨_, _, _, rfl⟩
    obtain ⟨hc, n2, x2, hu2⟩ : ∃ a b c, hstR s.data.toList n1 = (a, b, c) := ⟨_, _, _, rfl⟩
    obtain ⟨pc, n3, x3, hu3⟩ : ∃ a b c, prtR s.data.toList n2 = (a, b, c) := ⟨_, _, _, rfl⟩
    obtain ⟨ps, n4, x4, hu4⟩ : ∃ a b c, prmsR semq s.data.toList n3 = (a, b, c) := ⟨_, _, _, rfl⟩
    obtain ⟨hd, n5, x5, hu5⟩ : ∃ a b c, headsR s.data.toList n4 = (a, b, c) := ⟨_, _, _, rfl⟩
    have hn1 : n1 ≤ s.size := by have := usrR_at s.data.toList n (by rw [len_list]; exact hn0); rwa [hu1, len_list] at this
    have hn2 : n2 ≤ s.size := by have := hstR_at s.data.toList n1 (by rw [len_list]; exact hn1); rwa [hu2, len_list] at this
    have hn3 : n3 ≤ s.size := by have := prtR_at s.data.toList n2 (by rw [len_list]; exact hn2); rwa [hu3, len_list] at this
    have hn4 : n4 ≤ s.size := by have := prsF_at (· == 59) semq 1 s.data.toList rfl (s.data.toList.length + 1) n3 [] (by rw [len_list]; exact hn3); rwa [show prsF (· == 59) semq 1 (s.data.toList.length + 1) s.data.toList n3 [] = (ps, n4, x4) from hu4, len_list] at this
    have HV4 := Lib.hid (HV0.out.trans (sipR_eq S s.data.toList n uc n1 x1 hu1 hc n2 x2 hu2 pc n3 x3 hu3 ps n4 x4 hu4 hd n5 x5 hu5));have HU1 := Lib.hid hu1;have HU2 := Lib.hid hu2;have HU3 := Lib.hid hu3;have HU4 := Lib.hid hu4;have HU5 := Lib.hid hu5;clear hu1 hu2 hu3 hu4 hu5
    go_wp2_with fail
    refine wp_loop_rounds 6 ?_
    rw [rounds_succ]
    have p0 : (w3.alloc (.cells (prt5 b) 203)).cell? ⟨w3.heap.size, 0, none⟩ = some (.func (.func 237) #[.pointer (some ⟨b, 0, none⟩)] #[]) := P4.out.cell 0
    simp only [prt5] at p0
    go_wp2_with fail
    clear p0 u0
    refine (user_k b w2.heap.size n s _ _ _ _ _ _ hs hn0 C4.out U4.out E4.out hbu hb7).mono ?_
    rintro e w5 ⟨rfl, C5, hK5, U, U5, hU⟩
    rw [HU1.out] at C5 hU ⊢
    dsimp only at C5 hU ⊢
    have K5 := Lib.hid (K4.out.to_ hK5 (by intro y hy; simp at hy; rcases hy with rfl | rfl; left; simp; right; omega))
    have R5 := Lib.hid (R4.out.kp hK5 (by simp; omega))
    have E5 := Lib.hid (E4.out.kp hK5 (by simp; omega))
    have P5 := Lib.hid (P4.out.kp hK5 (by simp; omega))
    have C5 := Lib.hid C5;have U5 := Lib.hid U5;clear hK5
    by_cases hx1 : x1 = 0
    ·subst hx1
     have hq : U = uc := hU rfl
     subst hq
     clear hU
     have HV5 := Lib.hid (HV4.out.trans (by rw [if_neg (by decide)]))
     have p1 : w5.cell? ⟨w3.heap.size, 1, none⟩ = some (.func (.func 238) #[.pointer (some ⟨b, 0, none⟩)] #[]) := P5.out.cell 1
     go_wp2_with fail
     rw [rounds_succ]
     go_wp2_with fail
     clear p1
     refine (host_k b w2.heap.size n1 s _ _ _ _ _ _ hs hn1 C5.out U5.out E5.out hbu hb7).mono ?_
     rintro e w6 ⟨rfl, C6, hK6, H, U6, hU⟩
     rw [HU2.out] at C6 hU ⊢
     dsimp only at C6 hU ⊢
     have K6 := Lib.hid (K5.out.to_ hK6 (by intro y hy; simp at hy; rcases hy with rfl | rfl; left; simp; right; omega))
     have R6 := Lib.hid (R5.out.kp hK6 (by simp; omega))
     have E6 := Lib.hid (E5.out.kp hK6 (by simp; omega))
     have P6 := Lib.hid (P5.out.kp hK6 (by simp; omega))
     have C6 := Lib.hid C6;have U6 := Lib.hid U6;clear hK6
     by_cases hx2 : x2 = 0
     ·subst hx2
      have hq : H = hc := hU rfl
      subst hq
      clear hU
      have HV6 := Lib.hid (HV5.out.trans (by rw [if_neg (by decide)]))
      have p2 : w6.cell? ⟨w3.heap.size, 2, none⟩ = some (.func (.func 239) #[.pointer (some ⟨b, 0, none⟩)] #[]) := P6.out.cell 2
      go_wp2_with fail
      rw [rounds_succ]
      go_wp2_with fail
      clear p2
      refine (port_k b w2.heap.size n2 s _ _ _ _ _ _ hs hn2 C6.out U6.out hbu).mono ?_
      rintro e w7 ⟨rfl, C7, hK7, P, U7, hU⟩
      rw [HU3.out] at C7 hU ⊢
      dsimp only at C7 hU ⊢
      have K7 := Lib.hid (K6.out.to_ hK7 (by intro y hy; simp at hy; rcases hy with rfl | rfl; left; simp; right; omega))
      have R7 := Lib.hid (R6.out.kp hK7 (by simp; omega))
      have E7 := Lib.hid (E6.out.kp hK7 (by simp; omega))
      have P7 := Lib.hid (P6.out.kp hK7 (by simp; omega))
      have C7 := Lib.hid C7;have U7 := Lib.hid U7;clear hK7
      by_cases hx3 : x3 = 0
      ·subst hx3
       have hq : P = pc := hU rfl
       subst hq
       clear hU
       have HV7 := Lib.hid (HV6.out.trans (by rw [if_neg (by decide)]))
       have p3 : w7.cell? ⟨w3.heap.size, 3, none⟩ = some (.func (.func 240) #[.pointer (some ⟨b, 0, none⟩)] #[]) := P7.out.cell 3
       go_wp2_with fail
       rw [rounds_succ]
       go_wp2_with fail
       clear p3
       refine (params_k semq b w2.heap.size n3 s S _ _ _ _ hs hn3 C7.out U7.out E7.out hbu hb7 (by rw [if_neg HTe.out])).mono ?_
       rintro e w8 ⟨rfl, C8, hK8, A, m, c, U8, hPm⟩
       rw [HU4.out] at C8 hPm ⊢
       dsimp only at C8 hPm ⊢
       have HPm8 := Lib.hid hPm;clear hPm
       have K8 := Lib.hid (K7.out.to_ hK8 (by intro y hy; simp at hy; rcases hy with rfl | rfl; left; simp; right; omega))
       have R8 := Lib.hid (R7.out.kp hK8 (by simp; omega))
       have E8 := Lib.hid (E7.out.kp hK8 (by simp; omega))
       have P8 := Lib.hid (P7.out.kp hK8 (by simp; omega))
       have C8 := Lib.hid C8;have U8 := Lib.hid U8;clear hK8
       by_cases hx4 : x4 = 0
       ·subst hx4
        have HV8 := Lib.hid (HV7.out.trans (by rw [if_neg (by decide)]))
        have p4 : w8.cell? ⟨w3.heap.size, 4, none⟩ = some (.func (.func 241) #[.pointer (some ⟨b, 0, none⟩)] #[]) := P8.out.cell 4
        go_wp2_with fail
        rw [rounds_succ]
        go_wp2_with fail
        clear p4
        refine (heads_k b w2.heap.size n4 s S _ _ _ _ _ _ hs hn4 C8.out U8.out HPm8.out E8.out hbu hb7).mono ?_
        rintro e w9 ⟨rfl, C9, hK9, A', m', c', U9, hPm, hPh⟩
        rw [HU5.out] at C9 hPh ⊢
        dsimp only at C9 hPh ⊢
        have HPm9 := Lib.hid hPm;have HPh9 := Lib.hid hPh;clear hPm hPh
        have K9 := Lib.hid (K8.out.to_ hK9 (by intro y hy; simp at hy; rcases hy with rfl | rfl; left; simp; right; omega))
        have R9 := Lib.hid (R8.out.kp hK9 (by simp; omega))
        have E9 := Lib.hid (E8.out.kp hK9 (by simp; omega))
        have P9 := Lib.hid (P8.out.kp hK9 (by simp; omega))
        have C9 := Lib.hid C9;have U9 := Lib.hid U9;clear hK9
        by_cases hx5 : x5 = 0
        ·subst hx5
         have HV9 := Lib.hid (HV8.out.trans (by rw [if_neg (by decide)]))
         go_wp2_with fail
         rw [rounds_succ]
         have u0 := U9.out.cell 0;have u1 := U9.out.cell 1;have u2 := U9.out.cell 2;have u3 := U9.out.cell 3;have u4 := U9.out.cell 4;have u5 := U9.out.cell 5;have d0 := R9.out.cell 0;have g0 := R9.out.frozen 0;have d1 := R9.out.cell 1;have g1 := R9.out.frozen 1;have d2 := R9.out.cell 2;have g2 := R9.out.frozen 2;have d3 := R9.out.cell 3;have g3 := R9.out.frozen 3;have d4 := R9.out.cell 4;have g4 := R9.out.frozen 4;have d5 := R9.out.cell 5;have g5 := R9.out.frozen 5
         go_wp2_with fail
         refine bodyPost_ret (results_two rfl _ _ w.heap.size 54 _ (0, 0) _ rfl (blk6 R9.out _ _ _ _ _ _) Tryz.underlying54 rfl infoUri) rfl ?_
         rw [HV9.out]
         exact uri_fin b w.heap.size _ s _ w _ 0 _ _ _ _ _ _ _ _ _ _ rfl C9.out hb1 K9.out (Nat.le_refl _) R9.out (fun h => absurd rfl h) (fun _ => ⟨_, _, rfl, HPm9.out, HPh9.out⟩)
        ·have bx : (x5 == 0) = false := beq_eq_false_iff_ne.2 hx5
         have HX5 := Lib.hid hx5
         have HV9 := Lib.hid (HV8.out.trans (by rw [if_pos hx5]))
         clear hx5
         go_wp2_with fail
         rw [rounds_succ]
         have u0 := U9.out.cell 0;have u1 := U9.out.cell 1;have u2 := U9.out.cell 2;have u3 := U9.out.cell 3;have u4 := U9.out.cell 4;have u5 := U9.out.cell 5;have d0 := R9.out.cell 0;have g0 := R9.out.frozen 0;have d1 := R9.out.cell 1;have g1 := R9.out.frozen 1;have d2 := R9.out.cell 2;have g2 := R9.out.frozen 2;have d3 := R9.out.cell 3;have g3 := R9.out.frozen 3;have d4 := R9.out.cell 4;have g4 := R9.out.frozen 4;have d5 := R9.out.cell 5;have g5 := R9.out.frozen 5
         go_wp2_with fail
         refine bodyPost_ret (results_two rfl _ _ w.heap.size 54 _ (0, 0) _ rfl (blk6 R9.out _ _ _ _ _ _) Tryz.underlying54 rfl infoUri) rfl ?_
         rw [HV9.out]
         exact uri_fin b w.heap.size n5 s _ w _ x5 _ _ _ _ _ _ _ _ _ _ rfl C9.out hb1 K9.out (Nat.le_refl _) R9.out (fun _ => rfl) (fun h => absurd h HX5.out)
       ·have bx : (x4 == 0) = false := beq_eq_false_iff_ne.2 hx4
        have HX4 := Lib.hid hx4
        have HV8 := Lib.hid (HV7.out.trans (by rw [if_pos hx4]))
        clear hx4
        go_wp2_with fail
        rw [rounds_succ]
        have u0 := U8.out.cell 0;have u1 := U8.out.cell 1;have u2 := U8.out.cell 2;have u3 := U8.out.cell 3;have u4 := U8.out.cell 4;have u5 := U8.out.cell 5;have d0 := R8.out.cell 0;have g0 := R8.out.frozen 0;have d1 := R8.out.cell 1;have g1 := R8.out.frozen 1;have d2 := R8.out.cell 2;have g2 := R8.out.frozen 2;have d3 := R8.out.cell 3;have g3 := R8.out.frozen 3;have d4 := R8.out.cell 4;have g4 := R8.out.frozen 4;have d5 := R8.out.cell 5;have g5 := R8.out.frozen 5
        go_wp2_with fail
        refine bodyPost_ret (results_two rfl _ _ w.heap.size 54 _ (0, 0) _ rfl (blk6 R8.out _ _ _ _ _ _) Tryz.underlying54 rfl infoUri) rfl ?_
        rw [HV8.out]
        exact uri_fin b w.heap.size n4 s _ w _ x4 _ _ _ _ _ _ _ _ _ _ rfl C8.out hb1 K8.out (Nat.le_refl _) R8.out (fun _ => rfl) (fun h => absurd h HX4.out)
      ·have bx : (x3 == 0) = false := beq_eq_false_iff_ne.2 hx3
       have HX3 := Lib.hid hx3
       have HV7 := Lib.hid (HV6.out.trans (by rw [if_pos hx3]))
       clear hx3
       go_wp2_with fail
       rw [rounds_succ]
       have u0 := U7.out.cell 0;have u1 := U7.out.cell 1;have u2 := U7.out.cell 2;have u3 := U7.out.cell 3;have u4 := U7.out.cell 4;have u5 := U7.out.cell 5;have d0 := R7.out.cell 0;have g0 := R7.out.frozen 0;have d1 := R7.out.cell 1;have g1 := R7.out.frozen 1;have d2 := R7.out.cell 2;have g2 := R7.out.frozen 2;have d3 := R7.out.cell 3;have g3 := R7.out.frozen 3;have d4 := R7.out.cell 4;have g4 := R7.out.frozen 4;have d5 := R7.out.cell 5;have g5 := R7.out.frozen 5
       go_wp2_with fail
       refine bodyPost_ret (results_two rfl _ _ w.heap.size 54 _ (0, 0) _ rfl (blk6 R7.out _ _ _ _ _ _) Tryz.underlying54 rfl infoUri) rfl ?_
       rw [HV7.out]
       exact uri_fin b w.heap.size n3 s _ w _ x3 _ _ _ _ _ _ _ _ _ _ rfl C7.out hb1 K7.out (Nat.le_refl _) R7.out (fun _ => rfl) (fun h => absurd h HX3.out)
     ·have bx : (x2 == 0) = false := beq_eq_false_iff_ne.2 hx2
      have HX2 := Lib.hid hx2
      have HV6 := Lib.hid (HV5.out.trans (by rw [if_pos hx2]))
      clear hx2
      go_wp2_with fail
      rw [rounds_succ]
      have u0 := U6.out.cell 0;have u1 := U6.out.cell 1;have u2 := U6.out.cell 2;have u3 := U6.out.cell 3;have u4 := U6.out.cell 4;have u5 := U6.out.cell 5;have d0 := R6.out.cell 0;have g0 := R6.out.frozen 0;have d1 := R6.out.cell 1;have g1 := R6.out.frozen 1;have d2 := R6.out.cell 2;have g2 := R6.out.frozen 2;have d3 := R6.out.cell 3;have g3 := R6.out.frozen 3;have d4 := R6.out.cell 4;have g4 := R6.out.frozen 4;have d5 := R6.out.cell 5;have g5 := R6.out.frozen 5
      go_wp2_with fail
      refine bodyPost_ret (results_two rfl _ _ w.heap.size 54 _ (0, 0) _ rfl (blk6 R6.out _ _ _ _ _ _) Tryz.underlying54 rfl infoUri) rfl ?_
      rw [HV6.out]
      exact uri_fin b w.heap.size n2 s _ w _ x2 _ _ _ _ _ _ _ _ _ _ rfl C6.out hb1 K6.out (Nat.le_refl _) R6.out (fun _ => rfl) (fun h => absurd h HX2.out)
    ·have bx : (x1 == 0) = false := beq_eq_false_iff_ne.2 hx1
     have HX1 := Lib.hid hx1
     have HV5 := Lib.hid (HV4.out.trans (by rw [if_pos hx1]))
     clear hx1
     go_wp2_with fail
     rw [rounds_succ]
     have u0 := U5.out.cell 0;have u1 := U5.out.cell 1;have u2 := U5.out.cell 2;have u3 := U5.out.cell 3;have u4 := U5.out.cell 4;have u5 := U5.out.cell 5;have d0 := R5.out.cell 0;have g0 := R5.out.frozen 0;have d1 := R5.out.cell 1;have g1 := R5.out.frozen 1;have d2 := R5.out.cell 2;have g2 := R5.out.frozen 2;have d3 := R5.out.cell 3;have g3 := R5.out.frozen 3;have d4 := R5.out.cell 4;have g4 := R5.out.frozen 4;have d5 := R5.out.cell 5;have g5 := R5.out.frozen 5
     go_wp2_with fail
     refine bodyPost_ret (results_two rfl _ _ w.heap.size 54 _ (0, 0) _ rfl (blk6 R5.out _ _ _ _ _ _) Tryz.underlying54 rfl infoUri) rfl ?_
     rw [HV5.out]
     exact uri_fin b w.heap.size n1 s _ w _ x1 _ _ _ _ _ _ _ _ _ _ rfl C5.out hb1 K5.out (Nat.le_refl _) R5.out (fun _ => rfl) (fun h => absurd h HX1.out)
   ·have bx : (x == 0) = false := beq_eq_false_iff_ne.2 hx
    have HX := Lib.hid hx
    have HV2 := Lib.hid (HV.out.trans (by rw [if_pos hx]))
    clear hx ht eS
    simp only [prt5] at u0
    go_wp2_with fail
    refine wp_loop_rounds 1 ?_
    rw [rounds_succ]
    clear u0;have u0 := U4.out.cell 0;have u1 := U4.out.cell 1;have u2 := U4.out.cell 2;have u3 := U4.out.cell 3;have u4 := U4.out.cell 4;have u5 := U4.out.cell 5;have d0 := R4.out.cell 0;have g0 := R4.out.frozen 0;have d1 := R4.out.cell 1;have g1 := R4.out.frozen 1;have d2 := R4.out.cell 2;have g2 := R4.out.frozen 2;have d3 := R4.out.cell 3;have g3 := R4.out.frozen 3;have d4 := R4.out.cell 4;have g4 := R4.out.frozen 4;have d5 := R4.out.cell 5;have g5 := R4.out.frozen 5
    simp only [prt5] at u0 u1 u2 u3 u4 u5 d0 d1 d2 d3 d4 d5 g0 g1 g2 g3 g4 g5
    go_wp2_with fail
    refine bodyPost_ret (results_two rfl _ _ w.heap.size 54 _ (0, 0) _ rfl (blk6 R4.out _ _ _ _ _ _) Tryz.underlying54 rfl infoUri) rfl ?_
    rw [HV2.out]
    exact uri_fin b w.heap.size n s _ w _ x _ _ _ _ _ _ _ _ _ _ rfl C4.out hb1 K4.out (Nat.le_refl _) R4.out (fun _ => rfl) (fun h => absurd h HX.out)
end Ad
end Go.Proofs.YtbcaindpbeaheaaGreatDoor
