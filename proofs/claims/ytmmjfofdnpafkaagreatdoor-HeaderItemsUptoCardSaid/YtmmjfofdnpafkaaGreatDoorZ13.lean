/- Texts of one set of library modules: HePi, HeIb, HeId, HeIe. -/
import Derived.Test.YtmmjfofdnpafkaaGreatDoorZ8
import Derived.Test.YtmmjfofdnpafkaaGreatDoorZ12
import Derived.Test.YtmmjfofdnpafkaaGreatDoorZ11
namespace Go.Proofs.YtmmjfofdnpafkaaGreatDoor
namespace Ad
open Go.RowKit Lx
def pitO (v : List UInt8) (l : List Prm) : Option (List UInt8) := match ppO (srt l) with | some p => if itmB v = true then some (v ++ p) else none | none => none
theorem pit_none {v : List UInt8} {l : List Prm} (h : ppO (srt l) = none) : pitO v l = none := by unfold pitO; rw [h]
theorem pit_bad {v : List UInt8} {l : List Prm} (p : List UInt8) (h : ppO (srt l) = some p) (hi : itmB v = false) : pitO v l = none := by unfold pitO; rw [h, hi]; rfl
theorem pit_some {v : List UInt8} {l : List Prm} {p : List UInt8} (h : ppO (srt l) = some p) (hi : itmB v = true) : pitO v l = some (v ++ p) := by unfold pitO; rw [h, hi]; rfl
theorem szP_perm {l l' : List Prm} (h : SzP l) (p : l'.Perm l) : SzP l' := fun q hq => h q (p.mem_iff.1 hq)
set_option maxRecDepth 100000 in
set_option maxHeartbeats 4000000 in
theorem printItem_any (B : Nat) (v : List UInt8) (A : Option Addr) (c : Nat) (l : List Prm) (w : World) (hP : PmIn B w (.slice A l.length c) l) (hB : B ≤ w.heap.size) (hv : v.length ≤ 2097152) (hz : SzP l) (hl : l.length ≤ 2097152) (E : Env w) :
   Calls Tryz.prog 45 #[.agg #[.string (Txt v), .slice A l.length c]] w (PrK (pitO v l) w) := by
 obtain ⟨w0, hw0⟩ : ∃ x, w.alloc (.cells #[.string (Txt v), .slice A l.length c] 59) = x := ⟨_, rfl⟩
 have B0 := Lib.hid (show Blk w0 w.heap.size 59 #[.string (Txt v), .slice A l.length c] from by rw [← hw0]; exact Blk.new w _ _)
 have k0 : Kp [] w w0 := by rw [← hw0]; exact (Kp.refl _ _).alloc _
 have K0 := Lib.hid k0
 obtain ⟨w1, hw1⟩ : ∃ x, w0.alloc (.cells #[.slice A l.length c] 22) = x := ⟨_, rfl⟩
 have B1 := show Blk w1 w0.heap.size 22 #[.slice A l.length c] from by rw [← hw1]; exact Blk.new w0 _ _
 have k1 : Kp [] w0 w1 := by rw [← hw1]; exact (Kp.refl _ _).alloc _
 have K1 := Lib.hid (k0.trans k1)
 have K01 := Lib.hid k1
 have hP1 : PmIn B w1 (.slice A l.length c) l := hP.kp (k0.trans k1) hB (by simp)
 have hsz := k1.size
 have hsz0 := k0.size
 have HS := Lib.hid (hsorted_any 176 #[.pointer (some ⟨w0.heap.size, 0, none⟩)] l (by omega) w1
  (enters_of Tryz.func176 (by kernel_rfl) rfl)
  (pvals_stops w0.heap.size w1.heap.size B _ l (by omega) w1 B1.lt (Nat.le_refl _) (by simpa using B1.cell 0) hP1 (by omega)))
 have HV := Lib.hid (by have h := values_any A l.length c w0; rw [hw1] at h; exact h)
 have HZ := Lib.hid hz
 have HE := Lib.hid E
 have c0 := B0.out.cell 1
 clear hP hP1 B1 k0 k1 hz E hsz hsz0 hw1
 go_enter Tryz.func45, Tryz.ntmps45
 go_wp2_with fail
 refine HV.out.mono ?_
 rintro e wx ⟨rfl, rfl⟩
 clear c0
 go_wp2_with fail
 refine HS.out.mono ?_
 rintro e w2 ⟨v2, l', rfl, h1, h2, h3, h4⟩
 obtain ⟨A2, c2, rfl⟩ := h1.form
 have hll : l'.length ≤ 2097152 := by rw [h2.length_eq]; exact hl
 have HO := Lib.hid (ppO_sort l l' h2 h3)
 have Z2 := Lib.hid (szP_perm HZ.out h2)
 have P2 := Lib.hid h1
 have B2 := Lib.hid (B0.out.kp (K01.out.trans h4) (by simp))
 have K2 := Lib.hid (K1.out.trans h4)
 clear h1 h2 h3 h4
 go_wp2_with fail
 refine (printParams_any _ _ l' _ P2.out (Nat.le_refl _) Z2.out hll (HE.out.kp K2.out (by simp))).mono ?_
 rintro e w3 ⟨rfl, hB3⟩
 have hK3 := (Kp.refl [] w2).below hB3
 have K3 := Lib.hid (K2.out.trans hK3)
 have B3 := Lib.hid (B2.out.kp hK3 (by simp))
 clear hB3 hK3
 rw [HO.out]
 have e0 := B3.out.cell 0
 obtain ⟨o, ho⟩ : ∃ o, ppO (srt l) = o := ⟨_, rfl⟩
 rw [ho]
 cases o with
 | none =>
   have HR := Lib.hid (pit_none (v := v) ho)
   clear ho
   simp only [Option.getD_none, Option.isSome_none, Bool.false_eq_true, if_false]
   go_wp2_with fail
   go_ret2
   exact PrK.none HR.out K3.out
 | some p =>
   simp only [Option.getD_some, Option.isSome_some, if_true]
   have HI := Lib.hid (fun wz (h : Env wz) => isItem_any v wz hv h)
   cases hi : itmB v
   ·have HR := Lib.hid (pit_bad p ho hi)
    have HIb := Lib.hid hi
    clear ho hi
    go_wp2_with fail
    refine (HI.out _ (HE.out.kp K3.out (by simp))).mono ?_
    rintro e w4 ⟨rfl, hK4⟩
    rw [HIb.out]
    have K4 := Lib.hid (K3.out.trans hK4)
    clear hK4 e0
    go_wp2_with fail
    go_ret2
    exact PrK.none HR.out K4.out
   ·have HR := Lib.hid (pit_some ho hi)
    have HIb := Lib.hid hi
    have HL := Lib.hid (ppO_len (srt l) (szP_perm HZ.out (srt_perm l)) p ho)
    clear ho hi
    go_wp2_with fail
    refine (HI.out _ (HE.out.kp K3.out (by simp))).mono ?_
    rintro e w4 ⟨rfl, hK4⟩
    rw [HIb.out]
    have K4 := Lib.hid (K3.out.trans hK4)
    have B4 := Lib.hid (B3.out.kp hK4 (by simp))
    clear hK4 e0
    have e0 := B4.out.cell 0
    have s1 : (Txt v).size ≤ 2097152 := by rw [txt_size]; exact hv
    have s2 : (Txt p).size ≤ 16 * 6291460 := by rw [txt_size]; exact HL.out
    go_wp2_with fail
    go_ret2
    exact PrK.some HR.out (cat_txt v p) K4.out
end Ad
end Go.Proofs.YtmmjfofdnpafkaaGreatDoor
namespace Go.Proofs.YtmmjfofdnpafkaaGreatDoor
namespace Ad
open Go.RowKit Lx
theorem itm_split (v : List UInt8) (h : itmB v = true) : tokB v = true ∨ ∃ a b, v = a ++ 47 :: b ∧ tokB a = true ∧ tokB b = true := by
 unfold itmB at h
 obtain ⟨e, he⟩ : ∃ e, endP (isC 47) v 0 = e := ⟨_, rfl⟩
 unfold cutS at h
 rw [he] at h
 by_cases hl : e < v.length
 ·rw [if_pos hl] at h
  simp only [Bool.not_true, Bool.false_or, Bool.and_eq_true] at h
  have h47 : atB v e = 47 := by
   have h9 := endP_at (isC 47) v 0 (by rw [he]; exact hl)
   rw [he] at h9
   unfold isC at h9
   exact beq_iff_eq.1 h9
  have hc : v[e] = 47 := by
   unfold atB at h47
   rw [List.getElem?_eq_getElem hl] at h47
   exact UInt8.toNat_inj.1 (show v[e].toNat = (47 : UInt8).toNat from Int.ofNat.inj h47)
  refine .inr ⟨v.take e, v.drop (e + 1), ?_, h.1, h.2⟩
  rw [← hc, ← List.drop_eq_getElem_cons hl, List.take_append_drop]
 ·rw [if_neg hl] at h
  simp only [Bool.not_false, Bool.true_or, Bool.and_true] at h
  exact .inl h
theorem s59_47 (p : List UInt8) (hp : Starts (· == 59) p) (v : List UInt8) : atB (v ++ p) v.length ≠ 47 := by
 rcases hp with rfl | ⟨c, t, rfl, hc⟩
 ·unfold atB
  rw [List.append_nil, List.getElem?_eq_none (Nat.le_refl _)]
  decide
 ·rw [beq_iff_eq] at hc
  rw [atB_app, hc]
  decide
theorem itE_print (v p : List UInt8) (h : itmB v = true) (hp : Starts (· == 59) p) : itE (v ++ p) = v.length := by
 rcases itm_split v h with h | ⟨a, b, rfl, ha, hb⟩
 ·have h1 := tokE_app [] v p ((tokB_iff v).1 h).2 (s59_tok p hp)
  rw [List.nil_append, List.length_nil, Nat.zero_add] at h1
  unfold itE
  rw [h1, if_neg (s59_47 p hp v)]
 ·have h1 := tokE_app [] a (47 :: (b ++ p)) ((tokB_iff a).1 ha).2 (.inr ⟨47, _, rfl, by decide⟩)
  rw [List.nil_append, List.length_nil, Nat.zero_add] at h1
  have h2 := tokE_app (a ++ [47]) b p ((tokB_iff b).1 hb).2 (s59_tok p hp)
  have e1 : a ++ 47 :: b ++ p = a ++ 47 :: (b ++ p) := by simp
  have e2 : a ++ [47] ++ (b ++ p) = a ++ 47 :: (b ++ p) := by simp
  have e3 : (a ++ [47]).length = a.length + 1 := by simp
  rw [e2, e3] at h2
  have h3 : atB (a ++ 47 :: (b ++ p)) a.length = 47 := by rw [atB_app]; rfl
  unfold itE
  rw [e1, h1, if_pos h3, h2]
  simp; omega
end Ad
end Go.Proofs.YtmmjfofdnpafkaaGreatDoor
namespace Go.Proofs.YtmmjfofdnpafkaaGreatDoor
namespace Ad
open Go.RowKit Lx
theorem itB_iff (v : List UInt8) : itmB v = (!decide (v = []) && decide (itN v = v.length)) := by
 obtain ⟨h1, h2⟩ := itB_is v
 cases hb : itmB v
 ·symm
  rw [Bool.and_eq_false_iff]
  by_cases hv : v = []
  ·exact .inl (by rw [hv]; rfl)
  ·refine .inr (decide_eq_false fun hn => ?_)
   have hl : v.length ≠ 0 := fun h => hv (List.eq_nil_of_length_eq_zero h)
   have h3 := h2 (by omega)
   rw [← h3, hn, List.take_length, hb] at h1
   simp [hl] at h1
 ·have hE := itE_print v [] hb (.inl rfl)
  rw [List.append_nil] at hE
  rw [hE, List.take_length, hb] at h1
  have h3 : itN v ≠ 0 := by simpa using h1.symm
  have h4 := h2 h3
  rw [hE] at h4
  have hv : v ≠ [] := fun h => by rw [h] at h4; exact h3 (by rw [h]; exact h4)
  simp [hv, h4]
set_option maxRecDepth 100000 in
set_option maxHeartbeats 4000000 in
theorem rprintItem_any (B : Nat) (v : List UInt8) (A : Option Addr) (c : Nat) (l : List Prm) (w : World) (hP : PmIn B w (.slice A l.length c) l) (hB : B ≤ w.heap.size) (hv : v.length ≤ 1048576) (hz : SzP l) (hl : l.length ≤ 1048576) :
   Calls Tryz.prog 46 #[.agg #[.string (Txt v), .slice A l.length c]] w (PrK (pitO v l) w) := by
 obtain ⟨w0, hw0⟩ : ∃ x, w.alloc (.cells #[.string (Txt v), .slice A l.length c] 59) = x := ⟨_, rfl⟩
 have B0 := Lib.hid (show Blk w0 w.heap.size 59 #[.string (Txt v), .slice A l.length c] from by rw [← hw0]; exact Blk.new w _ _)
 have k0 : Kp [] w w0 := by rw [← hw0]; exact (Kp.refl _ _).alloc _
 have K0 := Lib.hid k0
 have P0 := Lib.hid (hP.kp k0 hB (by simp))
 have hB0 := Nat.le_trans hB k0.size
 have HZ := Lib.hid hz
 have c1 := B0.out.cell 1
 clear hP k0 hz
 go_enter Tryz.func46, Tryz.ntmps46
 go_wp2_with fail
 refine (rSorted_any B _ l _ P0.out hB0 (by omega)).mono ?_
 rintro e w1 ⟨v1, rfl, hP1, hK1⟩
 obtain ⟨A1, C1, rfl⟩ := hP1.form
 have P1 := Lib.hid hP1
 have K1 := Lib.hid (K0.out.trans hK1)
 have B1 := Lib.hid (B0.out.kp hK1 (by simp))
 have Z1 := Lib.hid (szP_perm HZ.out (srt_perm l))
 have hl1 : (srt l).length ≤ 2097152 := by rw [(srt_perm l).length_eq]; omega
 clear hP1 hK1 c1
 go_wp2_with fail
 refine (rPrintParams_any _ _ (srt l) _ P1.out (Nat.le_refl _) Z1.out hl1).mono ?_
 rintro e w2 ⟨rfl, hB2⟩
 have hK2 := (Kp.refl [] w1).below hB2
 have K2 := Lib.hid (K1.out.trans hK2)
 have B2 := Lib.hid (B1.out.kp hK2 (by simp))
 clear hK2 hB2
 have g0 := grew_cell (B2.out.cell 0)
 have HI := Lib.hid (fun wz => ritemEnd_any (Txt v) v rfl wz (by rw [txt_size]; exact hv))
 have hsz := txt_size v
 obtain ⟨E, hE⟩ : ∃ E, decide (v = []) = E := ⟨_, rfl⟩
 obtain ⟨k, hk⟩ : ∃ k, itN v = k := ⟨_, rfl⟩
 obtain ⟨N, hN⟩ : ∃ N, ((k : Int) != (v.length : Int)) = N := ⟨_, rfl⟩
 have bE : ((Txt v).toList == ([] : List UInt8)) = E := (emp_D _).trans hE
 have HB := Lib.hid (show itmB v = (!E && !N) from by
  rw [itB_iff v, hE, hk, ← hN]
  congr 1
  by_cases h : k = v.length
  ·rw [h]; simp
  ·rw [decide_eq_false h, bne_iff_ne.2 (by omega)]; rfl)
 rw [hk] at HI
 obtain ⟨o, ho⟩ : ∃ o, ppO (srt l) = o := ⟨_, rfl⟩
 rw [ho]
 have HO := Lib.hid ho
 have HLn := Lib.hid (fun p (h : o = some p) => ppO_len (srt l) Z1.out p (by rw [ho, h]))
 have bN := hN
 clear ho hE hN hk
 cases E
 ·cases N
  rotate_left
  ·have HR := Lib.hid (show pitO v l = none from by unfold pitO; rw [HO.out, HB.out]; cases o <;> rfl)
   go_upto_region 2 with fail
   refine wp_region_grew (by kernel_rfl) (by kernel_rfl) ?_
   repeat (go_big_quiet_step ((go_at_call 103; exact Calls.grew_of (HI.out _) (fun _ _ h => h))))
   refine wpQuiet_nil ?_
   intro _ hw'
   obtain ⟨nq, hw''⟩ := hw'
   subst hw''
   go_wp2_with fail
   all_goals
    go_ret2
    exact PrK.none HR.out (K2.out.trans (grew_kp _ _))
  ·cases o with
   | none =>
     have HR := Lib.hid (pit_none (v := v) HO.out)
     simp only [Option.getD_none, Option.isSome_none, Bool.false_eq_true, if_false]
     go_upto_region 2 with fail
     refine wp_region_grew (by kernel_rfl) (by kernel_rfl) ?_
     repeat (go_big_quiet_step ((go_at_call 103; exact Calls.grew_of (HI.out _) (fun _ _ h => h))))
     refine wpQuiet_nil ?_
     intro _ hw'
     obtain ⟨nq, hw''⟩ := hw'
     subst hw''
     go_wp2_with fail
     go_ret2
     exact PrK.none HR.out (K2.out.trans (grew_kp _ _))
   | some p =>
     have HR := Lib.hid (pit_some HO.out HB.out)
     have s1 : (Txt v).size ≤ 2097152 := by rw [txt_size]; omega
     have s2 : (Txt p).size ≤ 16 * 6291460 := by rw [txt_size]; exact HLn.out p rfl
     simp only [Option.getD_some, Option.isSome_some, if_true]
     go_upto_region 2 with fail
     refine wp_region_grew (by kernel_rfl) (by kernel_rfl) ?_
     repeat (go_big_quiet_step ((go_at_call 103; exact Calls.grew_of (HI.out _) (fun _ _ h => h))))
     refine wpQuiet_nil ?_
     intro _ hw'
     obtain ⟨nq, hw''⟩ := hw'
     subst hw''
     have e0 := g0 nq
     go_wp2_with fail
     go_ret2
     exact PrK.some HR.out (cat_txt v p) (K2.out.trans (grew_kp _ _))
 ·have HR := Lib.hid (show pitO v l = none from by unfold pitO; rw [HO.out, HB.out]; cases o <;> rfl)
  go_upto_region 2 with fail
  refine wp_region_grew (by kernel_rfl) (by kernel_rfl) ?_
  repeat (go_big_quiet_step ((go_at_call 103; exact Calls.grew_of (HI.out _) (fun _ _ h => h))))
  refine wpQuiet_nil ?_
  intro _ hw'
  obtain ⟨nq, hw''⟩ := hw'
  subst hw''
  go_wp2_with fail
  all_goals
   go_ret2
   exact PrK.none HR.out (K2.out.trans (grew_kp _ _))
end Ad
end Go.Proofs.YtmmjfofdnpafkaaGreatDoor
namespace Go.Proofs.YtmmjfofdnpafkaaGreatDoor
namespace Ad
open Go.RowKit Lx
theorem itmR_len (l : List UInt8) : (itmR l).1.2.length ≤ 16 := by
 unfold itmR itT itP
 split
 ·split
  ·exact Nat.zero_le _
  ·exact parF_len _ _ _ _ (Nat.zero_le _)
 ·exact Nat.zero_le _
set_option maxRecDepth 100000 in
set_option maxHeartbeats 8000000 in
theorem items_law (s : ByteArray) (B : Nat) (v : List UInt8) (A : Option Addr) (c : Nat) (l : List Prm) (w : World) (hs : s.size ≤ 1048576) (hP : PmIn B w (.slice A l.length c) l) (hB : B ≤ w.heap.size) (hz : SzL 1048576 l) (hvl : v.length ≤ 1048576) (hl : l.length ≤ 1048576) (H : HEnv w) :
   Calls Tryz.prog 7 #[.string s, .agg #[.string (Txt v), .slice A l.length c]] w (BoK true w) := by
 obtain ⟨w0, hw0⟩ : ∃ x, w.alloc (.cells #[.string (Txt v), .slice A l.length c] 59) = x := ⟨_, rfl⟩
 have B0 := Lib.hid (show Blk w0 w.heap.size 59 #[.string (Txt v), .slice A l.length c] from by rw [← hw0]; exact Blk.new w _ _)
 have k0 : Kp [] w w0 := by rw [← hw0]; exact (Kp.refl _ _).alloc _
 have K0 := Lib.hid k0
 have P0 := Lib.hid ((hP.kp k0 hB (by simp)).more (Nat.le_trans hB k0.size))
 have HAw := Lib.hid (fun wz (h : HEnv wz) => hawake_any wz h)
 have HE := Lib.hid H
 have HZ := Lib.hid (show SzP l from fun p hp => by have := hz p hp; omega)
 have hil := itmR_len s.data.toList
 obtain ⟨iv, il, ix, hi⟩ : ∃ a b c, itmR s.data.toList = ((a, b), c) := ⟨_, _, _, rfl⟩
 have HI1 := Lib.hid (fun wz (h : HEnv wz) => (by have h := item_any s wz hs h.env; rw [hi] at h; exact h : Calls Tryz.prog 43 #[.string s] wz (ItP ((iv, il), ix) wz)))
 have HI2 := Lib.hid (fun wz => (by have h := ritem_any s wz hs; rw [hi] at h; exact h : Calls Tryz.prog 44 #[.string s] wz (ItP ((iv, il), ix) wz)))
 rw [hi] at hil
 dsimp only at hil
 obtain ⟨pt, hpt⟩ : ∃ t, (pitO v l).getD [] = t := ⟨_, rfl⟩
 obtain ⟨px, hpx⟩ : ∃ x : Int, (if (pitO v l).isSome then 0 else 2) = x := ⟨_, rfl⟩
 have HP1 := Lib.hid (fun wz (h : HEnv wz) (hP : PmIn wz.heap.size wz (.slice A l.length c) l) => (by have h := printItem_any _ v A c l wz hP (Nat.le_refl _) (by omega) HZ.out (by omega) h.env; unfold PrK at h; rw [hpt, hpx] at h; exact h : Calls Tryz.prog 45 #[.agg #[.string (Txt v), .slice A l.length c]] wz (TxE (pt, px) wz)))
 have HP2 := Lib.hid (fun wz (hP : PmIn wz.heap.size wz (.slice A l.length c) l) => (by have h := rprintItem_any _ v A c l wz hP (Nat.le_refl _) hvl HZ.out hl; unfold PrK at h; rw [hpt, hpx] at h; exact h : Calls Tryz.prog 46 #[.agg #[.string (Txt v), .slice A l.length c]] wz (TxE (pt, px) wz)))
 have bi : ((Txt iv).toList == (Txt iv).toList) = true := beq_self_eq_true _
 have bx : (ix == ix) = true := beq_self_eq_true _
 have bt : ((Txt pt).toList == (Txt pt).toList) = true := beq_self_eq_true _
 have bp : (px == px) = true := beq_self_eq_true _
 clear k0 hP H hz hi hpt hpx
 go_enter Tryz.func7, Tryz.ntmps7
 have a0 := B0.out.cell 0
 have a1 := B0.out.cell 1
 by_cases h40 : 40 < l.length
 ·go_wp2_with fail
  refine (HAw.out _ (HE.out.kp K0.out (by simp))).mono ?_
  rintro e w1 ⟨rfl, hK1⟩
  have K1 := Lib.hid (K0.out.trans hK1)
  clear hK1
  go_wp2_with fail
  go_ret
  exact ⟨rfl, K1.out⟩
 ·go_wp2_with fail
  refine (HI1.out _ (HE.out.kp K0.out (by simp))).mono ?_
  rintro e w1 ⟨v1, rfl, hP1, hK1⟩
  obtain ⟨A1, c1, rfl⟩ := hP1.form
  dsimp only at hP1 ⊢
  obtain ⟨w2, hw2⟩ : ∃ x, w1.alloc (.cells #[.string (Txt iv), .slice A1 il.length c1] 59) = x := ⟨_, rfl⟩
  have k2 : Kp [] w1 w2 := by rw [← hw2]; exact (Kp.refl _ _).alloc _
  obtain ⟨g1, hg1⟩ : ∃ x, w1.heap.size = x := ⟨_, rfl⟩
  have Y2 := Lib.hid (show Blk w2 g1 59 #[.string (Txt iv), .slice A1 il.length c1] from by rw [← hw2, ← hg1]; exact Blk.new w1 _ _)
  have Q2 := Lib.hid (hP1.grow k2 (by intro y hy; cases hy))
  have K2 := Lib.hid ((K0.out.trans hK1).trans k2)
  have B2 := Lib.hid (B0.out.kp (hK1.trans k2) (by simp))
  have P2 := Lib.hid (P0.out.grow (hK1.trans k2) (by intro y hy; cases hy))
  clear hK1 k2 hP1 a0 a1
  go_wp2_with fail
  refine (HI2.out _).mono ?_
  rintro e w3 ⟨v3, rfl, hP3, hK3⟩
  obtain ⟨A3, c3, rfl⟩ := hP3.form
  dsimp only at hP3 ⊢
  obtain ⟨w4, hw4⟩ : ∃ x, w3.alloc (.cells #[.string (Txt iv), .slice A3 il.length c3] 59) = x := ⟨_, rfl⟩
  have k4 : Kp [] w3 w4 := by rw [← hw4]; exact (Kp.refl _ _).alloc _
  obtain ⟨g3, hg3⟩ : ∃ x, w3.heap.size = x := ⟨_, rfl⟩
  have X4 := Lib.hid (show Blk w4 g3 59 #[.string (Txt iv), .slice A3 il.length c3] from by rw [← hw4, ← hg3]; exact Blk.new w3 _ _)
  have R4 := Lib.hid (hP3.grow k4 (by intro y hy; cases hy))
  have Y4 := Lib.hid (Y2.out.kp (hK3.trans k4) (by simp))
  have Q4 := Lib.hid (Q2.out.grow (hK3.trans k4) (by intro y hy; cases hy))
  have K4 := Lib.hid ((K2.out.trans hK3).trans k4)
  have B4 := Lib.hid (B2.out.kp (hK3.trans k4) (by simp))
  have P4 := Lib.hid (P2.out.grow (hK3.trans k4) (by intro y hy; cases hy))
  clear hK3 k4 hP3
  have a0 := B4.out.cell 0
  have a1 := B4.out.cell 1
  go_wp2_with fail
  refine (HP1.out _ (HE.out.kp K4.out (by simp)) P4.out).mono ?_
  rintro e w5 ⟨rfl, hK5⟩
  have K5 := Lib.hid (K4.out.trans hK5)
  have B5 := Lib.hid (B4.out.kp hK5 (by simp))
  have P5 := Lib.hid (P4.out.grow hK5 (by intro y hy; cases hy))
  have Y5 := Lib.hid (Y4.out.kp hK5 (by simp))
  have Q5 := Lib.hid (Q4.out.grow hK5 (by intro y hy; cases hy))
  have X5 := Lib.hid (X4.out.kp hK5 (by simp))
  have R5 := Lib.hid (R4.out.grow hK5 (by intro y hy; cases hy))
  clear hK5 a0 a1 hw2 hg1 hw4 hg3
  dsimp only
  have a0 := B5.out.cell 0
  have a1 := B5.out.cell 1
  go_wp2_with fail
  refine (HP2.out _ P5.out).mono ?_
  rintro e w6 ⟨rfl, hK6⟩
  have K6 := Lib.hid (K5.out.trans hK6)
  have Y6 := Lib.hid (Y5.out.kp hK6 (by simp))
  have Q6 := Lib.hid (Q5.out.grow hK6 (by intro y hy; cases hy))
  have X6 := Lib.hid (X5.out.kp hK6 (by simp))
  have R6 := Lib.hid (R5.out.grow hK6 (by intro y hy; cases hy))
  clear hK6 a0 a1
  dsimp only
  have c0 := Y6.out.cell 0
  have c1 := Y6.out.cell 1
  have d0 := X6.out.cell 0
  have d1 := X6.out.cell 1
  go_wp2_with fail
  refine (same_self _ _ _ _ il _ Q6.out R6.out (Nat.le_refl _) (Nat.le_refl _) (by omega)).mono ?_
  rintro e w7 ⟨rfl, hK7⟩
  have K7 := Lib.hid (K6.out.trans hK7)
  clear hK7 c0 c1 d0 d1
  go_wp2_with fail
  refine (HAw.out _ (HE.out.kp K7.out (by simp))).mono ?_
  rintro e w8 ⟨rfl, hK8⟩
  have K8 := Lib.hid (K7.out.trans hK8)
  clear hK8
  go_wp2_with fail
  go_ret
  exact ⟨rfl, K8.out⟩
end Ad
end Go.Proofs.YtmmjfofdnpafkaaGreatDoor
