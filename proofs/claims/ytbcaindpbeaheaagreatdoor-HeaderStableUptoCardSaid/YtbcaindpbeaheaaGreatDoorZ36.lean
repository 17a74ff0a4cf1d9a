/- Texts of one set of library modules: HePi, HeIb, HeKa, HePv, HeVa, HeVb, HeKe, HeKf, HeKg, HeKh, HeKi, HeKj, HeKk, HeKl. -/
import Derived.Test.YtbcaindpbeaheaaGreatDoorZ35
import Derived.Test.YtbcaindpbeaheaaGreatDoorZ32
import Derived.Test.YtbcaindpbeaheaaGreatDoorZ20
import Derived.Test.YtbcaindpbeaheaaGreatDoorZ2
import Derived.Test.YtbcaindpbeaheaaGreatDoorZ19
import Derived.Test.YtbcaindpbeaheaaGreatDoorZ37
namespace Go.Proofs.YtbcaindpbeaheaaGreatDoor
namespace Ad
open Go.RowKit Lx
def pitO (v : List UInt8) (l : List Prm) : Option (List UInt8) := match ppO (srt l) with | some p => if itmB v = true then some (v ++ p) else none | none => none
theorem pit_none {v : List UInt8} {l : List Prm} (h : ppO (srt l) = none) : pitO v l = none := by unfold pitO; rw [h]
theorem pit_bad {v : List UInt8} {l : List Prm} (p : List UInt8) (h : ppO (srt l) = some p) (hi : itmB v = false) : pitO v l = none := by unfold pitO; rw [h, hi]; rfl
theorem pit_some {v : List UInt8} {l : List Prm} {p : List UInt8} (h : ppO (srt l) = some p) (hi : itmB v = true) : pitO v l = some (v ++ p) := by unfold pitO; rw [h, hi]; rfl
theorem szP_perm {l l' : List Prm} (h : SzP l) (p : l'.Perm l) : SzP l' := fun q hq => h q (p.mem_iff.1 hq)
set_option maxRecDepth 100000 in
set_option maxHeartbeats 4000000 in
theorem printItem_any (B : Nat) (v : List UInt8) (A : Option Addr) (c : Nat) (l : List Prm) (w : World) (hP : PmIn B w (.slice A l.length c) l) (hB : B ≤ w.heap.size) (hv : v.length ≤ 2097152) (hz : SzP l) (hl : l.length ≤ 2097152) (E : Env w) :
   Calls Tryz.prog 24 #[.agg #[.string (Txt v), .slice A l.length c]] w (PrK (pitO v l) w) := by
 obtain ⟨w0, hw0⟩ : ∃ x, w.alloc (.cells #[.string (Txt v), .slice A l.length c] 63) = x := ⟨_, rfl⟩
 have B0 := Lib.hid (show Blk w0 w.heap.size 63 #[.string (Txt v), .slice A l.length c] from by rw [← hw0]; exact Blk.new w _ _)
 have k0 : Kp [] w w0 := by rw [← hw0]; exact (Kp.refl _ _).alloc _
 have K0 := Lib.hid k0
 obtain ⟨w1, hw1⟩ : ∃ x, w0.alloc (.cells #[.slice A l.length c] 36) = x := ⟨_, rfl⟩
 have B1 := show Blk w1 w0.heap.size 36 #[.slice A l.length c] from by rw [← hw1]; exact Blk.new w0 _ _
 have k1 : Kp [] w0 w1 := by rw [← hw1]; exact (Kp.refl _ _).alloc _
 have K1 := Lib.hid (k0.trans k1);have K01 := Lib.hid k1
 have hP1 : PmIn B w1 (.slice A l.length c) l := hP.kp (k0.trans k1) hB (by simp)
 have hsz := k1.size;have hsz0 := k0.size
 have HS := Lib.hid (hsorted_any 100 #[.pointer (some ⟨w0.heap.size, 0, none⟩)] l (by omega) w1
  (enters_of Tryz.func100 (by kernel_rfl) rfl)
  (pvals_stops w0.heap.size w1.heap.size B _ l (by omega) w1 B1.lt (Nat.le_refl _) (by simpa using B1.cell 0) hP1 (by omega)))
 have HV := Lib.hid (by have h := values_any A l.length c w0; rw [hw1] at h; exact h)
 have HZ := Lib.hid hz;have HE := Lib.hid E;have c0 := B0.out.cell 1;clear hP hP1 B1 k0 k1 hz E hsz hsz0 hw1
 go_enter Tryz.func24, Tryz.ntmps24
 go_wp2_with fail
 refine HV.out.mono ?_
 rintro e wx ⟨rfl, rfl⟩
 clear c0
 go_wp2_with fail
 refine HS.out.mono ?_
 rintro e w2 ⟨v2, l', rfl, h1, h2, h3, h4⟩
 obtain ⟨A2, c2, rfl⟩ := h1.form
 have hll : l'.length ≤ 2097152 := by rw [h2.length_eq]; exact hl
 have HO := Lib.hid (ppO_sort l l' h2 h3);have Z2 := Lib.hid (szP_perm HZ.out h2);have P2 := Lib.hid h1
 have B2 := Lib.hid (B0.out.kp (K01.out.trans h4) (by simp))
 have K2 := Lib.hid (K1.out.trans h4);clear h1 h2 h3 h4
 go_wp2_with fail
 refine (printParams_any _ _ l' _ P2.out (Nat.le_refl _) Z2.out hll (HE.out.kp K2.out (by simp))).mono ?_
 rintro e w3 ⟨rfl, hB3⟩
 have hK3 := (Kp.refl [] w2).below hB3
 have K3 := Lib.hid (K2.out.trans hK3)
 have B3 := Lib.hid (B2.out.kp hK3 (by simp))
 clear hB3 hK3
 rw [HO.out]
 have e0 := B3.out.cell 0
 obtain ⟨o, ho⟩ : ∃ o, ppO (srt l) = o := ⟨_, rfl⟩
 rw [ho]
 cases o with
 | none =>
   have HR := Lib.hid (pit_none (v := v) ho)
   clear ho
   simp only [Option.getD_none, Option.isSome_none, Bool.false_eq_true, if_false]
   go_wp2_with fail
   go_ret2
   exact PrK.none HR.out K3.out
 | some p =>
   simp only [Option.getD_some, Option.isSome_some, if_true]
   have HI := Lib.hid (fun wz (h : Env wz) => isItem_any v wz hv h)
   cases hi : itmB v
   ·have HR := Lib.hid (pit_bad p ho hi)
    have HIb := Lib.hid hi;clear ho hi
    go_wp2_with fail
    refine (HI.out _ (HE.out.kp K3.out (by simp))).mono ?_
    rintro e w4 ⟨rfl, hK4⟩
    rw [HIb.out]
    have K4 := Lib.hid (K3.out.trans hK4);clear hK4 e0
    go_wp2_with fail
    go_ret2
    exact PrK.none HR.out K4.out
   ·have HR := Lib.hid (pit_some ho hi)
    have HIb := Lib.hid hi;have HL := Lib.hid (ppO_len (srt l) (szP_perm HZ.out (srt_perm l)) p ho);clear ho hi
    go_wp2_with fail
    refine (HI.out _ (HE.out.kp K3.out (by simp))).mono ?_
    rintro e w4 ⟨rfl, hK4⟩
    rw [HIb.out]
    have K4 := Lib.hid (K3.out.trans hK4)
    have B4 := Lib.hid (B3.out.kp hK4 (by simp))
    clear hK4 e0;have e0 := B4.out.cell 0
    have s1 : (Txt v).size ≤ 2097152 := by rw [txt_size]; exact hv
    have s2 : (Txt p).size ≤ 16 * 6291460 := by rw [txt_size]; exact HL.out
    go_wp2_with fail
    go_ret2
    exact PrK.some HR.out (cat_txt v p) K4.out
end Ad
end Go.Proofs.YtbcaindpbeaheaaGreatDoor
namespace Go.Proofs.YtbcaindpbeaheaaGreatDoor
namespace Ad
open Go.RowKit Lx
theorem itm_split (v : List UInt8) (h : itmB v = true) : tokB v = true ∨ ∃ a b, v = a ++ 47 :: b ∧ tokB a = true ∧ tokB b = true := by
 unfold itmB at h
 obtain ⟨e, he⟩ : ∃ e, endP (isC 47) v 0 = e := ⟨_, rfl⟩
 unfold cutS at h
 rw [he] at h
 by_cases hl : e < v.length
 ·rw [if_pos hl] at h
  simp only [Bool.not_true, Bool.false_or, Bool.and_eq_true] at h
  have h47 : atB v e = 47 := by
   have h9 := endP_at (isC 47) v 0 (by rw [he]; exact hl)
   rw [he] at h9
   unfold isC at h9
   exact beq_iff_eq.1 h9
  have hc : v[e] = 47 := by
   unfold atB at h47
   rw [List.getElem?_eq_getElem hl] at h47
   exact UInt8.toNat_inj.1 (show v[e].toNat = (47 : UInt8).toNat from Int.ofNat.inj h47)
  refine .inr ⟨v.take e, v.drop (e + 1), ?_, h.1, h.2⟩
  rw [← hc, ← List.drop_eq_getElem_cons hl, List.take_append_drop]
 ·rw [if_neg hl] at h
  simp only [Bool.not_false, Bool.true_or, Bool.and_true] at h
  exact .inl h
theorem s59_47 (p : List UInt8) (hp : Starts (· == 59) p) (v : List UInt8) : atB (v ++ p) v.length ≠ 47 := by
 rcases hp with rfl | ⟨c, t, rfl, hc⟩
 ·unfold atB
  rw [List.append_nil, List.getElem?_eq_none (Nat.le_refl _)]
  decide
 ·rw [beq_iff_eq] at hc
  rw [atB_app, hc]
  decide
theorem itE_print (v p : List UInt8) (h : itmB v = true) (hp : Starts (· == 59) p) : itE (v ++ p) = v.length := by
 rcases itm_split v h with h | ⟨a, b, rfl, ha, hb⟩
 ·have h1 := tokE_app [] v p ((tokB_iff v).1 h).2 (s59_tok p hp)
  rw [List.nil_append, List.length_nil, Nat.zero_add] at h1
  unfold itE
  rw [h1, if_neg (s59_47 p hp v)]
 ·have h1 := tokE_app [] a (47 :: (b ++ p)) ((tokB_iff a).1 ha).2 (.inr ⟨47, _, rfl, by decide⟩)
  rw [List.nil_append, List.length_nil, Nat.zero_add] at h1
  have h2 := tokE_app (a ++ [47]) b p ((tokB_iff b).1 hb).2 (s59_tok p hp)
  have e1 : a ++ 47 :: b ++ p = a ++ 47 :: (b ++ p) := by simp
  have e2 : a ++ [47] ++ (b ++ p) = a ++ 47 :: (b ++ p) := by simp
  have e3 : (a ++ [47]).length = a.length + 1 := by simp
  rw [e2, e3] at h2
  have h3 : atB (a ++ 47 :: (b ++ p)) a.length = 47 := by rw [atB_app]; rfl
  unfold itE
  rw [e1, h1, if_pos h3, h2]
  simp; omega
theorem itm_ends (v : List UInt8) (h : itmB v = true) : NEnd v ∧ ∃ c m, v = c :: m ∧ bb c = false := by
 have key : ∀ a : List UInt8, tokB a = true → ∃ c m, a = c :: m ∧ bb c = false := by
  intro a ha
  obtain ⟨h1, h2⟩ := (tokB_iff a).1 ha
  cases a with
  | nil => exact absurd rfl h1
  | cons c m => exact ⟨c, m, rfl, tok_blank _ (h2 c (by simp))⟩
 rcases itm_split v h with h | ⟨a, b, rfl, ha, hb⟩
 ·exact ⟨tok_end v h, key v h⟩
 ·obtain ⟨c, m, rfl, hc⟩ := key a ha
  exact ⟨((tok_end b hb).pre [47]).pre (c :: m), c, m ++ 47 :: b, rfl, hc⟩
theorem itm_back (v : List UInt8) (l : List Prm) (t : List UInt8) (h : pitO v l = some t) : itmR t = ((v, srt l), 0) := by
 unfold pitO at h
 cases hp : ppO (srt l) with
 | none => rw [hp] at h; cases h
 | some p =>
   rw [hp] at h
   dsimp only at h
   split at h
   ·rename_i hi
    injection h with h
    have hs := ppF_starts (srt l) [] p hp
    obtain ⟨he, c, m, hv, hc⟩ := itm_ends v hi
    have hT : trS t = t := by
     have hn : NEnd t := by
      rw [← h]
      rcases ppO_end _ _ hp with rfl | hn
      ·rw [List.append_nil]; exact he
      ·exact hn.pre v
     obtain ⟨n, d, h2, hd⟩ := hn
     exact trS_self t (m ++ p) n c d (by rw [← h, hv]; rfl) h2 hc hd
    have hE := itE_print v p hi hs;have hR := parR_print (srt l) p hp
    unfold itmR
    rw [hT, ← h]
    unfold itT
    rw [hE, List.take_left', List.drop_left', hi, hR] <;> rfl
   ·cases h
end Ad
end Go.Proofs.YtbcaindpbeaheaaGreatDoor
namespace Go.Proofs.YtbcaindpbeaheaaGreatDoor
namespace Ad
open Go.RowKit Lx
def tidI (l : List UInt8) : List UInt8 × Int :=
 if (itmR l).2 ≠ 0 then ([], (itmR l).2) else ((pitO (itmR l).1.1 (itmR l).1.2).getD [], if (pitO (itmR l).1.1 (itmR l).1.2).isSome then 0 else 2)
theorem itm_md (l : List UInt8) (hl : l.length ≤ 2097152) : (itmR l).1.1.length ≤ 2097152 ∧ (itmR l).1.2.length ≤ 16 ∧ SzL (l.length + 86) (itmR l).1.2 := by
 have hd : ∀ x : List UInt8, (parR x).1.length ≤ 16 ∧ SzL (x.length + 86) (parR x).1 := fun x => ⟨parF_len _ _ _ _ (Nat.zero_le _), parF_sz _ _ _ _ (fun p hp => by cases hp)⟩
 have ht := trS_len l
 unfold itmR itT
 split
 ·unfold itP
  split
  ·exact ⟨Nat.zero_le _, Nat.zero_le _, fun p hp => by cases hp⟩
  ·obtain ⟨h1, h2⟩ := hd ((trS l).drop (itE (trS l)))
   refine ⟨?_, h1, fun p hp => ?_⟩
   ·dsimp only; rw [List.length_take]; omega
   ·have h3 := h2 p hp
    rw [List.length_drop] at h3
    exact ⟨by have := h3.1; omega, by have := h3.2; omega⟩
 ·exact ⟨Nat.zero_le _, Nat.zero_le _, fun p hp => by cases hp⟩
set_option maxRecDepth 100000 in
set_option maxHeartbeats 4000000 in
theorem rewrI_any (s : ByteArray) (w : World) (hs : s.size ≤ 2097000) (E : Env w) :
   Calls Tryz.prog 22 #[.string s, .func (.func 23) #[] #[], .func (.func 24) #[] #[]] w (TxE (tidI s.data.toList) w) := by
 obtain ⟨v, l, x, hr⟩ : ∃ a' b' c', itmR s.data.toList = ((a', b'), c') := ⟨_, _, _, rfl⟩
 have hmd := itm_md s.data.toList (by rw [len_list]; omega)
 have hsl := len_list s
 have HA := Lib.hid (item_any2 s w (by omega) E)
 rw [hr] at hmd HA
 have HV := Lib.hid (by unfold tidI; rw [hr] : tidI s.data.toList = if x ≠ 0 then ([], x) else ((pitO v l).getD [], if (pitO v l).isSome then 0 else 2))
 dsimp only at hmd
 obtain ⟨hm1, hm2, hm3⟩ := hmd
 have HZ := Lib.hid (show SzP l from fun p hp => by have := hm3 p hp; exact ⟨by have := this.1; omega, by have := this.2; omega⟩)
 have HE := Lib.hid E;clear hr E hm3 hsl
 by_cases hx : x = 0
 ·have bx : (x != 0) = false := by rw [hx]; rfl
  have HF := Lib.hid (HV.out.trans (if_neg (fun h => h hx)))
  clear hx
  go_enter Tryz.func22, Tryz.ntmps22
  go_wp2_with fail
  refine HA.out.mono ?_
  rintro e w2 ⟨v2, rfl, hP, hK2⟩
  have K2 := Lib.hid hK2
  obtain ⟨A, c, rfl⟩ := hP.form
  have Hv := Lib.hid hP;clear hP hK2
  dsimp only at Hv ⊢
  obtain ⟨n, hn⟩ : ∃ n, l.length = n := ⟨_, rfl⟩
  obtain ⟨T, hT⟩ : ∃ T, Txt v = T := ⟨_, rfl⟩
  obtain ⟨g, hg⟩ : ∃ x, w2.heap.size = x := ⟨_, rfl⟩
  obtain ⟨w3, hw3⟩ : ∃ x, w2.alloc (.cells #[.string T, .slice A n c] 63) = x := ⟨_, rfl⟩
  have hKa : Kp [] w2 w3 := by rw [← hw3]; exact (Kp.refl _ _).alloc _
  have K3 := Lib.hid (K2.out.trans hKa)
  have B3 := Lib.hid (show Blk w3 g 63 #[.string T, .slice A n c] from by rw [← hw3, ← hg]; exact Blk.new w2 _ _)
  have V3 := Lib.hid (Hv.out.grow hKa (by intro y hy; cases hy))
  have HP := Lib.hid (by
   have h := printItem_any w3.heap.size v A c l w3 V3.out (Nat.le_refl _) hm1 HZ.out (by omega) (HE.out.kp K3.out (by simp))
   rw [hn, hT] at h
   exact h)
  rw [hn, hT]
  have HF2 := HF.out
  unfold PrK at HP
  obtain ⟨pt, hpt⟩ : ∃ z, (pitO v l).getD [] = z := ⟨_, rfl⟩
  obtain ⟨pe, hpe⟩ : ∃ z : Int, (if (pitO v l).isSome then 0 else 2) = z := ⟨_, rfl⟩
  rw [hpt, hpe] at HP HF2
  have HF3 := Lib.hid HF2;clear HF2 hpt hpe HF hKa Hv V3 hn hT
  go_upto_region 4 with fail
  try rw [hw3]
  have u0 := B3.out.cell 0;have u1 := B3.out.cell 1;clear hw3
  go_wp2_with fail
  refine HP.out.mono ?_
  rintro e w4 ⟨rfl, hK4⟩
  have K4 := Lib.hid (K3.out.trans hK4);clear hK4
  go_wp2_with fail
  go_ret2
  unfold TxE
  rw [HF3.out]
  exact ⟨rfl, K4.out⟩
 ·have bx : (x != 0) = true := by rw [bne_iff_ne]; exact hx
  have HF := Lib.hid (HV.out.trans (if_pos hx));clear hx
  go_enter Tryz.func22, Tryz.ntmps22
  go_wp2_with fail
  refine HA.out.mono ?_
  rintro e w2 ⟨v2, rfl, hP, hK2⟩
  have K2 := Lib.hid hK2
  obtain ⟨A, c, rfl⟩ := hP.form
  clear hP hK2
  dsimp only
  obtain ⟨n, hn⟩ : ∃ n, l.length = n := ⟨_, rfl⟩
  obtain ⟨T, hT⟩ : ∃ T, Txt v = T := ⟨_, rfl⟩
  rw [hn, hT]
  obtain ⟨w3, hw3⟩ : ∃ x, w2.alloc (.cells #[.string T, .slice A n c] 63) = x := ⟨_, rfl⟩
  have hKa : Kp [] w2 w3 := by rw [← hw3]; exact (Kp.refl _ _).alloc _
  have K3 := Lib.hid (K2.out.trans hKa);clear hKa hn hT
  go_upto_region 3 with fail
  try rw [hw3]
  go_wp2_with fail
  go_ret2
  unfold TxE
  rw [HF.out]
  exact ⟨rfl, K3.out⟩
set_option maxRecDepth 100000 in
set_option maxHeartbeats 4000000 in
theorem tidyOne_token (s : ByteArray) (w : World) (hs : s.size ≤ 2097000) (E : Env w) :
   Calls Tryz.prog 8 #[.int .u8 7, .string s] w (TxE (tidI s.data.toList) w) := by
 have HR := Lib.hid (rewrI_any s w hs E)
 obtain ⟨t, x, hr⟩ : ∃ a b, tidI s.data.toList = (a, b) := ⟨_, _, rfl⟩
 rw [hr] at HR ⊢
 clear hr E
 go_enter Tryz.func8, Tryz.ntmps8
 go_wp2_with fail
 refine HR.out.mono ?_
 rintro e w2 ⟨rfl, hK2⟩
 have K2 := Lib.hid hK2;clear hK2
 go_wp2_with fail
 go_ret2
 exact ⟨rfl, K2.out⟩
set_option maxRecDepth 100000 in
set_option maxHeartbeats 4000000 in
theorem tidyOne_item (s : ByteArray) (w : World) (hs : s.size ≤ 2097000) (E : Env w) :
   Calls Tryz.prog 8 #[.int .u8 6, .string s] w (TxE (tidI s.data.toList) w) := by
 have HR := Lib.hid (rewrI_any s w hs E)
 obtain ⟨t, x, hr⟩ : ∃ a b, tidI s.data.toList = (a, b) := ⟨_, _, rfl⟩
 rw [hr] at HR ⊢
 clear hr E
 go_enter Tryz.func8, Tryz.ntmps8
 go_wp2_with fail
 refine HR.out.mono ?_
 rintro e w2 ⟨rfl, hK2⟩
 have K2 := Lib.hid hK2;clear hK2
 go_wp2_with fail
 go_ret2
 exact ⟨rfl, K2.out⟩
set_option maxRecDepth 100000 in
set_option maxHeartbeats 4000000 in
theorem tidyOne_number (s : ByteArray) (w : World) (hs : s.size ≤ 1100000) (E : Env w) (hhi : numN (trS s.data.toList) ≤ 9223372036854775807) :
   Calls Tryz.prog 8 #[.int .u8 5, .string s] w (TxE (tidN s.data.toList) w) := by
 have HR := Lib.hid (tidyNumber_any s w hs E hhi)
 obtain ⟨t, x, hr⟩ : ∃ a b, tidN s.data.toList = (a, b) := ⟨_, _, rfl⟩
 rw [hr] at HR ⊢
 clear hr E hhi
 go_enter Tryz.func8, Tryz.ntmps8
 go_wp2_with fail
 refine HR.out.mono ?_
 rintro e w2 ⟨rfl, hK2⟩
 have K2 := Lib.hid hK2;clear hK2
 go_wp2_with fail
 go_ret2
 exact ⟨rfl, K2.out⟩
set_option maxRecDepth 100000 in
set_option maxHeartbeats 4000000 in
theorem tidyOne_text (s : ByteArray) (w : World) (hs : s.size ≤ 1100000) :
   Calls Tryz.prog 8 #[.int .u8 0, .string s] w (TxE (tidX s.data.toList) w) := by
 have HR := Lib.hid (tidyText_any s w hs)
 obtain ⟨t, x, hr⟩ : ∃ a b, tidX s.data.toList = (a, b) := ⟨_, _, rfl⟩
 rw [hr] at HR ⊢
 clear hr
 go_enter Tryz.func8, Tryz.ntmps8
 go_wp2_with fail
 refine HR.out.mono ?_
 rintro e w2 ⟨rfl, hK2⟩
 have K2 := Lib.hid hK2;clear hK2
 go_wp2_with fail
 go_ret2
 exact ⟨rfl, K2.out⟩
end Ad
end Go.Proofs.YtbcaindpbeaheaaGreatDoor
namespace Go.Proofs.YtbcaindpbeaheaaGreatDoor
namespace Ad
open Go.RowKit Lx
def porL (po : Int) : List UInt8 := if po = 0 then [] else 58 :: Lib.itoa po
def pviO (t h b : List UInt8) (po : Int) (l : List Prm) : Option (List UInt8) :=
 match hostO h with
 | some ho => if tokB t = true ∧ 0 ≤ po ∧ po ≤ 65535 then (match ppO (srt (vps l b)) with | some p => some (protoL ++ uprL t ++ [32] ++ ho ++ porL po ++ p) | none => none) else none
 | none => none
theorem pvi_host {t h b : List UInt8} {po : Int} {l : List Prm} (hh : hostO h = none) : pviO t h b po l = none := by unfold pviO; rw [hh]
theorem pvi_bad {t h b : List UInt8} {po : Int} {l : List Prm} (hc : ¬ (tokB t = true ∧ 0 ≤ po ∧ po ≤ 65535)) : pviO t h b po l = none := by
 unfold pviO
 split
 ·rw [if_neg hc]
 ·rfl
theorem pvi_list {t h b : List UInt8} {po : Int} {l : List Prm} (hp : ppO (srt (vps l b)) = none) : pviO t h b po l = none := by
 unfold pviO
 split
 ·split
  ·rw [hp]
  ·rfl
 ·rfl
theorem pvi_some {t h b : List UInt8} {po : Int} {l : List Prm} {ho p : List UInt8} (hh : hostO h = some ho) (hc : tokB t = true ∧ 0 ≤ po ∧ po ≤ 65535) (hp : ppO (srt (vps l b)) = some p) : pviO t h b po l = some (protoL ++ uprL t ++ [32] ++ ho ++ porL po ++ p) := by
 unfold pviO
 rw [hh]
 dsimp only
 rw [if_pos hc, hp]
theorem vps_len (l : List Prm) (b : List UInt8) : (vps l b).length ≤ l.length + 1 := by
 unfold vps
 have := nbr_len l
 rw [List.length_append]
 split <;> simp <;> omega
theorem vps_sz (l : List Prm) (b : List UInt8) (h : SzP l) (hb : b.length ≤ 2097152) : SzP (vps l b) := by
 intro p hp
 unfold vps at hp
 rcases List.mem_append.1 hp with hp | hp
 ·exact h p (List.mem_filter.1 hp).1
 ·split at hp
  ·cases hp
  ·rw [List.mem_singleton.1 hp]; exact ⟨by simp [brnN], hb⟩
theorem dec_eq : ∀ n : Nat, Lib.decDigits n = decL n := by
 intro n
 induction n using Nat.strongRecOn with
 | _ n ih =>
   by_cases h : n < 10
   ·rw [Lib.decDigits, dif_pos h, decL_lt n h]
   ·rw [Lib.decDigits, dif_neg h, decL_ge n h, ih (n / 10) (by omega)]
theorem itoa_dec (po : Int) (h : 0 ≤ po) : Lib.itoa po = decL po.toNat := by
 unfold Lib.itoa
 rw [if_neg (by omega), dec_eq]
theorem cat5 (a b c d e f : List UInt8) : Txt a ++ Txt b ++ Txt c ++ Txt d ++ Txt e ++ Txt f = Txt (a ++ b ++ c ++ d ++ e ++ f) := by simp only [cat_txt]
set_option maxRecDepth 100000 in
set_option maxHeartbeats 1000000 in
theorem viaParams_any (T H B : ByteArray) (po : Int) (A : Option Addr) (n c : Nat) (w : World) : Calls Tryz.prog 52 #[.agg #[.string T, .string H, .int .i64 po, .string B, .slice A n c]] w fun e w' =>
   e = .returned (.func (.func 96) #[] #[.pointer (some ⟨w.heap.size, 0, none⟩)]) ∧ w' = w.alloc (.cells #[.string T, .string H, .int .i64 po, .string B, .slice A n c] 38) := by
 go_enter Tryz.func52, Tryz.ntmps52
 go_wp2_with fail
 go_ret
 exact ⟨rfl, rfl⟩
set_option maxRecDepth 100000 in
set_option maxHeartbeats 8000000 in
theorem printVia_any (B : Nat) (t h b : List UInt8) (po : Int) (A : Option Addr) (c : Nat) (l : List Prm) (w : World) (hP : PmIn B w (.slice A l.length c) l) (hB : B ≤ w.heap.size) (ht : t.length ≤ 1100000) (hh : h.length ≤ 2097152) (hb : b.length ≤ 1100000) (hz : SzP l) (hl : l.length ≤ 1048577) (hp0 : -9223372036854775808 ≤ po) (hp1 : po ≤ 9223372036854775807) (E : Env w) :
   Calls Tryz.prog 21 #[.agg #[.string (Txt t), .string (Txt h), .int .i64 po, .string (Txt b), .slice A l.length c]] w (PrK (pviO t h b po l) w) := by
 obtain ⟨w0, hw0⟩ : ∃ x, w.alloc (.cells #[.string (Txt t), .string (Txt h), .int .i64 po, .string (Txt b), .slice A l.length c] 38) = x := ⟨_, rfl⟩
 have B0 := Lib.hid (show Blk w0 w.heap.size 38 #[.string (Txt t), .string (Txt h), .int .i64 po, .string (Txt b), .slice A l.length c] from by rw [← hw0]; exact Blk.new w _ _)
 have k0 : Kp [] w w0 := by rw [← hw0]; exact (Kp.refl _ _).alloc _
 have K0 := Lib.hid k0
 have P0 := Lib.hid ((hP.kp k0 hB (by simp)).more (Nat.le_trans hB k0.size))
 have HZ := Lib.hid (vps_sz l b hz (by omega))
 have HVl := Lib.hid (vps_len l b);have HE := Lib.hid E
 have HH := Lib.hid (by have h := Host_any (Txt h) w0 (by rw [txt_size]; omega) (E.kp k0 (by simp)); rw [txt_list] at h; exact h)
 obtain ⟨T, hT⟩ : ∃ T, tokB t = T := ⟨_, rfl⟩
 have HTk := Lib.hid (fun wz => tokK t T hT (by omega) wz)
 have HTb := Lib.hid hT;clear k0 hP hz E hT
 go_enter Tryz.func21, Tryz.ntmps21
 have a1 := B0.out.cell 1
 go_wp2_with fail
 refine HH.out.mono ?_
 rintro e w1 ⟨rfl, hB1⟩
 have hK1 := (Kp.refl [] w0).below hB1
 have K1 := Lib.hid (K0.out.trans hK1)
 have B1 := Lib.hid (B0.out.kp hK1 (by simp))
 have P1 := Lib.hid (P0.out.grow hK1 (by intro y hy; cases hy))
 clear hB1 hK1 a1 HH;have a0 := B1.out.cell 0;have a2 := B1.out.cell 2
 obtain ⟨o, ho⟩ : ∃ o, hostO h = o := ⟨_, rfl⟩
 rw [ho]
 cases o with
 | none =>
   have HR := Lib.hid (pvi_host (t := t) (b := b) (po := po) (l := l) ho)
   clear ho
   simp only [Option.getD_none, Option.isSome_none]
   go_wp2_with fail
   go_ret2
   exact PrK.none HR.out K1.out
 | some x =>
   have hol := hostO_len h x ho;have HHo := Lib.hid ho;clear ho
   simp only [Option.getD_some, Option.isSome_some]
   cases T
   ·have HR := Lib.hid (pvi_bad (t := t) (h := h) (b := b) (po := po) (l := l) (by rw [HTb.out]; simp))
    go_wp2_with fail
    refine (HTk.out _).mono ?_
    rintro e w2 ⟨rfl, hK2⟩
    have K2 := Lib.hid (K1.out.trans hK2);clear hK2 a0 a2
    go_wp2_with fail
    go_ret2
    exact PrK.none HR.out K2.out
   ·go_wp2_with fail
    refine (HTk.out _).mono ?_
    rintro e w2 ⟨rfl, hK2⟩
    have K2 := Lib.hid (K1.out.trans hK2)
    have B2 := Lib.hid (B1.out.kp hK2 (by simp))
    have P2 := Lib.hid (P1.out.grow hK2 (by intro y hy; cases hy))
    clear hK2 a0 a2;have a2 := B2.out.cell 2
    by_cases hlo : po < 0
    ·have HR := Lib.hid (pvi_bad (t := t) (h := h) (b := b) (po := po) (l := l) (by omega))
     go_wp2_with fail
     go_ret2
     exact PrK.none HR.out K2.out
    by_cases hhi : 65535 < po
    ·have HR := Lib.hid (pvi_bad (t := t) (h := h) (b := b) (po := po) (l := l) (by omega))
     go_wp2_with fail
     go_ret2
     exact PrK.none HR.out K2.out
    have HC := Lib.hid (show tokB t = true ∧ 0 ≤ po ∧ po ≤ 65535 from ⟨HTb.out, by omega, by omega⟩)
    have a0 := B2.out.cell 0;have a1 := B2.out.cell 1;have a3 := B2.out.cell 3;have a4 := B2.out.cell 4
    obtain ⟨w3, hw3⟩ : ∃ x, w2.alloc (.cells #[.string (Txt t), .string (Txt h), .int .i64 po, .string (Txt b), .slice A l.length c] 38) = x := ⟨_, rfl⟩
    have k3 : Kp [] w2 w3 := by rw [← hw3]; exact (Kp.refl _ _).alloc _
    have y3 : Blk w3 w2.heap.size 38 #[.string (Txt t), .string (Txt h), .int .i64 po, .string (Txt b), .slice A l.length c] := by rw [← hw3]; exact Blk.new w2 _ _
    have hP3 := P2.out.kp k3 (Nat.le_refl _) (by simp)
    have HV := Lib.hid (by have h := viaParams_any (Txt t) (Txt h) (Txt b) po A l.length c w2; rw [hw3] at h; exact h)
    have hvl := HVl.out
    have HS := Lib.hid (hsorted_any 96 #[.pointer (some ⟨w2.heap.size, 0, none⟩)] (vps l b) (by omega) w3
     (enters_of Tryz.func96 (by kernel_rfl) rfl)
     (vpars_stops w2.heap.size w3.heap.size w2.heap.size _ l b (by omega) (by omega) w3 y3.lt (Nat.le_refl _) (by simpa using y3.cell 3) (by simpa using y3.cell 4) hP3 k3.size))
    have K3 := Lib.hid (K2.out.trans k3)
    have B3 := Lib.hid (B2.out.kp k3 (by simp))
    clear k3 y3 hP3 hw3
    go_wp2_with fail
    refine HV.out.mono ?_
    rintro e wx ⟨rfl, rfl⟩
    clear a0 a1 a2 a3 a4
    go_wp2_with fail
    refine HS.out.mono ?_
    rintro e w4 ⟨v4, l', rfl, h1, h2, h3, h4⟩
    obtain ⟨A4, c4, rfl⟩ := h1.form
    have hll : l'.length ≤ 2097152 := by rw [h2.length_eq]; omega
    have HO := Lib.hid (ppO_sort (vps l b) l' h2 h3);have Z4 := Lib.hid (szP_perm HZ.out h2);have P4 := Lib.hid h1
    have B4 := Lib.hid (B3.out.kp h4 (by simp))
    have K4 := Lib.hid (K3.out.trans h4);clear h1 h2 h3 h4 hvl
    go_wp2_with fail
    refine (printParams_any _ _ l' _ P4.out (Nat.le_refl _) Z4.out hll (HE.out.kp K4.out (by simp))).mono ?_
    rintro e w5 ⟨rfl, hB5⟩
    have hK5 := (Kp.refl [] w4).below hB5
    have K5 := Lib.hid (K4.out.trans hK5)
    have B5 := Lib.hid (B4.out.kp hK5 (by simp))
    clear hB5 hK5
    rw [HO.out]
    have a0 := B5.out.cell 0;have a2 := B5.out.cell 2
    obtain ⟨q, hq⟩ : ∃ q, ppO (srt (vps l b)) = q := ⟨_, rfl⟩
    rw [hq]
    cases q with
    | none =>
      have HR := Lib.hid (pvi_list (t := t) (h := h) (po := po) hq)
      clear hq
      simp only [Option.getD_none, Option.isSome_none, Bool.false_eq_true, if_false]
      go_wp2_with fail
      go_ret2
      exact PrK.none HR.out K5.out
    | some p =>
      have HR := Lib.hid (pvi_some HHo.out HC.out hq);have hpl := ppO_len (srt (vps l b)) (szP_perm HZ.out (srt_perm _)) p hq
      have HU := Lib.hid (fun wz => (by have h := each_up (Txt t) wz (by rw [txt_size]; omega); rw [txt_list] at h; exact h : Calls Tryz.prog 14 #[.string (Txt t), .func (.func 42) #[] #[]] wz (RetNew (uprL t) wz)))
      clear hq
      simp only [Option.getD_some, Option.isSome_some, if_true]
      have s0 : (uprL t).length ≤ 1100000 := by simpa [uprL] using ht
      have s1 : (Txt (uprL t)).size ≤ 1100000 := by rw [txt_size]; simpa [uprL] using ht
      have s2 : (Txt x).size ≤ 2097300 := by rw [txt_size]; omega
      have s3 : (Txt p).size ≤ 16 * 6291460 := by rw [txt_size]; exact hpl
      by_cases hz0 : po = 0
      ·have HPo := Lib.hid (by unfold porL; rw [if_pos hz0] : porL po = [])
       subst hz0
       go_wp2_with fail
       refine (HU.out _).mono ?_
       rintro e w6 ⟨rfl, hB6⟩
       have K6 := Lib.hid (K5.out.below hB6);clear hB6 a0 a2
       go_wp2_with fail
       go_ret2
       refine PrK.some HR.out ?_ K6.out
       rw [HPo.out]
       exact cat5 protoL (uprL t) [32] x [] p
      ·have HPo := Lib.hid (by unfold porL; rw [if_neg hz0] : porL po = 58 :: Lib.itoa po)
       have HI := Lib.hid (fun wz (h : Env wz) => itoa_k po (by omega) (by omega) wz h)
       have s4 : (Txt (Lib.itoa po)).size ≤ 21 := by rw [txt_size]; rw [itoa_dec po (by omega)]; exact Nat.le_trans (decL_len _ (by omega)) (by omega)
       have hz1 : (po == (0 : Int)) = false := beq_eq_false_iff_ne.2 hz0
       go_wp2_with fail
       refine (HI.out _ (HE.out.kp K5.out (by simp))).mono ?_
       rintro e w6 ⟨rfl, hK6⟩
       have K6 := Lib.hid (K5.out.trans hK6)
       have B6 := Lib.hid (B5.out.kp hK6 (by simp))
       clear hK6 a0 a2;have a0 := B6.out.cell 0
       go_wp2_with fail
       refine (HU.out _).mono ?_
       rintro e w7 ⟨rfl, hB7⟩
       have K7 := Lib.hid (K6.out.below hB7);clear hB7 a0
       go_wp2_with fail
       go_ret2
       refine PrK.some HR.out ?_ K7.out
       rw [HPo.out]
       exact (congrArg (fun z => Txt protoL ++ Txt (uprL t) ++ Txt [32] ++ Txt x ++ z ++ Txt p) (cat_txt [58] (Lib.itoa po))).trans (cat5 protoL (uprL t) [32] x (58 :: Lib.itoa po) p)
end Ad
end Go.Proofs.YtbcaindpbeaheaaGreatDoor
namespace Go.Proofs.YtbcaindpbeaheaaGreatDoor
namespace Ad
open Go.RowKit Lx
theorem txt_at (l : List UInt8) (j : Nat) : (Txt l).data[j]! = l[j]! := by
 show l.toArray[j]! = l[j]!
 simp
theorem lastIx_no (l : List UInt8) (c : Int) (h : ∀ d ∈ l, (d.toNat : Int) ≠ c) : Lib.lastIndexByte (Txt l) c = -1 := by
 rcases Lib.lastIndexByte_spec (Txt l) c with ⟨h1, _⟩ | ⟨i, hi, _, h2, _⟩
 ·exact h1
 ·rw [txt_size] at hi
  rw [txt_at, getElem!_pos l i hi] at h2
  exact absurd h2 (h _ (List.getElem_mem hi))
theorem lastIx_lt (l : List UInt8) (c : Int) : Lib.lastIndexByte (Txt l) c < l.length := by
 rcases Lib.lastIndexByte_spec (Txt l) c with ⟨h1, _⟩ | ⟨i, hi, h1, _⟩
 ·rw [h1]; omega
 ·rw [txt_size] at hi; rw [h1]; omega
theorem lastIx_at (a b : List UInt8) (x : UInt8) (h : ∀ d ∈ b, d ≠ x) : Lib.lastIndexByte (Txt (a ++ x :: b)) x.toNat = a.length := by
 rcases Lib.lastIndexByte_spec (Txt (a ++ x :: b)) x.toNat with ⟨_, h2⟩ | ⟨i, hi, h1, h2, h3⟩
 ·have h4 := h2 a.length (by rw [txt_size]; simp)
  rw [txt_at, getElem!_pos _ _ (by simp)] at h4
  simp at h4
 ·rw [txt_size] at hi
  rw [txt_at, getElem!_pos (a ++ x :: b) i hi] at h2
  rw [h1]
  rcases Nat.lt_trichotomy i a.length with hlt | heq | hgt
  ·have h4 := h3 a.length hlt (by rw [txt_size]; simp)
   rw [txt_at, getElem!_pos _ _ (by simp)] at h4
   simp at h4
  ·rw [heq]
  ·rw [List.getElem_append_right (by omega)] at h2
   obtain ⟨k, hk⟩ : ∃ k, i - a.length = k + 1 := ⟨i - a.length - 1, by omega⟩
   have hb : k < b.length := by simp at hi; omega
   have h5 : b[k] ∈ b := List.getElem_mem hb
   simp only [hk, List.getElem_cons_succ] at h2
   exact absurd (UInt8.toNat_inj.1 (by omega)) (h _ h5)
theorem upr_tok (c : UInt8) (h : tokI c.toNat = true) : tokI (uprB c).toNat = true := by
 have key : ∀ n : Fin 256, tokI n.val = true → tokI (uprB n.val.toUInt8).toNat = true := by decide +kernel
 have := key ⟨c.toNat, c.toNat_lt⟩ h
 simpa using this
theorem upr_idem (c : UInt8) : uprB (uprB c) = uprB c := by
 have key : ∀ n : Fin 256, uprB (uprB n.val.toUInt8) = uprB n.val.toUInt8 := by decide +kernel
 have := key ⟨c.toNat, c.toNat_lt⟩
 simpa using this
theorem uprL_idem (l : List UInt8) : uprL (uprL l) = uprL l := by unfold uprL; rw [List.map_map]; exact List.map_congr_left fun c _ => upr_idem c
theorem uprL_tok (l : List UInt8) (h : tokB l = true) : tokB (uprL l) = true := by
 obtain ⟨h1, h2⟩ := (tokB_iff l).1 h
 refine (tokB_iff _).2 ⟨?_, ?_⟩
 ·intro h3
  unfold uprL at h3
  exact h1 (List.map_eq_nil_iff.1 h3)
 ·intro c hc
  unfold uprL at hc
  obtain ⟨d, hd, rfl⟩ := List.mem_map.1 hc
  exact upr_tok d (h2 d hd)
theorem host_form (h : List UInt8) (hh : hostO h = some h) : (∃ c m, h = c :: m ∧ bb c = false) ∧ NEnd h ∧ (∀ d ∈ h, endV d.toNat = false) ∧ hasP h = false := by
 have hx : ∀ n : Fin 256, hexC n.val = true → endV n.val = false ∧ bb n.val.toUInt8 = false := by decide +kernel
 have hl : ∀ n : Fin 256, (lblC n.val = true ∨ n.val = 46) → endV n.val = false ∧ bb n.val.toUInt8 = false ∧ n.val ≠ 58 ∧ n.val ≠ 93 := by decide +kernel
 rcases host_kinds h hh with ⟨y, rfl, hy⟩ | ⟨h1, _, h3⟩
 ·refine ⟨⟨91, y ++ [93], by simp, by decide⟩, ⟨[91] ++ y, 93, rfl, by decide⟩, ?_, ?_⟩
  ·intro d hd
   simp only [List.mem_append, List.mem_singleton] at hd
   rcases hd with (rfl | hd) | rfl
   ·decide
   ·rcases hy d hd with h | rfl
    ·exact (hx ⟨d.toNat, d.toNat_lt⟩ h).1
    ·decide
   ·decide
  ·have h93 : Lib.lastIndexByte (Txt ([91] ++ y ++ [93])) 93 = (([91] ++ y).length : Nat) := lastIx_at ([91] ++ y) [] 93 (by simp)
   have h58 := lastIx_lt ([91] ++ y ++ [93]) 58
   unfold hasP
   have e : (([91] ++ y ++ [93] : List UInt8)).length = ([91] ++ y).length + 1 := by simp
   rw [h93]
   rw [e] at h58
   exact decide_eq_false (by omega)
 ·have hk : ∀ d ∈ h, endV d.toNat = false ∧ bb d = false ∧ d.toNat ≠ 58 ∧ d.toNat ≠ 93 := by
    intro d hd
    have := hl ⟨d.toNat, d.toNat_lt⟩ (by
     rcases h3 d hd with h | h
     ·exact .inl h
     ·exact .inr (by rw [h]; rfl))
    simpa using this
  refine ⟨?_, ?_, fun d hd => (hk d hd).1, ?_⟩
  ·cases h with
   | nil => exact absurd rfl h1
   | cons c m => exact ⟨c, m, rfl, (hk c (by simp)).2.1⟩
  ·rcases List.eq_nil_or_concat h with rfl | ⟨u, a, rfl⟩
   ·exact absurd rfl h1
   ·rw [List.concat_eq_append] at hk ⊢
    exact ⟨u, a, rfl, (hk a (by simp)).2.1⟩
  ·unfold hasP
   rw [lastIx_no h 93 (fun d hd => by have := (hk d hd).2.2.2; omega), lastIx_no h 58 (fun d hd => by have := (hk d hd).2.2.1; omega)]
   rfl
theorem plR_print (h : List UInt8) (po : Int) (hh : hostO h = some h) (h0 : 0 ≤ po) (h1 : po ≤ 65535) : plR (h ++ porL po) = (h, po, 0) := by
 unfold porL
 by_cases hz : po = 0
 ·rw [if_pos hz, List.append_nil]
  obtain ⟨_, _, _, hp⟩ := host_form h hh
  unfold plR nameP
  rw [hp, if_neg (by decide), hh]
  unfold plO
  dsimp only
  rw [hp, if_neg (by decide), hz]
 ·rw [if_neg hz, itoa_dec po h0]
  obtain ⟨n, hn⟩ := Int.eq_ofNat_of_zero_le h0
  subst hn
  rw [Int.toNat_natCast]
  have hch : ∀ d ∈ decL n, d ≠ 58 ∧ d ≠ 93 := by
   intro d hd
   have := decL_chars n d hd
   unfold digitI at this
   simp only [Bool.and_eq_true, decide_eq_true_eq] at this
   constructor <;> (intro e; rw [e] at this; exact absurd this (by decide))
  have h58 : Lib.lastIndexByte (Txt (h ++ 58 :: decL n)) 58 = (h.length : Nat) := lastIx_at h (decL n) 58 (fun d hd => (hch d hd).1)
  have h93 : Lib.lastIndexByte (Txt (h ++ 58 :: decL n)) 93 < (h.length : Nat) := by
   rcases Lib.lastIndexByte_spec (Txt (h ++ 58 :: decL n)) 93 with ⟨h1, _⟩ | ⟨i, hi, h1, h2, _⟩
   ·rw [h1]; omega
   ·rw [h1]
    rw [txt_size] at hi
    rw [txt_at, getElem!_pos (h ++ 58 :: decL n) i hi] at h2
    rcases Nat.lt_or_ge i h.length with h3 | h3
    ·omega
    ·rw [List.getElem_append_right h3] at h2
     rcases Nat.eq_or_lt_of_le h3 with h4 | h4
     ·simp only [← h4, Nat.sub_self, List.getElem_cons_zero] at h2
      exact absurd h2 (by decide)
     ·obtain ⟨k, hk⟩ : ∃ k, i - h.length = k + 1 := ⟨i - h.length - 1, by omega⟩
      have hb : k < (decL n).length := by simp at hi; omega
      simp only [hk, List.getElem_cons_succ] at h2
      exact absurd (UInt8.toNat_inj.1 (show ((decL n)[k]).toNat = (93 : UInt8).toNat from Int.ofNat.inj h2)) (hch _ (List.getElem_mem hb)).2
  have hp : hasP (h ++ 58 :: decL n) = true := by
   unfold hasP
   rw [h58]
   exact decide_eq_true h93
  have hc : colP (h ++ 58 :: decL n) = h.length := by unfold colP; rw [h58, Int.toNat_natCast]
  obtain ⟨e1, e2⟩ := dec_num n (by omega)
  unfold plR nameP
  rw [hp, if_pos rfl, hc, List.take_left' rfl, hh]
  unfold plO
  dsimp only
  rw [hp, if_pos rfl, hc]
  have hd : (h ++ 58 :: decL n).drop (h.length + 1) = decL n := by
   rw [List.drop_append, List.drop_eq_nil_of_le (by omega), show h.length + 1 - h.length = 1 by omega]; rfl
  rw [hd, e1, e2]
  unfold plN
  rw [if_neg (by decide), if_neg (by omega)]
theorem vps_br (l : List Prm) (b : List UInt8) : getV (srt (vps l b)) brN = b ∨ ppO (srt (vps l b)) = none := by
 cases hp : ppO (srt (vps l b)) with
 | none => exact .inr rfl
 | some x =>
   refine .inl ?_
   obtain ⟨_, hn, _⟩ := ppO_some _ _ hp
   have ha := ppF_all _ [] x hp
   have hlow : ∀ p ∈ srt (vps l b), p.1 = lowL p.1 := fun q hq => by
    have h := ha q hq
    unfold ppB at h
    simp only [Bool.and_eq_true, decide_eq_true_eq] at h
    exact h.1.1.2
   by_cases hb : b = []
   ·have hno : fndI (srt (vps l b)) brN = -1 := by
      refine fndI_none _ _ fun j hj => ?_
      rw [getElem!_pos _ j hj]
      have hm : (srt (vps l b))[j] ∈ srt (vps l b) := List.getElem_mem hj
      obtain ⟨q, hq⟩ : ∃ q, (srt (vps l b))[j] = q := ⟨_, rfl⟩
      rw [hq] at hm ⊢
      have hm2 := (srt_perm (vps l b)).mem_iff.1 hm
      unfold vps at hm2
      rw [if_pos hb, List.append_nil] at hm2
      have h3 := (List.mem_filter.1 hm2).2
      rw [← hlow _ hm]
      rw [show lowL brN = brnN by decide]
      simpa using h3
    unfold getV
    rw [hno, if_pos (by decide), hb]
   ·exact (get_uni (srt (vps l b)) brN (brnN, b, true) hn hlow ((srt_perm _).mem_iff.2 (by unfold vps; rw [if_neg hb]; simp)) rfl).1
theorem via_back (t h b : List UInt8) (po : Int) (l : List Prm) (s : List UInt8) (hs : pviO t h b po l = some s) : ∃ ho p, hostO h = some ho ∧ ppO (srt (vps l b)) = some p ∧ s = protoL ++ uprL t ++ [32] ++ ho ++ porL po ++ p ∧ tokB t = true ∧ 0 ≤ po ∧ po ≤ 65535 ∧ trS s = s ∧
   cutT s = (uprL t, ho ++ porL po ++ p, true) ∧ endP endV (ho ++ porL po ++ p) 0 = (ho ++ porL po).length ∧ viaR s = (⟨uprL t, ho, po, b, srt (vps l b)⟩, 0) := by
 unfold pviO at hs
 cases hh : hostO h with
 | none => rw [hh] at hs; cases hs
 | some ho =>
   rw [hh] at hs
   dsimp only at hs
   split at hs
   rotate_left
   ·cases hs
   rename_i hc
   obtain ⟨hc1, hc2, hc3⟩ := hc
   cases hp : ppO (srt (vps l b)) with
   | none => rw [hp] at hs; cases hs
   | some p =>
     rw [hp] at hs
     injection hs with hs
     have hi := hostO_idem h ho hh
     obtain ⟨⟨c0, m0, hm0, hc0⟩, hend, hev, _⟩ := host_form ho hi
     have hU := uprL_tok t hc1
     have hps := ppF_starts _ [] p hp
     have hpe : NEnd (ho ++ porL po) := by
      unfold porL
      split
      ·rw [List.append_nil]; exact hend
      ·rw [itoa_dec po hc2]
       exact ((dec_end _).pre [58]).pre ho
     have hT : trS s = s := by
      have hn : NEnd s := by
       rw [← hs]
       rcases ppO_end _ _ hp with rfl | hn
       ·rw [List.append_nil, List.append_assoc]
        exact hpe.pre _
       ·exact hn.pre _
      obtain ⟨n, d, h2, hd⟩ := hn
      exact trS_self s (protoL.tail ++ (uprL t ++ ([32] ++ (ho ++ (porL po ++ p))))) n 83 d (by rw [← hs]; simp [protoL]) h2 (by decide) hd
     have hpv : ∀ d ∈ ho ++ porL po, endV d.toNat = false := by
      intro d hd
      rcases List.mem_append.1 hd with hd | hd
      ·exact hev d hd
      ·unfold porL at hd
       split at hd
       ·cases hd
       ·rw [itoa_dec po hc2] at hd
        rcases List.mem_cons.1 hd with rfl | hd
        ·decide
        ·have := decL_chars _ d hd
         unfold digitI at this
         simp only [Bool.and_eq_true, decide_eq_true_eq] at this
         unfold endV
         simp only [Bool.or_eq_false_iff, beq_eq_false_iff_ne]
         omega
     have hE : endP endV (ho ++ porL po ++ p) 0 = (ho ++ porL po).length := by
      have := endP_app endV [] (ho ++ porL po) p hpv (hps.of fun c hc => by rw [beq_iff_eq] at hc; subst hc; decide)
      simpa using this
     have hr : s = protoL ++ (uprL t ++ (32 :: (ho ++ porL po ++ p))) := by rw [← hs]; simp
     have hC : cutT s = (uprL t, ho ++ porL po ++ p, true) := by
      have h8 : s.take 8 = protoL := by rw [hr]; rfl
      have h8d : s.drop 8 = uprL t ++ (32 :: (ho ++ porL po ++ p)) := by rw [hr]; rfl
      have hlen : 8 ≤ s.length := by rw [hr]; simp [protoL]
      have h1 := tokE_app [] (uprL t) (32 :: (ho ++ porL po ++ p)) ((tokB_iff _).1 hU).2 (.inr ⟨32, _, rfl, by decide⟩)
      rw [List.nil_append, List.length_nil, Nat.zero_add] at h1
      have h2 : blkE (uprL t ++ (32 :: (ho ++ porL po ++ p))) (uprL t).length = (uprL t).length + 1 := by
       unfold blkE
       rw [List.drop_left' rfl, runL, if_pos (by decide), hm0]
       have : runL blankI (c0 :: m0 ++ porL po ++ p) = 0 := by
        show runL blankI (c0 :: (m0 ++ porL po ++ p)) = 0
        rw [runL, if_neg (by rw [show blankI c0.toNat = false from hc0]; decide)]
       rw [this]
      have hne : (uprL t).length ≠ 0 := fun h => ((tokB_iff _).1 hU).1 (List.eq_nil_of_length_eq_zero h)
      unfold cutT
      rw [h8, decide_eq_true hlen, show (uprL protoL == protoL) = true by decide, h8d, if_pos (by rfl)]
      unfold cutV
      rw [h1, h2, decide_eq_false hne, decide_eq_false (by omega), if_neg (by decide), List.take_left' rfl, uprL_idem]
      have : (uprL t ++ 32 :: (ho ++ porL po ++ p)).drop ((uprL t).length + 1) = ho ++ porL po ++ p := by
       rw [List.drop_append, List.drop_eq_nil_of_le (by omega), show (uprL t).length + 1 - (uprL t).length = 1 by omega]
       rfl
      rw [this]
     refine ⟨ho, p, rfl, rfl, hs.symm, hc1, hc2, hc3, hT, hC, hE, ?_⟩
     have hb : getV (srt (vps l b)) brN = b := (vps_br l b).resolve_right (by rw [hp]; simp)
     unfold viaR
     rw [hT, hC]
     unfold viT
     dsimp only
     rw [if_pos rfl, hE, List.take_left' rfl, List.drop_left' rfl, plR_print ho po hi hc2 hc3]
     unfold viH
     dsimp only
     rw [if_neg (by decide), parR_print _ p hp]
     unfold viP
     dsimp only
     rw [if_neg (by decide), hb]
end Ad
end Go.Proofs.YtbcaindpbeaheaaGreatDoor
namespace Go.Proofs.YtbcaindpbeaheaaGreatDoor
namespace Ad
open Go.RowKit Lx
theorem nbr_nbr (l : List Prm) : nbr (nbr l) = nbr l := by
 unfold nbr
 rw [List.filter_filter]
 congr 1
 funext p
 simp
theorem nbr_vps (l : List Prm) (b : List UInt8) : nbr (vps l b) = nbr l := by
 unfold vps
 have h : nbr (nbr l ++ (if b = [] then [] else [(brnN, b, true)])) = nbr (nbr l) ++ nbr (if b = [] then [] else [(brnN, b, true)]) := List.filter_append ..
 rw [h, nbr_nbr]
 split
 ·exact List.append_nil _
 ·have : nbr [(brnN, b, true)] = [] := by unfold nbr; simp
  rw [this, List.append_nil]
theorem vps_again (l : List Prm) (b : List UInt8) : (vps (srt (vps l b)) b).Perm (vps l b) := by
 have h : (nbr (srt (vps l b))).Perm (nbr l) := by
  rw [← nbr_vps l b]
  exact (srt_perm (vps l b)).filter _
 unfold vps at h ⊢
 exact h.append_right _
theorem via_again (t h b ho : List UInt8) (po : Int) (l : List Prm) (s : List UInt8) (hs : pviO t h b po l = some s) (hh : hostO h = some ho) : pviO (uprL t) ho b po (srt (vps l b)) = some s := by
 obtain ⟨ho', p, h1, h2, h3, h4, h5, h6, _⟩ := via_back t h b po l s hs
 obtain rfl : ho = ho' := Option.some.inj (hh.symm.trans h1)
 have hn := (ppO_some _ _ h2).2.1
 have he : srt (vps (srt (vps l b)) b) = srt (vps l b) :=
  (srt_of (srt (vps l b)) (vps (srt (vps l b)) b) ((srt_perm _).trans (vps_again l b).symm) (srt_srtd _) (hn.perm ((srt_perm _).trans (vps_again l b).symm))).symm
 rw [pvi_some (hostO_idem h ho hh) ⟨uprL_tok t h4, h5, h6⟩ (by rw [he]; exact h2), uprL_idem, h3]
theorem porL_len (po : Int) (h0 : 0 ≤ po) (h1 : po ≤ 65535) : (porL po).length ≤ 21 := by
 unfold porL
 split
 ·exact Nat.zero_le _
 ·rw [itoa_dec po h0, List.length_cons]
  have := decL_len po.toNat (by omega)
  omega
end Ad
end Go.Proofs.YtbcaindpbeaheaaGreatDoor
namespace Go.Proofs.YtbcaindpbeaheaaGreatDoor
namespace Ad
open Go.RowKit Lx
theorem getV_sz (l : List Prm) (nm : List UInt8) (m : Nat) (h : SzL m l) : (getV l nm).length ≤ m := by
 unfold getV
 split
 ·exact Nat.zero_le _
 ·obtain ⟨k, hk⟩ : ∃ k, (fndI l nm).toNat = k := ⟨_, rfl⟩
  rw [hk]
  by_cases hl : k < l.length
  ·rw [getElem!_pos l k hl]
   exact (h _ (List.getElem_mem hl)).2
  ·rw [getElem!_neg l k hl]
   exact Nat.zero_le _
theorem cutT_tr (l : List UInt8) : (cutT l).1.length ≤ l.length := by
 unfold cutT
 split
 ·unfold cutV
  split
  ·exact Nat.zero_le _
  ·dsimp only
   unfold uprL
   rw [List.length_map, List.length_take, List.length_drop]
   omega
 ·exact Nat.zero_le _
theorem plR_md (l : List UInt8) : (plR l).1.length ≤ l.length + 86 ∧ 0 ≤ (plR l).2.1 ∧ (plR l).2.1 ≤ 65535 := by
 have hn : (nameP l).length ≤ l.length := by unfold nameP; split <;> simp <;> omega
 unfold plR plO
 cases ho : hostO (nameP l) with
 | none => exact ⟨Nat.zero_le _, (show (0 : Int) ≤ 0 from Int.le_refl 0), (show (0 : Int) ≤ 65535 by decide)⟩
 | some h =>
   have hl := hostO_len _ h ho
   dsimp only
   split
   ·unfold plN
    split
    ·exact ⟨Nat.zero_le _, (show (0 : Int) ≤ 0 from Int.le_refl 0), (show (0 : Int) ≤ 65535 by decide)⟩
    ·split
     ·exact ⟨Nat.zero_le _, (show (0 : Int) ≤ 0 from Int.le_refl 0), (show (0 : Int) ≤ 65535 by decide)⟩
     ·exact ⟨by dsimp only; omega, by dsimp only; omega, by dsimp only; omega⟩
   ·exact ⟨by dsimp only; omega, (show (0 : Int) ≤ 0 from Int.le_refl 0), (show (0 : Int) ≤ 65535 by decide)⟩
structure MdV (m : Nat) (v : Vi) : Prop where
 t : v.tr.length ≤ m
 h : v.host.length ≤ m + 86
 b : v.br.length ≤ m + 86
 n : v.pm.length ≤ 16
 p : SzL (m + 86) v.pm
 lo : 0 ≤ v.port
 hi : v.port ≤ 65535
theorem mdV_nil (m : Nat) : MdV m nilV := ⟨Nat.zero_le _, Nat.zero_le _, Nat.zero_le _, Nat.zero_le _, (fun p hp => by cases hp), by decide, by decide⟩
theorem via_md (l : List UInt8) : MdV l.length (viaR l).1 := by
 have ht := trS_len l;have h1 := cutT_tr (trS l);have h2 := cutT_len (trS l)
 unfold viaR viT
 split
 ·obtain ⟨q, hq⟩ : ∃ q, (cutT (trS l)).2.1.take (endP endV (cutT (trS l)).2.1 0) = q := ⟨_, rfl⟩
  obtain ⟨ls, hls⟩ : ∃ q, (cutT (trS l)).2.1.drop (endP endV (cutT (trS l)).2.1 0) = q := ⟨_, rfl⟩
  have hql : q.length ≤ l.length := by rw [← hq, List.length_take]; omega
  have hll : ls.length ≤ l.length := by rw [← hls, List.length_drop]; omega
  rw [hq, hls]
  obtain ⟨p1, p2, p3⟩ := plR_md q
  unfold viH
  split
  ·exact mdV_nil _
  ·unfold viP
   split
   ·exact mdV_nil _
   ·have s1 : SzL (ls.length + 86) (parR ls).1 := parF_sz _ _ _ _ (fun p hp => by cases hp)
    have s2 : SzL (l.length + 86) (parR ls).1 := fun p hp => by have := s1 p hp; exact ⟨by have := this.1; omega, by have := this.2; omega⟩
    exact ⟨by dsimp only; omega, by dsimp only; omega, getV_sz _ _ _ s2, parF_len _ _ _ _ (Nat.zero_le _), s2, p2, p3⟩
 ·exact mdV_nil _
def pvV (v : Vi) : Option (List UInt8) := pviO v.tr v.host v.br v.port v.pm
def tidV (l : List UInt8) : List UInt8 × Int :=
 if (viaR l).2 ≠ 0 then ([], (viaR l).2) else ((pvV (viaR l).1).getD [], if (pvV (viaR l).1).isSome then 0 else 2)
set_option maxRecDepth 100000 in
set_option maxHeartbeats 4000000 in
theorem rewrV_any (s : ByteArray) (w : World) (hs : s.size ≤ 1049000) (E : Env w) :
   Calls Tryz.prog 20 #[.string s, .func (.func 11) #[] #[], .func (.func 21) #[] #[]] w (TxE (tidV s.data.toList) w) := by
 obtain ⟨⟨t, h, po, br, l⟩, x, hr⟩ : ∃ a' c', viaR s.data.toList = (a', c') := ⟨_, _, rfl⟩
 have hmd := via_md s.data.toList;have hsl := len_list s
 have HA := Lib.hid (via_any s w (by omega) E)
 rw [hr] at hmd HA
 have HV := Lib.hid (by unfold tidV pvV; rw [hr] : tidV s.data.toList = if x ≠ 0 then ([], x) else ((pviO t h br po l).getD [], if (pviO t h br po l).isSome then 0 else 2))
 obtain ⟨m1, m2, m3, m4, m5, m6, m7⟩ := hmd
 dsimp only at m1 m2 m3 m4 m5 m6 m7
 have HZ := Lib.hid (show SzP l from fun p hp => by have := m5 p hp; exact ⟨by have := this.1; omega, by have := this.2; omega⟩)
 have HE := Lib.hid E
 have n1 : t.length ≤ 1100000 := by omega
 have n2 : h.length ≤ 2097152 := by omega
 have n3 : br.length ≤ 1100000 := by omega
 clear hr E m1 m2 m3 m5 hsl
 by_cases hx : x = 0
 ·have bx : (x != 0) = false := by rw [hx]; rfl
  have HF := Lib.hid (HV.out.trans (if_neg (fun h => h hx)))
  clear hx
  go_enter Tryz.func20, Tryz.ntmps20
  go_wp2_with fail
  refine HA.out.mono ?_
  rintro e w2 ⟨v2, rfl, hP, hK2⟩
  have K2 := Lib.hid hK2
  obtain ⟨A, c, rfl⟩ := hP.form
  have Hv := Lib.hid hP;clear hP hK2
  dsimp only at Hv ⊢
  obtain ⟨n, hn⟩ : ∃ n, l.length = n := ⟨_, rfl⟩
  obtain ⟨T, hT⟩ : ∃ T, Txt t = T := ⟨_, rfl⟩
  obtain ⟨H, hH⟩ : ∃ T, Txt h = T := ⟨_, rfl⟩
  obtain ⟨B, hB⟩ : ∃ T, Txt br = T := ⟨_, rfl⟩
  obtain ⟨g, hg⟩ : ∃ x, w2.heap.size = x := ⟨_, rfl⟩
  obtain ⟨w3, hw3⟩ : ∃ x, w2.alloc (.cells #[.string T, .string H, .int .i64 po, .string B, .slice A n c] 38) = x := ⟨_, rfl⟩
  have hKa : Kp [] w2 w3 := by rw [← hw3]; exact (Kp.refl _ _).alloc _
  have K3 := Lib.hid (K2.out.trans hKa)
  have B3 := Lib.hid (show Blk w3 g 38 #[.string T, .string H, .int .i64 po, .string B, .slice A n c] from by rw [← hw3, ← hg]; exact Blk.new w2 _ _)
  have V3 := Lib.hid (Hv.out.grow hKa (by intro y hy; cases hy))
  have HP := Lib.hid (by
   have h9 := printVia_any w3.heap.size t h br po A c l w3 V3.out (Nat.le_refl _) n1 n2 n3 HZ.out (by omega) (by omega) (by omega) (HE.out.kp K3.out (by simp))
   rw [hn, hT, hH, hB] at h9
   exact h9)
  rw [hn, hT, hH, hB]
  have HF2 := HF.out
  unfold PrK at HP
  obtain ⟨pt, hpt⟩ : ∃ z, (pviO t h br po l).getD [] = z := ⟨_, rfl⟩
  obtain ⟨pe, hpe⟩ : ∃ z : Int, (if (pviO t h br po l).isSome then 0 else 2) = z := ⟨_, rfl⟩
  rw [hpt, hpe] at HP HF2
  have HF3 := Lib.hid HF2;clear HF2 hpt hpe HF hKa Hv V3 hn hT hH hB
  go_upto_region 4 with fail
  try rw [hw3]
  have u0 := B3.out.cell 0;have u1 := B3.out.cell 1;have u2 := B3.out.cell 2;have u3 := B3.out.cell 3;have u4 := B3.out.cell 4;clear hw3
  go_wp2_with fail
  refine HP.out.mono ?_
  rintro e w4 ⟨rfl, hK4⟩
  have K4 := Lib.hid (K3.out.trans hK4);clear hK4
  go_wp2_with fail
  go_ret2
  unfold TxE
  rw [HF3.out]
  exact ⟨rfl, K4.out⟩
 ·have bx : (x != 0) = true := by rw [bne_iff_ne]; exact hx
  have HF := Lib.hid (HV.out.trans (if_pos hx));clear hx
  go_enter Tryz.func20, Tryz.ntmps20
  go_wp2_with fail
  refine HA.out.mono ?_
  rintro e w2 ⟨v2, rfl, hP, hK2⟩
  have K2 := Lib.hid hK2
  obtain ⟨A, c, rfl⟩ := hP.form
  clear hP hK2
  dsimp only
  obtain ⟨n, hn⟩ : ∃ n, l.length = n := ⟨_, rfl⟩
  obtain ⟨T, hT⟩ : ∃ T, Txt t = T := ⟨_, rfl⟩
  obtain ⟨H, hH⟩ : ∃ T, Txt h = T := ⟨_, rfl⟩
  obtain ⟨B, hB⟩ : ∃ T, Txt br = T := ⟨_, rfl⟩
  rw [hn, hT, hH, hB]
  obtain ⟨w3, hw3⟩ : ∃ x, w2.alloc (.cells #[.string T, .string H, .int .i64 po, .string B, .slice A n c] 38) = x := ⟨_, rfl⟩
  have hKa : Kp [] w2 w3 := by rw [← hw3]; exact (Kp.refl _ _).alloc _
  have K3 := Lib.hid (K2.out.trans hKa);clear hKa hn hT hH hB
  go_upto_region 3 with fail
  try rw [hw3]
  go_wp2_with fail
  go_ret2
  unfold TxE
  rw [HF.out]
  exact ⟨rfl, K3.out⟩
set_option maxRecDepth 100000 in
set_option maxHeartbeats 4000000 in
theorem tidyOne_via (s : ByteArray) (w : World) (hs : s.size ≤ 1049000) (E : Env w) :
   Calls Tryz.prog 8 #[.int .u8 2, .string s] w (TxE (tidV s.data.toList) w) := by
 have HR := Lib.hid (rewrV_any s w hs E)
 obtain ⟨t, x, hr⟩ : ∃ a b, tidV s.data.toList = (a, b) := ⟨_, _, rfl⟩
 rw [hr] at HR ⊢
 clear hr E
 go_enter Tryz.func8, Tryz.ntmps8
 go_wp2_with fail
 refine HR.out.mono ?_
 rintro e w2 ⟨rfl, hK2⟩
 have K2 := Lib.hid hK2;clear hK2
 go_wp2_with fail
 go_ret2
 exact ⟨rfl, K2.out⟩
def tidC (l : List UInt8) : List UInt8 × Int := if (cseqR l).2.2 ≠ 0 then ([], (cseqR l).2.2) else (Lib.itoa (cseqR l).1 ++ [32] ++ (cseqR l).2.1, 0)
theorem cseq_md (l : List UInt8) : 0 ≤ (cseqR l).1 ∧ (cseqR l).1 ≤ 2147483647 ∧ (cseqR l).2.1.length ≤ l.length := by
 have h1 := lead_len l
 have h2 : 0 ≤ (leadR l).1 ∧ (leadR l).1 ≤ 2147483647 := by
  unfold leadR
  dsimp only
  refine ⟨numN_lo _, ?_⟩
  unfold numN
  split
  ·decide
  ·omega
 unfold cseqR
 split
 ·exact ⟨(show (0 : Int) ≤ 0 from Int.le_refl 0), (show (0 : Int) ≤ 2147483647 by decide), Nat.zero_le _⟩
 ·split
  ·exact ⟨h2.1, h2.2, h1⟩
  ·exact ⟨(show (0 : Int) ≤ 0 from Int.le_refl 0), (show (0 : Int) ≤ 2147483647 by decide), Nat.zero_le _⟩
theorem itoa_len (n : Nat) (h : n < 10000000000) : (Lib.itoa (n : Int)).length ≤ 11 := by
 have key : ∀ k n : Nat, n < 10 ^ k → (decL n).length ≤ k + 1 := by
  intro k
  induction k with
  | zero => intro n h; rw [decL_lt n (by omega)]; simp
  | succ k ih =>
    intro n h
    by_cases h10 : n < 10
    ·rw [decL_lt n h10]; simp
    ·rw [decL_ge n h10, List.length_append]
     have := ih (n / 10) (by rw [Nat.pow_succ] at h; omega)
     simp; omega
 rw [itoa_dec _ (by omega), Int.toNat_natCast]
 exact key 10 n h
set_option maxRecDepth 100000 in
set_option maxHeartbeats 4000000 in
theorem tidyCSeq_any (s : ByteArray) (w : World) (hs : s.size ≤ 2097152) (E : Env w) : Calls Tryz.prog 25 #[.string s] w (TxE (tidC s.data.toList) w) := by
 have HC := Lib.hid (cseq_any s w hs);have hmd := cseq_md s.data.toList;have hsl := len_list s
 unfold tidC
 obtain ⟨n, m, x, hr⟩ : ∃ a b c, cseqR s.data.toList = (a, b, c) := ⟨_, _, _, rfl⟩
 rw [hr] at HC hmd ⊢
 dsimp only at hmd ⊢
 obtain ⟨h1, h2, h3⟩ := hmd
 obtain ⟨k, rfl⟩ : ∃ k : Nat, n = k := ⟨n.toNat, by omega⟩
 have HI := Lib.hid (fun wz (h : Env wz) => itoa_k (k : Int) (by omega) (by omega) wz h)
 have hl := itoa_len k (by omega)
 obtain ⟨D, hD⟩ : ∃ D, Lib.itoa (k : Int) = D := ⟨_, rfl⟩
 rw [hD] at HI hl ⊢
 have HE := Lib.hid E
 have s1 : (Txt D).size ≤ 11 := by rw [txt_size]; exact hl
 have s2 : (Txt m).size ≤ 2097152 := by rw [txt_size]; omega
 have HCat := Lib.hid (show Txt D ++ Txt [32] ++ Txt m = Txt (D ++ [32] ++ m) from by simp only [cat_txt])
 clear hr hD hl h3 hsl E
 by_cases hx : x = 0
 ·have bx : (x != 0) = false := by rw [hx]; rfl
  have HF := Lib.hid (show (if x ≠ 0 then (([] : List UInt8), x) else (D ++ [32] ++ m, 0)) = (D ++ [32] ++ m, 0) from if_neg (fun h => h hx))
  rw [HF.out]
  clear hx
  go_enter Tryz.func25, Tryz.ntmps25
  go_wp2_with fail
  refine HC.out.mono ?_
  rintro e w1 ⟨rfl, hK1⟩
  have K1 := Lib.hid hK1;clear hK1
  dsimp only
  go_wp2_with fail
  refine (HI.out _ (HE.out.kp K1.out (by simp))).mono ?_
  rintro e w2 ⟨rfl, hK2⟩
  have K2 := Lib.hid (K1.out.trans hK2);clear hK2
  go_wp2_with fail
  go_ret2
  unfold TxE
  dsimp only
  rw [← HCat.out]
  exact ⟨rfl, K2.out⟩
 ·have bx : (x != 0) = true := bne_iff_ne.2 hx
  have HF := Lib.hid (show (if x ≠ 0 then (([] : List UInt8), x) else (D ++ [32] ++ m, 0)) = ([], x) from if_pos hx)
  rw [HF.out]
  clear hx
  go_enter Tryz.func25, Tryz.ntmps25
  go_wp2_with fail
  refine HC.out.mono ?_
  rintro e w1 ⟨rfl, hK1⟩
  have K1 := Lib.hid hK1;clear hK1
  dsimp only
  go_wp2_with fail
  go_ret2
  exact ⟨rfl, K1.out⟩
end Ad
end Go.Proofs.YtbcaindpbeaheaaGreatDoor
namespace Go.Proofs.YtbcaindpbeaheaaGreatDoor
namespace Ad
open Go.RowKit Lx
def tidR (l : List UInt8) : List UInt8 × Int := if (rckR l).2.2.2 ≠ 0 then ([], (rckR l).2.2.2) else (Lib.itoa (rckR l).1 ++ [32] ++ Lib.itoa (rckR l).2.1 ++ [32] ++ (rckR l).2.2.1, 0)
theorem lead_lo (l : List UInt8) : 0 ≤ (leadR l).1 ∧ (leadR l).1 ≤ 2147483647 := by
 unfold leadR
 dsimp only
 refine ⟨numN_lo _, ?_⟩
 unfold numN
 split
 ·decide
 ·omega
theorem rck_md (l : List UInt8) : 0 ≤ (rckR l).1 ∧ (rckR l).1 ≤ 2147483647 ∧ 0 ≤ (rckR l).2.1 ∧ (rckR l).2.1 ≤ 2147483647 ∧ (rckR l).2.2.1.length ≤ l.length := by
 have h1 := lead_len l;have h2 := lead_lo l
 obtain ⟨h3, h4, h5⟩ := cseq_md (leadR l).2.1
 have z : (0 : Int) ≤ 0 ∧ (0 : Int) ≤ 2147483647 := by decide
 unfold rckR
 obtain ⟨n, m, x, hL⟩ : ∃ a b c, leadR l = (a, b, c) := ⟨_, _, _, rfl⟩
 rw [hL] at h1 h2 h3 h4 h5 ⊢
 dsimp only at h1 h2 h3 h4 h5 ⊢
 obtain ⟨a, b, c, hC⟩ : ∃ d e f, cseqR m = (d, e, f) := ⟨_, _, _, rfl⟩
 rw [hC] at h3 h4 h5 ⊢
 dsimp only at h3 h4 h5
 split
 ·exact ⟨z.1, z.2, z.1, z.2, Nat.zero_le _⟩
 ·unfold rckC
  split
  ·exact ⟨z.1, z.2, z.1, z.2, Nat.zero_le _⟩
  ·exact ⟨h2.1, h2.2, h3, h4, Nat.le_trans h5 h1⟩
set_option maxRecDepth 100000 in
set_option maxHeartbeats 4000000 in
theorem tidyRAck_any (s : ByteArray) (w : World) (hs : s.size ≤ 1100000) (E : Env w) : Calls Tryz.prog 26 #[.string s] w (TxE (tidR s.data.toList) w) := by
 have HC := Lib.hid (hrack_any s w hs);have hmd := rck_md s.data.toList;have hsl := len_list s
 unfold tidR
 obtain ⟨n, o, m, x, hr⟩ : ∃ a b c d, rckR s.data.toList = (a, b, c, d) := ⟨_, _, _, _, rfl⟩
 rw [hr] at HC hmd ⊢
 dsimp only at hmd ⊢
 obtain ⟨h1, h2, h3, h4, h5⟩ := hmd
 obtain ⟨k, rfl⟩ : ∃ k : Nat, n = k := ⟨n.toNat, by omega⟩
 obtain ⟨j, rfl⟩ : ∃ k : Nat, o = k := ⟨o.toNat, by omega⟩
 have HI := Lib.hid (fun wz (h : Env wz) => itoa_k (k : Int) (by omega) (by omega) wz h)
 have HJ := Lib.hid (fun wz (h : Env wz) => itoa_k (j : Int) (by omega) (by omega) wz h)
 have hl := itoa_len k (by omega)
 have hl2 := itoa_len j (by omega)
 obtain ⟨D, hD⟩ : ∃ D, Lib.itoa (k : Int) = D := ⟨_, rfl⟩
 obtain ⟨F, hF⟩ : ∃ D, Lib.itoa (j : Int) = D := ⟨_, rfl⟩
 rw [hD] at HI hl ⊢
 rw [hF] at HJ hl2 ⊢
 have HE := Lib.hid E
 have s1 : (Txt D).size ≤ 11 := by rw [txt_size]; exact hl
 have s3 : (Txt F).size ≤ 11 := by rw [txt_size]; exact hl2
 have s2 : (Txt m).size ≤ 2097152 := by rw [txt_size]; omega
 have HCat := Lib.hid (show Txt D ++ Txt [32] ++ Txt F ++ Txt [32] ++ Txt m = Txt (D ++ [32] ++ F ++ [32] ++ m) from by simp only [cat_txt])
 clear hr hD hF hl hl2 h5 hsl E
 by_cases hx : x = 0
 ·have bx : (x != 0) = false := by rw [hx]; rfl
  have HF := Lib.hid (show (if x ≠ 0 then (([] : List UInt8), x) else (D ++ [32] ++ F ++ [32] ++ m, 0)) = (D ++ [32] ++ F ++ [32] ++ m, 0) from if_neg (fun h => h hx))
  rw [HF.out]
  clear hx
  go_enter Tryz.func26, Tryz.ntmps26
  go_wp2_with fail
  refine HC.out.mono ?_
  rintro e w1 ⟨rfl, hK1⟩
  have K1 := Lib.hid hK1;clear hK1
  dsimp only
  go_wp2_with fail
  refine (HI.out _ (HE.out.kp K1.out (by simp))).mono ?_
  rintro e w2 ⟨rfl, hK2⟩
  have K2 := Lib.hid (K1.out.trans hK2);clear hK2
  go_wp2_with fail
  refine (HJ.out _ (HE.out.kp K2.out (by simp))).mono ?_
  rintro e w3 ⟨rfl, hK3⟩
  have K3 := Lib.hid (K2.out.trans hK3);clear hK3
  go_wp2_with fail
  go_ret2
  unfold TxE
  dsimp only
  rw [← HCat.out]
  exact ⟨rfl, K3.out⟩
 ·have bx : (x != 0) = true := bne_iff_ne.2 hx
  have HF := Lib.hid (show (if x ≠ 0 then (([] : List UInt8), x) else (D ++ [32] ++ F ++ [32] ++ m, 0)) = ([], x) from if_pos hx)
  rw [HF.out]
  clear hx
  go_enter Tryz.func26, Tryz.ntmps26
  go_wp2_with fail
  refine HC.out.mono ?_
  rintro e w1 ⟨rfl, hK1⟩
  have K1 := Lib.hid hK1;clear hK1
  dsimp only
  go_wp2_with fail
  go_ret2
  exact ⟨rfl, K1.out⟩
set_option maxRecDepth 100000 in
set_option maxHeartbeats 4000000 in
theorem tidyOne_cseq (s : ByteArray) (w : World) (hs : s.size ≤ 2097152) (E : Env w) :
   Calls Tryz.prog 8 #[.int .u8 3, .string s] w (TxE (tidC s.data.toList) w) := by
 have HR := Lib.hid (tidyCSeq_any s w hs E)
 obtain ⟨t, x, hr⟩ : ∃ a b, tidC s.data.toList = (a, b) := ⟨_, _, rfl⟩
 rw [hr] at HR ⊢
 clear hr E
 go_enter Tryz.func8, Tryz.ntmps8
 go_wp2_with fail
 refine HR.out.mono ?_
 rintro e w2 ⟨rfl, hK2⟩
 have K2 := Lib.hid hK2;clear hK2
 go_wp2_with fail
 go_ret2
 exact ⟨rfl, K2.out⟩
set_option maxRecDepth 100000 in
set_option maxHeartbeats 4000000 in
theorem tidyOne_rack (s : ByteArray) (w : World) (hs : s.size ≤ 1100000) (E : Env w) :
   Calls Tryz.prog 8 #[.int .u8 4, .string s] w (TxE (tidR s.data.toList) w) := by
 have HR := Lib.hid (tidyRAck_any s w hs E)
 obtain ⟨t, x, hr⟩ : ∃ a b, tidR s.data.toList = (a, b) := ⟨_, _, rfl⟩
 rw [hr] at HR ⊢
 clear hr E
 go_enter Tryz.func8, Tryz.ntmps8
 go_wp2_with fail
 refine HR.out.mono ?_
 rintro e w2 ⟨rfl, hK2⟩
 have K2 := Lib.hid hK2;clear hK2
 go_wp2_with fail
 go_ret2
 exact ⟨rfl, K2.out⟩
def tidK (k : Int) (l : List UInt8) : List UInt8 × Int :=
 if k = 1 then tidA l else if k = 2 then tidV l else if k = 3 then tidC l else if k = 4 then tidR l else if k = 5 then tidN l else if k = 6 then tidI l else if k = 7 then tidI l else tidX l
theorem numN_hi (l : List UInt8) : numN l ≤ 9223372036854775807 := by
 unfold numN
 split
 ·decide
 ·omega
theorem tidyOne_any (k : Int) (hk : 0 ≤ k ∧ k ≤ 7) (s : ByteArray) (w : World) (hs : s.size ≤ 1049000) (E : Env w) :
   Calls Tryz.prog 8 #[.int .u8 k, .string s] w (TxE (tidK k s.data.toList) w) := by
 have h : k = 0 ∨ k = 1 ∨ k = 2 ∨ k = 3 ∨ k = 4 ∨ k = 5 ∨ k = 6 ∨ k = 7 := by omega
 rcases h with rfl | rfl | rfl | rfl | rfl | rfl | rfl | rfl
 ·exact tidyOne_text s w (by omega)
 ·exact tidyOne_adr s w (by omega) E
 ·exact tidyOne_via s w (by omega) E
 ·exact tidyOne_cseq s w (by omega) E
 ·exact tidyOne_rack s w (by omega) E
 ·exact tidyOne_number s w (by omega) E (numN_hi _)
 ·exact tidyOne_item s w (by omega) E
 ·exact tidyOne_token s w (by omega) E
theorem kindR_bd (l : List UInt8) : 0 ≤ (kindR l).1 ∧ (kindR l).1 ≤ 7 := by
 have hall : (kindL.all fun p => decide (0 ≤ (kindR p.1).1 ∧ (kindR p.1).1 ≤ 7)) = true := by decide +kernel
 cases hl : kindL.find? fun p => p.1 == l
 ·unfold kindR
  rw [hl]
  decide
 ·rename_i p
  have hp := List.mem_of_find?_eq_some hl
  have he := List.find?_some hl
  have := of_decide_eq_true (List.all_eq_true.1 hall p hp)
  rw [beq_iff_eq.1 he] at this
  exact this
end Ad
end Go.Proofs.YtbcaindpbeaheaaGreatDoor
namespace Go.Proofs.YtbcaindpbeaheaaGreatDoor
namespace Ad
open Go.RowKit Lx
theorem pcOf_len (l : List UInt8) (a b : Nat) : (pcOf l a b).2.length ≤ l.length := by
 have h := trS_len ((l.take b).drop a)
 unfold trS at h
 rw [List.length_drop, List.length_take] at h
 unfold pcOf
 dsimp only
 omega
theorem spR_el (l : List UInt8) (sep : Int) (n : Nat) : ∀ (a k : Nat) (acc : List (Nat × List UInt8)), (∀ p ∈ acc, p.2.length ≤ l.length) → (∀ p ∈ (spR l sep n a k acc).1, p.2.length ≤ l.length) ∧ ((spR l sep n a k acc).2.2 = 0 → (spR l sep n a k acc).1 ≠ []) := by
 have snoc : ∀ (acc : List (Nat × List UInt8)) (a b : Nat), (∀ p ∈ acc, p.2.length ≤ l.length) → ∀ p ∈ acc ++ [pcOf l a b], p.2.length ≤ l.length := by
  intro acc a b h p hp
  rcases List.mem_append.1 hp with h1 | h1
  ·exact h p h1
  ·rw [List.mem_singleton.1 h1]; exact pcOf_len l a b
 induction n with
 | zero =>
   intro a k acc h
   unfold spR
   exact ⟨snoc acc _ _ h, fun _ => by simp⟩
 | succ n ih =>
   intro a k acc h
   unfold spR
   split
   ·exact ⟨snoc acc _ _ h, fun _ => by simp⟩
   ·split
    ·exact ih _ _ _ (snoc acc _ _ h)
    ·split
     ·exact ih _ _ _ h
     ·rename_i h9
      exact ⟨(fun p hp => by cases hp), fun h8 => absurd h8 h9⟩
theorem list_el (l : List UInt8) : (∀ x ∈ (listR l).1, x.length ≤ l.length) ∧ ((listR l).2 = 0 → (listR l).1 ≠ []) := by
 have h : (∀ p ∈ (spF l 44).1, p.2.length ≤ l.length) ∧ ((spF l 44).2.2 = 0 → (spF l 44).1 ≠ []) := by
  unfold spF
  rw [if_neg (by decide)]
  exact spR_el l 44 l.length 0 0 [] (fun p hp => by cases hp)
 unfold listR
 split
 ·rename_i h9
  exact ⟨(fun p hp => by cases hp), fun h8 => absurd h8 h9⟩
 ·rename_i h9
  split
  ·exact ⟨(fun p hp => by cases hp), fun h8 => absurd h8 (by decide)⟩
  ·refine ⟨fun x hx => ?_, fun _ h8 => ?_⟩
   ·obtain ⟨p, hp, rfl⟩ := List.mem_map.1 hx
    exact h.1 p hp
   ·exact h.2 (Classical.not_not.1 h9) (List.map_eq_nil_iff.1 h8)
set_option maxRecDepth 100000 in
set_option maxHeartbeats 4000000 in
theorem tidy_lerr (nm s : ByteArray) (cn : List UInt8) (k x : Int) (w : World) (hn : nm.size ≤ 2097152) (hs : s.size ≤ 1100000) (H : HEnv w)
   (hcan : canR nm.data.toList = (cn, 0)) (hk : kindR cn = (k, true)) (hl : listR s.data.toList = ([], x)) (hx : x ≠ 0) :
   Calls Tryz.prog 4 #[.string nm, .string s] w (TxE ([], x) w) := by
 have HCa := Lib.hid (by have h := canon_any nm w hn H; rw [hcan] at h; exact h)
 have HKi := Lib.hid (fun wz (h : HEnv wz) => (by have h := kindOf_any cn wz h; rw [hk] at h; exact h))
 have HLi := Lib.hid (fun wz => (by have h := list_any s wz hs; rw [hl] at h; exact h))
 have H0 := Lib.hid H
 have bx : (x != 0) = true := bne_iff_ne.2 hx
 clear hcan hk hl H hx
 go_enter Tryz.func4, Tryz.ntmps4
 go_wp2_with fail
 refine HCa.out.mono ?_
 rintro e w1 ⟨rfl, hK1⟩
 have K1 := Lib.hid hK1;clear hK1
 go_wp2_with fail
 refine (HKi.out _ (H0.out.kp K1.out (by simp))).mono ?_
 rintro e w2 ⟨rfl, hK2⟩
 have K2 := Lib.hid (K1.out.trans hK2);clear hK2
 go_wp2_with fail
 refine (HLi.out _).mono ?_
 rintro e w3 ⟨v, rfl, hown, hK3⟩
 have K3 := Lib.hid (K2.out.trans hK3)
 dsimp only at hown
 obtain ⟨p, d, rfl⟩ : ∃ p d, v = .slice p 0 d := by
  rcases hown.2 with ⟨h0, _⟩ | ⟨g, cap, cur, hv, _⟩
  ·exact ⟨none, 0, h0⟩
  ·exact ⟨_, cap, hv⟩
 clear hown hK3
 go_wp2_with fail
 go_ret2
 exact ⟨rfl, K3.out⟩
end Ad
end Go.Proofs.YtbcaindpbeaheaaGreatDoor
namespace Go.Proofs.YtbcaindpbeaheaaGreatDoor
namespace Ad
open Go.RowKit Lx
theorem tidI_again (l t : List UInt8) (h : tidI l = (t, 0)) : tidI t = (t, 0) := by
 unfold tidI at h
 split at h
 ·rename_i hx
  injection h with _ h2
  exact absurd h2 hx
 ·obtain ⟨v, ps, x, hr⟩ : ∃ a b c, itmR l = ((a, b), c) := ⟨_, _, _, rfl⟩
  rw [hr] at h
  dsimp only at h
  cases hp : pitO v ps with
  | none =>
    rw [hp] at h
    injection h with _ h2
    exact absurd h2 (by decide)
  | some s =>
    rw [hp] at h
    simp only [Option.getD_some, Option.isSome_some, if_true] at h
    injection h with h1 _
    subst h1
    have hb := itm_back v ps s hp
    have hs : pitO v (srt ps) = some s := by
     unfold pitO at hp ⊢
     cases hq : ppO (srt ps) with
     | none => rw [hq] at hp; cases hp
     | some p =>
       have hn := (ppO_some _ _ hq).2.1
       rw [srt_self _ (srt_srtd ps) hn, hq]
       rw [hq] at hp
       exact hp
    unfold tidI
    rw [hb]
    dsimp only
    rw [hs]
    rfl
theorem tidV_again (l t : List UInt8) (h : tidV l = (t, 0)) : tidV t = (t, 0) := by
 unfold tidV at h
 split at h
 ·rename_i hx
  injection h with _ h2
  exact absurd h2 hx
 ·obtain ⟨⟨tr, ho, po, br, ps⟩, x, hr⟩ : ∃ a c, viaR l = (a, c) := ⟨_, _, rfl⟩
  rw [hr] at h
  unfold pvV at h
  dsimp only at h
  cases hp : pviO tr ho br po ps with
  | none =>
    rw [hp] at h
    injection h with _ h2
    exact absurd h2 (by decide)
  | some s =>
    rw [hp] at h
    simp only [Option.getD_some, Option.isSome_some, if_true] at h
    injection h with h1 _
    subst h1
    obtain ⟨ho', p, h1, h2, h3, h4, h5, h6, h7, h8, h9, h10⟩ := via_back tr ho br po ps s hp
    have hs := via_again tr ho br ho' po ps s hp h1
    unfold tidV pvV
    rw [h10]
    dsimp only
    rw [hs]
    rfl
theorem dw_again {α : Type} (p : α → Bool) : ∀ l : List α, (l.dropWhile p).dropWhile p = l.dropWhile p := by
 intro l
 induction l with
 | nil => rfl
 | cons c t ih =>
   rw [List.dropWhile_cons]
   split
   ·exact ih
   ·rename_i h
    rw [List.dropWhile_cons, if_neg h]
theorem rd_again (p : UInt8 → Bool) (l : List UInt8) : rd p (rd p l) = rd p l := by
 unfold rd
 rw [List.reverse_reverse, dw_again]
theorem rd_dw (p : UInt8 → Bool) (l : List UInt8) (h : l.dropWhile p = l) : (rd p l).dropWhile p = rd p l := by
 cases l with
 | nil => rfl
 | cons c t =>
   have hc : p c = false := by
    cases hp : p c
    ·rfl
    ·rw [List.dropWhile_cons, if_pos hp] at h
     have := (List.dropWhile_suffix p (l := t)).length_le
     rw [h] at this
     simp at this
     omega
   cases hr : rd p (c :: t) with
   | nil => rfl
   | cons d u =>
     have hpre : d = c := by
      have h1 : rd p (c :: t) <+: c :: t := by
       unfold rd
       have := List.dropWhile_suffix p (l := (c :: t).reverse)
       have h2 := List.reverse_prefix.2 this
       rwa [List.reverse_reverse] at h2
      rw [hr] at h1
      obtain ⟨z, hz⟩ := h1
      rw [List.cons_append] at hz
      injection hz
     rw [hpre, List.dropWhile_cons, if_neg (by rw [hc]; decide)]
theorem trS_again (l : List UInt8) : trS (trS l) = trS l := by
 unfold trS
 rw [trimS_eq, trimS_eq, rd_dw _ _ (dw_again _ _), rd_again]
theorem tidX_again (l t : List UInt8) (h : tidX l = (t, 0)) : tidX t = (t, 0) := by
 unfold tidX at h
 split at h
 ·injection h with _ h2
  exact absurd h2 (by decide)
 ·rename_i hc
  injection h with h1 _
  subst h1
  unfold tidX
  rw [trS_again, if_neg hc]
theorem num_dec (n : Nat) (h : n ≤ 2147483647) : numE (decL n) = 0 ∧ numN (decL n) = n := by
 obtain ⟨a, b, c, d⟩ := decL_spec n n (Nat.le_refl _)
 have := d 10 (by omega) (by omega)
 have := num_ok (decL n) c (by omega) a (by rw [b]; omega)
 exact ⟨this.2, by rw [this.1, b]⟩
theorem tidN_again (l t : List UInt8) (h : tidN l = (t, 0)) : tidN t = (t, 0) := by
 unfold tidN at h
 split at h
 ·rename_i hx
  injection h with _ h2
  exact absurd h2 hx
 ·injection h with h1 _
  have hlo := numN_lo (trS l)
  have hhi : numN (trS l) ≤ 2147483647 := by
   unfold numN
   split
   ·decide
   ·omega
  obtain ⟨n, hn⟩ : ∃ n : Nat, numN (trS l) = n := ⟨(numN (trS l)).toNat, by omega⟩
  rw [hn] at h1 hhi
  rw [itoa_dec _ (by omega), Int.toNat_natCast] at h1
  subst h1
  obtain ⟨e1, e2⟩ := num_dec n (by omega)
  have ht : trS (decL n) = decL n := by
   obtain ⟨c, u, hd, hc, _⟩ := dec_head n
   obtain ⟨m, d, he, hd2⟩ := dec_end n
   exact trS_self _ u m c d hd he hc hd2
  unfold tidN
  rw [ht, e1, if_neg (by decide), e2, itoa_dec _ (by omega), Int.toNat_natCast]
end Ad
end Go.Proofs.YtbcaindpbeaheaaGreatDoor
namespace Go.Proofs.YtbcaindpbeaheaaGreatDoor
namespace Ad
open Go.RowKit Lx
theorem tidA_again (l t : List UInt8) (h : tidA l = (t, 0)) (hl : t.length ≤ 1024) : tidA t = (t, 0) := by
 unfold tidA at h
 split at h
 ·rename_i hx
  injection h with _ h2
  exact absurd h2 hx
 ·obtain ⟨a, hr⟩ : ∃ a, (adrR (trS l)).1 = a := ⟨_, rfl⟩
  rw [hr] at h
  cases hp : adrO a with
  | none =>
    rw [hp] at h
    injection h with _ h2
    exact absurd h2 (by decide)
  | some s =>
    rw [hp] at h
    simp only [Option.getD_some, Option.isSome_some, if_true] at h
    injection h with h1 _
    subst h1
    obtain ⟨n, hn, hb⟩ := adr_print a s hp hl
    have hNF := normal_NF _ _ hn
    have hs : adrO ⟨a.display, n, srt a.params⟩ = some s := by
     have h1 : printO a.uri = some (textU n) := by unfold printO; rw [hn]; rfl
     unfold adrO at hp ⊢
     rw [h1] at hp
     dsimp only
     rw [hNF.printed]
     cases hq : ppO (srt a.params) with
     | none => rw [hq] at hp; cases hp
     | some p =>
       have hnm := (ppO_some _ _ hq).2.1
       rw [srt_self _ (srt_srtd a.params) hnm, hq]
       rw [hq] at hp
       exact hp
    unfold tidA
    rw [adr_trim a s hp, hb]
    dsimp only
    rw [hs]
    rfl
theorem cseq_ok (l : List UInt8) (n : Int) (m : List UInt8) (h : cseqR l = (n, m, 0)) : tokB m = true := by
 unfold cseqR at h
 split at h
 ·rename_i hx
  injection h with _ h2
  injection h2 with _ h3
  exact absurd h3 hx
 ·split at h
  ·rename_i ht
   injection h with _ h2
   injection h2 with h3 _
   rw [← h3]
   exact ht
  ·injection h with _ h2
   injection h2 with _ h3
   exact absurd h3 (by decide)
theorem cseq_print (k : Nat) (hk : k ≤ 2147483647) (m : List UInt8) (hm : tokB m = true) : cseqR (decL k ++ ([32] ++ m)) = ((k : Int), m, 0) := by
 obtain ⟨c, u, hd, _, _⟩ := dec_head k
 obtain ⟨_, _, ha, _⟩ := decL_spec k k (Nat.le_refl _)
 obtain ⟨e1, e2⟩ := num_dec k hk
 exact cseq_at [] (decL k) [32] k c u (fun c hc => by cases hc) hd (fun c hc => List.all_eq_true.1 (show allD (decL k) = true by assumption) c hc) k ⟨e2, e1⟩ m (by decide) (by decide) hm
theorem tidC_again (l t : List UInt8) (h : tidC l = (t, 0)) : tidC t = (t, 0) := by
 obtain ⟨n, m, x, hr⟩ : ∃ a b c, cseqR l = (a, b, c) := ⟨_, _, _, rfl⟩
 have hmd := cseq_md l
 unfold tidC at h
 rw [hr] at h hmd
 dsimp only at h hmd
 split at h
 ·rename_i hx
  injection h with _ h2
  exact absurd h2 hx
 ·rename_i hx
  have hx0 : x = 0 := Classical.not_not.1 hx
  rw [hx0] at hr
  have hm := cseq_ok l n m hr
  injection h with h1 _
  obtain ⟨k, rfl⟩ : ∃ k : Nat, n = k := ⟨n.toNat, by omega⟩
  rw [itoa_dec _ (by omega), Int.toNat_natCast, List.append_assoc] at h1
  subst h1
  unfold tidC
  rw [cseq_print k (by omega) m hm]
  dsimp only
  rw [if_neg (by decide), itoa_dec _ (by omega), Int.toNat_natCast, List.append_assoc]
theorem rack_print (a b : Nat) (ha : a ≤ 2147483647) (hb : b ≤ 2147483647) (m : List UInt8) (hm : tokB m = true) : rckR (decL a ++ ([32] ++ (decL b ++ ([32] ++ m)))) = ((a : Int), (b : Int), m, 0) := by
 obtain ⟨c, t, h1, h2, _⟩ := dec_head a
 obtain ⟨c', t', h1', h2', _⟩ := dec_head b
 obtain ⟨e1, e2⟩ := num_dec a ha
 have he : NEnd (decL b ++ ([32] ++ m)) := ((tok_end m hm).pre [32]).pre (decL b)
 have hl := lead_num [] (decL a) ([32] ++ (decL b ++ ([32] ++ m))) c t (by simp) h1 (decL_chars a) ⟨32, _, rfl, rfl⟩ (he.pre _)
 have hT : trS ([32] ++ (decL b ++ ([32] ++ m))) = decL b ++ ([32] ++ m) := by
  have := trS_pad [32] (decL b ++ ([32] ++ m)) [] (t' ++ ([32] ++ m)) c' (by decide) (by simp) (by rw [h1']; rfl) h2' he
  rwa [List.append_nil] at this
 have hc := cseq_print b hb m hm
 rw [List.nil_append] at hl
 unfold rckR
 rw [hl, hT, hc, e1, e2]
 rfl
theorem rck_ok (l : List UInt8) (n o : Int) (m : List UInt8) (h : rckR l = (n, o, m, 0)) : tokB m = true := by
 unfold rckR at h
 obtain ⟨n1, m1, x1, hL⟩ : ∃ a b c, leadR l = (a, b, c) := ⟨_, _, _, rfl⟩
 rw [hL] at h
 dsimp only at h
 obtain ⟨a, b, c, hC⟩ : ∃ d e f, cseqR m1 = (d, e, f) := ⟨_, _, _, rfl⟩
 rw [hC] at h
 split at h
 ·rename_i hx
  injection h with _ h2
  injection h2 with _ h3
  injection h3 with _ h4
  exact absurd h4 hx
 ·unfold rckC at h
  dsimp only at h
  split at h
  ·rename_i hx
   injection h with _ h2
   injection h2 with _ h3
   injection h3 with _ h4
   exact absurd h4 hx
  ·rename_i hx
   injection h with _ h2
   injection h2 with h5 h3
   injection h3 with h4 _
   have hc0 : c = 0 := Classical.not_not.1 hx
   rw [hc0, h4] at hC
   exact cseq_ok _ _ m hC
theorem tidR_again (l t : List UInt8) (h : tidR l = (t, 0)) : tidR t = (t, 0) := by
 obtain ⟨n, o, m, x, hr⟩ : ∃ a b c d, rckR l = (a, b, c, d) := ⟨_, _, _, _, rfl⟩
 have hmd := rck_md l
 unfold tidR at h
 rw [hr] at h hmd
 dsimp only at h hmd
 split at h
 ·rename_i hx
  injection h with _ h2
  exact absurd h2 hx
 ·rename_i hx
  have hx0 : x = 0 := Classical.not_not.1 hx
  rw [hx0] at hr
  have hm := rck_ok l n o m hr
  injection h with h1 _
  obtain ⟨k, rfl⟩ : ∃ k : Nat, n = k := ⟨n.toNat, by omega⟩
  obtain ⟨j, rfl⟩ : ∃ k : Nat, o = k := ⟨o.toNat, by omega⟩
  rw [itoa_dec (k : Int) (by omega), itoa_dec (j : Int) (by omega), Int.toNat_natCast, Int.toNat_natCast, List.append_assoc, List.append_assoc, List.append_assoc] at h1
  subst h1
  unfold tidR
  rw [rack_print k j (by omega) (by omega) m hm]
  dsimp only
  rw [if_neg (by decide), itoa_dec (k : Int) (by omega), itoa_dec (j : Int) (by omega), Int.toNat_natCast, Int.toNat_natCast, List.append_assoc, List.append_assoc, List.append_assoc]
theorem tidK_again (k : Int) (l t : List UInt8) (h : tidK k l = (t, 0)) (hl : t.length ≤ 1024) : tidK k t = (t, 0) := by
 unfold tidK at h ⊢
 by_cases h1 : k = 1
 ·rw [if_pos h1] at h ⊢; exact tidA_again l t h hl
 rw [if_neg h1] at h ⊢
 by_cases h2 : k = 2
 ·rw [if_pos h2] at h ⊢; exact tidV_again l t h
 rw [if_neg h2] at h ⊢
 by_cases h3 : k = 3
 ·rw [if_pos h3] at h ⊢; exact tidC_again l t h
 rw [if_neg h3] at h ⊢
 by_cases h4 : k = 4
 ·rw [if_pos h4] at h ⊢; exact tidR_again l t h
 rw [if_neg h4] at h ⊢
 by_cases h5 : k = 5
 ·rw [if_pos h5] at h ⊢; exact tidN_again l t h
 rw [if_neg h5] at h ⊢
 by_cases h6 : k = 6
 ·rw [if_pos h6] at h ⊢; exact tidI_again l t h
 rw [if_neg h6] at h ⊢
 by_cases h7 : k = 7
 ·rw [if_pos h7] at h ⊢; exact tidI_again l t h
 rw [if_neg h7] at h ⊢
 exact tidX_again l t h
end Ad
end Go.Proofs.YtbcaindpbeaheaaGreatDoor
namespace Go.Proofs.YtbcaindpbeaheaaGreatDoor
namespace Ad
open Go.RowKit Lx
theorem skR_byte (s : ByteArray) (k : Nat) (c : UInt8) (t : List UInt8) (h : s.data.toList.drop k = c :: t) : ∃ hk : k < s.size, s[k] = c ∧ s.data.toList.drop (k + 1) = t := by
 have hlt : k < s.size := by
  rcases Nat.lt_or_ge k s.size with h9 | h9
  ·exact h9
  ·rw [drop_end s k h9] at h; cases h
 refine ⟨hlt, ?_⟩
 rw [drop_step s k hlt] at h
 injection h with h1 h2
 exact ⟨h1, h2⟩
theorem tok_quote (d : List UInt8) (hc : hasCtl d = false) : Lx.Tok 44 ([34] ++ escL d ++ [34]) := by
 refine ⟨by simp, fun c t h => ?_, fun s k y hd => ?_, .inr ⟨[34] ++ escL d, 34, rfl, by decide⟩⟩
 ·rw [List.append_assoc] at h
  injection h with h _
  rw [← h]
  decide
 ·rw [List.append_assoc, List.append_assoc] at hd
  obtain ⟨hk, h1, h2⟩ := skR_byte s k 34 (escL d ++ ([34] ++ y)) hd
  rw [skR_at s k hk, h1, if_pos (by decide), h2]
  have := (round_spec y d (k + 1) hc).1
  rw [List.append_assoc] at this
  rw [this]
  simp
  omega
theorem index_app (c : UInt8) (y : List UInt8) : ∀ a : List UInt8, (∀ d ∈ a, d ≠ c) → Lib.indexByte (a ++ c :: y) c = a.length := by
 intro a
 induction a with
 | nil => intro _; simp [Lib.indexByte]
 | cons b t ih =>
   intro h
   have hb : (b == c) = false := beq_eq_false_iff_ne.2 (h b (by simp))
   have ht := ih (fun d hd => h d (by simp [hd]))
   rw [List.cons_append, Lib.indexByte, hb, ht]
   have : ((t.length : Int) == -1) = false := beq_eq_false_iff_ne.2 (by omega)
   rw [this]
   simp
theorem tok_angle (x : List UInt8) (hx : ∀ c ∈ x, c ≠ 62) : Lx.Tok 44 ([60] ++ x ++ [62]) := by
 refine ⟨by simp, fun c t h => ?_, fun s k y hd => ?_, .inr ⟨[60] ++ x, 62, rfl, by decide⟩⟩
 ·rw [List.append_assoc] at h
  injection h with h _
  rw [← h]
  decide
 ·have hd' := hd
  rw [List.append_assoc, List.append_assoc] at hd
  obtain ⟨hk, h1, h2⟩ := skR_byte s k 60 (x ++ ([62] ++ y)) hd
  have hi := index_app 62 y ([60] ++ x) (fun d hd => by
   rcases List.mem_append.1 hd with h | h
   ·rw [List.mem_singleton.1 h]; decide
   ·exact hx d h)
  rw [skR_at s k hk, h1, if_neg (by decide), if_pos (by decide)]
  rw [show s.data.toList.drop k = [60] ++ x ++ 62 :: y by rw [hd']; simp, hi, if_neg (by omega)]
  simp
  omega
theorem tok_plain (l : List UInt8) (h : ∀ c ∈ l, tokI c.toNat = true) : Sc 44 l := by
 refine plain_sc l fun c hc => ?_
 have := h c hc
 refine ⟨?_, ?_, ?_, ?_⟩ <;> (intro e; rw [e] at this; exact absurd this (by decide))
theorem list_join (y : List UInt8) (ys : List (List UInt8)) (h : ∀ x ∈ y :: ys, Sc 44 x ∧ trS x = x ∧ x ≠ []) : listR (Lib.join (y :: ys) [44, 32]) = (y :: ys, 0) := by
 have hJ : Lib.join (y :: ys) [44, 32] = Lx.jn 44 (y :: ys.map fun x => 32 :: x) := by
  rw [Lib.join_cons]
  show y ++ _ = y ++ Lx.tl 44 (ys.map fun x => 32 :: x)
  congr 1
  clear h
  induction ys with
  | nil => rfl
  | cons z zs ih =>
    unfold Lib.joinTail at ih ⊢
    rw [List.map_cons, List.flatten_cons, ih]
    simp [Lx.tl]
 rw [hJ]
 have hsc : ∀ u ∈ ys.map (fun x => 32 :: x), Sc 44 u := fun u hu => by
  obtain ⟨x, hx, rfl⟩ := List.mem_map.1 hu
  exact Sc.app (a := [32]) (plain_sc [32] (by decide)) (h x (List.mem_cons_of_mem _ hx)).1
 have hp := parts_split (Txt (Lx.jn 44 (y :: ys.map fun x => 32 :: x))) 44 (Txt (Lx.jn 44 (y :: ys.map fun x => 32 :: x))).size 0 0 y (ys.map fun x => 32 :: x) [] (by omega) (Nat.le_refl _) (Nat.zero_le _) (h y (by simp)).1 hsc (by rw [txt_list]; rfl)
 rw [txt_list, txt_size] at hp
 have hF : spF (Lx.jn 44 (y :: ys.map fun x => 32 :: x)) 44 = (Lx.pcs 0 (y :: ys.map fun x => 32 :: x), 0, 0) := by
  unfold spF
  rw [if_neg (by decide)]
  exact hp
 have hT := Lx.pcs_texts (y :: ys.map fun x => 32 :: x) 0
 have hM : (y :: ys.map fun x => 32 :: x).map (fun t => Lib.trimS t blk) = y :: ys := by
  rw [List.map_cons, List.map_map]
  congr 1
  ·exact (h y (by simp)).2.1
  ·have : ∀ x ∈ ys, ((fun t => Lib.trimS t blk) ∘ fun x => 32 :: x) x = id x := fun x hx => by
     have h2 := (h x (List.mem_cons_of_mem _ hx)).2.1
     show Lib.trimS (32 :: x) blk = x
     rw [trimS_eq, List.dropWhile_cons, if_pos (by decide), ← trimS_eq]
     exact h2
   rw [List.map_congr_left this, List.map_id]
 rw [hM] at hT
 unfold listR
 rw [hF]
 dsimp only
 have hany : (Lx.pcs 0 (y :: ys.map fun x => 32 :: x)).any (fun p => decide (p.2 = [])) = false := by
  rw [List.any_eq_false]
  intro p hpm
  have hm : p.2 ∈ y :: ys := by rw [← hT]; exact List.mem_map.2 ⟨p, hpm, rfl⟩
  simp only [decide_eq_true_eq]
  exact (h p.2 hm).2.2
 rw [if_neg (by decide), hany, hT]
 rfl
end Ad
end Go.Proofs.YtbcaindpbeaheaaGreatDoor
namespace Go.Proofs.YtbcaindpbeaheaaGreatDoor
namespace Ad
open Go.RowKit Lx
theorem sc_host (h : List UInt8) (hh : hostO h = some h) : Sc 44 h := by
 refine plain_sc h fun c hc => ?_
 have key : ∀ k : UInt8, hexC k.toNat = false → k ≠ 58 → lblC k.toNat = false → k ≠ 46 → k ≠ 91 → k ≠ 93 → c ≠ k := by
  intro k k1 k2 k3 k4 k5 k6
  rcases host_kinds h hh with ⟨y, rfl, hg⟩ | ⟨_, _, hl⟩
  ·simp only [List.mem_append, List.mem_singleton] at hc
   rcases hc with (rfl | hd) | rfl
   ·exact fun e => k5 e.symm
   ·exact GC_no c (hg c hd) k k1 k2
   ·exact fun e => k6 e.symm
  ·exact LC_no c (hl c hc) k k3 k4
 have nn : ∀ (n : Nat) (k : UInt8), k.toNat = n → c ≠ k → c.toNat ≠ n := fun n k hk hne e => hne (UInt8.toNat_inj.1 (e.trans hk.symm))
 exact ⟨nn 34 34 rfl (key 34 (by decide) (by decide) (by decide) (by decide) (by decide) (by decide)), nn 60 60 rfl (key 60 (by decide) (by decide) (by decide) (by decide) (by decide) (by decide)), nn 62 62 rfl (key 62 (by decide) (by decide) (by decide) (by decide) (by decide) (by decide)), nn 44 44 rfl (key 44 (by decide) (by decide) (by decide) (by decide) (by decide) (by decide))⟩
theorem sc_tok (v : List UInt8) (h : tokB v = true) : Sc 44 v := tok_plain v ((tokB_iff v).1 h).2
theorem sc_pv (v : List UInt8) (hc : hasCtl v = false) : Sc 44 (pvL v) := by
 unfold pvL
 split
 ·rename_i h
  rw [Bool.or_eq_true, Bool.and_eq_true] at h
  rcases h with h | ⟨_, h⟩
  ·exact sc_tok v h
  ·exact sc_host v (of_decide_eq_true h)
 ·exact Sc.one (tok_quote v hc)
theorem sc_pp (p : Prm) (h : ppB p = true) : Sc 44 (ppL p) := by
 unfold ppB at h
 simp only [Bool.and_eq_true, Bool.not_eq_true'] at h
 obtain ⟨⟨⟨h1, _⟩, h3⟩, _⟩ := h
 unfold ppL
 have e : Sc 44 (59 :: p.1) := Sc.app (a := [59]) (plain_sc [59] (by decide)) (sc_tok _ h1)
 refine Sc.app (a := 59 :: p.1) e ?_
 split
 ·exact Sc.app (a := [61]) (plain_sc [61] (by decide)) (sc_pv _ h3)
 ·exact .nil
theorem sc_flat : ∀ l : List Prm, (∀ p ∈ l, ppB p = true) → Sc 44 (l.flatMap ppL) := by
 intro l
 induction l with
 | nil => intro _; exact .nil
 | cons p t ih =>
   intro h
   rw [List.flatMap_cons]
   exact Sc.app (sc_pp p (h p (by simp))) (ih fun q hq => h q (by simp [hq]))
theorem sc_ppO (l : List Prm) (x : List UInt8) (h : ppO l = some x) : Sc 44 x := by
 rw [(ppO_some l x h).2.2]
 exact sc_flat l (ppF_all l [] x h)
theorem sc_pit (v : List UInt8) (l : List Prm) (t : List UInt8) (h : pitO v l = some t) : Sc 44 t := by
 unfold pitO at h
 cases hp : ppO (srt l) with
 | none => rw [hp] at h; cases h
 | some p =>
   rw [hp] at h
   dsimp only at h
   split at h
   ·rename_i hi
    injection h with h
    rw [← h]
    refine Sc.app ?_ (sc_ppO _ _ hp)
    rcases itm_split v hi with hv | ⟨a, b, rfl, ha, hb⟩
    ·exact sc_tok v hv
    ·exact Sc.app (sc_tok a ha) (Sc.app (a := [47]) (plain_sc [47] (by decide)) (sc_tok b hb))
   ·cases h
theorem sc_adr (a : Adr) (t : List UInt8) (h : adrO a = some t) : Sc 44 t := by
 unfold adrO at h
 cases hu : printO a.uri with
 | none => rw [hu] at h; cases h
 | some u =>
   cases hp : ppO (srt a.params) with
   | none => rw [hu, hp] at h; cases h
   | some p =>
     rw [hu, hp] at h
     dsimp only at h
     split at h
     ·cases h
     ·rename_i hc
      have hc' : hasCtl a.display = false := by simpa using hc
      injection h with h
      rw [← h]
      have h62 : ∀ c ∈ u, c ≠ 62 := by
       unfold printO at hu
       obtain ⟨n, hn, hnu⟩ := Option.map_eq_some_iff.1 hu
       rw [← hnu]
       exact text_no62 n (normal_NF _ _ hn)
      refine Sc.app ?_ (sc_ppO _ _ hp)
      rw [List.append_assoc, List.append_assoc, ← List.append_assoc [60] u [62]]
      refine Sc.app ?_ (Sc.one (tok_angle u h62))
      split
      ·exact .nil
      ·rw [show [34] ++ escL a.display ++ [34, 32] = ([34] ++ escL a.display ++ [34]) ++ [32] by simp]
       exact Sc.app (Sc.one (tok_quote _ hc')) (plain_sc [32] (by decide))
theorem sc_dec (n : Nat) : Sc 44 (decL n) := plain_sc _ fun c hc => by
 have := decL_chars n c hc
 unfold digitI at this
 simp only [Bool.and_eq_true, decide_eq_true_eq] at this
 omega
theorem sc_pvi (t h b : List UInt8) (po : Int) (l : List Prm) (s : List UInt8) (hs : pviO t h b po l = some s) : Sc 44 s := by
 obtain ⟨ho, p, h1, h2, h3, h4, h5, h6, _⟩ := via_back t h b po l s hs
 rw [h3]
 refine Sc.app (Sc.app (Sc.app (Sc.app (Sc.app ?_ ?_) ?_) ?_) ?_) (sc_ppO _ _ h2)
 ·exact plain_sc protoL (by decide)
 ·exact sc_tok _ (uprL_tok t h4)
 ·exact plain_sc [32] (by decide)
 ·exact sc_host ho (hostO_idem h ho h1)
 ·unfold porL
  split
  ·exact .nil
  ·rw [itoa_dec po h5]
   exact Sc.app (a := [58]) (plain_sc [58] (by decide)) (sc_dec _)
end Ad
end Go.Proofs.YtbcaindpbeaheaaGreatDoor
namespace Go.Proofs.YtbcaindpbeaheaaGreatDoor
namespace Ad
open Go.RowKit Lx
theorem wrt_small (m : Nat) (f a : UInt8) (cls : Int) : ∀ (l : List Prm), SzL m l → (wrt f a cls l).length ≤ l.length * (6 * m + 2) := by
 intro l
 induction l generalizing f with
 | nil => intro _; simp [wrt]
 | cons p t ih =>
   intro h
   have h1 := h p (List.mem_cons_self ..)
   have h2 := ih a (fun q hq => h q (List.mem_cons_of_mem _ hq))
   have h3 := (escp_len cls p.1).2;have h4 := (escp_len cls p.2.1).2
   have h5 : (prP cls p).length ≤ 6 * m + 1 := by
    unfold prP
    split
    ·simp only [List.length_append, List.length_cons]; omega
    ·simp only [List.length_append, List.length_nil]; omega
   rw [wrt, List.length_append, List.length_cons, List.length_cons, Nat.add_mul]
   omega
theorem SzL.mono {m n : Nat} {l : List Prm} (h : SzL m l) (hmn : m ≤ n) : SzL n l := fun p hp => by have := h p hp; exact ⟨by have := this.1; omega, by have := this.2; omega⟩
theorem szB_mono {m n : Nat} {u : Uri} (h : SzB m u) (hmn : m ≤ n) : SzB n u := ⟨h.scheme, by have := h.user; omega, by have := h.host; omega, h.params, h.heads, h.ps.mono hmn, h.hs.mono hmn⟩
theorem szB_nil (m : Nat) : SzB m nilU := ⟨Nat.zero_le _, Nat.zero_le _, Nat.zero_le _, Nat.zero_le _, Nat.zero_le _, (fun p hp => by cases hp), (fun p hp => by cases hp)⟩
theorem parse_szB (l : List UInt8) (m : Nat) (hl : l.length ≤ m) : SzB m (parse l).1 := by
 by_cases hx : (parse l).2.2 = 0
 ·exact szB_mono (parse_sz l hx) hl
 ·rw [(parse_at l).2 hx]; exact szB_nil m
theorem restR_szB (l d : List UInt8) (a b c m : Nat) (hl : l.length ≤ m) : SzB m (restR l d a b c).1.uri := by
 unfold restR
 split
 ·exact szB_nil m
 ·split
  ·exact szB_nil m
  ·exact parse_szB _ _ (by have := slc_lel l a b; omega)
theorem angR_szB (l d : List UInt8) (k m : Nat) (hl : l.length ≤ m) : SzB m (angR l d k).1.uri := by
 unfold angR
 split
 ·exact szB_nil m
 ·exact restR_szB _ _ _ _ _ _ hl
theorem adrR_szB (l : List UInt8) : SzB 1024 (adrR l).1.uri := by
 by_cases hl : 1024 < l.length
 ·unfold adrR; rw [if_pos hl]; exact szB_nil _
 ·unfold adrR
  rw [if_neg hl]
  split
  ·split
   ·exact szB_nil _
   ·split
    ·exact szB_nil _
    ·exact angR_szB _ _ _ _ (by omega)
  ·split
   ·split
    ·exact szB_nil _
    ·exact angR_szB _ _ _ _ (by omega)
   ·split
    ·exact szB_nil _
    ·exact restR_szB _ _ _ _ _ _ (by omega)
theorem adrO_small (l : List UInt8) (h : (adrR l).2.2 = 0) (t : List UInt8) (ht : adrO (adrR l).1 = some t) : t.length ≤ 102000000 := by
 have hN := adrR_NF l h;have hB := adrR_szB l;have hM := adrR_md2 l
 obtain ⟨a, ha⟩ : ∃ a, (adrR l).1 = a := ⟨_, rfl⟩
 rw [ha] at hN hB hM ht
 rw [adrO_eq, hN.printed] at ht
 cases hp : ppO (srt a.params) with
 | none => rw [hp] at ht; cases ht
 | some p =>
   rw [hp] at ht
   dsimp only at ht
   split at ht
   ·cases ht
   ·injection ht with ht
    have hpl := ppO_len (srt a.params) (szP_perm (szP_of hM.p) (srt_perm _)) p hp
    have hd : (dspL a.display).length ≤ 8195 := by
     have h1 := escL_len a.display;have h2 := hM.d
     unfold dspL
     split
     ·exact Nat.zero_le _
     ·simp only [List.length_append, List.length_cons, List.length_nil]; omega
    have hu : (textU a.uri).length ≤ 300000 := by
     have htel : a.uri.scheme = telL → a.uri.heads = [] := fun e => by
      rcases hN.kind with ⟨hk | hk, _⟩ | ⟨_, _, _, _, hh⟩
      ·rw [hk] at e; exact absurd e (by decide)
      ·rw [hk] at e; exact absurd e (by decide)
      ·exact hh
     rw [text_eq a.uri htel]
     have h4 := wrt_small 1024 59 59 1 a.uri.params hB.ps;have h5 := wrt_small 1024 63 38 2 a.uri.heads hB.hs;have h7 := hB.params;have h8 := hB.heads
     have h9 := Nat.mul_le_mul_right (6 * 1024 + 2) h7
     have h10 := Nat.mul_le_mul_right (6 * 1024 + 2) h8
     have h1 := hB.scheme; have h2 := hB.user; have h3 := hB.host
     simp only [List.length_append, List.length_singleton]
     split
     ·omega
     ·rename_i hs
      rcases hN.kind with ⟨_, _, p0, p1, _⟩ | ⟨hk, _⟩
      ·have h6 := plc_len a.uri.user a.uri.host a.uri.port p0 p1
       omega
      ·exact absurd hk hs
    rw [← ht]
    simp only [List.length_append, List.length_singleton]
    omega
theorem tidA_len (l : List UInt8) : (tidA l).1.length ≤ 102000000 := by
 unfold tidA
 split
 ·exact Nat.zero_le _
 ·rename_i hx
  cases hp : adrO (adrR (trS l)).1 with
  | none => exact Nat.zero_le _
  | some t => exact adrO_small _ (Classical.not_not.1 hx) t hp
theorem tidI_len (l : List UInt8) (hl : l.length ≤ 1049000) : (tidI l).1.length ≤ 102000000 := by
 obtain ⟨v, ps, x, hr⟩ : ∃ a b c, itmR l = ((a, b), c) := ⟨_, _, _, rfl⟩
 have hm := itm_md l (by omega)
 have hv : v.length ≤ 1049000 := by
  have h9 : (itmR l).1.1.length ≤ l.length := by
   have ht := trS_len l
   unfold itmR itT itP
   split
   ·split
    ·exact Nat.zero_le _
    ·dsimp only; rw [List.length_take]; omega
   ·exact Nat.zero_le _
  rw [hr] at h9
  dsimp only at h9
  omega
 unfold tidI
 rw [hr] at hm ⊢
 dsimp only at hm ⊢
 split
 ·exact Nat.zero_le _
 ·cases hp : pitO v ps with
  | none => exact Nat.zero_le _
  | some t =>
    unfold pitO at hp
    cases hq : ppO (srt ps) with
    | none => rw [hq] at hp; cases hp
    | some p =>
      rw [hq] at hp
      dsimp only at hp
      split at hp
      ·injection hp with hp
       have hsz : SzP ps := fun q hq => by have := hm.2.2 q hq; exact ⟨by have := this.1; omega, by have := this.2; omega⟩
       have := ppO_len (srt ps) (szP_perm hsz (srt_perm _)) p hq
       show t.length ≤ _
       rw [← hp, List.length_append]
       omega
      ·cases hp
theorem tidV_len (l : List UInt8) (hl : l.length ≤ 1049000) : (tidV l).1.length ≤ 105000000 := by
 have hm := via_md l
 unfold tidV
 split
 ·exact Nat.zero_le _
 ·obtain ⟨v, hv⟩ : ∃ v, (viaR l).1 = v := ⟨_, rfl⟩
  rw [hv] at hm ⊢
  cases hp : pvV v with
  | none => exact Nat.zero_le _
  | some s =>
    show s.length ≤ _
    obtain ⟨ho, p, h1, h2, h3, h4, h5, h6, _⟩ := via_back _ _ _ _ _ s hp
    have hh := hostO_len _ ho h1;have hpo := porL_len v.port h5 h6
    have e1 := hm.t; have e2 := hm.h; have e3 := hm.b
    have hsz : SzP v.pm := fun q hq => by have := hm.p q hq; exact ⟨by have := this.1; omega, by have := this.2; omega⟩
    have hpl := ppO_len (srt (vps v.pm v.br)) (szP_perm (vps_sz v.pm v.br hsz (by omega)) (srt_perm _)) p h2
    have hu : (uprL v.tr).length = v.tr.length := by simp [uprL]
    rw [h3]
    simp only [List.length_append, hu]
    have : protoL.length = 8 := rfl
    simp
    omega
end Ad
end Go.Proofs.YtbcaindpbeaheaaGreatDoor
