/- Texts of one set of library modules: AdX, AdY. -/
import Derived.Test.YtbcaindpbeaheaaGreatDoorZ17
import Derived.Deep.LoopGhost
import Derived.OneCell
namespace Go.Proofs.YtbcaindpbeaheaaGreatDoor
namespace Ad
open Go.RowKit Lx
def SzP (l : List Prm) : Prop := ∀ p ∈ l, p.1.length ≤ 2097152 ∧ p.2.1.length ≤ 2097152
theorem ctl_n (l : List UInt8) (w : World) (hs : l.length ≤ 2097152) :
   Calls Tryz.prog 45 #[.string (Txt l), .func (.func 46) #[] #[]] w (Ret (.bool (hasCtl l)) w) :=
 acontains_any _ _ ctlFn2 (Txt l) w (by rw [txt_size]; omega)
theorem emp_yes (l : List UInt8) (h : l = []) : ((Txt l).toList == ([] : List UInt8)) = true := by rw [Lib.toList_data, h]; rfl
theorem emp_no (l : List UInt8) (h : l ≠ []) : ((Txt l).toList == ([] : List UInt8)) = false := by rw [Lib.toList_data]; exact beq_eq_false_iff_ne.2 h
set_option maxRecDepth 100000 in
set_option maxHeartbeats 1000000 in
theorem isPair_any (cls : Int) (q1 q2 : List UInt8) (q3 : Bool) (w : World) (h1 : q1.length ≤ 2097152) (h2 : q2.length ≤ 2097152) :
   Calls Tryz.prog 168 #[.agg #[.string (Txt q1), .string (Txt q2), .bool q3], .int .i64 cls] w fun e w' => e = .returned (.bool (okP cls (q1, q2, q3))) ∧ Below w.heap.size w w' := by
 have hBl := Lib.hid ((Below.refl w.heap.size w).alloc (Nat.le_refl _) (.cells #[.string (Txt q1), .string (Txt q2), .bool q3] 109))
 obtain ⟨R, hR⟩ : ∃ R, okP cls (q1, q2, q3) = R := ⟨_, rfl⟩
 have hO : (decide (q1 ≠ []) && !hasCtl q1 && !hasCtl q2 && (if cls = 2 then q3 else q3 == decide (q2 ≠ []))) = R := hR
 rw [hR]
 clear hR
 by_cases he : q1 = []
 ·have HR := Lib.hid (by rw [← hO, he]; rfl : R = false)
  have hemp : Txt q1 = ⟨#[]⟩ := by rw [he]; rfl
  rw [hemp] at hBl ⊢
  clear he hO hemp
  go_enter Tryz.func168, Tryz.ntmps168
  go_wp2_with fail
  go_ret
  exact ⟨ret_bool HR.out.symm, hBl.out⟩
 ·have hxl : 1 ≤ (Txt q1).size := by rw [txt_size]; cases q1 with | nil => exact absurd rfl he | cons a b => simp
  have hie := isEmpty_no _ hxl;have hne := toList_ne _ hxl
  cases hc1 : hasCtl q1
  ·cases hc2 : hasCtl q2
   ·have hO2 : (if cls = 2 then q3 else q3 == decide (q2 ≠ [])) = R := by rw [← hO, hc1, hc2, decide_eq_true he]; rfl
    have HC1 := Lib.hid hc1;have HC2 := Lib.hid hc2
    by_cases h2 : cls = 2
    ·have b2 : (cls == 2) = true := by rw [h2]; rfl
     have HR := Lib.hid (by rw [← hO2, if_pos h2] : R = q3)
     clear he hO hO2 hc1 hc2 h2
     go_enter Tryz.func168, Tryz.ntmps168
     go_wp2_with fail
     refine (ctl_n q1 _ h1).mono ?_
     rintro e w' ⟨rfl, rfl⟩
     rw [HC1.out]
     go_wp2_with fail
     refine (ctl_n q2 _ (by assumption)).mono ?_
     rintro e w' ⟨rfl, rfl⟩
     rw [HC2.out]
     go_wp2_with fail
     go_ret
     exact ⟨ret_bool HR.out.symm, hBl.out⟩
    ·have b2 : (cls == 2) = false := beq_eq_false_iff_ne.2 h2
     by_cases he2 : q2 = []
     ·have HR := Lib.hid (by rw [← hO2, if_neg h2, he2]; rfl : R = (q3 == false))
      have hemp : Txt q2 = ⟨#[]⟩ := by rw [he2]; rfl
      have HE2 := Lib.hid hemp;clear he hO hO2 hc1 hc2 h2 he2 hemp
      go_enter Tryz.func168, Tryz.ntmps168
      go_wp2_with fail
      refine (ctl_n q1 _ h1).mono ?_
      rintro e w' ⟨rfl, rfl⟩
      rw [HC1.out]
      go_wp2_with fail
      refine (ctl_n q2 _ (by assumption)).mono ?_
      rintro e w' ⟨rfl, rfl⟩
      rw [HC2.out, HE2.out]
      rw [HE2.out] at hBl
      go_wp2_with fail
      go_ret
      refine ⟨ret_bool ?_, hBl.out⟩
      rw [HR.out]; cases q3 <;> rfl
     ·have hxl2 : 1 ≤ (Txt q2).size := by rw [txt_size]; cases q2 with | nil => exact absurd rfl he2 | cons a b => simp
      have hie2 := isEmpty_no _ hxl2;have hne2 := toList_ne _ hxl2
      have HR := Lib.hid (by rw [← hO2, if_neg h2, decide_eq_true he2] : R = (q3 == true))
      clear he hO hO2 hc1 hc2 h2 he2
      go_enter Tryz.func168, Tryz.ntmps168
      go_wp2_with fail
      refine (ctl_n q1 _ h1).mono ?_
      rintro e w' ⟨rfl, rfl⟩
      rw [HC1.out]
      go_wp2_with fail
      refine (ctl_n q2 _ (by assumption)).mono ?_
      rintro e w' ⟨rfl, rfl⟩
      rw [HC2.out]
      go_wp2_with fail
      go_ret
      refine ⟨ret_bool ?_, hBl.out⟩
      rw [HR.out]; cases q3 <;> rfl
   ·have HR := Lib.hid (by rw [← hO, hc2]; simp : R = false)
    have HC1 := Lib.hid hc1;have HC2 := Lib.hid hc2;clear he hO hc1 hc2
    go_enter Tryz.func168, Tryz.ntmps168
    go_wp2_with fail
    refine (ctl_n q1 _ h1).mono ?_
    rintro e w' ⟨rfl, rfl⟩
    rw [HC1.out]
    go_wp2_with fail
    refine (ctl_n q2 _ (by assumption)).mono ?_
    rintro e w' ⟨rfl, rfl⟩
    rw [HC2.out]
    go_wp2_with fail
    go_ret
    exact ⟨ret_bool HR.out.symm, hBl.out⟩
  ·have HR := Lib.hid (by rw [← hO, hc1]; simp : R = false)
   have HC1 := Lib.hid hc1;clear he hO hc1
   go_enter Tryz.func168, Tryz.ntmps168
   go_wp2_with fail
   refine (ctl_n q1 _ h1).mono ?_
   rintro e w' ⟨rfl, rfl⟩
   rw [HC1.out]
   go_wp2_with fail
   go_ret
   exact ⟨ret_bool HR.out.symm, hBl.out⟩
theorem own_other {w : World} {base g i : Nat} {v u : Value} {l : List Prm} (h : w.ownsRow base 109 3 v l.length (pcl l)) (hg : ∀ k, v.ownBlock = some k → k ≠ g) : (w.setCell ⟨g, i, none⟩ u).ownsRow base 109 3 v l.length (pcl l) :=
 ownsRow_setCell_other h (a := ⟨g, i, none⟩) (fun e => hg g e rfl) u
def NpP (o : Option (List Prm)) (w : World) (e : Ending) (w' : World) : Prop :=
 ∃ v, e = .returned (.tuple #[v, .bool o.isSome]) ∧ PmIn w'.heap.size w' v (srt (o.getD [])) ∧ Kp [] w w'
theorem nmF_bad (cls : Int) (p : Prm) (t acc : List Prm) (h : okP cls (lowL p.1, p.2) = false ∨ room acc (lowL p.1) ≠ 0) : nmF cls (p :: t) acc = none := by
 have hk : okP cls (lowL p.1, p.2) = okP cls p := okP_low cls p
 rw [nmF]
 rw [if_neg]
 rcases h with h | h
 ·rw [← hk, h]; simp
 ·simp [h]
theorem nmF_step (cls : Int) (p : Prm) (t acc : List Prm) (h : okP cls (lowL p.1, p.2) = true) (h2 : room acc (lowL p.1) = 0) : nmF cls (p :: t) acc = nmF cls t (acc ++ [(lowL p.1, p.2)]) := by
 have hk : okP cls (lowL p.1, p.2) = okP cls p := okP_low cls p
 rw [nmF, if_pos]
 rw [← hk, h, h2]; rfl
theorem drop_cons (l : List Prm) (j : Nat) (h : j < l.length) : l.drop j = l[j]! :: l.drop (j + 1) := by
 rw [List.drop_eq_getElem_cons h, getElem!_pos l j h]
set_option maxRecDepth 100000 in
set_option maxHeartbeats 4000000 in
theorem normalPairs_any (cls : Int) (B : Nat) (v : Value) (l : List Prm) (w : World) (hP : PmIn B w v l) (hB : B ≤ w.heap.size) (hl : l.length ≤ 2097152) (hz : SzP l) :
   Calls Tryz.prog 132 #[v, .int .i64 cls] w (NpP (nmF cls l []) w) := by
 obtain ⟨A, cA, rfl⟩ := hP.form
 obtain ⟨R, hR⟩ : ∃ R, nmF cls l [] = R := ⟨_, rfl⟩
 have HR := Lib.hid hR;have HP := Lib.hid hP;have HZ := Lib.hid hz
 rw [hR]
 obtain ⟨i0, hi, hz0, hz1, hz2⟩ := info_parts infoPrm3
 clear hR hP hz
 go_enter Tryz.func132, Tryz.ntmps132
 go_wp2_with fail
 go_loopg [6, 8, 11] (l.length + 1) (fun gg v _ i wr => ∃ (j : Nat) (acc : List Prm), j ≤ l.length ∧ l.length - j < gg ∧ i = .int .i64 j ∧ nmF cls (l.drop j) acc = R ∧ wr.ownsRow w.heap.size 109 3 v acc.length (pcl acc) ∧ Names acc ∧ acc.length ≤ 16 ∧ Kp [] w wr)
 case atStart => exact ⟨0, [], by omega, by omega, rfl, HR.out, World.ownsRow_nil _ _ _ _, List.nodup_nil, by simp, Kp.refl _ _⟩
 case round =>
  obtain ⟨j, acc, hj, hg, rfl, hr, hown, hnm, ha, hK⟩ := hrel
  have Ho := Lib.hid hown;have HNm := Lib.hid hnm;have hsz := hK.size
  have HPr := Lib.hid (HP.out.kp hK hB (by simp))
  clear hown hnm
  by_cases hlt : j < l.length
  ·rw [drop_cons l j hlt] at hr
   obtain ⟨q1, q2, q3, hq⟩ : ∃ a b c, l[j]! = (a, b, c) := ⟨_, _, _, rfl⟩
   have hm : (q1, q2, q3) ∈ l := by rw [← hq, getElem!_pos l j hlt]; exact List.getElem_mem hlt
   obtain ⟨hz1', hz2'⟩ := HZ.out _ hm
   dsimp only at hz1' hz2'
   rw [hq] at hr
   have Hr := Lib.hid hr
   have hsome : l[j]? = some (q1, q2, q3) := by rw [← hq]; exact getD_some l j hlt
   obtain ⟨_, c, rfl, hc, ⟨h0, hv⟩ | ⟨bl, o, hv, hbl, hcell⟩⟩ := HPr.out
   ·omega
   ·injection hv with hA _ hc2
    subst hA
    have c0 : wr.cell? ⟨bl, o + j * 3, none⟩ = some (.string (Txt q1)) := hcell _ _ (pcl_at l j _ hsome 0 _ rfl)
    have c1 : wr.cell? ⟨bl, o + j * 3 + 1, none⟩ = some (.string (Txt q2)) := by rw [Nat.add_assoc]; exact hcell _ _ (pcl_at l j _ hsome 1 _ rfl)
    have c2 : wr.cell? ⟨bl, o + j * 3 + 2, none⟩ = some (.bool q3) := by rw [Nat.add_assoc]; exact hcell _ _ (pcl_at l j _ hsome 2 _ rfl)
    clear hcell hc hc2 hr hq hm hsome
    have KA := Lib.hid (hK.alloc (.cells #[.string (Txt q1), .string (Txt q2), .bool q3] 109))
    have BA := Lib.hid (Blk.new wr 109 #[.string (Txt q1), .string (Txt q2), .bool q3])
    go_wp2_with fail
    refine (lower_n (Txt q1) _ (by rw [txt_size]; exact hz1')).mono ?_
    rintro e w3 ⟨rfl, hB3⟩
    rw [txt_list]
    have hs3a := hB3.size
    have hs3 : wr.heap.size + 1 ≤ w3.heap.size := by simpa using hs3a
    have B3 := Lib.hid (BA.out.below hB3 (by simp))
    have O3 := Lib.hid (own_kp (own_kp Ho.out ((Kp.refl [] wr).alloc (.cells #[.string (Txt q1), .string (Txt q2), .bool q3] 109)) (by simp)) ((Kp.refl [] _).below hB3) (by simp))
    have K3 := KA.out.below hB3;have f0 := B3.out.frozen 0
    have e0 : w3.cell? ⟨wr.heap.size, 0, none⟩ = some (.string (Txt q1)) := B3.out.cell 0
    have B4 := Lib.hid (B3.out.set_ 0 (.string ⟨(lowL q1).toArray⟩))
    have O4 := Lib.hid (own_other (i := 0) (u := .string ⟨(lowL q1).toArray⟩) O3.out (g := wr.heap.size) (fun k hk => by have := (Ho.out.lt k hk).2; omega))
    have K4 := Lib.hid (K3.setCell (p := ⟨wr.heap.size, 0, none⟩) (.inr hsz) (.string ⟨(lowL q1).toArray⟩))
    have hs4 := K4.out.size
    have d0 : (w3.setCell ⟨wr.heap.size, 0, none⟩ (.string ⟨(lowL q1).toArray⟩)).cell? ⟨wr.heap.size, 0, none⟩ = some (.string ⟨(lowL q1).toArray⟩) := B4.out.cell 0
    have d1 : (w3.setCell ⟨wr.heap.size, 0, none⟩ (.string ⟨(lowL q1).toArray⟩)).cell? ⟨wr.heap.size, 1, none⟩ = some (.string (Txt q2)) := B4.out.cell 1
    have d2 : (w3.setCell ⟨wr.heap.size, 0, none⟩ (.string ⟨(lowL q1).toArray⟩)).cell? ⟨wr.heap.size, 2, none⟩ = some (.bool q3) := B4.out.cell 2
    have hll : (lowL q1).length ≤ 2097152 := by rw [lowL_len]; exact hz1'
    clear c0 c1 c2 K3 hB3
    cases hok : okP cls (lowL q1, q2, q3)
    ·have HX := Lib.hid (Hr.out.symm.trans (nmF_bad cls (q1, q2, q3) _ acc (.inl hok)))
     have HOK := Lib.hid hok;clear hok
     go_wp2_with fail
     refine (isPair_any cls (lowL q1) q2 q3 _ hll hz2').mono ?_
     rintro e w5 ⟨rfl, hB5⟩
     rw [HOK.out]
     have K5 := Lib.hid (K4.out.below hB5)
     go_wp2_with fail
     go_ret2
     rw [HX.out]
     exact ⟨_, rfl, PmIn.nil _ _, K5.out⟩
    ·have HOK := Lib.hid hok
     clear hok
     by_cases hr0 : room acc (lowL q1) = 0
     ·have hri := (room_iff acc (lowL q1)).1 hr0
      have HNm2 := Lib.hid (names_snoc acc (lowL q1, q2, q3) HNm.out hri.1)
      have hl16 : acc.length ≤ 15 := by have := hri.2; omega
      have HX := Lib.hid (Hr.out.symm.trans (nmF_step cls (q1, q2, q3) _ acc HOK.out hr0))
      have HR0 := Lib.hid hr0;clear hr0 hri
      go_wp2_with fail
      refine (isPair_any cls (lowL q1) q2 q3 _ hll hz2').mono ?_
      rintro e w5 ⟨rfl, hB5⟩
      rw [HOK.out]
      have K5 := K4.out.below hB5;have hs5 := hB5.size
      have hs4a : (w3.setCell ⟨wr.heap.size, 0, none⟩ (.string ⟨(lowL q1).toArray⟩)).heap.size = w3.heap.size := by simp [World.setCell]
      have O5 := Lib.hid (own_kp O4.out ((Kp.refl [] _).below hB5) (by simp))
      have B5 := Lib.hid (B4.out.below hB5 (by rw [hs4a]; omega))
      have hw5 : wr.heap.size < w5.heap.size := by have := hs5; rw [hs4a] at this; omega
      clear d0 d1 d2
      have d0 : w5.cell? ⟨wr.heap.size, 0, none⟩ = some (.string ⟨(lowL q1).toArray⟩) := B5.out.cell 0
      have d1 : w5.cell? ⟨wr.heap.size, 1, none⟩ = some (.string (Txt q2)) := B5.out.cell 1
      have d2 : w5.cell? ⟨wr.heap.size, 2, none⟩ = some (.bool q3) := B5.out.cell 2
      clear hs4a
      go_wp2_with fail
      refine (mayJoin_any _ _ acc (lowL q1, q2, q3) _ (own_pm O5.out) (Nat.le_refl _) (by omega)).mono ?_
      rintro e w6 ⟨rfl, hB6⟩
      rw [HR0.out]
      have K6 := K5.below hB6
      have O6 := Lib.hid (own_kp O5.out ((Kp.refl [] _).below hB6) (by simp))
      have hsz6 := K6.size
      have B6 := Lib.hid (B5.out.below hB6 (by omega))
      clear d0 d1 d2
      have d0 : w6.cell? ⟨wr.heap.size, 0, none⟩ = some (.string ⟨(lowL q1).toArray⟩) := B6.out.cell 0
      have d1 : w6.cell? ⟨wr.heap.size, 1, none⟩ = some (.string (Txt q2)) := B6.out.cell 1
      have d2 : w6.cell? ⟨wr.heap.size, 2, none⟩ = some (.bool q3) := B6.out.cell 2
      go_wp2_with (at_builtin; refine wpList_append_own _ rfl _ _ 36 rfl w.heap.size 109 i0 (.agg #[.string .empty, .string .empty, .bool false]) 3 40 Tryz.underlying36 hi hz0 hz1 hz2 rfl (by decide) _ _ _ rfl (O6.out.alloc _) ⟨w6.heap.size, 0, none⟩ 1 1 [.string ⟨(lowL q1).toArray⟩, .string (Txt q2), .bool q3] rfl rfl (cell_three_new _ _ _ _ _) (by simp [Value.oneCell']) ?c3 ?c4 ?c5 ?_)
      case c3 => unfold maxLen; omega
      case c4 => omega
      case c5 => simp; omega
      intro v' w7 hown' hgrow _
      have K7 := Lib.hid ((K6.alloc (.cells #[.string ⟨(lowL q1).toArray⟩, .string (Txt q2), .bool q3] 109)).grown hgrow (fun g hg => .inr (O6.out.lt g hg).1))
      have HO7 := Lib.hid (by simpa [pcl, pc1, Txt] using hown' : w7.ownsRow w.heap.size 109 3 v' (acc ++ [(lowL q1, q2, q3)]).length (pcl (acc ++ [(lowL q1, q2, q3)])))
      clear hown' hgrow d0 d1 d2
      go_wp2_with fail
      go_roundg (l.length - j)
      case measure => omega
      case rel => exact ⟨j + 1, acc ++ [(lowL q1, q2, q3)], by omega, by omega, by go_num, HX.out.symm, HO7.out, HNm2.out, by simp; omega, K7.out⟩
     ·have br : (room acc (lowL q1) != 0) = true := by rw [bne_iff_ne]; exact hr0
      have HX := Lib.hid (Hr.out.symm.trans (nmF_bad cls (q1, q2, q3) _ acc (.inr hr0)))
      have HBr := Lib.hid br;clear hr0 br
      go_wp2_with fail
      refine (isPair_any cls (lowL q1) q2 q3 _ hll hz2').mono ?_
      rintro e w5 ⟨rfl, hB5⟩
      rw [HOK.out]
      have K5 := K4.out.below hB5;have hs5 := hB5.size
      have hs4a : (w3.setCell ⟨wr.heap.size, 0, none⟩ (.string ⟨(lowL q1).toArray⟩)).heap.size = w3.heap.size := by simp [World.setCell]
      have O5 := Lib.hid (own_kp O4.out ((Kp.refl [] _).below hB5) (by simp))
      have B5 := Lib.hid (B4.out.below hB5 (by rw [hs4a]; omega))
      have hw5 : wr.heap.size < w5.heap.size := by have := hs5; rw [hs4a] at this; omega
      clear d0 d1 d2 hs4a
      have d0 : w5.cell? ⟨wr.heap.size, 0, none⟩ = some (.string ⟨(lowL q1).toArray⟩) := B5.out.cell 0
      have d1 : w5.cell? ⟨wr.heap.size, 1, none⟩ = some (.string (Txt q2)) := B5.out.cell 1
      have d2 : w5.cell? ⟨wr.heap.size, 2, none⟩ = some (.bool q3) := B5.out.cell 2
      go_wp2_with fail
      refine (mayJoin_any _ _ acc (lowL q1, q2, q3) _ (own_pm O5.out) (Nat.le_refl _) (by omega)).mono ?_
      rintro e w6 ⟨rfl, hB6⟩
      have br := HBr.out;have K6 := Lib.hid (K5.below hB6)
      go_wp2_with fail
      go_ret2
      rw [HX.out]
      exact ⟨_, rfl, PmIn.nil _ _, K6.out⟩
  ·have hjl : l.drop j = [] := List.drop_eq_nil_of_le (by omega)
   rw [hjl] at hr
   have HX := Lib.hid (by rw [← hr]; rfl : R = some acc)
   clear hr hjl
   go_wp2_with fail
   refine (sorted_any wr.heap.size _ acc _ (own_pm Ho.out) (Nat.le_refl _) (by omega)).mono ?_
   rintro e w4 ⟨v', l', rfl, hPm, hPe, hSo, hK4⟩
   have hl' := srt_of l' acc hPe hSo HNm.out
   subst hl'
   obtain ⟨A4, cA4, rfl⟩ := hPm.form
   have HP4 := Lib.hid hPm;have HK4 := Lib.hid (hK.trans hK4);clear hPm hPe hSo hK4
   go_wp2_with fail
   go_ret2
   rw [HX.out]
   exact ⟨_, rfl, HP4.out, HK4.out⟩
theorem dec_beq (a b : List UInt8) : decide (a = b) = (a == b) := by
 by_cases h : a = b
 ·simp [h]
 ·rw [decide_eq_false h, beq_eq_false_iff_ne.2 h]
set_option maxRecDepth 100000 in
set_option maxHeartbeats 1000000 in
theorem isNumber_any (l : List UInt8) (w : World) (hl : l.length ≤ 2097152) :
   Calls Tryz.prog 133 #[.string (Txt l)] w fun e w' => e = .returned (.bool (isNum l)) ∧ Below w.heap.size w w' := by
 have hb1 : w.heap.size + 1 ≠ w.heap.size := by omega
 have KA := Lib.hid ((Kp.refl [] w).alloc (.cells #[.string ⟨#[]⟩, .string ⟨#[]⟩, .string ⟨#[]⟩, .int .i64 0, .slice none 0 0, .slice none 0 0] 54))
 have UA : Urb (w.alloc (.cells #[.string ⟨#[]⟩, .string ⟨#[]⟩, .string ⟨#[]⟩, .int .i64 0, .slice none 0 0, .slice none 0 0] 54)) w.heap.size (.string ⟨#[]⟩) (.string (Txt [])) (.string ⟨#[]⟩) (.int .i64 0) (.slice none 0 0) (.slice none 0 0) := Blk.new w 54 _
 have hsA : (w.alloc (.cells #[.string ⟨#[]⟩, .string ⟨#[]⟩, .string ⟨#[]⟩, .int .i64 0, .slice none 0 0, .slice none 0 0] 54)).heap.size = w.heap.size + 1 := by simp
 have CB0 := curNew (w.alloc (.cells #[.string ⟨#[]⟩, .string ⟨#[]⟩, .string ⟨#[]⟩, .int .i64 0, .slice none 0 0, .slice none 0 0] 54)) (Txt l)
 rw [hsA] at CB0
 have CB := Lib.hid CB0
 have KB := Lib.hid (KA.out.alloc (.cells #[.string (Txt l), .int .i64 0] 158))
 have UB := Lib.hid (Blk.alloc UA (.cells #[.string (Txt l), .int .i64 0] 158))
 obtain ⟨r1, r2, x, hr⟩ : ∃ a b c, telR l 0 = (a, b, c) := ⟨_, _, _, rfl⟩
 have HI := Lib.hid (by unfold isNum; rw [hr] : isNum l = (decide (x = 0) && decide (r1 = l)))
 have HR := Lib.hid hr;clear hr CB0 UA hsA
 go_enter Tryz.func133, Tryz.ntmps133
 go_wp2_with fail
 refine (number_k (w.heap.size + 1) w.heap.size 0 (Txt l) _ _ _ _ _ _ (by rw [txt_size]; exact hl) (Nat.zero_le _) CB.out UB.out hb1).mono ?_
 rintro e w1 ⟨rfl, C1, hK, U, hU, hx⟩
 rw [txt_list, HR.out] at hx ⊢
 dsimp only at hx ⊢
 have HB := Lib.hid (KB.out.to_ hK (by intro y hy; simp at hy; rcases hy with rfl | rfl; right; omega; right; omega))
 have u1 := hU.cell 1;have Hx := Lib.hid hx;clear C1 hK hU hx
 by_cases hx0 : x = 0
 ·subst hx0
  have hUr := Hx.out (by trivial)
  have HF := Lib.hid (by rw [HI.out, str_beq, hUr, decide_eq_true rfl, Bool.true_and]; exact dec_beq _ _ : isNum l = ((Txt U).toList == (Txt l).toList))
  clear hUr
  go_wp2_with fail
  go_ret
  exact ⟨ret_bool HF.out.symm, HB.out.nilBelow⟩
 ·have bx : (x == 0) = false := beq_eq_false_iff_ne.2 hx0
  have HF := Lib.hid (by rw [HI.out, decide_eq_false hx0]; rfl : isNum l = false)
  clear hx0
  go_wp2_with fail
  go_ret
  exact ⟨ret_bool HF.out.symm, HB.out.nilBelow⟩
end Ad
end Go.Proofs.YtbcaindpbeaheaaGreatDoor
namespace Go.Proofs.YtbcaindpbeaheaaGreatDoor
namespace Ad
open Go.RowKit Lx
structure SzU (u : Uri) : Prop where
 scheme : u.scheme.length ≤ 2097152
 user : u.user.length ≤ 2097152
 host : u.host.length ≤ 2097152
 params : u.params.length ≤ 2097152
 heads : u.heads.length ≤ 2097152
 ps : SzP u.params
 hs : SzP u.heads
theorem ret_v {a b : Bool} (h : a = b) : Value.bool a = .bool b := by rw [h]
def NoP (o : Option Uri) (w : World) (e : Ending) (w' : World) : Prop :=
 ∃ v, e = .returned (.tuple #[v, .int .u8 (if o.isSome then 0 else 2)]) ∧ UriIn w'.heap.size w' v (o.getD nilU) ∧ Below w.heap.size w w'
theorem no_fin (g : Nat) (w wx : World) (u : Uri) (S U H : ByteArray) (P : Int) (a1 : Option Addr) (n1 c1 : Nat) (a2 : Option Addr) (n2 c2 : Nat) (hu : UriIn wx.heap.size wx (.agg #[.string S, .string U, .string H, .int .i64 P, .slice a1 n1 c1, .slice a2 n2 c2]) u) (K : Kp [] w wx) (hg : w.heap.size ≤ g) (Z : Zub wx g) :
   NoP (some u) w (.returned (.tuple #[.agg #[.string S, .string U, .string H, .int .i64 P, .slice a1 n1 c1, .slice a2 n2 c2], .int .u8 0])) ((((((wx.setCell ⟨g, 0, none⟩ (.string S)).setCell ⟨g, 1, none⟩ (.string U)).setCell ⟨g, 2, none⟩ (.string H)).setCell ⟨g, 3, none⟩ (.int .i64 P)).setCell ⟨g, 4, none⟩ (.slice a1 n1 c1)).setCell ⟨g, 5, none⟩ (.slice a2 n2 c2)) := by
 refine ⟨_, rfl, ?_, (kp6 K (.inr hg) _ _ _ _ _ _).nilBelow⟩
 obtain ⟨vp, vh, he2, h1, h2⟩ := hu
 have hk := kp6 (Kp.refl [g] wx) (g := g) (.inl (by simp)) (.string S) (.string U) (.string H) (.int .i64 P) (.slice a1 n1 c1) (.slice a2 n2 c2)
 have hn : ∀ y ∈ [g], NoB wx y := by intro y hy; rw [List.mem_singleton.1 hy]; exact Z.nob
 exact ⟨vp, vh, he2, h1.grow hk hn, h2.grow hk hn⟩
abbrev zU : Array Value := #[.string ⟨#[]⟩, .string ⟨#[]⟩, .string ⟨#[]⟩, .int .i64 0, .slice none 0 0, .slice none 0 0]
theorem nmF_len (cls : Int) : ∀ (l acc r : List Prm), nmF cls l acc = some r → r.length = acc.length + l.length := by
 intro l
 induction l with
 | nil => intro acc r h; rw [nmF] at h; injection h with h; subst h; simp
 | cons p t ih =>
   intro acc r h
   rw [nmF] at h
   split at h
   ·have := ih _ _ h
    simp at this ⊢; omega
   ·cases h
def ok5 (oh : Option (List UInt8)) (U : List UInt8) (P : Int) : Bool := oh.isSome && (decide (0 ≤ P) && (decide (P ≤ 65535) && !hasCtl U))
def ok7 (S U H : List UInt8) (P : Int) (n : Nat) (o5 : Bool) : Bool := if lowL S = telL then isNum U && (H == [] && (P == 0 && decide (n = 0))) else o5
theorem normal_eq (S U H : List UInt8) (P : Int) (ps hs : List Prm) (oh : Option (List UInt8)) (hoh : hostO H = oh) (op oH : Option (List Prm)) (hop : nmF 1 ps [] = op) (hoH : nmF 2 hs [] = oH) :
   normal ⟨S, U, H, P, ps, hs⟩ = if (ok7 S U H P (srt (oH.getD [])).length (ok5 oh U P) && (op.isSome && (oH.isSome && knB (lowL S)))) = true then some ⟨lowL S, U, oh.getD [], P, srt (op.getD []), srt (oH.getD [])⟩ else none := by
 obtain ⟨X, hX⟩ : ∃ X, (ok7 S U H P (srt (oH.getD [])).length (ok5 oh U P) && (op.isSome && (oH.isSome && knB (lowL S)))) = X := ⟨_, rfl⟩
 rw [hX]
 unfold normal
 rw [hop]
 dsimp only
 rw [hoH, hoh]
 cases op with
 | none => rw [if_neg]; rw [← hX]; simp
 | some p =>
   cases oH with
   | none => rw [if_neg]; rw [← hX]; simp
   | some q =>
     have hql := nmF_len 2 hs [] q hoH
     have hsl : (srt q).length = q.length := (srt_perm q).length_eq
     have hX2 : (ok7 S U H P q.length (ok5 oh U P) && knB (lowL S)) = X := by rw [← hX, ← hsl]; rfl
     clear hX
     by_cases ht : lowL S = telL
     ·have h1 : ¬ (lowL S = sipL ∨ lowL S = sipsL) := by rw [ht]; decide
      have hk : knB (lowL S) = true := by rw [ht]; decide
      rw [hk, Bool.and_true] at hX2
      unfold ok7 at hX2
      rw [if_pos ht] at hX2
      dsimp only
      rw [if_neg h1, if_pos ht]
      by_cases hc : isNum U = true ∧ H = [] ∧ P = 0 ∧ hs = []
      ·rw [if_pos hc]
       obtain ⟨c1, c2, c3, c4⟩ := hc
       subst c2 c3 c4
       have hq0 : q = [] := List.eq_nil_of_length_eq_zero (by simpa using hql)
       subst hq0
       have ho0 : oh = none := by rw [← hoh]; decide +kernel
       subst ho0
       rw [if_pos (by rw [← hX2, c1]; rfl), ht]
       rfl
      ·rw [if_neg hc, if_neg]
       intro h
       apply hc
       rw [← hX2] at h
       simp only [Bool.and_eq_true, beq_iff_eq, decide_eq_true_eq] at h
       obtain ⟨c1, c2, c3, c4⟩ := h
       exact ⟨c1, c2, c3, List.eq_nil_of_length_eq_zero (by rw [hql] at c4; simpa using c4)⟩
     ·have h7 : ok7 S U H P q.length (ok5 oh U P) = ok5 oh U P := by unfold ok7; rw [if_neg ht]
      rw [h7] at hX2
      dsimp only
      by_cases h1 : lowL S = sipL ∨ lowL S = sipsL
      ·have hk : knB (lowL S) = true := by
         unfold knB
         rcases h1 with h | h <;> rw [h] <;> decide
       rw [hk, Bool.and_true] at hX2
       rw [if_pos h1]
       cases oh with
       | none => rw [if_neg]; rw [← hX2]; simp [ok5]
       | some h =>
         by_cases hc : 0 ≤ P ∧ P ≤ 65535 ∧ hasCtl U = false
         ·dsimp only
          rw [if_pos hc, if_pos (by rw [← hX2]; obtain ⟨c1, c2, c3⟩ := hc; simp [ok5, c1, c2, c3])]
          rfl
         ·dsimp only
          rw [if_neg hc, if_neg]
          intro h9
          apply hc
          rw [← hX2] at h9
          simpa [ok5] using h9
      ·have hk : knB (lowL S) = false := by
         unfold knB
         simp only [Bool.or_eq_false_iff, beq_eq_false_iff_ne]
         exact ⟨fun h => h1 (.inl h), fun h => h1 (.inr h), ht⟩
       rw [hk, Bool.and_false] at hX2
       rw [if_neg h1, if_neg ht, if_neg (by rw [← hX2]; decide)]
set_option maxRecDepth 100000 in
set_option maxHeartbeats 4000000 in
theorem Normal_any (B : Nat) (v : Value) (u : Uri) (w : World) (hU : UriIn B w v u) (hB : B ≤ w.heap.size) (hz : SzU u) (E : Env w) :
   Calls Tryz.prog 77 #[v] w (NoP (normal u) w) := by
 obtain ⟨vp, vh, rfl, hp, hh⟩ := hU
 obtain ⟨a1, c1, rfl⟩ := hp.form
 obtain ⟨a2, c2, rfl⟩ := hh.form
 obtain ⟨S, U, H, P, ps, hs⟩ := u
 dsimp only at *
 have hzS := hz.scheme;have hzU := hz.user;have hzH := hz.host;have hzp := hz.params;have hzh := hz.heads
 dsimp only at hzS hzU hzH hzp hzh
 have KA := Lib.hid ((Kp.refl [] w).alloc (.cells #[.string (Txt S), .string (Txt U), .string (Txt H), .int .i64 P, .slice a1 ps.length c1, .slice a2 hs.length c2] 54))
 have BA0 := Blk.new w 54 #[.string (Txt S), .string (Txt U), .string (Txt H), .int .i64 P, .slice a1 ps.length c1, .slice a2 hs.length c2]
 have hsA : (w.alloc (.cells #[.string (Txt S), .string (Txt U), .string (Txt H), .int .i64 P, .slice a1 ps.length c1, .slice a2 hs.length c2] 54)).heap.size = w.heap.size + 1 := by simp
 have BB := Lib.hid (BA0.alloc (.cells zU 54))
 have ZB0 := Blk.new (w.alloc (.cells #[.string (Txt S), .string (Txt U), .string (Txt H), .int .i64 P, .slice a1 ps.length c1, .slice a2 hs.length c2] 54)) 54 zU
 rw [hsA] at ZB0
 have ZB := Lib.hid ZB0;have KB := Lib.hid (KA.out.alloc (.cells zU 54))
 have HP := Lib.hid (hp.kp KB.out hB (by simp))
 have HH := Lib.hid (hh.kp KB.out hB (by simp))
 have EB := Lib.hid (E.kp KB.out (by simp))
 have HZ := Lib.hid hz
 obtain ⟨oh, hoh⟩ : ∃ o, hostO H = o := ⟨_, rfl⟩
 have HO := Lib.hid hoh
 have b2 : ((w.alloc (.cells #[.string (Txt S), .string (Txt U), .string (Txt H), .int .i64 P, .slice a1 ps.length c1, .slice a2 hs.length c2] 54)).alloc (.cells zU 54)).cell? ⟨w.heap.size, 2, none⟩ = some (.string (Txt H)) := BB.out.cell 2
 have hzH' : (Txt H).size ≤ 2097152 := by rw [txt_size]; exact hzH
 have hzS' : (Txt S).size ≤ 2097152 := by rw [txt_size]; exact hzS
 clear hp hh BA0 ZB0 hsA hz hoh E
 go_enter Tryz.func77, Tryz.ntmps77
 go_wp2_with fail
 refine (Host_any (Txt H) _ hzH' EB.out).mono ?_
 rintro e w2 ⟨rfl, hB2⟩
 rw [txt_list, HO.out]
 have hs2a := hB2.size
 have hs2 : w.heap.size + 2 ≤ w2.heap.size := by simpa using hs2a
 have hK2 := (Kp.refl [] ((w.alloc (.cells #[.string (Txt S), .string (Txt U), .string (Txt H), .int .i64 P, .slice a1 ps.length c1, .slice a2 hs.length c2] 54)).alloc (.cells zU 54))).below hB2
 have B2 := Lib.hid (BB.out.kp hK2 (by simp))
 have Z2 := Lib.hid (ZB.out.kp hK2 (by simp))
 have P2 := Lib.hid (HP.out.kp hK2 (by simp; omega) (by simp))
 have H2 := Lib.hid (HH.out.kp hK2 (by simp; omega) (by simp))
 have K2 := Lib.hid (KB.out.trans hK2)
 have E2 := Lib.hid (EB.out.kp hK2 (by simp))
 clear hB2 hK2 hs2a b2;have b0 := B2.out.cell 0;have b1 := B2.out.cell 1;have b3 := B2.out.cell 3
 have hne2 : ¬ w2.heap.size = w.heap.size := by omega
 go_upto_region 2 with fail
 go_cut [6] from 18 to 27 (fun p wx => ∃ N, p = .pointer (some ⟨N, 0, none⟩) ∧ w2.heap.size ≤ N ∧ Blk wx N 54 #[.string ⟨(lowL S).toArray⟩, .string (Txt U), .string (Txt (oh.getD [])), .int .i64 P, .slice none 0 0, .slice none 0 0] ∧ Kp [] w2 wx)
 case first =>
  go_region_held3 (fun w' => w'.cell? ⟨w.heap.size, 0, none⟩ = some (.string (Txt S)) ∧ w'.cell? ⟨w.heap.size, 1, none⟩ = some (.string (Txt U)) ∧ w'.cell? ⟨w.heap.size, 3, none⟩ = some (.int .i64 P)) (go_keep)
   ((first
     | (go_at_call 91; refine (lower_n (Txt S) _ hzS').mono ?_; rintro e w3 ⟨rfl, hB3⟩; have B3 := Blk.below (Blk.drew (Blk.alloc B2.out (.cells zU 54))) hB3 (by show w.heap.size < (w2.alloc _).heap.size; simp; omega); have N3 := Blk.below (Blk.drew (Blk.new w2 54 zU)) hB3 (by show w2.heap.size < (w2.alloc _).heap.size; simp);
        have d0 := B3.cell 0; have d1 := B3.cell 1; have d3 := B3.cell 3; have n0 := N3.cell 0; have n1 := N3.cell 1; have n2 := N3.cell 2; have n3 := N3.cell 3; have n4 := N3.cell 4; have n5 := N3.cell 5; have m0 := N3.frozen 0; have m1 := N3.frozen 1; have m2 := N3.frozen 2; have m3 := N3.frozen 3; have m4 := N3.frozen 4; have m5 := N3.frozen 5)
     | (go_at_call 91; refine (lower_n (Txt S) _ hzS').mono ?_; rintro e w3 ⟨rfl, hB3⟩; have B3 := Blk.below (Blk.drew B2.out) hB3 (by show w.heap.size < w2.heap.size; omega); have hne3 : ¬ w3.heap.size = w.heap.size := (by have h9 : w2.heap.size ≤ w3.heap.size := hB3.size; omega);
        have d0 := B3.cell 0; have d1 := B3.cell 1; have d3 := B3.cell 3)))
  all_goals (go_wp2_with fail; go_meet)
  all_goals first
   | exact ⟨w3.heap.size, rfl, hB3.size, Blk.new w3 _ _, ((Kp.drew (Kp.refl [] w2)).below hB3).alloc _⟩
   | exact ⟨w2.heap.size, rfl, Nat.le_refl _, blk6 N3 _ _ _ _ _ _, kp6 ((Kp.drew ((Kp.refl [] w2).alloc _)).below hB3) (.inr (Nat.le_refl _)) _ _ _ _ _ _⟩
 case rest =>
  obtain ⟨N, rfl, hN, BN, hK3⟩ := hcut
  obtain ⟨w3, hw3⟩ : ∃ w3, wc = w3 := ⟨_, rfl⟩
  subst hw3
  have hneN : w.heap.size ≠ N := by omega
  have hneZ : w.heap.size + 1 ≠ N := by omega
  have B3 := Lib.hid (B2.out.kp hK3 (by simp))
  have Z3 := Lib.hid (Z2.out.kp hK3 (by simp))
  have N3 := Lib.hid BN
  have P3 := Lib.hid (P2.out.kp hK3 (by omega) (by simp))
  have H3 := Lib.hid (H2.out.kp hK3 (by omega) (by simp))
  have K3 := Lib.hid (K2.out.trans hK3);have hs3 := hK3.size;have hNlt := BN.lt;clear hK3 BN b0 b1 b3
  have b4 : wc.cell? ⟨w.heap.size, 4, none⟩ = some (.slice a1 ps.length c1) := B3.out.cell 4
  obtain ⟨op, hop⟩ : ∃ o, nmF 1 ps [] = o := ⟨_, rfl⟩
  obtain ⟨oH, hoH⟩ : ∃ o, nmF 2 hs [] = o := ⟨_, rfl⟩
  have hV := normal_eq S U H P ps hs oh HO.out op oH hop hoH;have HOP := Lib.hid hop;have HOH := Lib.hid hoH
  have hnil1 : op = none → srt (op.getD []) = [] := by rintro rfl; rfl
  clear hop hoH hnil1;have HV := Lib.hid hV;clear hV
  go_wp2_with fail
  refine (normalPairs_any 1 B _ ps _ P3.out (by omega) hzp HZ.out.ps).mono ?_
  rintro e w4 ⟨v4, rfl, hP4, hK4⟩
  rw [HOP.out] at hP4 ⊢
  obtain ⟨A4, c4, rfl⟩ := hP4.form
  obtain ⟨p4, hp4⟩ : ∃ x, srt (op.getD []) = x := ⟨_, rfl⟩
  rw [hp4] at hP4 ⊢
  have HP4 := Lib.hid hP4;have Hp4 := Lib.hid hp4
  have B4 := Lib.hid (B3.out.kp hK4 (by simp))
  have Z4 := Lib.hid (Z3.out.kp hK4 (by simp))
  have N4 := Lib.hid (N3.out.kp hK4 (by simp))
  have H4 := Lib.hid (H3.out.kp hK4 (by omega) (by simp))
  have K4 := Lib.hid (K3.out.trans hK4);have hs4 := hK4.size;clear hK4 hP4 hp4 b4
  have b5 : w4.cell? ⟨w.heap.size, 5, none⟩ = some (.slice a2 hs.length c2) := B4.out.cell 5
  go_wp2_with fail
  refine (normalPairs_any 2 B _ hs _ H4.out (by omega) hzh HZ.out.hs).mono ?_
  rintro e w5 ⟨v5, rfl, hP5, hK5⟩
  rw [HOH.out] at hP5 ⊢
  obtain ⟨A5, c5, rfl⟩ := hP5.form
  obtain ⟨p5, hp5⟩ : ∃ x, srt (oH.getD []) = x := ⟨_, rfl⟩
  rw [hp5] at hP5 ⊢
  have HP5 := Lib.hid hP5
  have HQ4 := Lib.hid (HP4.out.grow hK5 (by intro y hy; cases hy))
  have Hp5 := Lib.hid hp5
  have B5 := Lib.hid (B4.out.kp hK5 (by simp))
  have Z5 := Lib.hid (Z4.out.kp hK5 (by simp))
  have N5 := Lib.hid (N4.out.kp hK5 (by simp))
  have K5 := Lib.hid (K4.out.trans hK5);have hs5 := hK5.size;clear hK5 hP5 hp5 b5
  have b3 : w5.cell? ⟨w.heap.size, 3, none⟩ = some (.int .i64 P) := B5.out.cell 3
  have b1 : w5.cell? ⟨w.heap.size, 1, none⟩ = some (.string (Txt U)) := B5.out.cell 1
  have b2 : w5.cell? ⟨w.heap.size, 2, none⟩ = some (.string (Txt H)) := B5.out.cell 2
  have n0 : w5.cell? ⟨N, 0, none⟩ = some (.string (Txt (lowL S))) := N5.out.cell 0
  go_upto_region 5 with fail
  go_cut [11] from 39 to 56 (fun o wx => o = .bool (ok5 oh U P) ∧ wx = w5)
  case first =>
   cases oh with
   | none =>
     go_wp2_with fail
     go_meet
     exact ⟨rfl, rfl⟩
   | some h =>
     by_cases hp0 : 0 ≤ P
     ·by_cases hp1 : P ≤ 65535
      ·cases hc : hasCtl U
       ·have HF := Lib.hid (by unfold ok5; rw [hc, decide_eq_true hp0, decide_eq_true hp1]; rfl : ok5 (some h) U P = true)
        have HC := Lib.hid hc;clear hc
        go_wp2_with fail
        refine (ctl_n U _ hzU).mono ?_
        rintro e w' ⟨rfl, rfl⟩
        rw [HC.out]
        go_wp2_with fail
        go_meet
        exact ⟨ret_v HF.out.symm, rfl⟩
       ·have HF := Lib.hid (by unfold ok5; rw [hc]; simp : ok5 (some h) U P = false)
        have HC := Lib.hid hc;clear hc
        go_wp2_with fail
        refine (ctl_n U _ hzU).mono ?_
        rintro e w' ⟨rfl, rfl⟩
        rw [HC.out]
        go_wp2_with fail
        go_meet
        exact ⟨ret_v HF.out.symm, rfl⟩
      ·have HF := Lib.hid (by unfold ok5; rw [decide_eq_false hp1]; simp : ok5 (some h) U P = false)
       go_wp2_with fail
       go_meet
       exact ⟨ret_v HF.out.symm, rfl⟩
     ·have HF := Lib.hid (by unfold ok5; rw [decide_eq_false hp0]; simp : ok5 (some h) U P = false)
      go_wp2_with fail
      go_meet
      exact ⟨ret_v HF.out.symm, rfl⟩
  case rest =>
   obtain ⟨rfl, hwc⟩ := hcut
   subst hwc
   have eS : (Txt (lowL S)).toList = lowL S := by rw [Lib.toList_data]; rfl
   by_cases ht : lowL S = telL
   ·have bt : ((Txt (lowL S)).toList == [116, 101, 108]) = true := by rw [eS, ht]; rfl
    have hO : ok7 S U H P p5.length (ok5 oh U P) = (isNum U && (H == [] && (P == 0 && decide (p5.length = 0)))) := by unfold ok7; rw [if_pos ht]
    clear eS ht
    go_upto_if 58 with fail
    go_cut [11] from 59 to 77 (fun o wx => o = .bool (ok7 S U H P p5.length (ok5 oh U P)) ∧ Kp [] wc wx)
    case first =>
     cases hin : isNum U
     ·have HI := Lib.hid hin
      have HF := Lib.hid (by rw [hO, hin]; rfl : ok7 S U H P p5.length (ok5 oh U P) = false)
      clear hin hO
      go_wp2_with fail
      refine (isNumber_any U _ hzU).mono ?_
      rintro e w6 ⟨rfl, hB6⟩
      rw [HI.out]
      go_wp2_with fail
      go_meet
      exact ⟨ret_v HF.out.symm, (Kp.refl [] _).below hB6⟩
     ·have HI := Lib.hid hin
      rw [hin, Bool.true_and] at hO
      by_cases hH0 : H = []
      ·have hem : Txt H = ⟨#[]⟩ := by rw [hH0]; rfl
       have hO2 : ok7 S U H P p5.length (ok5 oh U P) = (P == 0 && decide (p5.length = 0)) := by rw [hO, hH0]; rfl
       have HEm := Lib.hid hem
       by_cases hP0 : P = 0
       ·have bP : (P == 0) = true := by rw [hP0]; rfl
        rw [bP, Bool.true_and] at hO2
        have HF := Lib.hid (by rw [hO2]; by_cases h : p5.length = 0 <;> simp [h] : ok7 S U H P p5.length (ok5 oh U P) = ((p5.length : Int) == 0))
        clear hin hO hO2 hP0 hH0 hem
        go_wp2_with fail
        refine (isNumber_any U _ hzU).mono ?_
        rintro e w6 ⟨rfl, hB6⟩
        rw [HI.out]
        have B6 := B5.out.below hB6 (by have := B5.out.lt; omega)
        have b2 : w6.cell? ⟨w.heap.size, 2, none⟩ = some (.string ⟨#[]⟩) := by rw [← HEm.out]; exact B6.cell 2
        have b3 : w6.cell? ⟨w.heap.size, 3, none⟩ = some (.int .i64 P) := B6.cell 3
        go_wp2_with fail
        go_meet
        exact ⟨ret_v HF.out.symm, (Kp.refl [] _).below hB6⟩
       ·have bP : (P == 0) = false := beq_eq_false_iff_ne.2 hP0
        have HF := Lib.hid (by rw [hO2, bP]; rfl : ok7 S U H P p5.length (ok5 oh U P) = false)
        clear hin hO hO2 hP0 hH0 hem
        go_wp2_with fail
        refine (isNumber_any U _ hzU).mono ?_
        rintro e w6 ⟨rfl, hB6⟩
        rw [HI.out]
        have B6 := B5.out.below hB6 (by have := B5.out.lt; omega)
        have b2 : w6.cell? ⟨w.heap.size, 2, none⟩ = some (.string ⟨#[]⟩) := by rw [← HEm.out]; exact B6.cell 2
        have b3 : w6.cell? ⟨w.heap.size, 3, none⟩ = some (.int .i64 P) := B6.cell 3
        go_wp2_with fail
        go_meet
        exact ⟨ret_v HF.out.symm, (Kp.refl [] _).below hB6⟩
      ·have hxl : 1 ≤ (Txt H).size := by rw [txt_size]; cases H with | nil => exact absurd rfl hH0 | cons a b => simp
       have hie := isEmpty_no _ hxl;have hne := toList_ne _ hxl
       have HF := Lib.hid (by rw [hO, beq_eq_false_iff_ne.2 hH0]; rfl : ok7 S U H P p5.length (ok5 oh U P) = false)
       clear hin hO hH0
       go_wp2_with fail
       refine (isNumber_any U _ hzU).mono ?_
       rintro e w6 ⟨rfl, hB6⟩
       rw [HI.out]
       have B6 := B5.out.below hB6 (by have := B5.out.lt; omega)
       have b2 : w6.cell? ⟨w.heap.size, 2, none⟩ = some (.string (Txt H)) := B6.cell 2
       go_wp2_with fail
       go_meet
       exact ⟨ret_v HF.out.symm, (Kp.refl [] _).below hB6⟩
    case rest =>
     obtain ⟨rfl, hK6⟩ := hcut
     have Z6 := Lib.hid (show Zub _ _ from Z5.out.kp hK6 (by simp))
     have N6 := Lib.hid (N5.out.kp hK6 (by simp))
     have HQ6 := Lib.hid (HQ4.out.grow hK6 (by intro y hy; cases hy))
     have HR6 := Lib.hid (HP5.out.grow hK6 (by intro y hy; cases hy))
     have K6 := Lib.hid (K5.out.trans hK6);have hs6 := hK6.size;clear hK6 b1 b2 b3 n0 hO
     obtain ⟨o7, ho7⟩ : ∃ o, ok7 S U H P p5.length (ok5 oh U P) = o := ⟨_, rfl⟩
     rw [ho7]
     have HO7 := Lib.hid ho7;clear ho7
     have n0 : wc.cell? ⟨N, 0, none⟩ = some (.string (Txt (lowL S))) := N6.out.cell 0
     cases o7
     ·have HF := Lib.hid (HV.out.trans (by rw [if_neg]; rw [Hp5.out, HO7.out]; simp))
      have d0 := Z6.out.cell 0;have g0 := Z6.out.frozen 0;have d1 := Z6.out.cell 1;have g1 := Z6.out.frozen 1;have d2 := Z6.out.cell 2;have g2 := Z6.out.frozen 2;have d3 := Z6.out.cell 3;have g3 := Z6.out.frozen 3;have d4 := Z6.out.cell 4;have g4 := Z6.out.frozen 4;have d5 := Z6.out.cell 5;have g5 := Z6.out.frozen 5
      go_wp2_with fail
      refine bodyPost_ret (results_two rfl _ _ (w.heap.size + 1) 54 _ (0, 0) _ rfl (blk6 Z6.out _ _ _ _ _ _) Tryz.underlying54 rfl infoUri) rfl ?_
      rw [HF.out]
      exact ⟨_, rfl, UriIn.nil _ _, (kp6 K6.out (.inr (by omega)) _ _ _ _ _ _).nilBelow⟩
     ·cases op with
      | none =>
        have HF := Lib.hid (HV.out.trans (by rw [if_neg]; rw [Hp5.out, HO7.out]; simp))
        have d0 := Z6.out.cell 0;have g0 := Z6.out.frozen 0;have d1 := Z6.out.cell 1;have g1 := Z6.out.frozen 1;have d2 := Z6.out.cell 2;have g2 := Z6.out.frozen 2;have d3 := Z6.out.cell 3;have g3 := Z6.out.frozen 3;have d4 := Z6.out.cell 4;have g4 := Z6.out.frozen 4;have d5 := Z6.out.cell 5;have g5 := Z6.out.frozen 5
        go_wp2_with fail
        refine bodyPost_ret (results_two rfl _ _ (w.heap.size + 1) 54 _ (0, 0) _ rfl (blk6 Z6.out _ _ _ _ _ _) Tryz.underlying54 rfl infoUri) rfl ?_
        rw [HF.out]
        exact ⟨_, rfl, UriIn.nil _ _, (kp6 K6.out (.inr (by omega)) _ _ _ _ _ _).nilBelow⟩
      | some p9 =>
        cases oH with
        | none =>
          have HF := Lib.hid (HV.out.trans (by rw [if_neg]; rw [Hp5.out, HO7.out]; simp))
          have d0 := Z6.out.cell 0;have g0 := Z6.out.frozen 0;have d1 := Z6.out.cell 1;have g1 := Z6.out.frozen 1;have d2 := Z6.out.cell 2;have g2 := Z6.out.frozen 2;have d3 := Z6.out.cell 3;have g3 := Z6.out.frozen 3;have d4 := Z6.out.cell 4;have g4 := Z6.out.frozen 4;have d5 := Z6.out.cell 5;have g5 := Z6.out.frozen 5
          go_wp2_with fail
          refine bodyPost_ret (results_two rfl _ _ (w.heap.size + 1) 54 _ (0, 0) _ rfl (blk6 Z6.out _ _ _ _ _ _) Tryz.underlying54 rfl infoUri) rfl ?_
          rw [HF.out]
          exact ⟨_, rfl, UriIn.nil _ _, (kp6 K6.out (.inr (by omega)) _ _ _ _ _ _).nilBelow⟩
        | some q9 =>
          cases hkn : knB (lowL S)
          ·have HKn := Lib.hid hkn
           clear hkn
           have HF := Lib.hid (HV.out.trans (by rw [if_neg]; rw [Hp5.out, HO7.out]; rw [HKn.out]; simp))
           have d0 := Z6.out.cell 0;have g0 := Z6.out.frozen 0;have d1 := Z6.out.cell 1;have g1 := Z6.out.frozen 1;have d2 := Z6.out.cell 2;have g2 := Z6.out.frozen 2;have d3 := Z6.out.cell 3;have g3 := Z6.out.frozen 3;have d4 := Z6.out.cell 4;have g4 := Z6.out.frozen 4;have d5 := Z6.out.cell 5;have g5 := Z6.out.frozen 5
           go_wp2_with fail
           refine (known_any (lowL S) _).mono ?_
           rintro e w7 ⟨rfl, hw7⟩
           obtain rfl := hw7.symm
           rw [HKn.out]
           go_wp2_with fail
           refine bodyPost_ret (results_two rfl _ _ (w.heap.size + 1) 54 _ (0, 0) _ rfl (blk6 Z6.out _ _ _ _ _ _) Tryz.underlying54 rfl infoUri) rfl ?_
           rw [HF.out]
           exact ⟨_, rfl, UriIn.nil _ _, (kp6 K6.out (.inr (by omega)) _ _ _ _ _ _).nilBelow⟩
          ·have HKn := Lib.hid hkn
           clear hkn
           have HF := Lib.hid (HV.out.trans (by rw [if_pos (by rw [Hp5.out, HO7.out, HKn.out]; rfl), Hp5.out, Hp4.out] : _ = some (⟨lowL S, U, oh.getD [], P, p4, p5⟩ : Uri)))
           have n4 := N6.out.cell 4;have n5 := N6.out.cell 5;have m4 := N6.out.frozen 4;have m5 := N6.out.frozen 5;have d0 := Z6.out.cell 0;have g0 := Z6.out.frozen 0;have d1 := Z6.out.cell 1;have g1 := Z6.out.frozen 1;have d2 := Z6.out.cell 2;have g2 := Z6.out.frozen 2;have d3 := Z6.out.cell 3;have g3 := Z6.out.frozen 3;have d4 := Z6.out.cell 4;have g4 := Z6.out.frozen 4;have d5 := Z6.out.cell 5;have g5 := Z6.out.frozen 5
           go_wp2_with fail
           refine (known_any (lowL S) _).mono ?_
           rintro e w7 ⟨rfl, rfl⟩
           rw [HKn.out]
           have N7 := Lib.hid ((N6.out.set_ 4 (.slice A4 p4.length c4)).set_ 5 (.slice A5 p5.length c5))
           have Z7 := Lib.hid (show Zub _ _ from (Z6.out.far (p := ⟨N, 4, none⟩) hneZ (.slice A4 p4.length c4)).far (p := ⟨N, 5, none⟩) hneZ (.slice A5 p5.length c5))
           have K7 := Lib.hid ((K6.out.setCell (p := ⟨N, 4, none⟩) (.inr (by show w.heap.size ≤ N; omega)) (.slice A4 p4.length c4)).setCell (p := ⟨N, 5, none⟩) (.inr (by show w.heap.size ≤ N; omega)) (.slice A5 p5.length c5))
           have hk7 := ((Kp.refl [N] wc).setCell (p := ⟨N, 4, none⟩) (.inl (by simp)) (.slice A4 p4.length c4)).setCell (p := ⟨N, 5, none⟩) (.inl (by simp)) (.slice A5 p5.length c5)
           have hnb : ∀ y ∈ [N], NoB wc y := by intro y hy; rw [List.mem_singleton.1 hy]; exact NoB.urb N6.out
           have HQ7 := Lib.hid (HQ6.out.grow hk7 hnb);have HR7 := Lib.hid (HR6.out.grow hk7 hnb);clear hk7 hnb d0 d1 d2 d3 d4 d5 g0 g1 g2 g3 g4 g5;have f5 := (N6.out.set_ 4 (.slice A4 p4.length c4)).frozen 5;have q5 := (N6.out.set_ 4 (.slice A4 p4.length c4)).cell 5;clear n0;have n0 := N7.out.cell 0;have n1 := N7.out.cell 1;have n2 := N7.out.cell 2;have n3 := N7.out.cell 3;have n4' := N7.out.cell 4;have n5' := N7.out.cell 5;have d0 := Z7.out.cell 0;have g0 := Z7.out.frozen 0;have d1 := Z7.out.cell 1;have g1 := Z7.out.frozen 1;have d2 := Z7.out.cell 2;have g2 := Z7.out.frozen 2;have d3 := Z7.out.cell 3;have g3 := Z7.out.frozen 3;have d4 := Z7.out.cell 4;have g4 := Z7.out.frozen 4;have d5 := Z7.out.cell 5;have g5 := Z7.out.frozen 5
           go_wp2_with fail
           refine bodyPost_ret (results_two rfl _ _ (w.heap.size + 1) 54 _ (0, 0) _ rfl (blk6 Z7.out _ _ _ _ _ _) Tryz.underlying54 rfl infoUri) rfl ?_
           rw [HF.out]
           exact no_fin (w.heap.size + 1) w _ _ _ _ _ _ _ _ _ _ _ _ ⟨_, _, rfl, HQ7.out, HR7.out⟩ K7.out (by omega) Z7.out
   ·have bt : ((Txt (lowL S)).toList == [116, 101, 108]) = false := by rw [eS]; exact beq_eq_false_iff_ne.2 ht
    have hO7 : ok7 S U H P p5.length (ok5 oh U P) = ok5 oh U P := by unfold ok7; rw [if_neg ht]
    clear eS ht b1 b2 b3
    have Z6 := Lib.hid (show Zub _ _ from Z5.out)
    have N6 := Lib.hid N5.out;have HQ6 := Lib.hid HQ4.out;have HR6 := Lib.hid HP5.out;have K6 := Lib.hid K5.out
    obtain ⟨o7, ho7⟩ : ∃ o, ok5 oh U P = o := ⟨_, rfl⟩
    rw [ho7]
    have HO7 := Lib.hid (hO7.trans ho7);clear ho7 hO7
    cases o7
    ·have HF := Lib.hid (HV.out.trans (by rw [if_neg]; rw [Hp5.out, HO7.out]; simp))
     have d0 := Z6.out.cell 0;have g0 := Z6.out.frozen 0;have d1 := Z6.out.cell 1;have g1 := Z6.out.frozen 1;have d2 := Z6.out.cell 2;have g2 := Z6.out.frozen 2;have d3 := Z6.out.cell 3;have g3 := Z6.out.frozen 3;have d4 := Z6.out.cell 4;have g4 := Z6.out.frozen 4;have d5 := Z6.out.cell 5;have g5 := Z6.out.frozen 5
     go_wp2_with fail
     refine bodyPost_ret (results_two rfl _ _ (w.heap.size + 1) 54 _ (0, 0) _ rfl (blk6 Z6.out _ _ _ _ _ _) Tryz.underlying54 rfl infoUri) rfl ?_
     rw [HF.out]
     exact ⟨_, rfl, UriIn.nil _ _, (kp6 K6.out (.inr (by omega)) _ _ _ _ _ _).nilBelow⟩
    ·cases op with
     | none =>
       have HF := Lib.hid (HV.out.trans (by rw [if_neg]; rw [Hp5.out, HO7.out]; simp))
       have d0 := Z6.out.cell 0;have g0 := Z6.out.frozen 0;have d1 := Z6.out.cell 1;have g1 := Z6.out.frozen 1;have d2 := Z6.out.cell 2;have g2 := Z6.out.frozen 2;have d3 := Z6.out.cell 3;have g3 := Z6.out.frozen 3;have d4 := Z6.out.cell 4;have g4 := Z6.out.frozen 4;have d5 := Z6.out.cell 5;have g5 := Z6.out.frozen 5
       go_wp2_with fail
       refine bodyPost_ret (results_two rfl _ _ (w.heap.size + 1) 54 _ (0, 0) _ rfl (blk6 Z6.out _ _ _ _ _ _) Tryz.underlying54 rfl infoUri) rfl ?_
       rw [HF.out]
       exact ⟨_, rfl, UriIn.nil _ _, (kp6 K6.out (.inr (by omega)) _ _ _ _ _ _).nilBelow⟩
     | some p9 =>
       cases oH with
       | none =>
         have HF := Lib.hid (HV.out.trans (by rw [if_neg]; rw [Hp5.out, HO7.out]; simp))
         have d0 := Z6.out.cell 0;have g0 := Z6.out.frozen 0;have d1 := Z6.out.cell 1;have g1 := Z6.out.frozen 1;have d2 := Z6.out.cell 2;have g2 := Z6.out.frozen 2;have d3 := Z6.out.cell 3;have g3 := Z6.out.frozen 3;have d4 := Z6.out.cell 4;have g4 := Z6.out.frozen 4;have d5 := Z6.out.cell 5;have g5 := Z6.out.frozen 5
         go_wp2_with fail
         refine bodyPost_ret (results_two rfl _ _ (w.heap.size + 1) 54 _ (0, 0) _ rfl (blk6 Z6.out _ _ _ _ _ _) Tryz.underlying54 rfl infoUri) rfl ?_
         rw [HF.out]
         exact ⟨_, rfl, UriIn.nil _ _, (kp6 K6.out (.inr (by omega)) _ _ _ _ _ _).nilBelow⟩
       | some q9 =>
         cases hkn : knB (lowL S)
         ·have HKn := Lib.hid hkn
          clear hkn
          have HF := Lib.hid (HV.out.trans (by rw [if_neg]; rw [Hp5.out, HO7.out]; rw [HKn.out]; simp))
          have d0 := Z6.out.cell 0;have g0 := Z6.out.frozen 0;have d1 := Z6.out.cell 1;have g1 := Z6.out.frozen 1;have d2 := Z6.out.cell 2;have g2 := Z6.out.frozen 2;have d3 := Z6.out.cell 3;have g3 := Z6.out.frozen 3;have d4 := Z6.out.cell 4;have g4 := Z6.out.frozen 4;have d5 := Z6.out.cell 5;have g5 := Z6.out.frozen 5
          go_wp2_with fail
          refine (known_any (lowL S) _).mono ?_
          rintro e w7 ⟨rfl, hw7⟩
          obtain rfl := hw7.symm
          rw [HKn.out]
          go_wp2_with fail
          refine bodyPost_ret (results_two rfl _ _ (w.heap.size + 1) 54 _ (0, 0) _ rfl (blk6 Z6.out _ _ _ _ _ _) Tryz.underlying54 rfl infoUri) rfl ?_
          rw [HF.out]
          exact ⟨_, rfl, UriIn.nil _ _, (kp6 K6.out (.inr (by omega)) _ _ _ _ _ _).nilBelow⟩
         ·have HKn := Lib.hid hkn
          clear hkn
          have HF := Lib.hid (HV.out.trans (by rw [if_pos (by rw [Hp5.out, HO7.out, HKn.out]; rfl), Hp5.out, Hp4.out] : _ = some (⟨lowL S, U, oh.getD [], P, p4, p5⟩ : Uri)))
          have n4 := N6.out.cell 4;have n5 := N6.out.cell 5;have m4 := N6.out.frozen 4;have m5 := N6.out.frozen 5;have d0 := Z6.out.cell 0;have g0 := Z6.out.frozen 0;have d1 := Z6.out.cell 1;have g1 := Z6.out.frozen 1;have d2 := Z6.out.cell 2;have g2 := Z6.out.frozen 2;have d3 := Z6.out.cell 3;have g3 := Z6.out.frozen 3;have d4 := Z6.out.cell 4;have g4 := Z6.out.frozen 4;have d5 := Z6.out.cell 5;have g5 := Z6.out.frozen 5
          go_wp2_with fail
          refine (known_any (lowL S) _).mono ?_
          rintro e w7 ⟨rfl, rfl⟩
          rw [HKn.out]
          have N7 := Lib.hid ((N6.out.set_ 4 (.slice A4 p4.length c4)).set_ 5 (.slice A5 p5.length c5))
          have Z7 := Lib.hid (show Zub _ _ from (Z6.out.far (p := ⟨N, 4, none⟩) hneZ (.slice A4 p4.length c4)).far (p := ⟨N, 5, none⟩) hneZ (.slice A5 p5.length c5))
          have K7 := Lib.hid ((K6.out.setCell (p := ⟨N, 4, none⟩) (.inr (by show w.heap.size ≤ N; omega)) (.slice A4 p4.length c4)).setCell (p := ⟨N, 5, none⟩) (.inr (by show w.heap.size ≤ N; omega)) (.slice A5 p5.length c5))
          have hk7 := ((Kp.refl [N] wc).setCell (p := ⟨N, 4, none⟩) (.inl (by simp)) (.slice A4 p4.length c4)).setCell (p := ⟨N, 5, none⟩) (.inl (by simp)) (.slice A5 p5.length c5)
          have hnb : ∀ y ∈ [N], NoB wc y := by intro y hy; rw [List.mem_singleton.1 hy]; exact NoB.urb N6.out
          have HQ7 := Lib.hid (HQ6.out.grow hk7 hnb);have HR7 := Lib.hid (HR6.out.grow hk7 hnb);clear hk7 hnb d0 d1 d2 d3 d4 d5 g0 g1 g2 g3 g4 g5;have f5 := (N6.out.set_ 4 (.slice A4 p4.length c4)).frozen 5;have q5 := (N6.out.set_ 4 (.slice A4 p4.length c4)).cell 5;clear n0;have n0 := N7.out.cell 0;have n1 := N7.out.cell 1;have n2 := N7.out.cell 2;have n3 := N7.out.cell 3;have n4' := N7.out.cell 4;have n5' := N7.out.cell 5;have d0 := Z7.out.cell 0;have g0 := Z7.out.frozen 0;have d1 := Z7.out.cell 1;have g1 := Z7.out.frozen 1;have d2 := Z7.out.cell 2;have g2 := Z7.out.frozen 2;have d3 := Z7.out.cell 3;have g3 := Z7.out.frozen 3;have d4 := Z7.out.cell 4;have g4 := Z7.out.frozen 4;have d5 := Z7.out.cell 5;have g5 := Z7.out.frozen 5
          go_wp2_with fail
          refine bodyPost_ret (results_two rfl _ _ (w.heap.size + 1) 54 _ (0, 0) _ rfl (blk6 Z7.out _ _ _ _ _ _) Tryz.underlying54 rfl infoUri) rfl ?_
          rw [HF.out]
          exact no_fin (w.heap.size + 1) w _ _ _ _ _ _ _ _ _ _ _ _ ⟨_, _, rfl, HQ7.out, HR7.out⟩ K7.out (by omega) Z7.out
end Ad
end Go.Proofs.YtbcaindpbeaheaaGreatDoor
