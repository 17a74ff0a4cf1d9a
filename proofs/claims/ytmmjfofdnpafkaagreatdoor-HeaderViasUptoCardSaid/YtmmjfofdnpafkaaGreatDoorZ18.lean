/- Texts of one set of library modules: HeVc, HeVe, HeVh. -/
import Derived.Test.YtmmjfofdnpafkaaGreatDoorZ13
import Derived.Test.YtmmjfofdnpafkaaGreatDoorZ12
import Derived.Test.YtmmjfofdnpafkaaGreatDoorZ17
import Derived.Test.YtmmjfofdnpafkaaGreatDoorZ11
namespace Go.Proofs.YtmmjfofdnpafkaaGreatDoor
namespace Ad
open Go.RowKit Lx
theorem cell_of_pms {B : Nat} {w : World} {A : Option Addr} {n c : Nat} {l : List Prm} (h : PmIn B w (.slice A n c) l) (k : Nat) (hk : k < l.length) : ∃ b o, A = some ⟨b, o, none⟩ ∧ n = l.length ∧ ∀ j u, (pcl l)[j]? = some u → w.cell? ⟨b, o + j, none⟩ = some u := by
 obtain ⟨n', c', h1, _, ⟨h0, he⟩ | ⟨b, o, he, _, hc⟩⟩ := h
 ·omega
 ·injection he with e1 e2 e3
  exact ⟨b, o, e1, by rw [e2]; exact h1, hc⟩
end Ad
end Go.Proofs.YtmmjfofdnpafkaaGreatDoor
namespace Go.Proofs.YtmmjfofdnpafkaaGreatDoor
namespace Ad
open Go.RowKit Lx
theorem cat4 (a b c d f : List UInt8) : Txt a ++ Txt b ++ Txt c ++ Txt d ++ Txt f = Txt (a ++ b ++ c ++ d ++ [] ++ f) := by simp only [cat_txt, List.append_nil]
theorem cat6 (a b c d e f g : List UInt8) : Txt a ++ Txt b ++ Txt c ++ Txt d ++ Txt e ++ Txt f ++ Txt g = Txt (a ++ b ++ c ++ d ++ (e ++ f) ++ g) := by simp only [cat_txt, List.append_assoc]
set_option maxRecDepth 100000 in
set_option maxHeartbeats 8000000 in
theorem rprintVia_any (B : Nat) (t h b : List UInt8) (po : Int) (A : Option Addr) (c : Nat) (l : List Prm) (w : World) (hP : PmIn B w (.slice A l.length c) l) (hB : B ≤ w.heap.size) (ht : t.length ≤ 1048576) (hh : h.length ≤ 1048576) (hb : b.length ≤ 1048576) (hz : SzP l) (hl : l.length ≤ 1048576) (hp0 : -9223372036854775808 ≤ po) (hp1 : po ≤ 9223372036854775807) :
   Calls Tryz.prog 23 #[.agg #[.string (Txt t), .string (Txt h), .int .i64 po, .string (Txt b), .slice A l.length c]] w (PrK (pviO t h b po l) w) := by
 obtain ⟨i0, hi, hz0, hz1, hz2⟩ := info_parts infoPrm3
 obtain ⟨w0, hw0⟩ : ∃ x, w.alloc (.cells #[.string (Txt t), .string (Txt h), .int .i64 po, .string (Txt b), .slice A l.length c] 33) = x := ⟨_, rfl⟩
 have B0 := Lib.hid (show Blk w0 w.heap.size 33 #[.string (Txt t), .string (Txt h), .int .i64 po, .string (Txt b), .slice A l.length c] from by rw [← hw0]; exact Blk.new w _ _)
 have k0 : Kp [] w w0 := by rw [← hw0]; exact (Kp.refl _ _).alloc _
 have K0 := Lib.hid k0
 have P0 := Lib.hid ((hP.kp k0 hB (by simp)).more (Nat.le_trans hB k0.size))
 have HZ := Lib.hid (vps_sz l b hz (by omega))
 have HVl := Lib.hid (vps_len l b)
 have HH := Lib.hid (by have h := rHost_any (Txt h) w0 (by rw [txt_size]; omega); rw [txt_list] at h; exact h)
 obtain ⟨T, hT⟩ : ∃ T, tokB t = T := ⟨_, rfl⟩
 have HTk := Lib.hid (fun wz => rtokK t T hT (by omega) wz)
 have HTb := Lib.hid hT;clear k0 hP hz hT
 go_enter Tryz.func23, Tryz.ntmps23
 have a1 := B0.out.cell 1
 go_wp2_with fail
 refine HH.out.mono ?_
 rintro e w1 ⟨rfl, hB1⟩
 have hK1 := (Kp.refl [] w0).below hB1
 have K1 := Lib.hid (K0.out.trans hK1)
 have B1 := Lib.hid (B0.out.kp hK1 (by simp))
 have P1 := Lib.hid (P0.out.grow hK1 (by intro y hy; cases hy))
 clear hB1 hK1 a1 HH;have a0 := B1.out.cell 0
 obtain ⟨o, ho⟩ : ∃ o, hostO h = o := ⟨_, rfl⟩
 rw [ho]
 go_wp2_with fail
 refine (HTk.out _).mono ?_
 rintro e w2 ⟨rfl, hK2⟩
 have K2 := Lib.hid (K1.out.trans hK2)
 have B2 := Lib.hid (B1.out.kp hK2 (by simp))
 have P2 := Lib.hid (P1.out.grow hK2 (by intro y hy; cases hy))
 clear hK2 a0
 cases T
 ·have HR := Lib.hid (pvi_bad (t := t) (h := h) (b := b) (po := po) (l := l) (by rw [HTb.out]; simp))
  cases o
  all_goals
   simp only [Option.getD_none, Option.getD_some, Option.isSome_none, Option.isSome_some]
   go_wp2_with fail
   go_ret2
   exact PrK.none HR.out K2.out
 cases o with
 | none =>
   have HR := Lib.hid (pvi_host (t := t) (b := b) (po := po) (l := l) ho)
   clear ho
   simp only [Option.getD_none, Option.isSome_none]
   go_wp2_with fail
   go_ret2
   exact PrK.none HR.out K2.out
 | some x =>
   have hol := hostO_len h x ho;have HHo := Lib.hid ho;clear ho
   simp only [Option.getD_some, Option.isSome_some]
   have a2 := B2.out.cell 2
   by_cases hlo : po < 0
   ·have HR := Lib.hid (pvi_bad (t := t) (h := h) (b := b) (po := po) (l := l) (by omega))
    go_wp2_with fail
    go_ret2
    exact PrK.none HR.out K2.out
   by_cases hhi : 65535 < po
   ·have HR := Lib.hid (pvi_bad (t := t) (h := h) (b := b) (po := po) (l := l) (by omega))
    go_wp2_with fail
    go_ret2
    exact PrK.none HR.out K2.out
   have HC := Lib.hid (show tokB t = true ∧ 0 ≤ po ∧ po ≤ 65535 from ⟨HTb.out, by omega, by omega⟩)
   have hsz2 := K2.out.size
   go_wp2_with fail
   clear a2
   go_loopw [7, 6] (fun i s wr => ∃ (j : Nat) (p : Option Addr) (d : Nat), j ≤ l.length ∧ i = .int .i64 j ∧ s = .slice p (nbr (l.take j)).length d ∧ wr.ownsRow w2.heap.size 72 3 (.slice p (nbr (l.take j)).length d) (nbr (l.take j)).length (pcl (nbr (l.take j))) ∧ Kp [] w2 wr) (fun i _ _ => l.length - (intOf i).toNat)
   case atStart => exact ⟨0, none, 0, by omega, rfl, rfl, World.ownsRow_nil w2 w2.heap.size 72 3, Kp.refl _ _⟩
   case round =>
    obtain ⟨j, p, d, hj, rfl, rfl, hown, hKr⟩ := hrel
    have Br := Lib.hid (B2.out.kp hKr (by simp))
    have Pr := Lib.hid (P2.out.kp hKr (Nat.le_refl _) (by simp))
    have hszr := hKr.size;have Kr := Lib.hid hKr;have O := Lib.hid hown;have hnl := nbr_len (l.take j)
    have htl : (l.take j).length ≤ j := by rw [List.length_take]; omega
    clear hown hKr;have a4 := Br.out.cell 4
    by_cases hlt : j < l.length
    ·obtain ⟨⟨q1, q2, q3⟩, hq⟩ : ∃ q, l[j]? = some q := ⟨l[j], List.getElem?_eq_getElem hlt⟩
     have hsp := take_snocP l j _ hq
     have hsn := nbr_snoc (l.take j) (q1, q2, q3)
     rw [← hsp] at hsn
     dsimp only at hsn
     obtain ⟨bb, oo, rfl, _, hc⟩ := cell_of_pms Pr.out j hlt
     have e0 : wr.cell? ⟨bb, oo + j * 3, none⟩ = some (.string (Txt q1)) := hc _ _ (pcl_at l j _ hq 0 _ rfl)
     have e1 : wr.cell? ⟨bb, oo + j * 3 + 1, none⟩ = some (.string (Txt q2)) := by rw [Nat.add_assoc]; exact hc _ _ (pcl_at l j _ hq 1 _ rfl)
     have e2 : wr.cell? ⟨bb, oo + j * 3 + 2, none⟩ = some (.bool q3) := by rw [Nat.add_assoc]; exact hc _ _ (pcl_at l j _ hq 2 _ rfl)
     clear hc hq hsp
     by_cases hx : q1 = brnN
     ·have t1 : ((Txt q1).toList == [98, 114, 97, 110, 99, 104]) = true := by rw [Lib.toList_data, txt_list, hx]; rfl
      have t2 : (q1 == [98, 114, 97, 110, 99, 104]) = true := by rw [hx]; rfl
      rw [if_pos hx, List.append_nil] at hsn
      have HS := Lib.hid hsn;clear hsn hx
      go_wp2_with fail
      go_roundw
      case rel => exact ⟨j + 1, p, d, by omega, by go_num, by rw [HS.out], by rw [HS.out]; exact O.out, Kr.out⟩
      case measure => simp [intOf]; omega
     ·have t1 : ((Txt q1).toList == [98, 114, 97, 110, 99, 104]) = false := by rw [Lib.toList_data, txt_list]; exact beq_eq_false_iff_ne.2 hx
      have t2 : (q1 == [98, 114, 97, 110, 99, 104]) = false := beq_eq_false_iff_ne.2 hx
      rw [if_neg hx] at hsn
      have HS := Lib.hid hsn;clear hsn hx
      obtain ⟨N, hN⟩ : ∃ N, nbr (l.take j) = N := ⟨_, rfl⟩
      rw [hN] at hnl HS O ⊢
      clear hN
      go_wp2_with (at_builtin; refine wpList_append_own _ rfl _ _ 22 rfl w2.heap.size 72 i0 (.agg #[.string .empty, .string .empty, .bool false]) 3 40 Tryz.underlying22 hi hz0 hz1 hz2 rfl (by decide) _ _ _ rfl (O.out.alloc _) ⟨wr.heap.size, 0, none⟩ 1 1 [.string (Txt q1), .string (Txt q2), .bool q3] rfl rfl (cell_three_new _ _ _ _ _) (by simp [Value.oneCell']) ?c3 ?c4 ?c5 ?_)
      case c3 => unfold maxLen; omega
      case c4 => omega
      case c5 => first | omega | (simp; omega)
      intro v7 w7 hown7 hgrow7 _
      have hK7 := (Kr.out.alloc (.cells #[.string (Txt q1), .string (Txt q2), .bool q3] 72)).grown hgrow7 (fun g hg => .inr (O.out.lt g hg).1)
      obtain ⟨m7, hm7⟩ : ∃ m, (N ++ [(q1, q2, q3)]).length = m := ⟨_, rfl⟩
      have O7 := (by simpa [pcl, pc1, Txt] using hown7 : w7.ownsRow w2.heap.size 72 3 v7 (N ++ [(q1, q2, q3)]).length (pcl (N ++ [(q1, q2, q3)])))
      obtain ⟨p7, d7, rfl⟩ := own_form O7
      rw [hm7] at O7 ⊢
      have O7 := Lib.hid O7;have HM := Lib.hid hm7;have K7 := Lib.hid hK7;clear hown7 hgrow7 hK7 hm7 e0 e1 e2 a4
      go_wp2_with fail
      go_roundw
      case rel => exact ⟨j + 1, p7, d7, by omega, by go_num, by rw [HS.out, HM.out], by rw [HS.out, HM.out]; exact O7.out, K7.out⟩
      case measure => simp [intOf]; omega
    ·obtain rfl : j = l.length := by omega
     rw [List.take_length] at O hnl ⊢
     obtain ⟨N, hN⟩ : ∃ N, nbr l = N := ⟨_, rfl⟩
     rw [hN] at O hnl ⊢
     have HN := Lib.hid hN;clear hN htl;have a3 := Br.out.cell 3
     obtain ⟨n, rfl⟩ : ∃ n : Nat, po = n := ⟨po.toNat, by omega⟩
     by_cases hbe : b = []
     case' pos =>
      have te := emp_yes b hbe
      have HVp := Lib.hid (by unfold vps; rw [if_pos hbe, List.append_nil, HN.out] : vps l b = N)
      have K9 := Lib.hid (K2.out.trans Kr.out);have PV := Lib.hid (own_pm O.out);have B9 := Lib.hid Br.out;have a4 := Br.out.cell 4;clear hbe
      go_upto_region 12 with fail
      clear te a3 a4
     case' neg =>
      have te := emp_no b hbe
      have HVp := Lib.hid (by unfold vps; rw [if_neg hbe, HN.out] : vps l b = N ++ [(brnN, b, true)])
      have a4 := Br.out.cell 4;clear hbe
      go_wp2_with (at_builtin; refine wpList_append_own _ rfl _ _ 22 rfl w2.heap.size 72 i0 (.agg #[.string .empty, .string .empty, .bool false]) 3 40 Tryz.underlying22 hi hz0 hz1 hz2 rfl (by decide) _ _ _ rfl (O.out.alloc _) ⟨wr.heap.size, 0, none⟩ 1 1 [.string ⟨#[98, 114, 97, 110, 99, 104]⟩, .string (Txt b), .bool true] rfl rfl (cell_three_new _ _ _ _ _) (by simp [Value.oneCell']) ?c3 ?c4 ?c5 ?_)
      case c3 => unfold maxLen; omega
      case c4 => omega
      case c5 => first | omega | (simp; omega)
      intro v7 w7 hown7 hgrow7 _
      have hK7 := (Kr.out.alloc (.cells #[.string ⟨#[98, 114, 97, 110, 99, 104]⟩, .string (Txt b), .bool true] 72)).grown hgrow7 (fun g hg => .inr (O.out.lt g hg).1)
      have O7 := (by simpa [pcl, pc1, Txt, brnN] using hown7 : w7.ownsRow w2.heap.size 72 3 v7 (N ++ [(brnN, b, true)]).length (pcl (N ++ [(brnN, b, true)])))
      obtain ⟨p7, d7, rfl⟩ := own_form O7
      have K9 := Lib.hid (K2.out.trans hK7);have PV := Lib.hid (own_pm O7)
      have B9 := Lib.hid (B2.out.kp hK7 (by simp))
      clear hown7 hgrow7 hK7 O7 te a3 a4
      go_upto_region 12 with fail
     all_goals
      rw [← HVp.out] at PV ⊢
      have hvl := HVl.out
      go_wp2_with fail
      refine (rSorted_any _ _ (vps l b) _ PV.out (Nat.le_refl _) (by omega)).mono ?_
      rintro e wa ⟨va, rfl, hPa, hKa⟩
      obtain ⟨Aa, Ca, rfl⟩ := hPa.form
      have Pa := Lib.hid hPa;have Ka := Lib.hid (K9.out.trans hKa)
      have Ba := Lib.hid (B9.out.kp hKa (by simp))
      have Za := Lib.hid (szP_perm HZ.out (srt_perm (vps l b)))
      have hla : (srt (vps l b)).length ≤ 2097152 := by rw [(srt_perm (vps l b)).length_eq]; omega
      clear hPa hKa
      go_wp2_with fail
      refine (rPrintParams_any _ _ (srt (vps l b)) _ Pa.out (Nat.le_refl _) Za.out hla).mono ?_
      rintro e wb ⟨rfl, hBb⟩
      have hKb := (Kp.refl [] wa).below hBb
      have Kb := Lib.hid (Ka.out.trans hKb)
      have Bb := Lib.hid (Ba.out.kp hKb (by simp))
      clear hKb hBb;have a0 := Bb.out.cell 0;have a2 := Bb.out.cell 2
      obtain ⟨q, hq⟩ : ∃ q, ppO (srt (vps l b)) = q := ⟨_, rfl⟩
      rw [hq]
      cases q with
      | none =>
        have HR := Lib.hid (pvi_list (t := t) (h := h) (po := (n : Int)) hq)
        clear hq
        simp only [Option.getD_none, Option.isSome_none, Bool.false_eq_true, if_false]
        go_wp2_with fail
        go_ret2
        exact PrK.none HR.out Kb.out
      | some y =>
        have HR := Lib.hid (pvi_some HHo.out HC.out hq);have hpl := ppO_len (srt (vps l b)) Za.out y hq
        have HU := Lib.hid (fun wz => (by have h := r3upper_any (Txt t) wz (by rw [txt_size]; omega); rw [txt_list] at h; exact h : Calls Tryz.prog 79 #[.string (Txt t)] wz (RetNew (uprL t) wz)))
        clear hq
        simp only [Option.getD_some, Option.isSome_some, if_true]
        have s0 : (uprL t).length ≤ 1048576 := by simpa [uprL] using ht
        have s1 : (Txt (uprL t)).size ≤ 1048576 := by rw [txt_size]; simpa [uprL] using ht
        have s2 : (Txt x).size ≤ 2097300 := by rw [txt_size]; omega
        have s3 : (Txt y).size ≤ 16 * 6291460 := by rw [txt_size]; exact hpl
        by_cases hn0 : n = 0
        ·have HPo := Lib.hid (by unfold porL; rw [if_pos (by rw [hn0]; rfl)] : porL (n : Int) = [])
         subst hn0
         go_wp2_with fail
         refine (HU.out _).mono ?_
         rintro e wc ⟨rfl, hBc⟩
         have Kc := Lib.hid (Kb.out.below hBc)
         have Bc := Lib.hid (Bb.out.kp ((Kp.refl [] wb).below hBc) (by simp))
         clear hBc a0 a2;have a2 := Bc.out.cell 2
         go_wp2_with fail
         go_ret2
         refine PrK.some HR.out ?_ Kc.out
         rw [HPo.out]
         exact cat4 protoL (uprL t) [32] x y
        ·have HPo := Lib.hid (by unfold porL; rw [if_neg (by omega), itoa_dec _ (by omega), Int.toNat_natCast] : porL (n : Int) = 58 :: decL n)
         have HD := Lib.hid (fun wz => r3decimal_any n (by omega) wz)
         have s4 : (Txt (decL n)).size ≤ 21 := by rw [txt_size]; exact Nat.le_trans (decL_len _ (by omega)) (by omega)
         have hn1 : (0 : Int) < (n : Int) := by omega
         go_wp2_with fail
         refine (HU.out _).mono ?_
         rintro e wc ⟨rfl, hBc⟩
         have Kc := Lib.hid (Kb.out.below hBc)
         have Bc := Lib.hid (Bb.out.kp ((Kp.refl [] wb).below hBc) (by simp))
         clear hBc a0 a2;have a2 := Bc.out.cell 2
         go_wp2_with fail
         refine (HD.out _).mono ?_
         rintro e wd ⟨rfl, hKd⟩
         have Kd := Lib.hid (Kc.out.trans hKd);clear hKd a2
         go_wp2_with fail
         go_ret2
         refine PrK.some HR.out ?_ Kd.out
         rw [HPo.out]
         exact cat6 protoL (uprL t) [32] x [58] (decL n) y
end Ad
end Go.Proofs.YtmmjfofdnpafkaaGreatDoor
namespace Go.Proofs.YtmmjfofdnpafkaaGreatDoor
namespace Ad
open Go.RowKit Lx
set_option maxRecDepth 100000 in
set_option maxHeartbeats 4000000 in
theorem sameVia_self (B1 B2 : Nat) (T H R : List UInt8) (po : Int) (A1 A2 : Option Addr) (c1 c2 : Nat) (l : List Prm) (w : World) (hA : PmIn B1 w (.slice A1 l.length c1) l) (hB : PmIn B2 w (.slice A2 l.length c2) l) (h1 : B1 ≤ w.heap.size) (h2 : B2 ≤ w.heap.size) (hll : l.length ≤ 1048576) :
   Calls Tryz.prog 24 #[.agg #[.string (Txt T), .string (Txt H), .int .i64 po, .string (Txt R), .slice A1 l.length c1], .agg #[.string (Txt T), .string (Txt H), .int .i64 po, .string (Txt R), .slice A2 l.length c2]] w (BoK true w) := by
 obtain ⟨wA, hwA⟩ : ∃ wA, w.alloc (.cells #[.string (Txt T), .string (Txt H), .int .i64 po, .string (Txt R), .slice A1 l.length c1] 33) = wA := ⟨_, rfl⟩
 obtain ⟨wB, hwB⟩ : ∃ wB, wA.alloc (.cells #[.string (Txt T), .string (Txt H), .int .i64 po, .string (Txt R), .slice A2 l.length c2] 33) = wB := ⟨_, rfl⟩
 have hsA : wA.heap.size = w.heap.size + 1 := by rw [← hwA]; simp
 have BA : Blk wA w.heap.size 33 #[.string (Txt T), .string (Txt H), .int .i64 po, .string (Txt R), .slice A1 l.length c1] := by rw [← hwA]; exact Blk.new w _ _
 have BB := Lib.hid (show Blk wB w.heap.size 33 _ from by rw [← hwB]; exact BA.alloc _)
 have BC := Lib.hid (show Blk wB (w.heap.size + 1) 33 #[.string (Txt T), .string (Txt H), .int .i64 po, .string (Txt R), .slice A2 l.length c2] from by rw [← hwB, ← hsA]; exact Blk.new wA _ _)
 have KB := Lib.hid (show Kp [] w wB from by rw [← hwB, ← hwA]; exact ((Kp.refl [] w).alloc _).alloc _)
 have HW := Lib.hid (show (w.alloc (.cells #[.string (Txt T), .string (Txt H), .int .i64 po, .string (Txt R), .slice A1 l.length c1] 33)).alloc (.cells #[.string (Txt T), .string (Txt H), .int .i64 po, .string (Txt R), .slice A2 l.length c2] 33) = wB from by rw [hwA]; exact hwB)
 have hsB : w.heap.size + 2 ≤ wB.heap.size := by rw [← hwB]; simp; omega
 have Pp := Lib.hid (hA.kp KB.out h1 (by simp))
 have Pq := Lib.hid (hB.kp KB.out h2 (by simp))
 clear hwA hwB BA hsA hA hB;have b0 := BB.out.cell 0;have d0 := BC.out.cell 0;have b1 := BB.out.cell 1;have d1 := BC.out.cell 1;have b2 := BB.out.cell 2;have d2 := BC.out.cell 2;have b3 := BB.out.cell 3;have d3 := BC.out.cell 3;have b4 := BB.out.cell 4;have d4 := BC.out.cell 4;have t0 := beq_self_eq_true (Txt T).toList;have t1 := beq_self_eq_true (Txt H).toList;have t2 := beq_self_eq_true (Txt R).toList;have t3 := beq_self_eq_true po
 go_enter Tryz.func24, Tryz.ntmps24
 go_upto_region 1 with fail
 rw [HW.out]
 go_wp2_with fail
 refine (same_self B1 B2 _ _ l _ Pp.out Pq.out (by omega) (by omega) (by omega)).mono ?_
 rintro e w2 ⟨rfl, hK2⟩
 have K2 := Lib.hid (KB.out.trans hK2);clear hK2 b0 b1 b2 b3 b4 d0 d1 d2 d3 d4
 go_wp2_with fail
 go_ret
 exact ⟨rfl, K2.out⟩
theorem viaR_len (l : List UInt8) : (viaR l).1.pm.length ≤ 16 := by
 unfold viaR viT viH viP
 split
 ·split
  ·exact Nat.zero_le _
  ·split
   ·exact Nat.zero_le _
   ·exact parF_len _ _ _ _ (Nat.zero_le _)
 ·exact Nat.zero_le _
set_option maxRecDepth 100000 in
set_option maxHeartbeats 8000000 in
theorem vias_law (s : ByteArray) (B : Nat) (t h b : List UInt8) (po : Int) (A : Option Addr) (c : Nat) (l : List Prm) (w : World) (hs : s.size ≤ 1048576) (hP : PmIn B w (.slice A l.length c) l) (hB : B ≤ w.heap.size) (hz : SzL 1048576 l) (ht : t.length ≤ 1048576) (hh : h.length ≤ 1048576) (hb : b.length ≤ 1048576) (hl : l.length ≤ 1048576) (hp0 : -9223372036854775808 ≤ po) (hp1 : po ≤ 9223372036854775807) (H : HEnv w) :
   Calls Tryz.prog 4 #[.string s, .agg #[.string (Txt t), .string (Txt h), .int .i64 po, .string (Txt b), .slice A l.length c]] w (BoK true w) := by
 obtain ⟨w0, hw0⟩ : ∃ x, w.alloc (.cells #[.string (Txt t), .string (Txt h), .int .i64 po, .string (Txt b), .slice A l.length c] 33) = x := ⟨_, rfl⟩
 have B0 := Lib.hid (show Blk w0 w.heap.size 33 #[.string (Txt t), .string (Txt h), .int .i64 po, .string (Txt b), .slice A l.length c] from by rw [← hw0]; exact Blk.new w _ _)
 have k0 : Kp [] w w0 := by rw [← hw0]; exact (Kp.refl _ _).alloc _
 have K0 := Lib.hid k0
 have P0 := Lib.hid ((hP.kp k0 hB (by simp)).more (Nat.le_trans hB k0.size))
 have HAw := Lib.hid (fun wz (h : HEnv wz) => hawake_any wz h)
 have HE := Lib.hid H
 have HZ := Lib.hid (show SzP l from fun p hp => by have := hz p hp; omega)
 have hil := viaR_len s.data.toList
 obtain ⟨⟨vt, vh, vp, vb, il⟩, ix, hi⟩ : ∃ a c, viaR s.data.toList = (a, c) := ⟨_, _, rfl⟩
 have HI1 := Lib.hid (fun wz (h : HEnv wz) => (by have h := via_any s wz hs h.env; rw [hi] at h; exact h : Calls Tryz.prog 20 #[.string s] wz (ViE (⟨vt, vh, vp, vb, il⟩, ix) wz)))
 have HI2 := Lib.hid (fun wz => (by have h := rvia_any s wz hs; rw [hi] at h; exact h : Calls Tryz.prog 21 #[.string s] wz (ViE (⟨vt, vh, vp, vb, il⟩, ix) wz)))
 rw [hi] at hil
 dsimp only at hil
 obtain ⟨pt, hpt⟩ : ∃ z, (pviO t h b po l).getD [] = z := ⟨_, rfl⟩
 obtain ⟨px, hpx⟩ : ∃ x : Int, (if (pviO t h b po l).isSome then 0 else 2) = x := ⟨_, rfl⟩
 have HP1 := Lib.hid (fun wz (h9 : HEnv wz) (hP : PmIn wz.heap.size wz (.slice A l.length c) l) => (by have h := printVia_any _ t h b po A c l wz hP (Nat.le_refl _) ht (by omega) hb HZ.out (by omega) hp0 hp1 h9.env; unfold PrK at h; rw [hpt, hpx] at h; exact h : Calls Tryz.prog 22 #[.agg #[.string (Txt t), .string (Txt h), .int .i64 po, .string (Txt b), .slice A l.length c]] wz (TxE (pt, px) wz)))
 have HP2 := Lib.hid (fun wz (hP : PmIn wz.heap.size wz (.slice A l.length c) l) => (by have h := rprintVia_any _ t h b po A c l wz hP (Nat.le_refl _) ht hh hb HZ.out hl hp0 hp1; unfold PrK at h; rw [hpt, hpx] at h; exact h : Calls Tryz.prog 23 #[.agg #[.string (Txt t), .string (Txt h), .int .i64 po, .string (Txt b), .slice A l.length c]] wz (TxE (pt, px) wz)))
 have bx : (ix == ix) = true := beq_self_eq_true _
 have bt : ((Txt pt).toList == (Txt pt).toList) = true := beq_self_eq_true _
 have bp : (px == px) = true := beq_self_eq_true _
 clear k0 hP H hz hi hpt hpx
 go_enter Tryz.func4, Tryz.ntmps4
 have a0 := B0.out.cell 0;have a1 := B0.out.cell 1;have a2 := B0.out.cell 2;have a3 := B0.out.cell 3;have a4 := B0.out.cell 4
 by_cases h40 : 40 < l.length
 ·go_wp2_with fail
  refine (HAw.out _ (HE.out.kp K0.out (by simp))).mono ?_
  rintro e w1 ⟨rfl, hK1⟩
  have K1 := Lib.hid (K0.out.trans hK1);clear hK1
  go_wp2_with fail
  go_ret
  exact ⟨rfl, K1.out⟩
 ·go_wp2_with fail
  refine (HI1.out _ (HE.out.kp K0.out (by simp))).mono ?_
  rintro e w1 ⟨v1, rfl, hP1, hK1⟩
  obtain ⟨A1, c1, rfl⟩ := hP1.form
  dsimp only at hP1 ⊢
  obtain ⟨w2, hw2⟩ : ∃ x, w1.alloc (.cells #[.string (Txt vt), .string (Txt vh), .int .i64 vp, .string (Txt vb), .slice A1 il.length c1] 33) = x := ⟨_, rfl⟩
  have k2 : Kp [] w1 w2 := by rw [← hw2]; exact (Kp.refl _ _).alloc _
  obtain ⟨g1, hg1⟩ : ∃ x, w1.heap.size = x := ⟨_, rfl⟩
  have Y2 := Lib.hid (show Blk w2 g1 33 #[.string (Txt vt), .string (Txt vh), .int .i64 vp, .string (Txt vb), .slice A1 il.length c1] from by rw [← hw2, ← hg1]; exact Blk.new w1 _ _)
  have Q2 := Lib.hid (hP1.grow k2 (by intro y hy; cases hy))
  have K2 := Lib.hid ((K0.out.trans hK1).trans k2)
  have B2 := Lib.hid (B0.out.kp (hK1.trans k2) (by simp))
  have P2 := Lib.hid (P0.out.grow (hK1.trans k2) (by intro y hy; cases hy))
  clear hK1 k2 hP1 a0 a1 a2 a3 a4
  go_wp2_with fail
  refine (HI2.out _).mono ?_
  rintro e w3 ⟨v3, rfl, hP3, hK3⟩
  obtain ⟨A3, c3, rfl⟩ := hP3.form
  dsimp only at hP3 ⊢
  obtain ⟨w4, hw4⟩ : ∃ x, w3.alloc (.cells #[.string (Txt vt), .string (Txt vh), .int .i64 vp, .string (Txt vb), .slice A3 il.length c3] 33) = x := ⟨_, rfl⟩
  have k4 : Kp [] w3 w4 := by rw [← hw4]; exact (Kp.refl _ _).alloc _
  obtain ⟨g3, hg3⟩ : ∃ x, w3.heap.size = x := ⟨_, rfl⟩
  have X4 := Lib.hid (show Blk w4 g3 33 #[.string (Txt vt), .string (Txt vh), .int .i64 vp, .string (Txt vb), .slice A3 il.length c3] from by rw [← hw4, ← hg3]; exact Blk.new w3 _ _)
  have R4 := Lib.hid (hP3.grow k4 (by intro y hy; cases hy))
  have Y4 := Lib.hid (Y2.out.kp (hK3.trans k4) (by simp))
  have Q4 := Lib.hid (Q2.out.grow (hK3.trans k4) (by intro y hy; cases hy))
  have K4 := Lib.hid ((K2.out.trans hK3).trans k4)
  have B4 := Lib.hid (B2.out.kp (hK3.trans k4) (by simp))
  have P4 := Lib.hid (P2.out.grow (hK3.trans k4) (by intro y hy; cases hy))
  clear hK3 k4 hP3;have a0 := B4.out.cell 0;have a1 := B4.out.cell 1;have a2 := B4.out.cell 2;have a3 := B4.out.cell 3;have a4 := B4.out.cell 4
  go_wp2_with fail
  refine (HP1.out _ (HE.out.kp K4.out (by simp)) P4.out).mono ?_
  rintro e w5 ⟨rfl, hK5⟩
  have K5 := Lib.hid (K4.out.trans hK5)
  have B5 := Lib.hid (B4.out.kp hK5 (by simp))
  have P5 := Lib.hid (P4.out.grow hK5 (by intro y hy; cases hy))
  have Y5 := Lib.hid (Y4.out.kp hK5 (by simp))
  have Q5 := Lib.hid (Q4.out.grow hK5 (by intro y hy; cases hy))
  have X5 := Lib.hid (X4.out.kp hK5 (by simp))
  have R5 := Lib.hid (R4.out.grow hK5 (by intro y hy; cases hy))
  clear hK5 a0 a1 a2 a3 a4 hw2 hg1 hw4 hg3
  dsimp only
  have a0 := B5.out.cell 0;have a1 := B5.out.cell 1;have a2 := B5.out.cell 2;have a3 := B5.out.cell 3;have a4 := B5.out.cell 4
  go_wp2_with fail
  refine (HP2.out _ P5.out).mono ?_
  rintro e w6 ⟨rfl, hK6⟩
  have K6 := Lib.hid (K5.out.trans hK6)
  have Y6 := Lib.hid (Y5.out.kp hK6 (by simp))
  have Q6 := Lib.hid (Q5.out.grow hK6 (by intro y hy; cases hy))
  have X6 := Lib.hid (X5.out.kp hK6 (by simp))
  have R6 := Lib.hid (R5.out.grow hK6 (by intro y hy; cases hy))
  clear hK6 a0 a1 a2 a3 a4
  dsimp only
  have c0 := Y6.out.cell 0;have c1 := Y6.out.cell 1;have c2 := Y6.out.cell 2;have c3 := Y6.out.cell 3;have c4 := Y6.out.cell 4;have d0 := X6.out.cell 0;have d1 := X6.out.cell 1;have d2 := X6.out.cell 2;have d3 := X6.out.cell 3;have d4 := X6.out.cell 4
  go_wp2_with fail
  refine (sameVia_self _ _ vt vh vb vp _ _ _ _ il _ Q6.out R6.out (Nat.le_refl _) (Nat.le_refl _) (by omega)).mono ?_
  rintro e w7 ⟨rfl, hK7⟩
  have K7 := Lib.hid (K6.out.trans hK7);clear hK7 c0 c1 c2 c3 c4 d0 d1 d2 d3 d4
  go_wp2_with fail
  refine (HAw.out _ (HE.out.kp K7.out (by simp))).mono ?_
  rintro e w8 ⟨rfl, hK8⟩
  have K8 := Lib.hid (K7.out.trans hK8);clear hK8
  go_wp2_with fail
  go_ret
  exact ⟨rfl, K8.out⟩
end Ad
end Go.Proofs.YtmmjfofdnpafkaaGreatDoor
