/- Texts of one set of library modules: HeVb, HeVc. -/
import Derived.Test.YtmmjfofdnpafkaaGreatDoorZ13
import Derived.Test.YtmmjfofdnpafkaaGreatDoorZ12
import Derived.Test.YtmmjfofdnpafkaaGreatDoorZ17
import Derived.Test.YtmmjfofdnpafkaaGreatDoorZ11
import Derived.Test.YtmmjfofdnpafkaaGreatDoorZ10
namespace Go.Proofs.YtmmjfofdnpafkaaGreatDoor
namespace Ad
open Go.RowKit Lx
theorem nbr_nbr (l : List Prm) : nbr (nbr l) = nbr l := by
 unfold nbr
 rw [List.filter_filter]
 congr 1
 funext p
 simp
theorem nbr_vps (l : List Prm) (b : List UInt8) : nbr (vps l b) = nbr l := by
 unfold vps
 have h : nbr (nbr l ++ (if b = [] then [] else [(brnN, b, true)])) = nbr (nbr l) ++ nbr (if b = [] then [] else [(brnN, b, true)]) := List.filter_append ..
 rw [h, nbr_nbr]
 split
 ·exact List.append_nil _
 ·have : nbr [(brnN, b, true)] = [] := by unfold nbr; simp
  rw [this, List.append_nil]
theorem vps_again (l : List Prm) (b : List UInt8) : (vps (srt (vps l b)) b).Perm (vps l b) := by
 have h : (nbr (srt (vps l b))).Perm (nbr l) := by
  rw [← nbr_vps l b]
  exact (srt_perm (vps l b)).filter _
 unfold vps at h ⊢
 exact h.append_right _
theorem via_again (t h b ho : List UInt8) (po : Int) (l : List Prm) (s : List UInt8) (hs : pviO t h b po l = some s) (hh : hostO h = some ho) : pviO (uprL t) ho b po (srt (vps l b)) = some s := by
 obtain ⟨ho', p, h1, h2, h3, h4, h5, h6, _⟩ := via_back t h b po l s hs
 obtain rfl : ho = ho' := Option.some.inj (hh.symm.trans h1)
 have hn := (ppO_some _ _ h2).2.1
 have he : srt (vps (srt (vps l b)) b) = srt (vps l b) :=
  (srt_of (srt (vps l b)) (vps (srt (vps l b)) b) ((srt_perm _).trans (vps_again l b).symm) (srt_srtd _) (hn.perm ((srt_perm _).trans (vps_again l b).symm))).symm
 rw [pvi_some (hostO_idem h ho hh) ⟨uprL_tok t h4, h5, h6⟩ (by rw [he]; exact h2), uprL_idem, h3]
theorem via_found (l : List Prm) (b p : List UInt8) (hp : ppO (srt (vps l b)) = some p) (q : Prm) (hq : q ∈ l) (hne : q.1 ≠ brnN) : getV (srt (vps l b)) q.1 = q.2.1 ∧ getB (srt (vps l b)) q.1 = true := by
 obtain ⟨_, hn, _⟩ := ppO_some _ _ hp
 have ha := ppF_all _ [] p hp
 refine get_uni (srt (vps l b)) q.1 q hn (fun x hx => ?_) ((srt_perm _).mem_iff.2 ?_) rfl
 ·have h := ha x hx
  unfold ppB at h
  simp only [Bool.and_eq_true, decide_eq_true_eq] at h
  exact h.1.1.2
 ·unfold vps
  exact List.mem_append_left _ (List.mem_filter.2 ⟨hq, by simpa using hne⟩)
theorem flat_perm {a b : List Prm} (h : a.Perm b) : (a.flatMap ppL).length = (b.flatMap ppL).length := by
 induction h with
 | nil => rfl
 | cons x _ ih => simp only [List.flatMap_cons, List.length_append, ih]
 | swap x y l => simp only [List.flatMap_cons, List.length_append]; omega
 | trans _ _ h1 h2 => rw [h1, h2]
theorem sumP_nbr (l : List Prm) : sumP (nbr l) ≤ sumP l := by
 unfold nbr
 induction l with
 | nil => exact Nat.le_refl _
 | cons x t ih =>
   rw [List.filter_cons]
   split <;> simp only [sumP] <;> omega
theorem vps_plen (l : List Prm) (b p : List UInt8) (hp : ppO (srt (vps l b)) = some p) : p.length ≤ 2 * sumP l + 2 * b.length + 10 := by
 rw [(ppO_some _ _ hp).2.2, flat_perm (srt_perm (vps l b))]
 unfold vps
 rw [List.flatMap_append, List.length_append]
 have h1 := flat_sum (nbr l)
 have h2 := sumP_nbr l
 have h3 : ((if b = [] then [] else [(brnN, b, true)] : List Prm).flatMap ppL).length ≤ 2 * b.length + 10 := by
  split
  ·simp
  ·rw [List.flatMap_singleton]
   unfold ppL
   have := pvL_len b
   simp [brnN]
   omega
 omega
theorem porL_len (po : Int) (h0 : 0 ≤ po) (h1 : po ≤ 65535) : (porL po).length ≤ 21 := by
 unfold porL
 split
 ·exact Nat.zero_le _
 ·rw [itoa_dec po h0, List.length_cons]
  have := decL_len po.toNat (by omega)
  omega
end Ad
end Go.Proofs.YtmmjfofdnpafkaaGreatDoor
namespace Go.Proofs.YtmmjfofdnpafkaaGreatDoor
namespace Ad
open Go.RowKit Lx
theorem via_sizes (t h b : List UInt8) (po : Int) (l : List Prm) (s : List UInt8) (hs : pviO t h b po l = some s) (hsz : t.length + h.length + b.length + sumP l + 4 ≤ 1048576) (hz : SzP l) : ∃ ho, hostO h = some ho ∧ ho.length ≤ 1048700 ∧ s.length ≤ 4194304 ∧ 0 ≤ po ∧ po ≤ 65535 ∧ viaR s = (⟨uprL t, ho, po, b, srt (vps l b)⟩, 0) ∧
  ((cutT (trS s)).2.1.take (endP endV (cutT (trS s)).2.1 0)).length ≤ 2097152 ∧ ((cutT (trS s)).2.1.drop (endP endV (cutT (trS s)).2.1 0)).length ≤ 2097152 ∧ SzP (parR ((cutT (trS s)).2.1.drop (endP endV (cutT (trS s)).2.1 0))).1 := by
  obtain ⟨ho, p, h1, h2, h3, h4, h5, h6, h7, h8, h9, h10⟩ := via_back t h b po l s hs
  have hh := hostO_len h ho h1
  have hp := vps_plen l b p h2
  have hpo := porL_len po h5 h6
  have ht1 : 1 ≤ t.length := by
   rcases Nat.eq_zero_or_pos t.length with h | h
   ·exact absurd (List.eq_nil_of_length_eq_zero h) ((tokB_iff t).1 h4).1
   ·exact h
  have hu : (uprL t).length = t.length := by unfold uprL; rw [List.length_map]
  refine ⟨ho, h1, by omega, ?_, h5, h6, h10, ?_, ?_, ?_⟩
  ·rw [h3]
   simp only [List.length_append, hu]
   have : protoL.length = 8 := rfl
   simp
   omega
  ·rw [h7, h8]
   dsimp only
   rw [h9, List.take_left' rfl, List.length_append]
   omega
  ·rw [h7, h8]
   dsimp only
   rw [h9, List.drop_left' rfl]
   omega
  ·rw [h7, h8]
   dsimp only
   rw [h9, List.drop_left' rfl, parR_print _ p h2]
   exact szP_perm (vps_sz l b hz (by omega)) (srt_perm _)
theorem cell_of_pms {B : Nat} {w : World} {A : Option Addr} {n c : Nat} {l : List Prm} (h : PmIn B w (.slice A n c) l) (k : Nat) (hk : k < l.length) : ∃ b o, A = some ⟨b, o, none⟩ ∧ n = l.length ∧ ∀ j u, (pcl l)[j]? = some u → w.cell? ⟨b, o + j, none⟩ = some u := by
 obtain ⟨n', c', h1, _, ⟨h0, he⟩ | ⟨b, o, he, _, hc⟩⟩ := h
 ·omega
 ·injection he with e1 e2 e3
  exact ⟨b, o, e1, by rw [e2]; exact h1, hc⟩
set_option maxRecDepth 100000 in
set_option maxHeartbeats 8000000 in
theorem viaback_law (B : Nat) (t h b : List UInt8) (po : Int) (A : Option Addr) (c : Nat) (l : List Prm) (w : World) (hP : PmIn B w (.slice A l.length c) l) (hB : B ≤ w.heap.size) (hz : SzL 1048576 l) (hs : t.length + h.length + b.length + sumP l + 4 ≤ 1048576) (hl : l.length ≤ 1048576) (hp0 : -9223372036854775808 ≤ po) (hp1 : po ≤ 9223372036854775807) (H : HEnv w) :
  Calls Tryz.prog 11 #[.agg #[.string (Txt t), .string (Txt h), .int .i64 po, .string (Txt b), .slice A l.length c]] w (BoK true w) := by
 obtain ⟨w0, hw0⟩ : ∃ x, w.alloc (.cells #[.string (Txt t), .string (Txt h), .int .i64 po, .string (Txt b), .slice A l.length c] 33) = x := ⟨_, rfl⟩
 have B0 := Lib.hid (show Blk w0 w.heap.size 33 #[.string (Txt t), .string (Txt h), .int .i64 po, .string (Txt b), .slice A l.length c] from by rw [← hw0]; exact Blk.new w _ _)
 have k0 : Kp [] w w0 := by rw [← hw0]; exact (Kp.refl _ _).alloc _
 have K0 := Lib.hid k0
 have P0 := Lib.hid ((hP.kp k0 hB (by simp)).more (Nat.le_trans hB k0.size))
 have HAw := Lib.hid (fun wz (h : HEnv wz) => hawake_any wz h)
 have HE := Lib.hid H
 have hzp : SzP l := fun p hp => by have := hz p hp; omega
 have HZ := Lib.hid hzp
 obtain ⟨o, ho⟩ : ∃ o, pviO t h b po l = o := ⟨_, rfl⟩
 have HO := Lib.hid ho
 have HSz := Lib.hid (fun s (h9 : o = some s) => via_sizes t h b po l s (by rw [ho, h9]) hs hzp)
 have HBk := Lib.hid (fun s (h9 : o = some s) => via_back t h b po l s (by rw [ho, h9]))
 have HAg := Lib.hid (fun s ho' (h9 : o = some s) (h8 : hostO h = some ho') => via_again t h b ho' po l s (by rw [ho, h9]) h8)
 have ht1 : t.length ≤ 1048576 := by omega
 have hh1 : h.length ≤ 1048576 := by omega
 have hb1 : b.length ≤ 1048576 := by omega
 clear k0 hP H hz ho hs hzp
 go_enter Tryz.func11, Tryz.ntmps11
 have a0 := B0.out.cell 0
 have a1 := B0.out.cell 1
 have a2 := B0.out.cell 2
 have a3 := B0.out.cell 3
 have a4 := B0.out.cell 4
 by_cases h40 : 40 < l.length
 ·go_wp2_with fail
  refine (HAw.out _ (HE.out.kp K0.out (by simp))).mono ?_
  rintro e w1 ⟨rfl, hK1⟩
  have K1 := Lib.hid (K0.out.trans hK1)
  clear hK1
  go_wp2_with fail
  go_ret
  exact ⟨rfl, K1.out⟩
 ·go_wp2_with fail
  refine (printVia_any _ t h b po A c l w0 P0.out (Nat.le_refl _) ht1 (by omega) hb1 HZ.out (by omega) hp0 hp1 (HE.out.kp K0.out (by simp)).env).mono ?_
  rintro e w1 ⟨rfl, hK1⟩
  rw [HO.out]
  have K1 := Lib.hid (K0.out.trans hK1)
  have B1 := Lib.hid (B0.out.kp hK1 (by simp))
  have P1 := Lib.hid (P0.out.grow hK1 (by intro y hy; cases hy))
  clear hK1 a0 a1 a2 a3 a4
  cases o with
  | none =>
    simp only [Option.getD_none, Option.isSome_none, Bool.false_eq_true, if_false]
    have te := emp_yes [] rfl
    go_wp2_with fail
    refine (HAw.out _ (HE.out.kp K1.out (by simp))).mono ?_
    rintro e w2 ⟨rfl, hK2⟩
    have K2 := Lib.hid (K1.out.trans hK2)
    clear hK2
    go_wp2_with fail
    go_ret
    exact ⟨rfl, K2.out⟩
  | some s =>
    simp only [Option.getD_some, Option.isSome_some, if_true]
    obtain ⟨ho, e1, e2, e3, e4, e5, e6, e7, e8, e9⟩ := HSz.out s rfl
    have HHo := Lib.hid e1
    have HAg2 := Lib.hid (HAg.out s ho rfl e1)
    obtain ⟨p, hpp⟩ : ∃ p, ppO (srt (vps l b)) = some p := by obtain ⟨_, p, _, h2, _⟩ := HBk.out s rfl; exact ⟨p, h2⟩
    have HF := Lib.hid (fun q (hq : q ∈ l) (hne : q.1 ≠ brnN) => via_found l b p hpp q hq hne)
    have hPl : (srt (vps l b)).length = (nbr l).length + (if b = [] then 0 else 1) := by
     rw [(srt_perm _).length_eq]; unfold vps; rw [List.length_append]; split <;> rfl
    have hPz : SzP (srt (vps l b)) := szP_perm (vps_sz l b HZ.out (by omega)) (srt_perm _)
    have hPl2 : (srt (vps l b)).length ≤ 1048577 := by rw [(srt_perm _).length_eq]; have := vps_len l b; omega
    obtain ⟨P, hPe⟩ : ∃ P, srt (vps l b) = P := ⟨_, rfl⟩
    rw [hPe] at HF hPl hPz hPl2 HAg2 e6
    have HPz := Lib.hid hPz
    have HPl := Lib.hid hPl
    have HV := Lib.hid (fun wz (h9 : HEnv wz) => (by
     have h := via_big (Txt s) wz (by rw [txt_size]; exact e3) (by rw [txt_list]; exact e7) (by rw [txt_list]; exact e8) (by rw [txt_list]; exact e9) h9.env
     rw [txt_list, e6] at h
     exact h : Calls Tryz.prog 20 #[.string (Txt s)] wz (ViE (⟨uprL t, ho, po, b, P⟩, 0) wz)))
    clear e1 e3 e6 e7 e8 e9 hpp hPl hPz hPe HBk HSz HAg
    go_wp2_with fail
    refine (HV.out _ (HE.out.kp K1.out (by simp))).mono ?_
    rintro e w2 ⟨v2, rfl, hP2, hK2⟩
    obtain ⟨A2, c2, rfl⟩ := hP2.form
    dsimp only at hP2 ⊢
    obtain ⟨w3, hw3⟩ : ∃ x, w2.alloc (.cells #[.string (Txt (uprL t)), .string (Txt ho), .int .i64 po, .string (Txt b), .slice A2 P.length c2] 33) = x := ⟨_, rfl⟩
    have k3 : Kp [] w2 w3 := by rw [← hw3]; exact (Kp.refl _ _).alloc _
    obtain ⟨g, hg⟩ : ∃ x, w2.heap.size = x := ⟨_, rfl⟩
    have Y3 := Lib.hid (show Blk w3 g 33 #[.string (Txt (uprL t)), .string (Txt ho), .int .i64 po, .string (Txt b), .slice A2 P.length c2] from by rw [← hw3, ← hg]; exact Blk.new w2 _ _)
    have Q3 := Lib.hid (hP2.grow k3 (by intro y hy; cases hy))
    have K3 := Lib.hid ((K1.out.trans hK2).trans k3)
    have B3 := Lib.hid (B1.out.kp (hK2.trans k3) (by simp))
    have P3 := Lib.hid (P1.out.grow (hK2.trans k3) (by intro y hy; cases hy))
    clear hK2 k3 hP2
    have a1 := B3.out.cell 1
    go_wp2_with fail
    have hHo := Host_any (Txt h) w3 (by rw [txt_size]; omega) (HE.out.kp K3.out (by simp)).env
    rw [txt_list, HHo.out] at hHo
    refine hHo.mono ?_
    rintro e w4 ⟨rfl, hB4⟩
    have hK4 := (Kp.refl [] w3).below hB4
    have K4 := Lib.hid (K3.out.trans hK4)
    have B4 := Lib.hid (B3.out.kp hK4 (by simp))
    have P4 := Lib.hid (P3.out.grow hK4 (by intro y hy; cases hy))
    have Y4 := Lib.hid (Y3.out.kp hK4 (by simp))
    have Q4 := Lib.hid (Q3.out.grow hK4 (by intro y hy; cases hy))
    clear hK4 hB4 hHo a1 hw3 hg
    simp only [Option.getD_some, Option.isSome_some]
    have g0 := grew_cell (B4.out.cell 0)
    have g2 := grew_cell (B4.out.cell 2)
    have g3 := grew_cell (B4.out.cell 3)
    have y0 := grew_cell (Y4.out.cell 0)
    have y1 := grew_cell (Y4.out.cell 1)
    have y2 := grew_cell (Y4.out.cell 2)
    have y3 := grew_cell (Y4.out.cell 3)
    have HL1 := Lib.hid (fun wz => (by have h := rLower_any (Txt (uprL t)) wz (by rw [txt_size]; unfold uprL; rw [List.length_map]; omega); rw [txt_list, uprL_low] at h; exact h.mono fun e w' h => ⟨h.1, (Kp.refl _ _).below h.2⟩ : Calls Tryz.prog 53 #[.string (Txt (uprL t))] wz (TxK (lowL t) wz)))
    have HL2 := Lib.hid (fun wz => (by have h := rLower_any (Txt t) wz (by rw [txt_size]; omega); rw [txt_list] at h; exact h.mono fun e w' h => ⟨h.1, (Kp.refl _ _).below h.2⟩ : Calls Tryz.prog 53 #[.string (Txt t)] wz (TxK (lowL t) wz)))
    have bh : ((Txt ho).toList == (Txt ho).toList) = true := beq_self_eq_true _
    have bb1 : ((Txt b).toList == (Txt b).toList) = true := beq_self_eq_true _
    have bl : ((Txt (lowL t)).toList == (Txt (lowL t)).toList) = true := beq_self_eq_true _
    have bp : (po == po) = true := beq_self_eq_true _
    have HG1 := Lib.hid (fun n : Gw w4 => Calls.grew_of (n := n) (HL1.out (grew w4 n)) (fun _ _ h => h))
    have HG2 := Lib.hid (fun n : Gw w4 => Calls.grew_of (n := n) (HL2.out (grew w4 n)) (fun _ _ h => h))
    clear HL1 HL2
    go_upto_region 8 with fail
    refine wp_region_grew (by kernel_rfl) (by kernel_rfl) ?_
    repeat (go_big_quiet_step ((go_at_call 53; first | (with_reducible exact HG1.out _) | (with_reducible exact HG2.out _))))
    refine wpQuiet_nil ?_
    intro _ hw'
    obtain ⟨nq, hw''⟩ := hw'
    subst hw''
    obtain ⟨w5, hw5⟩ : ∃ x, grew w4 nq = x := ⟨_, rfl⟩
    have k5 : Kp [] w4 w5 := by rw [← hw5]; exact grew_kp _ _
    have K5 := Lib.hid (K4.out.trans k5)
    have B5 := Lib.hid (B4.out.kp k5 (by simp))
    have P5 := Lib.hid (P4.out.grow k5 (by intro y hy; cases hy))
    have Y5 := Lib.hid (Y4.out.kp k5 (by simp))
    have Q5 := Lib.hid (Q4.out.grow k5 (by intro y hy; cases hy))
    rw [hw5]
    clear hw5 k5 g0 g2 g3 y0 y1 y2 y3 HG1 HG2 bl bh bb1 bp
    go_wp2_with fail
    go_loopw [9, 10] (fun n i wr => ∃ k : Nat, k ≤ l.length ∧ i = .int .i64 k ∧ n = .int .i64 ((nbr (l.take k)).length : Nat) ∧ Kp [] w5 wr) (fun _ i _ => l.length - (intOf i).toNat)
    case atStart => exact ⟨0, Nat.zero_le _, rfl, rfl, Kp.refl _ _⟩
    case round =>
     obtain ⟨k, hk, rfl, rfl, hKr⟩ := hrel
     have Br := Lib.hid (B5.out.kp hKr (by simp))
     have Pr := Lib.hid (P5.out.grow hKr (by intro y hy; cases hy))
     have Yr := Lib.hid (Y5.out.kp hKr (by simp))
     have Qr := Lib.hid (Q5.out.grow hKr (by intro y hy; cases hy))
     have KR := Lib.hid hKr
     clear hKr
     have hnl := nbr_take l k
     have hnl2 := nbr_len l
     have a4 := Br.out.cell 4
     by_cases hlt : k < l.length
     ·obtain ⟨⟨x1, x2, x3⟩, hx⟩ : ∃ x, l[k]? = some x := ⟨_, List.getElem?_eq_getElem hlt⟩
      obtain ⟨bb2, oo, rfl, _, hc⟩ := cell_of_pms Pr.out k hlt
      obtain ⟨p0, p1, p2⟩ := pcl_three l k x1 x2 x3 hx
      have c0 : wr.cell? ⟨bb2, oo + k * 3, none⟩ = some (.string ⟨x1.toArray⟩) := hc _ _ p0
      have c1 : wr.cell? ⟨bb2, oo + k * 3 + 1, none⟩ = some (.string ⟨x2.toArray⟩) := hc _ _ p1
      have HT := Lib.hid (by rw [take_snocP l k _ hx, nbr_snoc] : nbr (l.take (k + 1)) = nbr (l.take k) ++ (if x1 = brnN then [] else [(x1, x2, x3)]))
      have Hx := Lib.hid (List.mem_of_getElem? hx)
      have hx1 := (HZ.out _ Hx.out).1
      clear p0 p1 p2 hc hx
      by_cases hbr : x1 = brnN
      ·have hn1 : (x1 == [98, 114, 97, 110, 99, 104]) = true := by rw [hbr]; rfl
       have hn2 : x1 = [98, 114, 97, 110, 99, 104] := hbr
       have HB := Lib.hid hbr
       clear hbr
       go_wp2_with fail
       go_roundw
       case rel => exact ⟨k + 1, by omega, by go_num, by rw [HT.out, if_pos HB.out, List.append_nil], KR.out⟩
       case measure => simp [intOf]; omega
      ·have hn1 : (x1 == [98, 114, 97, 110, 99, 104]) = false := beq_eq_false_iff_ne.2 hbr
       have hn2 : ¬ x1 = [98, 114, 97, 110, 99, 104] := hbr
       obtain ⟨f1, f2⟩ := HF.out _ Hx.out hbr
       have HB := Lib.hid hbr
       dsimp only at f1 f2 hx1
       clear hbr
       have HGt := Lib.hid (fun n : Gw wr => Calls.grew_of (n := n) (v := .tuple #[.string ⟨x2.toArray⟩, .bool true]) (get_any _ _ P x1 _ (Qr.out.grow (grew_kp wr n) (by intro y hy; cases hy)) (Nat.le_refl _) HPz.out (by omega) hx1) (fun e w' hh => by unfold GeP at hh; rw [f1, f2] at hh; exact hh))
       have y4 := grew_cell (Yr.out.cell 4)
       have g4 := grew_cell a4
       have g0 := grew_cell c0
       clear f1 f2
       go_upto_region 16 with fail
       refine wp_region_grew (by kernel_rfl) (by kernel_rfl) ?_
       repeat (go_big_quiet_step ((go_at_call 54; exact HGt.out _)))
       refine wpQuiet_nil ?_
       intro _ hw'
       obtain ⟨nq2, hw''⟩ := hw'
       subst hw''
       have g1 := grew_cell c1 nq2
       have g5 := g4 nq2
       have K6 := Lib.hid (KR.out.trans (grew_kp wr nq2))
       have HLn := Lib.hid (by rw [HT.out, if_neg HB.out, List.length_append]; rfl : (nbr (l.take (k + 1))).length = (nbr (l.take k)).length + 1)
       go_wp2_with fail
       go_roundw
       case rel => exact ⟨k + 1, by omega, by go_num, by rw [HLn.out]; go_num, K6.out⟩
       case measure => simp [intOf]; omega
     ·obtain rfl : k = l.length := by omega
      rw [List.take_length]
      have HAg3 := HAg2
      have KW := Lib.hid (K5.out.trans KR.out)
      have a3 := Br.out.cell 3
      have y0 := Yr.out.cell 0
      have y1 := Yr.out.cell 1
      have y2 := Yr.out.cell 2
      have y3 := Yr.out.cell 3
      have y4 := Yr.out.cell 4
      have HPv := Lib.hid (by have h9 := printVia_any _ (uprL t) ho b po A2 c2 P wr Qr.out (Nat.le_refl _) (by unfold uprL; rw [List.length_map]; exact ht1) (by omega) hb1 HPz.out hPl2 hp0 hp1 (HE.out.kp KW.out (by simp)).env; rw [HAg3.out] at h9; exact h9)
      have bs : ((Txt s).toList == (Txt s).toList) = true := beq_self_eq_true _
      have HN := Lib.hid (show nbr l = nbr l from rfl)
      obtain ⟨m, hm⟩ : ∃ m, (nbr l).length = m := ⟨_, rfl⟩
      have hpl := HPl.out
      rw [hm] at hpl hnl2
      rw [hm]
      clear hnl HAg2 HAg3
      by_cases hbe : b = []
      ·have hn1 := emp_yes b hbe
       rw [if_pos hbe] at hpl
       have hq : ((P.length : Int) == (m : Int)) = true := by rw [hpl]; simp
       clear hbe hpl
       go_wp2_with fail
       refine HPv.out.mono ?_
       rintro e w6 ⟨rfl, hK6⟩
       simp only [Option.getD_some, Option.isSome_some, if_true]
       have K6 := Lib.hid (KW.out.trans hK6)
       have y4' := (Yr.out.kp hK6 (by simp)).cell 4
       clear hK6 y0 y1 y2 y3 y4 a3 a4
       go_wp2_with fail
       refine (HAw.out _ (HE.out.kp K6.out (by simp))).mono ?_
       rintro e w7 ⟨rfl, hK7⟩
       have K7 := Lib.hid (K6.out.trans hK7)
       clear hK7
       go_wp2_with fail
       go_ret
       exact ⟨rfl, K7.out⟩
      ·have hn1 := emp_no b hbe
       rw [if_neg hbe] at hpl
       have hq : ((P.length : Int) == (m : Int) + 1) = true := by rw [hpl]; simp
       clear hbe hpl
       go_wp2_with fail
       refine HPv.out.mono ?_
       rintro e w6 ⟨rfl, hK6⟩
       simp only [Option.getD_some, Option.isSome_some, if_true]
       have K6 := Lib.hid (KW.out.trans hK6)
       have y4' := (Yr.out.kp hK6 (by simp)).cell 4
       clear hK6 y0 y1 y2 y3 y4 a3 a4
       go_wp2_with fail
       refine (HAw.out _ (HE.out.kp K6.out (by simp))).mono ?_
       rintro e w7 ⟨rfl, hK7⟩
       have K7 := Lib.hid (K6.out.trans hK7)
       clear hK7
       go_wp2_with fail
       go_ret
       exact ⟨rfl, K7.out⟩
end Ad
end Go.Proofs.YtmmjfofdnpafkaaGreatDoor
