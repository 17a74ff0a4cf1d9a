/- Contracts of the reference's Start and Feed (layer 6). A state; a slice of bytes. -/
import Derived.Test.YtakanjadcnmciaaDoorHsRc
import Derived.Test.YtakanjadcnmciaaDoorHsPg
namespace Go.Proofs.YtakanjadcnmciaaDoor
namespace Hs
open Go.RowKit Ad

set_option maxRecDepth 100000 in
set_option maxHeartbeats 1000000 in
theorem rstart_any (w : World) : Calls Tryd.prog 19 #[] w (AggP (stC start).toArray w) := by
  have hz1 := zst_run
  have hz2 := zst_ne
  have hN := Blk.new w 32 zst
  have HN := Lib.hid hN
  clear hN
  go_enter Tryd.func19, Tryd.ntmps19
  go_wp2_with (refine wpList_store_rowTo rfl 32 (.tmp 0) (.tmp 2) rfl rfl w.heap.size CS rfl (by show _ = Value.agg CS; kernel_rfl) 32 zst HN.out (by kernel_rfl) (by kernel_rfl) (by kernel_rfl) ?_)
  refine bodyPost_ret (results_cell_row rfl _ _ w.heap.size 32 CS (0, 0) _ rfl (setRow_heap _ _ _ _ _ _ HN.out) Tryd.underlying32 rfl (by kernel_rfl)) rfl ?_
  exact ⟨rfl, ((Kp.refl [] w).alloc _).to_ (kp_setRow _ _ _) (fun y hy => .inr (by rw [List.mem_singleton.1 hy]; exact Nat.le_refl _))⟩
theorem rcanon_c (s : St) (h : Wf s) (C D : Array Value) (hC : (stC s).toArray = C) (hD : (stC (cn s)).toArray = D) (w : World) : Calls Tryd.prog 22 #[.agg C] w (AggP D w) := by
  subst hC
  subst hD
  exact rcanon_any s h w
theorem wf_cn (s : St) (h : Wf s) : Wf (cn s) := ⟨h.h, h.n, (cn_ca s h.t).l⟩
theorem wf_f1 (s : St) (h : Wf s) (c : UInt8) : Wf (f1 s c) := by
  refine ⟨f1_h s c h.h, by rw [f1_n]; exact Nat.mod_lt _ (by decide), ?_⟩
  unfold f1
  split
  · rfl
  · dsimp only
    rw [List.length_set]
    exact h.t
theorem wf_fold (b : List UInt8) : ∀ s, Wf s → Wf (b.foldl f1 s) := by
  induction b with
  | nil => intro s h; exact h
  | cons c t ih => intro s h; exact ih _ (wf_f1 s h c)
theorem fold_next (l : List UInt8) (s : St) (j : Nat) (c : UInt8) (h : l[j]? = some c) : (l.take (j + 1)).foldl f1 s = f1 ((l.take j).foldl f1 s) c := by
  rw [List.take_add_one, h, List.foldl_append]
  rfl
set_option maxRecDepth 100000 in
set_option maxHeartbeats 1000000 in
theorem rfeed_c (s : St) (h : Wf s) (l : List UInt8) (A : Option Addr) (c : Nat) (hc : l.length ≤ c) (C : Array Value) (hC : (stC s).toArray = C) (w : World) (hA : ByIn w A l) (hl : l.length ≤ 4611686018427387904) :
    Calls Tryd.prog 20 #[.agg C, .slice A l.length c] w (AggP (stC (feed s l)).toArray w) := by
  obtain ⟨D, hD⟩ : ∃ D, (stC (cn s)).toArray = D := ⟨_, rfl⟩
  have hwD := wf_cn s h
  have hsz : C.size = 73 := by rw [← hC, List.size_toArray, stC_len s h]
  have hsD : D.size = 73 := by rw [← hD, List.size_toArray, stC_len _ hwD]
  have hoD : D.all (·.oneCell') = true := by rw [← hD]; exact stC_one _
  have hne : ¬ C = #[] := fun h => by rw [h] at hsz; cases hsz
  have hz1 := zst_run
  have hz2 := zst_ne
  have HS := Lib.hid hsz
  have HSD := Lib.hid hsD
  have HD := Lib.hid hD
  have HA := Lib.hid hA
  have HWD := Lib.hid hwD
  have HCa := Lib.hid (fun wz => rcanon_c s h C D hC hD wz)
  obtain ⟨N, hN⟩ : ∃ N, l.length = N := ⟨_, rfl⟩
  have HN := Lib.hid hN
  rw [hN] at hc hl ⊢
  clear hsz hsD hC hD hA hwD hN
  go_enter Tryd.func20, Tryd.ntmps20
  go_upto_region 1 with fail
  obtain ⟨w0, hw0⟩ : ∃ x, ((w.alloc (.cells C 32)).alloc (.cells zst 32)) = x := ⟨_, rfl⟩
  have hs0 : w0.heap.size = w.heap.size + 2 := by rw [← hw0, alloc_sz, alloc_sz]
  have B0 : Blk w0 w.heap.size 32 C := by rw [← hw0]; exact (Blk.new w _ _).alloc _
  have B2 : Blk w0 (w.heap.size + 1) 32 zst := by
    rw [← hw0]
    have := Blk.new (w.alloc (.cells C 32)) 32 zst
    rwa [alloc_sz] at this
  have K0 : Kp [] w w0 := by rw [← hw0]; exact ((Kp.refl _ _).alloc _).alloc _
  rw [hw0]
  have HK0 := Lib.hid K0
  have HB0 := Lib.hid B0
  have HB2 := Lib.hid B2
  unfold Blk at B0
  clear hw0 hz1 hz2 hne K0 B2
  go_wp2_with (first
    | refine wpList_load_row rfl 32 (.tmp 2) rfl w.heap.size rfl 32 C (0, 0) _ B0 Tryd.underlying32 rfl (by rw [infoSt, HS.out]) ?_)
  refine (HCa.out _).mono ?_
  rintro e w1 ⟨rfl, hK1⟩
  have HB1 := Lib.hid (HB0.out.kp hK1 (by simp))
  have HZ1 := Lib.hid (HB2.out.kp hK1 (by simp))
  have HK1 := Lib.hid (HK0.out.trans hK1)
  clear hK1 B0
  go_upto_region 2 with (refine wpList_store_rowTo rfl 32 (.tmp 2) (.tmp 7) rfl rfl w.heap.size D rfl rfl 32 C HB1.out (by rw [infoSt, HSD.out]) (by rw [HS.out, HSD.out]) hoD ?_)
  obtain ⟨w2, hw2⟩ : ∃ x, w1.setRow w.heap.size D = x := ⟨_, rfl⟩
  have b2 : Blk w2 w.heap.size 32 (stC (cn s)).toArray := by rw [← hw2, HD.out]; exact setRow_heap _ _ _ _ _ _ HB1.out
  have k2 : Kp [w.heap.size] w1 w2 := by rw [← hw2]; exact kp_setRow _ _ _
  have HZ2 := Lib.hid (HZ1.out.kp k2 (by simp))
  have HK2 := Lib.hid (HK1.out.to_ k2 (fun y hy => .inr (by rw [List.mem_singleton.1 hy]; exact Nat.le_refl _)))
  rw [hw2]
  have Hb2 := Lib.hid b2
  clear hw2 b2 k2 hoD
  go_wp2_with fail
  go_loopw [5] (fun i wr => ∃ j : Nat, j ≤ N ∧ i = .int .i64 j ∧ Blk wr w.heap.size 32 (stC ((l.take j).foldl f1 (cn s))).toArray ∧ Kp [w.heap.size] w2 wr) (fun i _ => N - (intOf i).toNat)
  case atStart => exact ⟨0, by omega, rfl, Hb2.out, Kp.refl _ _⟩
  case round =>
    obtain ⟨j, hj, rfl, hB, hK⟩ := hrel
    by_cases hlt : j < N
    · obtain ⟨x, hx⟩ : ∃ x, l[j]? = some x := ⟨_, List.getElem?_eq_getElem (by rw [HN.out]; exact hlt)⟩
      obtain ⟨S, hS⟩ : ∃ S, (l.take j).foldl f1 (cn s) = S := ⟨_, rfl⟩
      have hwS : Wf S := by rw [← hS]; exact wf_fold _ _ HWD.out
      have HF := Lib.hid (by rw [fold_next l (cn s) j x hx, hS] : (l.take (j + 1)).foldl f1 (cn s) = f1 S x)
      rw [hS] at hB
      obtain ⟨b, o, rfl, hb, hcb⟩ := HA.out.resolve_left (fun e => by
        have := (List.getElem?_eq_some_iff.1 hx).1
        rw [e] at this
        simp at this)
      have KW := (HK2.out.to_ hK (fun y hy => .inr (by rw [List.mem_singleton.1 hy]; exact Nat.le_refl _)))
      have cx : wr.cell? ⟨b, o + j, none⟩ = some (.int .u8 (x.toNat : Int)) := (KW.cell (p := ⟨b, o + j, none⟩) hb (by simp)).trans (hcb j x hx)
      obtain ⟨hh, m, t⟩ := S
      have hn : m < 18446744073709551616 := hwS.n
      obtain ⟨k, hk⟩ : ∃ k, m % 64 = k := ⟨_, rfl⟩
      have ek : (m : Int) % 64 = (k : Int) := by omega
      have ek2 : (m : Int).tmod 64 = (k : Int) := by rw [Int.tmod_eq_emod_of_nonneg (by omega)]; omega
      have wk : IntKind.i64.wrap (k : Int) = (k : Int) := IntWalk.i64_in _ (by omega)
      have wk2 : IntKind.u64.wrap (k : Int) = (k : Int) := by simp [IntKind.wrap, IntKind.bits, IntKind.signed]; omega
      have k0 : (0 : Int) ≤ (k : Int) := by omega
      have k1 : (k : Int) < 64 := by omega
      have j0 : (0 : Int) ≤ (j : Int) := by omega
      have j1 : (j : Int) < (N : Int) := by omega
      have c8 := hB.cell 8
      rw [List.getElem?_toArray, stC_n _ hwS] at c8
      obtain ⟨M, hM⟩ : ∃ M, (m + 1) % 18446744073709551616 = M := ⟨_, rfl⟩
      have wM : IntKind.u64.wrap ((m : Int) + 1) = (M : Int) := by simp [IntKind.wrap, IntKind.bits, IntKind.signed]; omega
      have wM2 : ((m : Int) + 1) % 18446744073709551616 = (M : Int) := by omega
      have hmk : (m + 1) % 64 = M % 64 := by omega
      have HMM := Lib.hid hM
      have HMK := Lib.hid hmk
      have HK4 := Lib.hid hk
      have HB := Lib.hid hB
      have HK := Lib.hid hK
      have HWS := Lib.hid hwS
      clear hS hB hK hwS hx hcb KW hM hmk hk
      go_wp2_with fail
      go_still_tail 10, (by kernel_rfl)
      change wpList _ _ _ _ _ wr.drew
      obtain ⟨w3, hw3⟩ : ∃ x, wr.drew = x := ⟨_, rfl⟩
      rw [hw3]
      have HB3 := Lib.hid (show Blk w3 w.heap.size 32 (stC ⟨hh, m, t⟩).toArray from by rw [← hw3]; exact HB.out.drew)
      have HK3 := Lib.hid (show Kp [w.heap.size] w2 w3 from by rw [← hw3]; exact HK.out.drew)
      clear hw3 c8 cx
      have hf := HB3.out.frozen (9 + k)
      obtain ⟨y, hy⟩ : ∃ y, w3.cell? ⟨w.heap.size, 9 + k, none⟩ = some y := by
        rw [HB3.out.cell (9 + k), List.getElem?_toArray]
        exact ⟨_, List.getElem?_eq_getElem (by rw [stC_len _ HWS.out]; omega)⟩
      go_upto_region 6 with fail
      obtain ⟨w4, hw4⟩ : ∃ z, w3.setCell ⟨w.heap.size, 9 + k, none⟩ (.int .u8 (x.toNat : Int)) = z := ⟨_, rfl⟩
      rw [hw4]
      have hB4 : Blk w4 w.heap.size 32 (stC ⟨hh, m, t.set k x⟩).toArray := by
        have := HB3.out.set_ (9 + k) (bv x)
        rw [List.setIfInBounds_toArray, stC_set _ HWS.out] at this
        rw [← hw4]
        exact this
      have hwS4 : Wf ⟨hh, m, t.set k x⟩ := ⟨HWS.out.h, HWS.out.n, by show (t.set k x).length = 64; rw [List.length_set]; exact HWS.out.t⟩
      have c8 := hB4.cell 8
      rw [List.getElem?_toArray, stC_n _ hwS4] at c8
      have f8 := hB4.frozen 8
      have HB4 := Lib.hid hB4
      have HW4 := Lib.hid hwS4
      have HK5 := Lib.hid (show Kp [w.heap.size] w2 w4 from by rw [← hw4]; exact kp_set HK3.out _ _)
      clear hw4 hB4 hwS4 hf hy
      go_upto_region 7 with fail
      obtain ⟨w5, hw5⟩ : ∃ z, w4.setCell ⟨w.heap.size, 8, none⟩ (.int .u64 (M : Int)) = z := ⟨_, rfl⟩
      rw [hw5]
      obtain ⟨T, hT⟩ : ∃ T, t.set k x = T := ⟨_, rfl⟩
      have hB5 : Blk w5 w.heap.size 32 (stC ⟨hh, M, T⟩).toArray := by
        have := HB4.out.set_ 8 (.int .u64 (M : Int))
        rw [List.setIfInBounds_toArray, stC_num _ HW4.out] at this
        rw [← hw5, ← hT]
        exact this
      have hwS5 : Wf ⟨hh, M, T⟩ := ⟨HW4.out.h, by have := HMM.out; show M < _; omega, by rw [← hT]; exact HW4.out.t⟩
      have hK5 : Kp [w.heap.size] w2 w5 := by rw [← hw5]; exact kp_set HK5.out _ _
      have c8 := hB5.cell 8
      rw [List.getElem?_toArray, stC_n _ hwS5] at c8
      have HB5 := Lib.hid hB5
      have HW5 := Lib.hid hwS5
      have HK6 := Lib.hid hK5
      obtain ⟨r, hr⟩ : ∃ r, M % 64 = r := ⟨_, rfl⟩
      have er : (M : Int) % 64 = (r : Int) := by omega
      have er2 : (M : Int).tmod 64 = (r : Int) := by rw [Int.tmod_eq_emod_of_nonneg (by omega)]; omega
      have hf1 : f1 ⟨hh, m, t⟩ x = if M % 64 = 0 then ⟨blk hh T, M, pad 64⟩ else ⟨hh, M, T⟩ := by
        unfold f1
        dsimp only
        rw [HMK.out, HMM.out, HK4.out, hT]
      have wr1 : IntKind.u64.wrap (r : Int) = (r : Int) := by simp [IntKind.wrap, IntKind.bits, IntKind.signed]; omega
      clear hw5 hB5 hwS5 hK5 f8 hT ek ek2 wk wk2 wM wM2 k0 k1
      by_cases hr0 : r = 0
      · subst hr0
        rw [if_pos hr] at hf1
        have HF1 := Lib.hid hf1
        have hm0 : (((0 : Nat) : Int) == 0) = true := by decide
        have rh := range_h HB5.out HW5.out
        have rt := range_t HB5.out HW5.out
        have HR := Lib.hid hr
        clear hf1 hr
        go_upto_region 8 with fail
        have HRH := Lib.hid rh
        have HRT := Lib.hid rt
        clear rh rt
        obtain ⟨hB8, hHB8⟩ : ∃ x, blk hh T = x := ⟨_, rfl⟩
        have h88 : hB8.length = 8 := by rw [← hHB8]; rfl
        have HPR := Lib.hid (rblock_any hh HW5.out.h T HW5.out.t w5)
        rw [hHB8] at HPR HF1
        have HE8 := Lib.hid h88
        have HTL := Lib.hid HW5.out.t
        have HHL := Lib.hid HW5.out.h
        clear hHB8 h88
        go_wp2_with (first
          | refine wpList_load_mid rfl 28 (.tmp 32) rfl w.heap.size 0 rfl (hh.map wv) _ HRH.out Tryd.underlying28 rfl (by rw [infoA8, List.length_map]; exact congrArg some HHL.out.symm) ?_
          | refine wpList_load_mid rfl 30 (.tmp 34) rfl w.heap.size 9 rfl (T.map bv) _ HRT.out Tryd.underlying30 rfl (by rw [infoB64, List.length_map]; exact congrArg some HTL.out.symm) ?_)
        refine HPR.out.mono ?_
        rintro e w6 ⟨rfl, hK6⟩
        have HB6 := Lib.hid (HB5.out.kp hK6 (by simp))
        have HK7 := Lib.hid (HK6.out.nil_to hK6)
        obtain ⟨CB, hCB⟩ : ∃ C, (hB8.map wv).toArray = C := ⟨_, rfl⟩
        have hsB : CB.size = 8 := by rw [← hCB, List.size_toArray, List.length_map, HE8.out]
        have hoB : CB.all (·.oneCell') = true := by rw [← hCB]; exact wv_one _
        have HCB := Lib.hid hCB
        have HSB := Lib.hid hsB
        have HTH := Lib.hid (by rw [hsB]; exact there_st HB6.out HW5.out 0 8 (by omega) : w6.there w.heap.size 0 CB.size)
        rw [hCB]
        clear hCB hsB hK6 c8
        go_upto_region 9 with (refine wpList_store_mid rfl 28 (.tmp 37) (.tmp 36) rfl w.heap.size 0 CB rfl rfl HTH.out (by rw [infoA8, HSB.out]) hoB ?_)
        obtain ⟨w7, hw7⟩ : ∃ x, w6.setCells w.heap.size 0 CB.toList = x := ⟨_, rfl⟩
        have hB7 : Blk w7 w.heap.size 32 (stC ⟨hB8, M, T⟩).toArray := by
          have := blk_setCells (hB8.map wv) 0 w6 (stC ⟨hh, M, T⟩) HB6.out (by rw [stC_len _ HW5.out, List.length_map, HE8.out]; omega)
          rw [stC_head _ HW5.out hB8 HE8.out] at this
          rw [← hw7, ← HCB.out]
          exact this
        have hK7 : Kp [w.heap.size] w6 w7 := by rw [← hw7]; exact kp_setCells _ _ _ _
        have hw8 : Wf ⟨hB8, M, T⟩ := ⟨HE8.out, HW5.out.n, HW5.out.t⟩
        rw [hw7]
        obtain ⟨C7, hC7⟩ : ∃ C, (stC ⟨hB8, M, T⟩).toArray = C := ⟨_, rfl⟩
        obtain ⟨C9, hC9⟩ : ∃ C, (stC ⟨hB8, M, pad 64⟩).toArray = C := ⟨_, rfl⟩
        have hcn : cn ⟨hB8, M, T⟩ = ⟨hB8, M, pad 64⟩ := by
          unfold cn
          dsimp only
          rw [HR.out, List.take_zero, List.nil_append]
        have HCa2 := Lib.hid (rcanon_c ⟨hB8, M, T⟩ hw8 C7 C9 hC7 (by rw [hcn]; exact hC9) w7)
        have hs7 : C7.size = 73 := by rw [← hC7, List.size_toArray, stC_len _ hw8]
        have hs9 : C9.size = 73 := by rw [← hC9, ← hcn, List.size_toArray, stC_len _ (wf_cn _ hw8)]
        have ho9 : C9.all (·.oneCell') = true := by rw [← hC9]; exact stC_one _
        rw [hC7] at hB7
        have HB7 := Lib.hid hB7
        have HK8 := Lib.hid (HK7.out.trans hK7)
        have HC9 := Lib.hid hC9
        have HS7 := Lib.hid hs7
        have HS9 := Lib.hid hs9
        unfold Blk at hB7
        clear hw7 hK7 hoB hw8 hC7 hC9 hcn hs7 hs9
        go_wp2_with (first
          | refine wpList_load_row rfl 32 (.tmp 2) rfl w.heap.size rfl 32 C7 (0, 0) _ hB7 Tryd.underlying32 rfl (by rw [infoSt, HS7.out]) ?_)
        refine HCa2.out.mono ?_
        rintro e w8 ⟨rfl, hK8⟩
        have HB8 := Lib.hid (HB7.out.kp hK8 (by simp))
        have HK9 := Lib.hid (HK8.out.nil_to hK8)
        clear hK8 hB7
        go_wp2_with (refine wpList_store_rowTo rfl 32 (.tmp 2) (.tmp 39) rfl rfl w.heap.size C9 rfl rfl 32 C7 HB8.out (by rw [infoSt, HS9.out]) (by rw [HS7.out, HS9.out]) ho9 ?_)
        go_roundw
        case rel => exact ⟨j + 1, by omega, by go_num, by rw [HF.out, HF1.out, HC9.out]; exact setRow_heap _ _ _ _ _ _ HB8.out, HK9.out.trans (kp_setRow _ _ _)⟩
        case measure => simp [intOf]; omega
      · rw [if_neg (by omega)] at hf1
        have HF1 := Lib.hid hf1
        have hm0 : ((r : Int) == 0) = false := by rw [beq_eq_false_iff_ne]; omega
        clear hf1 hr
        go_wp2_with fail
        go_roundw
        case rel => exact ⟨j + 1, by omega, by go_num, by rw [HF.out, HF1.out]; exact HB5.out, HK6.out⟩
        case measure => simp [intOf]; omega
    · obtain rfl : N = j := by omega
      have hall : l.take N = l := List.take_of_length_le (by rw [HN.out]; exact Nat.le_refl _)
      rw [hall] at hB
      obtain ⟨CF, hCF⟩ : ∃ C, (stC (l.foldl f1 (cn s))).toArray = C := ⟨_, rfl⟩
      have hwF := wf_fold l _ HWD.out
      have hsF : CF.size = 73 := by rw [← hCF, List.size_toArray, stC_len _ hwF]
      have hoF : CF.all (·.oneCell') = true := by rw [← hCF]; exact stC_one _
      rw [hCF] at hB
      have hzs := zst_size
      have HZS := Lib.hid hzs
      have HCF := Lib.hid hCF
      have HSF := Lib.hid hsF
      have HZ3 := Lib.hid (HZ2.out.kp hK (by simp))
      have KW := Lib.hid (HK2.out.to_ hK (fun y hy => .inr (by rw [List.mem_singleton.1 hy]; exact Nat.le_refl _)))
      unfold Blk at hB
      have hnl : ¬ (N : Int) < (N : Int) := by omega
      clear hall hCF hwF hsF hK hzs hj hlt
      go_wp2_with (first
        | refine wpList_load_row rfl 32 (.tmp 2) rfl w.heap.size rfl 32 CF (0, 0) _ hB Tryd.underlying32 rfl (by rw [infoSt, HSF.out]) ?_
        | refine wpList_store_rowTo rfl 32 (.tmp 4) (.tmp 40) rfl rfl (w.heap.size + 1) CF rfl rfl 32 zst HZ3.out (by rw [infoSt, HSF.out]) (by rw [HZS.out, HSF.out]) hoF ?_)
      refine bodyPost_ret (results_cell_row rfl _ _ (w.heap.size + 1) 32 CF (0, 0) _ rfl (setRow_heap _ _ _ _ _ _ HZ3.out) Tryd.underlying32 rfl (by rw [infoSt, HSF.out])) rfl ?_
      unfold AggP feed
      rw [HCF.out]
      exact ⟨rfl, KW.out.to_ (kp_setRow _ _ _) (fun y hy => .inr (by rw [List.mem_singleton.1 hy]; omega))⟩
end Hs
end Go.Proofs.YtakanjadcnmciaaDoor
