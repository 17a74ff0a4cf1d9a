/- Contract of the reference's Finish (layer 6). A state. -/
import Derived.Test.YtakanjadcnmciaaDoorHsRf
import Derived.Test.YtakanjadcnmciaaDoorHsLb
namespace Go.Proofs.YtakanjadcnmciaaDoor
namespace Hs
open Go.RowKit Ad

/-- How many bytes 0 are still to be fed, from the number of bytes in a state. -/
def padLeft : Option Value → Nat
  | some (.int _ x) => (120 - (x % 64).toNat) % 64
  | _ => 0
theorem pad_feed (s : St) (h : s.t.length = 64) (a : List UInt8) (j : Nat) : feed (feed (feed s a) (pad j)) [0] = feed (feed s a) (pad (j + 1)) := by
  rw [feed_split (feed s a) (pad j) [0] (ca_feed s a h).l]
  unfold pad
  rw [List.replicate_succ']
theorem newB_in {w : World} {cs : List UInt8} {t : TypeId} : ByIn (w.alloc (.cells (cs.map bv).toArray t)) (some ⟨w.heap.size, 0, none⟩) cs :=
  .inr ⟨w.heap.size, 0, rfl, by rw [alloc_sz]; omega, fun i c hi => by
    rw [Nat.zero_add, (Blk.new w t (cs.map bv).toArray).cell i, List.getElem?_toArray, List.getElem?_map, hi]
    rfl⟩
set_option maxRecDepth 100000 in
set_option maxHeartbeats 1000000 in
theorem rfin_c (s : St) (h : Wf s) (C : Array Value) (hC : (stC s).toArray = C) (w : World) :
    Calls Tryd.prog 21 #[.agg C] w (AggP ((finish s).map bv).toArray w) := by
  obtain ⟨i0, hi, hz0, hz1, hz2⟩ := info_parts' infoB
  have hsz : C.size = 73 := by rw [← hC, List.size_toArray, stC_len s h]
  have hne : ¬ C = #[] := fun h => by rw [h] at hsz; cases hsz
  have hzr := zst_run
  have hzn := zst_ne
  have HC := Lib.hid hC
  have HS := Lib.hid hsz
  have HWf := Lib.hid h
  clear hC hsz
  go_enter Tryd.func21, Tryd.ntmps21
  go_upto_region 1 with fail
  rw [zero32]
  obtain ⟨w0, hw0⟩ : ∃ x, ((w.alloc (.cells C 32)).alloc (.cells zB 24)) = x := ⟨_, rfl⟩
  have hs0 : w0.heap.size = w.heap.size + 2 := by rw [← hw0, alloc_sz, alloc_sz]
  have B0 : Blk w0 w.heap.size 32 C := by rw [← hw0]; exact (Blk.new w _ _).alloc _
  have B2 : Blk w0 (w.heap.size + 1) 24 zB := by
    rw [← hw0]
    have := Blk.new (w.alloc (.cells C 32)) 24 zB
    rwa [alloc_sz] at this
  have K0 : Kp [] w w0 := by rw [← hw0]; exact ((Kp.refl _ _).alloc _).alloc _
  rw [hw0]
  have c8 := B0.cell 8
  rw [← HC.out, List.getElem?_toArray, stC_n s h] at c8
  have HK0 := Lib.hid K0
  have HB0 := Lib.hid B0
  have HB2 := Lib.hid B2
  have HS0 := Lib.hid hs0
  obtain ⟨n, hn⟩ : ∃ n, s.n = n := ⟨_, rfl⟩
  have hnl : n < 18446744073709551616 := by rw [← hn]; exact h.n
  rw [hn] at c8
  obtain ⟨T, hT⟩ : ∃ T, (8 * n) % 18446744073709551616 = T := ⟨_, rfl⟩
  have hT8 : IntKind.u64.wrap ((n : Int) * 8) = (T : Int) := by simp [IntKind.wrap, IntKind.bits, IntKind.signed]; omega
  have hT9 : IntKind.u64.wrap (8 * (n : Int)) = (T : Int) := by simp [IntKind.wrap, IntKind.bits, IntKind.signed]; omega
  have hT7 : (8 * (n : Int)) % 18446744073709551616 = (T : Int) := by omega
  have HT := Lib.hid hT
  have HN := Lib.hid hn
  unfold Blk at B0
  clear hw0 hs0 K0 B2 hne hT hn h
  go_upto_region 2 with fail
  clear c8 hT8 hT9 hT7
  have hb1 : ByIn (w0.alloc (.cells (([128] : List UInt8).map bv).toArray 5)) (some ⟨w0.heap.size, 0, none⟩) [128] := newB_in
  have HF1 := Lib.hid (rfeed_c s HWf.out [128] (some ⟨w0.heap.size, 0, none⟩) 1 (by decide) C HC.out _ hb1 (by decide))
  have HKa := Lib.hid (HK0.out.alloc (.cells (([128] : List UInt8).map bv).toArray 5))
  have HBa := Lib.hid (HB0.out.alloc (.cells (([128] : List UInt8).map bv).toArray 5))
  have HRa := Lib.hid (HB2.out.alloc (.cells (([128] : List UInt8).map bv).toArray 5))
  clear hb1
  go_wp2_with (first
    | refine wpList_load_row rfl 32 (.tmp 1) rfl w.heap.size rfl 32 C (0, 0) _ B0 Tryd.underlying32 rfl (by rw [infoSt, HS.out]) ?_)
  refine HF1.out.mono ?_
  rintro e w1 ⟨rfl, hK1⟩
  obtain ⟨S1, hS1⟩ : ∃ S1, feed s [128] = S1 := ⟨_, rfl⟩
  have hw1 : Wf S1 := by rw [← hS1]; exact wf_feed s HWf.out [128]
  have hn1 : S1.n = (n + 1) % 18446744073709551616 := by rw [← hS1, feed_n s _ HWf.out.n, HN.out]; rfl
  rw [hS1]
  obtain ⟨C1, hC1⟩ : ∃ C, (stC S1).toArray = C := ⟨_, rfl⟩
  have hs1 : C1.size = 73 := by rw [← hC1, List.size_toArray, stC_len _ hw1]
  have ho1 : C1.all (·.oneCell') = true := by rw [← hC1]; exact stC_one _
  rw [hC1]
  have HS1 := Lib.hid hS1
  have HW1 := Lib.hid hw1
  have HN1 := Lib.hid hn1
  have HC1 := Lib.hid hC1
  have HZ1 := Lib.hid hs1
  have HKb := Lib.hid (HKa.out.trans hK1)
  have HRb := Lib.hid (HRa.out.kp hK1 (by simp))
  have hgs : w.heap.size + 2 ≤ w1.heap.size := by
    have := hK1.size
    rw [alloc_sz, HS0.out] at this
    omega
  have hzz := zst_size
  have HZZ := Lib.hid hzz
  have hN4 := Blk.new w1 32 zst
  obtain ⟨gT, hgT⟩ : ∃ g, w1.heap.size = g := ⟨_, rfl⟩
  rw [hgT] at hN4 hgs
  have HN4 := Lib.hid hN4
  have HGT := Lib.hid hgT
  clear hS1 hw1 hn1 hC1 hs1 hK1 hzz hN4 B0
  go_upto_region 3 with (refine wpList_store_rowTo rfl 32 (.tmp 4) (.tmp 15) rfl rfl gT C1 rfl rfl 32 zst HN4.out (by rw [infoSt, HZ1.out]) (by rw [HZZ.out, HZ1.out]) ho1 ?_)
  obtain ⟨w2, hw2⟩ : ∃ x, (w1.alloc (.cells zst 32)).setRow gT C1 = x := ⟨_, rfl⟩
  have b2 : Blk w2 gT 32 (stC S1).toArray := by rw [← hw2, HC1.out]; exact setRow_heap _ _ _ _ _ _ HN4.out
  have k2 : Kp [gT] w1 w2 := by rw [← hw2]; exact ((Kp.refl [gT] w1).alloc _).trans (kp_setRow _ _ _)
  have hz2' : w2.heap.size = gT + 1 := by rw [← hw2, size_setRow, alloc_sz, HGT.out]
  rw [hw2]
  have HB2b := Lib.hid b2
  have HKc := Lib.hid (HKb.out.to_ k2 (fun y hy => .inr (by rw [List.mem_singleton.1 hy]; omega)))
  have HRc := Lib.hid (HRb.out.kp k2 (by simp; omega))
  have HSz2 := Lib.hid hz2'
  clear hw2 b2 k2 hz2' ho1 hgT
  obtain ⟨z, hz⟩ : ∃ z, zeros (n % 64) = z := ⟨_, rfl⟩
  have HZn := Lib.hid hz
  go_loopw [] (fun wr => ∃ j : Nat, j ≤ z ∧ Blk wr gT 32 (stC (feed S1 (pad j))).toArray ∧ Kp [gT] w2 wr) (fun wr => padLeft (wr.cell? ⟨gT, 8, none⟩))
  case atStart =>
    refine ⟨0, by omega, ?_, Kp.refl _ _⟩
    have : feed S1 (pad 0) = S1 := by rw [← HS1.out]; exact ca_cn _ (ca_feed s [128] HWf.out.t)
    rw [this]
    exact HB2b.out
  case round =>
    obtain ⟨j, hj, hB, hK⟩ := hrel
    obtain ⟨S2, hS2⟩ : ∃ S, feed S1 (pad j) = S := ⟨_, rfl⟩
    have hw2 : Wf S2 := by rw [← hS2]; exact wf_feed S1 HW1.out _
    have hn2 : S2.n = (n + 1 + j) % 18446744073709551616 := by
      rw [← hS2, feed_n S1 _ HW1.out.n, HN1.out]
      unfold pad
      rw [List.length_replicate]
      omega
    obtain ⟨m, hm⟩ : ∃ m, S2.n = m := ⟨_, rfl⟩
    rw [hm] at hn2
    rw [hS2] at hB
    have c8 := hB.cell 8
    rw [List.getElem?_toArray, stC_n _ hw2, hm] at c8
    obtain ⟨r, hr⟩ : ∃ r, m % 64 = r := ⟨_, rfl⟩
    have er : (m : Int) % 64 = (r : Int) := by omega
    have er2 : (m : Int).tmod 64 = (r : Int) := by rw [Int.tmod_eq_emod_of_nonneg (by omega)]; omega
    have wr1 : IntKind.u64.wrap (r : Int) = (r : Int) := by simp [IntKind.wrap, IntKind.bits, IntKind.signed]; omega
    have hmr : (n + 1 + j) % 64 = r := by omega
    have HB := Lib.hid hB
    have HK := Lib.hid hK
    have HW2 := Lib.hid hw2
    have HS2 := Lib.hid hS2
    have HM := Lib.hid hm
    have HMr := Lib.hid hmr
    have Hr := Lib.hid hr
    have Hn2 := Lib.hid hn2
    clear hS2 hm hn2 hr
    by_cases hlt : j < z
    · have hne : ((r : Int) == 56) = false := by
        have := zeros_before n j (by rw [HZn.out]; exact hlt)
        rw [beq_eq_false_iff_ne]; omega
      have hne2 : ¬ (r : Int) = 56 := by
        have := zeros_before n j (by rw [HZn.out]; exact hlt)
        omega
      clear hmr hB hK hw2
      go_upto_region 4 with fail
      obtain ⟨C2, hC2⟩ : ∃ C, (stC S2).toArray = C := ⟨_, rfl⟩
      obtain ⟨C3, hC3⟩ : ∃ C, (stC (feed S1 (pad (j + 1)))).toArray = C := ⟨_, rfl⟩
      have hw3 : Wf (feed S1 (pad (j + 1))) := wf_feed S1 HW1.out _
      have hs2 : C2.size = 73 := by rw [← hC2, List.size_toArray, stC_len _ HW2.out]
      have hs3 : C3.size = 73 := by rw [← hC3, List.size_toArray, stC_len _ hw3]
      have ho3 : C3.all (·.oneCell') = true := by rw [← hC3]; exact stC_one _
      have hb1 : ByIn (wr.alloc (.cells (([0] : List UInt8).map bv).toArray 5)) (some ⟨wr.heap.size, 0, none⟩) [0] := newB_in
      have HF2 := Lib.hid (by
        have := rfeed_c S2 HW2.out [0] (some ⟨wr.heap.size, 0, none⟩) 1 (by decide) C2 hC2 _ hb1 (by decide)
        rw [← HS2.out, ← HS1.out, pad_feed s HWf.out.t [128] j, HS1.out, hC3] at this
        exact this)
      have hbB := HB.out
      rw [hC2] at hbB
      have HKn := Lib.hid (HK.out.alloc (.cells (([0] : List UInt8).map bv).toArray 5))
      have HBn := Lib.hid (hbB.alloc (.cells (([0] : List UInt8).map bv).toArray 5))
      have HZ2 := Lib.hid hs2
      have HZ3 := Lib.hid hs3
      have HC3 := Lib.hid hC3
      have HM3 := Lib.hid (show (feed S1 (pad (j + 1))).n = (n + 1 + (j + 1)) % 18446744073709551616 from by
        rw [feed_n S1 _ HW1.out.n, HN1.out]
        unfold pad
        rw [List.length_replicate]
        omega)
      have HW3 := Lib.hid hw3
      unfold Blk at hbB
      clear hC2 hC3 hw3 hs2 hs3 hb1 c8
      go_wp2_with (first
        | refine wpList_load_row rfl 32 (.tmp 4) rfl gT rfl 32 C2 (0, 0) _ hbB Tryd.underlying32 rfl (by rw [infoSt, HZ2.out]) ?_)
      refine HF2.out.mono ?_
      rintro e w3 ⟨rfl, hK3⟩
      have HB3 := Lib.hid (HBn.out.kp hK3 (by simp))
      have HK3 := Lib.hid (HKn.out.nil_to hK3)
      clear hK3 hbB
      go_wp2_with (refine wpList_store_rowTo rfl 32 (.tmp 4) (.tmp 22) rfl rfl gT C3 rfl rfl 32 C2 HB3.out (by rw [infoSt, HZ3.out]) (by rw [HZ2.out, HZ3.out]) ho3 ?_)
      go_roundw
      case rel => exact ⟨j + 1, by omega, by rw [HC3.out]; exact setRow_heap _ _ _ _ _ _ HB3.out, HK3.out.trans (kp_setRow _ _ _)⟩
      case measure =>
        have hB9 := setRow_heap w3 gT C2 C3 32 (0, 0) HB3.out
        have e1 : (w3.setRow gT C3).cell? ⟨gT, 8, none⟩ = some (.int .u64 (((n + 1 + (j + 1)) % 18446744073709551616 : Nat) : Int)) := by
          rw [(show Blk (w3.setRow gT C3) gT 32 C3 from hB9).cell 8, ← HC3.out, List.getElem?_toArray, stC_n _ HW3.out, HM3.out]
        have e2 : wr.cell? ⟨gT, 8, none⟩ = some (.int .u64 (m : Int)) := by
          rw [HB.out.cell 8, List.getElem?_toArray, stC_n _ HW2.out, HM.out]
        rw [e1, e2]
        have := Hn2.out
        have := HZn.out
        unfold zeros at this
        show (120 - ((((n + 1 + (j + 1)) % 18446744073709551616 : Nat) : Int) % 64).toNat) % 64 < (120 - ((m : Int) % 64).toNat) % 64
        omega
    · obtain rfl : z = j := by omega
      have hm56 : r = 56 := by
        have h1 := zeros_end n
        rw [HZn.out] at h1
        omega
      have hm0 : ((r : Int) == 56) = true := by rw [beq_iff_eq]; omega
      subst hm56
      have HKd := Lib.hid (HKc.out.to_ hK (fun y hy => .inr (by rw [List.mem_singleton.1 hy]; omega)))
      have HRd := Lib.hid (HRc.out.kp hK (by simp; omega))
      have hgl : gT < wr.heap.size := hB.lt
      clear hB hK hw2 hmr hlt hj
      go_wp2_with fail
      clear c8 er er2 wr1 hm0
      obtain ⟨wA, rfl⟩ : ∃ x, x = wr := ⟨_, rfl⟩
      go_loopw [5, 6] (fun v i wr => ∃ j : Nat, j ≤ 8 ∧ i = .int .i64 ((7 : Int) - (j : Int)) ∧ wr.ownsRow wA.heap.size 5 1 v j (Lib.byteCells ((finL T).take j)) ∧ Below wA.heap.size wA wr) (fun _ i _ => (intOf i + 1).toNat)
      case atStart => exact ⟨0, by omega, rfl, World.ownsRow_nil _ _ _ _, Below.refl _ _⟩
      case round =>
        obtain ⟨j, hj, rfl, hown, hBe⟩ := hrel
        have hsA := hBe.size
        by_cases hlt : j < 8
        · obtain ⟨q, hq⟩ : ∃ q : Nat, (7 : Int) - (j : Int) = (q : Int) := ⟨7 - j, by omega⟩
          obtain ⟨d, hd⟩ : ∃ d, 8 * (7 - j) = d := ⟨_, rfl⟩
          rw [hq]
          have HQ := Lib.hid hq
          have q0 : (0 : Int) ≤ (q : Int) := by omega
          have d1 : (q : Int) * 8 = (d : Int) := by omega
          have d2 : 8 * (q : Int) = (d : Int) := by omega
          have d3 : (0 : Int) ≤ (d : Int) := by omega
          have d4 : d ≤ 64 := by omega
          have d5 : IntKind.i64.wrap (d : Int) = (d : Int) := IntWalk.i64_in _ (by omega)
          have d6 : IntKind.i64.wrap ((q : Int) - 1) = (q : Int) - 1 := IntWalk.i64_in _ (by omega)
          have hSn := finL_snoc T j hlt
          rw [hd] at hSn
          obtain ⟨y, hy⟩ : ∃ y, UInt8.ofNat (T / 2 ^ d) = y := ⟨_, rfl⟩
          have hyv := u8_of (T / 2 ^ d)
          rw [hy] at hSn hyv
          rw [IntKind.wrap_u8'] at hyv
          have hyv2 : (T : Int) / 2 ^ d % 256 = (y.toNat : Int) := by rw [← hyv]; norm_cast
          have HV := Lib.hid hyv2
          have HSn := Lib.hid hSn
          have Ho := Lib.hid hown
          have HBe := Lib.hid hBe
          clear hq hd hy hyv hyv2 hSn hown hBe
          go_wp2_with (at_builtin; refine wpList_append_own _ rfl _ _ 22 rfl wA.heap.size 5 i0 (.int .u8 0) 1 1 Tryd.underlying22 hi hz0 hz1 hz2 rfl (by decide) _ _ _ rfl (Ho.out.alloc _) ⟨wr.heap.size, 0, none⟩ 1 1 [.int .u8 ((T : Int) / 2 ^ d % 256)] rfl rfl (cell_one_new _ _ _) (by simp [Value.oneCell']) ?c3 ?c4 ?c5 ?_)
          case c3 => unfold maxLen; omega
          case c4 => omega
          case c5 => first | omega | (simp; omega)
          intro v4 w4 hown' hgrow _
          have HO4 := Lib.hid (by rw [HSn.out, byteCells_snoc, ← HV.out]; exact hown' : w4.ownsRow wA.heap.size 5 1 v4 (j + 1) (Lib.byteCells ((finL T).take (j + 1))))
          have hB4 := (HBe.out.alloc (by omega) (.cells #[.int .u8 ((T : Int) / 2 ^ d % 256)] 5)).grown hgrow (by simp; omega) (fun k' hk' => (Ho.out.lt k' hk').1)
          have HB4 := Lib.hid hB4
          clear hown' hgrow hB4
          go_wp2_with fail
          go_roundw
          case rel => exact ⟨j + 1, by omega, by congr 1; have := HQ.out; omega, HO4.out, HB4.out⟩
          case measure => show ((q : Int) - 1 + 1).toNat < ((q : Int) + 1).toNat; omega
        · obtain rfl : j = 8 := by omega
          rw [show (7 : Int) - ((8 : Nat) : Int) = -1 from rfl]
          have hall : (finL T).take 8 = finL T := List.take_of_length_le (by rw [finL_len]; exact Nat.le_refl _)
          rw [hall] at hown
          obtain ⟨A, cA, rfl, hcA, hAi⟩ := own_in (l := finL T) (by rw [finL_len]; exact hown)
          rw [finL_len] at hcA ⊢
          have hKe : Kp [] wA wr := kp_of_below hBe
          have HKe := Lib.hid (HKd.out.trans hKe)
          have HRe := Lib.hid (HRd.out.kp hKe (by simp))
          have hBT := HB.out.kp hKe (by simp)
          have hgl2 : gT < wr.heap.size := by omega
          obtain ⟨F, hF⟩ : ∃ F, feed S2 (finL T) = F := ⟨_, rfl⟩
          have hwF : Wf F := by rw [← hF]; exact wf_feed _ HW2.out _
          have hfin : finish s = outL F.h := by rw [finish_steps s HWf.out.t, HN.out, HT.out, HZn.out, HS1.out, HS2.out, hF]
          obtain ⟨CP, hCP⟩ : ∃ C, (stC S2).toArray = C := ⟨_, rfl⟩
          obtain ⟨CF, hCF⟩ : ∃ C, (stC F).toArray = C := ⟨_, rfl⟩
          have hsP : CP.size = 73 := by rw [← hCP, List.size_toArray, stC_len _ HW2.out]
          have hsF : CF.size = 73 := by rw [← hCF, List.size_toArray, stC_len _ hwF]
          have hoF : CF.all (·.oneCell') = true := by rw [← hCF]; exact stC_one _
          have HF3 := Lib.hid (by
            have := rfeed_c S2 HW2.out (finL T) A cA (by rw [finL_len]; exact hcA) CP hCP wr hAi (by rw [finL_len]; decide)
            rw [finL_len, hF, hCF] at this
            exact this)
          rw [hCP] at hBT
          have HBT := Lib.hid hBT
          have HSP := Lib.hid hsP
          have HSF := Lib.hid hsF
          have HCF := Lib.hid hCF
          have HWF := Lib.hid hwF
          have HFI := Lib.hid hfin
          unfold Blk at hBT
          clear hall hown hcA hAi hKe hBe hF hwF hfin hCP hCF hsP hsF hlt hj hsA hgl
          go_wp2_with (first
            | refine wpList_load_row rfl 32 (.tmp 4) rfl gT rfl 32 CP (0, 0) _ hBT Tryd.underlying32 rfl (by rw [infoSt, HSP.out]) ?_)
          refine HF3.out.mono ?_
          rintro e wB ⟨rfl, hKB⟩
          have HKB := Lib.hid (HKe.out.trans hKB)
          have HRB := Lib.hid (HRe.out.kp hKB (by simp))
          have HBB := Lib.hid (HBT.out.kp hKB (by simp))
          have hgl3 : gT < wB.heap.size := by have := hKB.size; omega
          clear hKB hBT hgl2
          go_upto_region 11 with (refine wpList_store_rowTo rfl 32 (.tmp 4) (.tmp 37) rfl rfl gT CF rfl rfl 32 CP HBB.out (by rw [infoSt, HSF.out]) (by rw [HSP.out, HSF.out]) hoF ?_)
          obtain ⟨wC, hwC⟩ : ∃ x, wB.setRow gT CF = x := ⟨_, rfl⟩
          have bC : Blk wC gT 32 (stC F).toArray := by rw [← hwC, HCF.out]; exact setRow_heap _ _ _ _ _ _ HBB.out
          have kC : Kp [gT] wB wC := by rw [← hwC]; exact kp_setRow _ _ _
          have hgl4 : gT < wC.heap.size := bC.lt
          rw [hwC]
          obtain ⟨g, hg⟩ : ∃ g, wC.heap.size = g := ⟨_, rfl⟩
          rw [hg] at hgl4
          have hN := Blk.new wC 24 zB
          rw [hg] at hN
          have HKC := Lib.hid ((HKB.out.to_ kC (fun y hy => .inr (by rw [List.mem_singleton.1 hy]; omega))).alloc (.cells zB 24))
          have HRC := Lib.hid ((HRB.out.kp kC (by simp; omega)).alloc (.cells zB 24))
          have HBC := Lib.hid (bC.alloc (.cells zB 24))
          have HG := Lib.hid hg
          have HNn := Lib.hid hN
          clear hwC bC kC hN hgl3 hoF
          go_upto_region 12 with fail
          rw [zero32]
          obtain ⟨wd, hwd⟩ : ∃ x, wC.alloc (.cells zB 24) = x := ⟨_, rfl⟩
          rw [hwd]
          rw [hwd] at HNn HBC HRC HKC
          clear hwd hg
          go_wp2_with fail
          go_loopw [8] (fun i wr => ∃ a : Nat, a ≤ 8 ∧ i = .int .i64 a ∧ Blk wr g 24 (((outL F.h).take (4 * a) ++ pad (32 - 4 * a)).map bv).toArray ∧ Kp [g] wd wr) (fun i _ => 8 - (intOf i).toNat)
          case atStart => exact ⟨0, by omega, rfl, HNn.out, Kp.refl _ _⟩
          case round =>
            obtain ⟨a, ha, rfl, hB, hK⟩ := hrel
            by_cases hlt : a < 8
            · have HB := Lib.hid hB
              have HK := Lib.hid hK
              clear hB hK
              go_wp2_with fail
              go_loopw [9] (fun i wr => ∃ r : Nat, r ≤ 4 ∧ i = .int .i64 r ∧ Blk wr g 24 (((outL F.h).take (4 * a + r) ++ pad (32 - (4 * a + r))).map bv).toArray ∧ Kp [g] wd wr) (fun i _ => 4 - (intOf i).toNat)
              case atStart => exact ⟨0, by omega, rfl, HB.out, HK.out⟩
              case round =>
                obtain ⟨r, hr, rfl, hB, hK⟩ := hrel
                by_cases hlr : r < 4
                · obtain ⟨p, hp⟩ : ∃ p, 4 * a + r = p := ⟨_, rfl⟩
                  obtain ⟨q, hq⟩ : ∃ q, 4 * a = q := ⟨_, rfl⟩
                  obtain ⟨d, hd⟩ : ∃ d, 24 - 8 * r = d := ⟨_, rfl⟩
                  obtain ⟨x, hx⟩ : ∃ x, F.h.getD a 0 = x := ⟨_, rfl⟩
                  have hO := outL_snoc F.h HWF.out.h p a r d (by omega) (by omega) (by omega) hd
                  rw [hx] at hO
                  have HO := Lib.hid hO
                  have HP := Lib.hid hp
                  rw [hp] at hB
                  have e1 : 4 * (a : Int) = (q : Int) := by omega
                  have e1b : (a : Int) * 4 = (q : Int) := by omega
                  have e2 : IntKind.i64.wrap (q : Int) = (q : Int) := IntWalk.i64_in _ (by omega)
                  have e3 : (q : Int) + (r : Int) = (p : Int) := by omega
                  have e3b : IntKind.i64.wrap (p : Int) = (p : Int) := IntWalk.i64_in _ (by omega)
                  have e4 : (24 : Int) - (r : Int) * 8 = (d : Int) := by omega
                  have e4b : (24 : Int) - 8 * (r : Int) = (d : Int) := by omega
                  have e5 : (0 : Int) ≤ (d : Int) := by omega
                  have e6 : min d 32 = d := by omega
                  have a0 : (0 : Int) ≤ (a : Int) := by omega
                  have a1 : (a : Int) < 8 := by omega
                  have p0 : (0 : Int) ≤ (p : Int) := by omega
                  have p1 : (p : Int) < 32 := by omega
                  have r0 : (0 : Int) ≤ (r : Int) := by omega
                  have r1 : (r : Int) < 4 := by omega
                  have cx : wr.cell? ⟨gT, a, none⟩ = some (.int .u32 (x.toNat : Int)) := by
                    rw [(HBC.out.kp hK (by simp; omega)).cell a, List.getElem?_toArray, stC_h _ HWF.out a (by omega), List.getElem?_map, ← hx]
                    simp [List.getD_eq_getElem?_getD, List.getElem?_eq_getElem (show a < F.h.length by rw [HWF.out.h]; omega), wv]
                  have hf := hB.frozen p
                  obtain ⟨y, hy⟩ : ∃ y, wr.cell? ⟨g, p, none⟩ = some y := by
                    rw [hB.cell p, List.getElem?_toArray]
                    exact ⟨_, List.getElem?_eq_getElem (by rw [List.length_map, out_len F.h HWF.out.h p (by omega)]; omega)⟩
                  have HV := Lib.hid (byte_is x d (by omega))
                  have HBi := Lib.hid hB
                  have HKi := Lib.hid hK
                  clear hO hp hq hd hx hB hK
                  go_wp2_with fail
                  go_roundw
                  case rel => exact ⟨r + 1, by omega, by go_num, by rw [show 4 * a + (r + 1) = p + 1 by have := HP.out; omega, HO.out, HV.out]; exact bv_set HBi.out p _, kp_set HKi.out _ _⟩
                  case measure => simp [intOf]; omega
                · obtain rfl : r = 4 := by omega
                  rw [show (((4 : Nat) : Int)) = 4 from rfl]
                  have HBi := Lib.hid hB
                  have HKi := Lib.hid hK
                  clear hB hK hlr hr
                  go_wp2_with fail
                  go_roundw
                  case rel => exact ⟨a + 1, by omega, by go_num, HBi.out, HKi.out⟩
                  case measure => simp [intOf]; omega
            · obtain rfl : a = 8 := by omega
              rw [show (((8 : Nat) : Int)) = 8 from rfl]
              have hl32 := outL_len F.h HWF.out.h
              have hfull : (outL F.h).take (4 * 8) ++ pad (32 - 4 * 8) = outL F.h := by
                rw [List.take_of_length_le (by omega)]
                unfold pad
                simp
              rw [hfull] at hB
              obtain ⟨CR, hCR⟩ : ∃ C, ((outL F.h).map bv).toArray = C := ⟨_, rfl⟩
              have hsR : CR.size = 32 := by rw [← hCR, List.size_toArray, List.length_map, hl32]
              have hoR : CR.all (·.oneCell') = true := by rw [← hCR]; exact bv_one _
              rw [hCR] at hB
              have HCR := Lib.hid hCR
              have HSR := Lib.hid hsR
              have hzB : zB.size = 32 := by kernel_rfl
              have HZB := Lib.hid hzB
              have hgw : w.heap.size + 1 < g := by omega
              have HRF := Lib.hid (HRC.out.kp hK (by simp; omega))
              have HKF := Lib.hid (HKC.out.to_ hK (fun y hy => .inr (by rw [List.mem_singleton.1 hy]; omega)))
              unfold Blk at hB
              clear hl32 hfull hCR hsR hK hzB ha hlt
              go_wp2_with (first
                | refine wpList_load_row rfl 24 (.tmp 7) rfl g rfl 24 CR (0, 0) _ hB Tryd.underlying24 rfl (by rw [infoB32, HSR.out]) ?_
                | refine wpList_store_rowTo rfl 24 (.tmp 2) (.tmp 60) rfl rfl (w.heap.size + 1) CR rfl rfl 24 zB HRF.out (by rw [infoB32, HSR.out]) (by rw [HZB.out, HSR.out]) hoR ?_)
              refine bodyPost_ret (results_cell_row rfl _ _ (w.heap.size + 1) 24 CR (0, 0) _ rfl (setRow_heap _ _ _ _ _ _ HRF.out) Tryd.underlying24 rfl (by rw [infoB32, HSR.out])) rfl ?_
              unfold AggP
              rw [HFI.out, HCR.out]
              exact ⟨rfl, HKF.out.to_ (kp_setRow _ _ _) (fun y hy => .inr (by rw [List.mem_singleton.1 hy]; omega))⟩
set_option maxRecDepth 100000 in
set_option maxHeartbeats 1000000 in
theorem rsum_any (l : List UInt8) (A : Option Addr) (c : Nat) (hc : l.length ≤ c) (w : World) (hA : ByIn w A l) (hl : l.length ≤ 4611686018427387904) :
    Calls Tryd.prog 12 #[.slice A l.length c] w (AggP ((sum l).map bv).toArray w) := by
  have HA := Lib.hid hA
  obtain ⟨CR, hCR⟩ : ∃ C, ((sum l).map bv).toArray = C := ⟨_, rfl⟩
  have hsR : CR.size = 32 := by rw [← hCR, List.size_toArray, List.length_map, sum_len]
  have hoR : CR.all (·.oneCell') = true := by rw [← hCR]; exact bv_one _
  have HSR := Lib.hid hsR
  have HCR := Lib.hid hCR
  rw [hCR]
  clear hA hCR hsR
  go_enter Tryd.func12, Tryd.ntmps12
  go_upto_region 1 with fail
  rw [zero32]
  obtain ⟨w0, hw0⟩ : ∃ x, w.alloc (.cells zB 24) = x := ⟨_, rfl⟩
  have K0 : Kp [] w w0 := by rw [← hw0]; exact (Kp.refl _ _).alloc _
  have B0 : Blk w0 w.heap.size 24 zB := by rw [← hw0]; exact Blk.new w _ _
  rw [hw0]
  have HK0 := Lib.hid K0
  have HB0 := Lib.hid B0
  have hwlt := B0.lt
  clear hw0 K0 B0
  go_wp2_with fail
  refine (rstart_any w0).mono ?_
  rintro e w1 ⟨rfl, hK1⟩
  have HK1 := Lib.hid (HK0.out.trans hK1)
  have HB1 := Lib.hid (HB0.out.kp hK1 (by simp))
  clear hK1
  go_wp2_with fail
  refine (rfeed_c start wf_start l A c hc _ rfl w1 (byin_kp HA.out HK1.out) hl).mono ?_
  rintro e w2 ⟨rfl, hK2⟩
  have HK2 := Lib.hid (HK1.out.trans hK2)
  have HB2 := Lib.hid (HB1.out.kp hK2 (by simp))
  clear hK2
  go_wp2_with fail
  refine (rfin_c (feed start l) (wf_feed _ wf_start l) _ rfl w2).mono ?_
  rintro e w3 ⟨rfl, hK3⟩
  have HK3 := Lib.hid (HK2.out.trans hK3)
  have HB3 := Lib.hid (HB2.out.kp hK3 (by simp))
  have hzB : zB.size = 32 := by kernel_rfl
  have HZB := Lib.hid hzB
  clear hK3 hzB
  rw [show ((finish (feed start l)).map bv).toArray = CR from HCR.out]
  go_wp2_with (refine wpList_store_rowTo rfl 24 (.tmp 2) (.tmp 6) rfl rfl w.heap.size CR rfl rfl 24 zB HB3.out (by rw [infoB32, HSR.out]) (by rw [HZB.out, HSR.out]) hoR ?_)
  refine bodyPost_ret (results_cell_row rfl _ _ w.heap.size 24 CR (0, 0) _ rfl (setRow_heap _ _ _ _ _ _ HB3.out) Tryd.underlying24 rfl (by rw [infoB32, HSR.out])) rfl ?_
  exact ⟨rfl, HK3.out.to_ (kp_setRow _ _ _) (fun y hy => .inr (by rw [List.mem_singleton.1 hy]; exact Nat.le_refl _))⟩
end Hs
end Go.Proofs.YtakanjadcnmciaaDoor
