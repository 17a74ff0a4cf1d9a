/- Contracts of the program's Start and Finish (layer 6). A state; the table of constants holds what the program's text says. -/
import Derived.Test.YtakanjadcnmciaaDoorHsPf
import Derived.RegionTactic
import Derived.Test.YtakanjadcnmciaaDoorHsQt
import Derived.Deep.CutRange
namespace Go.Proofs.YtakanjadcnmciaaDoor
namespace Hs
open Go.RowKit Ad

def zB : Array Value := (pad 32 |>.map bv).toArray
theorem zero32 : (#[.int .u8 0, .int .u8 0, .int .u8 0, .int .u8 0, .int .u8 0, .int .u8 0, .int .u8 0, .int .u8 0, .int .u8 0, .int .u8 0, .int .u8 0, .int .u8 0, .int .u8 0, .int .u8 0, .int .u8 0, .int .u8 0, .int .u8 0, .int .u8 0, .int .u8 0, .int .u8 0, .int .u8 0, .int .u8 0, .int .u8 0, .int .u8 0, .int .u8 0, .int .u8 0, .int .u8 0, .int .u8 0, .int .u8 0, .int .u8 0, .int .u8 0, .int .u8 0] : Array Value) = zB := by kernel_rfl
def CS : Array Value := (stC start).toArray
set_option maxRecDepth 100000 in
set_option maxHeartbeats 1000000 in
theorem pstart_any (w : World) : Calls Tryd.prog 16 #[] w (AggP (stC start).toArray w) := by
  have hz1 := zst_run
  have hz2 := zst_ne
  have hN := Blk.new w 32 zst
  have HN := Lib.hid hN
  clear hN
  go_enter Tryd.func16, Tryd.ntmps16
  go_wp2_with (refine wpList_store_rowTo rfl 32 (.tmp 0) (.tmp 2) rfl rfl w.heap.size CS rfl (by show _ = Value.agg CS; kernel_rfl) 32 zst HN.out (by kernel_rfl) (by kernel_rfl) (by kernel_rfl) ?_)
  refine bodyPost_ret (results_cell_row rfl _ _ w.heap.size 32 CS (0, 0) _ rfl (setRow_heap _ _ _ _ _ _ HN.out) Tryd.underlying32 rfl (by kernel_rfl)) rfl ?_
  exact ⟨rfl, ((Kp.refl [] w).alloc _).to_ (kp_setRow _ _ _) (fun y hy => .inr (by rw [List.mem_singleton.1 hy]; exact Nat.le_refl _))⟩
theorem f1_h (s : St) (c : UInt8) (h : s.h.length = 8) : (f1 s c).h.length = 8 := by
  unfold f1
  split
  · rfl
  · exact h
theorem fold_h (b : List UInt8) : ∀ s : St, s.h.length = 8 → (b.foldl f1 s).h.length = 8 := by
  induction b with
  | nil => intro s h; exact h
  | cons c t ih => intro s h; exact ih _ (f1_h s c h)
theorem wf_feed (s : St) (h : Wf s) (b : List UInt8) : Wf (feed s b) :=
  ⟨fold_h b (cn s) h.h, by rw [feed_n s b h.n]; exact Nat.mod_lt _ (by decide), (ca_feed s b h.t).l⟩
theorem outL_get (h : List UInt32) (h8 : h.length = 8) (k r : Nat) (hk : k < 8) (hr : r < 4) : (outL h)[4 * k + r]? = some (((h.getD k 0) >>> UInt32.ofNat (24 - 8 * r)).toUInt8) := by
  match h, h8 with
  | [a0, a1, a2, a3, a4, a5, a6, a7], _ =>
    have hk2 : k = 0 ∨ k = 1 ∨ k = 2 ∨ k = 3 ∨ k = 4 ∨ k = 5 ∨ k = 6 ∨ k = 7 := by omega
    have hr2 : r = 0 ∨ r = 1 ∨ r = 2 ∨ r = 3 := by omega
    have z : ∀ x : UInt32, x >>> UInt32.ofNat (24 - 8 * 3) = x := fun x => by
      apply UInt32.toNat_inj.1
      rw [UInt32.toNat_shiftRight]
      show x.toNat >>> 0 = x.toNat
      rfl
    rcases hr2 with rfl | rfl | rfl | rfl <;> rcases hk2 with rfl | rfl | rfl | rfl | rfl | rfl | rfl | rfl <;> first | rfl | (rw [z]; rfl)
theorem outL_len (h : List UInt32) (h8 : h.length = 8) : (outL h).length = 32 := by
  match h, h8 with
  | [a0, a1, a2, a3, a4, a5, a6, a7], _ => rfl
theorem out_len (h : List UInt32) (h8 : h.length = 8) (j : Nat) (hj : j ≤ 32) : ((outL h).take j ++ pad (32 - j)).length = 32 := by
  unfold pad
  rw [List.length_append, List.length_take, outL_len h h8, List.length_replicate]
  omega
theorem outL_snoc (h : List UInt32) (h8 : h.length = 8) (j k r d : Nat) (hj : j < 32) (hk : j / 4 = k) (hr : j % 4 = r) (hd : 24 - 8 * r = d) :
    (outL h).take (j + 1) ++ pad (32 - (j + 1)) = ((outL h).take j ++ pad (32 - j)).set j (((h.getD k 0) >>> UInt32.ofNat d).toUInt8) := by
  have hg := outL_get h h8 k r (by omega) (by omega)
  rw [show 4 * k + r = j by omega, hd] at hg
  have hl : ((outL h).take j).length = j := by rw [List.length_take, outL_len h h8]; omega
  have hp : pad (32 - j) = 0 :: pad (32 - (j + 1)) := by
    unfold pad
    rw [show 32 - j = (32 - (j + 1)) + 1 by omega, List.replicate_succ]
  have := set_mid ((outL h).take j) (pad (32 - (j + 1))) 0 (((h.getD k 0) >>> UInt32.ofNat d).toUInt8)
  rw [hl] at this
  rw [hp, this, List.take_add_one, hg]
  simp
theorem byte_is (x : UInt32) (d : Nat) (hd : d < 32) : (x.toNat : Int) / 2 ^ d % 256 = (((x >>> UInt32.ofNat d).toUInt8).toNat : Int) := by
  rw [w_shr x d hd, UInt32.toNat_toUInt8]
  rfl
theorem infoB32 : (Tryd.prog.info? 24).map (·.size) = some 32 := by kernel_rfl
theorem bv_set {w : World} {g : Nat} {t : TypeId} {l : List UInt8} (B : Blk w g t (l.map bv).toArray) (p : Nat) (x : UInt8) : Blk (w.setCell ⟨g, p, none⟩ (.int .u8 (x.toNat : Int))) g t ((l.set p x).map bv).toArray := by
  have := B.set_ p (.int .u8 (x.toNat : Int))
  rw [List.setIfInBounds_toArray] at this
  rw [List.map_set]
  exact this
theorem byin_kp {w w' : World} {A : Option Addr} {l : List UInt8} (h : ByIn w A l) (k : Kp [] w w') : ByIn w' A l := by
  rcases h with rfl | ⟨b, o, rfl, hb, hc⟩
  · exact .inl rfl
  · exact .inr ⟨b, o, rfl, Nat.lt_of_lt_of_le hb k.size, fun i c hi => (k.cell (p := ⟨b, o + i, none⟩) hb (by simp)).trans (hc i c hi)⟩
set_option maxRecDepth 100000 in
set_option maxHeartbeats 1000000 in
theorem pfin_c (s : St) (h : Wf s) (C : Array Value) (hC : (stC s).toArray = C) (w : World) (E : KE w) :
    Calls Tryd.prog 14 #[.agg C] w (AggP ((finish s).map bv).toArray w) := by
  have hsz : C.size = 73 := by rw [← hC, List.size_toArray, stC_len s h]
  have hne : ¬ C = #[] := fun h => by rw [h] at hsz; cases hsz
  have HC := Lib.hid hC
  have HS := Lib.hid hsz
  have HE := Lib.hid E
  clear hC hsz E
  go_enter Tryd.func14, Tryd.ntmps14
  go_upto_region 1 with fail
  rw [zero32]
  obtain ⟨w0, hw0⟩ : ∃ x, ((w.alloc (.cells C 32)).alloc (.cells zB 24)) = x := ⟨_, rfl⟩
  have hs0 : w0.heap.size = w.heap.size + 2 := by rw [← hw0, alloc_sz, alloc_sz]
  have B0 : Blk w0 w.heap.size 32 C := by rw [← hw0]; exact (Blk.new w _ _).alloc _
  have B2 : Blk w0 (w.heap.size + 1) 24 zB := by
    rw [← hw0]
    have := Blk.new (w.alloc (.cells C 32)) 24 zB
    rwa [alloc_sz] at this
  have K0 : Kp [] w w0 := by rw [← hw0]; exact ((Kp.refl _ _).alloc _).alloc _
  rw [hw0]
  clear hw0
  have c8 := B0.cell 8
  rw [← HC.out, List.getElem?_toArray, stC_n s h] at c8
  have HK0 := Lib.hid K0
  have HB0 := Lib.hid B0
  have HB2 := Lib.hid B2
  have HS0 := Lib.hid hs0
  clear K0 B0 B2 hs0 hne
  obtain ⟨PL, hPL⟩ : ∃ P, tailL s.n = P := ⟨_, rfl⟩
  have HPL := Lib.hid hPL
  clear hPL
  have hld : ∀ w', Blk w' w.heap.size 32 C → Sem.run Tryd.prog (Instr.loadAt 32 (.pointer (some ⟨w.heap.size, 0, none⟩))) w' = .ok (.agg C) w' := fun w' B => by
    have hr : w'.rangeAt w.heap.size 0 C.toList := fun j v hv => by rw [Nat.zero_add, B.cell j]; simpa using hv
    have := run_loadAt_mid (P := Tryd.prog) w' w.heap.size 0 32 C.toList _ hr Tryd.underlying32 rfl (by rw [infoSt, Array.length_toList, HS.out])
    rwa [Array.toArray_toList] at this
  have HLD := Lib.hid hld
  have l0 := hld w0.drew HB0.out.drew
  clear hld
  go_cut [] from 5 to 10 (fun wx => Kp [w.heap.size] w0 wx ∧ Blk wx w.heap.size 32 (stC (feed s PL)).toArray)
  case first =>
    refine wp_region_mid 3 (fun w' => Blk w' w.heap.size 32 C) (by kernel_rfl) (by kernel_rfl) (fun _ _ d _ _ h => by cases d <;> exact h) HB0.out.drew _ rfl rfl ?_
    simp only [List.take_succ_cons, List.take_zero, List.drop_succ_cons, List.drop_zero]
    refine takeS_step (.agg C) rfl (fun w' hB => ?_) ?_
    · unfold execOp
      simp [HLD.out w' hB, Act.eval, Sem.run_bind, Result.andThen]
    refine takeS_step (.pointer (some ⟨w.heap.size, 8, none⟩)) rfl (fun w' hB => ?_) ?_
    · go_simp
    refine takeS_step (.int .u64 (s.n : Int)) rfl (fun w' hB => ?_) ?_
    · have c9 := hB.cell 8
      rw [← HC.out, List.getElem?_toArray, stC_n s h] at c9
      go_simp
    intro K hK
    go_simp
    refine (ppad_any s.n h.n _).mono ?_
    rintro e w3 ⟨g3, c3, rfl, hg3, hg3l, hc3, hcc3, hK3⟩
    refine hK _ _ (HB0.out.drew.kp hK3 (by simp)) ?_
    clear hK K
    rw [HPL.out] at hc3 hcc3 ⊢
    have hPl : PL.length ≤ 72 := by
      rw [← HPL.out]
      unfold tailL pad zeros
      simp [finL_len]
      omega
    have HKw := Lib.hid ((HK0.out.trans (Kp.refl [] w0).drew).trans hK3)
    have HFe := Lib.hid (pfeed_c s h PL (some ⟨g3, 0, none⟩) c3 hc3 C HC.out w3 (HE.out.kp HKw.out (by simp)) (.inr ⟨g3, 0, rfl, hg3l, hcc3⟩) (by omega))
    have HK3 := Lib.hid ((Kp.refl [] w0).drew.trans hK3)
    clear hg3 hg3l hc3 hcc3 hK3 hPl c8 l0
    go_wp2_with fail
    refine HFe.out.mono ?_
    rintro e w4 ⟨rfl, hK4⟩
    obtain ⟨CF, hCF⟩ : ∃ C, (stC (feed s PL)).toArray = C := ⟨_, rfl⟩
    have hwF : Wf (feed s PL) := wf_feed s h PL
    have hsF : CF.size = 73 := by rw [← hCF, List.size_toArray, stC_len _ hwF]
    have hoF : CF.all (·.oneCell') = true := by rw [← hCF]; exact stC_one _
    have HB4 := Lib.hid ((HB0.out.kp HK3.out (by simp)).kp hK4 (by simp))
    have HK4 := Lib.hid (HK3.out.trans hK4)
    have HSF := Lib.hid hsF
    rw [hCF]
    have HCF := Lib.hid hCF
    clear hK4 hCF hsF hwF
    go_wp2_with (refine wpList_store_rowTo rfl 32 (.tmp 1) (.tmp 9) rfl rfl w.heap.size CF rfl rfl 32 C HB4.out (by rw [infoSt, HSF.out]) (by rw [HS.out, HSF.out]) hoF ?_)
    go_meet
    exact ⟨HK4.out.of_nil.trans (kp_setRow _ _ _), by rw [HCF.out]; exact setRow_heap _ _ _ _ _ _ HB4.out⟩
  case rest =>
    obtain ⟨hKc, hBc⟩ := hcut
    obtain ⟨F, hF⟩ : ∃ F, feed s PL = F := ⟨_, rfl⟩
    have hwF : Wf F := by rw [← hF]; exact wf_feed s h PL
    rw [hF] at hBc
    have hfin : finish s = outL F.h := by rw [← hF, ← HPL.out]; rfl
    have HFI := Lib.hid hfin
    have HWF := Lib.hid hwF
    have hsc : w.heap.size + 2 ≤ wc.heap.size := by have := hKc.size; rw [HS0.out] at this; exact this
    obtain ⟨g, hg⟩ : ∃ g, wc.heap.size = g := ⟨_, rfl⟩
    have hgg : w.heap.size + 2 ≤ g := by omega
    have hN := Blk.new wc 24 zB
    rw [hg] at hN
    have HN := Lib.hid hN
    have HBC := Lib.hid (hBc.alloc (.cells zB 24))
    have HRC := Lib.hid ((HB2.out.kp hKc (by simp)).alloc (.cells zB 24))
    have HKC := Lib.hid ((HK0.out.to_ hKc (fun y hy => .inr (by rw [List.mem_singleton.1 hy]; exact Nat.le_refl _))).alloc (.cells zB 24))
    clear hKc hBc hF hwF hfin hN c8 l0
    go_upto_region 3 with fail
    rw [zero32]
    obtain ⟨wd, hwd⟩ : ∃ x, wc.alloc (.cells zB 24) = x := ⟨_, rfl⟩
    rw [hwd]
    rw [hwd] at HN HBC HRC HKC
    clear hwd
    go_wp2_with fail
    go_loopw [4, 10] (fun _ i wr => ∃ j : Nat, j ≤ 32 ∧ i = .int .i64 j ∧ Blk wr g 24 (((outL F.h).take j ++ pad (32 - j)).map bv).toArray ∧ Kp [g] wd wr) (fun _ i _ => 32 - (intOf i).toNat)
    case atStart => exact ⟨0, by omega, rfl, HN.out, Kp.refl _ _⟩
    case round =>
      obtain ⟨j, hj, rfl, hB, hK⟩ := hrel
      by_cases hlt : j < 32
      · obtain ⟨k, hk⟩ : ∃ k, j / 4 = k := ⟨_, rfl⟩
        obtain ⟨r, hr⟩ : ∃ r, j % 4 = r := ⟨_, rfl⟩
        obtain ⟨d, hd⟩ : ∃ d, 24 - 8 * r = d := ⟨_, rfl⟩
        obtain ⟨x, hx⟩ : ∃ x, F.h.getD k 0 = x := ⟨_, rfl⟩
        have e1 : (j : Int) / 4 = (k : Int) := by omega
        have e2 : IntKind.i64.wrap (k : Int) = (k : Int) := IntWalk.i64_in _ (by omega)
        have e3 : (j : Int) % 4 = (r : Int) := by omega
        have e3b : (j : Int).tmod 4 = (r : Int) := by rw [Int.tmod_eq_emod_of_nonneg (by omega)]; omega
        have e4 : (24 : Int) - (r : Int) * 8 = (d : Int) := by omega
        have e5 : (0 : Int) ≤ (d : Int) := by omega
        have e6 : min d 32 = d := by omega
        have k0 : (0 : Int) ≤ (k : Int) := by omega
        have k1 : (k : Int) < 8 := by omega
        have j0 : (0 : Int) ≤ (j : Int) := by omega
        have j1 : (j : Int) < 32 := by omega
        have r0 : (0 : Int) ≤ (r : Int) := by omega
        have r1 : (r : Int) < 4 := by omega
        have HO := Lib.hid (outL_snoc F.h HWF.out.h j k r d hlt hk hr hd)
        rw [hx] at HO
        have cx : wr.cell? ⟨w.heap.size, k, none⟩ = some (.int .u32 (x.toNat : Int)) := by
          rw [(HBC.out.kp hK (by simp; omega)).cell k, List.getElem?_toArray, stC_h _ HWF.out k (by omega), List.getElem?_map, ← hx]
          simp [List.getD_eq_getElem?_getD, List.getElem?_eq_getElem (show k < F.h.length by rw [HWF.out.h]; omega), wv]
        have hl32 := HWF.out.h
        have hf := hB.frozen j
        obtain ⟨y, hy⟩ : ∃ y, wr.cell? ⟨g, j, none⟩ = some y := by
          rw [hB.cell j, List.getElem?_toArray]
          exact ⟨_, List.getElem?_eq_getElem (by rw [List.length_map, out_len F.h hl32 j hj]; exact hlt)⟩
        have HV := Lib.hid (byte_is x d (by omega))
        have HB := Lib.hid hB
        have HK := Lib.hid hK
        clear hk hr hd hx hB hK hl32
        go_wp2_with fail
        go_roundw
        case rel => exact ⟨j + 1, by omega, by go_num, by rw [HO.out, HV.out]; exact bv_set HB.out j _, kp_set HK.out _ _⟩
        case measure => simp [intOf]; omega
      · obtain rfl : j = 32 := by omega
        have hl32 := outL_len F.h HWF.out.h
        have hfull : (outL F.h).take 32 ++ pad (32 - 32) = outL F.h := by
          rw [List.take_of_length_le (by omega)]
          unfold pad
          simp
        rw [hfull] at hB
        obtain ⟨CR, hCR⟩ : ∃ C, ((outL F.h).map bv).toArray = C := ⟨_, rfl⟩
        have hsR : CR.size = 32 := by rw [← hCR, List.size_toArray, List.length_map, hl32]
        have hoR : CR.all (·.oneCell') = true := by rw [← hCR]; exact bv_one _
        rw [hCR] at hB
        have HCR := Lib.hid hCR
        have HSR := Lib.hid hsR
        have hzB : zB.size = 32 := by kernel_rfl
        have HZB := Lib.hid hzB
        have HRF := Lib.hid (HRC.out.kp hK (by simp; omega))
        have HKF := Lib.hid (HKC.out.to_ hK (fun y hy => .inr (by rw [List.mem_singleton.1 hy]; omega)))
        have HBF := Lib.hid hB
        unfold Blk at hB
        clear hl32 hfull hCR hsR hK hzB hj hlt
        rw [show (((32 : Nat) : Int)) = 32 from rfl]
        go_wp2_with (first
          | refine wpList_load_row rfl 24 (.tmp 3) rfl g rfl 24 CR (0, 0) _ hB Tryd.underlying24 rfl (by rw [infoB32, HSR.out]) ?_
          | refine wpList_store_rowTo rfl 24 (.tmp 2) (.tmp 27) rfl rfl (w.heap.size + 1) CR rfl rfl 24 zB HRF.out (by rw [infoB32, HSR.out]) (by rw [HZB.out, HSR.out]) hoR ?_)
        refine bodyPost_ret (results_cell_row rfl _ _ (w.heap.size + 1) 24 CR (0, 0) _ rfl (setRow_heap _ _ _ _ _ _ HRF.out) Tryd.underlying24 rfl (by rw [infoB32, HSR.out])) rfl ?_
        unfold AggP
        rw [HFI.out, HCR.out]
        exact ⟨rfl, HKF.out.to_ (kp_setRow _ _ _) (fun y hy => .inr (by rw [List.mem_singleton.1 hy]; omega))⟩
theorem pfin_any (s : St) (h : Wf s) (w : World) (E : KE w) : Calls Tryd.prog 14 #[.agg (stC s).toArray] w (AggP ((finish s).map bv).toArray w) := pfin_c s h _ rfl w E
theorem wf_start : Wf start := ⟨rfl, by decide, rfl⟩
theorem finish_len (s : St) (h : Wf s) : (finish s).length = 32 := outL_len _ (wf_feed s h _).h
theorem sum_len (b : List UInt8) : (sum b).length = 32 := finish_len _ (wf_feed _ wf_start b)
set_option maxRecDepth 100000 in
set_option maxHeartbeats 1000000 in
theorem psum_any (l : List UInt8) (A : Option Addr) (c : Nat) (hc : l.length ≤ c) (w : World) (E : KE w) (hA : ByIn w A l) (hl : l.length ≤ 4611686018427387904) :
    Calls Tryd.prog 13 #[.slice A l.length c] w (AggP ((sum l).map bv).toArray w) := by
  have HE := Lib.hid E
  have HA := Lib.hid hA
  obtain ⟨CR, hCR⟩ : ∃ C, ((sum l).map bv).toArray = C := ⟨_, rfl⟩
  have hsR : CR.size = 32 := by rw [← hCR, List.size_toArray, List.length_map, sum_len]
  have hoR : CR.all (·.oneCell') = true := by rw [← hCR]; exact bv_one _
  have HSR := Lib.hid hsR
  have HCR := Lib.hid hCR
  rw [hCR]
  clear E hA hCR hsR
  go_enter Tryd.func13, Tryd.ntmps13
  go_upto_region 1 with fail
  rw [zero32]
  obtain ⟨w0, hw0⟩ : ∃ x, w.alloc (.cells zB 24) = x := ⟨_, rfl⟩
  have K0 : Kp [] w w0 := by rw [← hw0]; exact (Kp.refl _ _).alloc _
  have B0 : Blk w0 w.heap.size 24 zB := by rw [← hw0]; exact Blk.new w _ _
  rw [hw0]
  have HK0 := Lib.hid K0
  have HB0 := Lib.hid B0
  have hwlt := B0.lt
  clear hw0 K0 B0
  go_wp2_with fail
  refine (pstart_any w0).mono ?_
  rintro e w1 ⟨rfl, hK1⟩
  have HK1 := Lib.hid (HK0.out.trans hK1)
  have HB1 := Lib.hid (HB0.out.kp hK1 (by simp))
  clear hK1
  go_wp2_with fail
  refine (pfeed_any start wf_start l A c hc w1 (HE.out.kp HK1.out (by simp)) (byin_kp HA.out HK1.out) hl).mono ?_
  rintro e w2 ⟨rfl, hK2⟩
  have HK2 := Lib.hid (HK1.out.trans hK2)
  have HB2 := Lib.hid (HB1.out.kp hK2 (by simp))
  clear hK2
  go_wp2_with fail
  refine (pfin_any (feed start l) (wf_feed _ wf_start l) w2 (HE.out.kp HK2.out (by simp))).mono ?_
  rintro e w3 ⟨rfl, hK3⟩
  have HK3 := Lib.hid (HK2.out.trans hK3)
  have HB3 := Lib.hid (HB2.out.kp hK3 (by simp))
  have hzB : zB.size = 32 := by kernel_rfl
  have HZB := Lib.hid hzB
  clear hK3 hzB
  rw [show ((finish (feed start l)).map bv).toArray = CR from HCR.out]
  go_wp2_with (refine wpList_store_rowTo rfl 24 (.tmp 2) (.tmp 6) rfl rfl w.heap.size CR rfl rfl 24 zB HB3.out (by rw [infoB32, HSR.out]) (by rw [HZB.out, HSR.out]) hoR ?_)
  refine bodyPost_ret (results_cell_row rfl _ _ w.heap.size 24 CR (0, 0) _ rfl (setRow_heap _ _ _ _ _ _ HB3.out) Tryd.underlying24 rfl (by rw [infoB32, HSR.out])) rfl ?_
  exact ⟨rfl, HK3.out.to_ (kp_setRow _ _ _) (fun y hy => .inr (by rw [List.mem_singleton.1 hy]; exact Nat.le_refl _))⟩
end Hs
end Go.Proofs.YtakanjadcnmciaaDoor
