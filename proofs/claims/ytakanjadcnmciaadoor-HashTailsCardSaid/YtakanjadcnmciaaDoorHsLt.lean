/- The law of HashTails (layer 6): it returns true. A state, bytes and a byte; the table of constants holds what the program's text says. -/
import Derived.Test.YtakanjadcnmciaaDoorHsLs
namespace Go.Proofs.YtakanjadcnmciaaDoor
namespace Hs
open Go.RowKit Ad

theorem w8_val (a : UInt8) : BitVec.ofInt 8 (a.toNat : Int) = a.toBitVec := by
  rw [BitVec.ofInt_natCast]
  apply BitVec.eq_of_toNat_eq
  rw [BitVec.toNat_ofNat]
  exact Nat.mod_eq_of_lt a.toBitVec.isLt
theorem w8_xor (a b : UInt8) : bits .xor .u8 (a.toNat : Int) (b.toNat : Int) = ((a ^^^ b).toNat : Int) := by
  show IntKind.u8.wrap ((BitVec.ofInt 8 (a.toNat : Int) ^^^ BitVec.ofInt 8 (b.toNat : Int)).toNat : Int) = _
  rw [w8_val, w8_val]
  exact wrap8 _ (a ^^^ b).toNat_lt
theorem cn_same (s : St) (y : List UInt8) (h : y.take (s.n % 64) = s.t.take (s.n % 64)) : cn ⟨s.h, s.n, y⟩ = cn s := by
  unfold cn
  dsimp only
  rw [h]
set_option maxRecDepth 100000 in
set_option maxHeartbeats 1000000 in
theorem htail_law (s : St) (h : Wf s) (l : List UInt8) (A : Option Addr) (c : Nat) (x : UInt8) (w : World) (hA : ByIn w A l) (hc : l.length ≤ c) (E : KE w) (hl : l.length ≤ 9223372036854775807) :
    Calls Tryd.prog 7 #[.agg (stC s).toArray, .slice A l.length c, .int .u8 (x.toNat : Int)] w (BoK true w) := by
  have HE := Lib.hid E
  have HA := Lib.hid hA
  have HL := Lib.hid (fun wz (Ez : KE wz) => lives_any wz Ez)
  obtain ⟨C, hC⟩ : ∃ C, (stC s).toArray = C := ⟨_, rfl⟩
  have hsz : C.size = 73 := by rw [← hC, List.size_toArray, stC_len s h]
  have hne : ¬ C = #[] := fun h => by rw [h] at hsz; cases hsz
  have HC := Lib.hid hC
  have HS := Lib.hid hsz
  have hone : C.all (·.oneCell') = true := by rw [← hC]; exact stC_one _
  rw [hC]
  clear E hA hC hsz
  by_cases h1 : 4000 < l.length
  · have t1 : (4000 : Int) < (l.length : Int) := by omega
    go_enter Tryd.func7, Tryd.ntmps7
    go_wp2_with fail
    refine (HL.out _ (HE.out.kp ((Kp.refl [] w).alloc _) (by simp))).mono ?_
    rintro e wz ⟨rfl, hKz⟩
    go_wp2_with fail
    go_ret
    exact ⟨rfl, ((Kp.refl [] w).alloc _).trans hKz⟩
  · have t1 : ¬ (4000 : Int) < (l.length : Int) := by omega
    have hz1 := zst_run
    have hz2 := zst_ne
    obtain ⟨k, hk⟩ : ∃ k, s.n % 64 = k := ⟨_, rfl⟩
    have hk64 : k < 64 := by omega
    have ek : (s.n : Int) % 64 = (k : Int) := by omega
    have ek2 : (s.n : Int).tmod 64 = (k : Int) := by rw [Int.tmod_eq_emod_of_nonneg (by omega)]; omega
    have wk : IntKind.i64.wrap (k : Int) = (k : Int) := IntWalk.i64_in _ (by omega)
    have wk2 : IntKind.u64.wrap (k : Int) = (k : Int) := by simp [IntKind.wrap, IntKind.bits, IntKind.signed]; omega
    have HK := Lib.hid hk
    have hn0 := Blk.new w 32 C
    have HN0 := Lib.hid hn0
    unfold Blk at hn0
    have hn1 : Blk ((w.alloc (.cells C 32)).alloc (.cells zst 32)) (w.heap.size + 1) 32 zst := by
      have := Blk.new (w.alloc (.cells C 32)) 32 zst
      rwa [alloc_sz2] at this
    have HN1 := Lib.hid hn1
    have hzs := zst_size
    have HZ := Lib.hid hzs
    clear hk hn1 hzs
    go_enter Tryd.func7, Tryd.ntmps7
    go_upto_region 4 with (first
      | refine wpList_load_row rfl 32 (.tmp 3) rfl w.heap.size rfl 32 C (0, 0) _ hn0 Tryd.underlying32 rfl (by rw [infoSt, HS.out]) ?_
      | refine wpList_store_rowTo rfl 32 (.tmp 7) (.tmp 14) rfl rfl (w.heap.size + 1) C rfl rfl 32 zst HN1.out (by rw [infoSt, HS.out]) (by rw [HZ.out, HS.out]) hone ?_)
    obtain ⟨w0, hw0⟩ : ∃ x, ((w.alloc (.cells C 32)).alloc (.cells zst 32)).setRow (w.heap.size + 1) C = x := ⟨_, rfl⟩
    have B1 : Blk w0 (w.heap.size + 1) 32 C := by rw [← hw0]; exact setRow_heap _ _ _ _ _ _ HN1.out
    have B0 : Blk w0 w.heap.size 32 C := by rw [← hw0]; exact (HN0.out.alloc _).kp (kp_setRow _ _ _) (by simp)
    have K0 : Kp [] w w0 := by rw [← hw0]; exact (((Kp.refl [] w).alloc _).alloc _).to_ (kp_setRow _ _ _) (fun y hy => .inr (by rw [List.mem_singleton.1 hy]; omega))
    have hs0 : w0.heap.size = w.heap.size + 2 := by rw [← hw0, size_setRow, alloc_sz2, alloc_sz2]
    rw [hw0]
    have c8 := B0.cell 8
    rw [← HC.out, List.getElem?_toArray, stC_n s h] at c8
    have HB0 := Lib.hid B0
    have HB1 := Lib.hid B1
    have HK0 := Lib.hid K0
    have HS0 := Lib.hid hs0
    clear hw0 B0 B1 K0 hs0 hn0 hne
    go_wp2_with fail
    go_loopw [8] (fun i wr => ∃ (j : Nat) (y : List UInt8), k ≤ j ∧ j ≤ 64 ∧ i = .int .i64 j ∧ y.length = 64 ∧ y.take k = s.t.take k ∧ Blk wr (w.heap.size + 1) 32 (stC ⟨s.h, s.n, y⟩).toArray ∧ Kp [w.heap.size + 1] w0 wr) (fun i _ => 64 - (intOf i).toNat)
    case atStart => exact ⟨k, s.t, Nat.le_refl _, by omega, rfl, h.t, rfl, by rw [HC.out]; exact HB1.out, Kp.refl _ _⟩
    case round =>
      obtain ⟨j, y, hkj, hj, rfl, hy, hyk, hB, hK⟩ := hrel
      have hwy : Wf ⟨s.h, s.n, y⟩ := ⟨h.h, h.n, hy⟩
      by_cases hlt : j < 64
      · obtain ⟨z, hz⟩ : ∃ z, y[j]? = some z := ⟨_, List.getElem?_eq_getElem (by omega)⟩
        have cz : wr.cell? ⟨w.heap.size + 1, 9 + j, none⟩ = some (.int .u8 (z.toNat : Int)) := by
          rw [hB.cell (9 + j), List.getElem?_toArray, stC_t _ hwy, show (⟨s.h, s.n, y⟩ : St).t = y from rfl, hz]; rfl
        have hf := hB.frozen (9 + j)
        have j0 : (0 : Int) ≤ (j : Int) := by omega
        have j1 : (j : Int) < 64 := by omega
        have HX := Lib.hid (w8_xor z x)
        have HS2 := Lib.hid (by
          have := hB.set_ (9 + j) (bv (z ^^^ x))
          rw [List.setIfInBounds_toArray, stC_set _ hwy] at this
          exact this : Blk (wr.setCell ⟨w.heap.size + 1, 9 + j, none⟩ (bv (z ^^^ x))) (w.heap.size + 1) 32 (stC ⟨s.h, s.n, y.set j (z ^^^ x)⟩).toArray)
        have HYK := Lib.hid (by rw [List.take_set_of_le hkj, hyk] : (y.set j (z ^^^ x)).take k = s.t.take k)
        have HY := Lib.hid (by rw [List.length_set, hy] : (y.set j (z ^^^ x)).length = 64)
        have HKr := Lib.hid hK
        clear hz hy hyk hB hK hwy
        go_wp2_with fail
        go_roundw
        case rel => exact ⟨j + 1, y.set j (z ^^^ x), by omega, by omega, by go_num, HY.out, HYK.out, by rw [HX.out]; exact HS2.out, kp_set HKr.out _ _⟩
        case measure => simp [intOf]; omega
      · obtain rfl : j = 64 := by omega
        rw [show (((64 : Nat) : Int)) = 64 from rfl]
        have hcn : cn ⟨s.h, s.n, y⟩ = cn s := cn_same s y (by rw [HK.out]; exact hyk)
        have hfd : feed ⟨s.h, s.n, y⟩ l = feed s l := by rw [← feed_cn _ l hy, hcn, feed_cn s l h.t]
        have hfn : finish ⟨s.h, s.n, y⟩ = finish s := by rw [← finish_cn _ hy, hcn, finish_cn s h.t]
        obtain ⟨ty, hty⟩ : ∃ t : St, (⟨s.h, s.n, y⟩ : St) = t := ⟨_, rfl⟩
        rw [hty] at hfd hfn hwy hB
        have HFD := Lib.hid hfd
        have HFN := Lib.hid hfn
        have HWY := Lib.hid hwy
        have hK0 := HK0.out.to_ hK (fun y hy => .inr (by rw [List.mem_singleton.1 hy]; omega))
        have HK1 := Lib.hid hK0
        have HB1r := Lib.hid hB
        have hB0r := HB0.out.kp hK (by simp)
        have HB0r := Lib.hid hB0r
        unfold Blk at hB0r
        have HSR := Lib.hid (by have := hK.size; rw [HS0.out] at this; exact this : w.heap.size + 2 ≤ wr.heap.size)
        obtain ⟨CT, hCT⟩ : ∃ C, (stC ty).toArray = C := ⟨_, rfl⟩
        have hsT : CT.size = 73 := by rw [← hCT, List.size_toArray, stC_len _ hwy]
        rw [hCT] at HB1r
        have HCT := Lib.hid hCT
        have HST := Lib.hid hsT
        clear hcn hfd hfn hty hwy hB hK hK0 hy hyk hCT hsT hkj hj hlt c8
        go_wp2_with (first
          | refine wpList_load_row rfl 32 (.tmp 3) rfl w.heap.size rfl 32 C (0, 0) _ hB0r Tryd.underlying32 rfl (by rw [infoSt, HS.out]) ?_)
        refine (pfeed_c s h l A c hc C HC.out _ (HE.out.kp HK1.out (by simp)) (byin_kp HA.out HK1.out) (by omega)).mono ?_
        rintro e w3 ⟨rfl, hK3⟩
        obtain ⟨C1, hC1⟩ : ∃ C, (stC (feed s l)).toArray = C := ⟨_, rfl⟩
        have hw1 := wf_feed s h l
        have hs1 : C1.size = 73 := by rw [← hC1, List.size_toArray, stC_len _ hw1]
        have ho1 : C1.all (·.oneCell') = true := by rw [← hC1]; exact stC_one _
        have HK3 := Lib.hid (HK1.out.trans hK3)
        have HT3 := Lib.hid (HB1r.out.kp hK3 (by simp))
        have HZ3 := Lib.hid (HB0r.out.kp hK3 (by simp))
        have HSI := Lib.hid hs1
        have HC1 := Lib.hid hC1
        have HW1 := Lib.hid hw1
        obtain ⟨g, hg⟩ : ∃ g, w3.heap.size = g := ⟨_, rfl⟩
        have hgw : w.heap.size + 2 ≤ g := by have := hK3.size; have := HSR.out; omega
        have HN3 := Lib.hid (by have := Blk.new w3 32 zst; rwa [hg] at this : Blk (w3.alloc (.cells zst 32)) g 32 zst)
        rw [hC1]
        clear hK3 hw1 hs1 hC1 hB0r
        go_upto_region 9 with (refine wpList_store_rowTo rfl 32 (.tmp 9) (.tmp 34) rfl rfl g C1 rfl rfl 32 zst HN3.out (by rw [infoSt, HSI.out]) (by rw [HZ.out, HSI.out]) ho1 ?_)
        obtain ⟨w4, hw4⟩ : ∃ x, (w3.alloc (.cells zst 32)).setRow g C1 = x := ⟨_, rfl⟩
        have hB4 : Blk w4 g 32 C1 := by rw [← hw4]; exact setRow_heap _ _ _ _ _ _ HN3.out
        have hK4 : Kp [g] w3 w4 := by rw [← hw4]; exact ((Kp.refl [g] w3).alloc _).trans (kp_setRow _ _ _)
        rw [hw4]
        have HK4 := Lib.hid (HK3.out.to_ hK4 (fun y hy => .inr (by rw [List.mem_singleton.1 hy]; omega)))
        have HT4 := Lib.hid (HT3.out.kp hK4 (by simp; omega))
        have HZ4 := Lib.hid (HZ3.out.kp hK4 (by simp; omega))
        have HB4 := Lib.hid hB4
        obtain ⟨CF, hCF⟩ : ∃ C, ((finish s).map bv).toArray = C := ⟨_, rfl⟩
        have hfl := finish_len s h
        have heq : ∀ w', Sem.run Tryd.prog (binOp .eql 32 (.agg C1) (.agg C1)) w' = .ok (.bool true) w' := fun w' => by rw [← HC1.out]; exact eq_st _ HW1.out w'
        have hgd : ∀ x y w', Sem.run Tryd.prog (eqGuard .eql 32 x y (.agg C1) (.agg C1)) w' = .ok () w' := fun x y w' => guard_st x y C1 C1 w'
        have heq2 : ∀ w', Sem.run Tryd.prog (binOp .eql 24 (.agg CF) (.agg CF)) w' = .ok (.bool true) w' := fun w' => by rw [← hCF]; exact eq_b32 _ hfl w'
        have hgd2 : ∀ x y w', Sem.run Tryd.prog (eqGuard .eql 24 x y (.agg CF) (.agg CF)) w' = .ok () w' := fun x y w' => guard_b32 x y CF CF w'
        have hcx : cn (feed s l) = feed s l := ca_cn _ (ca_feed s l h.t)
        have H1 := Lib.hid (fun (n : Gw w4) => Calls.grew_of (v := .agg C1) (by
          have := pfeed_c ty HWY.out l A c hc CT HCT.out (grew w4 n) (HE.out.kp (HK4.out.trans (grew_kp w4 n)) (by simp)) (byin_kp HA.out (HK4.out.trans (grew_kp w4 n))) (by omega)
          rw [HFD.out, HC1.out] at this
          exact this : Calls Tryd.prog 15 #[.agg CT, .slice A l.length c] (grew w4 n) (AggP C1 (grew w4 n))) (fun _ _ h => h))
        have H2 := Lib.hid (fun (n : Gw w4) => Calls.grew_of (v := .agg CF) (by
          have := pfin_c ty HWY.out CT HCT.out (grew w4 n) (HE.out.kp (HK4.out.trans (grew_kp w4 n)) (by simp))
          rw [HFN.out, hCF] at this
          exact this : Calls Tryd.prog 14 #[.agg CT] (grew w4 n) (AggP CF (grew w4 n))) (fun _ _ h => h))
        have H3 := Lib.hid (fun (n : Gw w4) => Calls.grew_of (v := .agg CF) (by
          have := pfin_c s h C HC.out (grew w4 n) (HE.out.kp (HK4.out.trans (grew_kp w4 n)) (by simp))
          rw [hCF] at this
          exact this : Calls Tryd.prog 14 #[.agg C] (grew w4 n) (AggP CF (grew w4 n))) (fun _ _ h => h))
        have H4 := Lib.hid (fun (n : Gw w4) => Calls.grew_of (v := .agg C1) (by
          have := rcanon_any (feed s l) HW1.out (grew w4 n)
          rw [hcx, HC1.out] at this
          exact this.mono (fun e w' h => ⟨by rw [h.1, HC1.out], h.2⟩) : Calls Tryd.prog 22 #[.agg C1] (grew w4 n) (AggP C1 (grew w4 n))) (fun _ _ h => h))
        have H5 := Lib.hid (fun (n : Gw w4) => Calls.grew_of (v := .bool true) (HL.out (grew w4 n) (HE.out.kp (HK4.out.trans (grew_kp w4 n)) (by simp))) (fun _ _ h => h))
        have HA0 := Lib.hid (fun w' (hw : ∃ n : Gw w4, w' = grew w4 n) => (by obtain ⟨n, rfl⟩ := hw; exact HZ4.out.kp (grew_kp w4 n) (by simp) : Blk w' w.heap.size 32 C))
        have HA1 := Lib.hid (fun w' (hw : ∃ n : Gw w4, w' = grew w4 n) => (by obtain ⟨n, rfl⟩ := hw; exact HT4.out.kp (grew_kp w4 n) (by simp) : Blk w' (w.heap.size + 1) 32 CT))
        have HA2 := Lib.hid (fun w' (hw : ∃ n : Gw w4, w' = grew w4 n) => (by obtain ⟨n, rfl⟩ := hw; exact HB4.out.kp (grew_kp w4 n) (by simp) : Blk w' g 32 C1))
        clear hw4 hB4 hK4 hCF hfl hcx hg hz1 hz2
        refine wp_region_grew (by kernel_rfl) (by kernel_rfl) ?_
        repeat (first
          | (go_big_quiet_want; refine quiet_load_row2 32 (.tmp 7) rfl (w.heap.size + 1) rfl 32 CT _ HA1.out Tryd.underlying32 rfl (by rw [infoSt, HST.out]) ?_; go_big_quiet_on; simp only [Act.put, List.setIfInBounds_toArray, List.set_cons_succ, List.set_cons_zero])
          | (go_big_quiet_want; refine quiet_load_row2 32 (.tmp 9) rfl g rfl 32 C1 _ HA2.out Tryd.underlying32 rfl (by rw [infoSt, HSI.out]) ?_; go_big_quiet_on; simp only [Act.put, List.setIfInBounds_toArray, List.set_cons_succ, List.set_cons_zero])
          | (go_big_quiet_want; refine quiet_load_row2 32 (.tmp 3) rfl w.heap.size rfl 32 C _ HA0.out Tryd.underlying32 rfl (by rw [infoSt, HS.out]) ?_; go_big_quiet_on; simp only [Act.put, List.setIfInBounds_toArray, List.set_cons_succ, List.set_cons_zero])
          | go_big_quiet_step ((first
            | (go_at_call 15; with_reducible exact H1.out _)
            | (go_at_call 14; with_reducible exact H2.out _)
            | (go_at_call 14; with_reducible exact H3.out _)
            | (go_at_call 22; with_reducible exact H4.out _)
            | (go_at_call 11; with_reducible exact H5.out _))))
        refine wpQuiet_nil ?_
        intro _ hw'
        obtain ⟨nq, hw''⟩ := hw'
        subst hw''
        go_wp2_with fail
        go_ret
        exact ⟨rfl, HK4.out.trans (grew_kp w4 nq)⟩
end Hs
end Go.Proofs.YtakanjadcnmciaaDoor
