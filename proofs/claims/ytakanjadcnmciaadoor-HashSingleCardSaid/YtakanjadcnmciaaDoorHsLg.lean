/- The law of HashSingle (layer 6): it returns true. Bytes; the table of constants holds what the program's text says. -/
import Derived.Test.YtakanjadcnmciaaDoorHsLt
namespace Go.Proofs.YtakanjadcnmciaaDoor
namespace Hs
open Go.RowKit Ad

theorem feed_nil_start : feed start [] = start := rfl
theorem feed_take (l : List UInt8) (j : Nat) (x : UInt8) (h : l[j]? = some x) : feed start (l.take (j + 1)) = feed (feed start (l.take j)) [x] := by
  rw [feed_split start (l.take j) [x] rfl, List.take_add_one, h]
  rfl
set_option maxRecDepth 100000 in
set_option maxHeartbeats 1000000 in
theorem hsingle_law (l : List UInt8) (A : Option Addr) (c : Nat) (w : World) (hA : ByIn w A l) (hc : l.length ≤ c) (E : KE w) (hl : l.length ≤ 9223372036854775807) (hcc : c ≤ 9223372036854775807) :
    Calls Tryd.prog 6 #[.slice A l.length c] w (BoK true w) := by
  have HE := Lib.hid E
  have HA := Lib.hid hA
  have HL := Lib.hid (fun wz (Ez : KE wz) => lives_any wz Ez)
  clear E hA
  by_cases h1 : 300 < l.length
  · have t1 : (300 : Int) < (l.length : Int) := by omega
    go_enter Tryd.func6, Tryd.ntmps6
    go_wp2_with fail
    refine (HL.out _ HE.out).mono ?_
    rintro e wz ⟨rfl, hKz⟩
    go_wp2_with fail
    go_ret
    exact ⟨rfl, hKz⟩
  · have t1 : ¬ (300 : Int) < (l.length : Int) := by omega
    have hz1 := zst_run
    have hz2 := zst_ne
    obtain ⟨N, hN⟩ : ∃ N, l.length = N := ⟨_, rfl⟩
    have HN := Lib.hid hN
    rw [hN] at hc t1 h1 ⊢
    clear hN hl
    go_enter Tryd.func6, Tryd.ntmps6
    go_wp2_with fail
    refine (pstart_any _).mono ?_
    rintro e w1 ⟨rfl, hK1⟩
    have HK1 := Lib.hid hK1
    obtain ⟨g, hg⟩ : ∃ g, w1.heap.size = g := ⟨_, rfl⟩
    have hgw : w.heap.size ≤ g := by rw [← hg]; exact hK1.size
    have HN1 := Lib.hid (by have := Blk.new w1 32 zst; rwa [hg] at this : Blk (w1.alloc (.cells zst 32)) g 32 zst)
    obtain ⟨CS0, hCS⟩ : ∃ C, (stC start).toArray = C := ⟨_, rfl⟩
    have hss : CS0.size = 73 := by rw [← hCS]; rfl
    have hos : CS0.all (·.oneCell') = true := by rw [← hCS]; exact stC_one _
    have HSS := Lib.hid hss
    have HCS := Lib.hid hCS
    have hzs := zst_size
    have HZ := Lib.hid hzs
    rw [hCS]
    clear hK1 hCS hss hzs
    go_upto_region 4 with (refine wpList_store_rowTo rfl 32 (.tmp 3) (.tmp 9) rfl rfl g CS0 rfl rfl 32 zst HN1.out (by rw [infoSt, HSS.out]) (by rw [HZ.out, HSS.out]) hos ?_)
    obtain ⟨w2, hw2⟩ : ∃ x, (w1.alloc (.cells zst 32)).setRow g CS0 = x := ⟨_, rfl⟩
    have hB2 : Blk w2 g 32 CS0 := by rw [← hw2]; exact setRow_heap _ _ _ _ _ _ HN1.out
    have hK2 : Kp [g] w1 w2 := by rw [← hw2]; exact ((Kp.refl [g] w1).alloc _).trans (kp_setRow _ _ _)
    rw [hw2]
    have HB2 := Lib.hid hB2
    have HK2 := Lib.hid (HK1.out.to_ hK2 (fun y hy => .inr (by rw [List.mem_singleton.1 hy]; exact hgw)))
    clear hw2 hB2 hK2 hg hos hz1 hz2
    go_wp2_with fail
    go_loopw [4] (fun i wr => ∃ j : Nat, j ≤ N ∧ i = .int .i64 j ∧ Blk wr g 32 (stC (feed start (l.take j))).toArray ∧ Kp [g] w2 wr) (fun i _ => N - (intOf i).toNat)
    case atStart => exact ⟨0, by omega, rfl, by rw [List.take_zero, feed_nil_start, HCS.out]; exact HB2.out, Kp.refl _ _⟩
    case round =>
      obtain ⟨j, hj, rfl, hB, hK⟩ := hrel
      obtain ⟨S, hS⟩ : ∃ S, feed start (l.take j) = S := ⟨_, rfl⟩
      rw [hS] at hB
      have hwS : Wf S := by rw [← hS]; exact wf_feed _ wf_start _
      obtain ⟨CJ, hCJ⟩ : ∃ C, (stC S).toArray = C := ⟨_, rfl⟩
      have hsJ : CJ.size = 73 := by rw [← hCJ, List.size_toArray, stC_len _ hwS]
      rw [hCJ] at hB
      have HCJ := Lib.hid hCJ
      have HSJ := Lib.hid hsJ
      have HWS := Lib.hid hwS
      have HSE := Lib.hid hS
      have HBJ := Lib.hid hB
      have hKJ := HK2.out.to_ hK (fun y hy => .inr (by rw [List.mem_singleton.1 hy]; exact hgw))
      have HKJ := Lib.hid hKJ
      have HKR := Lib.hid hK
      by_cases hlt : j < N
      · obtain ⟨x, hx⟩ : ∃ x, l[j]? = some x := ⟨_, List.getElem?_eq_getElem (by rw [HN.out]; exact hlt)⟩
        obtain ⟨b, o, rfl, hb, hcb⟩ := HA.out.resolve_left (fun e => by have := HN.out; rw [e] at this; simp at this; omega)
        have HFT := Lib.hid (by rw [feed_take l j x hx, hS] : feed start (l.take (j + 1)) = feed S [x])
        have hnn : (feed S [x]).n = j + 1 := by
          rw [← hS, ← feed_take l j x hx, feed_n start _ wf_start.n]
          show (0 + (l.take (j + 1)).length) % 18446744073709551616 = j + 1
          rw [List.length_take, HN.out]
          omega
        obtain ⟨CX, hCX⟩ : ∃ C, (stC (feed S [x])).toArray = C := ⟨_, rfl⟩
        have hwX := wf_feed S hwS [x]
        have hsX : CX.size = 73 := by rw [← hCX, List.size_toArray, stC_len _ hwX]
        have hoX : CX.all (·.oneCell') = true := by rw [← hCX]; exact stC_one _
        have c8 : CX[8]? = some (.int .u64 ((j + 1 : Nat) : Int)) := by rw [← hCX, List.getElem?_toArray, stC_n _ hwX, hnn]
        have HCX := Lib.hid hCX
        have HSX := Lib.hid hsX
        have HC8 := Lib.hid c8
        have HBY := Lib.hid (fun w' (k : Kp [] wr w') => (.inr ⟨b, o + j, rfl, Nat.lt_of_lt_of_le hb (hKJ.trans k).size, fun i y hy => by
          match i, hy with
          | 0, hy =>
            obtain rfl : x = y := by simpa using hy
            rw [Nat.add_zero, (hKJ.trans k).cell (p := ⟨b, o + j, none⟩) hb (by simp)]
            exact hcb j x hx⟩ : ByIn w' (some ⟨b, o + j, none⟩) [x]))
        have hjc : j < c := by omega
        obtain ⟨m, hm⟩ : ∃ m, j + 1 = m := ⟨_, rfl⟩
        have HM := Lib.hid hm
        have em : (j : Int) + 1 = (m : Int) := by omega
        have wm : IntKind.i64.wrap (m : Int) = (m : Int) := IntWalk.i64_in _ (by omega)
        have wm2 : IntKind.u64.wrap (m : Int) = (m : Int) := by simp [IntKind.wrap, IntKind.bits, IntKind.signed]; omega
        have j0 : (0 : Int) ≤ (j : Int) := by omega
        have jm : (j : Int) ≤ (m : Int) := by omega
        have mc : (m : Int) ≤ (c : Int) := by omega
        have hne2 : ¬ c = j := by omega
        have hne3 : ¬ j = c := by omega
        clear hS hB hwS hCJ hsJ hx hb hcb hnn hCX hwX hsX c8 hm hK hKJ
        go_wp2_with fail
        have H1 := Lib.hid (fun (n : Gw wr) => Calls.grew_of (v := .agg CX) (by
          have := pfeed_c S HWS.out [x] (some ⟨b, o + j, none⟩) (c - j) (by show 1 ≤ c - j; omega) CJ HCJ.out (grew wr n) (HE.out.kp (HKJ.out.trans (grew_kp wr n)) (by simp)) (HBY.out _ (grew_kp wr n)) (by show 1 ≤ _; omega)
          rw [HCX.out] at this
          exact this : Calls Tryd.prog 15 #[.agg CJ, .slice (some ⟨b, o + j, none⟩) 1 (c - j)] (grew wr n) (AggP CX (grew wr n))) (fun _ _ h => h))
        have HA0 := Lib.hid (fun w' (hw : ∃ n : Gw wr, w' = grew wr n) => (by obtain ⟨n, rfl⟩ := hw; exact HBJ.out.kp (grew_kp wr n) (by simp) : Blk w' g 32 CJ))
        have hmj : m - j = 1 := by have := HM.out; omega
        refine wp_region_grew_tail 7 (by kernel_rfl) (by kernel_rfl) ?_
        simp only [List.take_succ_cons, List.take_zero, List.drop_succ_cons, List.drop_zero]
        repeat (first
          | (go_big_quiet_want; refine quiet_load_row2 32 (.tmp 3) rfl g rfl 32 CJ _ HA0.out Tryd.underlying32 rfl (by rw [infoSt, HSJ.out]) ?_; go_big_quiet_on; simp only [Act.put, List.setIfInBounds_toArray, List.set_cons_succ, List.set_cons_zero])
          | go_big_quiet_step ((go_at_call 15; with_reducible exact H1.out _)))
        refine wpQuiet_nil ?_
        intro _ hw'
        obtain ⟨nq, hw''⟩ := hw'
        subst hw''
        have HB5 := Lib.hid (HBJ.out.kp (grew_kp wr nq) (by simp))
        have HK5 := Lib.hid (HKR.out.trans (grew_kp wr nq).of_nil)
        obtain ⟨w5, hw5⟩ : ∃ x, grew wr nq = x := ⟨_, rfl⟩
        rw [hw5] at HB5 HK5 ⊢
        clear hw5 hmj
        go_upto_region 8 with (refine wpList_store_rowTo rfl 32 (.tmp 3) (.tmp 22) rfl rfl g CX rfl rfl 32 CJ HB5.out (by rw [infoSt, HSX.out]) (by rw [HSJ.out, HSX.out]) hoX ?_)
        obtain ⟨w6, hw6⟩ : ∃ x, w5.setRow g CX = x := ⟨_, rfl⟩
        have hB6 : Blk w6 g 32 CX := by rw [← hw6]; exact setRow_heap _ _ _ _ _ _ HB5.out
        have hK6 : Kp [g] w2 w6 := by rw [← hw6]; exact HK5.out.trans (kp_setRow _ _ _)
        rw [hw6]
        have c8 := hB6.cell 8
        rw [HC8.out, HM.out] at c8
        have HB6 := Lib.hid hB6
        have HK6 := Lib.hid hK6
        clear hw6 hB6 hK6 hoX
        go_wp2_with fail
        go_roundw
        case rel => exact ⟨j + 1, by omega, by have := HM.out; rw [this], by rw [HFT.out, HCX.out]; exact HB6.out, HK6.out⟩
        case measure => have := HM.out; simp [intOf]; omega
      · obtain rfl : j = N := by omega
        have hSl : S = feed start l := by rw [← hS, List.take_of_length_le (by rw [HN.out]; exact Nat.le_refl _)]
        obtain ⟨CR, hCR⟩ : ∃ C, ((sum l).map bv).toArray = C := ⟨_, rfl⟩
        have hfin : ((finish S).map bv).toArray = CR := by rw [hSl, ← hCR]; rfl
        have heq : ∀ w', Sem.run Tryd.prog (binOp .eql 24 (.agg CR) (.agg CR)) w' = .ok (.bool true) w' := fun w' => by rw [← hCR]; exact eq_b32 _ (sum_len l) w'
        have hgd : ∀ x y w', Sem.run Tryd.prog (eqGuard .eql 24 x y (.agg CR) (.agg CR)) w' = .ok () w' := fun x y w' => guard_b32 x y CR CR w'
        have HP := Lib.hid (by have := pfin_c S hwS CJ hCJ wr (HE.out.kp hKJ (by simp)); rw [hfin] at this; exact this : Calls Tryd.prog 14 #[.agg CJ] wr (AggP CR wr))
        have HSu := Lib.hid (fun w' (k : Kp [] w w') => (by have := psum_any l A c (by rw [HN.out]; exact hc) w' (HE.out.kp k (by simp)) (byin_kp HA.out k) (by rw [HN.out]; omega); rw [hCR, HN.out] at this; exact this : Calls Tryd.prog 13 #[.slice A j c] w' (AggP CR w')))
        unfold Blk at hB
        clear hS hwS hCJ hsJ hK hKJ hSl hfin hCR hj hlt
        go_wp2_with (first
          | refine wpList_load_row rfl 32 (.tmp 3) rfl g rfl 32 CJ (0, 0) _ hB Tryd.underlying32 rfl (by rw [infoSt, HSJ.out]) ?_)
        refine HP.out.mono ?_
        rintro e w5 ⟨rfl, hK5⟩
        have HK5 := Lib.hid (HKJ.out.trans hK5)
        clear hK5 hB
        go_wp2_with fail
        refine (HSu.out _ HK5.out).mono ?_
        rintro e w6 ⟨rfl, hK6⟩
        have HK6 := Lib.hid (HK5.out.trans hK6)
        clear hK6
        go_wp2_with fail
        refine (HL.out _ (HE.out.kp HK6.out (by simp))).mono ?_
        rintro e w7 ⟨rfl, hK7⟩
        have HK7 := Lib.hid (HK6.out.trans hK7)
        clear hK7 heq hgd
        go_wp2_with fail
        go_ret
        exact ⟨rfl, HK7.out⟩
end Hs
end Go.Proofs.YtakanjadcnmciaaDoor
