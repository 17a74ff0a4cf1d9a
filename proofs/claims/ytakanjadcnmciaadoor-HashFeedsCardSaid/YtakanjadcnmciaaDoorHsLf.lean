/- The law of HashFeeds (layer 6): it returns true. A state and a slice of bytes; the table of constants holds what the program's text says. -/
import Derived.Test.YtakanjadcnmciaaDoorHsLs
import Derived.Test.YtakanjadcnmciaaDoorHsRn
namespace Go.Proofs.YtakanjadcnmciaaDoor
namespace Hs
open Go.RowKit Ad

set_option maxRecDepth 100000 in
set_option maxHeartbeats 1000000 in
theorem hfeeds_law (s : St) (h : Wf s) (l : List UInt8) (A : Option Addr) (c : Nat) (w : World) (hA : ByIn w A l) (hc : l.length ≤ c) (E : KE w) (hl : l.length ≤ 9223372036854775807) :
    Calls Tryd.prog 4 #[.agg (stC s).toArray, .slice A l.length c] w (BoK true w) := by
  have HE := Lib.hid E
  have HA := Lib.hid hA
  have HL := Lib.hid (fun wz (Ez : KE wz) => lives_any wz Ez)
  obtain ⟨C, hC⟩ : ∃ C, (stC s).toArray = C := ⟨_, rfl⟩
  have hsz : C.size = 73 := by rw [← hC, List.size_toArray, stC_len s h]
  have hne : ¬ C = #[] := fun h => by rw [h] at hsz; cases hsz
  have HC := Lib.hid hC
  have HS := Lib.hid hsz
  rw [hC]
  clear E hA hC hsz
  by_cases h1 : 4000 < l.length
  · have t1 : (4000 : Int) < (l.length : Int) := by omega
    go_enter Tryd.func4, Tryd.ntmps4
    go_wp2_with fail
    refine (HL.out _ (HE.out.kp ((Kp.refl [] w).alloc _) (by simp))).mono ?_
    rintro e wz ⟨rfl, hKz⟩
    go_wp2_with fail
    go_ret
    exact ⟨rfl, ((Kp.refl [] w).alloc _).trans hKz⟩
  · have t1 : ¬ (4000 : Int) < (l.length : Int) := by omega
    obtain ⟨N, hN⟩ : ∃ N, l.length = N := ⟨_, rfl⟩
    have HN := Lib.hid hN
    rw [hN] at hc t1 h1 ⊢
    clear hN hl
    go_enter Tryd.func4, Tryd.ntmps4
    go_upto_region 3 with fail
    obtain ⟨w2, hw2⟩ : ∃ x, w.alloc (.cells C 32) = x := ⟨_, rfl⟩
    have hB2 : Blk w2 w.heap.size 32 C := by rw [← hw2]; exact Blk.new w _ _
    have hK2 : Kp [] w w2 := by rw [← hw2]; exact (Kp.refl [] w).alloc _
    rw [hw2]
    have HB2 := Lib.hid hB2
    have HK2 := Lib.hid hK2
    clear hw2 hB2 hK2 hne
    obtain ⟨C0, hC0⟩ : ∃ C, (stC start).toArray = C := ⟨_, rfl⟩
    obtain ⟨C1, hC1⟩ : ∃ C, (stC (feed s l)).toArray = C := ⟨_, rfl⟩
    obtain ⟨CR, hCR⟩ : ∃ C, ((finish s).map bv).toArray = C := ⟨_, rfl⟩
    have hw1 := wf_feed s h l
    have heq0 : ∀ w', Sem.run Tryd.prog (binOp .eql 32 (.agg C0) (.agg C0)) w' = .ok (.bool true) w' := fun w' => by rw [← hC0]; exact eq_st _ wf_start w'
    have hgd0 : ∀ x y w', Sem.run Tryd.prog (eqGuard .eql 32 x y (.agg C0) (.agg C0)) w' = .ok () w' := fun x y w' => guard_st x y C0 C0 w'
    have heq1 : ∀ w', Sem.run Tryd.prog (binOp .eql 32 (.agg C1) (.agg C1)) w' = .ok (.bool true) w' := fun w' => by rw [← hC1]; exact eq_st _ hw1 w'
    have hgd1 : ∀ x y w', Sem.run Tryd.prog (eqGuard .eql 32 x y (.agg C1) (.agg C1)) w' = .ok () w' := fun x y w' => guard_st x y C1 C1 w'
    have heqR : ∀ w', Sem.run Tryd.prog (binOp .eql 24 (.agg CR) (.agg CR)) w' = .ok (.bool true) w' := fun w' => by rw [← hCR]; exact eq_b32 _ (finish_len s h) w'
    have hgdR : ∀ x y w', Sem.run Tryd.prog (eqGuard .eql 24 x y (.agg CR) (.agg CR)) w' = .ok () w' := fun x y w' => guard_b32 x y CR CR w'
    have P1 := Lib.hid (fun (n : Gw w2) => Calls.grew_of (v := .agg C0) (hC0 ▸ pstart_any (grew w2 n) : Calls Tryd.prog 16 #[] (grew w2 n) (AggP C0 (grew w2 n))) (fun _ _ h => h))
    have P2 := Lib.hid (fun (n : Gw w2) => Calls.grew_of (v := .agg C0) (hC0 ▸ rstart_any (grew w2 n) : Calls Tryd.prog 19 #[] (grew w2 n) (AggP C0 (grew w2 n))) (fun _ _ h => h))
    have P3 := Lib.hid (fun (n : Gw w2) => Calls.grew_of (v := .agg C1) (by
      have := pfeed_c s h l A c (by rw [HN.out]; exact hc) C HC.out (grew w2 n) (HE.out.kp (HK2.out.trans (grew_kp w2 n)) (by simp)) (byin_kp HA.out (HK2.out.trans (grew_kp w2 n))) (by rw [HN.out]; omega)
      rw [HN.out, hC1] at this
      exact this : Calls Tryd.prog 15 #[.agg C, .slice A N c] (grew w2 n) (AggP C1 (grew w2 n))) (fun _ _ h => h))
    have P4 := Lib.hid (fun (n : Gw w2) => Calls.grew_of (v := .agg C1) (by
      have := rfeed_c s h l A c (by rw [HN.out]; exact hc) C HC.out (grew w2 n) (byin_kp HA.out (HK2.out.trans (grew_kp w2 n))) (by rw [HN.out]; omega)
      rw [HN.out, hC1] at this
      exact this : Calls Tryd.prog 20 #[.agg C, .slice A N c] (grew w2 n) (AggP C1 (grew w2 n))) (fun _ _ h => h))
    have P5 := Lib.hid (fun (n : Gw w2) => Calls.grew_of (v := .agg CR) (hCR ▸ pfin_c s h C HC.out (grew w2 n) (HE.out.kp (HK2.out.trans (grew_kp w2 n)) (by simp)) : Calls Tryd.prog 14 #[.agg C] (grew w2 n) (AggP CR (grew w2 n))) (fun _ _ h => h))
    have P6 := Lib.hid (fun (n : Gw w2) => Calls.grew_of (v := .agg CR) (hCR ▸ rfin_c s h C HC.out (grew w2 n) : Calls Tryd.prog 21 #[.agg C] (grew w2 n) (AggP CR (grew w2 n))) (fun _ _ h => h))
    have P7 := Lib.hid (fun (n : Gw w2) => Calls.grew_of (v := .bool true) (HL.out (grew w2 n) (HE.out.kp (HK2.out.trans (grew_kp w2 n)) (by simp))) (fun _ _ h => h))
    have HBc := Lib.hid (fun w' (hw : ∃ n : Gw w2, w' = grew w2 n) => (by obtain ⟨n, rfl⟩ := hw; exact HB2.out.kp (grew_kp w2 n) (by simp) : Blk w' w.heap.size 32 C))
    clear hC0 hC1 hCR hw1
    refine wp_region_grew (by kernel_rfl) (by kernel_rfl) ?_
    repeat (first
      | (go_big_quiet_want; refine quiet_load_row2 32 (.tmp 2) rfl w.heap.size rfl 32 C _ HBc.out Tryd.underlying32 rfl (by rw [infoSt, HS.out]) ?_; go_big_quiet_on; simp only [Act.put, List.setIfInBounds_toArray, List.set_cons_succ, List.set_cons_zero])
      | go_big_quiet_step ((first
        | (go_at_call 16; with_reducible exact P1.out _)
        | (go_at_call 19; with_reducible exact P2.out _)
        | (go_at_call 15; with_reducible exact P3.out _)
        | (go_at_call 20; with_reducible exact P4.out _)
        | (go_at_call 14; with_reducible exact P5.out _)
        | (go_at_call 21; with_reducible exact P6.out _)
        | (go_at_call 11; with_reducible exact P7.out _))))
    refine wpQuiet_nil ?_
    intro _ hw'
    obtain ⟨nq, hw''⟩ := hw'
    subst hw''
    go_wp2_with fail
    go_ret
    exact ⟨rfl, HK2.out.trans (grew_kp w2 nq)⟩
end Hs
end Go.Proofs.YtakanjadcnmciaaDoor
