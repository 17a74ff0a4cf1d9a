/- The law of HashSums (layer 6): it returns true. A slice of bytes; the table of constants holds what the program's text says. -/
import Derived.Test.YtakanjadcnmciaaDoorHsLf
namespace Go.Proofs.YtakanjadcnmciaaDoor
namespace Hs
open Go.RowKit Ad

theorem quiet_convert {P : Program} {C : World → Prop} {K : Act → Prop} {o : Oper} {a : Act} (t t' : TypeId) (x : Operand) (ho : o.op = .convert t t' x)
    (v u : Value) (hx : a.eval x = v) (hr : ∀ w, C w → (convert t t' v).run P w = .ok u w) (h : K (a.put o.dst u)) : o.quiet P a C K := by
  refine ⟨_, fun w hw => ?_, h⟩
  unfold Oper.quietAt execOp
  simp only [ho, hx, Sem.run_bind, hr w hw, Result.andThen_ok, Sem.run_pure]
  exact ⟨rfl, rfl⟩
set_option maxRecDepth 100000 in
set_option maxHeartbeats 1000000 in
theorem hsums_law (l : List UInt8) (A : Option Addr) (c : Nat) (w : World) (hA : ByIn w A l) (hc : l.length ≤ c) (E : KE w) (hl : l.length ≤ 9223372036854775807) :
    Calls Tryd.prog 3 #[.slice A l.length c] w (BoK true w) := by
  have HE := Lib.hid E
  have HA := Lib.hid hA
  have HL := Lib.hid (fun wz (Ez : KE wz) => lives_any wz Ez)
  clear E hA
  by_cases h1 : 4000 < l.length
  · have t1 : (4000 : Int) < (l.length : Int) := by omega
    go_enter Tryd.func3, Tryd.ntmps3
    go_wp2_with fail
    refine (HL.out _ HE.out).mono ?_
    rintro e wz ⟨rfl, hKz⟩
    go_wp2_with fail
    go_ret
    exact ⟨rfl, hKz⟩
  · have t1 : ¬ (4000 : Int) < (l.length : Int) := by omega
    obtain ⟨N, hN⟩ : ∃ N, l.length = N := ⟨_, rfl⟩
    obtain ⟨CR, hCR⟩ : ∃ C, ((sum l).map bv).toArray = C := ⟨_, rfl⟩
    have hsR : CR.size = 32 := by rw [← hCR, List.size_toArray, List.length_map, sum_len]
    have hoR : CR.all (·.oneCell') = true := by rw [← hCR]; exact bv_one _
    have HSR := Lib.hid hsR
    have HCR := Lib.hid hCR
    have HN := Lib.hid hN
    have HR0 := Lib.hid (by
      have := rsum_any l A c hc w HA.out (by omega)
      rw [hN, hCR] at this
      exact this)
    rw [hN] at hc t1 h1 ⊢
    clear hN hl hCR hsR
    go_enter Tryd.func3, Tryd.ntmps3
    go_wp2_with fail
    refine HR0.out.mono ?_
    rintro e w1 ⟨rfl, hK1⟩
    obtain ⟨g, hg⟩ : ∃ g, w1.heap.size = g := ⟨_, rfl⟩
    have hgw : w.heap.size ≤ g := by rw [← hg]; exact hK1.size
    have HK1 := Lib.hid hK1
    have HN1 := Lib.hid (by have := Blk.new w1 24 zB; rwa [hg] at this : Blk (w1.alloc (.cells zB 24)) g 24 zB)
    have hzB : zB.size = 32 := by kernel_rfl
    have HZB := Lib.hid hzB
    clear hK1 hzB
    go_upto_region 4 with (refine wpList_store_rowTo rfl 24 (.tmp 3) (.tmp 9) rfl rfl g CR rfl rfl 24 zB (by rw [zero32]; exact HN1.out) (by rw [infoB32, HSR.out]) (by rw [HZB.out, HSR.out]) hoR ?_)
    rw [zero32]
    obtain ⟨w2, hw2⟩ : ∃ x, (w1.alloc (.cells zB 24)).setRow g CR = x := ⟨_, rfl⟩
    have hB2 : Blk w2 g 24 CR := by rw [← hw2]; exact setRow_heap _ _ _ _ _ _ HN1.out
    have hK2 : Kp [g] w1 w2 := by rw [← hw2]; exact ((Kp.refl [g] w1).alloc _).trans (kp_setRow _ _ _)
    rw [hw2]
    have HB2 := Lib.hid hB2
    have HK2 := Lib.hid (HK1.out.to_ hK2 (fun y hy => .inr (by rw [List.mem_singleton.1 hy]; exact hgw)))
    clear hw2 hB2 hK2 hg hoR
    obtain ⟨C0, hC0⟩ : ∃ C, (stC start).toArray = C := ⟨_, rfl⟩
    obtain ⟨C1, hC1⟩ : ∃ C, (stC (feed start l)).toArray = C := ⟨_, rfl⟩
    have hw1 := wf_feed start wf_start l
    have heqR : ∀ w', Sem.run Tryd.prog (binOp .eql 24 (.agg CR) (.agg CR)) w' = .ok (.bool true) w' := fun w' => by rw [← HCR.out]; exact eq_b32 _ (sum_len l) w'
    have hgdR : ∀ x y w', Sem.run Tryd.prog (eqGuard .eql 24 x y (.agg CR) (.agg CR)) w' = .ok () w' := fun x y w' => guard_b32 x y CR CR w'
    obtain ⟨X, hX⟩ : ∃ X : ByteArray, (⟨(hex (sum l)).toArray⟩ : ByteArray) = X := ⟨_, rfl⟩
    obtain ⟨Y, hY⟩ : ∃ X : ByteArray, (⟨l.toArray⟩ : ByteArray) = X := ⟨_, rfl⟩
    have hbs : ∀ n : Gw w2, ByIn (grew w2 n) (some ⟨g, 0, none⟩) (sum l) := fun n => .inr ⟨g, 0, rfl, (HB2.out.kp (grew_kp w2 n) (by simp)).lt, fun i x hi => by
      rw [Nat.zero_add, (HB2.out.kp (grew_kp w2 n) (by simp)).cell i, ← HCR.out, List.getElem?_toArray, List.getElem?_map, hi]
      rfl⟩
    have P1 := Lib.hid (fun (n : Gw w2) => Calls.grew_of (v := .agg CR) (by
      have := psum_any l A c (by rw [HN.out]; exact hc) (grew w2 n) (HE.out.kp (HK2.out.trans (grew_kp w2 n)) (by simp)) (byin_kp HA.out (HK2.out.trans (grew_kp w2 n))) (by rw [HN.out]; omega)
      rw [HN.out, HCR.out] at this
      exact this : Calls Tryd.prog 13 #[.slice A N c] (grew w2 n) (AggP CR (grew w2 n))) (fun _ _ h => h))
    have P2 := Lib.hid (fun (n : Gw w2) => Calls.grew_of (v := .agg C0) (hC0 ▸ pstart_any (grew w2 n) : Calls Tryd.prog 16 #[] (grew w2 n) (AggP C0 (grew w2 n))) (fun _ _ h => h))
    have P3 := Lib.hid (fun (n : Gw w2) => Calls.grew_of (v := .agg C1) (by
      have := pfeed_c start wf_start l A c (by rw [HN.out]; exact hc) C0 hC0 (grew w2 n) (HE.out.kp (HK2.out.trans (grew_kp w2 n)) (by simp)) (byin_kp HA.out (HK2.out.trans (grew_kp w2 n))) (by rw [HN.out]; omega)
      rw [HN.out, hC1] at this
      exact this : Calls Tryd.prog 15 #[.agg C0, .slice A N c] (grew w2 n) (AggP C1 (grew w2 n))) (fun _ _ h => h))
    have P4 := Lib.hid (fun (n : Gw w2) => Calls.grew_of (v := .agg CR) (by
      have := pfin_c (feed start l) hw1 C1 hC1 (grew w2 n) (HE.out.kp (HK2.out.trans (grew_kp w2 n)) (by simp))
      rw [show ((finish (feed start l)).map bv).toArray = CR from HCR.out] at this
      exact this : Calls Tryd.prog 14 #[.agg C1] (grew w2 n) (AggP CR (grew w2 n))) (fun _ _ h => h))
    have P5 := Lib.hid (fun (n : Gw w2) => Calls.grew_of (v := .string X) (by
      have := ptext_any Y (grew w2 n) (HE.out.kp (HK2.out.trans (grew_kp w2 n)) (by simp)) (by rw [← hY]; show l.toArray.size ≤ _; rw [List.size_toArray, HN.out]; omega)
      rw [show Y.data.toList = l by rw [← hY], hX] at this
      exact this : Calls Tryd.prog 17 #[.string Y] (grew w2 n) fun e w' => e = .returned (.string X) ∧ Kp [] (grew w2 n) w') (fun _ _ h => h))
    have P6 := Lib.hid (fun (n : Gw w2) => Calls.grew_of (v := .string X) (by
      have := rhex_any (sum l) (some ⟨g, 0, none⟩) 32 (grew w2 n) (hbs n) (by rw [sum_len]; decide)
      rw [sum_len, hX] at this
      exact this : Calls Tryd.prog 18 #[.slice (some ⟨g, 0, none⟩) 32 32] (grew w2 n) fun e w' => e = .returned (.string X) ∧ ∃ m, w' = (grew w2 n).drewN m) (fun _ _ h => ⟨h.1, by obtain ⟨m, hm⟩ := h.2; rw [hm]; exact (Kp.refl [] _).drewN m⟩))
    have P7 := Lib.hid (fun (n : Gw w2) => Calls.grew_of (v := .bool true) (HL.out (grew w2 n) (HE.out.kp (HK2.out.trans (grew_kp w2 n)) (by simp))) (fun _ _ h => h))
    have HBc := Lib.hid (fun w' (hw : ∃ n : Gw w2, w' = grew w2 n) => (by obtain ⟨n, rfl⟩ := hw; exact HB2.out.kp (grew_kp w2 n) (by simp) : Blk w' g 24 CR))
    have HCv := Lib.hid (fun w' (hw : ∃ n : Gw w2, w' = grew w2 n) => (by
      obtain ⟨n, rfl⟩ := hw
      have := conv_in c (byin_kp HA.out (HK2.out.trans (grew_kp w2 n)))
      rw [HN.out, hY] at this
      exact this : (convert 22 9 (.slice A N c)).run Tryd.prog w' = .ok (.string Y) w'))
    clear hC0 hC1 hw1 hX hY hbs hgw
    refine wp_region_grew (by kernel_rfl) (by kernel_rfl) ?_
    repeat (first
      | (go_big_quiet_want; refine quiet_load_row2 24 (.tmp 3) rfl g rfl 24 CR _ HBc.out Tryd.underlying24 rfl (by rw [infoB32, HSR.out]) ?_; go_big_quiet_on; simp only [Act.put, List.setIfInBounds_toArray, List.set_cons_succ, List.set_cons_zero])
      | (go_big_quiet_want; refine quiet_convert 22 9 (.tmp 23) rfl (.slice A N c) (.string Y) rfl HCv.out ?_; go_big_quiet_on; simp only [Act.put, List.setIfInBounds_toArray, List.set_cons_succ, List.set_cons_zero])
      | go_big_quiet_step ((first
        | (go_at_call 13; with_reducible exact P1.out _)
        | (go_at_call 16; with_reducible exact P2.out _)
        | (go_at_call 15; with_reducible exact P3.out _)
        | (go_at_call 14; with_reducible exact P4.out _)
        | (go_at_call 17; with_reducible exact P5.out _)
        | (go_at_call 18; with_reducible exact P6.out _)
        | (go_at_call 11; with_reducible exact P7.out _))))
    refine wpQuiet_nil ?_
    intro _ hw'
    obtain ⟨nq, hw''⟩ := hw'
    subst hw''
    go_wp2_with fail
    go_ret
    exact ⟨rfl, HK2.out.trans (grew_kp w2 nq)⟩
end Hs
end Go.Proofs.YtakanjadcnmciaaDoor
