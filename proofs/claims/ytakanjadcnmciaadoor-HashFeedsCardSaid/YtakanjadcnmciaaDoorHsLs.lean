/- The law of HashSplits (layer 6): it returns true. A state and two slices of bytes; the table of constants holds what the program's text says. -/
import Derived.Test.YtakanjadcnmciaaDoorHsLb
import Derived.Test.YtakanjadcnmciaaDoorHsEq
import Derived.Test.YtakanjadcnmciaaDoorHsQt
namespace Go.Proofs.YtakanjadcnmciaaDoor
namespace Hs
open Go.RowKit Ad

theorem wpList_append_eq {P : Program} (w : World) {ops : Array Oper} {rest : List Oper} {o : Oper} {a : Act} {Q : Exit → Act → World → Prop} (hgd : o.guard = none) (d s : Operand) (t t' : TypeId)
    (ho : o.op = .call { callee := .builtin .append, args := #[d, s], argTypes := #[t, t'] }) (v u : Value) (hd : a.eval d = v) (hs : a.eval s = u) {v' : Value} {w' : World}
    (hr : (Builtin.append_ #[t, t'] o.type #[v, u]).run P w = .ok v' w') (h : wpList P ops Q rest (a.put o.dst v') w') : wpList P ops Q (o :: rest) a w := by
  refine wpList_plain hgd fun K hK => ?_
  unfold Oper.wp execOp
  simp only [ho, resolve, invoke, builtin, Sem.run_bind, Sem.run_pure, Result.andThen_ok, List.map_toArray, List.map_cons, List.map_nil, hd, hs, hr]
  exact hK _ _ h
/-- append(v, a...) where v is owned and a reads as bytes. -/
theorem append_in {w : World} {B : Nat} {v : Value} {l0 l : List UInt8} {A : Option Addr} {c : Nat} (ty : TypeId) (hown : w.ownsRow B 5 1 v l0.length (Lib.byteCells l0)) (hA : ByIn w A l) (hn : A = none → c = 0) (hB : B ≤ w.heap.size) (hl : l0.length + l.length ≤ 1073741824) :
    ∃ v' w', (Builtin.append_ #[22, 22] ty #[v, .slice A l.length c]).run Tryd.prog w = .ok v' w' ∧ w'.ownsRow B 5 1 v' (l0 ++ l).length (Lib.byteCells (l0 ++ l)) ∧ (∀ w0, Below B w0 w → Below B w0 w') := by
  obtain ⟨i0, hi, hz0, hz1, hz2⟩ := info_parts' infoB
  cases A with
  | none =>
    rcases hA with rfl | ⟨b, o, h, _⟩
    · obtain rfl := hn rfl
      refine ⟨v, w, run_append_owned_none w B 22 ty 5 i0 1 Tryd.underlying22 hi v l0.length _ hown, by rw [List.append_nil]; exact hown, fun _ h => h⟩
    · cases h
  | some a =>
    obtain ⟨v', w', hr, ho, hg, _⟩ := run_append_own (P := Tryd.prog) (w := w) B 22 ty 5 i0 (.int .u8 0) 1 1 Tryd.underlying22 hi hz0 hz1 hz2 rfl (by decide) v l0.length _ hown a l.length c (Lib.byteCells l) (by unfold Lib.byteCells; rw [List.length_map, Nat.mul_one])
      (fun j u hu => by
        unfold Lib.byteCells at hu
        rw [List.getElem?_map] at hu
        obtain ⟨x, hx, rfl⟩ := Option.map_eq_some_iff.1 hu
        rcases hA with rfl | ⟨b, o, h, _, hc⟩
        · simp at hx
        · obtain rfl := Option.some.inj h
          rw [Addr.add_mid]
          exact hc j x hx) (fun u hu => by unfold Lib.byteCells at hu; obtain ⟨x, _, rfl⟩ := List.mem_map.1 hu; rfl) (by unfold maxLen; omega) (by omega) hB
    refine ⟨v', w', hr, ?_, fun w0 h => h.grown hg hB (fun k hk => (hown.lt k hk).1)⟩
    rw [List.length_append]
    unfold Lib.byteCells at ho ⊢
    rw [List.map_append]
    exact ho
theorem wpQuiet_load_row {P : Program} {ops : Array Oper} {C : World → Prop} {Q : Act → Prop} {o : Oper} {rest : List Oper} {a : Act} (hg : o.guard = none) (ty : TypeId) (x : Operand) (ho : o.op = .load ty x)
    (g : Nat) (hx : a.eval x = .pointer (some ⟨g, 0, none⟩)) (t : TypeId) (cs : Array Value) (d : TypeDesc) (hB : ∀ w, C w → Blk w g t cs)
    (hu : P.underlying ty = some d) (hd : (match d with | .struct _ | .array _ _ => true | _ => false) = true) (hi : (P.info? ty).map (·.size) = some cs.size)
    (h : wpQuiet P ops C Q rest (a.put o.dst (.agg cs))) : wpQuiet P ops C Q (o :: rest) a := by
  unfold wpQuiet
  rw [if_pos (by simp [Region.wanted, hg])]
  refine ⟨_, fun w hw => ?_, h⟩
  unfold Oper.quietAt execOp
  simp only [ho, hx, Instr.loadAt, Instr.sureAddr, Sem.run_bind, Sem.run_pure, Result.andThen_ok, run_loadVar_row w g t ty cs (0, 0) d (hB w hw) hu hd hi]
  exact ⟨rfl, rfl⟩
theorem quiet_load_row2 {P : Program} {C : World → Prop} {K : Act → Prop} {o : Oper} {a : Act} (ty : TypeId) (x : Operand) (ho : o.op = .load ty x)
    (g : Nat) (hx : a.eval x = .pointer (some ⟨g, 0, none⟩)) (t : TypeId) (cs : Array Value) (d : TypeDesc) (hB : ∀ w, C w → Blk w g t cs)
    (hu : P.underlying ty = some d) (hd : (match d with | .struct _ | .array _ _ => true | _ => false) = true) (hi : (P.info? ty).map (·.size) = some cs.size)
    (h : K (a.put o.dst (.agg cs))) : o.quiet P a C K := by
  refine ⟨_, fun w hw => ?_, h⟩
  unfold Oper.quietAt execOp
  simp only [ho, hx, Instr.loadAt, Instr.sureAddr, Sem.run_bind, Sem.run_pure, Result.andThen_ok, run_loadVar_row w g t ty cs (0, 0) d (hB w hw) hu hd hi]
  exact ⟨rfl, rfl⟩
set_option maxRecDepth 100000 in
set_option maxHeartbeats 1000000 in
theorem hsplit_law (s : St) (h : Wf s) (l r : List UInt8) (A B : Option Addr) (c d : Nat) (w : World) (hA : ByIn w A l) (hB : ByIn w B r) (hc : l.length ≤ c) (hd : r.length ≤ d) (hAn : A = none → c = 0) (hBn : B = none → d = 0) (E : KE w) (hl : l.length ≤ 9223372036854775807) (hr : r.length ≤ 9223372036854775807) :
    Calls Tryd.prog 5 #[.agg (stC s).toArray, .slice A l.length c, .slice B r.length d] w (BoK true w) := by
  have HE := Lib.hid E
  have HA := Lib.hid hA
  have HB := Lib.hid hB
  have HL := Lib.hid (fun wz (Ez : KE wz) => lives_any wz Ez)
  obtain ⟨C, hC⟩ : ∃ C, (stC s).toArray = C := ⟨_, rfl⟩
  have hsz : C.size = 73 := by rw [← hC, List.size_toArray, stC_len s h]
  have hne : ¬ C = #[] := fun h => by rw [h] at hsz; cases hsz
  have HC := Lib.hid hC
  have HS := Lib.hid hsz
  rw [hC]
  clear E hA hB hC hsz
  by_cases h1 : 4000 < l.length
  · have t1 : (4000 : Int) < (l.length : Int) := by omega
    go_enter Tryd.func5, Tryd.ntmps5
    go_wp2_with fail
    refine (HL.out _ (HE.out.kp ((Kp.refl [] w).alloc _) (by simp))).mono ?_
    rintro e wz ⟨rfl, hKz⟩
    go_wp2_with fail
    go_ret
    exact ⟨rfl, ((Kp.refl [] w).alloc _).trans hKz⟩
  · by_cases h2 : 4000 < r.length
    · have t1 : ¬ (4000 : Int) < (l.length : Int) := by omega
      have t2 : (4000 : Int) < (r.length : Int) := by omega
      go_enter Tryd.func5, Tryd.ntmps5
      go_wp2_with fail
      refine (HL.out _ (HE.out.kp ((Kp.refl [] w).alloc _) (by simp))).mono ?_
      rintro e wz ⟨rfl, hKz⟩
      go_wp2_with fail
      go_ret
      exact ⟨rfl, ((Kp.refl [] w).alloc _).trans hKz⟩
    · have t1 : ¬ (4000 : Int) < (l.length : Int) := by omega
      have t2 : ¬ (4000 : Int) < (r.length : Int) := by omega
      go_enter Tryd.func5, Tryd.ntmps5
      go_upto_region 4 with fail
      obtain ⟨w0, hw0⟩ : ∃ x, w.alloc (.cells C 32) = x := ⟨_, rfl⟩
      have hB0 : Blk w0 w.heap.size 32 C := by rw [← hw0]; exact Blk.new w _ _
      have hK0 : Kp [] w w0 := by rw [← hw0]; exact (Kp.refl [] w).alloc _
      rw [hw0]
      have HB0 := Lib.hid hB0
      have HK0 := Lib.hid hK0
      obtain ⟨v1, w1, hr1, ho1, hb1⟩ := append_in (l0 := []) 22 (World.ownsRow_nil w0 w0.heap.size 5 1) (byin_kp HA.out hK0) hAn (Nat.le_refl _) (by simp; omega)
      rw [List.nil_append] at ho1
      have hk1 := kp_of_below (hb1 w0 (Below.refl _ _))
      obtain ⟨v2, w2, hr2, ho2, hb2⟩ := append_in 22 ho1 (byin_kp HB.out (hK0.trans hk1)) hBn hk1.size (by omega)
      have hk2 := kp_of_below (hb2 w0 (hb1 w0 (Below.refl _ _)))
      obtain ⟨A2, c2, rfl, hc2, hA2⟩ := own_in ho2
      have HA2 := Lib.hid hA2
      have HK2 := Lib.hid (hK0.trans hk2)
      have HB2 := Lib.hid (hB0.kp hk2 (by simp))
      clear hw0 hB0 hK0 hk1 hk2 ho1 ho2 hb1 hb2 hA2 hne
      go_upto_region 6 with (first
        | (at_builtin; refine wpList_append_eq _ rfl (.tmp 17) (.tmp 18) 22 22 rfl _ _ rfl rfl hr1 ?_)
        | (at_builtin; refine wpList_append_eq _ rfl (.tmp 20) (.tmp 21) 22 22 rfl _ _ rfl rfl hr2 ?_))
      clear hr1 hr2
      obtain ⟨C1, hC1⟩ : ∃ C, (stC (feed s l)).toArray = C := ⟨_, rfl⟩
      obtain ⟨C3, hC3⟩ : ∃ C, (stC (feed (feed s l) r)).toArray = C := ⟨_, rfl⟩
      have hw1 := wf_feed s h l
      have hw3 := wf_feed _ hw1 r
      have heq : ∀ w', Sem.run Tryd.prog (binOp .eql 32 (.agg C3) (.agg C3)) w' = .ok (.bool true) w' := fun w' => by rw [← hC3]; exact eq_st _ hw3 w'
      have hgd : ∀ x y w', Sem.run Tryd.prog (eqGuard .eql 32 x y (.agg C3) (.agg C3)) w' = .ok () w' := fun x y w' => guard_st x y C3 C3 w'
      have H1 := Lib.hid (fun (n : Gw w2) => Calls.grew_of (v := .agg C1) (hC1 ▸ pfeed_c s h l A c hc C HC.out (grew w2 n) (HE.out.kp (HK2.out.trans (grew_kp w2 n)) (by simp)) (byin_kp HA.out (HK2.out.trans (grew_kp w2 n))) (by omega) : Calls Tryd.prog 15 #[.agg C, .slice A l.length c] (grew w2 n) (AggP C1 (grew w2 n))) (fun _ _ h => h))
      have H2 := Lib.hid (fun (n : Gw w2) => Calls.grew_of (v := .agg C3) (hC3 ▸ pfeed_c (feed s l) hw1 r B d hd C1 hC1 (grew w2 n) (HE.out.kp (HK2.out.trans (grew_kp w2 n)) (by simp)) (byin_kp HB.out (HK2.out.trans (grew_kp w2 n))) (by omega) : Calls Tryd.prog 15 #[.agg C1, .slice B r.length d] (grew w2 n) (AggP C3 (grew w2 n))) (fun _ _ h => h))
      have hall : (stC (feed s (l ++ r))).toArray = C3 := by rw [← hC3, feed_split s l r h.t]
      have H3 := Lib.hid (fun (n : Gw w2) => Calls.grew_of (v := .agg C3) (by
        have := pfeed_c s h (l ++ r) A2 c2 hc2 C HC.out (grew w2 n) (HE.out.kp (HK2.out.trans (grew_kp w2 n)) (by simp)) (byin_kp HA2.out (grew_kp w2 n)) (by rw [List.length_append]; omega)
        rw [List.length_append, hall] at this
        exact this : Calls Tryd.prog 15 #[.agg C, .slice A2 (l.length + r.length) c2] (grew w2 n) (AggP C3 (grew w2 n))) (fun _ _ h => h))
      have H4 := Lib.hid (fun (n : Gw w2) => Calls.grew_of (v := .bool true) (HL.out (grew w2 n) (HE.out.kp (HK2.out.trans (grew_kp w2 n)) (by simp))) (fun _ _ h => h))
      have HBc := Lib.hid (fun w' (hw : ∃ n : Gw w2, w' = grew w2 n) => (by obtain ⟨n, rfl⟩ := hw; exact HB2.out.kp (grew_kp w2 n) (by simp) : Blk w' w.heap.size 32 C))
      have HQ := Lib.hid heq
      have HG := Lib.hid hgd
      clear hC1 hC3 hw1 hw3 hall hc2
      refine wp_region_grew (by kernel_rfl) (by kernel_rfl) ?_
      repeat (first
        | (refine wpQuiet_load_row rfl 32 (.tmp 3) rfl w.heap.size rfl 32 C _ HBc.out Tryd.underlying32 rfl (by rw [infoSt, HS.out]) ?_; simp only [Act.put, List.setIfInBounds_toArray, List.set_cons_succ, List.set_cons_zero])
        | go_big_quiet_step ((first
          | (go_at_call 15; with_reducible exact H1.out _)
          | (go_at_call 15; with_reducible exact H2.out _)
          | (go_at_call 15; with_reducible exact H3.out _)
          | (go_at_call 11; with_reducible exact H4.out _))))
      refine wpQuiet_nil ?_
      intro _ hw'
      obtain ⟨nq, hw''⟩ := hw'
      subst hw''
      go_wp2_with fail
      go_ret
      exact ⟨rfl, HK2.out.trans (grew_kp w2 nq)⟩
end Hs
end Go.Proofs.YtakanjadcnmciaaDoor
