/- Texts of one set of library modules: HeSc. -/
import Derived.Test.YtbcaindpbeaheaaGreatDoorZ33
import Derived.Test.YtbcaindpbeaheaaGreatDoorZ34
namespace Go.Proofs.YtbcaindpbeaheaaGreatDoor
namespace Ad
open Go.RowKit Lx Go.Shelf
attribute [local go_sem] Oper.semAt_some
theorem blk_own {β : Type} (B : Nat) (t : TypeId) (f : β → Array Value) : Own (fun s W => Blk W B t (f s)) := fun s X Y row hs hg hrow =>
 (hg.block B (Blk.lt hs) (fun e' => by obtain ⟨o, ho, hc⟩ := hrow B e'.symm; rw [show X.heap[B]? = _ from hs] at ho; cases ho; cases hc)).trans hs
def Hands (gf : Nat) (lb : Array Value) (L : List Prm) (n₀ : Nat) (w : World) : Prop := SeqStopsK Fence.wide 2 Tryz.prog gf lb encP1 (Below n₀) (fun ys => ys = L) (fun _ => True) L.length w
set_option maxRecDepth 100000 in
set_option maxHeartbeats 4000000 in
theorem apseq_any (gf : Nat) (lb : Array Value) (L : List Prm) (hL : L.length ≤ 4194304) (w : World) (eg : ∀ args w, (callFunc gf args).run Tryz.prog w = .ok (.enter gf args) w) (hseq : Hands gf lb L w.heap.size w) :
   Calls Tryz.prog 196 #[.slice none 0 0, .func (.func gf) #[] lb] w fun e w' => ∃ v, e = .returned v ∧ w'.ownsRow w.heap.size 109 3 v L.length (pcl L) ∧ Below w.heap.size w w' := by
 obtain ⟨i0, hi, hz0, hz1, hz2⟩ := info_parts infoPrm3
 refine (callsIn_wide (n := 3)).1 ?_
 refine callsIn_of_wp_marks Tryz.func196 rfl trivial ?_ rfl
 simp only [Tryz.ntmps196, List.size_toArray, List.length_cons, List.length_nil, Nat.reduceAdd, Nat.reduceSub, Array.replicate_succ, Array.replicate_zero, List.push_toArray, List.append_toArray, List.nil_append, List.cons_append]
 gi_wp2_with fail
 obtain ⟨W0, hW0⟩ : ∃ W0, w.alloc (.cells #[.slice none 0 0] 36) = W0 := ⟨_, rfl⟩
 have hsz : W0.heap.size = w.heap.size + 1 := by rw [← hW0]; simp
 have hbx : Boxed W0 w.heap.size 36 (.slice none 0 0) := by rw [← hW0]; exact Boxed.new w _ _
 have hB0 : Below w.heap.size w W0 := by rw [← hW0]; exact (Below.refl _ _).alloc (Nat.le_refl _) _
 rw [hW0]
 refine wpIn_rangeFunc_ownH (n := 3) rfl (by omega) (gf := gf) (lb := lb) rfl trivial eg hseq (fun h k => h.trans k) (belowK_b (by omega)) hB0 (fun _ => rfl)
  (fun pre W => (∃ v, Boxed W w.heap.size 36 v ∧ W.ownsRow w.heap.size 109 3 v pre.length (pcl pre) ∧ True) ∧ Below w.heap.size w W) (fun _ _ _ => False) ?hI (fun _ _ _ _ _ hs _ _ => hs) ?h0
  (fun x a' W => ∃ Bx, w.heap.size < Bx ∧ Blk W Bx 109 (pc1 x).toArray ∧ a' = { tmps := #[.slice none 0 0, .func (.func gf) #[] lb, .pointer (some ⟨w.heap.size, 0, none⟩), undef, .slice none 0 0, .pointer (some ⟨Bx, 0, none⟩), .func (.func gf) #[] lb, .agg (pc1 x).toArray, undef, undef, undef, undef, undef], defers := [] }) ?hAx ?assign ?body ?done ?stop
 case hI => exact OwnFrom.and (Own.from (holdsRow_own _ _ _ _ _ _ _ _) _) (ownFrom_below (Nat.le_refl _) (by omega))
 case h0 => exact ⟨⟨_, hbx, World.ownsRow_nil _ _ _ _, trivial⟩, hB0⟩
 case hAx =>
  rintro x a' _ X Y row ⟨Bx, h1, h2, h3⟩ hg hr
  exact ⟨Bx, h1, (blk_own (β := Unit) Bx _ (fun _ => (pc1 x).toArray)).from _ () X Y row h2 hg hr, h3⟩
 case assign =>
  rintro l pre ⟨x1, x2, x3⟩ W K ⟨⟨v, hv, hr, _⟩, hB⟩ hK
  have hsW := hB.size;have hlt := hv.lt
  simp only [encP1, pc1]
  gi_wp2
  exact hK _ _ ((KeepsOthers.alloc _ _).from _) ((Below.refl _ W).alloc hB.size _) ⟨⟨v, hv.alloc _, hr.alloc _, trivial⟩, hB.alloc hB.size _⟩ ⟨W.heap.size, hlt, Blk.new W _ _, rfl⟩
 case body =>
  rintro l pre ⟨x1, x2, x3⟩ a' W hl _ ⟨⟨v, hv, hr, _⟩, hB⟩ ⟨Bx, hBx, bX, rfl⟩ hlt
  have hc := hv.cell
  simp only [pc1] at bX ⊢
  have d0 := bX.cell 0;have d1 := bX.cell 1;have d2 := bX.cell 2
  have hpl : pcl (pre ++ [(x1, x2, x3)]) = pcl pre ++ [.string ⟨x1.toArray⟩, .string ⟨x2.toArray⟩, .bool x3] := by simp [pcl, pc1]
  have HPl := Lib.hid hpl;have hsW := hB.size;clear bX hpl hseq
  gi_wp2_with (gi_at_builtin; refine wpListIn_append_own _ rfl _ _ 36 rfl w.heap.size 109 i0 (.agg #[.string .empty, .string .empty, .bool false]) 3 40 Tryz.underlying36 hi hz0 hz1 hz2 rfl (by decide) _ _ _ rfl (hr.alloc _) ⟨W.heap.size, 0, none⟩ 1 1 [.string ⟨x1.toArray⟩, .string ⟨x2.toArray⟩, .bool x3] rfl rfl (cell_three_new _ _ _ _ _) (by simp [Value.oneCell']) (by unfold maxLen; omega) (by omega) (by simp; omega) ?_; intro v' w1 hown' hgrow _; obtain ⟨g', cap', rfl⟩ := ownsRow_succ hown'; obtain ⟨hv1, hv2, hr2, hk2, hb2⟩ := hv.appended (by decide) hr hB.size (Nat.le_refl _) hown' hgrow; have hc1 := hv1.cell; have hf1 := hv1.frozen)
  refine ⟨hk2.from _, hb2, ⟨_, hv2, ?_, trivial⟩, hB.trans hb2⟩
  rw [HPl.out, List.length_append]
  exact hr2
 case done =>
  rintro D xs W hD rfl ⟨⟨v, hv, hr, _⟩, hB⟩ hK
  have hc := hv.cell;have Hv := Lib.hid hv;have Hr := Lib.hid hr;have HK := Lib.hid hK;have hs0 := hB.size;clear hseq hv hr hK
  gi_wp2_with fail
  refine ⟨by simp, .inl ⟨_, _, rfl, run_takeDeferred HK.out, ?_⟩⟩
  refine ⟨_, results_tmp rfl _ _ _, v, rfl, ?_, ?_⟩
  ·exact ownsRow_putObj Hr.out _ HK.out rfl
  ·exact hB.trans (belowK_b (w := w) (Nat.le_refl _) W D _ _ (by omega) HK.out rfl rfl)
 case stop => exact fun _ _ _ _ _ _ h => h.elim
set_option maxRecDepth 100000 in
set_option maxHeartbeats 4000000 in
theorem collect_any (gf : Nat) (lb : Array Value) (L : List Prm) (hL : L.length ≤ 4194304) (w : World) (eg : ∀ args w, (callFunc gf args).run Tryz.prog w = .ok (.enter gf args) w) (hseq : Hands gf lb L w.heap.size w) :
   Calls Tryz.prog 150 #[.func (.func gf) #[] lb] w fun e w' => ∃ v, e = .returned v ∧ w'.ownsRow w.heap.size 109 3 v L.length (pcl L) ∧ Below w.heap.size w w' := by
 have HA := Lib.hid (apseq_any gf lb L hL w eg hseq);clear hseq eg
 go_enter Tryz.func150, Tryz.ntmps150
 go_wp2_with fail
 refine HA.out.mono ?_
 rintro e w' ⟨v, rfl, hown, hB⟩
 obtain ⟨p, c, hv⟩ := own_form hown
 subst hv
 have HO := Lib.hid hown;clear hown
 go_wp2_with fail
 go_ret
 exact ⟨_, rfl, HO.out, hB⟩
set_option maxRecDepth 100000 in
set_option maxHeartbeats 4000000 in
theorem sortedFunc_any (gf : Nat) (lb : Array Value) (L : List Prm) (hL : L.length ≤ 4194304) (w : World) (eg : ∀ args w, (callFunc gf args).run Tryz.prog w = .ok (.enter gf args) w) (hseq : Hands gf lb L w.heap.size w) :
   Calls Tryz.prog 93 #[.func (.func gf) #[] lb, .func (.func 94) #[] #[]] w (SoP L w) := by
 have HA := Lib.hid (collect_any gf lb L hL w eg hseq);clear hseq eg
 go_enter Tryz.func93, Tryz.ntmps93
 go_wp2_with fail
 refine HA.out.mono ?_
 rintro e w1 ⟨v, rfl, hown, hB⟩
 obtain ⟨p, c, hv⟩ := own_form hown
 subst hv
 have HO := Lib.hid hown;clear hown
 go_wp2_with fail
 refine (sortO_any w.heap.size _ L w1 HO.out hL).mono ?_
 rintro e w2 ⟨rfl, l', X, h1, h2, h3, h4, h5⟩
 have H1 := Lib.hid h1;have H2 := Lib.hid h2;have H3 := Lib.hid h3;have HB := Lib.hid hB;have H4 := Lib.hid h4;have H5 := Lib.hid h5;clear h1 h2 h3 h4 h5 hB
 go_wp2_with fail
 go_ret
 refine ⟨_, l', rfl, H3.out, H1.out, H2.out, ?_⟩
 have hk : Kp X w w2 := ((Kp.refl X w).below HB.out).trans H4.out
 exact ⟨hk.os, hk.tape, hk.output, hk.size, fun i hi _ => hk.block i hi (fun hx => by have := H5.out i hx; omega)⟩
set_option maxRecDepth 100000 in
set_option maxHeartbeats 4000000 in
theorem hsorted_any (gf : Nat) (lb : Array Value) (L : List Prm) (hL : L.length ≤ 4194304) (w : World) (eg : ∀ args w, (callFunc gf args).run Tryz.prog w = .ok (.enter gf args) w) (hseq : Hands gf lb L w.heap.size w) :
   Calls Tryz.prog 51 #[.func (.func gf) #[] lb] w (SoP L w) := by
 have HA := Lib.hid (sortedFunc_any gf lb L hL w eg hseq);clear hseq eg
 go_enter Tryz.func51, Tryz.ntmps51
 go_wp2_with fail
 refine HA.out.mono ?_
 rintro e w1 ⟨v, l', rfl, h1, h2, h3, h4⟩
 obtain ⟨A, c, rfl⟩ := h1.form
 have H1 := Lib.hid h1;have H2 := Lib.hid h2;have H3 := Lib.hid h3;have H4 := Lib.hid h4;clear h1 h2 h3 h4
 go_wp2_with fail
 go_ret
 exact ⟨_, l', rfl, H1.out, H2.out, H3.out, H4.out⟩
end Ad
end Go.Proofs.YtbcaindpbeaheaaGreatDoor
