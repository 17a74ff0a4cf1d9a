/- The card of HashFeeds: for every state and slice of bytes the law returns true and leaves its arguments as they were. No condition of its own; the listed variable is tied to the program's text. -/
import Derived.Test.YtakanjadcnmciaaDoorCards
import Derived.Test.YtakanjadcnmciaaDoorTie
import Derived.Test.YtakanjadcnmciaaDoorHsLf
import Derived.Test.YtakanjadcnmciaaDoorHsAr
namespace Go.Proofs.YtakanjadcnmciaaDoor
namespace HashFeeds
open Go.ChangeShapes Go.WideShapes Go.ChangeAt Go.RowKit Go.ChangeMaps

set_option maxRecDepth 100000 in
/-- What the walk gives, for every argument and every world of the program's shape. -/
theorem contract (H : Type) (enc : TypeId × Value → H) (W : World) (base : Nat) (args : Array Value) (ds gs : List (DataW H)) (before : List MemPlace)
    (hval : ∀ (j : Nat) t v, Tryd.f4.params[j]? = some t → args[j]? = some v → Value.okWide Tryd.prog W .any base t v)
    (hW : DataW.Whole enc Tryd.prog Tryd.f4.params.toList Rows.hashFeedsSpec.vars false W args.toList ds gs before) (hL : laidMetH Tryd.prog Hs.laidK W) (hsh : W.ShapedOpen Tryd.prog) :
    Calls Tryd.prog 4 args W fun e W' => ∃ v, e = .returned v ∧ Rows.hashFeedsSpec.post enc Tryd.prog Tryd.f4 false true false false W args v W' := by
  have E := Hs.ke_of hL
  have hW' := hW
  obtain ⟨p, q, hA0, hV, rfl, hfz, hnd⟩ := hW
  have hA : DataW.TrodAll enc Tryd.prog W 0 (fun _ => true) true Tryd.f4.params.toList args.toList ds p := hA0
  rw [Tryd.params4] at hA hval
  obtain ⟨v0, vs0, d0, ds0, p0, q0, hargs, rfl, rfl, h0, r0⟩ := trodAll_cons hA
  obtain ⟨v1, vs1, d1, ds1, p1, q1, rfl, rfl, rfl, h1, r1⟩ := trodAll_cons r0
  obtain ⟨rfl, rfl, rfl⟩ := trodAll_nil r1
  obtain rfl : args = #[v0, v1] := by cases args; simp_all
  obtain ⟨rfl, rfl⟩ := trodVars_none hV
  obtain ⟨s0, hs0, rfl, hp0⟩ := Hs.open_state (hval 0 32 v0 rfl rfl) h0
  obtain ⟨A1, c1, l1, rfl, hx1, hp1, hl1, hc1, hn1⟩ := Hs.open_bytes (hval 1 22 v1 rfl rfl) h1
  clear hA0
  simp only [List.append_nil] at hW'
  refine (Hs.hfeeds_law s0 hs0 l1 A1 c1 W hx1 hl1 E (by omega)).mono fun e W' ⟨he, hb⟩ => ?_
  subst he
  exact ⟨_, rfl, _, _, _, [], _, [], hW', trodAll_cons_mk (shut_bool Tryd.underlying4 _) trodAll_mk0, trodAll_cons_mk (Hs.shut_arg Hs.laid_out Hs.rec_state Hs.row_state h0 hp0 hb) (trodAll_cons_mk (Hs.shut_arg Hs.laid_out Hs.rec_bytes Hs.row_bytes h1 hp1 hb) trodAll_mk0), rfl, hb.nilBelow.frame _, fun h => by cases h⟩

theorem reads (os : Os) {H : Type} (enc : TypeId × Value → H) : ∃ places, DataW.whole enc Tryd.prog ((World.laidAll Tryd.prog os Rows.hashFeedsRow.laid).forCall (fun _ _ => 0) ⟨#[], #[.agg Hs.zstA, .slice none 0 0], []⟩).memory Tryd.f4.params.toList Rows.hashFeedsSpec.vars false #[.agg Hs.zstA, .slice none 0 0].toList 8 = some ([Hs.zstD, .nil], [], places) :=
  ⟨[], by kernel_rfl⟩

set_option maxRecDepth 100000 in
theorem lifted (os : Os) (started : os.Started) (H : Type) (enc : TypeId × Value → H) (F : Stop.Interp) :
    ReturnsInHanded {} Tryd.checked os 4 .any ((OpenSpec.ofChange Rows.hashFeedsSpec).preRow enc Tryd.prog Tryd.f4 Rows.hashFeedsRow.domain false Rows.hashFeedsRow.laid) (((OpenSpec.ofChange Rows.hashFeedsSpec).at F).post enc Tryd.prog Tryd.f4 false true false false) := by
  obtain ⟨places, hx⟩ := reads os enc
  refine returnsInHanded_of_row (C := Tryd.checked) (s := (OpenSpec.ofChange Rows.hashFeedsSpec)) Lx.own started (by kernel_rfl) Tryd.func4
    (Lx.witnessOf (enc := enc) (fn := Tryd.f4) (s := (OpenSpec.ofChange Rows.hashFeedsSpec)) (World.laidAll Tryd.prog os Rows.hashFeedsRow.laid) #[.agg Hs.zstA, .slice none 0 0] (World.laidAll_os _ _ _) (World.shaped_of_ZipB (by kernel_rfl) (by kernel_rfl)) (by kernel_rfl)
      (OpenSpec.preRow_of_cond 8 hx (by kernel_rfl) (fun k hk => by cases hk) (by kernel_rfl) (by rw [MakeChecks.laidMetH_plain _ _ _ (by kernel_rfl)]; exact laidMet_laidAll _ (by kernel_rfl) (by kernel_rfl)))) ?_
  intro W base args ds gs before hval hW _ hcond _ hL hsh _
  exact contract H enc W base args ds gs before hval hW hL hsh

theorem named : Tryd.pinned.checked.prog.funcNamed Rows.hashFeedsRow.func = some 4 := by kernel_rfl

set_option maxRecDepth 100000 in
set_option maxHeartbeats 400000000 in
theorem closed : joinedFacts Tryd.pinned.checked.prog 4 Tryd.f4 (OpenSpec.ofChange Rows.hashFeedsSpec).bare Rows.hashFeedsRow = true := by
  unfold joinedFacts
  simp only [Bool.and_eq_true]
  repeat' apply And.intro
  all_goals (as_aux_lemma => kernel_rfl)

theorem wraps : Tryd.f4.isWrapper Tryd.pinned.checked.prog Rows.hashFeedsRow.wrapper Rows.hashFeedsRow.mainSum := by unfold Func.isWrapper; first | (rw [if_pos (by decide +kernel)]; kernel_rfl) | (rw [if_neg (by decide +kernel)]; exact ⟨rfl, rfl⟩)

theorem inst : Tryd.f4.isInstance Tryd.pinned.checked.prog Rows.hashFeedsRow.origin Rows.hashFeedsRow.targs := of_decide_eq_true (by kernel_rfl)

theorem said : Rows.HashFeedsSaid :=
  OpenClaim.holds_of_cond 4 Tryd.f4 rfl rfl rfl rfl rfl rfl rfl ⟨rfl, rfl, rfl, rfl, rfl⟩ rfl rfl rfl rfl rfl named Tryd.func4 closed inst wraps
    (fun os started H enc _ F => by rw [OpenClaim.pre_eq_preRow]; exact lifted os started H enc F)

theorem plain (f : FuncId) (fn : Func) (hf : Tryd.pinned.checked.prog.funcNamed Rows.hashFeedsRow.func = some f) (hfn : Tryd.pinned.checked.prog.funcs[f]? = some fn) :
    false = Tryd.pinned.checked.prog.looks [] ∧ ∀ (j : Nat) t, fn.params[j]? = some t → Tryd.pinned.checked.prog.wantsStandIn t = false := by
  obtain rfl : f = 4 := Option.some.inj ((show Tryd.prog.funcNamed Rows.hashFeedsRow.func = some 4 by kernel_rfl).symm.trans hf) |>.symm
  obtain rfl : fn = Tryd.f4 := (Option.some.inj (Tryd.func4.symm.trans hfn)).symm
  refine ⟨by kernel_rfl, fun j t ht => ?_⟩
  rw [Tryd.params4] at ht
  have hm : t ∈ [32, 22] := by
    have := Array.mem_of_getElem? ht
    simpa using this
  have hall : ([32, 22].all fun u => !Tryd.prog.wantsStandIn u) = true := by kernel_rfl
  exact (show Tryd.prog.wantsStandIn t = false by simpa using List.all_eq_true.1 hall t hm)

set_option maxHeartbeats 400000000 in
/-- THE CARD. -/
theorem card : Rows.HashFeedsCardSaid :=
  Claim7.holds_tied_plain_at .later [] _ _ _ _ said (fun _ h => by cases h) (by as_aux_lemma => kernel_rfl) (fun _ h => by cases h) hashFeeds_row_tie rfl ⟨rfl, rfl⟩ (by as_aux_lemma => kernel_rfl) rfl plain (by as_aux_lemma => kernel_rfl)
end HashFeeds
end Go.Proofs.YtakanjadcnmciaaDoor
