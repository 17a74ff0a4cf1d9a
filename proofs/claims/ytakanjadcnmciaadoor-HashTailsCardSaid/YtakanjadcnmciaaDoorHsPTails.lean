/- The card of HashTails: for every state, slice of bytes and byte the law returns true and leaves its arguments as they were. No condition of its own; the listed variable is tied to the program's text. -/
import Derived.Test.YtakanjadcnmciaaDoorCards
import Derived.Test.YtakanjadcnmciaaDoorTie
import Derived.Test.YtakanjadcnmciaaDoorHsLt
import Derived.Test.YtakanjadcnmciaaDoorHsAr
namespace Go.Proofs.YtakanjadcnmciaaDoor
namespace HashTails
open Go.ChangeShapes Go.WideShapes Go.ChangeAt Go.RowKit Go.ChangeMaps

set_option maxRecDepth 100000 in
/-- What the walk gives, for every argument and every world of the program's shape. -/
theorem contract (H : Type) (enc : TypeId × Value → H) (W : World) (base : Nat) (args : Array Value) (ds gs : List (DataW H)) (before : List MemPlace)
    (hval : ∀ (j : Nat) t v, Tryd.f7.params[j]? = some t → args[j]? = some v → Value.okWide Tryd.prog W .any base t v)
    (hW : DataW.Whole enc Tryd.prog Tryd.f7.params.toList Rows.hashTailsSpec.vars false W args.toList ds gs before) (hL : laidMetH Tryd.prog Hs.laidK W) (hsh : W.ShapedOpen Tryd.prog) :
    Calls Tryd.prog 7 args W fun e W' => ∃ v, e = .returned v ∧ Rows.hashTailsSpec.post enc Tryd.prog Tryd.f7 false true false false W args v W' := by
  have E := Hs.ke_of hL
  have hW' := hW
  obtain ⟨p, q, hA0, hV, rfl, hfz, hnd⟩ := hW
  have hA : DataW.TrodAll enc Tryd.prog W 0 (fun _ => true) true Tryd.f7.params.toList args.toList ds p := hA0
  rw [Tryd.params7] at hA hval
  obtain ⟨v0, vs0, d0, ds0, p0, q0, hargs, rfl, rfl, h0, r0⟩ := trodAll_cons hA
  obtain ⟨v1, vs1, d1, ds1, p1, q1, rfl, rfl, rfl, h1, r1⟩ := trodAll_cons r0
  obtain ⟨v2, vs2, d2, ds2, p2, q2, rfl, rfl, rfl, h2, r2⟩ := trodAll_cons r1
  obtain ⟨rfl, rfl, rfl⟩ := trodAll_nil r2
  obtain rfl : args = #[v0, v1, v2] := by cases args; simp_all
  obtain ⟨rfl, rfl⟩ := trodVars_none hV
  obtain ⟨s0, hs0, rfl, hp0⟩ := Hs.open_state (hval 0 32 v0 rfl rfl) h0
  obtain ⟨A1, c1, l1, rfl, hx1, hp1, hl1, hc1, hn1⟩ := Hs.open_bytes (hval 1 22 v1 rfl rfl) h1
  obtain ⟨x2, rfl, rfl, rfl, wx2⟩ := open_int Tryd.underlying5 (hval 2 5 v2 rfl rfl) h2
  obtain ⟨y2, rfl⟩ := Hs.u8_is wx2
  clear hA0
  simp only [List.append_nil] at hW'
  refine (Hs.htail_law s0 hs0 l1 A1 c1 y2 W hx1 hl1 E (by omega)).mono fun e W' ⟨he, hb⟩ => ?_
  subst he
  exact ⟨_, rfl, _, _, _, [], _, [], hW', trodAll_cons_mk (shut_bool Tryd.underlying4 _) trodAll_mk0, trodAll_cons_mk (Hs.shut_arg Hs.laid_out Hs.rec_state Hs.row_state h0 hp0 hb) (trodAll_cons_mk (Hs.shut_arg Hs.laid_out Hs.rec_bytes Hs.row_bytes h1 hp1 hb) (trodAll_cons_mk (shut_int Tryd.underlying5 wx2) trodAll_mk0)), rfl, hb.nilBelow.frame _, fun h => by cases h⟩

theorem reads (os : Os) {H : Type} (enc : TypeId × Value → H) : ∃ places, DataW.whole enc Tryd.prog ((World.laidAll Tryd.prog os Rows.hashTailsRow.laid).forCall (fun _ _ => 0) ⟨#[], #[.agg Hs.zstA, .slice none 0 0, .int .u8 0], []⟩).memory Tryd.f7.params.toList Rows.hashTailsSpec.vars false #[.agg Hs.zstA, .slice none 0 0, .int .u8 0].toList 8 = some ([Hs.zstD, .nil, .lit (.int .u8 0)], [], places) :=
  ⟨[], by kernel_rfl⟩

set_option maxRecDepth 100000 in
theorem lifted (os : Os) (started : os.Started) (H : Type) (enc : TypeId × Value → H) (F : Stop.Interp) :
    ReturnsInHanded {} Tryd.checked os 7 .any ((OpenSpec.ofChange Rows.hashTailsSpec).preRow enc Tryd.prog Tryd.f7 Rows.hashTailsRow.domain false Rows.hashTailsRow.laid) (((OpenSpec.ofChange Rows.hashTailsSpec).at F).post enc Tryd.prog Tryd.f7 false true false false) := by
  obtain ⟨places, hx⟩ := reads os enc
  refine returnsInHanded_of_row (C := Tryd.checked) (s := (OpenSpec.ofChange Rows.hashTailsSpec)) Lx.own started (by kernel_rfl) Tryd.func7
    (Lx.witnessOf (enc := enc) (fn := Tryd.f7) (s := (OpenSpec.ofChange Rows.hashTailsSpec)) (World.laidAll Tryd.prog os Rows.hashTailsRow.laid) #[.agg Hs.zstA, .slice none 0 0, .int .u8 0] (World.laidAll_os _ _ _) (World.shaped_of_ZipB (by kernel_rfl) (by kernel_rfl)) (by kernel_rfl)
      (OpenSpec.preRow_of_cond 8 hx (by kernel_rfl) (fun k hk => by cases hk) (by kernel_rfl) (by rw [MakeChecks.laidMetH_plain _ _ _ (by kernel_rfl)]; exact laidMet_laidAll _ (by kernel_rfl) (by kernel_rfl)))) ?_
  intro W base args ds gs before hval hW _ hcond _ hL hsh _
  exact contract H enc W base args ds gs before hval hW hL hsh

theorem named : Tryd.pinned.checked.prog.funcNamed Rows.hashTailsRow.func = some 7 := by kernel_rfl

set_option maxRecDepth 100000 in
set_option maxHeartbeats 400000000 in
theorem closed : joinedFacts Tryd.pinned.checked.prog 7 Tryd.f7 (OpenSpec.ofChange Rows.hashTailsSpec).bare Rows.hashTailsRow = true := by
  unfold joinedFacts
  simp only [Bool.and_eq_true]
  repeat' apply And.intro
  all_goals (as_aux_lemma => kernel_rfl)

theorem wraps : Tryd.f7.isWrapper Tryd.pinned.checked.prog Rows.hashTailsRow.wrapper Rows.hashTailsRow.mainSum := by unfold Func.isWrapper; first | (rw [if_pos (by decide +kernel)]; kernel_rfl) | (rw [if_neg (by decide +kernel)]; exact ⟨rfl, rfl⟩)

theorem inst : Tryd.f7.isInstance Tryd.pinned.checked.prog Rows.hashTailsRow.origin Rows.hashTailsRow.targs := of_decide_eq_true (by kernel_rfl)

theorem said : Rows.HashTailsSaid :=
  OpenClaim.holds_of_cond 7 Tryd.f7 rfl rfl rfl rfl rfl rfl rfl ⟨rfl, rfl, rfl, rfl, rfl⟩ rfl rfl rfl rfl rfl named Tryd.func7 closed inst wraps
    (fun os started H enc _ F => by rw [OpenClaim.pre_eq_preRow]; exact lifted os started H enc F)

theorem plain (f : FuncId) (fn : Func) (hf : Tryd.pinned.checked.prog.funcNamed Rows.hashTailsRow.func = some f) (hfn : Tryd.pinned.checked.prog.funcs[f]? = some fn) :
    false = Tryd.pinned.checked.prog.looks [] ∧ ∀ (j : Nat) t, fn.params[j]? = some t → Tryd.pinned.checked.prog.wantsStandIn t = false := by
  obtain rfl : f = 7 := Option.some.inj ((show Tryd.prog.funcNamed Rows.hashTailsRow.func = some 7 by kernel_rfl).symm.trans hf) |>.symm
  obtain rfl : fn = Tryd.f7 := (Option.some.inj (Tryd.func7.symm.trans hfn)).symm
  refine ⟨by kernel_rfl, fun j t ht => ?_⟩
  rw [Tryd.params7] at ht
  have hm : t ∈ [32, 22, 5] := by
    have := Array.mem_of_getElem? ht
    simpa using this
  have hall : ([32, 22, 5].all fun u => !Tryd.prog.wantsStandIn u) = true := by kernel_rfl
  exact (show Tryd.prog.wantsStandIn t = false by simpa using List.all_eq_true.1 hall t hm)

set_option maxHeartbeats 400000000 in
/-- THE CARD. -/
theorem card : Rows.HashTailsCardSaid :=
  Claim7.holds_tied_plain_at .later [] _ _ _ _ said (fun _ h => by cases h) (by as_aux_lemma => kernel_rfl) (fun _ h => by cases h) hashTails_row_tie rfl ⟨rfl, rfl⟩ (by as_aux_lemma => kernel_rfl) rfl plain (by as_aux_lemma => kernel_rfl)
end HashTails
end Go.Proofs.YtakanjadcnmciaaDoor
