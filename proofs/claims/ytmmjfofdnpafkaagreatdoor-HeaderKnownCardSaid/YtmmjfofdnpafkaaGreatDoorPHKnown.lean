/- The card of HeaderKnown: the law, which has no arguments, returns true. No condition of its own; the listed variables are tied to the program's text. -/
import Derived.Test.YtmmjfofdnpafkaaGreatDoorCards
import Derived.Test.YtmmjfofdnpafkaaGreatDoorTie
import Derived.Test.YtmmjfofdnpafkaaGreatDoorZ19
import Derived.Test.YtmmjfofdnpafkaaGreatDoorZ20
namespace Go.Proofs.YtmmjfofdnpafkaaGreatDoor
namespace HeaderKnown
open Go.ChangeShapes Go.WideShapes Go.ChangeAt Go.RowKit Go.ChangeMaps
set_option maxRecDepth 100000 in
theorem contract (H : Type) (enc : TypeId × Value → H) (W : World) (base : Nat) (args : Array Value) (ds gs : List (DataW H)) (before : List MemPlace)
   (hval : ∀ (j : Nat) t v, Tryz.f15.params[j]? = some t → args[j]? = some v → Value.okWide Tryz.prog W .any base t v)
   (hW : DataW.Whole enc Tryz.prog Tryz.f15.params.toList Rows.headerKnownSpec.vars false W args.toList ds gs before) (hL : laidMetH Tryz.prog Ad.laidH W) (hsh : W.ShapedOpen Tryz.prog) :
   Calls Tryz.prog 15 args W fun e W' => ∃ v, e = .returned v ∧ Rows.headerKnownSpec.post enc Tryz.prog Tryz.f15 false true false false W args v W' := by
 have E := Ad.henv_of hL hsh
 have hW' := hW
 obtain ⟨p, q, hA0, hV, rfl, hfz, hnd⟩ := hW
 have hA : DataW.TrodAll enc Tryz.prog W 0 (fun _ => true) true Tryz.f15.params.toList args.toList ds p := hA0
 rw [Tryz.params15] at hA hval
 obtain ⟨hargs, rfl, rfl⟩ := trodAll_nil hA
 obtain rfl : args = #[] := by cases args; simp_all
 obtain ⟨rfl, rfl⟩ := trodVars_none hV
 clear hA0
 simp only [List.append_nil] at hW'
 refine (Ad.hknown_law W E).mono fun e W' ⟨he, hb⟩ => ?_
 subst he
 exact ⟨_, rfl, _, _, _, [], _, [], hW', trodAll_cons_mk (shut_bool Tryz.underlying4 _) trodAll_mk0, trodAll_mk0, rfl, hb.nilBelow.frame _, fun h => by cases h⟩
theorem reads (os : Os) {H : Type} (enc : TypeId × Value → H) : ∃ places, DataW.whole enc Tryz.prog ((World.laidAll Tryz.prog os Rows.headerKnownRow.laid).forCall (fun _ _ => 0) ⟨#[], #[], []⟩).memory Tryz.f15.params.toList Rows.headerKnownSpec.vars false (#[] : Array Value).toList 8 = some ([], [], places) :=
 ⟨[], by kernel_rfl⟩
set_option maxRecDepth 100000 in
theorem lifted (os : Os) (started : os.Started) (H : Type) (enc : TypeId × Value → H) (F : Stop.Interp) :
   ReturnsInHanded {} Tryz.checked os 15 .any ((OpenSpec.ofChange Rows.headerKnownSpec).preRow enc Tryz.prog Tryz.f15 Rows.headerKnownRow.domain false Rows.headerKnownRow.laid) (((OpenSpec.ofChange Rows.headerKnownSpec).at F).post enc Tryz.prog Tryz.f15 false true false false) := by
 obtain ⟨places, hx⟩ := reads os enc
 refine returnsInHanded_of_row (C := Tryz.checked) (s := (OpenSpec.ofChange Rows.headerKnownSpec)) Lx.own started (by kernel_rfl) Tryz.func15
  (Lx.witnessOf (enc := enc) (fn := Tryz.f15) (s := (OpenSpec.ofChange Rows.headerKnownSpec)) (World.laidAll Tryz.prog os Rows.headerKnownRow.laid) #[] (World.laidAll_os _ _ _) (World.shaped_of_ZipB (by kernel_rfl) (by kernel_rfl)) (by kernel_rfl)
    (OpenSpec.preRow_of_cond 8 hx (by kernel_rfl) (fun k hk => by cases hk) (by kernel_rfl) (by rw [MakeChecks.laidMetH_plain _ _ _ (by kernel_rfl)]; exact laidMet_laidAll _ (by kernel_rfl) (by kernel_rfl)))) ?_
 intro W base args ds gs before hval hW _ hcond _ hL hsh _
 exact contract H enc W base args ds gs before hval hW hL hsh
theorem named : Tryz.pinned.checked.prog.funcNamed Rows.headerKnownRow.func = some 15 := by kernel_rfl
set_option maxRecDepth 100000 in
set_option maxHeartbeats 400000000 in
theorem closed : joinedFacts Tryz.pinned.checked.prog 15 Tryz.f15 (OpenSpec.ofChange Rows.headerKnownSpec).bare Rows.headerKnownRow = true := by
 unfold joinedFacts
 simp only [Bool.and_eq_true]
 repeat' apply And.intro
 all_goals (as_aux_lemma => kernel_rfl)
theorem wraps : Tryz.f15.isWrapper Tryz.pinned.checked.prog Rows.headerKnownRow.wrapper Rows.headerKnownRow.mainSum := by unfold Func.isWrapper; first | (rw [if_pos (by decide +kernel)]; kernel_rfl) | (rw [if_neg (by decide +kernel)]; exact ⟨rfl, rfl⟩)
theorem inst : Tryz.f15.isInstance Tryz.pinned.checked.prog Rows.headerKnownRow.origin Rows.headerKnownRow.targs := of_decide_eq_true (by kernel_rfl)
theorem said : Rows.HeaderKnownSaid :=
 OpenClaim.holds_of_cond 15 Tryz.f15 rfl rfl rfl rfl rfl rfl rfl ⟨rfl, rfl, rfl, rfl, rfl⟩ rfl rfl rfl rfl rfl named Tryz.func15 closed inst wraps
  (fun os started H enc _ F => by rw [OpenClaim.pre_eq_preRow]; exact lifted os started H enc F)
theorem plain (f : FuncId) (fn : Func) (hf : Tryz.pinned.checked.prog.funcNamed Rows.headerKnownRow.func = some f) (hfn : Tryz.pinned.checked.prog.funcs[f]? = some fn) :
   false = Tryz.pinned.checked.prog.looks [] ∧ ∀ (j : Nat) t, fn.params[j]? = some t → Tryz.pinned.checked.prog.wantsStandIn t = false := by
 obtain rfl : f = 15 := Option.some.inj ((show Tryz.prog.funcNamed Rows.headerKnownRow.func = some 15 by kernel_rfl).symm.trans hf) |>.symm
 obtain rfl : fn = Tryz.f15 := (Option.some.inj (Tryz.func15.symm.trans hfn)).symm
 refine ⟨by kernel_rfl, fun j t ht => ?_⟩
 rw [Tryz.params15] at ht
 simp at ht
set_option maxHeartbeats 400000000 in
theorem card : Rows.HeaderKnownCardSaid :=
 Claim7.holds_tied_plain_at .later [] _ _ _ _ said (fun _ h => by cases h) (by as_aux_lemma => kernel_rfl) (fun _ h => by cases h) headerKnown_row_tie rfl ⟨rfl, rfl⟩ (by as_aux_lemma => kernel_rfl) rfl plain (by as_aux_lemma => kernel_rfl)
end HeaderKnown
end Go.Proofs.YtmmjfofdnpafkaaGreatDoor
