/- Texts of one set of library modules: M9. -/
import Derived.Test.YtmmjfofdnpafkaaGreatDoorChecked
import Derived.WalkKit
import Derived.ProofKit
import Derived.OpenShut
import Derived.LaidMore
import Derived.Lay
import Derived.SevenTiedAt
import Derived.Stop.Joined
import Derived.Deep.DeepHandedRow
import Derived.Shelf.Vars
import Derived.ChangeMaps5
import Derived.Test.YtmmjfofdnpafkaaGreatDoorZ3
import Derived.Test.YtmmjfofdnpafkaaGreatDoorRows
import Derived.Lib.LaidTab
namespace Go.Proofs.YtmmjfofdnpafkaaGreatDoor
namespace Lx
open Go.RowKit
theorem own : ownKnob Tryz.prog.godebug = none := by kernel_rfl
theorem maxLenCell {w : World} (h : w.ShapedOpen Tryz.prog) : ∃ m, w.cell? ⟨3, 0, none⟩ = some (.int .i64 m) :=
 cell_of_shapedOpen_int (zero := #[.int .i64 0]) h (of_decide_eq_true (by kernel_rfl)) (by kernel_rfl) rfl (by kernel_rfl) (by kernel_rfl) Tryz.underlying3
theorem witnessOf {H : Type} {enc : TypeId × Value → H} {os : Os} {f : FuncId} {fn : Func} {s : OpenSpec} {conds : List PathCond} {apart : Bool} {laid : List (String × DataW Unit)} (w0 : World) (args : Array Value) (hos : w0.os = os)
   (hsh : (w0.forCall (fun _ _ => 0) ⟨#[], args, []⟩).Shaped Tryz.checked.prog)
   (hok : Input.okWideB Tryz.checked.prog (w0.forCall (fun _ _ => 0) ⟨#[], args, []⟩) f ⟨#[], args, []⟩ = true)
   (hrow : s.preRow enc Tryz.checked.prog fn conds apart laid (w0.forCall (fun _ _ => 0) ⟨#[], args, []⟩).memory args) :
   ∃ (w : World) (tape : Tape) (i : Input), w.os = os ∧ (w.forCall tape i).Shaped Tryz.checked.prog ∧ i.vars = [] ∧ Input.okWide Tryz.checked.prog (w.forCall tape i) .any w.heap.size f i ∧
    s.preRow enc Tryz.checked.prog fn conds apart laid (w.forCall tape i).memory i.args ∧ ({} : Assume).holds Tryz.checked.prog (lone (Frame.enter Tryz.checked.prog f i.args .normal) [] (w.forCall tape i)) :=
 ⟨w0, fun _ _ => 0, ⟨#[], args, []⟩, hos, hsh, (Input.okWide_of_okWideB (base := 0) hok).1, (Input.okWide_of_okWideB hok).2, hrow, by
  simp only [Assume.holds]
  exact ⟨by simp, by simp, fun _ => Modest.zero, by simp, by simp⟩⟩
end Lx
end Go.Proofs.YtmmjfofdnpafkaaGreatDoor
namespace Go.Proofs.YtmmjfofdnpafkaaGreatDoor
namespace Ad
open Go.RowKit Lx
theorem cells_of_texts {H : Type} {enc : TypeId × Value → H} {P : Program} {w : World} {base : Nat} {sp : Nat → Bool} {held : Bool} {fuel : Nat} {t e : TypeId} {n : Nat} {cs : List Value} {zs : List (List UInt8)} {p : List MemPlace}
   (ht : P.underlying t = some (.array n e)) (he : P.underlying e = some .string) (hce : P.cellsOf e = 1)
   (h : DataW.trod enc P w base sp held fuel t cs = some (.agg (zs.map fun z => .lit (.string z)), p)) (i : Nat) (hi : i < zs.length) : cs[i]? = some (.string ⟨(zs.getD i []).toArray⟩) := by
 cases fuel with
 | zero => simp [DataW.trod] at h
 | succ fuel =>
   simp only [DataW.trod, ht, hce, Nat.mul_one] at h
   split at h
   ·obtain ⟨xs, hm, hx⟩ := Option.map_eq_some_iff.1 h
    have hxs : xs.map (·.1) = zs.map fun z => (DataW.lit (.string z) : DataW H) := by
     have := congrArg Prod.fst hx
     simpa using this
    have hxl : xs.length = n := by simpa using Lib.mapM_length hm
    have hzl : zs.length = n := by
     have := congrArg List.length hxs
     simp at this
     omega
    have hin : i < n := by omega
    obtain ⟨b, hb, hf⟩ := Lib.mapM_at hm i i (by simp [hin])
    obtain ⟨z, hc, hz, _⟩ := DataW.trod_string he hf
    have h1 : cs[i]? = some (.string z) := by
     have := congrArg (·[0]?) hc
     simpa [List.getElem?_take, List.getElem?_drop] using this
    have h2 : (xs.map (·.1))[i]? = (zs.map fun z => (DataW.lit (.string z) : DataW H))[i]? := by rw [hxs]
    rw [List.getElem?_map, hb, List.getElem?_map, List.getElem?_eq_getElem hi] at h2
    simp only [Option.map_some, Option.some.injEq] at h2
    rw [hz] at h2
    have h3 : z.data.toList = zs[i] := by simpa using h2
    have h4 : zs.getD i [] = zs[i] := by simp [List.getD, List.getElem?_eq_getElem hi]
    rw [h1, h4, ← h3]
   ·cases h
def laid : List (String × DataW Unit) := [("math/bits.deBruijn32tab", Rows.laid_math_bits_deBruijn32tab), ("math/bits.deBruijn64tab", Rows.laid_math_bits_deBruijn64tab), ("internal/strconv.uint64pow10", Rows.laid_internal_strconv_uint64pow10), ("unicode/utf8.acceptRanges", Rows.laid_unicode_utf8_acceptRanges), ("dialtone/address.classes", Rows.laid_dialtone_address_classes), ("unicode/utf8.first", Rows.laid_unicode_utf8_first)]
theorem env_of {W : World} (hL : laidMetH Tryz.prog laid W) (hsh : W.ShapedOpen Tryz.prog) : Env W := by
 rw [MakeChecks.laidMetH_plain _ _ _ (by kernel_rfl)] at hL
 obtain ⟨ps, hL, _⟩ := hL
 obtain ⟨_, _, _, _, _, _, _, _, _, _, hL, _⟩ := hL
 obtain ⟨g6, _, _, _, _, _, hg6, _, hv6, _, hL, _⟩ := hL
 obtain rfl := Option.some.inj ((show Tryz.prog.globalNamed "math/bits.deBruijn64tab" = some 9 by kernel_rfl).symm.trans hg6)
 obtain ⟨g, t, cs, fuel, p, q, hg, hty, hvar, hd, hL, _⟩ := hL
 have htab : Lib.TabIs Tryz.prog W "internal/strconv.uint64pow10" .u64 Lib.pow10Tab := by
  obtain rfl := Option.some.inj ((show (Tryz.prog.globals[5]?).map (·.type) = some 297 by kernel_rfl).symm.trans (by rw [Option.some.inj ((show Tryz.prog.globalNamed "internal/strconv.uint64pow10" = some 5 by kernel_rfl).symm.trans hg)]; exact hty))
  unfold Lib.TabIs
  rw [hvar, ← Lib.cells_of_tab (n := 20) Tryz.underlying297 Tryz.underlying249 (by kernel_rfl) (by kernel_rfl) hd]
 clear hg hty hvar hd
 obtain ⟨_, _, _, _, _, _, _, _, _, _, hL, _⟩ := hL
 obtain ⟨g, t, cs, fuel, p, q, hg, hty, hvar, hd, hL, _⟩ := hL
 have hgc : Tryz.prog.globalNamed "dialtone/address.classes" = some 4 := by kernel_rfl
 obtain rfl := Option.some.inj (hgc.symm.trans hg)
 obtain rfl := Option.some.inj ((show (Tryz.prog.globals[4]?).map (·.type) = some 280 by kernel_rfl).symm.trans hty)
 have hc := fun i hi => cells_of_texts (zs := [[38, 61, 43, 36, 44, 59, 63, 47], [91, 93, 47, 58, 38, 43, 36], [91, 93, 47, 63, 58, 43, 36]]) Tryz.underlying280 Tryz.underlying9 (by kernel_rfl) hd i hi
 have cell : ∀ i, W.cell? ⟨4, i, none⟩ = cs[i]? := fun i => World.var?_cell hgc hvar i
 obtain ⟨m, hm⟩ := maxLenCell hsh
 refine ⟨?_, ?_, ?_, ⟨m, hm⟩, htab, ?_⟩
 ·rw [cell 0, ← Array.getElem?_toList]; exact hc 0 (by decide)
 ·rw [cell 1, ← Array.getElem?_toList]; exact hc 1 (by decide)
 ·rw [cell 2, ← Array.getElem?_toList]; exact hc 2 (by decide)
 ·unfold World.var? at hv6
  rw [hg6] at hv6
  simp only [Option.bind_some] at hv6
  cases h : W.heap[9]? with
  | none => rw [h] at hv6; cases hv6
  | some o => have := lt_of_some h; omega
end Ad
end Go.Proofs.YtmmjfofdnpafkaaGreatDoor
