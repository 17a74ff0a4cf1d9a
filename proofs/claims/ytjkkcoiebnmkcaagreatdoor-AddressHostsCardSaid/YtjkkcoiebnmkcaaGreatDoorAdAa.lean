/- Arguments of a law that are arrays of four or of eight numbers of sixteen bits: what they read as. No conditions. -/
import Derived.Test.YtjkkcoiebnmkcaaGreatDoorM9
import Derived.Deep.Slices
import Derived.ChangeSame
import Derived.WideKeyArgs
namespace Go.Proofs.YtjkkcoiebnmkcaaGreatDoor
namespace Ad
open Go.RowKit Go.ChangeShapes Go.WideShapes Go.Deep Lx
section
variable {H : Type} {enc : TypeId × Value → H} {W : World} {base : Nat}
set_option maxRecDepth 100000 in
theorem open_arr {fuel : Nat} {t e : TypeId} {n : Nat} {cs : List Value} {x : DataW H × List MemPlace} (ht : Tryz.prog.underlying t = some (.array n e)) (he : Tryz.prog.underlying e = some (.int .u16)) (hce : Tryz.prog.cellsOf e = 1) (hct : Tryz.prog.cellsOf t = n)
    (h : DataW.trod enc Tryz.prog W 0 (fun _ => true) true fuel t cs = some x) : ∃ zs : List Nat, zs.length = n ∧ cs = zs.map (fun z => Value.int .u16 (z : Nat)) ∧ x.2 = [] ∧ ∀ z ∈ zs, z < 65536 := by
  cases fuel with
  | zero => simp [DataW.trod] at h
  | succ fuel =>
    simp only [DataW.trod, ht, hce, hct, Nat.mul_one] at h
    split at h
    · rename_i hl
      obtain ⟨xs, hm, hx⟩ := Option.map_eq_some_iff.1 h
      have hxl : xs.length = n := by simpa using Lib.mapM_length hm
      have hp : ∀ i, i < n → ∃ z : Nat, cs[i]? = some (.int .u16 (z : Nat)) ∧ z < 65536 ∧ (xs.getD i (.nil, [])).2 = [] := by
        intro i hi
        obtain ⟨b, hb, hf⟩ := Lib.mapM_at hm i i (by simp [hi])
        obtain ⟨z, hc, hz, hw⟩ := DataW.trod_int he hf
        have h1 : cs[i]? = some (.int .u16 z) := by
          have := congrArg (·[0]?) hc
          simpa [List.getElem?_take, List.getElem?_drop] using this
        have h0 := u16_lo hw
        have h2 := u16_hi hw
        refine ⟨z.toNat, by rw [h1]; congr 2; omega, by omega, ?_⟩
        have hg : xs.getD i (.nil, []) = b := by simp [List.getD, hb]
        rw [hg, hz]
      obtain ⟨f, hf⟩ := choose_lt hp
      refine ⟨(List.range n).map f, by simp, ?_, ?_, ?_⟩
      · apply List.ext_getElem?
        intro i
        by_cases hi : i < n
        · rw [(hf i hi).1, List.getElem?_map, List.getElem?_map, List.getElem?_range hi]; rfl
        · rw [List.getElem?_eq_none (by omega), List.getElem?_eq_none (by simp; omega)]
      · have := congrArg Prod.snd hx
        dsimp only at this
        rw [← this]
        rw [List.flatMap_eq_nil_iff]
        intro y hy
        obtain ⟨i, hi, rfl⟩ := List.getElem_of_mem hy
        have := (hf i (by omega)).2.2
        simpa [List.getD, List.getElem?_eq_getElem hi] using this
      · intro z hz
        obtain ⟨i, hi, rfl⟩ := List.mem_map.1 hz
        exact (hf i (by simpa using hi)).2.1
    · cases h
set_option maxRecDepth 100000 in
theorem open_arr4 {v : Value} {d : DataW H} {ps : List MemPlace} (hok : Value.okWide Tryz.prog W .any base 63 v) (h : DataW.Trod enc Tryz.prog W 0 (fun _ => true) true 63 v d ps) :
    ∃ a b c e : Nat, v = .agg #[.int .u16 a, .int .u16 b, .int .u16 c, .int .u16 e] ∧ (∀ p ∈ ps, p.block < W.heap.size) ∧ ∀ x ∈ [a, b, c, e], x < 65536 := by
  simp only [Value.okWide, Tryz.underlying63] at hok
  obtain ⟨cs, rfl, _, _⟩ := hok
  obtain ⟨n, hn⟩ := h
  obtain ⟨zs, hl, hcs, hps, hlt⟩ := open_arr (x := (d, ps)) Tryz.underlying63 Tryz.underlying62 (by kernel_rfl) (by kernel_rfl) (show DataW.trod enc Tryz.prog W 0 (fun _ => true) true n 63 cs.toList = some (d, ps) from hn)
  match zs, hl with
  | [a, b, c, e], _ =>
    refine ⟨a, b, c, e, ?_, ?_, hlt⟩
    · congr 1; cases cs; dsimp only at hcs; rw [hcs]; rfl
    · dsimp only at hps; rw [hps]; intro p hp; cases hp
set_option maxRecDepth 100000 in
theorem open_arr8 {v : Value} {d : DataW H} {ps : List MemPlace} (hok : Value.okWide Tryz.prog W .any base 64 v) (h : DataW.Trod enc Tryz.prog W 0 (fun _ => true) true 64 v d ps) :
    ∃ a0 a1 a2 a3 a4 a5 a6 a7 : Nat, v = .agg #[.int .u16 a0, .int .u16 a1, .int .u16 a2, .int .u16 a3, .int .u16 a4, .int .u16 a5, .int .u16 a6, .int .u16 a7] ∧ (∀ p ∈ ps, p.block < W.heap.size) ∧ ∀ x ∈ [a0, a1, a2, a3, a4, a5, a6, a7], x < 65536 := by
  simp only [Value.okWide, Tryz.underlying64] at hok
  obtain ⟨cs, rfl, _, _⟩ := hok
  obtain ⟨n, hn⟩ := h
  obtain ⟨zs, hl, hcs, hps, hlt⟩ := open_arr (x := (d, ps)) Tryz.underlying64 Tryz.underlying62 (by kernel_rfl) (by kernel_rfl) (show DataW.trod enc Tryz.prog W 0 (fun _ => true) true n 64 cs.toList = some (d, ps) from hn)
  match zs, hl with
  | [a0, a1, a2, a3, a4, a5, a6, a7], _ =>
    refine ⟨a0, a1, a2, a3, a4, a5, a6, a7, ?_, ?_, hlt⟩
    · congr 1; cases cs; dsimp only at hcs; rw [hcs]; rfl
    · dsimp only at hps; rw [hps]; intro p hp; cases hp
/-- A number of eight bits. -/
theorem open_u8 {x : Int} (h : (Lit.int .u8 x).wf = true) : ∃ n : Nat, x = n ∧ n < 256 := ⟨x.toNat, by have := u8_lo h; omega, by have := u8_lo h; have := u8_hi h; omega⟩
/-- An argument reads behind the call as it read before. -/
theorem shut_arr {t : TypeId} (hl : laidOutB Tryz.prog = true) (hr : Tryz.prog.readableRec t = true) (hrow : t < Tryz.prog.types.size) {W' : World} {v : Value} {d : DataW H} {ps : List MemPlace}
    (h : DataW.Trod enc Tryz.prog W 0 (fun _ => true) true t v d ps) (hp : ∀ p ∈ ps, p.block < W.heap.size) (hK : Kp [] W W') : DataW.Trod enc Tryz.prog W' 0 (fun b => decide (b < W.heap.size)) true t v d ps :=
  Go.WideElems.Trod_stays hl hr hrow h (fun p hm => by
    have hb := hp p hm
    cases p with
    | cell b off => exact hK.cell (p := ⟨b, off, none⟩) hb (by simp)
    | map b => exact hK.block b hb (by simp)) (fun p hm => decide_eq_true (hp p hm))
end
theorem laid_arr : laidOutB Tryz.prog = true := by kernel_rfl
theorem rec_arr4 : Tryz.prog.readableRec 63 = true := by kernel_rfl
theorem rec_arr8 : Tryz.prog.readableRec 64 = true := by kernel_rfl
theorem row_arr4 : 63 < Tryz.prog.types.size := of_decide_eq_true (by kernel_rfl)
theorem row_arr8 : 64 < Tryz.prog.types.size := of_decide_eq_true (by kernel_rfl)
end Ad
end Go.Proofs.YtjkkcoiebnmkcaaGreatDoor
