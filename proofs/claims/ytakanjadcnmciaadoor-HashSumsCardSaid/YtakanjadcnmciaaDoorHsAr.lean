/- Bytes and states as arguments of a law of layer 6: what they read as; and what the card says of the table of constants. No conditions. -/
import Derived.Test.YtakanjadcnmciaaDoorLxClose
import Derived.Test.YtakanjadcnmciaaDoorRows
import Derived.Test.YtakanjadcnmciaaDoorHsSt
import Derived.Test.YtakanjadcnmciaaDoorHsE
import Derived.Test.YtakanjadcnmciaaDoorHsPd
import Derived.Lib.LaidTab
import Derived.ChangeSlices
import Derived.ChangeMaps5
namespace Go.Proofs.YtakanjadcnmciaaDoor
namespace Hs
open Go.RowKit Go.ChangeShapes Go.WideShapes Lx Ad

/-- The zero state as an argument, and what it reads as. -/
def zstA : Array Value := (List.replicate 8 (Value.int .u32 0) ++ ([Value.int .u64 0] ++ List.replicate 64 (Value.int .u8 0))).toArray
def zstD {H : Type} : DataW H := .agg [.agg (List.replicate 8 (.lit (.int .u32 0))), .lit (.int .u64 0), .agg (List.replicate 64 (.lit (.int .u8 0)))]
/-- The listed variables, as every row of this seat lists them. -/
def laidK : List (String × DataW Unit) := [("dialtone/hash.constants", Rows.laid_dialtone_hash_constants)]
theorem ke_of {W : World} (hL : laidMetH Tryd.prog laidK W) : KE W := by
  rw [MakeChecks.laidMetH_plain _ _ _ (by kernel_rfl)] at hL
  obtain ⟨ps, hL, _⟩ := hL
  obtain ⟨g, t, cs, fuel, p, q, hg, hty, hvar, hd, hL, _⟩ := hL
  have hgc : Tryd.prog.globalNamed "dialtone/hash.constants" = some 0 := by kernel_rfl
  obtain rfl := Option.some.inj (hgc.symm.trans hg)
  obtain rfl := Option.some.inj ((show (Tryd.prog.globals[0]?).map (·.type) = some 52 by kernel_rfl).symm.trans hty)
  have hc := Lib.cells_of_tab (zs := keyL.map fun x => (x.toNat : Int)) (n := 64) Tryd.underlying52 Tryd.underlying27 (by kernel_rfl) (by kernel_rfl) hd
  refine ⟨fun i x hx => ?_, ?_⟩
  · rw [World.var?_cell hgc hvar i, ← Array.getElem?_toList, hc, List.getElem?_map, List.getElem?_map, hx]
    rfl
  · unfold World.var? at hvar
    rw [hg] at hvar
    simp only [Option.bind_some] at hvar
    cases h : W.heap[0]? with
    | none => rw [h] at hvar; cases hvar
    | some o => exact lt_of_some h
theorem u8_wf {x : Int} (h : (Lit.int .u8 x).wf = true) : 0 ≤ x ∧ x ≤ 255 := by
  simpa [Lit.wf, IntKind.min, IntKind.max, IntKind.signed, IntKind.bits] using h
theorem u32_wf {x : Int} (h : (Lit.int .u32 x).wf = true) : 0 ≤ x ∧ x ≤ 4294967295 := by
  simpa [Lit.wf, IntKind.min, IntKind.max, IntKind.signed, IntKind.bits] using h
theorem u64_wf {x : Int} (h : (Lit.int .u64 x).wf = true) : 0 ≤ x ∧ x ≤ 18446744073709551615 := by
  simpa [Lit.wf, IntKind.min, IntKind.max, IntKind.signed, IntKind.bits] using h
theorem u8_is {x : Int} (h : (Lit.int .u8 x).wf = true) : ∃ c : UInt8, x = (c.toNat : Int) := by
  have := u8_wf h
  refine ⟨UInt8.ofNat x.toNat, ?_⟩
  show x = ((x.toNat % 256 : Nat) : Int)
  omega
theorem u32_is {x : Int} (h : (Lit.int .u32 x).wf = true) : ∃ c : UInt32, x = (c.toNat : Int) := by
  have := u32_wf h
  refine ⟨UInt32.ofNat x.toNat, ?_⟩
  show x = ((x.toNat % 4294967296 : Nat) : Int)
  omega
section
variable {H : Type} {enc : TypeId × Value → H} {W : World} {base : Nat}
set_option maxRecDepth 100000 in
theorem open_bytes {v : Value} {d : DataW H} {ps : List MemPlace} (hok : Value.okWide Tryd.prog W .any base 22 v) (h : DataW.Trod enc Tryd.prog W 0 (fun _ => true) true 22 v d ps) :
    ∃ (A : Option Addr) (c : Nat) (l : List UInt8), v = .slice A l.length c ∧ ByIn W A l ∧ (∀ p ∈ ps, p.block < W.heap.size) ∧ l.length ≤ c ∧ c ≤ 9223372036854775807 ∧ (A = none → c = 0) := by
  have hok2 : Cell.okWide Tryd.prog W .any base 22 v := by
    simp only [Value.okWide, Tryd.underlying22] at hok
    exact hok
  obtain ⟨n, hn⟩ := h
  cases v with
  | slice a0 k0 c0 =>
    have hn2 : DataW.trod enc Tryd.prog W 0 (fun _ => true) true n 22 [.slice a0 k0 c0] = some (d, ps) := hn
    rcases open_ints Tryd.underlying22 Tryd.underlying5 (by kernel_rfl) hn2 with ⟨hcs, hx⟩ | ⟨a, len, cap, zs, hcs, hb, hl, hm, hzl, hx, hc, hw⟩
    · injection hcs with hcs
      rw [hcs]
      injection hx with _ hx
      exact ⟨none, 0, [], rfl, .inl rfl, (by rw [hx]; intro p hp; cases hp), Nat.le_refl _, by omega, fun _ => rfl⟩
    · injection hcs with hcs
      injection hcs with h1 h2 h3
      subst h1 h2 h3
      have hh : W.has Tryd.prog .any base a 5 c0 := by
        have h9 := hok2
        simp only [Cell.okWide, Cell.ok, Tryd.underlying22] at h9
        exact h9.2.2
      obtain ⟨_, hsp, row, cells, hshape, _⟩ := hh
      have hblt : a.block < W.heap.size := by
        unfold World.shape? at hshape
        cases hq : W.heap[a.block]? with
        | none => rw [hq] at hshape; cases hshape
        | some o => exact lt_of_some hq
      have hzc : zs.length = c0 := hzl
      obtain ⟨b, o, sp⟩ := a
      dsimp only at hsp hblt
      subst hsp
      have hll : ((zs.take k0).map fun z => UInt8.ofNat z.toNat).length = k0 := by rw [List.length_map, List.length_take]; omega
      have hpo : ∀ z ∈ zs, 0 ≤ z ∧ z ≤ 255 := fun z hz => u8_wf (hw z hz)
      injection hx with hx1 hx2
      refine ⟨some ⟨b, o, none⟩, c0, (zs.take k0).map fun z => UInt8.ofNat z.toNat, by rw [hll], .inr ⟨b, o, rfl, hblt, fun j n hj => ?_⟩, ?_, by rw [hll]; exact hl, hm, fun e => by cases e⟩
      · rw [List.getElem?_map] at hj
        cases hz : (zs.take k0)[j]? with
        | none => rw [hz] at hj; cases hj
        | some z =>
          rw [hz] at hj
          injection hj with hj
          obtain ⟨hjl, hjz⟩ := List.getElem?_eq_some_iff.1 hz
          have hj2 : j < zs.length := by rw [List.length_take] at hjl; omega
          have hz2 : zs[j] = z := by rw [← hjz, List.getElem_take]
          have h4 := hc j hj2
          rw [Addr.add_mid, List.getD_eq_getElem?_getD, List.getElem?_eq_getElem hj2, Option.getD_some, hz2] at h4
          have h5 := hpo z (by rw [← hz2]; exact List.getElem_mem hj2)
          rw [h4, ← hj]
          congr 2
          show z = ((z.toNat % 256 : Nat) : Int)
          omega
      · intro p hp
        rw [hx2] at hp
        unfold MemPlace.row at hp
        obtain ⟨i, _, rfl⟩ := List.mem_map.1 hp
        exact hblt
  | _ => simp [Cell.okWide, Cell.ok, Tryd.underlying22] at hok2
/-- An array of numbers. -/
theorem open_arrK {fuel : Nat} {t e : TypeId} {n : Nat} {k : IntKind} {cs : List Value} {x : DataW H × List MemPlace} (ht : Tryd.prog.underlying t = some (.array n e)) (he : Tryd.prog.underlying e = some (.int k)) (hce : Tryd.prog.cellsOf e = 1)
    (h : DataW.trod enc Tryd.prog W 0 (fun _ => true) true fuel t cs = some x) : x.2 = [] ∧ ∀ i, i < n → ∃ z, cs[i]? = some (.int k z) ∧ (Lit.int k z).wf = true := by
  cases fuel with
  | zero => simp [DataW.trod] at h
  | succ fuel =>
    simp only [DataW.trod, ht, hce, Nat.mul_one] at h
    split at h
    · rename_i hl
      obtain ⟨xs, hm, hx⟩ := Option.map_eq_some_iff.1 h
      have hxl : xs.length = n := by simpa using Lib.mapM_length hm
      have hp : ∀ i, i < n → ∃ z b, xs[i]? = some b ∧ b.2 = [] ∧ cs[i]? = some (.int k z) ∧ (Lit.int k z).wf = true := by
        intro i hi
        obtain ⟨b, hb, hf⟩ := Lib.mapM_at hm i i (by simp [hi])
        obtain ⟨z, hc, hz, hw⟩ := DataW.trod_int he hf
        have h1 : cs[i]? = some (.int k z) := by
          have := congrArg (·[0]?) hc
          simpa [List.getElem?_take, List.getElem?_drop] using this
        exact ⟨z, b, hb, by rw [hz], h1, hw⟩
      refine ⟨?_, fun i hi => by obtain ⟨z, b, _, _, h1, h2⟩ := hp i hi; exact ⟨z, h1, h2⟩⟩
      rw [← hx]
      show xs.flatMap (·.2) = []
      rw [List.flatMap_eq_nil_iff]
      intro y hy
      obtain ⟨i, hi, rfl⟩ := List.mem_iff_getElem.1 hy
      obtain ⟨z, b, hb, h0, _⟩ := hp i (by omega)
      rw [List.getElem?_eq_getElem hi] at hb
      rw [Option.some.inj hb]
      exact h0
    · cases h
theorem list_of {α β : Type} (f : α → β) (n : Nat) : ∀ cs : List β, cs.length = n → (∀ i, i < n → ∃ x, cs[i]? = some (f x)) → ∃ l : List α, l.length = n ∧ cs = l.map f := by
  induction n with
  | zero => intro cs h _; exact ⟨[], rfl, by rw [List.eq_nil_of_length_eq_zero h]; rfl⟩
  | succ n ih =>
    intro cs h hx
    match cs, h with
    | c :: cs, h =>
      obtain ⟨l, hl, hc⟩ := ih cs (by simpa using h) (fun i hi => by have := hx (i + 1) (by omega); simpa using this)
      obtain ⟨x, hx0⟩ := hx 0 (by omega)
      exact ⟨x :: l, by simp [hl], by rw [List.map_cons, ← hc]; congr 1; simpa using hx0⟩
set_option maxRecDepth 100000 in
theorem open_state {v : Value} {d : DataW H} {ps : List MemPlace} (hok : Value.okWide Tryd.prog W .any base 32 v) (h : DataW.Trod enc Tryd.prog W 0 (fun _ => true) true 32 v d ps) :
    ∃ s : St, Wf s ∧ v = .agg (stC s).toArray ∧ (∀ p ∈ ps, p.block < W.heap.size) := by
  simp only [Value.okWide, Tryd.underlying32] at hok
  obtain ⟨cs, rfl, _, _⟩ := hok
  obtain ⟨n, hn⟩ := h
  have hn2 : DataW.trod enc Tryd.prog W 0 (fun _ => true) true n 32 cs.toList = some (d, ps) := hn
  obtain ⟨xs, m, _, hx, hlen, hxl, hf⟩ := DataW.trod_struct Tryd.underlying32 hn2
  have hC : Tryd.prog.cellsOf 32 = 73 := by kernel_rfl
  rw [hC] at hlen
  obtain ⟨l, hl⟩ : ∃ l, cs.toList = l := ⟨_, rfl⟩
  rw [hl] at hlen hf
  match xs, hxl with
  | [y0, y1, y2], _ =>
    have e0 := hf 0 _ rfl
    have e1 := hf 1 _ rfl
    have e2 := hf 2 _ rfl
    have k0 : Tryd.prog.cellsOf 28 = 8 := by kernel_rfl
    have k1 : Tryd.prog.cellsOf 29 = 1 := by kernel_rfl
    have k2 : Tryd.prog.cellsOf 30 = 64 := by kernel_rfl
    simp only [k0, k1, k2, List.getElem?_cons_zero, List.getElem?_cons_succ] at e0 e1 e2
    obtain ⟨p0, c0⟩ := open_arrK Tryd.underlying28 Tryd.underlying27 (by kernel_rfl) e0
    obtain ⟨p2, c2⟩ := open_arrK Tryd.underlying30 Tryd.underlying5 (by kernel_rfl) e2
    obtain ⟨z, c1, p1, w1⟩ := DataW.trod_int Tryd.underlying29 e1
    obtain ⟨hw, hhl, hhc⟩ := list_of wv 8 ((l.drop 0).take 8) (by simp; omega) (fun i hi => by
      obtain ⟨z, h1, h2⟩ := c0 i hi
      obtain ⟨c, rfl⟩ := u32_is h2
      exact ⟨c, h1⟩)
    obtain ⟨tb, htl, htc⟩ := list_of bv 64 ((l.drop 9).take 64) (by simp; omega) (fun i hi => by
      obtain ⟨z, h1, h2⟩ := c2 i hi
      obtain ⟨c, rfl⟩ := u8_is h2
      exact ⟨c, h1⟩)
    have hz := u64_wf w1
    have hps : ps = [] := by
      have := congrArg Prod.snd hx
      dsimp only at this
      rw [this]
      simp [p0, p1, p2]
    refine ⟨⟨hw, z.toNat, tb⟩, ⟨hhl, by show z.toNat < _; omega, htl⟩, ?_, by rw [hps]; intro p hp; cases hp⟩
    congr 1
    cases cs
    dsimp only at hl ⊢
    rw [hl]
    have s1 : l = l.take 8 ++ ((l.drop 8).take 1 ++ (l.drop 9).take 64) := by
      have a1 : (l.drop 9).take 64 = l.drop 9 := List.take_of_length_le (by simp; omega)
      rw [a1]
      conv => lhs; rw [← List.take_append_drop 8 l]
      congr 1
      conv => lhs; rw [← List.take_append_drop 1 (l.drop 8)]
      rw [List.drop_drop]
    rw [List.drop_zero] at hhc
    have c1b : (l.drop 8).take 1 = [.int .u64 z] := by rw [← k1]; exact c1
    rw [s1, hhc, c1b, htc]
    unfold stC
    dsimp only
    rw [Int.toNat_of_nonneg hz.1]
/-- An argument reads behind the call as it read before. -/
theorem shut_arg {t : TypeId} (hl : laidOutB Tryd.prog = true) (hr : Tryd.prog.readableRec t = true) (hrow : t < Tryd.prog.types.size) {W' : World} {v : Value} {d : DataW H} {ps : List MemPlace}
    (h : DataW.Trod enc Tryd.prog W 0 (fun _ => true) true t v d ps) (hp : ∀ p ∈ ps, p.block < W.heap.size) (hK : Kp [] W W') : DataW.Trod enc Tryd.prog W' 0 (fun b => decide (b < W.heap.size)) true t v d ps :=
  Go.WideElems.Trod_stays hl hr hrow h (fun p hm => by
    have hb := hp p hm
    cases p with
    | cell b off => exact hK.cell (p := ⟨b, off, none⟩) hb (by simp)
    | map b => exact hK.block b hb (by simp)) (fun p hm => decide_eq_true (hp p hm))
end
theorem laid_out : laidOutB Tryd.prog = true := by kernel_rfl
theorem rec_bytes : Tryd.prog.readableRec 22 = true := by kernel_rfl
theorem row_bytes : 22 < Tryd.prog.types.size := of_decide_eq_true (by kernel_rfl)
theorem rec_state : Tryd.prog.readableRec 32 = true := by kernel_rfl
theorem row_state : 32 < Tryd.prog.types.size := of_decide_eq_true (by kernel_rfl)
end Hs
end Go.Proofs.YtakanjadcnmciaaDoor
