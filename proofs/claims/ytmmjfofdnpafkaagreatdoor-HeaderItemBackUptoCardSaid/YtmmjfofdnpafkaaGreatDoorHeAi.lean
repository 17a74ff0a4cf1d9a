/- An item and a Via as arguments of a law: what they read as. No conditions. -/
import Derived.Test.YtmmjfofdnpafkaaGreatDoorAdAq
namespace Go.Proofs.YtmmjfofdnpafkaaGreatDoor
namespace Ad
open Go.RowKit Go.ChangeShapes Go.WideShapes Go.Deep Lx
section
variable {H : Type} {enc : TypeId × Value → H} {W : World} {base : Nat}
set_option maxRecDepth 100000 in
theorem open_itm {v : Value} {d : DataW H} {ps : List MemPlace} (hok : Value.okWide Tryz.prog W .any base 59 v) (h : DataW.Trod enc Tryz.prog W 0 (fun _ => true) true 59 v d ps) :
    ∃ (x : List UInt8) (A : Option Addr) (c : Nat) (l : List Prm), v = .agg #[.string (Txt x), .slice A l.length c] ∧ PmIn W.heap.size W (.slice A l.length c) l ∧ (∀ p ∈ ps, p.block < W.heap.size) ∧ l.length ≤ Rows.uptoBulk d ∧ SzL (Rows.uptoBulk d) l ∧ x.length + sumP l ≤ Rows.uptoBulk d := by
  simp only [Value.okWide, Tryz.underlying59] at hok
  obtain ⟨cs, rfl, _, ts, hts, _, hc⟩ := hok
  have hts2 : Tryz.prog.cellTypes Tryz.prog.depth 59 = some [9, 22] := by kernel_rfl
  rw [hts2] at hts
  injection hts with hts
  subst hts
  obtain ⟨n, hn⟩ := h
  have hn2 : DataW.trod enc Tryz.prog W 0 (fun _ => true) true n 59 cs.toList = some (d, ps) := hn
  obtain ⟨xs, m, _, hx, hlen, hxl, hf⟩ := DataW.trod_struct Tryz.underlying59 hn2
  have hC : Tryz.prog.cellsOf 59 = 2 := by kernel_rfl
  rw [hC] at hlen
  obtain ⟨l, hl⟩ : ∃ l, cs.toList = l := ⟨_, rfl⟩
  have hc' : ∀ i v, l[i]? = some v → ∃ u, ([9, 22] : List TypeId)[i % 2]? = some u ∧ Cell.okWide Tryz.prog W .any base u v := by
    intro i v hv
    rw [← hl, Array.getElem?_toList] at hv
    exact hc i v hv
  rw [hl] at hlen hf
  match l, hlen with
  | [c0, c1], _ =>
    match xs, hxl with
    | [y0, y1], _ =>
      have e0 := hf 0 _ rfl
      have e1 := hf 1 _ rfl
      have k0 : Tryz.prog.cellsOf 9 = 1 := by kernel_rfl
      have k1 : Tryz.prog.cellsOf 22 = 1 := by kernel_rfl
      simp only [k0, k1, List.drop_zero, List.drop_succ_cons, List.take_succ_cons, List.take_zero, List.getElem?_cons_zero, List.getElem?_cons_succ] at e0 e1
      obtain ⟨s0, h0, z0, _⟩ := DataW.trod_string Tryz.underlying9 e0
      obtain ⟨t1, ht1, ok1⟩ := hc' 1 c1 rfl
      simp at ht1
      subst ht1
      obtain ⟨l7, P7, q7, b7, w7, m7⟩ := open_pms2 ok1 e1
      injection h0 with h0
      subst h0
      subst z0
      obtain ⟨A, c, rfl⟩ := P7.form
      have hb : Rows.uptoBulk d = (s0.data.toList.length + 1) + (Rows.uptoBulk y1.1 + 0) + 1 := by
        have := congrArg Prod.fst hx
        dsimp only at this
        rw [this]; simp [Rows.uptoBulk, Rows.uptoBulkAll]
      have hps : ∀ p ∈ ps, p ∈ y1.2 := by
        intro p hp
        have := congrArg Prod.snd hx
        dsimp only at this
        rw [this] at hp
        simpa using hp
      refine ⟨s0.data.toList, A, c, l7, ?_, P7, fun p hp => q7 p (hps p hp), by omega, w7.up (by omega), by omega⟩
      congr 1
      cases cs
      dsimp only at hl ⊢
      rw [hl, ← txt_of s0]
end
theorem rec_itm : Tryz.prog.readableRec 59 = true := by kernel_rfl
theorem row_itm : 59 < Tryz.prog.types.size := of_decide_eq_true (by kernel_rfl)
end Ad
end Go.Proofs.YtmmjfofdnpafkaaGreatDoor
