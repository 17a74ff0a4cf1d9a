/- A list of parameters and a parameter as arguments of a law. -/
import Derived.Test.YtjkkcoiebnmkcaaGreatDoorAdAr
namespace Go.Proofs.YtjkkcoiebnmkcaaGreatDoor
namespace Ad
open Go.RowKit Lx
section
variable {H : Type} {enc : TypeId × Value → H} {W : World} {base : Nat}
set_option maxRecDepth 100000 in
/-- A list of parameters as an argument. -/
theorem open_pmsv {v : Value} {d : DataW H} {ps : List MemPlace} (hok : Value.okWide Tryz.prog W .any base 30 v) (h : DataW.Trod enc Tryz.prog W 0 (fun _ => true) true 30 v d ps) :
    ∃ l : List Prm, PmIn W.heap.size W v l ∧ (∀ p ∈ ps, p.block < W.heap.size) ∧ l.length ≤ Rows.uptoBulk d ∧ SzL (Rows.uptoBulk d) l := by
  have hok2 : Cell.okWide Tryz.prog W .any base 30 v := by
    simp only [Value.okWide, Tryz.underlying30] at hok
    exact hok
  obtain ⟨n, hn⟩ := h
  cases v with
  | slice a k c =>
    have hn2 : DataW.trod enc Tryz.prog W 0 (fun _ => true) true n 30 [.slice a k c] = some (d, ps) := hn
    exact open_pms (x := (d, ps)) hok2 hn2
  | _ => simp [Cell.okWide, Cell.ok, Tryz.underlying30] at hok2
set_option maxRecDepth 100000 in
/-- A parameter as an argument. -/
theorem open_prmv {v : Value} {d : DataW H} {ps : List MemPlace} (hok : Value.okWide Tryz.prog W .any base 32 v) (h : DataW.Trod enc Tryz.prog W 0 (fun _ => true) true 32 v d ps) :
    ∃ (a b : List UInt8) (c : Bool), v = .agg #[.string (Txt a), .string (Txt b), .bool c] ∧ (∀ p ∈ ps, p.block < W.heap.size) ∧ a.length ≤ Rows.uptoBulk d ∧ b.length ≤ Rows.uptoBulk d := by
  simp only [Value.okWide, Tryz.underlying32] at hok
  obtain ⟨cs, rfl, _, _⟩ := hok
  obtain ⟨n, hn⟩ := h
  have hn2 : DataW.trod enc Tryz.prog W 0 (fun _ => true) true n 32 cs.toList = some (d, ps) := hn
  obtain ⟨⟨a, b, c⟩, hcs, hp, h1, h2⟩ := open_prm hn2
  refine ⟨a, b, c, ?_, ?_, h1, h2⟩
  · congr 1
    cases cs
    dsimp only at hcs
    rw [hcs]
    rfl
  · intro p hm
    dsimp only at hp
    rw [hp] at hm
    cases hm
end
theorem rec_pms : Tryz.prog.readableRec 30 = true := by kernel_rfl
theorem rec_prm : Tryz.prog.readableRec 32 = true := by kernel_rfl
theorem row_pms : 30 < Tryz.prog.types.size := of_decide_eq_true (by kernel_rfl)
theorem row_prm : 32 < Tryz.prog.types.size := of_decide_eq_true (by kernel_rfl)
end Ad
end Go.Proofs.YtjkkcoiebnmkcaaGreatDoor
