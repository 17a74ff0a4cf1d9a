/- Texts of one set of library modules: AdAq, HeAi. -/
import Derived.Test.YtmmjfofdnpafkaaGreatDoorZ11
import Derived.Test.YtmmjfofdnpafkaaGreatDoorZ1
import Derived.Test.YtmmjfofdnpafkaaGreatDoorZ16
namespace Go.Proofs.YtmmjfofdnpafkaaGreatDoor
namespace Ad
open Go.RowKit Go.ChangeShapes Go.WideShapes Go.Deep Lx
def sumP : List Prm → Nat
 | [] => 0
 | p :: t => p.1.length + p.2.1.length + 2 + sumP t
theorem sumP_app (a b : List Prm) : sumP (a ++ b) = sumP a + sumP b := by
 induction a with
 | nil => simp [sumP]
 | cons p t ih => simp only [List.cons_append, sumP, ih]; omega
theorem bulk_app {H : Type} (a b : List (DataW H)) : Rows.uptoBulkAll (a ++ b) = Rows.uptoBulkAll a + Rows.uptoBulkAll b := by
 induction a with
 | nil => simp [Rows.uptoBulkAll]
 | cons p t ih => simp only [List.cons_append, Rows.uptoBulkAll, ih]; omega
section
variable {H : Type} {enc : TypeId × Value → H} {W : World} {base : Nat}
set_option maxRecDepth 100000 in
theorem open_prm2 {n : Nat} {cs : List Value} {x : DataW H × List MemPlace} (h : DataW.trod enc Tryz.prog W 0 (fun _ => true) true n 72 cs = some x) :
   ∃ p : Prm, cs = pc1 p ∧ x.2 = [] ∧ p.1.length ≤ Rows.uptoBulk x.1 ∧ p.2.1.length ≤ Rows.uptoBulk x.1 ∧ p.1.length + p.2.1.length + 2 ≤ Rows.uptoBulk x.1 := by
 obtain ⟨xs, m, _, hx, hlen, hxl, hf⟩ := DataW.trod_struct Tryz.underlying72 h
 have hC : Tryz.prog.cellsOf 72 = 3 := by kernel_rfl
 rw [hC] at hlen
 match cs, hlen with
 | [c0, c1, c2], _ =>
   match xs, hxl with
   | [y0, y1, y2], _ =>
     have e0 := hf 0 _ rfl;have e1 := hf 1 _ rfl;have e2 := hf 2 _ rfl
     have k0 : Tryz.prog.cellsOf 9 = 1 := by kernel_rfl
     have k2 : Tryz.prog.cellsOf 4 = 1 := by kernel_rfl
     simp only [k0, k2, List.drop_zero, List.drop_succ_cons, List.take_succ_cons, List.take_zero, List.getElem?_cons_zero, List.getElem?_cons_succ] at e0 e1 e2
     obtain ⟨s0, h0, z0, _⟩ := DataW.trod_string Tryz.underlying9 e0
     obtain ⟨s1, h1, z1, _⟩ := DataW.trod_string Tryz.underlying9 e1
     obtain ⟨b2, h2, z2⟩ := DataW.trod_bool Tryz.underlying4 e2
     injection h0 with h0; injection h1 with h1; injection h2 with h2
     subst h0 h1 h2
     subst z0 z1 z2
     refine ⟨(s0.data.toList, s1.data.toList, b2), ?_, by rw [hx]; rfl, ?_, ?_, ?_⟩
     ·show _ = [Value.string (Txt s0.data.toList), .string (Txt s1.data.toList), .bool b2]
      rw [← txt_of s0, ← txt_of s1]
     ·rw [hx]; simp [Rows.uptoBulk, Rows.uptoBulkAll]; omega
     ·rw [hx]; simp [Rows.uptoBulk, Rows.uptoBulkAll]; omega
     ·rw [hx]; simp [Rows.uptoBulk, Rows.uptoBulkAll]; omega
set_option maxRecDepth 100000 in
theorem open_pms2 {n : Nat} {v : Value} {x : DataW H × List MemPlace} (hok : Cell.okWide Tryz.prog W .any base 22 v) (h : DataW.trod enc Tryz.prog W 0 (fun _ => true) true n 22 [v] = some x) :
   ∃ l : List Prm, PmIn W.heap.size W v l ∧ (∀ p ∈ x.2, p.block < W.heap.size) ∧ l.length ≤ Rows.uptoBulk x.1 ∧ SzL (Rows.uptoBulk x.1) l ∧ sumP l ≤ Rows.uptoBulk x.1 := by
 rcases open_slice Tryz.underlying22 h with ⟨hcs, hx⟩ | ⟨a, len, cap, m, n', D, Pl, hcs, hb, hl, hm, hmm, hx, hi⟩
 ·injection hcs with hcs
  subst hcs
  exact ⟨[], PmIn.nil _ _, (by rw [hx]; intro p hp; cases hp), by simp, (fun p hp => (by cases hp)), by simp [sumP]⟩
 ·injection hcs with hcs
  subst hcs
  have hC : Tryz.prog.cellsOf 72 = 3 := by kernel_rfl
  rw [hC] at hx hi
  have hh : W.has Tryz.prog .any base a 72 cap := by
   have h9 := hok
   simp only [Cell.okWide, Cell.ok, Tryz.underlying22] at h9
   exact h9.2.2
  obtain ⟨_, hsp, row, cells, hshape, _⟩ := hh
  have hblt : a.block < W.heap.size := by
   unfold World.shape? at hshape
   cases hq : W.heap[a.block]? with
   | none => rw [hq] at hshape; cases hshape
   | some o => exact lt_of_some hq
  have hmc : m = cap := hmm
  subst hmc
  obtain ⟨b, o, sp⟩ := a
  dsimp only at hsp hblt
  subst hsp
  have hp : ∀ i, i < m → ∃ p : Prm, (∀ k u, (pc1 p)[k]? = some u → W.cell? ⟨b, o + (i * 3 + k), none⟩ = some u) ∧ Pl i = [] ∧ p.1.length ≤ Rows.uptoBulk (D i) ∧ p.2.1.length ≤ Rows.uptoBulk (D i) ∧ p.1.length + p.2.1.length + 2 ≤ Rows.uptoBulk (D i) := by
   intro i hlt
   obtain ⟨cs, hc, ht⟩ := hi i hlt
   obtain ⟨p, hpc, hpl, hb1, hb2, hb3⟩ := open_prm2 ht
   obtain ⟨_, hcl, hat⟩ := World.cells?_some hc
   refine ⟨p, fun k u hk => ?_, hpl, hb1, hb2, hb3⟩
   have hk3 : k < 3 := by have := (List.getElem?_eq_some_iff.1 hk).1; simpa [pc1] using this
   have := hat k hk3
   rw [add_plain, add_plain, hpc, hk] at this
   rw [← this, Nat.add_assoc]
  obtain ⟨f, hf⟩ := choose_lt hp
  have hlm : len ≤ m := hl
  have hel : ∀ (i : Nat) (p : Prm), ((List.range len).map f)[i]? = some p → i < len ∧ p = f i := by
   intro i p hi2
   rw [List.getElem?_map] at hi2
   cases hr : (List.range len)[i]? with
   | none => rw [hr] at hi2; cases hi2
   | some j =>
     obtain ⟨hlt, hj⟩ := List.getElem?_eq_some_iff.1 hr
     simp at hlt hj
     rw [hr] at hi2
     simp at hi2
     subst hj
     exact ⟨hlt, hi2.symm⟩
  refine ⟨(List.range len).map f, ⟨_, _, by simp, hl, .inr ⟨b, o, rfl, hblt, ?_⟩⟩, ?_, ?_, ?_, ?_⟩
  ·intro j u hu
   obtain ⟨i, p, k, h1, h2, h3, h4⟩ := pcl_get _ j u hu
   obtain ⟨hlt, rfl⟩ := hel i p h1
   rw [h2]
   exact (hf i (by omega)).1 k u h4
  ·intro p hpm
   rw [hx] at hpm
   rcases List.mem_append.1 hpm with hpm | hpm
   ·unfold MemPlace.row at hpm
    obtain ⟨i, _, rfl⟩ := List.mem_map.1 hpm
    exact hblt
   ·obtain ⟨i, hir, hpi⟩ := List.mem_flatMap.1 hpm
    rw [(hf i (by simpa using hir)).2.1] at hpi
    cases hpi
  ·rw [hx]
   have := bulk_len ((List.range len).map D)
   simp [Rows.uptoBulk] at this ⊢
   omega
  ·intro p hpm
   obtain ⟨i, hir, rfl⟩ := List.mem_map.1 hpm
   have hlt : i < len := by simpa using hir
   have h1 := (hf i (by omega)).2.2
   have h2 := bulk_mem ((List.range len).map D) (D i) (List.mem_map.2 ⟨i, hir, rfl⟩)
   rw [hx]
   simp only [Rows.uptoBulk]
   omega
  ·have h1 : ∀ k, k ≤ len → sumP ((List.range k).map f) ≤ Rows.uptoBulkAll ((List.range k).map D) := by
     intro k
     induction k with
     | zero => intro _; simp [sumP]
     | succ k ih =>
       intro hk
       have h3 := (hf k (by omega)).2.2.2.2
       have h4 := ih (by omega)
       rw [List.range_succ, List.map_append, List.map_append, sumP_app, bulk_app]
       simp only [List.map_cons, List.map_nil, sumP, Rows.uptoBulkAll]
       omega
   have := h1 len (Nat.le_refl _)
   rw [hx]
   simp only [Rows.uptoBulk]
   omega
end
end Ad
end Go.Proofs.YtmmjfofdnpafkaaGreatDoor
namespace Go.Proofs.YtmmjfofdnpafkaaGreatDoor
namespace Ad
open Go.RowKit Go.ChangeShapes Go.WideShapes Go.Deep Lx
section
variable {H : Type} {enc : TypeId × Value → H} {W : World} {base : Nat}
set_option maxRecDepth 100000 in
theorem open_via {v : Value} {d : DataW H} {ps : List MemPlace} (hok : Value.okWide Tryz.prog W .any base 33 v) (h : DataW.Trod enc Tryz.prog W 0 (fun _ => true) true 33 v d ps) :
   ∃ (t h b : List UInt8) (po : Int) (A : Option Addr) (c : Nat) (l : List Prm), v = .agg #[.string (Txt t), .string (Txt h), .int .i64 po, .string (Txt b), .slice A l.length c] ∧ PmIn W.heap.size W (.slice A l.length c) l ∧ (∀ p ∈ ps, p.block < W.heap.size) ∧ l.length ≤ Rows.uptoBulk d ∧ SzL (Rows.uptoBulk d) l ∧ t.length + h.length + b.length + sumP l + 4 ≤ Rows.uptoBulk d ∧ (Lit.int .i64 po).wf = true := by
 simp only [Value.okWide, Tryz.underlying33] at hok
 obtain ⟨cs, rfl, _, ts, hts, _, hc⟩ := hok
 have hts2 : Tryz.prog.cellTypes Tryz.prog.depth 33 = some [9, 9, 3, 9, 22] := by kernel_rfl
 rw [hts2] at hts
 injection hts with hts
 subst hts
 obtain ⟨n, hn⟩ := h
 have hn2 : DataW.trod enc Tryz.prog W 0 (fun _ => true) true n 33 cs.toList = some (d, ps) := hn
 obtain ⟨xs, m, _, hx, hlen, hxl, hf⟩ := DataW.trod_struct Tryz.underlying33 hn2
 have hC : Tryz.prog.cellsOf 33 = 5 := by kernel_rfl
 rw [hC] at hlen
 obtain ⟨l, hl⟩ : ∃ l, cs.toList = l := ⟨_, rfl⟩
 have hc' : ∀ i v, l[i]? = some v → ∃ u, ([9, 9, 3, 9, 22] : List TypeId)[i % 5]? = some u ∧ Cell.okWide Tryz.prog W .any base u v := by
  intro i v hv
  rw [← hl, Array.getElem?_toList] at hv
  exact hc i v hv
 rw [hl] at hlen hf
 match l, hlen with
 | [c0, c1, c2, c3, c4], _ =>
   match xs, hxl with
   | [y0, y1, y2, y3, y4], _ =>
     have e0 := hf 0 _ rfl;have e1 := hf 1 _ rfl;have e2 := hf 2 _ rfl;have e3 := hf 3 _ rfl;have e4 := hf 4 _ rfl
     have k0 : Tryz.prog.cellsOf 9 = 1 := by kernel_rfl
     have k1 : Tryz.prog.cellsOf 22 = 1 := by kernel_rfl
     have k2 : Tryz.prog.cellsOf 3 = 1 := by kernel_rfl
     simp only [k0, k1, k2, List.drop_zero, List.drop_succ_cons, List.take_succ_cons, List.take_zero, List.getElem?_cons_zero, List.getElem?_cons_succ] at e0 e1 e2 e3 e4
     obtain ⟨s0, h0, z0, _⟩ := DataW.trod_string Tryz.underlying9 e0
     obtain ⟨s1, h1, z1, _⟩ := DataW.trod_string Tryz.underlying9 e1
     obtain ⟨n2, h2, z2, wf2⟩ := DataW.trod_int Tryz.underlying3 e2
     obtain ⟨s3, h3, z3, _⟩ := DataW.trod_string Tryz.underlying9 e3
     obtain ⟨t4, ht4, ok4⟩ := hc' 4 c4 rfl
     simp at ht4
     subst ht4
     obtain ⟨l7, P7, q7, b7, w7, m7⟩ := open_pms2 ok4 e4
     injection h0 with h0
     injection h1 with h1
     injection h2 with h2
     injection h3 with h3
     subst h0 h1 h2 h3
     subst z0 z1 z2 z3
     obtain ⟨A, c, rfl⟩ := P7.form
     have hb : Rows.uptoBulk d = (s0.data.toList.length + 1) + ((s1.data.toList.length + 1) + (1 + ((s3.data.toList.length + 1) + (Rows.uptoBulk y4.1 + 0)))) + 1 := by
      have := congrArg Prod.fst hx
      dsimp only at this
      rw [this]; simp [Rows.uptoBulk, Rows.uptoBulkAll]
     have hps : ∀ p ∈ ps, p ∈ y4.2 := by
      intro p hp
      have := congrArg Prod.snd hx
      dsimp only at this
      rw [this] at hp
      simpa using hp
     refine ⟨s0.data.toList, s1.data.toList, s3.data.toList, n2, A, c, l7, ?_, P7, fun p hp => q7 p (hps p hp), by omega, w7.up (by omega), by omega, wf2⟩
     congr 1
     cases cs
     dsimp only at hl ⊢
     rw [hl, ← txt_of s0, ← txt_of s1, ← txt_of s3]
end
theorem i64_lo {x : Int} (h : (Lit.int .i64 x).wf = true) : -9223372036854775808 ≤ x := by
 have : -9223372036854775808 ≤ x ∧ x ≤ 9223372036854775807 := by simpa [Lit.wf, IntKind.min, IntKind.max, IntKind.signed, IntKind.bits] using h
 exact this.1
theorem i64_hi {x : Int} (h : (Lit.int .i64 x).wf = true) : x ≤ 9223372036854775807 := by
 have : -9223372036854775808 ≤ x ∧ x ≤ 9223372036854775807 := by simpa [Lit.wf, IntKind.min, IntKind.max, IntKind.signed, IntKind.bits] using h
 exact this.2
theorem rec_via : Tryz.prog.readableRec 33 = true := by kernel_rfl
theorem row_via : 33 < Tryz.prog.types.size := of_decide_eq_true (by kernel_rfl)
end Ad
end Go.Proofs.YtmmjfofdnpafkaaGreatDoor
