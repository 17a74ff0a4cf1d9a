/- Texts of one set of library modules: AdAr. -/
import Derived.Test.YtmmjfofdnpafkaaGreatDoorZ9
import Derived.Test.YtmmjfofdnpafkaaGreatDoorZ6
import Derived.Deep.Slices
import Derived.Deep.Fields
import Derived.ChangeSame
import Derived.WideKeyArgs
namespace Go.Proofs.YtmmjfofdnpafkaaGreatDoor
namespace Ad
open Go.RowKit Go.ChangeShapes Go.WideShapes Go.Deep Lx
theorem bulk_pos {H : Type} (d : DataW H) : 1 ≤ Rows.uptoBulk d := by
 cases d with
 | lit l => cases l <;> simp [Rows.uptoBulk]
 | _ => simp [Rows.uptoBulk]
theorem bulk_mem {H : Type} : ∀ (xs : List (DataW H)) (d : DataW H), d ∈ xs → Rows.uptoBulk d ≤ Rows.uptoBulkAll xs
 | [], d, h => by cases h
 | x :: r, d, h => by
   rw [Rows.uptoBulkAll]
   rcases List.mem_cons.1 h with rfl | h
   ·omega
   ·have := bulk_mem r d h; omega
theorem bulk_len {H : Type} : ∀ (xs : List (DataW H)), xs.length ≤ Rows.uptoBulkAll xs
 | [] => by simp
 | x :: r => by
   rw [Rows.uptoBulkAll]
   have := bulk_pos x
   have := bulk_len r
   simp; omega
theorem pcl_get : ∀ (l : List Prm) (j : Nat) (u : Value), (pcl l)[j]? = some u → ∃ i p k, l[i]? = some p ∧ j = i * 3 + k ∧ k < 3 ∧ (pc1 p)[k]? = some u
 | [], j, u, h => by simp [pcl] at h
 | p :: t, j, u, h => by
   have e : pcl (p :: t) = pc1 p ++ pcl t := rfl
   rw [e] at h
   by_cases hj : j < 3
   ·rw [List.getElem?_append_left (by simpa [pc1] using hj)] at h
    exact ⟨0, p, j, rfl, by omega, hj, h⟩
   ·rw [List.getElem?_append_right (by simp [pc1]; omega)] at h
    have hl : (pc1 p).length = 3 := rfl
    rw [hl] at h
    obtain ⟨i, q, k, h1, h2, h3, h4⟩ := pcl_get t (j - 3) u h
    exact ⟨i + 1, q, k, by simpa using h1, by omega, h3, h4⟩
theorem add_plain (b o n : Nat) : (⟨b, o, none⟩ : Addr).add n = ⟨b, o + n, none⟩ := by
 unfold Addr.add
 split
 ·rename_i h; rw [h]; rfl
 ·rfl
section
variable {H : Type} {enc : TypeId × Value → H} {W : World} {base : Nat}
theorem txt_of (s : ByteArray) : s = Txt s.data.toList := by cases s; simp [Txt]
set_option maxRecDepth 100000 in
theorem open_prm {n : Nat} {cs : List Value} {x : DataW H × List MemPlace} (h : DataW.trod enc Tryz.prog W 0 (fun _ => true) true n 72 cs = some x) :
   ∃ p : Prm, cs = pc1 p ∧ x.2 = [] ∧ p.1.length ≤ Rows.uptoBulk x.1 ∧ p.2.1.length ≤ Rows.uptoBulk x.1 := by
 obtain ⟨xs, m, _, hx, hlen, hxl, hf⟩ := DataW.trod_struct Tryz.underlying72 h
 have hC : Tryz.prog.cellsOf 72 = 3 := by kernel_rfl
 rw [hC] at hlen
 match cs, hlen with
 | [c0, c1, c2], _ =>
   match xs, hxl with
   | [y0, y1, y2], _ =>
     have e0 := hf 0 _ rfl
     have e1 := hf 1 _ rfl
     have e2 := hf 2 _ rfl
     have k0 : Tryz.prog.cellsOf 9 = 1 := by kernel_rfl
     have k2 : Tryz.prog.cellsOf 4 = 1 := by kernel_rfl
     simp only [k0, k2, List.drop_zero, List.drop_succ_cons, List.take_succ_cons, List.take_zero, List.getElem?_cons_zero, List.getElem?_cons_succ] at e0 e1 e2
     obtain ⟨s0, h0, z0, _⟩ := DataW.trod_string Tryz.underlying9 e0
     obtain ⟨s1, h1, z1, _⟩ := DataW.trod_string Tryz.underlying9 e1
     obtain ⟨b2, h2, z2⟩ := DataW.trod_bool Tryz.underlying4 e2
     injection h0 with h0; injection h1 with h1; injection h2 with h2
     subst h0 h1 h2
     subst z0 z1 z2
     refine ⟨(s0.data.toList, s1.data.toList, b2), ?_, by rw [hx]; rfl, ?_, ?_⟩
     ·show _ = [Value.string (Txt s0.data.toList), .string (Txt s1.data.toList), .bool b2]
      rw [← txt_of s0, ← txt_of s1]
     ·rw [hx]; simp [Rows.uptoBulk, Rows.uptoBulkAll]; omega
     ·rw [hx]; simp [Rows.uptoBulk, Rows.uptoBulkAll]; omega
set_option maxRecDepth 100000 in
theorem open_pms {n : Nat} {v : Value} {x : DataW H × List MemPlace} (hok : Cell.okWide Tryz.prog W .any base 22 v) (h : DataW.trod enc Tryz.prog W 0 (fun _ => true) true n 22 [v] = some x) :
   ∃ l : List Prm, PmIn W.heap.size W v l ∧ (∀ p ∈ x.2, p.block < W.heap.size) ∧ l.length ≤ Rows.uptoBulk x.1 ∧ SzL (Rows.uptoBulk x.1) l := by
 rcases open_slice Tryz.underlying22 h with ⟨hcs, hx⟩ | ⟨a, len, cap, m, n', D, Pl, hcs, hb, hl, hm, hmm, hx, hi⟩
 ·injection hcs with hcs
  subst hcs
  exact ⟨[], PmIn.nil _ _, (by rw [hx]; intro p hp; cases hp), by simp, fun p hp => (by cases hp)⟩
 ·injection hcs with hcs
  subst hcs
  have hC : Tryz.prog.cellsOf 72 = 3 := by kernel_rfl
  rw [hC] at hx hi
  have hh : W.has Tryz.prog .any base a 72 cap := by
   have h9 := hok
   simp only [Cell.okWide, Cell.ok, Tryz.underlying22] at h9
   exact h9.2.2
  obtain ⟨_, hsp, row, cells, hshape, _⟩ := hh
  have hblt : a.block < W.heap.size := by
   unfold World.shape? at hshape
   cases hq : W.heap[a.block]? with
   | none => rw [hq] at hshape; cases hshape
   | some o => exact lt_of_some hq
  have hmc : m = cap := hmm
  subst hmc
  obtain ⟨b, o, sp⟩ := a
  dsimp only at hsp hblt
  subst hsp
  have hp : ∀ i, i < m → ∃ p : Prm, (∀ k u, (pc1 p)[k]? = some u → W.cell? ⟨b, o + (i * 3 + k), none⟩ = some u) ∧ Pl i = [] ∧ p.1.length ≤ Rows.uptoBulk (D i) ∧ p.2.1.length ≤ Rows.uptoBulk (D i) := by
   intro i hlt
   obtain ⟨cs, hc, ht⟩ := hi i hlt
   obtain ⟨p, hpc, hpl, hb1, hb2⟩ := open_prm ht
   obtain ⟨_, hcl, hat⟩ := World.cells?_some hc
   refine ⟨p, fun k u hk => ?_, hpl, hb1, hb2⟩
   have hk3 : k < 3 := by have := (List.getElem?_eq_some_iff.1 hk).1; simpa [pc1] using this
   have := hat k hk3
   rw [add_plain, add_plain, hpc, hk] at this
   rw [← this, Nat.add_assoc]
  obtain ⟨f, hf⟩ := choose_lt hp
  have hlm : len ≤ m := hl
  have hel : ∀ (i : Nat) (p : Prm), ((List.range len).map f)[i]? = some p → i < len ∧ p = f i := by
   intro i p hi2
   rw [List.getElem?_map] at hi2
   cases hr : (List.range len)[i]? with
   | none => rw [hr] at hi2; cases hi2
   | some j =>
     obtain ⟨hlt, hj⟩ := List.getElem?_eq_some_iff.1 hr
     simp at hlt hj
     rw [hr] at hi2
     simp at hi2
     subst hj
     exact ⟨hlt, hi2.symm⟩
  refine ⟨(List.range len).map f, ⟨_, _, by simp, hl, .inr ⟨b, o, rfl, hblt, ?_⟩⟩, ?_, ?_, ?_⟩
  ·intro j u hu
   obtain ⟨i, p, k, h1, h2, h3, h4⟩ := pcl_get _ j u hu
   obtain ⟨hlt, rfl⟩ := hel i p h1
   rw [h2]
   exact (hf i (by omega)).1 k u h4
  ·intro p hpm
   rw [hx] at hpm
   rcases List.mem_append.1 hpm with hpm | hpm
   ·unfold MemPlace.row at hpm
    obtain ⟨i, _, rfl⟩ := List.mem_map.1 hpm
    exact hblt
   ·obtain ⟨i, hir, hpi⟩ := List.mem_flatMap.1 hpm
    rw [(hf i (by simpa using hir)).2.1] at hpi
    cases hpi
  ·rw [hx]
   have := bulk_len ((List.range len).map D)
   simp [Rows.uptoBulk] at this ⊢
   omega
  ·intro p hpm
   obtain ⟨i, hir, rfl⟩ := List.mem_map.1 hpm
   have hlt : i < len := by simpa using hir
   have h1 := (hf i (by omega)).2.2
   have h2 := bulk_mem ((List.range len).map D) (D i) (List.mem_map.2 ⟨i, hir, rfl⟩)
   rw [hx]
   simp only [Rows.uptoBulk]
   omega
structure SzM (m : Nat) (u : Uri) : Prop where
 scheme : u.scheme.length ≤ m
 user : u.user.length ≤ m
 host : u.host.length ≤ m
 params : u.params.length ≤ m
 heads : u.heads.length ≤ m
 ps : SzL m u.params
 hs : SzL m u.heads
theorem SzL.up {m m' : Nat} {l : List Prm} (h : SzL m l) (hm : m ≤ m') : SzL m' l := fun p hp => by have := h p hp; omega
theorem SzM.up {m m' : Nat} {u : Uri} (h : SzM m u) (hm : m ≤ m') : SzM m' u :=
 ⟨Nat.le_trans h.scheme hm, Nat.le_trans h.user hm, Nat.le_trans h.host hm, Nat.le_trans h.params hm, Nat.le_trans h.heads hm, h.ps.up hm, h.hs.up hm⟩
theorem SzM.szU {m : Nat} {u : Uri} (h : SzM m u) (hm : m ≤ 1048576) : SzU u ∧ u.host.length ≤ 1048576 := by
 have h1 := h.scheme; have h2 := h.user; have h3 := h.host; have h4 := h.params; have h5 := h.heads
 exact ⟨⟨by omega, by omega, by omega, by omega, by omega, fun p hp => (by have := h.ps p hp; omega), fun p hp => (by have := h.hs p hp; omega)⟩, by omega⟩
set_option maxRecDepth 100000 in
set_option maxHeartbeats 2000000 in
theorem open_uric {n : Nat} {cs : List Value} {x : DataW H × List MemPlace} (hok : ∀ v, (cs[4]? = some v ∨ cs[5]? = some v) → Cell.okWide Tryz.prog W .any base 22 v) (h : DataW.trod enc Tryz.prog W 0 (fun _ => true) true n 24 cs = some x) :
   ∃ (u : Uri) (vp vh : Value), cs = [.string (Txt u.scheme), .string (Txt u.user), .string (Txt u.host), .int .i64 u.port, vp, vh] ∧ PmIn W.heap.size W vp u.params ∧ PmIn W.heap.size W vh u.heads ∧ (∀ p ∈ x.2, p.block < W.heap.size) ∧ SzM (Rows.uptoBulk x.1) u := by
 obtain ⟨xs, m, _, hx, hlen, hxl, hf⟩ := DataW.trod_struct Tryz.underlying24 h
 have hC : Tryz.prog.cellsOf 24 = 6 := by kernel_rfl
 rw [hC] at hlen
 match cs, hlen with
 | [c0, c1, c2, c3, c4, c5], _ =>
   match xs, hxl with
   | [y0, y1, y2, y3, y4, y5], _ =>
     have e0 := hf 0 _ rfl
     have e1 := hf 1 _ rfl
     have e2 := hf 2 _ rfl
     have e3 := hf 3 _ rfl
     have e4 := hf 4 _ rfl
     have e5 := hf 5 _ rfl
     have k0 : Tryz.prog.cellsOf 9 = 1 := by kernel_rfl
     have k3 : Tryz.prog.cellsOf 3 = 1 := by kernel_rfl
     have k4 : Tryz.prog.cellsOf 22 = 1 := by kernel_rfl
     simp only [k0, k3, k4, List.drop_zero, List.drop_succ_cons, List.take_succ_cons, List.take_zero, List.getElem?_cons_zero, List.getElem?_cons_succ] at e0 e1 e2 e3 e4 e5
     obtain ⟨s0, h0, z0, _⟩ := DataW.trod_string Tryz.underlying9 e0
     obtain ⟨s1, h1, z1, _⟩ := DataW.trod_string Tryz.underlying9 e1
     obtain ⟨s2, h2, z2, _⟩ := DataW.trod_string Tryz.underlying9 e2
     obtain ⟨i3, h3, z3, _⟩ := DataW.trod_int Tryz.underlying3 e3
     obtain ⟨l4, P4, q4, b4, w4⟩ := open_pms (hok c4 (.inl rfl)) e4
     obtain ⟨l5, P5, q5, b5, w5⟩ := open_pms (hok c5 (.inr rfl)) e5
     injection h0 with h0; injection h1 with h1; injection h2 with h2; injection h3 with h3
     subst h0 h1 h2 h3
     subst z0 z1 z2 z3
     have hb : Rows.uptoBulk x.1 = (s0.data.toList.length + 1) + ((s1.data.toList.length + 1) + ((s2.data.toList.length + 1) + (1 + (Rows.uptoBulk y4.1 + (Rows.uptoBulk y5.1 + 0))))) + 1 := by rw [hx]; simp [Rows.uptoBulk, Rows.uptoBulkAll]
     refine ⟨⟨s0.data.toList, s1.data.toList, s2.data.toList, i3, l4, l5⟩, c4, c5, ?_, P4, P5, ?_, ?_⟩
     ·dsimp only
      rw [← txt_of s0, ← txt_of s1, ← txt_of s2]
     ·intro p hp
      rw [hx] at hp
      have hp2 : p ∈ y4.2 ∨ p ∈ y5.2 := by simpa using hp
      rcases hp2 with hp2 | hp2
      ·exact q4 p hp2
      ·exact q5 p hp2
     ·exact ⟨by dsimp only; omega, by dsimp only; omega, by dsimp only; omega, by dsimp only; omega, by dsimp only; omega, w4.up (by omega), w5.up (by omega)⟩
set_option maxRecDepth 100000 in
set_option maxHeartbeats 2000000 in
theorem open_adr {v : Value} {d : DataW H} {ps : List MemPlace} (hok : Value.okWide Tryz.prog W .any base 26 v) (h : DataW.Trod enc Tryz.prog W 0 (fun _ => true) true 26 v d ps) :
   ∃ a : Adr, AdIn W.heap.size W v a ∧ (∀ p ∈ ps, p.block < W.heap.size) ∧ a.display.length ≤ Rows.uptoBulk d ∧ SzM (Rows.uptoBulk d) a.uri ∧ a.params.length ≤ Rows.uptoBulk d ∧ SzL (Rows.uptoBulk d) a.params := by
 simp only [Value.okWide, Tryz.underlying26] at hok
 obtain ⟨cs, rfl, _, ts, hts, _, hc⟩ := hok
 have hts2 : Tryz.prog.cellTypes Tryz.prog.depth 26 = some [9, 9, 9, 9, 3, 22, 22, 22] := by kernel_rfl
 rw [hts2] at hts
 injection hts with hts
 subst hts
 obtain ⟨n, hn⟩ := h
 have hn2 : DataW.trod enc Tryz.prog W 0 (fun _ => true) true n 26 cs.toList = some (d, ps) := hn
 obtain ⟨xs, m, _, hx, hlen, hxl, hf⟩ := DataW.trod_struct Tryz.underlying26 hn2
 have hC : Tryz.prog.cellsOf 26 = 8 := by kernel_rfl
 rw [hC] at hlen
 obtain ⟨l, hl⟩ : ∃ l, cs.toList = l := ⟨_, rfl⟩
 have hc' : ∀ i v, l[i]? = some v → ∃ u, ([9, 9, 9, 9, 3, 22, 22, 22] : List TypeId)[i % 8]? = some u ∧ Cell.okWide Tryz.prog W .any base u v := by
  intro i v hv
  rw [← hl, Array.getElem?_toList] at hv
  exact hc i v hv
 rw [hl] at hlen hf
 match l, hlen with
 | [c0, c1, c2, c3, c4, c5, c6, c7], _ =>
   match xs, hxl with
   | [y0, y1, y2], _ =>
     have e0 := hf 0 _ rfl
     have e1 := hf 1 _ rfl
     have e2 := hf 2 _ rfl
     have k0 : Tryz.prog.cellsOf 9 = 1 := by kernel_rfl
     have k1 : Tryz.prog.cellsOf 24 = 6 := by kernel_rfl
     have k4 : Tryz.prog.cellsOf 22 = 1 := by kernel_rfl
     simp only [k0, k1, k4, List.drop_zero, List.drop_succ_cons, List.take_succ_cons, List.take_zero, List.getElem?_cons_zero, List.getElem?_cons_succ] at e0 e1 e2
     obtain ⟨s0, h0, z0, _⟩ := DataW.trod_string Tryz.underlying9 e0
     have ok5 : ∀ i, (i = 5 ∨ i = 6 ∨ i = 7) → ∀ v, [c0, c1, c2, c3, c4, c5, c6, c7][i]? = some v → Cell.okWide Tryz.prog W .any base 22 v := by
      intro i hi v hv
      obtain ⟨t, ht, hk⟩ := hc' i v hv
      rcases hi with rfl | rfl | rfl <;> (simp at ht; subst ht; exact hk)
     obtain ⟨u, vp, vh, hcs, h1, h2, h3, h4⟩ := open_uric (base := base) (fun v hv => by
      rcases hv with hv | hv
      ·exact ok5 5 (.inl rfl) v hv
      ·exact ok5 6 (.inr (.inl rfl)) v hv) e1
     obtain ⟨l7, P7, q7, b7, w7⟩ := open_pms (ok5 7 (.inr (.inr rfl)) c7 rfl) e2
     injection h0 with h0
     subst h0
     subst z0
     have hb : Rows.uptoBulk d = (s0.data.toList.length + 1) + (Rows.uptoBulk y1.1 + (Rows.uptoBulk y2.1 + 0)) + 1 := by
      have := congrArg Prod.fst hx
      dsimp only at this
      rw [this]; simp [Rows.uptoBulk, Rows.uptoBulkAll]
     have hps : ∀ p ∈ ps, p ∈ y1.2 ∨ p ∈ y2.2 := by
      intro p hp
      have := congrArg Prod.snd hx
      dsimp only at this
      rw [this] at hp
      simpa using hp
     refine ⟨⟨s0.data.toList, u, l7⟩, ⟨vp, vh, c7, ?_, h1, h2, P7⟩, fun p hp => ?_, by dsimp only; omega, h4.up (by omega), by dsimp only; omega, w7.up (by omega)⟩
     ·congr 1
      cases cs
      dsimp only at hl ⊢
      rw [hl]
      injection hcs with g1 g2
      injection g2 with g2 g3
      injection g3 with g3 g4
      injection g4 with g4 g5
      injection g5 with g5 g6
      injection g6 with g6 g7
      rw [g1, g2, g3, g4, g5, g6, ← txt_of s0]
     ·rcases hps p hp with h | h
      ·exact h3 p h
      ·exact q7 p h
theorem shut_arg {t : TypeId} (hl : laidOutB Tryz.prog = true) (hr : Tryz.prog.readableRec t = true) (hrow : t < Tryz.prog.types.size) {W' : World} {v : Value} {d : DataW H} {ps : List MemPlace}
   (h : DataW.Trod enc Tryz.prog W 0 (fun _ => true) true t v d ps) (hp : ∀ p ∈ ps, p.block < W.heap.size) (hK : Kp [] W W') : DataW.Trod enc Tryz.prog W' 0 (fun b => decide (b < W.heap.size)) true t v d ps :=
 Go.WideElems.Trod_stays hl hr hrow h (fun p hm => by
  have hb := hp p hm
  cases p with
  | cell b off => exact hK.cell (p := ⟨b, off, none⟩) hb (by simp)
  | map b => exact hK.block b hb (by simp)) (fun p hm => decide_eq_true (hp p hm))
end
theorem laid_out : laidOutB Tryz.prog = true := by kernel_rfl
theorem rec_adr : Tryz.prog.readableRec 26 = true := by kernel_rfl
theorem row_adr : 26 < Tryz.prog.types.size := of_decide_eq_true (by kernel_rfl)
end Ad
end Go.Proofs.YtmmjfofdnpafkaaGreatDoor
