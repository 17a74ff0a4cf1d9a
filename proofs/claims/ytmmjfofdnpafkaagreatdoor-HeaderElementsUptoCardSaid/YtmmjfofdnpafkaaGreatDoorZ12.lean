/- Texts of one set of library modules: HeAu. -/
import Derived.Test.YtmmjfofdnpafkaaGreatDoorZ9
import Derived.Test.YtmmjfofdnpafkaaGreatDoorZ11
import Derived.ChangeSlices
namespace Go.Proofs.YtmmjfofdnpafkaaGreatDoor
namespace Ad
open Go.RowKit Go.ChangeShapes Go.WideShapes Go.Deep Lx
section
variable {H : Type} {enc : TypeId × Value → H} {W : World} {base : Nat}
theorem u16_wf {x : Int} (h : (Lit.int .u16 x).wf = true) : 0 ≤ x ∧ x ≤ 65535 := by
 simpa [Lit.wf, IntKind.min, IntKind.max, IntKind.signed, IntKind.bits] using h
theorem u8_wf {x : Int} (h : (Lit.int .u8 x).wf = true) : 0 ≤ x ∧ x ≤ 255 := by
 simpa [Lit.wf, IntKind.min, IntKind.max, IntKind.signed, IntKind.bits] using h
set_option maxRecDepth 100000 in
theorem open_u16s {v : Value} {d : DataW H} {ps : List MemPlace} (hok : Value.okWide Tryz.prog W .any base 77 v) (h : DataW.Trod enc Tryz.prog W 0 (fun _ => true) true 77 v d ps) :
  ∃ (A : Option Addr) (c : Nat) (l : List Nat), v = .slice A l.length c ∧ U16In W A l ∧ (∀ p ∈ ps, p.block < W.heap.size) ∧ l.length ≤ Rows.uptoBulk d ∧ (∀ n ∈ l, n ≤ 65535) := by
 have hok2 : Cell.okWide Tryz.prog W .any base 77 v := by
  simp only [Value.okWide, Tryz.underlying77] at hok
  exact hok
 obtain ⟨n, hn⟩ := h
 cases v with
 | slice a0 k0 c0 =>
   have hn2 : DataW.trod enc Tryz.prog W 0 (fun _ => true) true n 77 [.slice a0 k0 c0] = some (d, ps) := hn
   rcases open_ints Tryz.underlying77 Tryz.underlying79 (by kernel_rfl) hn2 with ⟨hcs, hx⟩ | ⟨a, len, cap, zs, hcs, hb, hl, hm, hzl, hx, hc, hw⟩
   ·injection hcs with hcs
    rw [hcs]
    injection hx with _ hx
    exact ⟨none, 0, [], rfl, .inl rfl, (by rw [hx]; intro p hp; cases hp), Nat.zero_le _, fun n hn => by cases hn⟩
   ·injection hcs with hcs
    injection hcs with h1 h2 h3
    subst h1 h2 h3
    have hh : W.has Tryz.prog .any base a 79 c0 := by
     have h9 := hok2
     simp only [Cell.okWide, Cell.ok, Tryz.underlying77] at h9
     exact h9.2.2
    obtain ⟨_, hsp, row, cells, hshape, _⟩ := hh
    have hblt : a.block < W.heap.size := by
     unfold World.shape? at hshape
     cases hq : W.heap[a.block]? with
     | none => rw [hq] at hshape; cases hshape
     | some o => exact lt_of_some hq
    have hzc : zs.length = c0 := hzl
    obtain ⟨b, o, sp⟩ := a
    dsimp only at hsp hblt
    subst hsp
    have hll : ((zs.take k0).map Int.toNat).length = k0 := by rw [List.length_map, List.length_take]; omega
    have hpo : ∀ z ∈ zs, 0 ≤ z ∧ z ≤ 65535 := fun z hz => u16_wf (hw z hz)
    injection hx with hx1 hx2
    refine ⟨some ⟨b, o, none⟩, c0, (zs.take k0).map Int.toNat, by rw [hll], .inr ⟨b, o, rfl, hblt, fun j n hj => ?_⟩, ?_, ?_, ?_⟩
    ·rw [List.getElem?_map] at hj
     cases hz : (zs.take k0)[j]? with
     | none => rw [hz] at hj; cases hj
     | some z =>
       rw [hz] at hj
       injection hj with hj
       obtain ⟨hjl, hjz⟩ := List.getElem?_eq_some_iff.1 hz
       have hj2 : j < zs.length := by rw [List.length_take] at hjl; omega
       have hz2 : zs[j] = z := by rw [← hjz, List.getElem_take]
       have h4 := hc j hj2
       rw [add_plain, List.getD_eq_getElem?_getD, List.getElem?_eq_getElem hj2, Option.getD_some, hz2] at h4
       rw [h4, ← hj, Int.toNat_of_nonneg (hpo z (by rw [← hz2]; exact List.getElem_mem hj2)).1]
    ·intro p hp
     rw [hx2] at hp
     unfold MemPlace.row at hp
     obtain ⟨i, _, rfl⟩ := List.mem_map.1 hp
     exact hblt
    ·rw [hll, hx1]
     have := bulk_len (H := H) (lits .u16 (zs.take k0))
     have h5 : (lits (H := H) .u16 (zs.take k0)).length = k0 := by unfold lits; rw [List.length_map, List.length_take]; omega
     rw [h5] at this
     simp only [Rows.uptoBulk]
     omega
    ·intro m hm2
     obtain ⟨z, hz, rfl⟩ := List.mem_map.1 hm2
     have := hpo z (List.mem_of_mem_take hz)
     omega
 | _ => simp [Cell.okWide, Cell.ok, Tryz.underlying77] at hok2
end
theorem rec_u16s : Tryz.prog.readableRec 77 = true := by kernel_rfl
theorem row_u16s : 77 < Tryz.prog.types.size := of_decide_eq_true (by kernel_rfl)
end Ad
end Go.Proofs.YtmmjfofdnpafkaaGreatDoor
