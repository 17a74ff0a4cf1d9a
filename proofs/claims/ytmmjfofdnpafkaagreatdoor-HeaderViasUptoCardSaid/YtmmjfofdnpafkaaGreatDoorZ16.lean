/- Texts of one set of library modules: AdAr. -/
import Derived.Test.YtmmjfofdnpafkaaGreatDoorZ15
import Derived.Test.YtmmjfofdnpafkaaGreatDoorZ10
import Derived.Deep.Slices
import Derived.Deep.Fields
import Derived.ChangeSame
import Derived.WideKeyArgs
namespace Go.Proofs.YtmmjfofdnpafkaaGreatDoor
namespace Ad
open Go.RowKit Go.ChangeShapes Go.WideShapes Go.Deep Lx
theorem bulk_pos {H : Type} (d : DataW H) : 1 ≤ Rows.uptoBulk d := by
 cases d with
 | lit l => cases l <;> simp [Rows.uptoBulk]
 | _ => simp [Rows.uptoBulk]
theorem bulk_mem {H : Type} : ∀ (xs : List (DataW H)) (d : DataW H), d ∈ xs → Rows.uptoBulk d ≤ Rows.uptoBulkAll xs
 | [], d, h => by cases h
 | x :: r, d, h => by
   rw [Rows.uptoBulkAll]
   rcases List.mem_cons.1 h with rfl | h
   ·omega
   ·have := bulk_mem r d h; omega
theorem bulk_len {H : Type} : ∀ (xs : List (DataW H)), xs.length ≤ Rows.uptoBulkAll xs
 | [] => by simp
 | x :: r => by
   rw [Rows.uptoBulkAll]
   have := bulk_pos x
   have := bulk_len r
   simp; omega
theorem pcl_get : ∀ (l : List Prm) (j : Nat) (u : Value), (pcl l)[j]? = some u → ∃ i p k, l[i]? = some p ∧ j = i * 3 + k ∧ k < 3 ∧ (pc1 p)[k]? = some u
 | [], j, u, h => by simp [pcl] at h
 | p :: t, j, u, h => by
   have e : pcl (p :: t) = pc1 p ++ pcl t := rfl
   rw [e] at h
   by_cases hj : j < 3
   ·rw [List.getElem?_append_left (by simpa [pc1] using hj)] at h
    exact ⟨0, p, j, rfl, by omega, hj, h⟩
   ·rw [List.getElem?_append_right (by simp [pc1]; omega)] at h
    have hl : (pc1 p).length = 3 := rfl
    rw [hl] at h
    obtain ⟨i, q, k, h1, h2, h3, h4⟩ := pcl_get t (j - 3) u h
    exact ⟨i + 1, q, k, by simpa using h1, by omega, h3, h4⟩
theorem add_plain (b o n : Nat) : (⟨b, o, none⟩ : Addr).add n = ⟨b, o + n, none⟩ := by
 unfold Addr.add
 split
 ·rename_i h; rw [h]; rfl
 ·rfl
section
variable {H : Type} {enc : TypeId × Value → H} {W : World} {base : Nat}
theorem txt_of (s : ByteArray) : s = Txt s.data.toList := by cases s; simp [Txt]
structure SzM (m : Nat) (u : Uri) : Prop where
 scheme : u.scheme.length ≤ m
 user : u.user.length ≤ m
 host : u.host.length ≤ m
 params : u.params.length ≤ m
 heads : u.heads.length ≤ m
 ps : SzL m u.params
 hs : SzL m u.heads
theorem SzL.up {m m' : Nat} {l : List Prm} (h : SzL m l) (hm : m ≤ m') : SzL m' l := fun p hp => by have := h p hp; omega
theorem SzM.up {m m' : Nat} {u : Uri} (h : SzM m u) (hm : m ≤ m') : SzM m' u :=
 ⟨Nat.le_trans h.scheme hm, Nat.le_trans h.user hm, Nat.le_trans h.host hm, Nat.le_trans h.params hm, Nat.le_trans h.heads hm, h.ps.up hm, h.hs.up hm⟩
theorem SzM.szU {m : Nat} {u : Uri} (h : SzM m u) (hm : m ≤ 1048576) : SzU u ∧ u.host.length ≤ 1048576 := by
 have h1 := h.scheme; have h2 := h.user; have h3 := h.host; have h4 := h.params; have h5 := h.heads
 exact ⟨⟨by omega, by omega, by omega, by omega, by omega, fun p hp => (by have := h.ps p hp; omega), fun p hp => (by have := h.hs p hp; omega)⟩, by omega⟩
theorem shut_arg {t : TypeId} (hl : laidOutB Tryz.prog = true) (hr : Tryz.prog.readableRec t = true) (hrow : t < Tryz.prog.types.size) {W' : World} {v : Value} {d : DataW H} {ps : List MemPlace}
   (h : DataW.Trod enc Tryz.prog W 0 (fun _ => true) true t v d ps) (hp : ∀ p ∈ ps, p.block < W.heap.size) (hK : Kp [] W W') : DataW.Trod enc Tryz.prog W' 0 (fun b => decide (b < W.heap.size)) true t v d ps :=
 Go.WideElems.Trod_stays hl hr hrow h (fun p hm => by
  have hb := hp p hm
  cases p with
  | cell b off => exact hK.cell (p := ⟨b, off, none⟩) hb (by simp)
  | map b => exact hK.block b hb (by simp)) (fun p hm => decide_eq_true (hp p hm))
end
theorem laid_out : laidOutB Tryz.prog = true := by kernel_rfl
end Ad
end Go.Proofs.YtmmjfofdnpafkaaGreatDoor
