/- Contract of turned (dialtonelaw02): the parameters in the opposite order, with names in upper case. Names have at most 2^21 bytes. -/
import Derived.Test.YtmmjfofdnpafkaaGreatDoorAdSt
import Derived.Test.YtmmjfofdnpafkaaGreatDoorAdRg
namespace Go.Proofs.YtmmjfofdnpafkaaGreatDoor
namespace Ad
open Go.RowKit Lx

theorem upL_len (l : List UInt8) : (upL l).length = l.length := by simp [upL]
/-- The byte at i of a text of which the first j bytes are in upper case. -/
def upAt (s : ByteArray) (j i : Nat) (h : i < s.size) : Int := if i < j then (upB s[i]).toNat else s[i].toNat
theorem upAt_zero (s : ByteArray) (i : Nat) (h : i < s.size) : upAt s 0 i h = s[i].toNat := by unfold upAt; rw [if_neg (by omega)]
theorem upAt_at (s : ByteArray) (i : Nat) (h : i < s.size) : upAt s i i h = s[i].toNat := by unfold upAt; rw [if_neg (by omega)]
theorem upAt_next (s : ByteArray) (j i : Nat) (h : i < s.size) (hn : i ≠ j) : upAt s (j + 1) i h = upAt s j i h := by
  unfold upAt
  by_cases hl : i < j
  · rw [if_pos hl, if_pos (by omega)]
  · rw [if_neg hl, if_neg (by omega)]
theorem upAt_new (s : ByteArray) (j : Nat) (h : j < s.size) : upAt s (j + 1) j h = (upB s[j]).toNat := by unfold upAt; rw [if_pos (by omega)]
theorem upAt_end (s : ByteArray) (j i : Nat) (h : i < s.size) (hj : s.size ≤ j) : upAt s j i h = (upB s[i]).toNat := by unfold upAt; rw [if_pos (by omega)]
/-- The row in which the bytes lie. -/
structure UpR (s : ByteArray) (B j : Nat) (w : World) : Prop where
  cell : ∀ i (h : i < s.size), w.cell? ⟨B, i, none⟩ = some (.int .u8 (upAt s j i h))
  soft : ∀ i, i < s.size → w.frozen? ⟨B, i, none⟩ = false
theorem UpR.skip {s : ByteArray} {B j : Nat} {w : World} (h : UpR s B j w) (hj : j < s.size) (he : (upB s[j]).toNat = s[j].toNat) : UpR s B (j + 1) w := by
  refine ⟨fun i hi => ?_, h.soft⟩
  by_cases hij : i = j
  · subst hij
    rw [upAt_new, he, ← upAt_at s i hi]; exact h.cell i hi
  · rw [upAt_next s j i hi hij]; exact h.cell i hi
theorem UpR.put {s : ByteArray} {B j : Nat} {w : World} (h : UpR s B j w) (hj : j < s.size) (x : Int) (he : ((upB s[j]).toNat : Int) = x) : UpR s B (j + 1) (w.setCell ⟨B, j, none⟩ (.int .u8 x)) := by
  refine ⟨fun i hi => ?_, fun i hi => by rw [World.frozen?_setCell]; exact h.soft i hi⟩
  by_cases hij : i = j
  · subst hij
    rw [upAt_new, he]; exact World.cell?_setCell_same _ _ _ (h.cell i hi)
  · rw [upAt_next s j i hi hij]; exact (World.cell?_setCell_other _ _ _ _ (by intro e; injection e with _ e2; exact hij e2.symm)).trans (h.cell i hi)
theorem UpR.start (s : ByteArray) (cap : Nat) (w : World) : UpR s w.heap.size 0 (w.alloc (.cells (bytesRow s cap) 5 ((bytesRow s cap).size, (bytesRow s cap).size + 1))) := by
  have hsz : ∀ i, i < s.size → i < (bytesRow s cap).size := fun i hi => by unfold bytesRow; simp; omega
  refine ⟨fun i hi => ?_, fun i hi => ?_⟩
  · rw [World.cell?_alloc_mark, bytesRow_at s cap i hi, upAt_zero]; rfl
  · rw [World.frozen?_alloc_mark, decide_eq_false (by have := hsz i hi; omega)]; rfl
theorem UpR.back {s : ByteArray} {B j cap : Nat} {w : World} (h : UpR s B j w) (hj : s.size ≤ j) : (convert 118 9 (.slice (some ⟨B, 0, none⟩) s.size cap)).run Tryz.prog w = .ok (.string ⟨(upL s.data.toList).toArray⟩) w := by
  have hl : s.size = (upL s.data.toList).length := by rw [upL_len, len_list]
  have := run_convert_bytes_back (P := Tryz.prog) w 118 9 5 ⟨B, 0, none⟩ cap (upL s.data.toList) Tryz.underlying118 Tryz.underlying5 Tryz.underlying9 (fun i hi => by
    have hi2 : i < s.size := by omega
    have hadd : (⟨B, 0, none⟩ : Addr).add i = ⟨B, i, none⟩ := by unfold Addr.add; split <;> simp_all
    rw [hadd, h.cell i hi2, upAt_end s j i hi2 hj]
    simp [upL]
    rfl)
  rw [← hl] at this
  exact this

end Ad
end Go.Proofs.YtmmjfofdnpafkaaGreatDoor
