/- Contract of the reference's Lower (dialtoneref02): a text's bytes are laid in a new row, changed there, and read back. -/
import Derived.Test.YtmmjfofdnpafkaaGreatDoorM8
import Derived.Test.YtmmjfofdnpafkaaGreatDoorM2
import Derived.StillTailTactics
import Derived.Sort.CutIn
import Derived.Deep.RegionHeldLaw
import Derived.Deep.AppendLies
import Derived.Test.YtmmjfofdnpafkaaGreatDoorM1
import Derived.Laws.IdiomStrings
namespace Go.Proofs.YtmmjfofdnpafkaaGreatDoor
namespace Ad
open Go.RowKit Lx

/-- The byte at i of a text of which the first j bytes are lowered. -/
def lwAt (s : ByteArray) (j i : Nat) (h : i < s.size) : Int := if i < j then (lowB s[i]).toNat else s[i].toNat
theorem lwAt_zero (s : ByteArray) (i : Nat) (h : i < s.size) : lwAt s 0 i h = s[i].toNat := by unfold lwAt; rw [if_neg (by omega)]
theorem lwAt_at (s : ByteArray) (i : Nat) (h : i < s.size) : lwAt s i i h = s[i].toNat := by unfold lwAt; rw [if_neg (by omega)]
theorem lwAt_next (s : ByteArray) (j i : Nat) (h : i < s.size) (hn : i ≠ j) : lwAt s (j + 1) i h = lwAt s j i h := by
  unfold lwAt
  by_cases hl : i < j
  · rw [if_pos hl, if_pos (by omega)]
  · rw [if_neg hl, if_neg (by omega)]
theorem lwAt_new (s : ByteArray) (j : Nat) (h : j < s.size) : lwAt s (j + 1) j h = (lowB s[j]).toNat := by unfold lwAt; rw [if_pos (by omega)]
theorem lwAt_end (s : ByteArray) (j i : Nat) (h : i < s.size) (hj : s.size ≤ j) : lwAt s j i h = (lowB s[i]).toNat := by unfold lwAt; rw [if_pos (by omega)]
/-- The row in which the bytes lie. -/
structure LwR (s : ByteArray) (B j : Nat) (w : World) : Prop where
  cell : ∀ i (h : i < s.size), w.cell? ⟨B, i, none⟩ = some (.int .u8 (lwAt s j i h))
  soft : ∀ i, i < s.size → w.frozen? ⟨B, i, none⟩ = false
theorem LwR.skip {s : ByteArray} {B j : Nat} {w : World} (h : LwR s B j w) (hj : j < s.size) (he : (lowB s[j]).toNat = s[j].toNat) : LwR s B (j + 1) w := by
  refine ⟨fun i hi => ?_, h.soft⟩
  by_cases hij : i = j
  · subst hij
    rw [lwAt_new, he, ← lwAt_at s i hi]; exact h.cell i hi
  · rw [lwAt_next s j i hi hij]; exact h.cell i hi
theorem LwR.put {s : ByteArray} {B j : Nat} {w : World} (h : LwR s B j w) (hj : j < s.size) (x : Int) (he : ((lowB s[j]).toNat : Int) = x) : LwR s B (j + 1) (w.setCell ⟨B, j, none⟩ (.int .u8 x)) := by
  refine ⟨fun i hi => ?_, fun i hi => by rw [World.frozen?_setCell]; exact h.soft i hi⟩
  by_cases hij : i = j
  · subst hij
    rw [lwAt_new, he]; exact World.cell?_setCell_same _ _ _ (h.cell i hi)
  · rw [lwAt_next s j i hi hij]; exact (World.cell?_setCell_other _ _ _ _ (by intro e; injection e with _ e2; exact hij e2.symm)).trans (h.cell i hi)
theorem LwR.start (s : ByteArray) (cap : Nat) (w : World) : LwR s w.heap.size 0 (w.alloc (.cells (bytesRow s cap) 5 ((bytesRow s cap).size, (bytesRow s cap).size + 1))) := by
  have hsz : ∀ i, i < s.size → i < (bytesRow s cap).size := fun i hi => by unfold bytesRow; simp; omega
  refine ⟨fun i hi => ?_, fun i hi => ?_⟩
  · rw [World.cell?_alloc_mark, bytesRow_at s cap i hi, lwAt_zero]; rfl
  · rw [World.frozen?_alloc_mark, decide_eq_false (by have := hsz i hi; omega)]; rfl
theorem LwR.back {s : ByteArray} {B j cap : Nat} {w : World} (h : LwR s B j w) (hj : s.size ≤ j) : (convert 118 9 (.slice (some ⟨B, 0, none⟩) s.size cap)).run Tryz.prog w = .ok (.string ⟨(lowL s.data.toList).toArray⟩) w := by
  have hl : s.size = (lowL s.data.toList).length := by rw [lowL_len, len_list]
  have := run_convert_bytes_back (P := Tryz.prog) w 118 9 5 ⟨B, 0, none⟩ cap (lowL s.data.toList) Tryz.underlying118 Tryz.underlying5 Tryz.underlying9 (fun i hi => by
    have hi2 : i < s.size := by omega
    have hadd : (⟨B, 0, none⟩ : Addr).add i = ⟨B, i, none⟩ := by unfold Addr.add; split <;> simp_all
    rw [hadd, h.cell i hi2, lwAt_end s j i hi2 hj]
    simp [lowL]
    rfl)
  rw [← hl] at this
  exact this
/-- What a group's call answers. -/
def GpP (l : List UInt8) (w : World) (e : Ending) (w' : World) : Prop := e = .returned (.tuple #[.string ⟨(if grpB l then grpN l else []).toArray⟩, .bool (grpB l)]) ∧ Below w.heap.size w w'
theorem GpP.no {l : List UInt8} {w w' : World} (h : grpB l = false) (hB : Below w.heap.size w w') : GpP l w (.returned (.tuple #[.string ⟨#[]⟩, .bool false])) w' := by
  unfold GpP; rw [h]; exact ⟨rfl, hB⟩
end Ad
end Go.Proofs.YtmmjfofdnpafkaaGreatDoor
