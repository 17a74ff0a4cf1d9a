/- Texts of one set of library modules: LxUBody. -/
import Derived.Test.YtbcaindpbeaheaaGreatDoorZ26
import Derived.Sort.CutIn
namespace Go.Proofs.YtbcaindpbeaheaaGreatDoor
namespace Lx
open Go.RowKit Go.Shelf
attribute [local go_sem] Oper.semAt_some
theorem setLast_length (ls : List (Nat × List UInt8)) (tx : List UInt8) : (setLast ls tx).length = ls.length := by
 unfold setLast
 cases h : ls.getLast? with
 | none => rw [List.getLast?_eq_none_iff] at h; simp [h]
 | some p =>
   have : ls ≠ [] := by intro e; subst e; simp at h
   have := List.length_pos_iff.2 this
   simp; omega
theorem endL_len (s : USt) : (endL s).ls.length = s.ls.length ∧ (endL s).tx.length ≤ s.tx.length := by
 unfold endL; split
 ·exact ⟨rfl, Nat.le_refl _⟩
 ·exact ⟨setLast_length _ _, by simp⟩
theorem trimS_le (l cs : List UInt8) : (Lib.trimS l cs).length ≤ l.length := by
 unfold Lib.trimS Lib.trimLeftS Lib.trimRightS
 have h1 := (List.dropWhile_sublist (l := (List.dropWhile (fun x => cs.contains x) l.reverse).reverse) (cs.contains ·)).length_le
 have h2 := (List.dropWhile_sublist (l := l.reverse) (cs.contains ·)).length_le
 simp at h1 h2 ⊢
 omega
theorem addL_len (s : USt) (x : Nat × List UInt8) : (addL s x).ls.length ≤ s.ls.length + 1 ∧ (addL s x).tx.length ≤ s.tx.length := by
 unfold addL
 have := endL_len s
 split
 ·simp; omega
 ·simp
theorem join_len (tx p : List UInt8) : (join tx p).length ≤ tx.length + 1 + p.length := by
 unfold join; split <;> simp <;> omega
theorem stepU_len (s : USt) (x : Nat × List UInt8) : (stepU s x).ls.length ≤ s.ls.length + 1 ∧ (stepU s x).tx.length ≤ s.tx.length + 1 + x.2.length := by
 unfold stepU
 have h1 := addL_len s x;have h2 := join_len (addL s x).tx (Lib.trimS x.2 blk);have h3 := trimS_le x.2 blk
 dsimp only at *
 omega
theorem infoPiece : (Tryz.prog.info? 70).map (fun i => (i.zero, i.size, i.bytes)) = some (some (.agg #[.int .i64 0, .string .empty]), 2, 24) := by kernel_rfl
theorem unf_ok (l : List UInt8) (h1 : firstBlank l = false) (h2 : stray l 0 = l.length) (h3 : (!l.isEmpty && !Lib.hasSuffix l crlf) = false) : unfL l = (endL (foldU (physL l 0))).ls ∧ unfAt l = 0 ∧ unfE l = 0 := by
 unfold unfL unfAt unfE
 rw [h1, h2, h3]
 simp
theorem keep_of_below {W W' : World} (h : Below W.heap.size W W') (ts : List TypeId) : KeepTy ts W W' := ⟨h.size, fun k _ hk _ => (h.block k (lt_of_some hk)).trans hk⟩
theorem cell_two_new (w : World) (x y : Value) (t : TypeId) : ∀ j u, [x, y][j]? = some u → (w.alloc (.cells #[x, y] t)).cell? ((⟨w.heap.size, 0, none⟩ : Addr).add j) = some u := by
 intro j u hj
 have hb : (w.alloc (.cells #[x, y] t)).heap[w.heap.size]? = some (.cells #[x, y] t (0, 0)) := World.alloc_heap_new w _
 match j, hj with
 | 0, hj => simp at hj; subst hj; exact (Lib.cell_of_heap hb _).trans rfl
 | 1, hj => simp at hj; subst hj; exact (Lib.cell_of_heap hb _).trans rfl
end Lx
end Go.Proofs.YtbcaindpbeaheaaGreatDoor
