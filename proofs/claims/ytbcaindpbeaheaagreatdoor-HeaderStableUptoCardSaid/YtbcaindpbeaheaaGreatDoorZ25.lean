/- Texts of one set of library modules: LxU, LxSame. -/
import Derived.Test.YtbcaindpbeaheaaGreatDoorZ24
import Derived.Test.YtbcaindpbeaheaaGreatDoorZ6
import Derived.Test.YtbcaindpbeaheaaGreatDoorZ5
import Derived.RangeFuncNested
import Derived.RangeFuncBound
import Derived.RangeFuncCalls
import Derived.RangeFuncLeaves
import Derived.RangeFuncBox
import Derived.Shelf.Abstract
import Derived.Shelf.RegionOpen
import Derived.OwnWalkIn
import Derived.TacticsInMore
import Derived.LoopNIn
import Derived.LoopIn
import Derived.Lib.Strings
namespace Go.Proofs.YtbcaindpbeaheaaGreatDoor
namespace Lx
open Go.RowKit Go.Shelf
attribute [local go_sem] Oper.semAt_some
def KpU (n₀ Bs : Nat) (A B : World) : Prop := Below n₀ A B ∧ B.heap[Bs]? = A.heap[Bs]?
theorem KpU.refl (n₀ Bs : Nat) (A : World) : KpU n₀ Bs A A := ⟨Below.refl _ _, rfl⟩
theorem KpU.trans {n₀ Bs : Nat} {A B C : World} (h : KpU n₀ Bs A B) (k : KpU n₀ Bs B C) : KpU n₀ Bs A C := ⟨h.1.trans k.1, k.2.trans h.2⟩
theorem KpU.put {n₀ Bs : Nat} {w : World} (hn : n₀ ≤ w.heap.size) (hb : Bs < w.heap.size) (W : World) (l : Nat) (o o' : Obj) (hl : w.heap.size ≤ l) (h : W.heap[l]? = some o) (hc : o.isCells = false) (hw : o.isWalk = false) : KpU n₀ Bs W (W.putObj l o') :=
 ⟨belowK_b hn W l o o' hl h hc hw, World.putObj_heap_other (by omega)⟩
abbrev PL := { x : Nat × List UInt8 // x.1 ≤ 4194304 ∧ x.2.length ≤ 2097152 }
def pcells (ls : List (Nat × List UInt8)) : List Value := ls.flatMap fun p => [.int .i64 (p.1 : Int), .string ⟨p.2.toArray⟩]
theorem pcells_length (ls : List (Nat × List UInt8)) : (pcells ls).length = ls.length * 2 := by
 induction ls with
 | nil => rfl
 | cons p t ih => simp [pcells] at ih ⊢; omega
theorem pcells_append (a b : List (Nat × List UInt8)) : pcells (a ++ b) = pcells a ++ pcells b := by simp [pcells]
end Lx
end Go.Proofs.YtbcaindpbeaheaaGreatDoor
namespace Go.Proofs.YtbcaindpbeaheaaGreatDoor
namespace Lx
open Go.RowKit
def PcIn (w : World) (v : Value) (ls : List (Nat × List UInt8)) : Prop :=
 ∃ a c, v = .slice a ls.length c ∧ (ls ≠ [] → ∃ g, a = some ⟨g, 0, none⟩ ∧ ∀ j u, (pcells ls)[j]? = some u → w.cell? ⟨g, j, none⟩ = some u)
theorem pcells_pair (ls : List (Nat × List UInt8)) : ∀ (j : Nat) (x : Nat × List UInt8), ls[j]? = some x → (pcells ls)[j * 2]? = some (.int .i64 (x.1 : Int)) ∧ (pcells ls)[j * 2 + 1]? = some (.string ⟨x.2.toArray⟩) := by
 induction ls with
 | nil => intro j x h; simp at h
 | cons p t ih =>
   intro j x h
   have e : pcells (p :: t) = .int .i64 (p.1 : Int) :: .string ⟨p.2.toArray⟩ :: pcells t := by simp [pcells]
   cases j with
   | zero => simp at h; subst h; rw [e]; simp
   | succ j =>
     have h' := ih j x (by simpa using h)
     rw [e]
     have e2 : (j + 1) * 2 = j * 2 + 1 + 1 := by omega
     rw [e2]
     simpa using h'
theorem PcIn.of_row {w : World} {B : Nat} {v : Value} {ls : List (Nat × List UInt8)} (h : w.ownsRow B 70 2 v ls.length (pcells ls)) : PcIn w v ls := by
 rcases h.2 with ⟨rfl, h0⟩ | ⟨g, cap, cur, rfl, hB, hg, hr⟩
 ·refine ⟨none, 0, by rw [h0], fun hne => absurd (List.eq_nil_of_length_eq_zero h0) hne⟩
 ·refine ⟨_, _, rfl, fun _ => ⟨g, rfl, fun j u hu => ?_⟩⟩
  have hj : j < ls.length * 2 := by
   have := (List.getElem?_eq_some_iff.1 hu).1
   rw [pcells_length] at this; exact this
  rw [h.cellAt j hj]; exact hu
theorem PcIn.lt {w : World} {a : Option Addr} {n c : Nat} {ls : List (Nat × List UInt8)} (h : PcIn w (.slice a n c) ls) : n = ls.length := by
 obtain ⟨a', c', e, _⟩ := h
 injection e
theorem PcIn.at {w : World} {a : Option Addr} {n c : Nat} {ls : List (Nat × List UInt8)} (h : PcIn w (.slice a n c) ls) (k : Nat) (hk : k < ls.length) :
   ∃ g, a = some ⟨g, 0, none⟩ ∧ w.cell? ⟨g, k * 2, none⟩ = some (.int .i64 (ls[k].1 : Int)) ∧ w.cell? ⟨g, k * 2 + 1, none⟩ = some (.string ⟨ls[k].2.toArray⟩) := by
 obtain ⟨a', c', e, hc⟩ := h
 injection e with e1 e2 e3
 obtain ⟨g, hg, hall⟩ := hc (by intro hn; subst hn; simp at hk)
 have := pcells_pair ls k ls[k] (by simp [hk])
 exact ⟨g, e1.trans hg, hall _ _ this.1, hall _ _ this.2⟩
theorem cell_lt' {w : World} {a : Addr} {v : Value} (h : w.cell? a = some v) : a.block < w.heap.size := by
 rcases Nat.lt_or_ge a.block w.heap.size with h' | h'
 ·exact h'
 ·simp [World.cell?, Array.getElem?_eq_none h'] at h
theorem PcIn.below {w w' : World} {v : Value} {ls : List (Nat × List UInt8)} (h : PcIn w v ls) (hb : Below w.heap.size w w') : PcIn w' v ls := by
 obtain ⟨a, c, rfl, hc⟩ := h
 refine ⟨a, c, rfl, fun hne => ?_⟩
 obtain ⟨g, hg, hall⟩ := hc hne
 exact ⟨g, hg, fun j u hu => (hb.cell (p := ⟨g, j, none⟩) (cell_lt' (hall j u hu))).trans (hall j u hu)⟩
theorem PcIn.new (w : World) (ls : List (Nat × List UInt8)) (cs : Array Value) (hcs : cs.toList = pcells ls) : PcIn (w.alloc (.cells cs 70)) (.slice (some ⟨w.heap.size, 0, none⟩) ls.length ls.length) ls := by
 refine ⟨_, _, rfl, fun _ => ⟨_, rfl, fun j u hu => ?_⟩⟩
 have hb : (w.alloc (.cells cs 70)).heap[w.heap.size]? = some (.cells cs 70 (0, 0)) := World.alloc_heap_new w _
 rw [Lib.cell_of_heap hb, ← Array.getElem?_toList, hcs]
 exact hu
end Lx
end Go.Proofs.YtbcaindpbeaheaaGreatDoor
