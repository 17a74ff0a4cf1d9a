/- Words for memory: what is kept but for some blocks; a block known whole; a slice that reads as a list; the cursor. No program in them but type numbers. -/
import Derived.Test.YtakanjadcnmciaaDoorAdSpec
import Derived.Test.YtakanjadcnmciaaDoorLxKeep
import Derived.Below
import Derived.Laws.OwnMore
import Derived.Laws.Rows
import Derived.Deep.AppendLies
import Derived.Deep.Draws
import Derived.WalkKit
import Derived.Lib.Hide
namespace Go.Proofs.YtakanjadcnmciaaDoor
namespace Ad
open Go.RowKit Lx

/-- All blocks but those of X are as they were; there may be more. -/
structure Kp (X : List Nat) (w w' : World) : Prop where
  os : w'.os = w.os
  tape : w'.tape = w.tape
  output : w'.output = w.output
  size : w.heap.size ≤ w'.heap.size
  block : ∀ k, k < w.heap.size → k ∉ X → w'.heap[k]? = w.heap[k]?
section
variable {X Y : List Nat} {a b c w w' : World}
theorem Kp.refl (X : List Nat) (w : World) : Kp X w w := ⟨rfl, rfl, rfl, Nat.le_refl _, fun _ _ _ => rfl⟩
theorem Kp.to_ (h : Kp X a b) (k : Kp Y b c) (hY : ∀ y ∈ Y, y ∈ X ∨ a.heap.size ≤ y) : Kp X a c :=
  ⟨k.os.trans h.os, k.tape.trans h.tape, k.output.trans h.output, Nat.le_trans h.size k.size, fun i hi hx =>
    (k.block i (Nat.lt_of_lt_of_le hi h.size) (fun hy => by rcases hY i hy with h1 | h1; exact hx h1; omega)).trans (h.block i hi hx)⟩
theorem Kp.trans (h : Kp X a b) (k : Kp X b c) : Kp X a c := h.to_ k (fun _ hy => .inl hy)
theorem Kp.nil_to (h : Kp X a b) (k : Kp [] b c) : Kp X a c := h.to_ k (fun _ hy => by cases hy)
theorem Kp.mono (h : Kp X a b) (hY : ∀ y ∈ X, y ∈ Y) : Kp Y a b := ⟨h.os, h.tape, h.output, h.size, fun i hi hx => h.block i hi (fun hm => hx (hY i hm))⟩
theorem Kp.of_nil (h : Kp [] a b) : Kp Y a b := h.mono (fun _ hy => by cases hy)
theorem Kp.drew (h : Kp X a w) : Kp X a w.drew := ⟨h.os, h.tape, h.output, h.size, h.block⟩
theorem Kp.drewN (h : Kp X a w) (n : Nat) : Kp X a (w.drewN n) := ⟨h.os, h.tape, h.output, h.size, h.block⟩
theorem Kp.alloc (h : Kp X a w) (o : Obj) : Kp X a (w.alloc o) :=
  h.trans ⟨rfl, rfl, rfl, by simp, fun k hk _ => Below.heap_alloc w o k hk⟩
theorem Kp.setCell (h : Kp X a w) {p : Addr} (hp : p.block ∈ X ∨ a.heap.size ≤ p.block) (u : Value) : Kp X a (w.setCell p u) :=
  ⟨h.os, h.tape, h.output, by simpa [World.setCell] using h.size, fun i hi hx => (Below.heap_setCell w p u i (by
    rintro rfl
    rcases hp with hp | hp
    · exact hx hp
    · omega)).trans (h.block i hi hx)⟩
theorem Kp.below (h : Kp X a b) (k : Below b.heap.size b c) : Kp X a c :=
  ⟨k.os.trans h.os, k.tape.trans h.tape, k.output.trans h.output, Nat.le_trans h.size k.size, fun i hi hx => (k.block i (Nat.lt_of_lt_of_le hi h.size)).trans (h.block i hi hx)⟩
theorem Kp.belowB {B : Nat} (h : Kp X a b) (k : Below B b c) (hB : a.heap.size ≤ B) : Kp X a c :=
  ⟨k.os.trans h.os, k.tape.trans h.tape, k.output.trans h.output, Nat.le_trans h.size k.size, fun i hi hx => (k.block i (Nat.lt_of_lt_of_le hi hB)).trans (h.block i hi hx)⟩
theorem Kp.grown {row : Option Nat} (h : Kp X a b) (k : b.grownBy c row) (hr : ∀ g, row = some g → g ∈ X ∨ a.heap.size ≤ g) : Kp X a c :=
  ⟨k.os.trans h.os, k.tape.trans h.tape, k.output.trans h.output, Nat.le_trans h.size k.size, fun i hi hx => (k.block i (Nat.lt_of_lt_of_le hi h.size) (fun e => by
    rcases hr i e.symm with h1 | h1
    · exact hx h1
    · omega)).trans (h.block i hi hx)⟩
theorem Kp.kb {B : Nat} (h : Kp X a b) (k : Below B b c) (hB : a.heap.size ≤ B) : Kp X a c := h.belowB k hB
theorem Kp.toBelow {B : Nat} (h : Kp X a b) (hB : B ≤ a.heap.size) (hX : ∀ x ∈ X, B ≤ x) : Below B a b :=
  ⟨h.os, h.tape, h.output, h.size, fun k hk => h.block k (by omega) (fun hm => by have := hX k hm; omega)⟩
theorem Kp.nilBelow (h : Kp [] a b) : Below a.heap.size a b := h.toBelow (Nat.le_refl _) (fun _ hx => by cases hx)
theorem Kp.cell (h : Kp X w w') {p : Addr} (hp : p.block < w.heap.size) (hx : p.block ∉ X) : w'.cell? p = w.cell? p := World.cell?_of_block (w := w) (h.block p.block hp hx)
end

/-- A block that is known whole. -/
def Blk (w : World) (g : Nat) (t : TypeId) (cs : Array Value) : Prop := w.heap[g]? = some (.cells cs t (0, 0))
section
variable {X : List Nat} {w w' : World} {g : Nat} {t : TypeId} {cs : Array Value}
theorem Blk.lt (h : Blk w g t cs) : g < w.heap.size := lt_of_some h
theorem Blk.cell (h : Blk w g t cs) (i : Nat) : w.cell? ⟨g, i, none⟩ = cs[i]? := cell_of_row w g i cs t (0, 0) h
theorem Blk.frozen (h : Blk w g t cs) (i : Nat) : w.frozen? ⟨g, i, none⟩ = false := by
  unfold Blk at h
  simp [World.frozen?, h]
theorem Blk.new (w : World) (t : TypeId) (cs : Array Value) : Blk (w.alloc (.cells cs t)) w.heap.size t cs := World.alloc_heap_new w _
theorem Blk.drew (h : Blk w g t cs) : Blk w.drew g t cs := h
theorem Blk.drewN (h : Blk w g t cs) (n : Nat) : Blk (w.drewN n) g t cs := h
theorem Blk.alloc (h : Blk w g t cs) (o : Obj) : Blk (w.alloc o) g t cs := (Below.heap_alloc w o g h.lt).trans h
theorem Blk.set_ (h : Blk w g t cs) (i : Nat) (u : Value) : Blk (w.setCell ⟨g, i, none⟩ u) g t (cs.setIfInBounds i u) := by
  unfold Blk at h ⊢
  simp [World.setCell, Array.getElem?_modify, h]
theorem Blk.far (h : Blk w g t cs) {p : Addr} (hp : g ≠ p.block) (u : Value) : Blk (w.setCell p u) g t cs := (Below.heap_setCell w p u g hp).trans h
theorem Blk.kp (h : Blk w g t cs) (k : Kp X w w') (hg : g ∉ X) : Blk w' g t cs := (k.block g h.lt hg).trans h
theorem Blk.below {B : Nat} (h : Blk w g t cs) (k : Below B w w') (hg : g < B) : Blk w' g t cs := (k.block g hg).trans h
end

section
variable {X : List Nat} {b k : Nat} {s : ByteArray} {w w' : World}
end

/-! ### slices that read as lists -/
theorem block_of_add (a : Addr) (n : Nat) : (a.add n).block = a.block := by unfold Addr.add; split <;> rfl
theorem add_of_add (a : Addr) (i j : Nat) : (a.add i).add j = a.add (i + j) := by
  unfold Addr.add
  by_cases hi : i = 0 <;> by_cases hj : j = 0 <;> simp [hi, hj, Nat.add_assoc]
/-- The cells of parameters. -/
def pc1 (p : Prm) : List Value := [.string ⟨p.1.toArray⟩, .string ⟨p.2.1.toArray⟩, .bool p.2.2]
def pcl (l : List Prm) : List Value := l.flatMap pc1
theorem pcl_len (l : List Prm) : (pcl l).length = l.length * 3 := by
  induction l with
  | nil => rfl
  | cons p t ih => have : pcl (p :: t) = pc1 p ++ pcl t := rfl
                   rw [this, List.length_append, ih]; simp [pc1]; omega
theorem pcl_app (a b : List Prm) : pcl (a ++ b) = pcl a ++ pcl b := by simp [pcl]
theorem pcl_at (l : List Prm) : ∀ (j : Nat) (p : Prm), l[j]? = some p → ∀ i v, (pc1 p)[i]? = some v → (pcl l)[j * 3 + i]? = some v := by
  induction l with
  | nil => intro j p h; simp at h
  | cons q t ih =>
    intro j p h i v hv
    have e : pcl (q :: t) = pc1 q ++ pcl t := rfl
    have hi : i < 3 := by have := (List.getElem?_eq_some_iff.1 hv).1; simpa [pc1] using this
    cases j with
    | zero =>
      simp at h; subst h
      rw [e, List.getElem?_append_left (by simp [pc1]; omega)]; simpa using hv
    | succ j =>
      rw [e, List.getElem?_append_right (by simp [pc1]; omega)]
      have : (j + 1) * 3 + i - (pc1 q).length = j * 3 + i := by simp [pc1]; omega
      rw [this]; exact ih j p (by simpa using h) i v hv
/-- A slice value that reads as a list of parameters, all of it below block B. -/
def PmIn (B : Nat) (w : World) (v : Value) (l : List Prm) : Prop :=
  ∃ n c, n = l.length ∧ n ≤ c ∧ ((n = 0 ∧ v = .slice none 0 c) ∨ ∃ b o, v = .slice (some ⟨b, o, none⟩) n c ∧ b < B ∧ ∀ (j : Nat) (u : Value), (pcl l)[j]? = some u → w.cell? ⟨b, o + j, none⟩ = some u)
section
variable {X : List Nat} {w w' : World} {B B' : Nat} {v : Value} {l : List Prm}
theorem PmIn.nil (B : Nat) (w : World) : PmIn B w (.slice none 0 0) [] := ⟨0, 0, rfl, Nat.le_refl _, .inl ⟨rfl, rfl⟩⟩
theorem PmIn.kp (h : PmIn B w v l) (k : Kp X w w') (hB : B ≤ w.heap.size) (hX : ∀ x ∈ X, B ≤ x) : PmIn B w' v l := by
  obtain ⟨n, c, hn, hc, h0 | ⟨b, o, e, hb, hcell⟩⟩ := h
  · exact ⟨n, c, hn, hc, .inl h0⟩
  · refine ⟨n, c, hn, hc, .inr ⟨b, o, e, hb, fun j u hu => (k.cell (p := ⟨b, o + j, none⟩) (by show b < _; omega) (fun hm => ?_)).trans (hcell j u hu)⟩⟩
    have := hX _ hm; simp at this; omega
theorem PmIn.more (h : PmIn B w v l) (hB : B ≤ B') : PmIn B' w v l := by
  obtain ⟨n, c, hn, hc, h0 | ⟨b, o, e, hb, hcell⟩⟩ := h
  · exact ⟨n, c, hn, hc, .inl h0⟩
  · exact ⟨n, c, hn, hc, .inr ⟨b, o, e, by omega, hcell⟩⟩
theorem PmIn.drewN (h : PmIn B w v l) (n : Nat) : PmIn B (w.drewN n) v l := h
theorem PmIn.form (h : PmIn B w v l) : ∃ A c, v = .slice A l.length c := by
  obtain ⟨n, c, rfl, hc, ⟨h0, e⟩ | ⟨b, o, e, hb, hcell⟩⟩ := h
  · exact ⟨none, c, by rw [h0]; exact e⟩
  · exact ⟨_, c, e⟩
end
end Ad
end Go.Proofs.YtakanjadcnmciaaDoor
