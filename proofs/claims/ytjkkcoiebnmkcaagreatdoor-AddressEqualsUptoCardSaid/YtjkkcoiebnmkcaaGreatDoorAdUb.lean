/- Blocks that hold a URI, and stores to one of its fields. Plain facts on worlds. -/
import Derived.Test.YtjkkcoiebnmkcaaGreatDoorAdTu
import Derived.Test.YtjkkcoiebnmkcaaGreatDoorM8
namespace Go.Proofs.YtjkkcoiebnmkcaaGreatDoor
namespace Ad
open Go.RowKit Lx

theorem UBox.noB {w : World} {g : Nat} {u : Uri} (h : UBox w g u) : NoB w g := by
  obtain ⟨a1, c1, a2, c2, hb, _, _⟩ := h
  exact NoB.urb hb
theorem UBox.lt {w : World} {g : Nat} {u : Uri} (h : UBox w g u) : g < w.heap.size := by
  obtain ⟨a1, c1, a2, c2, hb, _, _⟩ := h
  exact hb.lt
theorem UBox.frozen {w : World} {g : Nat} {u : Uri} (h : UBox w g u) (i : Nat) : w.frozen? ⟨g, i, none⟩ = false := by
  obtain ⟨a1, c1, a2, c2, hb, _, _⟩ := h
  exact hb.frozen i
theorem UBox.kpX {w w' : World} {g : Nat} {u : Uri} {X : List Nat} (h : UBox w g u) (k : Kp X w w') (hg : g ∉ X) (hX : ∀ x ∈ X, NoB w x) : UBox w' g u := by
  obtain ⟨a1, c1, a2, c2, hb, h1, h2⟩ := h
  exact ⟨a1, c1, a2, c2, hb.kp k hg, h1.grow k hX, h2.grow k hX⟩
theorem UBox.both {w : World} {g : Nat} {u : Uri} (h : UBox w g u) : ∃ (a1 : Option Addr) (c1 : Nat) (a2 : Option Addr) (c2 : Nat),
    (∀ i, w.cell? ⟨g, i, none⟩ = #[Value.string (Txt u.scheme), .string (Txt u.user), .string (Txt u.host), .int .i64 u.port, .slice a1 u.params.length c1, .slice a2 u.heads.length c2][i]?) ∧ UriIn w.heap.size w (.agg #[.string (Txt u.scheme), .string (Txt u.user), .string (Txt u.host), .int .i64 u.port, .slice a1 u.params.length c1, .slice a2 u.heads.length c2]) u ∧ PmIn w.heap.size w (.slice a1 u.params.length c1) u.params ∧ PmIn w.heap.size w (.slice a2 u.heads.length c2) u.heads := by
  obtain ⟨a1, c1, a2, c2, hb, h1, h2⟩ := h
  exact ⟨a1, c1, a2, c2, fun i => hb.cell i, ⟨_, _, rfl, h1, h2⟩, h1, h2⟩
section
variable {w : World} {g : Nat} {u : Uri}
theorem kp_set (w : World) (g i : Nat) (x : Value) : Kp [g] w (w.setCell ⟨g, i, none⟩ x) := (Kp.refl [g] w).setCell (p := ⟨g, i, none⟩) (.inl (by simp)) x
theorem UBox.set1 (h : UBox w g u) (x : List UInt8) : UBox (w.setCell ⟨g, 1, none⟩ (.string (Txt x))) g ⟨u.scheme, x, u.host, u.port, u.params, u.heads⟩ := by
  have hn := h.noB
  obtain ⟨a1, c1, a2, c2, hb, h1, h2⟩ := h
  exact ⟨a1, c1, a2, c2, hb.set_ 1 _, h1.grow (kp_set w g 1 _) (by intro y hy; rw [List.mem_singleton.1 hy]; exact hn), h2.grow (kp_set w g 1 _) (by intro y hy; rw [List.mem_singleton.1 hy]; exact hn)⟩
theorem UBox.set4 (h : UBox w g u) {A : Option Addr} {c : Nat} {l : List Prm} (hv : PmIn w.heap.size w (.slice A l.length c) l) : UBox (w.setCell ⟨g, 4, none⟩ (.slice A l.length c)) g ⟨u.scheme, u.user, u.host, u.port, l, u.heads⟩ := by
  have hn := h.noB
  obtain ⟨a1, c1, a2, c2, hb, h1, h2⟩ := h
  exact ⟨A, c, a2, c2, hb.set_ 4 _, hv.grow (kp_set w g 4 _) (by intro y hy; rw [List.mem_singleton.1 hy]; exact hn), h2.grow (kp_set w g 4 _) (by intro y hy; rw [List.mem_singleton.1 hy]; exact hn)⟩
theorem UBox.set5 (h : UBox w g u) {A : Option Addr} {c : Nat} {l : List Prm} (hv : PmIn w.heap.size w (.slice A l.length c) l) : UBox (w.setCell ⟨g, 5, none⟩ (.slice A l.length c)) g ⟨u.scheme, u.user, u.host, u.port, u.params, l⟩ := by
  have hn := h.noB
  obtain ⟨a1, c1, a2, c2, hb, h1, h2⟩ := h
  exact ⟨a1, c1, A, c, hb.set_ 5 _, h1.grow (kp_set w g 5 _) (by intro y hy; rw [List.mem_singleton.1 hy]; exact hn), hv.grow (kp_set w g 5 _) (by intro y hy; rw [List.mem_singleton.1 hy]; exact hn)⟩
end
theorem turnL_len (l : List Prm) : (turnL l).length = l.length := by simp [turnL]
theorem turnL_sz (l : List Prm) (h : SzP l) : SzP (turnL l) := by
  intro p hp
  unfold turnL at hp
  rw [List.mem_reverse] at hp
  obtain ⟨q, hq, rfl⟩ := List.mem_map.1 hp
  have := h q hq
  dsimp only
  rw [upL_len]
  exact this
end Ad
end Go.Proofs.YtjkkcoiebnmkcaaGreatDoor
