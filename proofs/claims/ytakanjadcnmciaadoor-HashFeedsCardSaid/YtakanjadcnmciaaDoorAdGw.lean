/- A region that draws its order, whose operations only read and whose calls only add to memory and give a value that does not depend on it: one walk, in the order of the text. Conditions: every cell that the region reads lies in memory that was there before it. -/
import Derived.Test.YtakanjadcnmciaaDoorAdKp
import Derived.BigQuiet
import Derived.Deep.QuietTactic
namespace Go.Proofs.YtakanjadcnmciaaDoor
namespace Ad
open Go.RowKit Lx

/-- What may have become of a world to which things were only added. -/
structure Gw (w : World) where
  dn : World
  kp : Kp [] w dn
/-- A world to which things were only added. -/
def grew (w : World) (n : Gw w) : World := n.dn
instance (w : World) : Nonempty (Gw w) := ⟨⟨w, Kp.refl [] w⟩⟩
theorem grew_kp (w : World) (n : Gw w) : Kp [] w (grew w n) := n.kp
theorem grew_cell {w : World} {p : Addr} {v : Value} (h : w.cell? p = some v) (n : Gw w) : (grew w n).cell? p = some v := by
  have hb : p.block < w.heap.size := by
    rcases Nat.lt_or_ge p.block w.heap.size with h1 | h1
    · exact h1
    · unfold World.cell? at h
      rw [Array.getElem?_eq_none h1] at h
      simp at h
  exact ((grew_kp w n).cell hb (by simp)).trans h
theorem Calls.grew_of {P : Program} {f : FuncId} {args : Array Value} {w : World} {n : Gw w} {v : Value} {Q : Ending → World → Prop}
    (h : Calls P f args (grew w n) Q) (hq : ∀ e w', Q e w' → e = .returned v ∧ Kp [] (grew w n) w') : Calls P f args (grew w n) fun e w'' => e = .returned v ∧ ∃ m, w'' = grew w m :=
  h.mono fun e w' hh => ⟨(hq e w' hh).1, ⟨w', (grew_kp w n).trans (hq e w' hh).2⟩, rfl⟩
/-- The region's law. -/
theorem wp_region_grew {P : Program} {id : Nat} {Q : Exit → Act → World → Prop} {a : Act} {w : World} {l : List Oper} (hm : P.follows .mixedOrders = true) (hB : Region.lexB .any l.toArray = true)
    (h : wpQuiet P l.toArray (fun w' => ∃ n, w' = grew w n) (fun a' => ∀ w', (∃ n, w' = grew w n) → Q .normal a' w') l a) : (Code.region id l.toArray true).wp P Q a w :=
  wp_region_quiet (C := fun w' => ∃ n, w' = grew w n) hm hB ⟨⟨_, (Kp.refl [] w).drew⟩, rfl⟩ (by simpa using h)
end Ad
end Go.Proofs.YtakanjadcnmciaaDoor
