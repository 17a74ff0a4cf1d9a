/- Plain facts on worlds: what is no row of a few named types lies as it lay ('KeepTy'). No program in them. -/
import Derived.Test.YtakanjadcnmciaaDoorLxSpec
import Derived.WalkKit
import Derived.Lib.UnsafeStr
import Derived.RangeFuncWrites
namespace Go.Proofs.YtakanjadcnmciaaDoor
namespace Lx
open Go.RowKit

/-- An object that is a row of one of the types ts. -/
def OfTy (ts : List TypeId) (o : Obj) : Prop := ∃ cs T fr, o = .cells cs T fr ∧ T ∈ ts
/-- Whatever is no row of the types ts lies as it lay. -/
structure KeepTy (ts : List TypeId) (w w' : World) : Prop where
  size : w.heap.size ≤ w'.heap.size
  same : ∀ (k : Nat) (o : Obj), w.heap[k]? = some o → ¬ OfTy ts o → w'.heap[k]? = some o
theorem KeepTy.refl (ts : List TypeId) (w : World) : KeepTy ts w w := ⟨Nat.le_refl _, fun _ _ h _ => h⟩
theorem KeepTy.trans {ts : List TypeId} {a b c : World} (h : KeepTy ts a b) (k : KeepTy ts b c) : KeepTy ts a c :=
  ⟨Nat.le_trans h.size k.size, fun i o hi ho => k.same i o (h.same i o hi ho) ho⟩
theorem KeepTy.mono {ts us : List TypeId} {a b : World} (h : KeepTy ts a b) (hs : ∀ t, t ∈ ts → t ∈ us) : KeepTy us a b :=
  ⟨h.size, fun i o hi ho => h.same i o hi (fun ⟨cs, T, fr, e, hT⟩ => ho ⟨cs, T, fr, e, hs T hT⟩)⟩
theorem KeepTy.drew {ts : List TypeId} {a w : World} (h : KeepTy ts a w) : KeepTy ts a w.drew := ⟨h.size, h.same⟩
theorem lt_of_some {w : World} {k : Nat} {o : Obj} (h : w.heap[k]? = some o) : k < w.heap.size := (Array.getElem?_eq_some_iff.1 h).1
theorem KeepTy.alloc {ts : List TypeId} {a w : World} (h : KeepTy ts a w) (o : Obj) : KeepTy ts a (w.alloc o) :=
  h.trans ⟨by simp, fun k o' hk _ => (Below.heap_alloc w o k (lt_of_some hk)).trans hk⟩
theorem KeepTy.setCell {ts : List TypeId} {a w : World} (h : KeepTy ts a w) {p : Addr} {cs : Array Value} {T : TypeId} {fr : Nat × Nat} (hp : w.heap[p.block]? = some (.cells cs T fr)) (hT : T ∈ ts) (u : Value) : KeepTy ts a (w.setCell p u) :=
  h.trans ⟨by simp [World.setCell], fun k o hk ho => by
    rw [Below.heap_setCell _ _ _ _ (fun e => ?_), hk]
    subst e; rw [hp] at hk; cases hk; exact ho ⟨_, _, _, rfl, hT⟩⟩
theorem KeepTy.grown {ts : List TypeId} {a w w' : World} {row : Option Nat} (h : KeepTy ts a w) (hg : w.grownBy w' row) (hr : ∀ k, row = some k → ∃ cs T fr, w.heap[k]? = some (.cells cs T fr) ∧ T ∈ ts) : KeepTy ts a w' :=
  h.trans ⟨hg.size, fun k o hk ho => by
    rw [hg.block k (lt_of_some hk) (fun e => ?_), hk]
    obtain ⟨cs, T, fr, h1, h2⟩ := hr k e.symm
    rw [h1] at hk; cases hk; exact ho ⟨_, _, _, rfl, h2⟩⟩
theorem KeepTy.freeze {ts : List TypeId} {a w : World} (h : KeepTy ts a w) {p : Addr} {cs : Array Value} {T : TypeId} {fr : Nat × Nat} (hp : w.heap[p.block]? = some (.cells cs T fr)) (hT : T ∈ ts) (n : Nat) : KeepTy ts a (w.freeze p n) := by
  refine h.trans ?_
  unfold World.freeze
  split
  · exact KeepTy.refl _ _
  · exact ⟨by simp, fun k o hk ho => by
      simp only [Array.getElem?_modify]
      rw [if_neg (fun e => ?_), hk]
      subst e; rw [hp] at hk; cases hk; exact ho ⟨_, _, _, rfl, hT⟩⟩
theorem KeepTy.others {ts : List TypeId} {w w' : World} (h : KeepTy ts w w') : KeepsOthers w w' :=
  ⟨h.size, fun k o hk ho => h.same k o hk (fun ⟨_, _, _, e, _⟩ => by subst e; cases ho)⟩
theorem KeepTy.row {ts : List TypeId} {w w' : World} (h : KeepTy ts w w') {b : Nat} {cs : Array Value} {T : TypeId} {fr : Nat × Nat} (hb : w.heap[b]? = some (.cells cs T fr)) (hT : T ∉ ts) : w'.heap[b]? = some (.cells cs T fr) :=
  h.same b _ hb (fun ⟨_, _, _, e, hh⟩ => by cases e; exact hT hh)
/-- An owned row of another type. -/
theorem KeepTy.owns {ts : List TypeId} {w w' : World} (h : KeepTy ts w w') {B : Nat} {e : TypeId} {size : Nat} {v : Value} {n : Nat} {xs : List Value} (hr : w.ownsRow B e size v n xs) (he : e ∉ ts) : w'.ownsRow B e size v n xs := by
  refine ⟨hr.1, ?_⟩
  rcases hr.2 with h0 | ⟨g, cap, cur, hv, hB, hg, rest⟩
  · exact .inl h0
  · exact .inr ⟨g, cap, cur, hv, hB, h.row hg he, rest⟩
theorem own_row {w : World} {B : Nat} {e : TypeId} {size : Nat} {v : Value} {n : Nat} {xs : List Value} (hr : w.ownsRow B e size v n xs) : ∀ k, v.ownBlock = some k → ∃ cs T fr, w.heap[k]? = some (.cells cs T fr) ∧ T ∈ [e] := by
  intro k hk
  rcases hr.2 with ⟨rfl, _⟩ | ⟨g, cap, cur, rfl, hB, hg, rest⟩
  · simp [Value.ownBlock] at hk
  · simp only [Value.ownBlock, Option.some.injEq] at hk
    subst hk
    exact ⟨_, _, _, hg, by simp⟩
end Lx
end Go.Proofs.YtakanjadcnmciaaDoor
