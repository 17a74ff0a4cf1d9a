/- A state as a row of cells: parts of it are read and written. No program but type numbers. -/
import Derived.Test.YtakanjadcnmciaaDoorHsG
import Derived.Deep.MidRow
import Derived.Laws.CopyOwn
namespace Go.Proofs.YtakanjadcnmciaaDoor
namespace Hs
open Go.RowKit Ad

theorem kp_setCells (g : Nat) : ∀ (vs : List Value) (o : Nat) (w : World), Kp [g] w (w.setCells g o vs)
  | [], _, _ => Kp.refl _ _
  | v :: r, o, w => by
    rw [World.setCells]
    exact ((Kp.refl [g] w).setCell (p := ⟨g, o, none⟩) (.inl (List.mem_singleton.2 rfl)) v).trans (kp_setCells g r (o + 1) _)
theorem blk_setCells {g : Nat} {t : TypeId} : ∀ (vs : List Value) (o : Nat) (w : World) (C : List Value), Blk w g t C.toArray → o + vs.length ≤ C.length → Blk (w.setCells g o vs) g t (C.take o ++ vs ++ C.drop (o + vs.length)).toArray
  | [], o, w, C, B, _ => by simp [World.setCells]; exact B
  | v :: r, o, w, C, B, h => by
    rw [List.length_cons] at h
    have h1 : Blk (w.setCell ⟨g, o, none⟩ v) g t (C.set o v).toArray := by
      have := B.set_ o v
      rwa [List.setIfInBounds_toArray] at this
    have h2 := blk_setCells r (o + 1) _ (C.set o v) h1 (by rw [List.length_set]; omega)
    rw [World.setCells]
    have e : (C.set o v).take (o + 1) ++ r ++ (C.set o v).drop (o + 1 + r.length) = C.take o ++ (v :: r) ++ C.drop (o + (v :: r).length) := by
      rw [List.drop_set_of_lt (by omega), List.take_set, List.length_cons, show o + 1 + r.length = o + (r.length + 1) by omega]
      have : (C.take (o + 1)).set o v = C.take o ++ [v] := by
        rw [List.take_add_one, List.getElem?_eq_getElem (by omega)]
        rw [List.set_append_right _ _ (by rw [List.length_take]; omega), List.length_take, Nat.min_eq_left (by omega), Nat.sub_self]
        rfl
      rw [this]
      simp
    rw [e] at h2
    exact h2
/-- The state with bytes laid into its tail. -/
def tl (s : St) (i : Nat) (x : List UInt8) : St := ⟨s.h, s.n, s.t.take i ++ x ++ s.t.drop (i + x.length)⟩
theorem stC_splice (s : St) (h : Wf s) (i : Nat) (x : List UInt8) : (stC s).take (9 + i) ++ x.map bv ++ (stC s).drop (9 + i + (x.map bv).length) = stC (tl s i x) := by
  unfold stC tl
  have h8 : (s.h.map wv).length = 8 := by rw [List.length_map, h.h]
  have t1 : (s.h.map wv ++ ([Value.int .u64 (s.n : Int)] ++ s.t.map bv)).take (9 + i) = s.h.map wv ++ ([Value.int .u64 (s.n : Int)] ++ (s.t.map bv).take i) := by
    rw [List.take_append, List.take_of_length_le (by omega), h8, show 9 + i - 8 = i + 1 by omega]
    rfl
  have t2 : (s.h.map wv ++ ([Value.int .u64 (s.n : Int)] ++ s.t.map bv)).drop (9 + i + (x.map bv).length) = (s.t.map bv).drop (i + x.length) := by
    rw [List.drop_append, List.drop_eq_nil_of_le (by omega), h8, show 9 + i + (x.map bv).length - 8 = i + x.length + 1 by rw [List.length_map]; omega]
    rfl
  rw [t1, t2]
  simp
theorem stC_head (s : St) (h : Wf s) (x : List UInt32) (hx : x.length = 8) : (stC s).take 0 ++ x.map wv ++ (stC s).drop (0 + (x.map wv).length) = stC ⟨x, s.n, s.t⟩ := by
  unfold stC
  have h8 : (s.h.map wv).length = 8 := by rw [List.length_map, h.h]
  rw [List.take_zero, List.nil_append, Nat.zero_add, List.length_map, hx]
  conv => lhs; rhs; rw [show (8 : Nat) = (s.h.map wv).length from h8.symm, List.drop_left]
theorem stC_num (s : St) (h : Wf s) (n : Nat) : (stC s).set 8 (.int .u64 (n : Int)) = stC ⟨s.h, n, s.t⟩ := by
  unfold stC
  rw [List.set_append_right _ _ (by simp [h.h])]
  simp [h.h]
theorem stC_h (s : St) (h : Wf s) (j : Nat) (hj : j < 8) : (stC s)[j]? = (s.h.map wv)[j]? := by
  unfold stC
  rw [List.getElem?_append_left (by rw [List.length_map, h.h]; exact hj)]
theorem range_h {w : World} {g : Nat} {t : TypeId} {s : St} (B : Blk w g t (stC s).toArray) (h : Wf s) : w.rangeAt g 0 (s.h.map wv) := fun j v hv => by
  have hj : j < 8 := by
    have := (List.getElem?_eq_some_iff.1 hv).1
    rwa [List.length_map, h.h] at this
  rw [Nat.zero_add, B.cell j, List.getElem?_toArray, stC_h s h j hj]
  exact hv
theorem range_t {w : World} {g : Nat} {t : TypeId} {s : St} (B : Blk w g t (stC s).toArray) (h : Wf s) : w.rangeAt g 9 (s.t.map bv) := fun j v hv => by
  rw [B.cell (9 + j), List.getElem?_toArray, stC_t s h j, ← List.getElem?_map]
  exact hv
theorem there_st {w : World} {g : Nat} {t : TypeId} {s : St} (B : Blk w g t (stC s).toArray) (h : Wf s) (o n : Nat) (hn : o + n ≤ 73) : w.there g o n := fun j hj => by
  refine ⟨?_, B.frozen _⟩
  rw [B.cell (o + j), List.getElem?_toArray, List.getElem?_eq_getElem (by rw [stC_len s h]; omega)]
  rfl
theorem bv_one (l : List UInt8) : (l.map bv).toArray.all (·.oneCell') = true := by
  unfold bv
  simp [Value.oneCell']
end Hs
end Go.Proofs.YtakanjadcnmciaaDoor
