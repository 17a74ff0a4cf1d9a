/- Contracts of find and Get of package address. Names have at most 2^21 bytes. -/
import Derived.Test.YtonbkedjlbhpfaaGreatDoorAdPq
namespace Go.Proofs.YtonbkedjlbhpfaaGreatDoor
namespace Ad
open Go.RowKit Lx

/-- The index of the first parameter whose name is nm in lower case, counted from i; -1: there is none. -/
def fndF (nm : List UInt8) : List Prm → Nat → Int
  | [], _ => -1
  | p :: t, i => if lowL p.1 == nm then (i : Int) else fndF nm t (i + 1)
def fndI (l : List Prm) (nm : List UInt8) : Int := fndF (lowL nm) l 0
theorem fndF_cases (nm : List UInt8) : ∀ (l : List Prm) (i : Nat), (fndF nm l i = -1 ∧ ∀ j, j < l.length → (lowL l[j]!.1 == nm) = false) ∨ ∃ k, k < l.length ∧ fndF nm l i = ((i + k : Nat) : Int) ∧ (lowL l[k]!.1 == nm) = true ∧ ∀ j, j < k → (lowL l[j]!.1 == nm) = false := by
  intro l
  induction l with
  | nil => intro i; exact .inl ⟨rfl, fun j hj => absurd hj (Nat.not_lt_zero _)⟩
  | cons p t ih =>
    intro i
    unfold fndF
    cases hc : lowL p.1 == nm with
    | true => exact .inr ⟨0, by simp, by simp, by simpa using hc, fun j hj => absurd hj (Nat.not_lt_zero _)⟩
    | false =>
      simp only [Bool.false_eq_true, if_false]
      rcases ih (i + 1) with ⟨h, h2⟩ | ⟨k, hk, h, h1, h2⟩
      · refine .inl ⟨h, fun j hj => ?_⟩
        cases j with
        | zero => simpa using hc
        | succ j => simpa using h2 j (by simpa using hj)
      · refine .inr ⟨k + 1, by simpa using hk, by rw [h]; congr 1; omega, by simpa using h1, fun j hj => ?_⟩
        cases j with
        | zero => simpa using hc
        | succ j => simpa using h2 j (by omega)
theorem fndI_cases (l : List Prm) (nm : List UInt8) : (fndI l nm = -1 ∧ ∀ j, j < l.length → (lowL l[j]!.1 == lowL nm) = false) ∨ ∃ k, k < l.length ∧ fndI l nm = (k : Int) ∧ (lowL l[k]!.1 == lowL nm) = true ∧ ∀ j, j < k → (lowL l[j]!.1 == lowL nm) = false := by
  rcases fndF_cases (lowL nm) l 0 with h | ⟨k, hk, h, h1⟩
  · exact .inl h
  · exact .inr ⟨k, hk, by unfold fndI; rw [h, Nat.zero_add], h1⟩
theorem fndI_none (l : List Prm) (nm : List UInt8) (h : ∀ j, j < l.length → (lowL l[j]!.1 == lowL nm) = false) : fndI l nm = -1 := by
  rcases fndI_cases l nm with h1 | ⟨k, hk, _, h2, _⟩
  · exact h1.1
  · rw [h k hk] at h2; cases h2
theorem fndI_some (l : List Prm) (nm : List UInt8) (k : Nat) (hk : k < l.length) (h1 : (lowL l[k]!.1 == lowL nm) = true) (h2 : ∀ j, j < k → (lowL l[j]!.1 == lowL nm) = false) : fndI l nm = (k : Int) := by
  rcases fndI_cases l nm with ⟨_, h3⟩ | ⟨m, hm, h, h3, h4⟩
  · rw [h3 k hk] at h1; cases h1
  · have : m = k := by
      rcases Nat.lt_trichotomy m k with h5 | h5 | h5
      · rw [h2 m h5] at h3; cases h3
      · exact h5
      · rw [h4 k h5] at h1; cases h1
    rw [h, this]
/-- A parameter whose name is not too long. -/
abbrev SPrm := { q : Prm // q.1.length ≤ 2097152 }
instance : Inhabited SPrm := ⟨⟨([], [], false), by simp⟩⟩
/-- An integer, and memory that is only added to. -/
def InK (x : Int) (w : World) (e : Ending) (w' : World) : Prop := e = .returned (.int .i64 x) ∧ Kp [] w w'
end Ad
end Go.Proofs.YtonbkedjlbhpfaaGreatDoor
