/- Texts of one set of library modules: AdP1. -/
import Derived.Test.YtbcaindpbeaheaaGreatDoorZ2
import Derived.Lib.Split
import Derived.Lib.SlTrimSet
import Derived.Lib.Join
namespace Go.Proofs.YtbcaindpbeaheaaGreatDoor
namespace Ad
open Lx
theorem index_one_nil (c : UInt8) : Lib.index [] [c] = -1 := rfl
theorem index_cons (d : UInt8) (t sub : List UInt8) : Lib.index (d :: t) sub = if sub.isPrefixOf (d :: t) then 0 else if Lib.index t sub == -1 then -1 else Lib.index t sub + 1 := rfl
theorem index_one_cons (c d : UInt8) (t : List UInt8) : Lib.index (d :: t) [c] = if d = c then 0 else if Lib.index t [c] = -1 then -1 else Lib.index t [c] + 1 := by
 rw [index_cons]
 by_cases h : d = c
 ·subst h; simp [List.isPrefixOf]
 ·have : ([c] : List UInt8).isPrefixOf (d :: t) = false := by simp [List.isPrefixOf, Ne.symm h]
  rw [this, if_neg h]; simp
theorem index_one_ge (c : UInt8) (t : List UInt8) : -1 ≤ Lib.index t [c] := Lib.index_ge t [c]
theorem pcs_ne (c : UInt8) (l : List UInt8) : pcs c l ≠ [] := by cases l with | nil => simp [pcs] | cons d t => unfold pcs; split <;> simp
theorem pcs_pos (c : UInt8) (l : List UInt8) : 1 ≤ (pcs c l).length := by
 have := pcs_ne c l
 cases h : pcs c l with | nil => exact absurd h this | cons a r => simp
theorem splitK_step (c d : UInt8) (t : List UInt8) (k : Nat) (h : d ≠ c) : Lib.splitK [c] 0 (k + 1) (d :: t) = (d :: (Lib.splitK [c] 0 (k + 1) t).headD []) :: (Lib.splitK [c] 0 (k + 1) t).tail := by
 unfold Lib.splitK
 rw [index_one_cons, if_neg h]
 by_cases hm : Lib.index t [c] = -1
 ·rw [if_pos hm]; simp [hm]
 ·have hge := index_one_ge c t
  rw [if_neg hm]
  obtain ⟨i, hi⟩ : ∃ i : Nat, Lib.index t [c] = i := ⟨(Lib.index t [c]).toNat, by omega⟩
  rw [hi]
  have e1 : (((i : Int) + 1 == -1) = false) := by rw [beq_eq_false_iff_ne]; omega
  have e2 : (((i : Int) == -1) = false) := by rw [beq_eq_false_iff_ne]; omega
  rw [e1, e2]
  have e3 : ((i : Int) + 1).toNat = i + 1 := by omega
  simp [e3]
theorem splitK_hit (c : UInt8) (t : List UInt8) (k : Nat) : Lib.splitK [c] 0 (k + 1) (c :: t) = [] :: Lib.splitK [c] 0 k t := by
 rw [Lib.splitK]
 rw [index_one_cons, if_pos rfl]
 simp
theorem splitK_pcs (c : UInt8) (l : List UInt8) : ∀ k, ((pcs c l).length ≤ k + 1 → Lib.splitK [c] 0 k l = pcs c l) ∧ (k + 1 ≤ (pcs c l).length → (Lib.splitK [c] 0 k l).length = k + 1) := by
 induction l with
 | nil =>
   intro k
   cases k with
   | zero => simp [pcs, Lib.splitK]
   | succ k => simp [pcs, Lib.splitK, index_one_nil]
 | cons d t ih =>
   intro k
   by_cases h : d = c
   ·subst h
    have hp : pcs d (d :: t) = [] :: pcs d t := by rw [pcs, if_pos rfl]
    cases k with
    | zero =>
      have := pcs_pos d t
      rw [hp]; simp [Lib.splitK]
      intro h; exact absurd h (pcs_ne d t)
    | succ k =>
      rw [splitK_hit, hp]
      simp only [List.length_cons]
      exact ⟨fun h => by rw [(ih k).1 (by omega)], fun h => by rw [(ih k).2 (by omega)]⟩
   ·have hp : pcs c (d :: t) = (d :: (pcs c t).headD []) :: (pcs c t).tail := by rw [pcs, if_neg h]
    have hl : (pcs c (d :: t)).length = (pcs c t).length := by
     have := pcs_pos c t
     rw [hp]; simp; omega
    cases k with
    | zero =>
      constructor
      ·intro h1
       rw [hl] at h1
       have := (ih 0).1 h1
       rw [hp, ← this]; simp [Lib.splitK]
      ·intro _; simp [Lib.splitK]
    | succ k =>
      rw [splitK_step c d t k h, hl]
      constructor
      ·intro h1; rw [(ih (k + 1)).1 h1, hp]
      ·intro h1
       have := (ih (k + 1)).2 h1
       simp [this]
theorem count_one_cons (c d : UInt8) (t : List UInt8) : Lib.count (d :: t) [c] = if d = c then 1 + Lib.count t [c] else Lib.count t [c] := by
 by_cases h : d = c
 ·subst h
  rw [if_pos rfl, Lib.count_hit (i := 0) (by simp) (by rw [index_one_cons, if_pos rfl]; rfl)]
  simp
 ·rw [if_neg h]
  by_cases hm : Lib.index t [c] = -1
  ·rw [Lib.count_miss hm, Lib.count_miss (by rw [index_one_cons, if_neg h, if_pos hm])]
  ·have hge := index_one_ge c t
   obtain ⟨i, hi⟩ : ∃ i : Nat, Lib.index t [c] = i := ⟨(Lib.index t [c]).toNat, by omega⟩
   rw [Lib.count_hit (i := i) (by simp) hi, Lib.count_hit (i := i + 1) (by simp) (by rw [index_one_cons, if_neg h, if_neg hm, hi]; rfl)]
   simp
theorem count_pcs (c : UInt8) (l : List UInt8) : Lib.count l [c] + 1 = (pcs c l).length := by
 induction l with
 | nil => rfl
 | cons d t ih =>
   rw [count_one_cons, pcs]
   split
   ·simp; omega
   ·have := pcs_pos c t
    simp; omega
theorem pcs_len (c : UInt8) (l : List UInt8) : (pcs c l).length ≤ l.length + 1 := by
 induction l with
 | nil => simp [pcs]
 | cons d t ih =>
   rw [pcs]; split
   ·simp; omega
   ·simp; omega
theorem splitN_pcs (c : UInt8) (l : List UInt8) (n : Nat) (hn : 1 ≤ n) : ((pcs c l).length ≤ n → Lib.splitK [c] 0 (min n (l.length + 1) - 1) l = pcs c l) ∧ (n < (pcs c l).length → (Lib.splitK [c] 0 (min n (l.length + 1) - 1) l).length = n) := by
 have h1 := pcs_len c l;have h2 := pcs_pos c l
 constructor
 ·intro h; exact (splitK_pcs c l _).1 (by omega)
 ·intro h; rw [(splitK_pcs c l _).2 (by omega)]; omega
theorem split_pcs (c : UInt8) (l : List UInt8) : Lib.splitK [c] 0 (Lib.count l [c]) l = pcs c l := (splitK_pcs c l _).1 (by rw [count_pcs]; exact Nat.le_refl _)
theorem index_two_cons (d : UInt8) (t : List UInt8) : Lib.index (d :: t) [58, 58] = if d = 58 ∧ t.head? = some 58 then 0 else if Lib.index t [58, 58] = -1 then -1 else Lib.index t [58, 58] + 1 := by
 rw [index_cons]
 by_cases h : d = 58 ∧ t.head? = some 58
 ·obtain ⟨rfl, h2⟩ := h
  cases t with
  | nil => simp at h2
  | cons e r => simp at h2; subst h2; simp [List.isPrefixOf]
 ·have : ([58, 58] : List UInt8).isPrefixOf (d :: t) = false := by
    cases t with
    | nil => simp [List.isPrefixOf]
    | cons e r =>
      simp only [List.isPrefixOf, Bool.and_true]
      rw [Bool.eq_false_iff]
      intro hh
      rw [Bool.and_eq_true, beq_iff_eq, beq_iff_eq] at hh
      exact h ⟨hh.1.symm, by simp [hh.2]⟩
  rw [this, if_neg h]; simp
theorem cut_cut2 (l : List UInt8) : Lib.cut l [58, 58] = match cut2 l with | some p => (p.1, p.2, true) | none => (l, [], false) := by
 have key : (∀ p, cut2 l = some p → ∃ i : Nat, Lib.index l [58, 58] = i ∧ p = (l.take i, l.drop (i + 2))) ∧ (cut2 l = none → Lib.index l [58, 58] = -1) := by
  induction l with
  | nil => simp [cut2]; rfl
  | cons d t ih =>
    rw [index_two_cons]
    cases t with
    | nil => simp [cut2]; decide
    | cons e r =>
      rw [cut2]
      by_cases h : d = 58 ∧ e = 58
      ·obtain ⟨rfl, rfl⟩ := h
       simp
       exact ⟨0, rfl, rfl, rfl⟩
      ·rw [if_neg h, if_neg (by simpa using h)]
       constructor
       ·intro p hp
        rw [Option.map_eq_some_iff] at hp
        obtain ⟨q, hq, rfl⟩ := hp
        obtain ⟨i, hi, rfl⟩ := ih.1 q hq
        refine ⟨i + 1, by rw [hi, if_neg (by omega)]; rfl, by simp⟩
       ·intro hn
        rw [Option.map_eq_none_iff] at hn
        rw [ih.2 hn]; rfl
 unfold Lib.cut
 cases h : cut2 l with
 | none => rw [key.2 h]; rfl
 | some p =>
   obtain ⟨i, hi, rfl⟩ := key.1 p h
   rw [hi, if_pos (by omega)]
   rfl
theorem strip_trim (g : List UInt8) (h : g ≠ []) : Lib.trimLeftS g.dropLast [48] ++ [g.getLast h] = stripZ g := by
 induction g with
 | nil => exact absurd rfl h
 | cons c t ih =>
   cases t with
   | nil => simp [Lib.trimLeftS, stripZ]
   | cons d r =>
     rw [List.dropLast_cons_cons, stripZ]
     by_cases hc : c = 48
     ·subst hc
      rw [if_pos rfl]
      have := ih (by simp)
      simp only [Lib.trimLeftS, List.dropWhile_cons] at this ⊢
      simpa using this
     ·rw [if_neg hc]
      have hh : ([48] : List UInt8).contains c = false := by simpa using hc
      simp only [Lib.trimLeftS, List.dropWhile_cons, hh]
      simpa using List.dropLast_concat_getLast (l := d :: r) (by simp)
theorem join_joinL (c : UInt8) (x : List (List UInt8)) : Lib.join x [c] = joinL c x := by
 unfold Lib.join
 induction x with
 | nil => rfl
 | cons a r ih =>
   cases r with
   | nil => simp [joinL]
   | cons b r => rw [joinL, ← ih]; simp [List.intercalate]
end Ad
end Go.Proofs.YtbcaindpbeaheaaGreatDoor
