/- The host as the reference reads it (dialtoneref02.Host): pure facts, and its contract. -/
import Derived.Test.YtonbkedjlbhpfaaGreatDoorAdRj
namespace Go.Proofs.YtonbkedjlbhpfaaGreatDoor
namespace Ad
open Go.RowKit Lx

def wdA (ps : List (List UInt8)) : Bool := ps.any wdB
def fourA (ps : List (List UInt8)) : Bool := decide (ps.length = 4) && ps.all numB
theorem lbl_chars (l : List UInt8) (h : lblB l = true) : ∀ c ∈ l, lblC c.toNat = true := by
  unfold lblB at h
  simp only [Bool.and_eq_true] at h
  exact fun c hc => List.all_eq_true.1 h.2 c hc
theorem word_iff (c : UInt8) (h : lblC c.toNat = true) : wordC c.toNat = !digitI c.toNat := by
  unfold lblC at h
  unfold wordC
  cases hl : letterI c.toNat
  · cases hd : digitI c.toNat
    · rw [hl, hd] at h; simpa using h
    · have h1 : (48 : Int) ≤ c.toNat ∧ (c.toNat : Int) ≤ 57 := by simpa [digitI] using hd
      simp; omega
  · have h1 : ((65 : Int) ≤ c.toNat ∧ (c.toNat : Int) ≤ 90) ∨ ((97 : Int) ≤ c.toNat ∧ (c.toNat : Int) ≤ 122) := by simpa [letterI] using hl
    have hd : digitI c.toNat = false := by simp [digitI]; omega
    rw [hd]; rfl
theorem pcs_any (p : UInt8 → Bool) (hp : p 46 = false) (l : List UInt8) : l.any p = (pcs 46 l).any (fun x => x.any p) := by
  induction l with
  | nil => rfl
  | cons d t ih =>
    rw [List.any_cons, ih]
    by_cases h : d = 46
    · rw [h, hp, Bool.false_or, pcs_hit]; rfl
    · rw [pcs_miss _ _ _ h, List.any_cons, List.any_cons]
      conv => lhs; rw [pcs_split 46 t]
      rw [List.any_cons, Bool.or_assoc]
theorem any_congr' {α : Type} (p q : α → Bool) : ∀ l : List α, (∀ x ∈ l, p x = q x) → l.any p = l.any q
  | [], _ => rfl
  | a :: r, h => by
    rw [List.any_cons, List.any_cons, h a (by simp), any_congr' p q r (fun x hx => h x (by simp [hx]))]
theorem word_pcs (l : List UInt8) (h : (pcs 46 l).all lblB = true) : (l.any fun c => wordC c.toNat) = wdA (pcs 46 l) := by
  rw [pcs_any (fun c => wordC c.toNat) (by decide)]
  unfold wdA
  refine any_congr' _ _ _ fun x hx => ?_
  unfold wdB
  exact any_congr' _ _ _ fun c hc => word_iff c (lbl_chars x (List.all_eq_true.1 h x hx) c hc)
theorem num_lbl (x : List UInt8) (h : numB x = true) : lblB x = true ∧ x.length ≤ 3 ∧ ∀ c ∈ x, digitI c.toNat = true := by
  unfold numB at h
  simp only [Bool.and_eq_true, decide_eq_true_eq] at h
  obtain ⟨⟨⟨⟨h1, h2⟩, _⟩, h4⟩, _⟩ := h
  have hd : ∀ c ∈ x, digitI c.toNat = true := fun c hc => List.all_eq_true.1 h4 c hc
  refine ⟨?_, h2, hd⟩
  have n45 : ∀ c ∈ x, c ≠ 45 := fun c hc e => by have := hd c hc; rw [e] at this; exact absurd this (by decide)
  have hne : x ≠ [] := by rintro rfl; simp at h1
  unfold lblB
  simp only [Bool.and_eq_true, decide_eq_true_eq]
  refine ⟨⟨⟨⟨h1, by omega⟩, ?_⟩, ?_⟩, ?_⟩
  · cases x with
    | nil => exact absurd rfl hne
    | cons a r => exact n45 a (by simp)
  · rw [List.getLastD_eq_getLast?, List.getLast?_eq_some_getLast hne]
    exact n45 _ (List.getLast_mem hne)
  · exact List.all_eq_true.2 fun c hc => by unfold lblC; rw [hd c hc]; simp
theorem four_len (l : List UInt8) (h : fourB l = true) : l.length ≤ 255 ∧ (pcs 46 l).all lblB = true ∧ lowL l = l := by
  unfold fourB at h
  simp only [Bool.and_eq_true, decide_eq_true_eq] at h
  obtain ⟨h4, hn⟩ := h
  have hx := fun x hx => num_lbl x (List.all_eq_true.1 hn x hx)
  have hj := join_pcs 46 l
  refine ⟨?_, List.all_eq_true.2 fun x hx' => (hx x hx').1, ?_⟩
  · have := joinL_len 46 (pcs 46 l) 3 (fun x hx' => (hx x hx').2.1)
    rw [hj, h4] at this; omega
  · have hc : ∀ d ∈ l, d.toNat = 46 ∨ digitI d.toNat = true := by
      rw [← hj]
      exact join_chars 46 (pcs 46 l) (fun d => d.toNat = 46 ∨ digitI d.toNat = true) (.inl rfl) (fun g hg d hd => .inr ((hx g hg).2.2 d hd))
    unfold lowL
    refine (List.map_congr_left (fun d hd => ?_)).trans (List.map_id l)
    show lowB d = d
    rw [← UInt8.toNat_inj, lowB_nat, if_neg]
    rcases hc d hd with h | h
    · omega
    · have : (48 : Int) ≤ d.toNat ∧ (d.toNat : Int) ≤ 57 := by simpa [digitI] using h
      omega
theorem host_plain (l : List UInt8) (h : l.head? ≠ some 91) : hostO l = if (pcs 46 l).all lblB = true ∧ l.length ≤ 255 ∧ (wdA (pcs 46 l) = true ∨ fourA (pcs 46 l) = true) then some (lowL l) else none := by
  unfold hostO
  rw [if_neg h]
  have hf : fourB l = fourA (pcs 46 l) := rfl
  by_cases hl : (pcs 46 l).all lblB = true
  · have hw := word_pcs l hl
    by_cases h255 : l.length ≤ 255
    · have hn : nameB l = wdA (pcs 46 l) := by unfold nameB; rw [hl, hw]; simp [h255]
      cases hb : wdA (pcs 46 l)
      · rw [hn, hb, if_neg (by simp)]
        cases hff : fourA (pcs 46 l)
        · rw [hf, hff, if_neg (by simp), if_neg]; rintro ⟨_, _, h | h⟩ <;> cases h
        · rw [hf, hff, if_pos rfl, if_pos ⟨hl, h255, .inr rfl⟩, (four_len l (hf.trans hff)).2.2]
      · rw [hn, hb, if_pos rfl, if_pos ⟨hl, h255, .inl rfl⟩]
    · have hn : nameB l = false := by unfold nameB; simp [h255]
      rw [hn, if_neg (by simp), if_neg (fun h => h255 (four_len l h).1), if_neg (fun h => h255 h.2.1)]
  · have hn : nameB l = false := by unfold nameB; rw [Bool.eq_false_iff.2 hl]; simp
    rw [hn, if_neg (by simp), if_neg (fun h => hl (four_len l h).2.1), if_neg (fun h => hl h.1)]
/-- A text that begins with the bracket has a first piece that is no label. -/
theorem lbl_bracket (l : List UInt8) (h : l.head? = some 91) : (pcs 46 l).all lblB = false := by
  match l, h with
  | c :: t, h =>
    have hc : c = 91 := by simpa using h
    subst hc
    rw [pcs_miss 46 91 t (by decide), List.all_cons, Bool.and_eq_false_iff]
    left
    rw [Bool.eq_false_iff]
    intro hb
    have := lbl_chars _ hb 91 (by simp)
    exact absurd this (by decide)
theorem host_open (l : List UInt8) (h : l.head? = some 91) (h2 : l.tail.getLast? ≠ some 93) : hostO l = none := by
  unfold hostO; rw [if_pos h, if_neg h2]
theorem host_six (l : List UInt8) (h : l.head? = some 91) (h2 : l.tail.getLast? = some 93) : hostO l = (six l.tail.dropLast).map fun x => [91] ++ x ++ [93] := by
  unfold hostO; rw [if_pos h, if_pos h2]
end Ad
end Go.Proofs.YtonbkedjlbhpfaaGreatDoor
