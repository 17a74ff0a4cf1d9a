/- The plain specifications of Quote, Unquote and Comment of package lexis: functions on lists of bytes. No conditions. -/
import Derived.Test.YtakanjadcnmciaaDoorLxSpec
namespace Go.Proofs.YtakanjadcnmciaaDoor
namespace Lx

/-- One escape or one other byte: the offset behind it and 0, or the offset of an error and the error. -/
def stepS (l : List UInt8) (i : Nat) : Nat × Int :=
  match l with
  | [] => (i, 6)
  | c :: t =>
    if ctlI c.toNat then (i, 5) else if c.toNat ≠ 92 then (i + 1, 0) else
      match t with
      | [] => (i + 1, 6)
      | d :: _ => if escI d.toNat then (i + 2, 0) else (i, 5)
theorem stepS_ctl (c : UInt8) (t : List UInt8) (i : Nat) (h : ctlI c.toNat = true) : stepS (c :: t) i = (i, 5) := by simp [stepS, h]
theorem stepS_one (c : UInt8) (t : List UInt8) (i : Nat) (h : ctlI c.toNat = false) (h2 : c.toNat ≠ 92) : stepS (c :: t) i = (i + 1, 0) := by simp [stepS, h, h2]
theorem stepS_end (c : UInt8) (i : Nat) (h : ctlI c.toNat = false) (h2 : c.toNat = 92) : stepS [c] i = (i + 1, 6) := by unfold stepS; simp only; rw [if_neg (by rw [h]; simp), if_neg (by omega)]
theorem stepS_bad (c d : UInt8) (t : List UInt8) (i : Nat) (h : ctlI c.toNat = false) (h2 : c.toNat = 92) (h3 : escI d.toNat = false) : stepS (c :: d :: t) i = (i, 5) := by unfold stepS; simp only; rw [if_neg (by rw [h]; simp), if_neg (by omega)]; rw [if_neg (by rw [h3]; simp)]
theorem stepS_two (c d : UInt8) (t : List UInt8) (i : Nat) (h : ctlI c.toNat = false) (h2 : c.toNat = 92) (h3 : escI d.toNat = true) : stepS (c :: d :: t) i = (i + 2, 0) := by unfold stepS; simp only; rw [if_neg (by rw [h]; simp), if_neg (by omega)]; rw [if_pos h3]
theorem stepS_ok (l : List UInt8) (i : Nat) (h : (stepS l i).2 = 0) : i < (stepS l i).1 ∧ (stepS l i).1 ≤ i + l.length ∧ (stepS l i).1 ≤ i + 2 := by
  unfold stepS at h ⊢
  match l with
  | [] => simp at h
  | [c] =>
    simp only [] at h ⊢
    split at h
    · simp at h
    · rename_i hc; rw [if_neg hc]; split at h
      · rename_i h9; rw [if_pos h9]; simp
      · simp at h
  | c :: d :: t =>
    simp only [] at h ⊢
    split at h
    · simp at h
    · rename_i hc; rw [if_neg hc]; split at h
      · rename_i h9; rw [if_pos h9]; simp
      · rename_i h9; rw [if_neg h9]; split at h
        · rename_i he; rw [if_pos he]; simp
        · simp at h
theorem stepS_e (l : List UInt8) (i : Nat) : (stepS l i).2 = 0 ∨ (stepS l i).2 = 5 ∨ (stepS l i).2 = 6 := by
  unfold stepS
  match l with
  | [] => simp
  | [c] => simp only []; split; simp; split <;> simp
  | c :: d :: t => simp only []; split; simp; split; simp; split <;> simp
theorem stepS_le (l : List UInt8) (i : Nat) : (stepS l i).1 ≤ i + 2 := by
  unfold stepS
  match l with
  | [] => simp
  | [c] => simp only []; split; simp; split <;> simp
  | c :: d :: t => simp only []; split; simp; split; simp; split <;> simp

/-- Behind the closing quotation mark, or an error. -/
def qEnd (l : List UInt8) (i : Nat) : Nat × Int :=
  match l with
  | [] => (i, 6)
  | c :: t =>
    if c.toNat = 34 then (i + 1, 0)
    else if _h : (stepS (c :: t) i).2 = 0 then qEnd ((c :: t).drop ((stepS (c :: t) i).1 - i)) (stepS (c :: t) i).1 else stepS (c :: t) i
termination_by l.length
decreasing_by have := stepS_ok _ _ (by assumption); simp only [List.length_drop, List.length_cons] at *; omega
theorem qEnd_nil (i : Nat) : qEnd [] i = (i, 6) := by rw [qEnd]
theorem qEnd_quote (c : UInt8) (t : List UInt8) (i : Nat) (h : c.toNat = 34) : qEnd (c :: t) i = (i + 1, 0) := by rw [qEnd, if_pos h]
theorem qEnd_err (c : UInt8) (t : List UInt8) (i : Nat) (h : c.toNat ≠ 34) (h2 : (stepS (c :: t) i).2 ≠ 0) : qEnd (c :: t) i = stepS (c :: t) i := by rw [qEnd, if_neg h, dif_neg h2]
theorem qEnd_step (c : UInt8) (t : List UInt8) (i : Nat) (h : c.toNat ≠ 34) (h2 : (stepS (c :: t) i).2 = 0) : qEnd (c :: t) i = qEnd ((c :: t).drop ((stepS (c :: t) i).1 - i)) (stepS (c :: t) i).1 := by
  conv => lhs; rw [qEnd, if_neg h, dif_pos h2]
/-- The content of a quoted string, from behind its opening mark on. -/
def qText (l : List UInt8) : List UInt8 :=
  match l with
  | [] => []
  | c :: t => if c.toNat = 34 then [] else if c.toNat ≠ 92 then c :: qText t else match t with | [] => [] | d :: u => d :: qText u
/-- What unescape makes of a text. -/
def unesc (l : List UInt8) : List UInt8 :=
  match l with
  | [] => []
  | c :: t => if c.toNat ≠ 92 then c :: unesc t else match t with | [] => [] | d :: u => d :: unesc u
/-- No escape is cut off at the end. -/
def escOK (l : List UInt8) : Bool :=
  match l with
  | [] => true
  | c :: t => if c.toNat ≠ 92 then escOK t else match t with | [] => false | _ :: u => escOK u
theorem unesc_one (c : UInt8) (t : List UInt8) (h : c.toNat ≠ 92) : unesc (c :: t) = c :: unesc t := by rw [unesc.eq_def]; simp [h]
theorem unesc_two (c d : UInt8) (t : List UInt8) (h : c.toNat = 92) : unesc (c :: d :: t) = d :: unesc t := by rw [unesc.eq_def]; simp [h]
theorem escOK_one (c : UInt8) (t : List UInt8) (h : c.toNat ≠ 92) : escOK (c :: t) = escOK t := by rw [escOK.eq_def]; simp [h]
theorem escOK_two (c d : UInt8) (t : List UInt8) (h : c.toNat = 92) : escOK (c :: d :: t) = escOK t := by rw [escOK.eq_def]; simp [h]
theorem escOK_end (c : UInt8) (h : c.toNat = 92) : escOK [c] = false := by rw [escOK.eq_def]; simp [h]
theorem qText_quote (c : UInt8) (t : List UInt8) (h : c.toNat = 34) : qText (c :: t) = [] := by rw [qText.eq_def]; simp [h]
theorem qText_one (c : UInt8) (t : List UInt8) (h : c.toNat ≠ 34) (h2 : c.toNat ≠ 92) : qText (c :: t) = c :: qText t := by rw [qText.eq_def]; simp [h, h2]
theorem qText_two (c d : UInt8) (t : List UInt8) (h2 : c.toNat = 92) : qText (c :: d :: t) = d :: qText t := by rw [qText.eq_def]; simp [h2]

theorem step_kind (c : UInt8) (t : List UInt8) (i : Nat) (h : (stepS (c :: t) i).2 = 0) :
    (c.toNat ≠ 92 ∧ (stepS (c :: t) i).1 = i + 1) ∨ (∃ d u, c.toNat = 92 ∧ t = d :: u ∧ (stepS (c :: t) i).1 = i + 2) := by
  cases hc : ctlI c.toNat
  · by_cases h9 : c.toNat = 92
    · cases t with
      | nil => rw [stepS_end c i hc h9] at h; simp at h
      | cons d u =>
        cases hd : escI d.toNat
        · rw [stepS_bad c d u i hc h9 hd] at h; simp at h
        · rw [stepS_two c d u i hc h9 hd]; exact .inr ⟨d, u, h9, rfl, rfl⟩
    · rw [stepS_one c t i hc h9]; exact .inl ⟨h9, rfl⟩
  · rw [stepS_ctl c t i hc] at h; simp at h

theorem qEnd_part (n : Nat) : ∀ (l : List UInt8) (i to : Nat), l.length ≤ n → qEnd l i = (to, 0) →
    i + 1 ≤ to ∧ to ≤ i + l.length ∧ escOK (l.take (to - 1 - i)) = true ∧ unesc (l.take (to - 1 - i)) = qText l := by
  induction n with
  | zero => intro l i to h he; have : l = [] := List.eq_nil_of_length_eq_zero (by omega); subst this; rw [qEnd_nil] at he; simp at he
  | succ n ih =>
    intro l i to hl he
    cases l with
    | nil => rw [qEnd_nil] at he; simp at he
    | cons c t =>
      by_cases hq : c.toNat = 34
      · rw [qEnd_quote c t i hq] at he
        simp at he
        subst he
        have : i + 1 - 1 - i = 0 := by omega
        rw [this, qText_quote c t hq]
        simp [escOK, unesc]
      · by_cases hs : (stepS (c :: t) i).2 = 0
        · rw [qEnd_step c t i hq hs] at he
          rcases step_kind c t i hs with ⟨h9, h1⟩ | ⟨d, u, h9, rfl, h1⟩
          · rw [h1] at he
            have e1 : i + 1 - i = 1 := by omega
            rw [e1, List.drop_succ_cons, List.drop_zero] at he
            simp only [List.length_cons] at hl
            obtain ⟨a1, a2, a3, a4⟩ := ih t (i + 1) to (by omega) he
            have e2 : to - 1 - i = (to - 1 - (i + 1)) + 1 := by omega
            rw [e2, List.take_succ_cons, escOK_one c _ h9, unesc_one c _ h9, qText_one c t hq h9, a4]
            refine ⟨by omega, by simp; omega, a3, rfl⟩
          · rw [h1] at he
            have e1 : i + 2 - i = 2 := by omega
            rw [e1, List.drop_succ_cons, List.drop_succ_cons, List.drop_zero] at he
            simp only [List.length_cons] at hl
            obtain ⟨a1, a2, a3, a4⟩ := ih u (i + 2) to (by omega) he
            have e2 : to - 1 - i = (to - 1 - (i + 2)) + 1 + 1 := by omega
            rw [e2, List.take_succ_cons, List.take_succ_cons, escOK_two c d _ h9, unesc_two c d _ h9, qText_two c d u h9, a4]
            refine ⟨by omega, by simp; omega, a3, rfl⟩
        · rw [qEnd_err c t i hq hs] at he
          rw [he] at hs; simp at hs

theorem qEnd_le (n : Nat) : ∀ (l : List UInt8) (i : Nat), l.length ≤ n → (qEnd l i).1 ≤ i + l.length + 2 := by
  induction n with
  | zero => intro l i h; have : l = [] := List.eq_nil_of_length_eq_zero (by omega); subst this; rw [qEnd_nil]; simp
  | succ n ih =>
    intro l i hl
    cases l with
    | nil => rw [qEnd_nil]; simp
    | cons c t =>
      by_cases hq : c.toNat = 34
      · rw [qEnd_quote c t i hq]; simp; omega
      · by_cases hs : (stepS (c :: t) i).2 = 0
        · have h1 := stepS_ok _ _ hs
          rw [qEnd_step c t i hq hs]
          have := ih ((c :: t).drop ((stepS (c :: t) i).1 - i)) (stepS (c :: t) i).1 (by simp only [List.length_drop, List.length_cons] at *; omega)
          simp only [List.length_drop, List.length_cons] at *
          omega
        · rw [qEnd_err c t i hq hs]
          have := stepS_le (c :: t) i
          omega

/-- Does a byte stand at an offset? The offset and the error of opens. -/
def opN (l : List UInt8) (at' : Int) : Int := if at' < 0 ∨ (l.length : Int) < at' then 0 else at'
def opE (mark : Int) (l : List UInt8) (at' : Int) : Int :=
  if at' < 0 ∨ (l.length : Int) < at' then 2 else match l.drop at'.toNat with | [] => 5 | c :: _ => if (c.toNat : Int) = mark then 0 else 5
/-- Unquote: text, offset, error. -/
def uqR (l : List UInt8) (at' : Int) : Nat × Int := qEnd (l.drop (at'.toNat + 1)) (at'.toNat + 1)
def uqT (l : List UInt8) (at' : Int) : List UInt8 := if opE 34 l at' ≠ 0 ∨ (uqR l at').2 ≠ 0 then [] else qText (l.drop (at'.toNat + 1))
def uqN (l : List UInt8) (at' : Int) : Int := if opE 34 l at' ≠ 0 then opN l at' else (uqR l at').1
def uqE (l : List UInt8) (at' : Int) : Int := if opE 34 l at' ≠ 0 then opE 34 l at' else (uqR l at').2

/-- Behind the closing parenthesis, or an error; d: the depth so far. -/
def cEnd (l : List UInt8) (i d : Nat) : Nat × Int :=
  match l with
  | [] => (i, 6)
  | c :: t =>
    if c.toNat = 40 then (if d = 8 then (i, 4) else cEnd t (i + 1) (d + 1))
    else if c.toNat = 41 then (if d = 1 then (i + 1, 0) else cEnd t (i + 1) (d - 1))
    else if _h : (stepS (c :: t) i).2 = 0 then cEnd ((c :: t).drop ((stepS (c :: t) i).1 - i)) (stepS (c :: t) i).1 d else stepS (c :: t) i
termination_by l.length
decreasing_by
  · simp
  · simp
  · have := stepS_ok _ _ (by assumption); simp only [List.length_drop, List.length_cons] at *; omega
theorem cEnd_nil (i d : Nat) : cEnd [] i d = (i, 6) := by rw [cEnd]
theorem cEnd_deep (c : UInt8) (t : List UInt8) (i : Nat) (h : c.toNat = 40) : cEnd (c :: t) i 8 = (i, 4) := by rw [cEnd, if_pos h, if_pos rfl]
theorem cEnd_open (c : UInt8) (t : List UInt8) (i d : Nat) (h : c.toNat = 40) (hd : d ≠ 8) : cEnd (c :: t) i d = cEnd t (i + 1) (d + 1) := by rw [cEnd, if_pos h, if_neg hd]
theorem cEnd_last (c : UInt8) (t : List UInt8) (i : Nat) (h : c.toNat = 41) : cEnd (c :: t) i 1 = (i + 1, 0) := by rw [cEnd, if_neg (by omega), if_pos h, if_pos rfl]
theorem cEnd_shut (c : UInt8) (t : List UInt8) (i d : Nat) (h : c.toNat = 41) (hd : d ≠ 1) : cEnd (c :: t) i d = cEnd t (i + 1) (d - 1) := by rw [cEnd, if_neg (by omega), if_pos h, if_neg hd]
theorem cEnd_err (c : UInt8) (t : List UInt8) (i d : Nat) (h : c.toNat ≠ 40) (h' : c.toNat ≠ 41) (h2 : (stepS (c :: t) i).2 ≠ 0) : cEnd (c :: t) i d = stepS (c :: t) i := by rw [cEnd, if_neg h, if_neg h', dif_neg h2]
theorem cEnd_step (c : UInt8) (t : List UInt8) (i d : Nat) (h : c.toNat ≠ 40) (h' : c.toNat ≠ 41) (h2 : (stepS (c :: t) i).2 = 0) : cEnd (c :: t) i d = cEnd ((c :: t).drop ((stepS (c :: t) i).1 - i)) (stepS (c :: t) i).1 d := by
  conv => lhs; rw [cEnd, if_neg h, if_neg h', dif_pos h2]
theorem cEnd_bd (n : Nat) : ∀ (l : List UInt8) (i d to : Nat), l.length ≤ n → cEnd l i d = (to, 0) → i + 1 ≤ to ∧ to ≤ i + l.length := by
  induction n with
  | zero => intro l i d to h he; have : l = [] := List.eq_nil_of_length_eq_zero (by omega); subst this; rw [cEnd_nil] at he; simp at he
  | succ n ih =>
    intro l i d to hl he
    cases l with
    | nil => rw [cEnd_nil] at he; simp at he
    | cons c t =>
      simp only [List.length_cons] at hl ⊢
      by_cases h1 : c.toNat = 40
      · by_cases hd : d = 8
        · subst hd; rw [cEnd_deep c t i h1] at he; simp at he
        · rw [cEnd_open c t i d h1 hd] at he; have := ih t _ _ to (by omega) he; omega
      · by_cases h2 : c.toNat = 41
        · by_cases hd : d = 1
          · subst hd; rw [cEnd_last c t i h2] at he; simp at he; omega
          · rw [cEnd_shut c t i d h2 hd] at he; have := ih t _ _ to (by omega) he; omega
        · by_cases hs : (stepS (c :: t) i).2 = 0
          · rw [cEnd_step c t i d h1 h2 hs] at he
            have hk := stepS_ok _ _ hs
            have := ih ((c :: t).drop ((stepS (c :: t) i).1 - i)) _ d to (by simp only [List.length_drop, List.length_cons] at *; omega) he
            simp only [List.length_drop, List.length_cons] at *; omega
          · rw [cEnd_err c t i d h1 h2 hs] at he; rw [he] at hs; simp at hs
/-- Comment: text, offset, error. -/
def cmR (l : List UInt8) (at' : Int) : Nat × Int := cEnd (l.drop (at'.toNat + 1)) (at'.toNat + 1) 1
def cmT (l : List UInt8) (at' : Int) : List UInt8 := if opE 40 l at' ≠ 0 ∨ (cmR l at').2 ≠ 0 then [] else (l.drop (at'.toNat + 1)).take ((cmR l at').1 - 1 - (at'.toNat + 1))
def cmN (l : List UInt8) (at' : Int) : Int := if opE 40 l at' ≠ 0 then opN l at' else (cmR l at').1
def cmE (l : List UInt8) (at' : Int) : Int := if opE 40 l at' ≠ 0 then opE 40 l at' else (cmR l at').2

/-- Quote: the escaped text between marks. -/
def escL (l : List UInt8) : List UInt8 := l.flatMap fun c => if c.toNat = 34 ∨ c.toNat = 92 then [92, c] else [c]
def hasCtl (l : List UInt8) : Bool := l.any fun c => ctlI c.toNat
def quT (l : List UInt8) : List UInt8 := if hasCtl l then [] else [34] ++ escL l ++ [34]
def quE (l : List UInt8) : Int := if hasCtl l then 5 else 0
end Lx
end Go.Proofs.YtakanjadcnmciaaDoor
