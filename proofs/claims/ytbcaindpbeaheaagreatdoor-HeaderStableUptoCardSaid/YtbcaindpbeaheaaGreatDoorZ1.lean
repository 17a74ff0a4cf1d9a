/- Texts of one set of library modules: LxSpec, LxQSpec. -/
import Derived.WalkKit
namespace Go.Proofs.YtbcaindpbeaheaaGreatDoor
namespace Lx
def blankI (c : Int) : Bool := c == 32 || c == 9
def ctlI (c : Int) : Bool := (decide (c < 32) && c != 9) || c == 127
def digitI (c : Int) : Bool := decide (48 ≤ c) && decide (c ≤ 57)
def letterI (c : Int) : Bool := (decide (65 ≤ c) && decide (c ≤ 90)) || (decide (97 ≤ c) && decide (c ≤ 122))
def escI (c : Int) : Bool := decide (32 ≤ c) && decide (c ≤ 126)
def marksL : List UInt8 := [45, 46, 33, 37, 42, 95, 43, 39, 126, 96]
def markI (c : Int) : Bool := marksL.any fun b => (b.toNat : Int) == c
def tokI (c : Int) : Bool := letterI c || (digitI c || markI c)
def runL (p : Int → Bool) : List UInt8 → Nat
 | [] => 0
 | c :: t => if p c.toNat then runL p t + 1 else 0
theorem drop_step (s : ByteArray) (k : Nat) (h : k < s.size) : s.data.toList.drop k = s[k] :: s.data.toList.drop (k + 1) := by
 rw [List.drop_eq_getElem_cons (by simpa using h)]; rfl
theorem drop_end (s : ByteArray) (k : Nat) (h : s.size ≤ k) : s.data.toList.drop k = [] := List.drop_eq_nil_of_le (by simpa using h)
theorem take_snoc (s : ByteArray) (k : Nat) (h : k < s.size) : s.data.toList.take (k + 1) = s.data.toList.take k ++ [s[k]] := by
 rw [List.take_succ_eq_append_getElem (by simpa using h)]; rfl
theorem len_list (s : ByteArray) : s.data.toList.length = s.size := by simp
theorem runL_le (p : Int → Bool) (l : List UInt8) : runL p l ≤ l.length := by
 induction l with
 | nil => simp [runL]
 | cons c t ih => simp only [runL]; split <;> simp <;> omega
def bhd (p : Int → Bool) (s : ByteArray) (k : Nat) : Nat := k + runL p (s.data.toList.drop k)
theorem bhd_yes (p : Int → Bool) (s : ByteArray) (k : Nat) (h : k < s.size) (hp : p s[k].toNat = true) : bhd p s k = bhd p s (k + 1) := by
 unfold bhd; rw [drop_step s k h]; simp [runL, hp]; omega
theorem bhd_no (p : Int → Bool) (s : ByteArray) (k : Nat) (h : k < s.size) (hp : p s[k].toNat = false) : bhd p s k = k := by
 unfold bhd; rw [drop_step s k h]; simp [runL, hp]
theorem bhd_end (p : Int → Bool) (s : ByteArray) (k : Nat) (h : s.size ≤ k) : bhd p s k = k := by
 unfold bhd; rw [drop_end s k h]; simp [runL]
theorem bhd_le (p : Int → Bool) (s : ByteArray) (k : Nat) (h : k ≤ s.size) : bhd p s k ≤ s.size := by
 unfold bhd
 have := runL_le p (s.data.toList.drop k)
 simp at this
 omega
def valL (l : List UInt8) : Int := l.foldl (fun n c => n * 10 + ((c.toNat : Int) - 48)) 0
theorem valL_snoc (l : List UInt8) (c : UInt8) : valL (l ++ [c]) = valL l * 10 + ((c.toNat : Int) - 48) := by simp [valL]
def allD (l : List UInt8) : Bool := l.all fun c => digitI c.toNat
theorem allD_snoc (l : List UInt8) (c : UInt8) : allD (l ++ [c]) = (allD l && digitI c.toNat) := by simp [allD]
theorem snoc_ind {α : Type} {P : List α → Prop} (h0 : P []) (h1 : ∀ l c, P l → P (l ++ [c])) (l : List α) : P l := by
 have : ∀ r : List α, P r.reverse := by
  intro r
  induction r with
  | nil => exact h0
  | cons c r ih => rw [List.reverse_cons]; exact h1 _ _ ih
 have h := this l.reverse
 rwa [List.reverse_reverse] at h
theorem valL_bd (l : List UInt8) (h : allD l = true) : 0 ≤ valL l ∧ valL l < 10 ^ l.length := by
 revert h
 refine snoc_ind (P := fun l => allD l = true → 0 ≤ valL l ∧ valL l < 10 ^ l.length) ?_ ?_ l
 ·intro _; simp [valL]
 ·intro l c ih h
  rw [allD_snoc, Bool.and_eq_true] at h
  have hc := h.2
  simp [digitI] at hc
  have := ih h.1
  rw [valL_snoc]
  simp only [List.length_append, List.length_cons, List.length_nil]
  rw [Int.pow_succ]
  omega
theorem valL_small (l : List UInt8) (h : allD l = true) (hl : l.length ≤ 9) : 0 ≤ valL l ∧ valL l ≤ 999999999 := by
 have h1 := valL_bd l h
 have h2 : (10 : Int) ^ l.length ≤ 10 ^ 9 := by
  have := Nat.pow_le_pow_right (n := 10) (by omega) hl
  exact_mod_cast this
 have h3 : (10 : Int) ^ 9 = 1000000000 := by decide
 omega
theorem runL_all (l : List UInt8) : runL digitI l = l.length ↔ allD l = true := by
 induction l with
 | nil => simp [runL, allD]
 | cons c t ih =>
   simp only [runL, allD, List.all_cons, List.length_cons, Bool.and_eq_true]
   have := runL_le digitI t
   split
   ·rename_i h; simp only [h, true_and]; rw [← allD, ← ih]; omega
   ·rename_i h; simp [h]
def numN (l : List UInt8) : Int := if l.length < 1 ∨ 10 < l.length ∨ allD l = false ∨ 2147483647 < valL l then 0 else valL l
def numE (l : List UInt8) : Int := if l.length < 1 ∨ 10 < l.length ∨ allD l = false then 5 else if 2147483647 < valL l then 3 else 0
theorem num_bad (l : List UInt8) (h : l.length < 1 ∨ 10 < l.length ∨ allD l = false) : numN l = 0 ∧ numE l = 5 := by
 unfold numN numE; rw [if_pos h, if_pos (by rcases h with h | h | h <;> simp [h])]; simp
theorem num_big (l : List UInt8) (h1 : 1 ≤ l.length) (h2 : l.length ≤ 10) (h3 : allD l = true) (h4 : 2147483647 < valL l) : numN l = 0 ∧ numE l = 3 := by
 unfold numN numE; rw [if_pos (by simp [h4]), if_neg (by intro h; rcases h with h | h | h; omega; omega; rw [h3] at h; cases h), if_pos h4]; simp
theorem num_ok (l : List UInt8) (h1 : 1 ≤ l.length) (h2 : l.length ≤ 10) (h3 : allD l = true) (h4 : valL l ≤ 2147483647) : numN l = valL l ∧ numE l = 0 := by
 unfold numN numE; rw [if_neg (by intro h; rcases h with h | h | h | h; omega; omega; rw [h3] at h; cases h; omega), if_neg (by intro h; rcases h with h | h | h; omega; omega; rw [h3] at h; cases h), if_neg (by omega)]; simp
theorem ret_int {k : IntKind} {a b : Int} (h : a = b) : Ending.returned (.int k a) = .returned (.int k b) := by rw [h]
theorem ret_bool {a b : Bool} (h : a = b) : Ending.returned (.bool a) = .returned (.bool b) := by rw [h]
theorem ret_ii {k k' : IntKind} {a b c d : Int} (h : a = b) (h' : c = d) : Ending.returned (.tuple #[.int k a, .int k' c]) = .returned (.tuple #[.int k b, .int k' d]) := by rw [h, h']
theorem ret_si {k : IntKind} {a b : ByteArray} {c d : Int} (h : a = b) (h' : c = d) : Ending.returned (.tuple #[.string a, .int k c]) = .returned (.tuple #[.string b, .int k d]) := by rw [h, h']
def Ret (v : Value) (w : World) (e : Ending) (w' : World) : Prop := e = .returned v ∧ w = w'
end Lx
end Go.Proofs.YtbcaindpbeaheaaGreatDoor
namespace Go.Proofs.YtbcaindpbeaheaaGreatDoor
namespace Lx
def stepS (l : List UInt8) (i : Nat) : Nat × Int :=
 match l with
 | [] => (i, 6)
 | c :: t =>
   if ctlI c.toNat then (i, 5) else if c.toNat ≠ 92 then (i + 1, 0) else
    match t with
    | [] => (i + 1, 6)
    | d :: _ => if escI d.toNat then (i + 2, 0) else (i, 5)
theorem stepS_ctl (c : UInt8) (t : List UInt8) (i : Nat) (h : ctlI c.toNat = true) : stepS (c :: t) i = (i, 5) := by simp [stepS, h]
theorem stepS_one (c : UInt8) (t : List UInt8) (i : Nat) (h : ctlI c.toNat = false) (h2 : c.toNat ≠ 92) : stepS (c :: t) i = (i + 1, 0) := by simp [stepS, h, h2]
theorem stepS_end (c : UInt8) (i : Nat) (h : ctlI c.toNat = false) (h2 : c.toNat = 92) : stepS [c] i = (i + 1, 6) := by unfold stepS; simp only; rw [if_neg (by rw [h]; simp), if_neg (by omega)]
theorem stepS_bad (c d : UInt8) (t : List UInt8) (i : Nat) (h : ctlI c.toNat = false) (h2 : c.toNat = 92) (h3 : escI d.toNat = false) : stepS (c :: d :: t) i = (i, 5) := by unfold stepS; simp only; rw [if_neg (by rw [h]; simp), if_neg (by omega)]; rw [if_neg (by rw [h3]; simp)]
theorem stepS_two (c d : UInt8) (t : List UInt8) (i : Nat) (h : ctlI c.toNat = false) (h2 : c.toNat = 92) (h3 : escI d.toNat = true) : stepS (c :: d :: t) i = (i + 2, 0) := by unfold stepS; simp only; rw [if_neg (by rw [h]; simp), if_neg (by omega)]; rw [if_pos h3]
theorem stepS_ok (l : List UInt8) (i : Nat) (h : (stepS l i).2 = 0) : i < (stepS l i).1 ∧ (stepS l i).1 ≤ i + l.length ∧ (stepS l i).1 ≤ i + 2 := by
 unfold stepS at h ⊢
 match l with
 | [] => simp at h
 | [c] =>
   simp only [] at h ⊢
   split at h
   ·simp at h
   ·rename_i hc; rw [if_neg hc]; split at h
    ·rename_i h9; rw [if_pos h9]; simp
    ·simp at h
 | c :: d :: t =>
   simp only [] at h ⊢
   split at h
   ·simp at h
   ·rename_i hc; rw [if_neg hc]; split at h
    ·rename_i h9; rw [if_pos h9]; simp
    ·rename_i h9; rw [if_neg h9]; split at h
     ·rename_i he; rw [if_pos he]; simp
     ·simp at h
theorem stepS_e (l : List UInt8) (i : Nat) : (stepS l i).2 = 0 ∨ (stepS l i).2 = 5 ∨ (stepS l i).2 = 6 := by
 unfold stepS
 match l with
 | [] => simp
 | [c] => simp only []; split; simp; split <;> simp
 | c :: d :: t => simp only []; split; simp; split; simp; split <;> simp
def qEnd (l : List UInt8) (i : Nat) : Nat × Int :=
 match l with
 | [] => (i, 6)
 | c :: t =>
   if c.toNat = 34 then (i + 1, 0)
   else if _h : (stepS (c :: t) i).2 = 0 then qEnd ((c :: t).drop ((stepS (c :: t) i).1 - i)) (stepS (c :: t) i).1 else stepS (c :: t) i
termination_by l.length
decreasing_by have := stepS_ok _ _ (by assumption); simp only [List.length_drop, List.length_cons] at *; omega
theorem qEnd_nil (i : Nat) : qEnd [] i = (i, 6) := by rw [qEnd]
theorem qEnd_quote (c : UInt8) (t : List UInt8) (i : Nat) (h : c.toNat = 34) : qEnd (c :: t) i = (i + 1, 0) := by rw [qEnd, if_pos h]
theorem qEnd_err (c : UInt8) (t : List UInt8) (i : Nat) (h : c.toNat ≠ 34) (h2 : (stepS (c :: t) i).2 ≠ 0) : qEnd (c :: t) i = stepS (c :: t) i := by rw [qEnd, if_neg h, dif_neg h2]
theorem qEnd_step (c : UInt8) (t : List UInt8) (i : Nat) (h : c.toNat ≠ 34) (h2 : (stepS (c :: t) i).2 = 0) : qEnd (c :: t) i = qEnd ((c :: t).drop ((stepS (c :: t) i).1 - i)) (stepS (c :: t) i).1 := by
 conv => lhs; rw [qEnd, if_neg h, dif_pos h2]
def qText (l : List UInt8) : List UInt8 :=
 match l with
 | [] => []
 | c :: t => if c.toNat = 34 then [] else if c.toNat ≠ 92 then c :: qText t else match t with | [] => [] | d :: u => d :: qText u
def unesc (l : List UInt8) : List UInt8 :=
 match l with
 | [] => []
 | c :: t => if c.toNat ≠ 92 then c :: unesc t else match t with | [] => [] | d :: u => d :: unesc u
def escOK (l : List UInt8) : Bool :=
 match l with
 | [] => true
 | c :: t => if c.toNat ≠ 92 then escOK t else match t with | [] => false | _ :: u => escOK u
theorem unesc_one (c : UInt8) (t : List UInt8) (h : c.toNat ≠ 92) : unesc (c :: t) = c :: unesc t := by rw [unesc.eq_def]; simp [h]
theorem unesc_two (c d : UInt8) (t : List UInt8) (h : c.toNat = 92) : unesc (c :: d :: t) = d :: unesc t := by rw [unesc.eq_def]; simp [h]
theorem escOK_one (c : UInt8) (t : List UInt8) (h : c.toNat ≠ 92) : escOK (c :: t) = escOK t := by rw [escOK.eq_def]; simp [h]
theorem escOK_two (c d : UInt8) (t : List UInt8) (h : c.toNat = 92) : escOK (c :: d :: t) = escOK t := by rw [escOK.eq_def]; simp [h]
theorem escOK_end (c : UInt8) (h : c.toNat = 92) : escOK [c] = false := by rw [escOK.eq_def]; simp [h]
theorem qText_quote (c : UInt8) (t : List UInt8) (h : c.toNat = 34) : qText (c :: t) = [] := by rw [qText.eq_def]; simp [h]
theorem qText_one (c : UInt8) (t : List UInt8) (h : c.toNat ≠ 34) (h2 : c.toNat ≠ 92) : qText (c :: t) = c :: qText t := by rw [qText.eq_def]; simp [h, h2]
theorem qText_two (c d : UInt8) (t : List UInt8) (h2 : c.toNat = 92) : qText (c :: d :: t) = d :: qText t := by rw [qText.eq_def]; simp [h2]
theorem step_kind (c : UInt8) (t : List UInt8) (i : Nat) (h : (stepS (c :: t) i).2 = 0) :
   (c.toNat ≠ 92 ∧ (stepS (c :: t) i).1 = i + 1) ∨ (∃ d u, c.toNat = 92 ∧ t = d :: u ∧ (stepS (c :: t) i).1 = i + 2) := by
 cases hc : ctlI c.toNat
 ·by_cases h9 : c.toNat = 92
  ·cases t with
   | nil => rw [stepS_end c i hc h9] at h; simp at h
   | cons d u =>
     cases hd : escI d.toNat
     ·rw [stepS_bad c d u i hc h9 hd] at h; simp at h
     ·rw [stepS_two c d u i hc h9 hd]; exact .inr ⟨d, u, h9, rfl, rfl⟩
  ·rw [stepS_one c t i hc h9]; exact .inl ⟨h9, rfl⟩
 ·rw [stepS_ctl c t i hc] at h; simp at h
theorem qEnd_part (n : Nat) : ∀ (l : List UInt8) (i to : Nat), l.length ≤ n → qEnd l i = (to, 0) →
   i + 1 ≤ to ∧ to ≤ i + l.length ∧ escOK (l.take (to - 1 - i)) = true ∧ unesc (l.take (to - 1 - i)) = qText l := by
 induction n with
 | zero => intro l i to h he; have : l = [] := List.eq_nil_of_length_eq_zero (by omega); subst this; rw [qEnd_nil] at he; simp at he
 | succ n ih =>
   intro l i to hl he
   cases l with
   | nil => rw [qEnd_nil] at he; simp at he
   | cons c t =>
     by_cases hq : c.toNat = 34
     ·rw [qEnd_quote c t i hq] at he
      simp at he
      subst he
      have : i + 1 - 1 - i = 0 := by omega
      rw [this, qText_quote c t hq]
      simp [escOK, unesc]
     ·by_cases hs : (stepS (c :: t) i).2 = 0
      ·rw [qEnd_step c t i hq hs] at he
       rcases step_kind c t i hs with ⟨h9, h1⟩ | ⟨d, u, h9, rfl, h1⟩
       ·rw [h1] at he
        have e1 : i + 1 - i = 1 := by omega
        rw [e1, List.drop_succ_cons, List.drop_zero] at he
        simp only [List.length_cons] at hl
        obtain ⟨a1, a2, a3, a4⟩ := ih t (i + 1) to (by omega) he
        have e2 : to - 1 - i = (to - 1 - (i + 1)) + 1 := by omega
        rw [e2, List.take_succ_cons, escOK_one c _ h9, unesc_one c _ h9, qText_one c t hq h9, a4]
        refine ⟨by omega, by simp; omega, a3, rfl⟩
       ·rw [h1] at he
        have e1 : i + 2 - i = 2 := by omega
        rw [e1, List.drop_succ_cons, List.drop_succ_cons, List.drop_zero] at he
        simp only [List.length_cons] at hl
        obtain ⟨a1, a2, a3, a4⟩ := ih u (i + 2) to (by omega) he
        have e2 : to - 1 - i = (to - 1 - (i + 2)) + 1 + 1 := by omega
        rw [e2, List.take_succ_cons, List.take_succ_cons, escOK_two c d _ h9, unesc_two c d _ h9, qText_two c d u h9, a4]
        refine ⟨by omega, by simp; omega, a3, rfl⟩
      ·rw [qEnd_err c t i hq hs] at he
       rw [he] at hs; simp at hs
def opN (l : List UInt8) (at' : Int) : Int := if at' < 0 ∨ (l.length : Int) < at' then 0 else at'
def opE (mark : Int) (l : List UInt8) (at' : Int) : Int :=
 if at' < 0 ∨ (l.length : Int) < at' then 2 else match l.drop at'.toNat with | [] => 5 | c :: _ => if (c.toNat : Int) = mark then 0 else 5
def uqR (l : List UInt8) (at' : Int) : Nat × Int := qEnd (l.drop (at'.toNat + 1)) (at'.toNat + 1)
def uqT (l : List UInt8) (at' : Int) : List UInt8 := if opE 34 l at' ≠ 0 ∨ (uqR l at').2 ≠ 0 then [] else qText (l.drop (at'.toNat + 1))
def uqN (l : List UInt8) (at' : Int) : Int := if opE 34 l at' ≠ 0 then opN l at' else (uqR l at').1
def uqE (l : List UInt8) (at' : Int) : Int := if opE 34 l at' ≠ 0 then opE 34 l at' else (uqR l at').2
def escL (l : List UInt8) : List UInt8 := l.flatMap fun c => if c.toNat = 34 ∨ c.toNat = 92 then [92, c] else [c]
def hasCtl (l : List UInt8) : Bool := l.any fun c => ctlI c.toNat
def quT (l : List UInt8) : List UInt8 := if hasCtl l then [] else [34] ++ escL l ++ [34]
def quE (l : List UInt8) : Int := if hasCtl l then 5 else 0
end Lx
end Go.Proofs.YtbcaindpbeaheaaGreatDoor
