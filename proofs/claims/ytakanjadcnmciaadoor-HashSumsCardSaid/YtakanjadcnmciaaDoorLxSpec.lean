/- The plain specifications of the layer lexis: functions on lists of bytes, with no program in them. No conditions. -/
import Derived.WalkKit
namespace Go.Proofs.YtakanjadcnmciaaDoor
namespace Lx

def blankI (c : Int) : Bool := c == 32 || c == 9
def ctlI (c : Int) : Bool := (decide (c < 32) && c != 9) || c == 127
def digitI (c : Int) : Bool := decide (48 ≤ c) && decide (c ≤ 57)
def letterI (c : Int) : Bool := (decide (65 ≤ c) && decide (c ≤ 90)) || (decide (97 ≤ c) && decide (c ≤ 122))
def escI (c : Int) : Bool := decide (32 ≤ c) && decide (c ≤ 126)
def marksL : List UInt8 := [45, 46, 33, 37, 42, 95, 43, 39, 126, 96]
def markI (c : Int) : Bool := marksL.any fun b => (b.toNat : Int) == c
def tokI (c : Int) : Bool := letterI c || (digitI c || markI c)

/-- How many bytes at the front are of the class. -/
def runL (p : Int → Bool) : List UInt8 → Nat
  | [] => 0
  | c :: t => if p c.toNat then runL p t + 1 else 0

theorem drop_step (s : ByteArray) (k : Nat) (h : k < s.size) : s.data.toList.drop k = s[k] :: s.data.toList.drop (k + 1) := by
  rw [List.drop_eq_getElem_cons (by simpa using h)]; rfl
theorem drop_end (s : ByteArray) (k : Nat) (h : s.size ≤ k) : s.data.toList.drop k = [] := List.drop_eq_nil_of_le (by simpa using h)
theorem take_snoc (s : ByteArray) (k : Nat) (h : k < s.size) : s.data.toList.take (k + 1) = s.data.toList.take k ++ [s[k]] := by
  rw [List.take_succ_eq_append_getElem (by simpa using h)]; rfl
theorem len_list (s : ByteArray) : s.data.toList.length = s.size := by simp

theorem runL_le (p : Int → Bool) (l : List UInt8) : runL p l ≤ l.length := by
  induction l with
  | nil => simp [runL]
  | cons c t ih => simp only [runL]; split <;> simp <;> omega

/-- The offset behind the run of bytes of the class that begins at k. -/
def bhd (p : Int → Bool) (s : ByteArray) (k : Nat) : Nat := k + runL p (s.data.toList.drop k)
theorem bhd_yes (p : Int → Bool) (s : ByteArray) (k : Nat) (h : k < s.size) (hp : p s[k].toNat = true) : bhd p s k = bhd p s (k + 1) := by
  unfold bhd; rw [drop_step s k h]; simp [runL, hp]; omega
theorem bhd_no (p : Int → Bool) (s : ByteArray) (k : Nat) (h : k < s.size) (hp : p s[k].toNat = false) : bhd p s k = k := by
  unfold bhd; rw [drop_step s k h]; simp [runL, hp]
theorem bhd_end (p : Int → Bool) (s : ByteArray) (k : Nat) (h : s.size ≤ k) : bhd p s k = k := by
  unfold bhd; rw [drop_end s k h]; simp [runL]
theorem bhd_ge (p : Int → Bool) (s : ByteArray) (k : Nat) : k ≤ bhd p s k := by unfold bhd; omega
theorem bhd_le (p : Int → Bool) (s : ByteArray) (k : Nat) (h : k ≤ s.size) : bhd p s k ≤ s.size := by
  unfold bhd
  have := runL_le p (s.data.toList.drop k)
  simp at this
  omega

/-- The number that digits are. -/
def valL (l : List UInt8) : Int := l.foldl (fun n c => n * 10 + ((c.toNat : Int) - 48)) 0
theorem valL_snoc (l : List UInt8) (c : UInt8) : valL (l ++ [c]) = valL l * 10 + ((c.toNat : Int) - 48) := by simp [valL]
def allD (l : List UInt8) : Bool := l.all fun c => digitI c.toNat
theorem allD_snoc (l : List UInt8) (c : UInt8) : allD (l ++ [c]) = (allD l && digitI c.toNat) := by simp [allD]
theorem snoc_ind {α : Type} {P : List α → Prop} (h0 : P []) (h1 : ∀ l c, P l → P (l ++ [c])) (l : List α) : P l := by
  have : ∀ r : List α, P r.reverse := by
    intro r
    induction r with
    | nil => exact h0
    | cons c r ih => rw [List.reverse_cons]; exact h1 _ _ ih
  have h := this l.reverse
  rwa [List.reverse_reverse] at h
theorem valL_bd (l : List UInt8) (h : allD l = true) : 0 ≤ valL l ∧ valL l < 10 ^ l.length := by
  revert h
  refine snoc_ind (P := fun l => allD l = true → 0 ≤ valL l ∧ valL l < 10 ^ l.length) ?_ ?_ l
  · intro _; simp [valL]
  · intro l c ih h
    rw [allD_snoc, Bool.and_eq_true] at h
    have hc := h.2
    simp [digitI] at hc
    have := ih h.1
    rw [valL_snoc]
    simp only [List.length_append, List.length_cons, List.length_nil]
    rw [Int.pow_succ]
    omega
theorem valL_small (l : List UInt8) (h : allD l = true) (hl : l.length ≤ 9) : 0 ≤ valL l ∧ valL l ≤ 999999999 := by
  have h1 := valL_bd l h
  have h2 : (10 : Int) ^ l.length ≤ 10 ^ 9 := by
    have := Nat.pow_le_pow_right (n := 10) (by omega) hl
    exact_mod_cast this
  have h3 : (10 : Int) ^ 9 = 1000000000 := by decide
  omega
theorem runL_all (l : List UInt8) : runL digitI l = l.length ↔ allD l = true := by
  induction l with
  | nil => simp [runL, allD]
  | cons c t ih =>
    simp only [runL, allD, List.all_cons, List.length_cons, Bool.and_eq_true]
    have := runL_le digitI t
    split
    · rename_i h; simp only [h, true_and]; rw [← allD, ← ih]; omega
    · rename_i h; simp [h]

/-- What Number returns, and its error. -/
def numN (l : List UInt8) : Int := if l.length < 1 ∨ 10 < l.length ∨ allD l = false ∨ 2147483647 < valL l then 0 else valL l
def numE (l : List UInt8) : Int := if l.length < 1 ∨ 10 < l.length ∨ allD l = false then 5 else if 2147483647 < valL l then 3 else 0
theorem num_bad (l : List UInt8) (h : l.length < 1 ∨ 10 < l.length ∨ allD l = false) : numN l = 0 ∧ numE l = 5 := by
  unfold numN numE; rw [if_pos h, if_pos (by rcases h with h | h | h <;> simp [h])]; simp
theorem num_big (l : List UInt8) (h1 : 1 ≤ l.length) (h2 : l.length ≤ 10) (h3 : allD l = true) (h4 : 2147483647 < valL l) : numN l = 0 ∧ numE l = 3 := by
  unfold numN numE; rw [if_pos (by simp [h4]), if_neg (by intro h; rcases h with h | h | h; omega; omega; rw [h3] at h; cases h), if_pos h4]; simp
theorem num_ok (l : List UInt8) (h1 : 1 ≤ l.length) (h2 : l.length ≤ 10) (h3 : allD l = true) (h4 : valL l ≤ 2147483647) : numN l = valL l ∧ numE l = 0 := by
  unfold numN numE; rw [if_neg (by intro h; rcases h with h | h | h | h; omega; omega; rw [h3] at h; cases h; omega), if_neg (by intro h; rcases h with h | h | h; omega; omega; rw [h3] at h; cases h), if_neg (by omega)]; simp
theorem allD_take_false (l : List UInt8) (k : Nat) (h : allD (l.take k) = false) : allD l = false := by
  by_cases hh : allD l = true
  · have : allD (l.take k) = true := by
      simp only [allD, List.all_eq_true] at hh ⊢
      intro x hx; exact hh x (List.mem_of_mem_take hx)
    rw [this] at h; cases h
  · simpa using hh

theorem ret_int {k : IntKind} {a b : Int} (h : a = b) : Ending.returned (.int k a) = .returned (.int k b) := by rw [h]
theorem ret_bool {a b : Bool} (h : a = b) : Ending.returned (.bool a) = .returned (.bool b) := by rw [h]
theorem ret_ii {k k' : IntKind} {a b c d : Int} (h : a = b) (h' : c = d) : Ending.returned (.tuple #[.int k a, .int k' c]) = .returned (.tuple #[.int k b, .int k' d]) := by rw [h, h']
theorem ret_si {k : IntKind} {a b : ByteArray} {c d : Int} (h : a = b) (h' : c = d) : Ending.returned (.tuple #[.string a, .int k c]) = .returned (.tuple #[.string b, .int k d]) := by rw [h, h']
theorem ret_sii {k k' : IntKind} {a b : ByteArray} {c d e f : Int} (h : a = b) (h' : c = d) (h'' : e = f) : Ending.returned (.tuple #[.string a, .int k c, .int k' e]) = .returned (.tuple #[.string b, .int k d, .int k' f]) := by rw [h, h', h'']
def Ret (v : Value) (w : World) (e : Ending) (w' : World) : Prop := e = .returned v ∧ w = w'

end Lx
end Go.Proofs.YtakanjadcnmciaaDoor
