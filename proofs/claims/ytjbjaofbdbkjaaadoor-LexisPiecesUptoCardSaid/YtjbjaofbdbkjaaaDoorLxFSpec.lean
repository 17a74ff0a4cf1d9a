/- The plain specification of Fold: where a line is broken, and what is printed. No program in it, no conditions. -/
import Derived.Test.YtjbjaofbdbkjaaaDoorLxUSpec
import Derived.Test.YtjbjaofbdbkjaaaDoorLxQSpec
namespace Go.Proofs.YtjbjaofbdbkjaaaDoor
namespace Lx

def at0 (s : ByteArray) (i : Nat) : Int := if h : i < s.size then ((s[i]'h).toNat : Int) else 0
theorem at0_eq (s : ByteArray) (i : Nat) (h : i < s.size) : at0 s i = ((s[i]'h).toNat : Int) := by unfold at0; rw [dif_pos h]
def brkAt (s : ByteArray) (i : Nat) : Bool := at0 s i == 32 && !blankI (at0 s (i - 1)) && !blankI (at0 s (i + 1))
/-- The break at which a line is divided; 0 if it has none. -/
def brkF (s : ByteArray) (w : Int) (i best : Nat) : Nat :=
  if i + 1 < s.size then brkF s w (i + 1) (if brkAt s i && (decide ((i : Int) ≤ w) || best == 0) then i else best) else best
termination_by s.size - i
theorem brkF_end (s : ByteArray) (w : Int) (i best : Nat) (h : ¬ i + 1 < s.size) : brkF s w i best = best := by rw [brkF, if_neg h]
theorem brkF_next (s : ByteArray) (w : Int) (i best : Nat) (h : i + 1 < s.size) : brkF s w i best = brkF s w (i + 1) (if brkAt s i && (decide ((i : Int) ≤ w) || best == 0) then i else best) := by rw [brkF, if_pos h]
theorem brkF_stop (s : ByteArray) (w : Int) (n : Nat) : ∀ (i best : Nat), s.size - i ≤ n → w < i → best ≠ 0 → brkF s w i best = best := by
  induction n with
  | zero => intro i best h _ _; exact brkF_end _ _ _ _ (by omega)
  | succ n ih =>
    intro i best h h1 h2
    by_cases h3 : i + 1 < s.size
    · rw [brkF_next _ _ _ _ h3]
      have : (brkAt s i && (decide ((i : Int) ≤ w) || best == 0)) = false := by
        have e1 : decide ((i : Int) ≤ w) = false := by simp; omega
        have e2 : (best == 0) = false := by simp [h2]
        rw [e1, e2]; simp
      rw [this, if_neg (by simp)]
      exact ih _ _ (by omega) (by omega) h2
    · exact brkF_end _ _ _ _ h3
theorem brkF_lt (s : ByteArray) (w : Int) (n : Nat) : ∀ (i best : Nat), s.size - i ≤ n → best < s.size → brkF s w i best < s.size := by
  induction n with
  | zero => intro i best h hb; rw [brkF_end _ _ _ _ (by omega)]; exact hb
  | succ n ih =>
    intro i best h hb
    by_cases h3 : i + 1 < s.size
    · rw [brkF_next _ _ _ _ h3]
      refine ih _ _ (by omega) ?_
      split <;> omega
    · rw [brkF_end _ _ _ _ h3]; exact hb
def foldF (w : Int) : Nat → ByteArray → List UInt8
  | 0, s => s.data.toList ++ crlf
  | n + 1, s => if (s.size : Int) ≤ w then s.data.toList ++ crlf else if brkF s w 1 0 = 0 then s.data.toList ++ crlf
    else (s.extract 0 (brkF s w 1 0)).data.toList ++ crlf ++ foldF w n (s.extract (brkF s w 1 0) s.size)
theorem foldF_end (w : Int) (n : Nat) (s : ByteArray) (h : (s.size : Int) ≤ w ∨ brkF s w 1 0 = 0) : foldF w n s = s.data.toList ++ crlf := by
  cases n with
  | zero => rfl
  | succ n =>
    unfold foldF
    rcases h with h | h
    · rw [if_pos h]
    · split
      · rfl
      · first | rfl | rw [if_pos h]
theorem foldF_next (w : Int) (n : Nat) (s : ByteArray) (h : ¬ (s.size : Int) ≤ w) (h2 : brkF s w 1 0 ≠ 0) : foldF w (n + 1) s = (s.extract 0 (brkF s w 1 0)).data.toList ++ crlf ++ foldF w n (s.extract (brkF s w 1 0) s.size) := by
  conv => lhs; unfold foldF
  rw [if_neg h, if_neg h2]
def foE (s : ByteArray) (w : Int) : Int := if w < 20 ∨ 1000 < w then 2 else if hasCtl s.data.toList || !decide (Lib.trimS s.data.toList blk = s.data.toList) then 5 else 0
def foT (s : ByteArray) (w : Int) : List UInt8 := if foE s w ≠ 0 then [] else foldF w s.size s
end Lx
end Go.Proofs.YtjbjaofbdbkjaaaDoor
