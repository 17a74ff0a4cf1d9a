/- The plain specification of Split. No conditions. -/
import Derived.Test.YtjbjaofbdbkjaaaDoorLxS
namespace Go.Proofs.YtjbjaofbdbkjaaaDoor
namespace Lx

abbrev SpRes := List (Nat × List UInt8) × Nat × Int
def spR (l : List UInt8) (sep : Int) : Nat → Nat → Nat → List (Nat × List UInt8) → SpRes
  | 0, a, _, acc => (acc ++ [pcOf l a l.length], 0, 0)
  | n + 1, a, k, acc => match l.drop k with
    | [] => (acc ++ [pcOf l a l.length], 0, 0)
    | c :: _ => if (c.toNat : Int) = sep then spR l sep n (k + 1) (k + 1) (acc ++ [pcOf l a k])
      else if (skR l k).2 = 0 then spR l sep n a (skR l k).1 acc else ([], (skR l k).1, (skR l k).2)
def sepBad (sep : Int) : Bool := blankI sep || sep == 34 || sep == 60 || sep == 62
def spF (l : List UInt8) (sep : Int) : SpRes := if sepBad sep then ([], 0, 2) else spR l sep l.length 0 0 []
theorem spR_end (s : ByteArray) (sep : Int) (n a k : Nat) (acc : List (Nat × List UInt8)) (h : s.size ≤ k) : spR s.data.toList sep n a k acc = (acc ++ [pcOf s.data.toList a s.size], 0, 0) := by
  cases n with
  | zero => unfold spR; rw [len_list]
  | succ n => unfold spR; rw [drop_end s k h, len_list]
theorem spR_sep (s : ByteArray) (sep : Int) (n a k : Nat) (acc : List (Nat × List UInt8)) (h : k < s.size) (h2 : (s[k].toNat : Int) = sep) : spR s.data.toList sep (n + 1) a k acc = spR s.data.toList sep n (k + 1) (k + 1) (acc ++ [pcOf s.data.toList a k]) := by
  conv => lhs; unfold spR
  rw [drop_step s k h]
  dsimp only
  rw [if_pos h2]
theorem spR_skip (s : ByteArray) (sep : Int) (n a k : Nat) (acc : List (Nat × List UInt8)) (h : k < s.size) (h2 : ¬ (s[k].toNat : Int) = sep) (h3 : (skR s.data.toList k).2 = 0) : spR s.data.toList sep (n + 1) a k acc = spR s.data.toList sep n a (skR s.data.toList k).1 acc := by
  conv => lhs; unfold spR
  rw [drop_step s k h]
  dsimp only
  rw [if_neg h2, if_pos h3]
theorem spR_err (s : ByteArray) (sep : Int) (n a k : Nat) (acc : List (Nat × List UInt8)) (h : k < s.size) (h2 : ¬ (s[k].toNat : Int) = sep) (h3 : ¬ (skR s.data.toList k).2 = 0) : spR s.data.toList sep (n + 1) a k acc = ([], (skR s.data.toList k).1, (skR s.data.toList k).2) := by
  conv => lhs; unfold spR
  rw [drop_step s k h]
  dsimp only
  rw [if_neg h2, if_neg h3]
theorem spR_len (l : List UInt8) (sep : Int) (n : Nat) : ∀ (a k : Nat) (acc : List (Nat × List UInt8)), (spR l sep n a k acc).1.length ≤ acc.length + n + 1 := by
  induction n with
  | zero => intro a k acc; unfold spR; simp
  | succ n ih =>
    intro a k acc
    unfold spR
    split
    · simp
    · split
      · have := ih (k + 1) (k + 1) (acc ++ [pcOf l a k]); simp at this ⊢; omega
      · split
        · have := ih a (skR l k).1 acc; omega
        · simp
end Lx
end Go.Proofs.YtjbjaofbdbkjaaaDoor
