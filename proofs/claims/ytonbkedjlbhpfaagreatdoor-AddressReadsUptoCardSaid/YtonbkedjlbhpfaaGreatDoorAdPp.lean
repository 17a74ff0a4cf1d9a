/- Contract of printValue of package address. Texts have at most 2^21 bytes. -/
import Derived.Test.YtonbkedjlbhpfaaGreatDoorM8
namespace Go.Proofs.YtonbkedjlbhpfaaGreatDoor
namespace Ad
open Go.RowKit Lx

theorem runL_full (p : Int → Bool) (l : List UInt8) : runL p l = l.length ↔ (l.all fun c => p c.toNat) = true := by
  induction l with
  | nil => simp [runL]
  | cons c t ih =>
    have := runL_le p t
    simp only [runL, List.all_cons, List.length_cons, Bool.and_eq_true]
    cases hc : p c.toNat
    · simp
    · simp only [if_true, true_and, ← ih]; omega
end Ad
end Go.Proofs.YtonbkedjlbhpfaaGreatDoor
