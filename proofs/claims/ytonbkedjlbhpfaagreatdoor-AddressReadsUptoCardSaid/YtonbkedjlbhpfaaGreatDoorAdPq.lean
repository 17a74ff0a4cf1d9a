/- Contract of printable of package address. Texts have at most 2^21 bytes. -/
import Derived.Test.YtonbkedjlbhpfaaGreatDoorAdPp
import Derived.Test.YtonbkedjlbhpfaaGreatDoorAdGw
namespace Go.Proofs.YtonbkedjlbhpfaaGreatDoor
namespace Ad
open Go.RowKit Lx

theorem txt_beqD (a b : List UInt8) : ((Txt a).toList == (Txt b).toList) = decide (a = b) := by
  by_cases h : a = b
  · rw [txt_beqT _ _ h, decide_eq_true h]
  · rw [txt_beq _ _ h, decide_eq_false h]
theorem emp_D (l : List UInt8) : ((Txt l).toList == ([] : List UInt8)) = decide (l = []) := by
  by_cases h : l = []
  · rw [emp_yes _ h, decide_eq_true h]
  · rw [emp_no _ h, decide_eq_false h]
/-- A text, and memory that is only added to. -/
def TxK (l : List UInt8) (w : World) (e : Ending) (w' : World) : Prop := e = .returned (.string (Txt l)) ∧ Kp [] w w'
end Ad
end Go.Proofs.YtonbkedjlbhpfaaGreatDoor
