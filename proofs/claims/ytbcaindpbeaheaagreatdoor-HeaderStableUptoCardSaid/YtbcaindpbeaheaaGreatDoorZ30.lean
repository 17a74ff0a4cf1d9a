/- Texts of one set of library modules: LxRound. -/
import Derived.Test.YtbcaindpbeaheaaGreatDoorZ29
import Derived.Test.YtbcaindpbeaheaaGreatDoorZ7
import Derived.Test.YtbcaindpbeaheaaGreatDoorZ5
import Derived.Test.YtbcaindpbeaheaaGreatDoorZ25
import Derived.ShutString
namespace Go.Proofs.YtbcaindpbeaheaaGreatDoor
namespace Lx
open Go.RowKit
theorem esc_of_ctl (c : UInt8) (h2 : c.toNat = 34 ∨ c.toNat = 92) : escI c.toNat = true := by
 rcases h2 with h2 | h2 <;> rw [h2] <;> decide
theorem escL_cons (c : UInt8) (t : List UInt8) : escL (c :: t) = (if c.toNat = 34 ∨ c.toNat = 92 then [92, c] else [c]) ++ escL t := by simp [escL]
theorem round_spec (b : List UInt8) : ∀ (l : List UInt8) (i : Nat), hasCtl l = false → qEnd (escL l ++ [34] ++ b) i = (i + (escL l).length + 1, 0) ∧ qText (escL l ++ [34] ++ b) = l ∧ l.length ≤ (escL l).length := by
 intro l
 induction l with
 | nil =>
   intro i _
   have : escL [] ++ [34] ++ b = 34 :: b := by simp [escL]
   rw [this, qEnd_quote _ _ _ (by decide), qText_quote _ _ (by decide)]
   simp [escL]
 | cons c t ih =>
   intro i h
   simp only [hasCtl, List.any_cons, Bool.or_eq_false_iff] at h
   have hc := h.1
   have ht : hasCtl t = false := h.2
   rw [escL_cons]
   by_cases hq : c.toNat = 34 ∨ c.toNat = 92
   ·rw [if_pos hq]
    obtain ⟨i1, i2, i3⟩ := ih (i + 2) ht
    have e : [92, c] ++ escL t ++ [34] ++ b = 92 :: c :: (escL t ++ [34] ++ b) := by simp
    have hs : stepS (92 :: c :: (escL t ++ [34] ++ b)) i = (i + 2, 0) := stepS_two _ _ _ _ (by decide) (by decide) (esc_of_ctl c hq)
    rw [e, qEnd_step _ _ _ (by decide) (by rw [hs]), qText_two _ _ _ (by decide), hs]
    have : i + 2 - i = 2 := by omega
    simp only [this, List.drop_succ_cons, List.drop_zero]
    rw [i1, i2]
    refine ⟨by simp; omega, rfl, by simp; omega⟩
   ·rw [if_neg hq]
    obtain ⟨i1, i2, i3⟩ := ih (i + 1) ht
    have e : [c] ++ escL t ++ [34] ++ b = c :: (escL t ++ [34] ++ b) := by simp
    have hs : stepS (c :: (escL t ++ [34] ++ b)) i = (i + 1, 0) := stepS_one _ _ _ hc (by omega)
    rw [e, qEnd_step _ _ _ (by omega) (by rw [hs]), qText_one _ _ (by omega) (by omega), hs]
    have : i + 1 - i = 1 := by omega
    simp only [this, List.drop_succ_cons, List.drop_zero]
    rw [i1, i2]
    refine ⟨by simp; omega, rfl, by simp; omega⟩
theorem round_uq (a l b : List UInt8) (h : hasCtl l = false) :
   uqT (a ++ quT l ++ b) a.length = l ∧ uqN (a ++ quT l ++ b) a.length = ((a.length + (quT l).length : Nat) : Int) ∧ uqE (a ++ quT l ++ b) a.length = 0 ∧ l.length + 2 ≤ (quT l).length := by
 have hq : quT l = [34] ++ escL l ++ [34] := by unfold quT; rw [h]; simp
 have hd0 : (a ++ quT l ++ b).drop a.length = 34 :: (escL l ++ [34] ++ b) := by rw [hq]; simp
 have hd1 : (a ++ quT l ++ b).drop (a.length + 1) = escL l ++ [34] ++ b := by rw [← List.drop_drop, hd0]; simp
 have ho : opE 34 (a ++ quT l ++ b) a.length = 0 := by
  unfold opE
  rw [if_neg (by rw [hq]; simp; omega), Int.toNat_natCast, hd0]; rfl
 obtain ⟨r1, r2, r3⟩ := round_spec b l (a.length + 1) h
 have hr : uqR (a ++ quT l ++ b) a.length = (a.length + 1 + (escL l).length + 1, 0) := by
  unfold uqR; rw [Int.toNat_natCast, hd1, r1]
 refine ⟨?_, ?_, ?_, by rw [hq]; simp; omega⟩
 ·unfold uqT; rw [if_neg (by rw [ho, hr]; simp), Int.toNat_natCast, hd1, r2]
 ·unfold uqN; rw [if_neg (by rw [ho]; simp), hr, hq]; simp; omega
 ·unfold uqE; rw [if_neg (by rw [ho]; simp), hr]
end Lx
end Go.Proofs.YtbcaindpbeaheaaGreatDoor
