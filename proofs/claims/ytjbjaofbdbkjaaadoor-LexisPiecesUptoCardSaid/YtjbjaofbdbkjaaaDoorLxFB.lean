/- Contracts of lastBreak of package lexis and of broken of package dialtoneref01. Condition: a text has at most 2^30 bytes. -/
import Derived.Test.YtjbjaofbdbkjaaaDoorLxFSpec
import Derived.Test.YtjbjaofbdbkjaaaDoorLxQ
import Derived.Test.YtjbjaofbdbkjaaaDoorLxR
import Derived.Test.YtjbjaofbdbkjaaaDoorLxRound
namespace Go.Proofs.YtjbjaofbdbkjaaaDoor
namespace Lx
open Go.RowKit

def lastV (b : Nat) : Int := if b = 0 then -1 else b
set_option maxRecDepth 100000 in
set_option maxHeartbeats 2000000 in
theorem lastBreak_any (s : ByteArray) (wd : Int) (w : World) (hs : s.size ≤ 1073741824) :
    Calls Tryd.prog 66 #[.string s, .int .i64 wd] w (Ret (.int .i64 (lastV (brkF s wd 1 0))) w) := by
  obtain ⟨R, hR⟩ : ∃ R, brkF s wd 1 0 = R := ⟨_, rfl⟩
  have HR := Lib.hid hR
  rw [hR]
  clear hR
  go_enter Tryd.func66, Tryd.ntmps66
  go_wp2_with fail
  go_loop [5, 6] (fun v i => ∃ (j best : Nat), j ≤ s.size ∧ i = .int .i64 ((j : Int) + 1) ∧ v = .int .i64 (lastV best) ∧ brkF s wd (j + 1) best = R) (fun _ i => s.size + 1 - (intOf i).toNat)
  case atStart => exact ⟨0, 0, by omega, rfl, rfl, HR.out⟩
  case round =>
    obtain ⟨j, best, hj, rfl, rfl, he⟩ := hrel
    obtain ⟨V, hV⟩ : ∃ V, lastV best = V := ⟨_, rfl⟩
    rw [hV]
    have He := Lib.hid he
    have HV := Lib.hid hV
    clear he hV
    by_cases h1 : j + 2 < s.size
    · by_cases hC : wd < (j : Int) + 1 ∧ best ≠ 0
      · have hlt : wd < (j : Int) + 1 := hC.1
        have hV0 : ¬ V < 0 := by have := HV.out; unfold lastV at this; rw [if_neg hC.2] at this; omega
        have HF := Lib.hid (by rw [← HV.out, ← He.out, brkF_stop s wd _ (j + 1) best (Nat.le_refl _) (by omega) hC.2] : V = lastV R)
        clear hC
        go_wp2_with fail
        go_ret
        exact ⟨by rw [HF.out]; rfl, rfl⟩
      · have hor : ((j : Int) + 1 ≤ wd) ∨ (wd < (j : Int) + 1 ∧ V < 0) := by
          by_cases h : (j : Int) + 1 ≤ wd
          · exact .inl h
          · refine .inr ⟨by omega, ?_⟩
            have hb : best = 0 := by
              rcases Nat.eq_zero_or_pos best with h0 | h0
              · exact h0
              · exact absurd ⟨by omega, by omega⟩ hC
            have := HV.out; unfold lastV at this; rw [if_pos hb] at this; omega
        have Hn := Lib.hid (brkF_next s wd (j + 1) best (by omega))
        have Hg := Lib.hid (by
          rcases hor with h | ⟨_, h⟩
          · have : decide (((j + 1 : Nat) : Int) ≤ wd) = true := by simp; omega
            rw [this]; rfl
          · have hb : best = 0 := by
              have hv := HV.out; unfold lastV at hv
              split at hv
              · assumption
              · omega
            rw [hb]; simp : (decide (((j + 1 : Nat) : Int) ≤ wd) || best == 0) = true)
        have Hb := Lib.hid (by unfold brkAt; rw [at0_eq s (j + 1) (by omega), at0_eq s (j + 1 - 1) (by omega), at0_eq s (j + 1 + 1) (by omega)]; rfl : brkAt s (j + 1) = (((s[j + 1].toNat : Int) == 32) && !blankI (s[j].toNat : Int) && !blankI (s[j + 2].toNat : Int)))
        clear hC
        cases h32 : ((s[j + 1].toNat : Int) == 32)
        · have HX := Lib.hid (by rw [← He.out, Hn.out, Hb.out, h32]; simp : brkF s wd (j + 1 + 1) best = R)
          rcases hor with h | ⟨h, h'⟩
          all_goals
            go_wp2_with fail
            go_round
            case rel => exact ⟨j + 1, best, by omega, by go_num, by rw [HV.out], HX.out⟩
            case measure => simp [intOf]; omega
        · cases hp : blankI (s[j].toNat : Int)
          · cases hq : blankI (s[j + 2].toNat : Int)
            · have HX := Lib.hid (by rw [← He.out, Hn.out, Hb.out, Hg.out, h32, hp, hq]; simp : brkF s wd (j + 1 + 1) (j + 1) = R)
              have Hp := Lib.hid hp
              have Hq := Lib.hid hq
              clear hp hq
              rcases hor with h | ⟨h, h'⟩
              all_goals
                go_wp2_with fail
                refine (blank_any _ _).mono ?_
                rintro e w' ⟨rfl, rfl⟩
                rw [Hp.out]
                go_wp2_with fail
                refine (blank_any _ _).mono ?_
                rintro e w' ⟨rfl, rfl⟩
                rw [Hq.out]
                go_wp2_with fail
                go_round
                case rel => exact ⟨j + 1, j + 1, by omega, by go_num, by unfold lastV; rw [if_neg (by omega)]; go_num, HX.out⟩
                case measure => simp [intOf]; omega
            · have HX := Lib.hid (by rw [← He.out, Hn.out, Hb.out, h32, hp, hq]; simp : brkF s wd (j + 1 + 1) best = R)
              have Hp := Lib.hid hp
              have Hq := Lib.hid hq
              clear hp hq
              rcases hor with h | ⟨h, h'⟩
              all_goals
                go_wp2_with fail
                refine (blank_any _ _).mono ?_
                rintro e w' ⟨rfl, rfl⟩
                rw [Hp.out]
                go_wp2_with fail
                refine (blank_any _ _).mono ?_
                rintro e w' ⟨rfl, rfl⟩
                rw [Hq.out]
                go_wp2_with fail
                go_round
                case rel => exact ⟨j + 1, best, by omega, by go_num, by rw [HV.out], HX.out⟩
                case measure => simp [intOf]; omega
          · have HX := Lib.hid (by rw [← He.out, Hn.out, Hb.out, h32, hp]; simp : brkF s wd (j + 1 + 1) best = R)
            have Hp := Lib.hid hp
            clear hp
            rcases hor with h | ⟨h, h'⟩
            all_goals
              go_wp2_with fail
              refine (blank_any _ _).mono ?_
              rintro e w' ⟨rfl, rfl⟩
              rw [Hp.out]
              go_wp2_with fail
              go_round
              case rel => exact ⟨j + 1, best, by omega, by go_num, by rw [HV.out], HX.out⟩
              case measure => simp [intOf]; omega
    · have HF := Lib.hid (by rw [← HV.out, ← He.out, brkF_end s wd (j + 1) best (by omega)] : V = lastV R)
      go_wp2_with fail
      go_ret
      exact ⟨by rw [HF.out]; rfl, rfl⟩

set_option maxRecDepth 100000 in
set_option maxHeartbeats 2000000 in
theorem broken_any (s : ByteArray) (wd : Int) (w : World) (hs : s.size ≤ 1073741824) :
    Calls Tryd.prog 67 #[.string s, .int .i64 wd] w (Ret (.int .i64 (brkF s wd 1 0 : Nat)) w) := by
  obtain ⟨R, hR⟩ : ∃ R, brkF s wd 1 0 = R := ⟨_, rfl⟩
  have HR := Lib.hid hR
  rw [hR]
  clear hR
  go_enter Tryd.func67, Tryd.ntmps67
  go_wp2_with fail
  go_loop [5, 6] (fun v i => ∃ (j best : Nat), j ≤ s.size ∧ i = .int .i64 ((j : Int) + 1) ∧ v = .int .i64 (best : Int) ∧ brkF s wd (j + 1) best = R) (fun _ i => s.size + 1 - (intOf i).toNat)
  case atStart => exact ⟨0, 0, by omega, rfl, rfl, HR.out⟩
  case round =>
    obtain ⟨j, best, hj, rfl, rfl, he⟩ := hrel
    have He := Lib.hid he
    clear he
    by_cases h1 : j + 2 < s.size
    · have Hn := Lib.hid (brkF_next s wd (j + 1) best (by omega))
      have Hb := Lib.hid (by unfold brkAt; rw [at0_eq s (j + 1) (by omega), at0_eq s (j + 1 - 1) (by omega), at0_eq s (j + 1 + 1) (by omega)]; rfl : brkAt s (j + 1) = (((s[j + 1].toNat : Int) == 32) && !blankI (s[j].toNat : Int) && !blankI (s[j + 2].toNat : Int)))
      cases h32 : ((s[j + 1].toNat : Int) == 32)
      · have HX := Lib.hid (by rw [← He.out, Hn.out, Hb.out, h32]; simp : brkF s wd (j + 1 + 1) best = R)
        have h32' : ((s[j + 1].toNat : Int) != 32) = true := by rw [bne, h32]; rfl
        go_wp2_with fail
        go_round
        case rel => exact ⟨j + 1, best, by omega, by go_num, rfl, HX.out⟩
        case measure => simp [intOf]; omega
      · have h32' : ((s[j + 1].toNat : Int) != 32) = false := by rw [bne, h32]; rfl
        cases hp : blankI (s[j].toNat : Int)
        · cases hq : blankI (s[j + 2].toNat : Int)
          · by_cases hle : (j : Int) + 1 ≤ wd
            · have HX := Lib.hid (by rw [← He.out, Hn.out, Hb.out, h32, hp, hq, show decide (((j + 1 : Nat) : Int) ≤ wd) = true from by simp; omega]; simp : brkF s wd (j + 1 + 1) (j + 1) = R)
              have Hp := Lib.hid hp
              have Hq := Lib.hid hq
              clear hp hq
              go_wp2_with fail
              refine (rblank_any _ _).mono ?_
              rintro e w' ⟨rfl, rfl⟩
              rw [Hp.out]
              go_wp2_with fail
              refine (rblank_any _ _).mono ?_
              rintro e w' ⟨rfl, rfl⟩
              rw [Hq.out]
              go_wp2_with fail
              go_round
              case rel => exact ⟨j + 1, j + 1, by omega, by go_num, by go_num, HX.out⟩
              case measure => simp [intOf]; omega
            · cases hb0 : ((best : Int) == 0)
              · have hbn : (best == 0) = false := by rw [beq_eq_false_iff_ne] at hb0 ⊢; omega
                have HX := Lib.hid (by rw [← He.out, Hn.out, Hb.out, h32, hp, hq, show decide (((j + 1 : Nat) : Int) ≤ wd) = false from by simp; omega, hbn]; simp : brkF s wd (j + 1 + 1) best = R)
                have Hp := Lib.hid hp
                have Hq := Lib.hid hq
                clear hp hq hbn
                go_wp2_with fail
                refine (rblank_any _ _).mono ?_
                rintro e w' ⟨rfl, rfl⟩
                rw [Hp.out]
                go_wp2_with fail
                refine (rblank_any _ _).mono ?_
                rintro e w' ⟨rfl, rfl⟩
                rw [Hq.out]
                go_wp2_with fail
                go_round
                case rel => exact ⟨j + 1, best, by omega, by go_num, rfl, HX.out⟩
                case measure => simp [intOf]; omega
              · have hbn : (best == 0) = true := by rw [beq_iff_eq] at hb0 ⊢; omega
                have HX := Lib.hid (by rw [← He.out, Hn.out, Hb.out, h32, hp, hq, hbn]; simp : brkF s wd (j + 1 + 1) (j + 1) = R)
                have Hp := Lib.hid hp
                have Hq := Lib.hid hq
                clear hp hq hbn
                go_wp2_with fail
                refine (rblank_any _ _).mono ?_
                rintro e w' ⟨rfl, rfl⟩
                rw [Hp.out]
                go_wp2_with fail
                refine (rblank_any _ _).mono ?_
                rintro e w' ⟨rfl, rfl⟩
                rw [Hq.out]
                go_wp2_with fail
                go_round
                case rel => exact ⟨j + 1, j + 1, by omega, by go_num, by go_num, HX.out⟩
                case measure => simp [intOf]; omega
          · have HX := Lib.hid (by rw [← He.out, Hn.out, Hb.out, h32, hp, hq]; simp : brkF s wd (j + 1 + 1) best = R)
            have Hp := Lib.hid hp
            have Hq := Lib.hid hq
            clear hp hq
            go_wp2_with fail
            refine (rblank_any _ _).mono ?_
            rintro e w' ⟨rfl, rfl⟩
            rw [Hp.out]
            go_wp2_with fail
            refine (rblank_any _ _).mono ?_
            rintro e w' ⟨rfl, rfl⟩
            rw [Hq.out]
            go_wp2_with fail
            go_round
            case rel => exact ⟨j + 1, best, by omega, by go_num, rfl, HX.out⟩
            case measure => simp [intOf]; omega
        · have HX := Lib.hid (by rw [← He.out, Hn.out, Hb.out, h32, hp]; simp : brkF s wd (j + 1 + 1) best = R)
          have Hp := Lib.hid hp
          clear hp
          go_wp2_with fail
          refine (rblank_any _ _).mono ?_
          rintro e w' ⟨rfl, rfl⟩
          rw [Hp.out]
          go_wp2_with fail
          go_round
          case rel => exact ⟨j + 1, best, by omega, by go_num, rfl, HX.out⟩
          case measure => simp [intOf]; omega
    · have HF := Lib.hid (by rw [← He.out, brkF_end s wd (j + 1) best (by omega)] : R = best)
      go_wp2_with fail
      go_ret
      exact ⟨by rw [HF.out]; rfl, rfl⟩
end Lx
end Go.Proofs.YtjbjaofbdbkjaaaDoor
