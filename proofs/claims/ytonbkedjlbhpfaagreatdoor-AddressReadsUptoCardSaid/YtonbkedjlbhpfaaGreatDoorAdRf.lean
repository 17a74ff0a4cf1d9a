/- Contracts of the reference's number and label (dialtoneref02), of texts of at most 2^21 bytes. -/
import Derived.Test.YtonbkedjlbhpfaaGreatDoorAdRe
namespace Go.Proofs.YtonbkedjlbhpfaaGreatDoor
namespace Ad
open Go.RowKit Lx

set_option maxRecDepth 100000 in
set_option maxHeartbeats 1000000 in
theorem rnum_any (s : ByteArray) (w : World) (hs : s.size ≤ 2097152) :
    Calls Tryz.prog 181 #[.string s] w (Ret (.bool (numB s.data.toList)) w) := by
  by_cases h1 : 1 ≤ s.size
  · by_cases h3 : s.size ≤ 3
    · by_cases hz : s.size ≤ 1 ∨ s[0] ≠ 48
      · have hnum := Lib.hid (by unfold numB; rw [head_at s h1, len_list]; rcases hz with hz | hz <;> simp [h1, h3, hz] : numB s.data.toList = (allD s.data.toList && decide (valL s.data.toList ≤ 255)))
        have hzt : (decide (1 < s.size) && ((s[0].toNat : Int) == 48)) = false := by
          rcases hz with hz | hz
          · rw [show decide (1 < s.size) = false from decide_eq_false (by omega)]; rfl
          · have := (u8_ne s[0] 48 (by omega)).1 hz
            rw [bne_iff_ne] at this
            rw [show ((s[0].toNat : Int) == 48) = false from beq_eq_false_iff_ne.2 this]; simp
        have Hzt := Lib.hid hzt
        have HL := Lib.hid (len_list s)
        clear hzt
        have hz2 : 1 < s.size → ((s[0].toNat : Int) == 48) = false := fun h => by
          rcases hz with hz | hz
          · omega
          · have := (u8_ne s[0] 48 (by omega)).1 hz; rw [bne_iff_ne] at this; exact beq_eq_false_iff_ne.2 this
        have Hz2 := Lib.hid hz2
        clear hz hz2
        by_cases h1s : 1 < s.size
        all_goals
          try have hz3 := Hz2.out h1s
          go_enter Tryz.func181, Tryz.ntmps181
          go_wp2_with fail
          go_loop [3, 4] (fun n i => ∃ k : Nat, k ≤ s.size ∧ i = .int .i64 k ∧ n = .int .i64 (valL (s.data.toList.take k)) ∧ allD (s.data.toList.take k) = true) (fun _ i => s.size - (intOf i).toNat)
          case atStart => exact ⟨0, by omega, rfl, rfl, rfl⟩
          case round =>
            obtain ⟨k, hk, rfl, rfl, ha⟩ := hrel
            have hv := valL_small (s.data.toList.take k) ha (by simp; omega)
            have Ha := Lib.hid ha
            clear ha
            by_cases hlt : k < s.size
            · have hsn := Lib.hid (by rw [take_snoc s k hlt, valL_snoc] : valL (s.data.toList.take (k + 1)) = valL (s.data.toList.take k) * 10 + ((s[k].toNat : Int) - 48))
              have hsd := Lib.hid (by rw [take_snoc s k hlt, allD_snoc] : allD (s.data.toList.take (k + 1)) = (allD (s.data.toList.take k) && digitI s[k].toNat))
              cases hd : digitI s[k].toNat
              · have HF := Lib.hid (by rw [hnum.out, allD_true_at s k hlt hd]; rfl : numB s.data.toList = false)
                have Hd := Lib.hid hd
                clear hd
                go_wp2_with fail
                refine (rdigit_any _ _).mono ?_
                rintro e w' ⟨rfl, rfl⟩
                rw [Hd.out]
                go_wp2_with fail
                go_ret
                exact ⟨ret_bool (by rw [HF.out]), rfl⟩
              · have hd' : 48 ≤ (s[k].toNat : Int) ∧ (s[k].toNat : Int) ≤ 57 := by simpa [digitI] using hd
                obtain ⟨d1, d2⟩ := hd'
                have Hd := Lib.hid hd
                clear hd
                go_wp2_with fail
                refine (rdigit_any _ _).mono ?_
                rintro e w' ⟨rfl, rfl⟩
                rw [Hd.out]
                go_wp2_with fail
                go_round
                case rel => exact ⟨k + 1, by omega, by go_num, by rw [hsn.out, Int.mul_comm], by rw [hsd.out, Ha.out, Hd.out]; rfl⟩
                case measure => simp [intOf]; omega
            · have hF := Lib.hid (by have := Ha.out; rw [List.take_of_length_le (by rw [HL.out]; omega)] at this; rw [hnum.out, this, List.take_of_length_le (by rw [HL.out]; omega)]; rfl : numB s.data.toList = decide (valL (s.data.toList.take k) ≤ 255))
              go_wp2_with fail
              go_ret
              exact ⟨ret_bool (by rw [hF.out]), rfl⟩
      · have hz' : ¬ s.size ≤ 1 ∧ s[0] = 48 := by
          constructor
          · intro h; exact hz (.inl h)
          · exact Decidable.byContradiction fun h => hz (.inr h)
        obtain ⟨hz1, hz2⟩ := hz'
        have t0 : ((s[0].toNat : Int) == 48) = true := by rw [hz2]; rfl
        have h1s : 1 < s.size := by omega
        have HF := Lib.hid (by unfold numB; rw [head_at s h1, len_list]; simp [hz1, hz2] : numB s.data.toList = false)
        clear hz hz2
        go_enter Tryz.func181, Tryz.ntmps181
        go_wp2_with fail
        go_ret
        exact ⟨ret_bool (by rw [HF.out]), rfl⟩
    · have HF := Lib.hid (by unfold numB; rw [len_list]; simp [h3] : numB s.data.toList = false)
      go_enter Tryz.func181, Tryz.ntmps181
      go_wp2_with fail
      go_ret
      exact ⟨ret_bool (by rw [HF.out]), rfl⟩
  · have HF := Lib.hid (by unfold numB; rw [len_list]; simp [h1] : numB s.data.toList = false)
    go_enter Tryz.func181, Tryz.ntmps181
    go_wp2_with fail
    go_ret
    exact ⟨ret_bool (by rw [HF.out]), rfl⟩
theorem all_take (p : UInt8 → Bool) (s : ByteArray) (k : Nat) (hk : k < s.size) (h : (s.data.toList.take k).all p = true) (hp : p s[k] = true) : (s.data.toList.take (k + 1)).all p = true := by
  rw [take_snoc s k hk, List.all_append, h]; simp [hp]
theorem all_not (p : UInt8 → Bool) (s : ByteArray) (k : Nat) (hk : k < s.size) (hp : p s[k] = false) : s.data.toList.all p = false := by
  rw [Bool.eq_false_iff]; intro ha
  have := List.all_eq_true.1 ha s[k] (Array.getElem_mem_toList (xs := s.data) hk)
  rw [hp] at this; cases this
def wdB (l : List UInt8) : Bool := l.any fun c => !digitI c.toNat
theorem wdB_snoc (s : ByteArray) (k : Nat) (hk : k < s.size) : wdB (s.data.toList.take (k + 1)) = (wdB (s.data.toList.take k) || !digitI s[k].toNat) := by
  unfold wdB; rw [take_snoc s k hk]; simp
set_option maxRecDepth 100000 in
set_option maxHeartbeats 2000000 in
theorem rlabel_any (s : ByteArray) (w : World) (hs : s.size ≤ 2097152) :
    Calls Tryz.prog 180 #[.string s] w (Ret (.tuple #[.bool (lblB s.data.toList), .bool (lblB s.data.toList && wdB s.data.toList)]) w) := by
  by_cases h1 : 1 ≤ s.size
  · by_cases h63 : s.size ≤ 63
    · have hL := Lib.hid (by unfold lblB; rw [head_at s h1, last_at s h1, len_list]; simp only [h1, h63, decide_true, Bool.true_and] : lblB s.data.toList = (decide (s[0] ≠ 45) && decide (s[s.size - 1] ≠ 45) && s.data.toList.all fun c => lblC c.toNat))
      by_cases ha : s[0] = 45
      · have ta : ((s[0].toNat : Int) == 45) = true := by rw [ha]; rfl
        have HL := Lib.hid (by rw [hL.out]; simp [ha] : lblB s.data.toList = false)
        clear ha hL
        go_enter Tryz.func180, Tryz.ntmps180
        go_wp2_with fail
        go_ret2
        exact ⟨ret_bb HL.out.symm (by rw [HL.out]; rfl), rfl⟩
      · have ta : ((s[0].toNat : Int) == 45) = false := by have := (u8_ne _ 45 (by omega)).1 ha; rw [bne_iff_ne] at this; exact beq_eq_false_iff_ne.2 this
        by_cases hb : s[s.size - 1] = 45
        · have tb : ((s[s.size - 1].toNat : Int) == 45) = true := by rw [hb]; rfl
          have HL := Lib.hid (by rw [hL.out]; simp [hb] : lblB s.data.toList = false)
          clear ha hb hL
          go_enter Tryz.func180, Tryz.ntmps180
          go_wp2_with fail
          go_ret2
          exact ⟨ret_bb HL.out.symm (by rw [HL.out]; rfl), rfl⟩
        · have tb : ((s[s.size - 1].toNat : Int) == 45) = false := by have := (u8_ne _ 45 (by omega)).1 hb; rw [bne_iff_ne] at this; exact beq_eq_false_iff_ne.2 this
          have HA := Lib.hid (by rw [hL.out]; simp [ha, hb] : lblB s.data.toList = s.data.toList.all fun c => lblC c.toNat)
          clear ha hb hL
          go_enter Tryz.func180, Tryz.ntmps180
          go_wp2_with fail
          go_loop [4, 5] (fun v i => ∃ k : Nat, k ≤ s.size ∧ i = .int .i64 k ∧ v = .bool (wdB (s.data.toList.take k)) ∧ ((s.data.toList.take k).all fun c => lblC c.toNat) = true) (fun _ i => s.size - (intOf i).toNat)
          case atStart => exact ⟨0, by omega, rfl, rfl, rfl⟩
          case round =>
            obtain ⟨k, hk, rfl, rfl, hal⟩ := hrel
            have Hal := Lib.hid hal
            clear hal
            by_cases hlt : k < s.size
            · have HW := Lib.hid (wdB_snoc s k hlt)
              obtain ⟨bw, hbw⟩ : ∃ bw, wdB (s.data.toList.take k) = bw := ⟨_, rfl⟩
              rw [hbw]
              have Hbw := Lib.hid hbw
              clear hbw
              cases hl : letterI s[k].toNat
              · cases hd : digitI s[k].toNat
                · by_cases h45 : s[k].toNat = 45
                  · have t45 : ((s[k].toNat : Int) != 45) = false := by rw [h45]; rfl
                    have HC := Lib.hid (by unfold lblC; rw [h45]; simp : lblC s[k].toNat = true)
                    have Hl := Lib.hid hl
                    have Hd := Lib.hid hd
                    clear hl hd h45
                    cases bw
                    · skip
                      go_wp2_with fail
                      refine (rletter_any _ _).mono ?_
                      rintro e w' ⟨rfl, rfl⟩
                      rw [Hl.out]
                      go_wp2_with fail
                      refine (rdigit_any _ _).mono ?_
                      rintro e w' ⟨rfl, rfl⟩
                      rw [Hd.out]
                      go_wp2_with fail
                      refine (rdigit_any _ _).mono ?_
                      rintro e w' ⟨rfl, rfl⟩
                      rw [Hd.out]
                      go_wp2_with fail
                      go_round
                      case rel => exact ⟨k + 1, by omega, by go_num, by rw [HW.out, Hbw.out, Hd.out]; rfl, all_take _ s k hlt Hal.out HC.out⟩
                      case measure => simp [intOf]; omega
                    · skip
                      go_wp2_with fail
                      refine (rletter_any _ _).mono ?_
                      rintro e w' ⟨rfl, rfl⟩
                      rw [Hl.out]
                      go_wp2_with fail
                      refine (rdigit_any _ _).mono ?_
                      rintro e w' ⟨rfl, rfl⟩
                      rw [Hd.out]
                      go_wp2_with fail
                      go_round
                      case rel => exact ⟨k + 1, by omega, by go_num, by rw [HW.out, Hbw.out, Hd.out]; rfl, all_take _ s k hlt Hal.out HC.out⟩
                      case measure => simp [intOf]; omega
                  · have t45 : ((s[k].toNat : Int) != 45) = true := by rw [bne_iff_ne]; omega
                    have HC := Lib.hid (by unfold lblC; rw [hl, hd]; simp; omega : lblC s[k].toNat = false)
                    have HF := Lib.hid (by rw [HA.out]; exact all_not _ s k hlt HC.out : lblB s.data.toList = false)
                    have Hl := Lib.hid hl
                    have Hd := Lib.hid hd
                    clear hl hd h45
                    go_wp2_with fail
                    refine (rletter_any _ _).mono ?_
                    rintro e w' ⟨rfl, rfl⟩
                    rw [Hl.out]
                    go_wp2_with fail
                    refine (rdigit_any _ _).mono ?_
                    rintro e w' ⟨rfl, rfl⟩
                    rw [Hd.out]
                    go_wp2_with fail
                    go_ret2
                    exact ⟨ret_bb HF.out.symm (by rw [HF.out]; rfl), rfl⟩
                · have HC := Lib.hid (by unfold lblC; rw [hd]; simp : lblC s[k].toNat = true)
                  have Hl := Lib.hid hl
                  have Hd := Lib.hid hd
                  clear hl hd
                  cases bw
                  · skip
                    go_wp2_with fail
                    refine (rletter_any _ _).mono ?_
                    rintro e w' ⟨rfl, rfl⟩
                    rw [Hl.out]
                    go_wp2_with fail
                    refine (rdigit_any _ _).mono ?_
                    rintro e w' ⟨rfl, rfl⟩
                    rw [Hd.out]
                    go_wp2_with fail
                    refine (rdigit_any _ _).mono ?_
                    rintro e w' ⟨rfl, rfl⟩
                    rw [Hd.out]
                    go_wp2_with fail
                    go_round
                    case rel => exact ⟨k + 1, by omega, by go_num, by rw [HW.out, Hbw.out, Hd.out]; rfl, all_take _ s k hlt Hal.out HC.out⟩
                    case measure => simp [intOf]; omega
                  · skip
                    go_wp2_with fail
                    refine (rletter_any _ _).mono ?_
                    rintro e w' ⟨rfl, rfl⟩
                    rw [Hl.out]
                    go_wp2_with fail
                    refine (rdigit_any _ _).mono ?_
                    rintro e w' ⟨rfl, rfl⟩
                    rw [Hd.out]
                    go_wp2_with fail
                    go_round
                    case rel => exact ⟨k + 1, by omega, by go_num, by rw [HW.out, Hbw.out, Hd.out]; rfl, all_take _ s k hlt Hal.out HC.out⟩
                    case measure => simp [intOf]; omega
              · have hd : digitI s[k].toNat = false := by
                  have h1 : ((65 : Int) ≤ s[k].toNat ∧ (s[k].toNat : Int) ≤ 90) ∨ ((97 : Int) ≤ s[k].toNat ∧ (s[k].toNat : Int) ≤ 122) := by simpa [letterI] using hl
                  simp [digitI]; omega
                have HC := Lib.hid (by unfold lblC; rw [hl]; simp : lblC s[k].toNat = true)
                have Hl := Lib.hid hl
                have Hd := Lib.hid hd
                clear hl hd
                cases bw
                · skip
                  go_wp2_with fail
                  refine (rletter_any _ _).mono ?_
                  rintro e w' ⟨rfl, rfl⟩
                  rw [Hl.out]
                  go_wp2_with fail
                  refine (rdigit_any _ _).mono ?_
                  rintro e w' ⟨rfl, rfl⟩
                  rw [Hd.out]
                  go_wp2_with fail
                  go_round
                  case rel => exact ⟨k + 1, by omega, by go_num, by rw [HW.out, Hbw.out, Hd.out]; rfl, all_take _ s k hlt Hal.out HC.out⟩
                  case measure => simp [intOf]; omega
                · skip
                  go_wp2_with fail
                  refine (rletter_any _ _).mono ?_
                  rintro e w' ⟨rfl, rfl⟩
                  rw [Hl.out]
                  go_wp2_with fail
                  go_round
                  case rel => exact ⟨k + 1, by omega, by go_num, by rw [HW.out, Hbw.out, Hd.out]; rfl, all_take _ s k hlt Hal.out HC.out⟩
                  case measure => simp [intOf]; omega
            · have htk : s.data.toList.take k = s.data.toList := List.take_of_length_le (by rw [len_list]; omega)
              have HF := Lib.hid (by have := Hal.out; rw [htk] at this; rw [HA.out, this] : lblB s.data.toList = true)
              have HG := Lib.hid (by rw [htk] : wdB (s.data.toList.take k) = wdB s.data.toList)
              clear htk
              go_wp2_with fail
              go_ret2
              exact ⟨ret_bb HF.out.symm (by rw [HF.out, HG.out]; rfl), rfl⟩
    · have HL := Lib.hid (by unfold lblB; rw [len_list]; simp [h63] : lblB s.data.toList = false)
      go_enter Tryz.func180, Tryz.ntmps180
      go_wp2_with fail
      go_ret2
      exact ⟨ret_bb HL.out.symm (by rw [HL.out]; rfl), rfl⟩
  · have HL := Lib.hid (by unfold lblB; rw [len_list]; simp [h1] : lblB s.data.toList = false)
    go_enter Tryz.func180, Tryz.ntmps180
    go_wp2_with fail
    go_ret2
    exact ⟨ret_bb HL.out.symm (by rw [HL.out]; rfl), rfl⟩
end Ad
end Go.Proofs.YtonbkedjlbhpfaaGreatDoor
