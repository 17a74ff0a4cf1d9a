/- Contract of printValue of package address. Texts have at most 2^21 bytes. -/
import Derived.Test.YtmmjfofdnpafkaaGreatDoorM8
namespace Go.Proofs.YtmmjfofdnpafkaaGreatDoor
namespace Ad
open Go.RowKit Lx

theorem runL_full (p : Int → Bool) (l : List UInt8) : runL p l = l.length ↔ (l.all fun c => p c.toNat) = true := by
  induction l with
  | nil => simp [runL]
  | cons c t ih =>
    have := runL_le p t
    simp only [runL, List.all_cons, List.length_cons, Bool.and_eq_true]
    cases hc : p c.toNat
    · simp
    · simp only [if_true, true_and, ← ih]; omega
theorem tokenB_eq (s : ByteArray) : tokenB s = tokB s.data.toList := by
  unfold tokenB tokB
  have e : bhd tokI s 0 = runL tokI s.data.toList := by unfold bhd; rw [List.drop_zero, Nat.zero_add]
  have hl := len_list s
  rw [e, hl]
  congr 1
  rw [Bool.eq_iff_iff, decide_eq_true_iff, ← runL_full, hl]
theorem tok_n (l : List UInt8) (w : World) (hs : l.length ≤ 2097152) : Calls Tryz.prog 85 #[.string (Txt l)] w (Ret (.bool (tokB l)) w) := by
  have := token_any (Txt l) w (by rw [txt_size]; unfold maxLen; omega)
  rw [tokenB_eq, txt_list] at this
  exact this
theorem hasP_n (l : List UInt8) (w : World) : Calls Tryz.prog 101 #[.string (Txt l), .string ⟨#[91]⟩] w (Ret (.bool (decide (l.head? = some 91))) w) := by
  have := hasP_any (Txt l) w
  rw [txt_list] at this
  exact this
/-- A text, and memory that is only added to. -/
def TxP (l : List UInt8) (w : World) (e : Ending) (w' : World) : Prop := e = .returned (.string (Txt l)) ∧ Below w.heap.size w w'
set_option maxRecDepth 100000 in
set_option maxHeartbeats 2000000 in
theorem printValue_any (l : List UInt8) (w : World) (hs : l.length ≤ 2097152) (hc : hasCtl l = false) (E : Env w) : Calls Tryz.prog 131 #[.string (Txt l)] w (TxP (pvL l) w) := by
  have hsz : (Txt l).size ≤ 2097152 := by rw [txt_size]; exact hs
  have H0 := Host_any (Txt l) w hsz E
  rw [txt_list] at H0
  obtain ⟨o, ho⟩ : ∃ o, hostO l = o := ⟨_, rfl⟩
  rw [ho] at H0
  have HH := Lib.hid H0
  obtain ⟨T, hT⟩ : ∃ T, tokB l = T := ⟨_, rfl⟩
  obtain ⟨Pf, hP⟩ : ∃ Pf, decide (l.head? = some 91) = Pf := ⟨_, rfl⟩
  have HT := Lib.hid hT
  have HP := Lib.hid hP
  have hV : pvL l = if (T || (Pf && decide (o = some l))) = true then l else [34] ++ escL l ++ [34] := by unfold pvL; rw [hT, hP, ho]
  have hq : quT l = [34] ++ escL l ++ [34] := by unfold quT; rw [if_neg (by rw [hc]; decide)]
  have HQ := Lib.hid hq
  clear H0 E ho hT hP hq
  cases T
  · cases Pf
    · have HV := Lib.hid (hV.trans (by rw [if_neg (by simp)]) : pvL l = [34] ++ escL l ++ [34])
      clear hV
      go_enter Tryz.func131, Tryz.ntmps131
      go_wp2_with fail
      refine (hasP_n l _).mono ?_
      rintro e w' ⟨rfl, rfl⟩
      rw [HP.out]
      go_wp2_with fail
      refine HH.out.mono ?_
      rintro e w2 ⟨rfl, hB2⟩
      have HB2 := Lib.hid hB2
      clear hB2
      go_wp2_with fail
      refine (tok_n l _ hs).mono ?_
      rintro e w' ⟨rfl, rfl⟩
      rw [HT.out]
      go_wp2_with fail
      refine (Lx.quote_any (Txt l) _ (by omega)).mono ?_
      rintro e w3 ⟨rfl, hB3⟩
      rw [txt_list, HQ.out]
      have HB3 := Lib.hid (((Kp.refl [] w).below HB2.out).below hB3)
      clear hB3
      go_wp2_with fail
      go_ret
      rw [HV.out]
      exact ⟨rfl, HB3.out.nilBelow⟩
    · cases o with
      | none =>
        have HV := Lib.hid (hV.trans (by rw [if_neg (by simp)]) : pvL l = [34] ++ escL l ++ [34])
        clear hV
        go_enter Tryz.func131, Tryz.ntmps131
        go_wp2_with fail
        refine (hasP_n l _).mono ?_
        rintro e w' ⟨rfl, rfl⟩
        rw [HP.out]
        go_wp2_with fail
        refine HH.out.mono ?_
        rintro e w2 ⟨rfl, hB2⟩
        have HB2 := Lib.hid hB2
        clear hB2
        go_wp2_with fail
        refine (tok_n l _ hs).mono ?_
        rintro e w' ⟨rfl, rfl⟩
        rw [HT.out]
        go_wp2_with fail
        refine (Lx.quote_any (Txt l) _ (by omega)).mono ?_
        rintro e w3 ⟨rfl, hB3⟩
        rw [txt_list, HQ.out]
        have HB3 := Lib.hid (((Kp.refl [] w).below HB2.out).below hB3)
        clear hB3
        go_wp2_with fail
        go_ret
        rw [HV.out]
        exact ⟨rfl, HB3.out.nilBelow⟩
      | some h =>
        by_cases hh : h = l
        · have bs : ((Txt h).toList == (Txt l).toList) = true := by rw [hh]; exact beq_self_eq_true _
          have HV := Lib.hid (hV.trans (by rw [if_pos (by rw [hh]; simp)]) : pvL l = l)
          clear hV hh
          go_enter Tryz.func131, Tryz.ntmps131
          go_wp2_with fail
          refine (hasP_n l _).mono ?_
          rintro e w' ⟨rfl, rfl⟩
          rw [HP.out]
          go_wp2_with fail
          refine HH.out.mono ?_
          rintro e w2 ⟨rfl, hB2⟩
          have HB2 := Lib.hid hB2
          clear hB2
          go_wp2_with fail
          refine (tok_n l _ hs).mono ?_
          rintro e w' ⟨rfl, rfl⟩
          rw [HT.out]
          go_wp2_with fail
          go_ret
          rw [HV.out]
          exact ⟨rfl, HB2.out⟩
        · have bs : ((Txt h).toList == (Txt l).toList) = false := by rw [Lib.toList_data, Lib.toList_data, beq_eq_false_iff_ne]; exact hh
          have HV := Lib.hid (hV.trans (by rw [if_neg (by simp [hh])]) : pvL l = [34] ++ escL l ++ [34])
          clear hV hh
          go_enter Tryz.func131, Tryz.ntmps131
          go_wp2_with fail
          refine (hasP_n l _).mono ?_
          rintro e w' ⟨rfl, rfl⟩
          rw [HP.out]
          go_wp2_with fail
          refine HH.out.mono ?_
          rintro e w2 ⟨rfl, hB2⟩
          have HB2 := Lib.hid hB2
          clear hB2
          go_wp2_with fail
          refine (tok_n l _ hs).mono ?_
          rintro e w' ⟨rfl, rfl⟩
          rw [HT.out]
          go_wp2_with fail
          refine (Lx.quote_any (Txt l) _ (by omega)).mono ?_
          rintro e w3 ⟨rfl, hB3⟩
          rw [txt_list, HQ.out]
          have HB3 := Lib.hid (((Kp.refl [] w).below HB2.out).below hB3)
          clear hB3
          go_wp2_with fail
          go_ret
          rw [HV.out]
          exact ⟨rfl, HB3.out.nilBelow⟩
  · have HV := Lib.hid (hV.trans (by rw [if_pos (by simp)]) : pvL l = l)
    clear hV
    go_enter Tryz.func131, Tryz.ntmps131
    go_wp2_with fail
    refine (hasP_n l _).mono ?_
    rintro e w' ⟨rfl, rfl⟩
    rw [HP.out]
    go_wp2_with fail
    refine HH.out.mono ?_
    rintro e w2 ⟨rfl, hB2⟩
    have HB2 := Lib.hid hB2
    clear hB2
    go_wp2_with fail
    refine (tok_n l _ hs).mono ?_
    rintro e w' ⟨rfl, rfl⟩
    rw [HT.out]
    go_wp2_with fail
    go_ret
    rw [HV.out]
    exact ⟨rfl, HB2.out⟩
end Ad
end Go.Proofs.YtmmjfofdnpafkaaGreatDoor
