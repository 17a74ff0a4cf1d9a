/- Contract of printable of package address. Texts have at most 2^21 bytes. -/
import Derived.Test.YtmmjfofdnpafkaaGreatDoorAdPp
import Derived.Test.YtmmjfofdnpafkaaGreatDoorAdGw
namespace Go.Proofs.YtmmjfofdnpafkaaGreatDoor
namespace Ad
open Go.RowKit Lx

theorem ppB_eq (a b : List UInt8) (c : Bool) : ppB (a, b, c) = (tokB a && (decide (a = lowL a) && (!hasCtl b && (c || decide (b = []))))) := by unfold ppB; simp only [Bool.and_assoc]
theorem txt_beqD (a b : List UInt8) : ((Txt a).toList == (Txt b).toList) = decide (a = b) := by
  by_cases h : a = b
  · rw [txt_beqT _ _ h, decide_eq_true h]
  · rw [txt_beq _ _ h, decide_eq_false h]
theorem emp_D (l : List UInt8) : ((Txt l).toList == ([] : List UInt8)) = decide (l = []) := by
  by_cases h : l = []
  · rw [emp_yes _ h, decide_eq_true h]
  · rw [emp_no _ h, decide_eq_false h]
/-- A text, and memory that is only added to. -/
def TxK (l : List UInt8) (w : World) (e : Ending) (w' : World) : Prop := e = .returned (.string (Txt l)) ∧ Kp [] w w'
theorem tokK (l : List UInt8) (T : Bool) (h : tokB l = T) (hs : l.length ≤ 2097152) (w : World) : Calls Tryz.prog 85 #[.string (Txt l)] w (BoK T w) :=
  (tok_n l w hs).mono fun e w' hh => ⟨by rw [← h]; exact hh.1, by rw [← hh.2]; exact Kp.refl _ _⟩
theorem ctlK (l : List UInt8) (C : Bool) (h : hasCtl l = C) (hs : l.length ≤ 2097152) (w : World) : Calls Tryz.prog 63 #[.string (Txt l), .func (.func 64) #[] #[]] w (BoK C w) :=
  (ctl_n l w hs).mono fun e w' hh => ⟨by rw [← h]; exact hh.1, by rw [← hh.2]; exact Kp.refl _ _⟩
theorem lowK (l : List UInt8) (hs : l.length ≤ 2097152) (w : World) : Calls Tryz.prog 113 #[.string (Txt l)] w (TxK (lowL l) w) :=
  (lower_n (Txt l) w (by rw [txt_size]; exact hs)).mono fun e w' hh => ⟨hh.1, (Kp.refl [] w).below hh.2⟩
set_option maxRecDepth 100000 in
set_option maxHeartbeats 4000000 in
theorem printable_any (q1 q2 : List UInt8) (q3 : Bool) (w : World) (h1 : q1.length ≤ 2097152) (h2 : q2.length ≤ 2097152) :
    Calls Tryz.prog 129 #[.agg #[.string (Txt q1), .string (Txt q2), .bool q3]] w (BoK (ppB (q1, q2, q3)) w) := by
  obtain ⟨wA, hwA⟩ : ∃ wA, w.alloc (.cells #[.string (Txt q1), .string (Txt q2), .bool q3] 72) = wA := ⟨_, rfl⟩
  have BA := show Blk wA w.heap.size 72 #[.string (Txt q1), .string (Txt q2), .bool q3] from by rw [← hwA]; exact Blk.new w _ _
  have KA := Lib.hid (show Kp [] w wA from by rw [← hwA]; exact (Kp.refl [] w).alloc _)
  have g0 := grew_cell (BA.cell 0)
  have g1 := grew_cell (BA.cell 1)
  have g2 := grew_cell (BA.cell 2)
  clear BA
  obtain ⟨T, hT⟩ : ∃ T, tokB q1 = T := ⟨_, rfl⟩
  obtain ⟨L, hL⟩ : ∃ L, decide (q1 = lowL q1) = L := ⟨_, rfl⟩
  obtain ⟨C, hC⟩ : ∃ C, hasCtl q2 = C := ⟨_, rfl⟩
  obtain ⟨N, hN⟩ : ∃ N, decide (q2 = []) = N := ⟨_, rfl⟩
  have bL : ((Txt q1).toList == (Txt (lowL q1)).toList) = L := (txt_beqD _ _).trans hL
  have bN : ((Txt q2).toList == ([] : List UInt8)) = N := (emp_D _).trans hN
  have HT := Lib.hid (fun wz => tokK q1 T hT h1 wz)
  have HC := Lib.hid (fun wz => ctlK q2 C hC h2 wz)
  have HL := Lib.hid (fun wz => lowK q1 h1 wz)
  have HR := Lib.hid (by rw [ppB_eq, hT, hL, hC, hN] : ppB (q1, q2, q3) = (T && (L && (!C && (q3 || N)))))
  clear hT hL hC hN
  cases T
  · go_enter Tryz.func129, Tryz.ntmps129
    go_upto_region 1 with fail
    refine wp_region_grew (by kernel_rfl) (by kernel_rfl) ?_
    repeat (go_big_quiet_step ((first
      | (go_at_call 85; exact Calls.grew_of (HT.out _) (fun _ _ h => h))
      | (go_at_call 113; exact Calls.grew_of (HL.out _) (fun _ _ h => h))
      | (go_at_call 63; exact Calls.grew_of (HC.out _) (fun _ _ h => h)))))
    refine wpQuiet_nil ?_
    intro _ hw'
    obtain ⟨nq, hw''⟩ := hw'
    subst hw''
    go_wp2_with fail
    go_ret
    rw [HR.out]
    exact ⟨rfl, KA.out.trans (grew_kp _ _)⟩
  · cases L
    · go_enter Tryz.func129, Tryz.ntmps129
      go_upto_region 1 with fail
      refine wp_region_grew (by kernel_rfl) (by kernel_rfl) ?_
      repeat (go_big_quiet_step ((first
        | (go_at_call 85; exact Calls.grew_of (HT.out _) (fun _ _ h => h))
        | (go_at_call 113; exact Calls.grew_of (HL.out _) (fun _ _ h => h))
        | (go_at_call 63; exact Calls.grew_of (HC.out _) (fun _ _ h => h)))))
      refine wpQuiet_nil ?_
      intro _ hw'
      obtain ⟨nq, hw''⟩ := hw'
      subst hw''
      go_wp2_with fail
      go_ret
      rw [HR.out]
      exact ⟨rfl, KA.out.trans (grew_kp _ _)⟩
    · cases C
      · cases q3
        · cases N
          · go_enter Tryz.func129, Tryz.ntmps129
            go_upto_region 1 with fail
            refine wp_region_grew (by kernel_rfl) (by kernel_rfl) ?_
            repeat (go_big_quiet_step ((first
              | (go_at_call 85; exact Calls.grew_of (HT.out _) (fun _ _ h => h))
              | (go_at_call 113; exact Calls.grew_of (HL.out _) (fun _ _ h => h))
              | (go_at_call 63; exact Calls.grew_of (HC.out _) (fun _ _ h => h)))))
            refine wpQuiet_nil ?_
            intro _ hw'
            obtain ⟨nq, hw''⟩ := hw'
            subst hw''
            go_wp2_with fail
            go_ret
            rw [HR.out]
            exact ⟨rfl, KA.out.trans (grew_kp _ _)⟩
          · go_enter Tryz.func129, Tryz.ntmps129
            go_upto_region 1 with fail
            refine wp_region_grew (by kernel_rfl) (by kernel_rfl) ?_
            repeat (go_big_quiet_step ((first
              | (go_at_call 85; exact Calls.grew_of (HT.out _) (fun _ _ h => h))
              | (go_at_call 113; exact Calls.grew_of (HL.out _) (fun _ _ h => h))
              | (go_at_call 63; exact Calls.grew_of (HC.out _) (fun _ _ h => h)))))
            refine wpQuiet_nil ?_
            intro _ hw'
            obtain ⟨nq, hw''⟩ := hw'
            subst hw''
            go_wp2_with fail
            go_ret
            rw [HR.out]
            exact ⟨rfl, KA.out.trans (grew_kp _ _)⟩
        · go_enter Tryz.func129, Tryz.ntmps129
          go_upto_region 1 with fail
          refine wp_region_grew (by kernel_rfl) (by kernel_rfl) ?_
          repeat (go_big_quiet_step ((first
            | (go_at_call 85; exact Calls.grew_of (HT.out _) (fun _ _ h => h))
            | (go_at_call 113; exact Calls.grew_of (HL.out _) (fun _ _ h => h))
            | (go_at_call 63; exact Calls.grew_of (HC.out _) (fun _ _ h => h)))))
          refine wpQuiet_nil ?_
          intro _ hw'
          obtain ⟨nq, hw''⟩ := hw'
          subst hw''
          go_wp2_with fail
          go_ret
          rw [HR.out]
          exact ⟨rfl, KA.out.trans (grew_kp _ _)⟩
      · go_enter Tryz.func129, Tryz.ntmps129
        go_upto_region 1 with fail
        refine wp_region_grew (by kernel_rfl) (by kernel_rfl) ?_
        repeat (go_big_quiet_step ((first
          | (go_at_call 85; exact Calls.grew_of (HT.out _) (fun _ _ h => h))
          | (go_at_call 113; exact Calls.grew_of (HL.out _) (fun _ _ h => h))
          | (go_at_call 63; exact Calls.grew_of (HC.out _) (fun _ _ h => h)))))
        refine wpQuiet_nil ?_
        intro _ hw'
        obtain ⟨nq, hw''⟩ := hw'
        subst hw''
        go_wp2_with fail
        go_ret
        rw [HR.out]
        exact ⟨rfl, KA.out.trans (grew_kp _ _)⟩
end Ad
end Go.Proofs.YtmmjfofdnpafkaaGreatDoor
