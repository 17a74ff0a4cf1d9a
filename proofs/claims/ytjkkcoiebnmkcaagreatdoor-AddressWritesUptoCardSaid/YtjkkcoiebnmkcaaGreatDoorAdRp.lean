/- Contract of the reference's PrintParams (dialtoneref02). Names and values have at most 2^21 bytes. -/
import Derived.Test.YtjkkcoiebnmkcaaGreatDoorAdRo
namespace Go.Proofs.YtjkkcoiebnmkcaaGreatDoor
namespace Ad
open Go.RowKit Lx

theorem rtokK (l : List UInt8) (T : Bool) (h : tokB l = T) (hs : l.length ≤ 2097152) (w : World) : Calls Tryz.prog 79 #[.string (Txt l)] w (BoK T w) :=
  (rtoken_any (Txt l) w (by rw [txt_size]; unfold maxLen; omega)).mono fun e w' hh => ⟨by rw [← h]; have h1 := hh.1; rw [tokenB_eq, txt_list] at h1; exact h1, by rw [← hh.2]; exact Kp.refl _ _⟩
theorem rplainK (l : List UInt8) (C : Bool) (h : hasCtl l = C) (hs : l.length ≤ 2097152) (w : World) : Calls Tryz.prog 80 #[.string (Txt l)] w (BoK (!C) w) :=
  (rplain_any (Txt l) w (by rw [txt_size]; exact hs)).mono fun e w' hh => ⟨by rw [← h]; exact hh.1, by rw [← hh.2]; exact Kp.refl _ _⟩
theorem rbrkK (l : List UInt8) (C : Bool) (h : brkB l = C) (hs : l.length ≤ 2097152) (w : World) : Calls Tryz.prog 81 #[.string (Txt l)] w (BoK C w) := by
  rw [← h]; exact rBracketed_any l w hs
/-- The names so far are in lower case. -/
def LowN (l : List Prm) (j : Nat) : Prop := ∀ q ∈ l.take j, lowL q.1 = q.1
theorem LowN.succ {l : List Prm} {j : Nat} (h : LowN l j) (hj : j < l.length) (h2 : lowL l[j]!.1 = l[j]!.1) : LowN l (j + 1) := fun q hq => by
  rw [List.take_succ_eq_append_getElem hj] at hq
  rcases List.mem_append.1 hq with h3 | h3
  · exact h q h3
  · rw [List.mem_singleton.1 h3, ← getElem!_pos l j hj]; exact h2
theorem low_dec (q : List UInt8) : decide (q = lowL q) = decide (lowL q = q) := by
  by_cases h : q = lowL q
  · rw [decide_eq_true h, decide_eq_true h.symm]
  · rw [decide_eq_false h, decide_eq_false (fun h2 => h h2.symm)]
set_option maxRecDepth 100000 in
set_option maxHeartbeats 8000000 in
theorem rPrintParams_any (B : Nat) (v : Value) (l : List Prm) (w : World) (hP : PmIn B w v l) (hB : B ≤ w.heap.size) (hz : SzP l) (hl : l.length ≤ 2097152) :
    Calls Tryz.prog 26 #[v] w (PrP (ppO l) w) := by
  have HPm := Lib.hid hP
  obtain ⟨A, c, rfl⟩ := hP.form
  clear hP
  go_enter Tryz.func26, Tryz.ntmps26
  go_wp2_with fail
  go_loopg [4, 5] (l.length + 1) (fun gg out i wr => ∃ (j : Nat) (X : List UInt8), X = ppX l j ∧ out = .string (Txt X) ∧ j ≤ l.length ∧ j ≤ 16 ∧ l.length - j < gg ∧ i = .int .i64 j ∧ PpI l j ∧ LowN l j ∧ Kp [] w wr)
  case atStart => exact ⟨0, [], by simp [ppX], rfl, by omega, by omega, by omega, rfl, ppI_zero l, fun q hq => by simp at hq, Kp.refl _ _⟩
  case round =>
    obtain ⟨j, X, hX, rfl, hj, hj16, hg, rfl, hJ, hLo, hK⟩ := hrel
    have HX := Lib.hid hX
    have HK := Lib.hid hK
    have HJ := Lib.hid hJ
    have HLo := Lib.hid hLo
    have hzr := hK.size
    have PLr := HPm.out.kp hK hB (by simp)
    have hla := ppX_len l hz j hj16
    rw [← hX] at hla
    have sX : (Txt X).size ≤ 16 * 6291460 := by rw [txt_size]; exact hla
    clear hK hJ hX hLo
    by_cases hlt : j < l.length
    · obtain ⟨q1, q2, q3, hq⟩ : ∃ a b c, l[j]! = (a, b, c) := ⟨_, _, _, rfl⟩
      have hm : (q1, q2, q3) ∈ l := by rw [← hq, getElem!_pos l j hlt]; exact List.getElem_mem hlt
      obtain ⟨hq1, hq2⟩ := hz _ hm
      dsimp only at hq1 hq2
      have hsn := ppX_snoc l j hlt
      rw [hq, ← HX.out] at hsn
      have HSn := Lib.hid hsn
      have HYes := Lib.hid (ppI_step l j hlt HJ.out _ hq)
      have HNo := Lib.hid (ppI_no l j hlt HJ.out _ hq)
      have HLs := Lib.hid (fun h => LowN.succ HLo.out hlt h)
      rw [hq] at HLs
      have hsome : l[j]? = some (q1, q2, q3) := by rw [← hq]; exact getD_some l j hlt
      obtain ⟨_, c', rfl, hc, ⟨h0, hv⟩ | ⟨bl, o, hv, hbl, hcell⟩⟩ := PLr
      · omega
      · injection hv with hA _ hc2
        subst hA
        subst hc2
        have c0 : wr.cell? ⟨bl, o + j * 3, none⟩ = some (.string (Txt q1)) := hcell _ _ (pcl_at l j _ hsome 0 _ rfl)
        have c1 : wr.cell? ⟨bl, o + j * 3 + 1, none⟩ = some (.string (Txt q2)) := by rw [Nat.add_assoc]; exact hcell _ _ (pcl_at l j _ hsome 1 _ rfl)
        have c2 : wr.cell? ⟨bl, o + j * 3 + 2, none⟩ = some (.bool q3) := by rw [Nat.add_assoc]; exact hcell _ _ (pcl_at l j _ hsome 2 _ rfl)
        have hc3 : j ≤ c := by omega
        have HTk := Lib.hid (PmIn.take hbl rfl hc hcell j hj)
        have hKA := (Kp.refl [] wr).alloc (.cells #[.string (Txt q1), .string (Txt q2), .bool q3] 32)
        obtain ⟨wA, hwA⟩ : ∃ wA, wr.alloc (.cells #[.string (Txt q1), .string (Txt q2), .bool q3] 32) = wA := ⟨_, rfl⟩
        have BA := show Blk wA wr.heap.size 32 #[.string (Txt q1), .string (Txt q2), .bool q3] from by rw [← hwA]; exact Blk.new wr _ _
        rw [hwA] at hKA
        have KA := Lib.hid hKA
        have g0 := grew_cell (BA.cell 0)
        have g1 := grew_cell (BA.cell 1)
        have g2 := grew_cell (BA.cell 2)
        have BAh := Lib.hid BA
        have HTA := Lib.hid (HTk.out.kp hKA (by omega) (by simp))
        have hzA : w.heap.size ≤ wA.heap.size := by have := hKA.size; omega
        obtain ⟨TT, hT⟩ : ∃ T, tokB q1 = T := ⟨_, rfl⟩
        obtain ⟨L, hL⟩ : ∃ L, decide (lowL q1 = q1) = L := ⟨_, rfl⟩
        obtain ⟨CC, hC⟩ : ∃ C, hasCtl q2 = C := ⟨_, rfl⟩
        obtain ⟨N, hN⟩ : ∃ N, decide (q2 = []) = N := ⟨_, rfl⟩
        obtain ⟨L1, hL1⟩ : ∃ x, lowL q1 = x := ⟨_, rfl⟩
        have bL : ((Txt L1).toList == (Txt q1).toList) = L := by rw [← hL1]; exact (txt_beqD _ _).trans hL
        have bN : ((Txt q2).toList == ([] : List UInt8)) = N := (emp_D _).trans hN
        have HT := Lib.hid (fun wz => rtokK q1 TT hT hq1 wz)
        have HC := Lib.hid (fun wz => rplainK q2 CC hC hq2 wz)
        have HL := Lib.hid (fun wz => (by rw [← hL1]; exact rlowK q1 hq1 wz : Calls Tryz.prog 68 #[.string (Txt q1)] wz (TxK L1 wz)))
        have HPb := Lib.hid (by rw [ppB_eq, hT, low_dec, hL, hC, hN] : ppB (q1, q2, q3) = (TT && (L && (!CC && (q3 || N)))))
        have HLq := Lib.hid (fun (h : L = true) => of_decide_eq_true (hL.trans h))
        have Hctl := Lib.hid hC
        have hj64 : (j : Int) < 4194304 := by omega
        have hlc : (j : Int) ≤ (c : Int) := by omega
        clear BA hKA hcell hc hq hm hsome hsn hT hL hC hN hL1
        go_wp2_with fail
        cases TT
        · have HMj := Lib.hid (fun (n : Gw wA) => rlowK q1 hq1 (grew wA n))
          have HNn := Lib.hid (HNo.out (by rw [HPb.out]; rfl))
          refine wp_region_grew (by kernel_rfl) (by kernel_rfl) ?_
          repeat (go_big_quiet_step ((first
            | (go_at_call 79; exact Calls.grew_of (HT.out _) (fun _ _ h => h))
            | (go_at_call 68; exact Calls.grew_of (HL.out _) (fun _ _ h => h))
            | (go_at_call 80; exact Calls.grew_of (HC.out _) (fun _ _ h => h))
            | (go_at_call 74; exact Calls.grew_of (HMj.out _) (fun _ _ h => h)))))
          refine wpQuiet_nil ?_
          intro _ hw'
          obtain ⟨nq, hw''⟩ := hw'
          subst hw''
          go_wp2_with fail
          go_ret2
          rw [HNn.out]
          exact ⟨rfl, (HK.out.trans (KA.out.trans (grew_kp _ _))).nilBelow⟩
        · cases L
          · have HMj := Lib.hid (fun (n : Gw wA) => rlowK q1 hq1 (grew wA n))
            have HNn := Lib.hid (HNo.out (by rw [HPb.out]; rfl))
            refine wp_region_grew (by kernel_rfl) (by kernel_rfl) ?_
            repeat (go_big_quiet_step ((first
              | (go_at_call 79; exact Calls.grew_of (HT.out _) (fun _ _ h => h))
              | (go_at_call 68; exact Calls.grew_of (HL.out _) (fun _ _ h => h))
              | (go_at_call 80; exact Calls.grew_of (HC.out _) (fun _ _ h => h))
              | (go_at_call 74; exact Calls.grew_of (HMj.out _) (fun _ _ h => h)))))
            refine wpQuiet_nil ?_
            intro _ hw'
            obtain ⟨nq, hw''⟩ := hw'
            subst hw''
            go_wp2_with fail
            go_ret2
            rw [HNn.out]
            exact ⟨rfl, (HK.out.trans (KA.out.trans (grew_kp _ _))).nilBelow⟩
          · cases CC
            · cases q3
              · cases N
                · have HMj := Lib.hid (fun (n : Gw wA) => rlowK q1 hq1 (grew wA n))
                  have HNn := Lib.hid (HNo.out (by rw [HPb.out]; rfl))
                  refine wp_region_grew (by kernel_rfl) (by kernel_rfl) ?_
                  repeat (go_big_quiet_step ((first
                    | (go_at_call 79; exact Calls.grew_of (HT.out _) (fun _ _ h => h))
                    | (go_at_call 68; exact Calls.grew_of (HL.out _) (fun _ _ h => h))
                    | (go_at_call 80; exact Calls.grew_of (HC.out _) (fun _ _ h => h))
                    | (go_at_call 74; exact Calls.grew_of (HMj.out _) (fun _ _ h => h)))))
                  refine wpQuiet_nil ?_
                  intro _ hw'
                  obtain ⟨nq, hw''⟩ := hw'
                  subst hw''
                  go_wp2_with fail
                  go_ret2
                  rw [HNn.out]
                  exact ⟨rfl, (HK.out.trans (KA.out.trans (grew_kp _ _))).nilBelow⟩
                · have HLow := HLq.out rfl
                  have HMj0 := fun (n : Gw wA) => rroom_any B (.slice (some ⟨bl, o, none⟩) j c) (l.take j) q1 (grew wA n) (HTA.out.kp (grew_kp _ n) (by omega) (by simp)) (by have := (grew_kp _ n).size; omega) (hz.take j) (by rw [List.length_take]; omega) hq1
                  rw [roomL_eq (l.take j) q1 HLo.out HLow (by rw [List.length_take]; omega)] at HMj0
                  obtain ⟨rm, hrm⟩ : ∃ r, room (l.take j) q1 = r := ⟨_, rfl⟩
                  rw [hrm] at HMj0
                  have HMj := Lib.hid HMj0
                  have hrc := room_cases (l.take j) q1
                  rw [hrm] at hrc
                  have HLow2 := Lib.hid HLow
                  clear HMj0 HLow
                  rcases hrc with hr0 | hr1
                  · subst hr0
                    have HYs := Lib.hid (HYes.out (by rw [HPb.out, hrm]; rfl))
                    have hj15 : j < 16 := by have := ((room_iff (l.take j) q1).1 hrm).2; rw [List.length_take] at this; omega
                    clear hrm
                    refine wp_region_grew (by kernel_rfl) (by kernel_rfl) ?_
                    repeat (go_big_quiet_step ((first
                      | (go_at_call 79; exact Calls.grew_of (HT.out _) (fun _ _ h => h))
                      | (go_at_call 68; exact Calls.grew_of (HL.out _) (fun _ _ h => h))
                      | (go_at_call 80; exact Calls.grew_of (HC.out _) (fun _ _ h => h))
                      | (go_at_call 74; exact Calls.grew_of (HMj.out _) (fun _ _ h => h)))))
                    refine wpQuiet_nil ?_
                    intro _ hw'
                    obtain ⟨nq, hw''⟩ := hw'
                    subst hw''
                    have hKG := grew_kp wA nq
                    obtain ⟨w2, hw2⟩ : ∃ w2, grew wA nq = w2 := ⟨_, rfl⟩
                    rw [hw2] at hKG ⊢
                    have B2 := Lib.hid (BAh.out.kp hKG (by simp))
                    have K2 := Lib.hid (HK.out.trans (KA.out.trans hKG))
                    clear hw2 g0 g1 g2 hKG c0 c1 c2
                    have s0 := B2.out.cell 0
                    have s1 := B2.out.cell 1
                    have s2 := B2.out.cell 2
                    have sQ1 : (Txt q1).size ≤ 2097152 := by rw [txt_size]; exact hq1
                    have sQ2 : (Txt q2).size ≤ 2097152 := by rw [txt_size]; exact hq2
                    have sA : (Txt X ++ (⟨#[59]⟩ : ByteArray)).size ≤ 100663361 := by rw [ByteArray.size_append]; have : (⟨#[59]⟩ : ByteArray).size = 1 := rfl; omega
                    have sB : (Txt X ++ (⟨#[59]⟩ : ByteArray) ++ Txt q1).size ≤ 102760513 := by rw [ByteArray.size_append]; omega
                    have HcB := Lib.hid ((congrArg (· ++ Txt q1) (cat_txt X [59])).trans (cat_txt (X ++ [59]) q1) : Txt X ++ (⟨#[59]⟩ : ByteArray) ++ Txt q1 = Txt (X ++ [59] ++ q1))
                    have HT2 := Lib.hid (HSn.out.trans (by unfold ppL; simp) : ppX l (j + 1) = X ++ [59] ++ q1)
                    go_wp2_with fail
                    go_roundg (l.length - j)
                    case measure => omega
                    case rel => exact ⟨j + 1, X ++ [59] ++ q1, HT2.out.symm, congrArg Value.string HcB.out, by omega, by omega, by omega, by go_num, HYs.out, HLs.out HLow2.out, K2.out⟩
                  · have HNn := Lib.hid (HNo.out (by rw [HPb.out, hrm]; rcases hr1 with h | h <;> rw [h] <;> rfl))
                    clear hrm
                    rcases hr1 with rfl | rfl
                    all_goals
                      refine wp_region_grew (by kernel_rfl) (by kernel_rfl) ?_
                      repeat (go_big_quiet_step ((first
                        | (go_at_call 79; exact Calls.grew_of (HT.out _) (fun _ _ h => h))
                        | (go_at_call 68; exact Calls.grew_of (HL.out _) (fun _ _ h => h))
                        | (go_at_call 80; exact Calls.grew_of (HC.out _) (fun _ _ h => h))
                        | (go_at_call 74; exact Calls.grew_of (HMj.out _) (fun _ _ h => h)))))
                      refine wpQuiet_nil ?_
                      intro _ hw'
                      obtain ⟨nq, hw''⟩ := hw'
                      subst hw''
                      go_wp2_with fail
                      go_ret2
                      rw [HNn.out]
                      exact ⟨rfl, (HK.out.trans (KA.out.trans (grew_kp _ _))).nilBelow⟩
              · have HLow := HLq.out rfl
                have HMj0 := fun (n : Gw wA) => rroom_any B (.slice (some ⟨bl, o, none⟩) j c) (l.take j) q1 (grew wA n) (HTA.out.kp (grew_kp _ n) (by omega) (by simp)) (by have := (grew_kp _ n).size; omega) (hz.take j) (by rw [List.length_take]; omega) hq1
                rw [roomL_eq (l.take j) q1 HLo.out HLow (by rw [List.length_take]; omega)] at HMj0
                obtain ⟨rm, hrm⟩ : ∃ r, room (l.take j) q1 = r := ⟨_, rfl⟩
                rw [hrm] at HMj0
                have HMj := Lib.hid HMj0
                have hrc := room_cases (l.take j) q1
                rw [hrm] at hrc
                have HLow2 := Lib.hid HLow
                clear HMj0 HLow
                rcases hrc with hr0 | hr1
                · subst hr0
                  have HYs := Lib.hid (HYes.out (by rw [HPb.out, hrm]; rfl))
                  have hj15 : j < 16 := by have := ((room_iff (l.take j) q1).1 hrm).2; rw [List.length_take] at this; omega
                  clear hrm
                  refine wp_region_grew (by kernel_rfl) (by kernel_rfl) ?_
                  repeat (go_big_quiet_step ((first
                    | (go_at_call 79; exact Calls.grew_of (HT.out _) (fun _ _ h => h))
                    | (go_at_call 68; exact Calls.grew_of (HL.out _) (fun _ _ h => h))
                    | (go_at_call 80; exact Calls.grew_of (HC.out _) (fun _ _ h => h))
                    | (go_at_call 74; exact Calls.grew_of (HMj.out _) (fun _ _ h => h)))))
                  refine wpQuiet_nil ?_
                  intro _ hw'
                  obtain ⟨nq, hw''⟩ := hw'
                  subst hw''
                  have hKG := grew_kp wA nq
                  obtain ⟨w2, hw2⟩ : ∃ w2, grew wA nq = w2 := ⟨_, rfl⟩
                  rw [hw2] at hKG ⊢
                  have B2 := Lib.hid (BAh.out.kp hKG (by simp))
                  have K2 := Lib.hid (HK.out.trans (KA.out.trans hKG))
                  clear hw2 g0 g1 g2 hKG c0 c1 c2
                  have s0 := B2.out.cell 0
                  have s1 := B2.out.cell 1
                  have s2 := B2.out.cell 2
                  have sQ1 : (Txt q1).size ≤ 2097152 := by rw [txt_size]; exact hq1
                  have sQ2 : (Txt q2).size ≤ 2097152 := by rw [txt_size]; exact hq2
                  have sA : (Txt X ++ (⟨#[59]⟩ : ByteArray)).size ≤ 100663361 := by rw [ByteArray.size_append]; have : (⟨#[59]⟩ : ByteArray).size = 1 := rfl; omega
                  have sB : (Txt X ++ (⟨#[59]⟩ : ByteArray) ++ Txt q1).size ≤ 102760513 := by rw [ByteArray.size_append]; omega
                  have HcB := Lib.hid ((congrArg (· ++ Txt q1) (cat_txt X [59])).trans (cat_txt (X ++ [59]) q1) : Txt X ++ (⟨#[59]⟩ : ByteArray) ++ Txt q1 = Txt (X ++ [59] ++ q1))
                  have hpl := pvL_len q2
                  obtain ⟨T2, hT2⟩ : ∃ T, tokB q2 = T := ⟨_, rfl⟩
                  obtain ⟨B9, hB9⟩ : ∃ T, brkB q2 = T := ⟨_, rfl⟩
                  have HTv := Lib.hid (fun wz => rtokK q2 T2 hT2 hq2 wz)
                  have HBv := Lib.hid (fun wz => rbrkK q2 B9 hB9 hq2 wz)
                  have hpv : pvL q2 = if (T2 || B9) = true then q2 else [34] ++ escL q2 ++ [34] := by rw [pvL_brk, hT2, hB9]
                  have sC : (Txt X ++ (⟨#[59]⟩ : ByteArray) ++ Txt q1 ++ (⟨#[61]⟩ : ByteArray)).size ≤ 102760514 := by rw [ByteArray.size_append]; have : (⟨#[61]⟩ : ByteArray).size = 1 := rfl; omega
                  have HcD := Lib.hid ((congrArg (fun z => z ++ (⟨#[61]⟩ : ByteArray) ++ Txt q2) HcB.out).trans ((congrArg (· ++ Txt q2) (cat_txt (X ++ [59] ++ q1) [61])).trans (cat_txt _ q2)) : Txt X ++ (⟨#[59]⟩ : ByteArray) ++ Txt q1 ++ (⟨#[61]⟩ : ByteArray) ++ Txt q2 = Txt (X ++ [59] ++ q1 ++ [61] ++ q2))
                  clear hT2 hB9
                  cases T2
                  · cases B9
                    · have hq : quT q2 = [34] ++ escL q2 ++ [34] := by unfold quT; rw [if_neg (by rw [Hctl.out]; decide)]
                      have HT2 := Lib.hid (HSn.out.trans (by unfold ppL; rw [hpv, ← hq]; simp) : ppX l (j + 1) = X ++ [59] ++ q1 ++ [61] ++ quT q2)
                      have sQ : (Txt (quT q2)).size ≤ 4194307 := by rw [txt_size, hq]; have := escL_len q2; simp only [List.length_append, List.length_cons, List.length_nil]; omega
                      have HcE := Lib.hid ((congrArg (fun z => z ++ (⟨#[61]⟩ : ByteArray) ++ Txt (quT q2)) HcB.out).trans ((congrArg (· ++ Txt (quT q2)) (cat_txt (X ++ [59] ++ q1) [61])).trans (cat_txt _ (quT q2))) : Txt X ++ (⟨#[59]⟩ : ByteArray) ++ Txt q1 ++ (⟨#[61]⟩ : ByteArray) ++ Txt (quT q2) = Txt (X ++ [59] ++ q1 ++ [61] ++ quT q2))
                      have HQt := Lib.hid (fun wz => rquote_any (Txt q2) wz (by rw [txt_size]; omega))
                      rw [txt_list] at HQt
                      clear hq hpv hpl
                      go_wp2_with fail
                      refine (HTv.out _).mono ?_
                      rintro e w3 ⟨rfl, hK3⟩
                      have B3 := Lib.hid (B2.out.kp hK3 (by simp))
                      have K3 := Lib.hid (K2.out.trans hK3)
                      clear s0 s1 s2 hK3
                      have s1 := B3.out.cell 1
                      have s2 := B3.out.cell 2
                      go_wp2_with fail
                      refine (HBv.out _).mono ?_
                      rintro e w4 ⟨rfl, hK4⟩
                      have B4 := Lib.hid (B3.out.kp hK4 (by simp))
                      have K4 := Lib.hid (K3.out.trans hK4)
                      clear s1 s2 hK4
                      have s1 := B4.out.cell 1
                      have s2 := B4.out.cell 2
                      go_wp2_with fail
                      refine (HQt.out _).mono ?_
                      rintro e w5 ⟨rfl, hB5⟩
                      have KZ := Lib.hid (K4.out.below hB5)
                      clear s1 s2 hB5
                      have hqt : (⟨(quT q2).toArray⟩ : ByteArray) = Txt (quT q2) := rfl
                      rw [hqt]
                      clear hqt
                      go_wp2_with fail
                      go_roundg (l.length - j)
                      case measure => omega
                      case rel => exact ⟨j + 1, X ++ [59] ++ q1 ++ [61] ++ quT q2, HT2.out.symm, congrArg Value.string HcE.out, by omega, by omega, by omega, by go_num, HYs.out, HLs.out HLow2.out, KZ.out⟩
                    · have HT2 := Lib.hid (HSn.out.trans (by unfold ppL; rw [hpv]; simp) : ppX l (j + 1) = X ++ [59] ++ q1 ++ [61] ++ q2)
                      clear hpv hpl
                      go_wp2_with fail
                      refine (HTv.out _).mono ?_
                      rintro e w3 ⟨rfl, hK3⟩
                      have B3 := Lib.hid (B2.out.kp hK3 (by simp))
                      have K3 := Lib.hid (K2.out.trans hK3)
                      clear s0 s1 s2 hK3
                      have s1 := B3.out.cell 1
                      have s2 := B3.out.cell 2
                      go_wp2_with fail
                      refine (HBv.out _).mono ?_
                      rintro e w4 ⟨rfl, hK4⟩
                      have B4 := Lib.hid (B3.out.kp hK4 (by simp))
                      have KZ := Lib.hid (K3.out.trans hK4)
                      clear s1 s2 hK4
                      have s1 := B4.out.cell 1
                      have s2 := B4.out.cell 2
                      go_wp2_with fail
                      go_roundg (l.length - j)
                      case measure => omega
                      case rel => exact ⟨j + 1, X ++ [59] ++ q1 ++ [61] ++ q2, HT2.out.symm, congrArg Value.string HcD.out, by omega, by omega, by omega, by go_num, HYs.out, HLs.out HLow2.out, KZ.out⟩
                  · have HT2 := Lib.hid (HSn.out.trans (by unfold ppL; rw [hpv]; simp) : ppX l (j + 1) = X ++ [59] ++ q1 ++ [61] ++ q2)
                    clear hpv hpl
                    go_wp2_with fail
                    refine (HTv.out _).mono ?_
                    rintro e w3 ⟨rfl, hK3⟩
                    have B3 := Lib.hid (B2.out.kp hK3 (by simp))
                    have KZ := Lib.hid (K2.out.trans hK3)
                    clear s0 s1 s2 hK3
                    have s1 := B3.out.cell 1
                    have s2 := B3.out.cell 2
                    go_wp2_with fail
                    go_roundg (l.length - j)
                    case measure => omega
                    case rel => exact ⟨j + 1, X ++ [59] ++ q1 ++ [61] ++ q2, HT2.out.symm, congrArg Value.string HcD.out, by omega, by omega, by omega, by go_num, HYs.out, HLs.out HLow2.out, KZ.out⟩
                · have HNn := Lib.hid (HNo.out (by rw [HPb.out, hrm]; rcases hr1 with h | h <;> rw [h] <;> rfl))
                  clear hrm
                  rcases hr1 with rfl | rfl
                  all_goals
                    refine wp_region_grew (by kernel_rfl) (by kernel_rfl) ?_
                    repeat (go_big_quiet_step ((first
                      | (go_at_call 79; exact Calls.grew_of (HT.out _) (fun _ _ h => h))
                      | (go_at_call 68; exact Calls.grew_of (HL.out _) (fun _ _ h => h))
                      | (go_at_call 80; exact Calls.grew_of (HC.out _) (fun _ _ h => h))
                      | (go_at_call 74; exact Calls.grew_of (HMj.out _) (fun _ _ h => h)))))
                    refine wpQuiet_nil ?_
                    intro _ hw'
                    obtain ⟨nq, hw''⟩ := hw'
                    subst hw''
                    go_wp2_with fail
                    go_ret2
                    rw [HNn.out]
                    exact ⟨rfl, (HK.out.trans (KA.out.trans (grew_kp _ _))).nilBelow⟩
            · have HMj := Lib.hid (fun (n : Gw wA) => rlowK q1 hq1 (grew wA n))
              have HNn := Lib.hid (HNo.out (by rw [HPb.out]; rfl))
              refine wp_region_grew (by kernel_rfl) (by kernel_rfl) ?_
              repeat (go_big_quiet_step ((first
                | (go_at_call 79; exact Calls.grew_of (HT.out _) (fun _ _ h => h))
                | (go_at_call 68; exact Calls.grew_of (HL.out _) (fun _ _ h => h))
                | (go_at_call 80; exact Calls.grew_of (HC.out _) (fun _ _ h => h))
                | (go_at_call 74; exact Calls.grew_of (HMj.out _) (fun _ _ h => h)))))
              refine wpQuiet_nil ?_
              intro _ hw'
              obtain ⟨nq, hw''⟩ := hw'
              subst hw''
              go_wp2_with fail
              go_ret2
              rw [HNn.out]
              exact ⟨rfl, (HK.out.trans (KA.out.trans (grew_kp _ _))).nilBelow⟩
    · have HEnd := Lib.hid (ppI_end l j (by omega) HJ.out)
      clear PLr
      go_wp2_with fail
      go_ret2
      unfold PrP
      rw [HEnd.out, ← HX.out]
      exact ⟨rfl, HK.out.nilBelow⟩
end Ad
end Go.Proofs.YtjkkcoiebnmkcaaGreatDoor
