/- Contract of the reference's named (dialtoneref02). Names and values have at most 2^21 bytes. -/
import Derived.Test.YtjkkcoiebnmkcaaGreatDoorAdVd
import Derived.Test.YtjkkcoiebnmkcaaGreatDoorAdRp
namespace Go.Proofs.YtjkkcoiebnmkcaaGreatDoor
namespace Ad
open Go.RowKit Lx

theorem roomL_low (l : List Prm) (nm : List UInt8) (h3 : l.length ≤ 16) : roomL l nm = room (lowA l) (lowL nm) := by
  have key : (0 ≤ fndI l nm) ↔ ((lowA l).any (fun q => q.1 == lowL nm) = true) := by
    unfold lowA
    rcases fndI_cases l nm with ⟨hI, hno⟩ | ⟨k, hk, hI, hyes, _⟩
    · rw [hI]
      constructor
      · intro h; omega
      · intro h
        obtain ⟨q, hq, he⟩ := List.any_eq_true.1 h
        obtain ⟨q0, hq0, rfl⟩ := List.mem_map.1 hq
        obtain ⟨j, hj, rfl⟩ := List.mem_iff_getElem.1 hq0
        have := hno j hj
        rw [getElem!_pos l j hj] at this
        dsimp only at he
        rw [he] at this
        cases this
    · rw [hI]
      constructor
      · intro _
        rw [getElem!_pos l k hk] at hyes
        exact List.any_eq_true.2 ⟨_, List.mem_map.2 ⟨_, List.getElem_mem hk, rfl⟩, hyes⟩
      · intro _; omega
  unfold roomL room
  by_cases h : 0 ≤ fndI l nm
  · rw [if_pos h, if_pos (key.1 h)]
  · rw [if_neg h, if_neg (fun h4 => h (key.2 h4)), lowA_len]
    by_cases h5 : l.length = 16
    · rw [if_pos (by omega), if_pos h5]
    · rw [if_neg (by omega), if_neg h5]
/-- What is said of parameters or heads from j on is what is said of all. -/
def NmI (cls : Int) (l : List Prm) (j : Nat) : Prop := nmF cls l [] = nmF cls (l.drop j) (lowA (l.take j))
theorem nmI_zero (cls : Int) (l : List Prm) : NmI cls l 0 := rfl
theorem nmI_end (cls : Int) (l : List Prm) (j : Nat) (hj : l.length ≤ j) (h : NmI cls l j) : nmF cls l [] = some (lowA l) := by
  unfold NmI at h
  rw [h, List.drop_eq_nil_of_le hj, List.take_of_length_le hj]; rfl
theorem nmI_step (cls : Int) (l : List Prm) (j : Nat) (q1 q2 : List UInt8) (q3 : Bool) (hq : l[j]? = some (q1, q2, q3)) (h : NmI cls l j) (hok : (okP cls (q1, q2, q3) && decide (room (lowA (l.take j)) (lowL q1) = 0)) = true) : NmI cls l (j + 1) := by
  obtain ⟨hj, hg⟩ := List.getElem?_eq_some_iff.1 hq
  unfold NmI at h ⊢
  rw [h, List.drop_eq_getElem_cons hj, hg, nmF, if_pos hok, lowA_step l j q1 q2 q3 hq]
theorem nmI_no (cls : Int) (l : List Prm) (j : Nat) (q1 q2 : List UInt8) (q3 : Bool) (hq : l[j]? = some (q1, q2, q3)) (h : NmI cls l j) (hok : (okP cls (q1, q2, q3) && decide (room (lowA (l.take j)) (lowL q1) = 0)) = false) : (nmF cls l []).isSome = false := by
  obtain ⟨hj, hg⟩ := List.getElem?_eq_some_iff.1 hq
  unfold NmI at h
  rw [h, List.drop_eq_getElem_cons hj, hg, nmF, if_neg (by rw [hok]; decide)]; rfl
theorem nmF_low (cls : Int) (l r : List Prm) (h : nmF cls l [] = some r) : r = lowA l := by
  have key : ∀ (t a : List Prm), nmF cls t a = some r → r = a ++ lowA t := by
    intro t
    induction t with
    | nil => intro a h; simp [nmF] at h; rw [← h]; simp [lowA]
    | cons p t ih =>
      intro a h
      rw [nmF] at h
      split at h
      · have := ih _ h
        rw [this]; simp [lowA]
      · cases h
  exact key l [] h
theorem okP_eq (cls : Int) (q1 q2 : List UInt8) (q3 : Bool) : okP cls (q1, q2, q3) = (!decide (q1 = []) && !hasCtl q1 && !hasCtl q2 && (if cls = 2 then q3 else q3 == !decide (q2 = []))) := by
  unfold okP
  simp only [decide_not]
theorem rplainG (l : List UInt8) (C : Bool) (h : hasCtl l = C) (hs : l.length ≤ 2097152) {w : World} (n : Gw w) : Calls Tryz.prog 80 #[.string (Txt l)] (grew w n) (fun e w'' => e = .returned (.bool (!C)) ∧ ∃ m, w'' = grew w m) :=
  Calls.grew_of (rplainK l C h hs (grew w n)) (fun _ _ h => h)
set_option maxRecDepth 100000 in
set_option maxHeartbeats 8000000 in
theorem rnamed_par (B : Nat) (v : Value) (l : List Prm) (w : World) (hP : PmIn B w v l) (hB : B ≤ w.heap.size) (hz : SzP l) (hl : l.length ≤ 2097152) :
    Calls Tryz.prog 99 #[v, .int .i64 1] w (BoK (nmF 1 l []).isSome w) := by
  have HPm := Lib.hid hP
  obtain ⟨A, c, rfl⟩ := hP.form
  clear hP
  go_enter Tryz.func99, Tryz.ntmps99
  go_wp2_with fail
  go_loopg [5] (l.length + 1) (fun gg i wr => ∃ (j : Nat), j ≤ l.length ∧ j ≤ 16 ∧ l.length - j < gg ∧ i = .int .i64 j ∧ NmI 1 l j ∧ Kp [] w wr)
  case atStart => exact ⟨0, by omega, by omega, by omega, rfl, nmI_zero 1 l, Kp.refl _ _⟩
  case round =>
    obtain ⟨j, hj, hj16, hg, rfl, hJ, hK⟩ := hrel
    have HK := Lib.hid hK
    have HJ := Lib.hid hJ
    have hzr := hK.size
    have PLr := HPm.out.kp hK hB (by simp)
    clear hK hJ
    by_cases hlt : j < l.length
    · obtain ⟨q1, q2, q3, hq⟩ : ∃ a b c, l[j]! = (a, b, c) := ⟨_, _, _, rfl⟩
      have hm : (q1, q2, q3) ∈ l := by rw [← hq, getElem!_pos l j hlt]; exact List.getElem_mem hlt
      obtain ⟨hq1, hq2⟩ := hz _ hm
      dsimp only at hq1 hq2
      have hsome : l[j]? = some (q1, q2, q3) := by rw [← hq]; exact getD_some l j hlt
      have HYes := Lib.hid (nmI_step 1 l j q1 q2 q3 hsome HJ.out)
      have HNo := Lib.hid (nmI_no 1 l j q1 q2 q3 hsome HJ.out)
      obtain ⟨_, c', rfl, hc, ⟨h0, hv⟩ | ⟨bl, o, hv, hbl, hcell⟩⟩ := PLr
      · omega
      · injection hv with hA _ hc2
        subst hA
        subst hc2
        have c0 : wr.cell? ⟨bl, o + j * 3, none⟩ = some (.string (Txt q1)) := hcell _ _ (pcl_at l j _ hsome 0 _ rfl)
        have c1 : wr.cell? ⟨bl, o + j * 3 + 1, none⟩ = some (.string (Txt q2)) := by rw [Nat.add_assoc]; exact hcell _ _ (pcl_at l j _ hsome 1 _ rfl)
        have c2 : wr.cell? ⟨bl, o + j * 3 + 2, none⟩ = some (.bool q3) := by rw [Nat.add_assoc]; exact hcell _ _ (pcl_at l j _ hsome 2 _ rfl)
        have HTk := Lib.hid (PmIn.take hbl rfl hc hcell j hj)
        have hKA := (Kp.refl [] wr).alloc (.cells #[.string (Txt q1), .string (Txt q2), .bool q3] 32)
        obtain ⟨wA, hwA⟩ : ∃ wA, wr.alloc (.cells #[.string (Txt q1), .string (Txt q2), .bool q3] 32) = wA := ⟨_, rfl⟩
        have BA := show Blk wA wr.heap.size 32 #[.string (Txt q1), .string (Txt q2), .bool q3] from by rw [← hwA]; exact Blk.new wr _ _
        rw [hwA] at hKA
        have KA := Lib.hid hKA
        have g0 := grew_cell (BA.cell 0)
        have g1 := grew_cell (BA.cell 1)
        have g2 := grew_cell (BA.cell 2)
        have HTA := Lib.hid (HTk.out.kp hKA (by omega) (by simp))
        have hzA : w.heap.size ≤ wA.heap.size := by have := hKA.size; omega
        obtain ⟨E1, hE1⟩ : ∃ T, decide (q1 = []) = T := ⟨_, rfl⟩
        obtain ⟨C1, hC1⟩ : ∃ C, hasCtl q1 = C := ⟨_, rfl⟩
        obtain ⟨C2, hC2⟩ : ∃ C, hasCtl q2 = C := ⟨_, rfl⟩
        obtain ⟨N, hN⟩ : ∃ N, decide (q2 = []) = N := ⟨_, rfl⟩
        have bE : ((Txt q1).toList == ([] : List UInt8)) = E1 := (emp_D _).trans hE1
        have bN : ((Txt q2).toList == ([] : List UInt8)) = N := (emp_D _).trans hN
        have HC1 := Lib.hid (fun (n : Gw wA) => rplainG q1 C1 hC1 hq1 n)
        have HC2 := Lib.hid (fun (n : Gw wA) => rplainG q2 C2 hC2 hq2 n)
        have HPb := Lib.hid (by rw [okP_eq, hE1, hC1, hC2, hN] : okP 1 (q1, q2, q3) = (!E1 && !C1 && !C2 && (if (1 : Int) = 2 then q3 else q3 == !N)))
        have HMj0 := fun (n : Gw wA) => rroom_any B (.slice (some ⟨bl, o, none⟩) j c) (l.take j) q1 (grew wA n) (HTA.out.kp (grew_kp _ n) (by omega) (by simp)) (by have := (grew_kp _ n).size; omega) (hz.take j) (by rw [List.length_take]; omega) hq1
        rw [roomL_low (l.take j) q1 (by rw [List.length_take]; omega)] at HMj0
        have hrc := room_cases (lowA (l.take j)) (lowL q1)
        obtain ⟨rm, hrm⟩ : ∃ r, room (lowA (l.take j)) (lowL q1) = r := ⟨_, rfl⟩
        have HJ16 := Lib.hid (fun (h : rm = 0) => (by have := ((room_iff (lowA (l.take j)) (lowL q1)).1 (hrm.trans h)).2; rw [lowA_len, List.length_take] at this; omega : j + 1 ≤ 16))
        rw [hrm] at HMj0 hrc
        have HMj := Lib.hid HMj0
        have Hrc := Lib.hid hrc
        have Hrm := Lib.hid hrm
        have hlc : (j : Int) ≤ (c : Int) := by omega
        clear BA hKA hcell hc hq hm hsome hE1 hC1 hC2 hN HMj0 hrc hrm
        go_wp2_with fail
        cases E1
        · cases C1
          · cases C2
            · cases q3
              · cases N
                · have HNn := Lib.hid (HNo.out (by rw [HPb.out]; rfl))
                  refine wp_region_grew (by kernel_rfl) (by kernel_rfl) ?_
                  repeat (go_big_quiet_step ((first
                    | (go_at_call 80; with_reducible exact HC1.out _)
                    | (go_at_call 80; with_reducible exact HC2.out _)
                    | (go_at_call 74; exact Calls.grew_of (HMj.out _) (fun _ _ h => h)))))
                  refine wpQuiet_nil ?_
                  intro _ hw'
                  obtain ⟨nq, hw''⟩ := hw'
                  subst hw''
                  go_wp2_with fail
                  go_ret
                  rw [HNn.out]
                  exact ⟨rfl, HK.out.trans (KA.out.trans (grew_kp _ _))⟩
                · rcases Hrc.out with hr0 | hr1
                  · subst hr0
                    have HYs := Lib.hid (HYes.out (by rw [HPb.out, Hrm.out]; rfl))
                    have hj15 := HJ16.out rfl
                    refine wp_region_grew (by kernel_rfl) (by kernel_rfl) ?_
                    repeat (go_big_quiet_step ((first
                      | (go_at_call 80; with_reducible exact HC1.out _)
                      | (go_at_call 80; with_reducible exact HC2.out _)
                      | (go_at_call 74; exact Calls.grew_of (HMj.out _) (fun _ _ h => h)))))
                    refine wpQuiet_nil ?_
                    intro _ hw'
                    obtain ⟨nq, hw''⟩ := hw'
                    subst hw''
                    go_wp2_with fail
                    go_roundg (l.length - j)
                    case measure => omega
                    case rel => exact ⟨j + 1, by omega, hj15, by omega, by go_num, HYs.out, HK.out.trans (KA.out.trans (grew_kp _ _))⟩
                  · have HNn := Lib.hid (HNo.out (by rw [HPb.out, Hrm.out]; rcases hr1 with h | h <;> rw [h] <;> rfl))
                    rcases hr1 with rfl | rfl
                    all_goals
                      refine wp_region_grew (by kernel_rfl) (by kernel_rfl) ?_
                      repeat (go_big_quiet_step ((first
                        | (go_at_call 80; with_reducible exact HC1.out _)
                        | (go_at_call 80; with_reducible exact HC2.out _)
                        | (go_at_call 74; exact Calls.grew_of (HMj.out _) (fun _ _ h => h)))))
                      refine wpQuiet_nil ?_
                      intro _ hw'
                      obtain ⟨nq, hw''⟩ := hw'
                      subst hw''
                      go_wp2_with fail
                      go_ret
                      rw [HNn.out]
                      exact ⟨rfl, HK.out.trans (KA.out.trans (grew_kp _ _))⟩
              · cases N
                · rcases Hrc.out with hr0 | hr1
                  · subst hr0
                    have HYs := Lib.hid (HYes.out (by rw [HPb.out, Hrm.out]; rfl))
                    have hj15 := HJ16.out rfl
                    refine wp_region_grew (by kernel_rfl) (by kernel_rfl) ?_
                    repeat (go_big_quiet_step ((first
                      | (go_at_call 80; with_reducible exact HC1.out _)
                      | (go_at_call 80; with_reducible exact HC2.out _)
                      | (go_at_call 74; exact Calls.grew_of (HMj.out _) (fun _ _ h => h)))))
                    refine wpQuiet_nil ?_
                    intro _ hw'
                    obtain ⟨nq, hw''⟩ := hw'
                    subst hw''
                    go_wp2_with fail
                    go_roundg (l.length - j)
                    case measure => omega
                    case rel => exact ⟨j + 1, by omega, hj15, by omega, by go_num, HYs.out, HK.out.trans (KA.out.trans (grew_kp _ _))⟩
                  · have HNn := Lib.hid (HNo.out (by rw [HPb.out, Hrm.out]; rcases hr1 with h | h <;> rw [h] <;> rfl))
                    rcases hr1 with rfl | rfl
                    all_goals
                      refine wp_region_grew (by kernel_rfl) (by kernel_rfl) ?_
                      repeat (go_big_quiet_step ((first
                        | (go_at_call 80; with_reducible exact HC1.out _)
                        | (go_at_call 80; with_reducible exact HC2.out _)
                        | (go_at_call 74; exact Calls.grew_of (HMj.out _) (fun _ _ h => h)))))
                      refine wpQuiet_nil ?_
                      intro _ hw'
                      obtain ⟨nq, hw''⟩ := hw'
                      subst hw''
                      go_wp2_with fail
                      go_ret
                      rw [HNn.out]
                      exact ⟨rfl, HK.out.trans (KA.out.trans (grew_kp _ _))⟩
                · have HNn := Lib.hid (HNo.out (by rw [HPb.out]; rfl))
                  refine wp_region_grew (by kernel_rfl) (by kernel_rfl) ?_
                  repeat (go_big_quiet_step ((first
                    | (go_at_call 80; with_reducible exact HC1.out _)
                    | (go_at_call 80; with_reducible exact HC2.out _)
                    | (go_at_call 74; exact Calls.grew_of (HMj.out _) (fun _ _ h => h)))))
                  refine wpQuiet_nil ?_
                  intro _ hw'
                  obtain ⟨nq, hw''⟩ := hw'
                  subst hw''
                  go_wp2_with fail
                  go_ret
                  rw [HNn.out]
                  exact ⟨rfl, HK.out.trans (KA.out.trans (grew_kp _ _))⟩
            · have HNn := Lib.hid (HNo.out (by rw [HPb.out]; rfl))
              refine wp_region_grew (by kernel_rfl) (by kernel_rfl) ?_
              repeat (go_big_quiet_step ((first
                | (go_at_call 80; with_reducible exact HC1.out _)
                | (go_at_call 80; with_reducible exact HC2.out _)
                | (go_at_call 74; exact Calls.grew_of (HMj.out _) (fun _ _ h => h)))))
              refine wpQuiet_nil ?_
              intro _ hw'
              obtain ⟨nq, hw''⟩ := hw'
              subst hw''
              go_wp2_with fail
              go_ret
              rw [HNn.out]
              exact ⟨rfl, HK.out.trans (KA.out.trans (grew_kp _ _))⟩
          · have HNn := Lib.hid (HNo.out (by rw [HPb.out]; rfl))
            refine wp_region_grew (by kernel_rfl) (by kernel_rfl) ?_
            repeat (go_big_quiet_step ((first
              | (go_at_call 80; with_reducible exact HC1.out _)
              | (go_at_call 80; with_reducible exact HC2.out _)
              | (go_at_call 74; exact Calls.grew_of (HMj.out _) (fun _ _ h => h)))))
            refine wpQuiet_nil ?_
            intro _ hw'
            obtain ⟨nq, hw''⟩ := hw'
            subst hw''
            go_wp2_with fail
            go_ret
            rw [HNn.out]
            exact ⟨rfl, HK.out.trans (KA.out.trans (grew_kp _ _))⟩
        · have HNn := Lib.hid (HNo.out (by rw [HPb.out]; rfl))
          refine wp_region_grew (by kernel_rfl) (by kernel_rfl) ?_
          repeat (go_big_quiet_step ((first
            | (go_at_call 80; with_reducible exact HC1.out _)
            | (go_at_call 80; with_reducible exact HC2.out _)
            | (go_at_call 74; exact Calls.grew_of (HMj.out _) (fun _ _ h => h)))))
          refine wpQuiet_nil ?_
          intro _ hw'
          obtain ⟨nq, hw''⟩ := hw'
          subst hw''
          go_wp2_with fail
          go_ret
          rw [HNn.out]
          exact ⟨rfl, HK.out.trans (KA.out.trans (grew_kp _ _))⟩
    · have HEnd := Lib.hid (nmI_end 1 l j (by omega) HJ.out)
      clear PLr
      go_wp2_with fail
      go_ret
      rw [HEnd.out]
      exact ⟨rfl, HK.out⟩
set_option maxRecDepth 100000 in
set_option maxHeartbeats 8000000 in
theorem rnamed_hds (B : Nat) (v : Value) (l : List Prm) (w : World) (hP : PmIn B w v l) (hB : B ≤ w.heap.size) (hz : SzP l) (hl : l.length ≤ 2097152) :
    Calls Tryz.prog 99 #[v, .int .i64 2] w (BoK (nmF 2 l []).isSome w) := by
  have HPm := Lib.hid hP
  obtain ⟨A, c, rfl⟩ := hP.form
  clear hP
  go_enter Tryz.func99, Tryz.ntmps99
  go_wp2_with fail
  go_loopg [5] (l.length + 1) (fun gg i wr => ∃ (j : Nat), j ≤ l.length ∧ j ≤ 16 ∧ l.length - j < gg ∧ i = .int .i64 j ∧ NmI 2 l j ∧ Kp [] w wr)
  case atStart => exact ⟨0, by omega, by omega, by omega, rfl, nmI_zero 2 l, Kp.refl _ _⟩
  case round =>
    obtain ⟨j, hj, hj16, hg, rfl, hJ, hK⟩ := hrel
    have HK := Lib.hid hK
    have HJ := Lib.hid hJ
    have hzr := hK.size
    have PLr := HPm.out.kp hK hB (by simp)
    clear hK hJ
    by_cases hlt : j < l.length
    · obtain ⟨q1, q2, q3, hq⟩ : ∃ a b c, l[j]! = (a, b, c) := ⟨_, _, _, rfl⟩
      have hm : (q1, q2, q3) ∈ l := by rw [← hq, getElem!_pos l j hlt]; exact List.getElem_mem hlt
      obtain ⟨hq1, hq2⟩ := hz _ hm
      dsimp only at hq1 hq2
      have hsome : l[j]? = some (q1, q2, q3) := by rw [← hq]; exact getD_some l j hlt
      have HYes := Lib.hid (nmI_step 2 l j q1 q2 q3 hsome HJ.out)
      have HNo := Lib.hid (nmI_no 2 l j q1 q2 q3 hsome HJ.out)
      obtain ⟨_, c', rfl, hc, ⟨h0, hv⟩ | ⟨bl, o, hv, hbl, hcell⟩⟩ := PLr
      · omega
      · injection hv with hA _ hc2
        subst hA
        subst hc2
        have c0 : wr.cell? ⟨bl, o + j * 3, none⟩ = some (.string (Txt q1)) := hcell _ _ (pcl_at l j _ hsome 0 _ rfl)
        have c1 : wr.cell? ⟨bl, o + j * 3 + 1, none⟩ = some (.string (Txt q2)) := by rw [Nat.add_assoc]; exact hcell _ _ (pcl_at l j _ hsome 1 _ rfl)
        have c2 : wr.cell? ⟨bl, o + j * 3 + 2, none⟩ = some (.bool q3) := by rw [Nat.add_assoc]; exact hcell _ _ (pcl_at l j _ hsome 2 _ rfl)
        have HTk := Lib.hid (PmIn.take hbl rfl hc hcell j hj)
        have hKA := (Kp.refl [] wr).alloc (.cells #[.string (Txt q1), .string (Txt q2), .bool q3] 32)
        obtain ⟨wA, hwA⟩ : ∃ wA, wr.alloc (.cells #[.string (Txt q1), .string (Txt q2), .bool q3] 32) = wA := ⟨_, rfl⟩
        have BA := show Blk wA wr.heap.size 32 #[.string (Txt q1), .string (Txt q2), .bool q3] from by rw [← hwA]; exact Blk.new wr _ _
        rw [hwA] at hKA
        have KA := Lib.hid hKA
        have g0 := grew_cell (BA.cell 0)
        have g1 := grew_cell (BA.cell 1)
        have g2 := grew_cell (BA.cell 2)
        have HTA := Lib.hid (HTk.out.kp hKA (by omega) (by simp))
        have hzA : w.heap.size ≤ wA.heap.size := by have := hKA.size; omega
        obtain ⟨E1, hE1⟩ : ∃ T, decide (q1 = []) = T := ⟨_, rfl⟩
        obtain ⟨C1, hC1⟩ : ∃ C, hasCtl q1 = C := ⟨_, rfl⟩
        obtain ⟨C2, hC2⟩ : ∃ C, hasCtl q2 = C := ⟨_, rfl⟩
        obtain ⟨N, hN⟩ : ∃ N, decide (q2 = []) = N := ⟨_, rfl⟩
        have bE : ((Txt q1).toList == ([] : List UInt8)) = E1 := (emp_D _).trans hE1
        have bN : ((Txt q2).toList == ([] : List UInt8)) = N := (emp_D _).trans hN
        have HC1 := Lib.hid (fun (n : Gw wA) => rplainG q1 C1 hC1 hq1 n)
        have HC2 := Lib.hid (fun (n : Gw wA) => rplainG q2 C2 hC2 hq2 n)
        have HPb := Lib.hid (by rw [okP_eq, hE1, hC1, hC2, hN] : okP 2 (q1, q2, q3) = (!E1 && !C1 && !C2 && (if (2 : Int) = 2 then q3 else q3 == !N)))
        have HMj0 := fun (n : Gw wA) => rroom_any B (.slice (some ⟨bl, o, none⟩) j c) (l.take j) q1 (grew wA n) (HTA.out.kp (grew_kp _ n) (by omega) (by simp)) (by have := (grew_kp _ n).size; omega) (hz.take j) (by rw [List.length_take]; omega) hq1
        rw [roomL_low (l.take j) q1 (by rw [List.length_take]; omega)] at HMj0
        have hrc := room_cases (lowA (l.take j)) (lowL q1)
        obtain ⟨rm, hrm⟩ : ∃ r, room (lowA (l.take j)) (lowL q1) = r := ⟨_, rfl⟩
        have HJ16 := Lib.hid (fun (h : rm = 0) => (by have := ((room_iff (lowA (l.take j)) (lowL q1)).1 (hrm.trans h)).2; rw [lowA_len, List.length_take] at this; omega : j + 1 ≤ 16))
        rw [hrm] at HMj0 hrc
        have HMj := Lib.hid HMj0
        have Hrc := Lib.hid hrc
        have Hrm := Lib.hid hrm
        have hlc : (j : Int) ≤ (c : Int) := by omega
        clear BA hKA hcell hc hq hm hsome hE1 hC1 hC2 hN HMj0 hrc hrm
        go_wp2_with fail
        cases E1
        · cases C1
          · cases C2
            · cases q3
              · cases N
                · have HNn := Lib.hid (HNo.out (by rw [HPb.out]; rfl))
                  refine wp_region_grew (by kernel_rfl) (by kernel_rfl) ?_
                  repeat (go_big_quiet_step ((first
                    | (go_at_call 80; with_reducible exact HC1.out _)
                    | (go_at_call 80; with_reducible exact HC2.out _)
                    | (go_at_call 74; exact Calls.grew_of (HMj.out _) (fun _ _ h => h)))))
                  refine wpQuiet_nil ?_
                  intro _ hw'
                  obtain ⟨nq, hw''⟩ := hw'
                  subst hw''
                  go_wp2_with fail
                  go_ret
                  rw [HNn.out]
                  exact ⟨rfl, HK.out.trans (KA.out.trans (grew_kp _ _))⟩
                · have HNn := Lib.hid (HNo.out (by rw [HPb.out]; rfl))
                  refine wp_region_grew (by kernel_rfl) (by kernel_rfl) ?_
                  repeat (go_big_quiet_step ((first
                    | (go_at_call 80; with_reducible exact HC1.out _)
                    | (go_at_call 80; with_reducible exact HC2.out _)
                    | (go_at_call 74; exact Calls.grew_of (HMj.out _) (fun _ _ h => h)))))
                  refine wpQuiet_nil ?_
                  intro _ hw'
                  obtain ⟨nq, hw''⟩ := hw'
                  subst hw''
                  go_wp2_with fail
                  go_ret
                  rw [HNn.out]
                  exact ⟨rfl, HK.out.trans (KA.out.trans (grew_kp _ _))⟩
              · cases N
                · rcases Hrc.out with hr0 | hr1
                  · subst hr0
                    have HYs := Lib.hid (HYes.out (by rw [HPb.out, Hrm.out]; rfl))
                    have hj15 := HJ16.out rfl
                    refine wp_region_grew (by kernel_rfl) (by kernel_rfl) ?_
                    repeat (go_big_quiet_step ((first
                      | (go_at_call 80; with_reducible exact HC1.out _)
                      | (go_at_call 80; with_reducible exact HC2.out _)
                      | (go_at_call 74; exact Calls.grew_of (HMj.out _) (fun _ _ h => h)))))
                    refine wpQuiet_nil ?_
                    intro _ hw'
                    obtain ⟨nq, hw''⟩ := hw'
                    subst hw''
                    go_wp2_with fail
                    go_roundg (l.length - j)
                    case measure => omega
                    case rel => exact ⟨j + 1, by omega, hj15, by omega, by go_num, HYs.out, HK.out.trans (KA.out.trans (grew_kp _ _))⟩
                  · have HNn := Lib.hid (HNo.out (by rw [HPb.out, Hrm.out]; rcases hr1 with h | h <;> rw [h] <;> rfl))
                    rcases hr1 with rfl | rfl
                    all_goals
                      refine wp_region_grew (by kernel_rfl) (by kernel_rfl) ?_
                      repeat (go_big_quiet_step ((first
                        | (go_at_call 80; with_reducible exact HC1.out _)
                        | (go_at_call 80; with_reducible exact HC2.out _)
                        | (go_at_call 74; exact Calls.grew_of (HMj.out _) (fun _ _ h => h)))))
                      refine wpQuiet_nil ?_
                      intro _ hw'
                      obtain ⟨nq, hw''⟩ := hw'
                      subst hw''
                      go_wp2_with fail
                      go_ret
                      rw [HNn.out]
                      exact ⟨rfl, HK.out.trans (KA.out.trans (grew_kp _ _))⟩
                · rcases Hrc.out with hr0 | hr1
                  · subst hr0
                    have HYs := Lib.hid (HYes.out (by rw [HPb.out, Hrm.out]; rfl))
                    have hj15 := HJ16.out rfl
                    refine wp_region_grew (by kernel_rfl) (by kernel_rfl) ?_
                    repeat (go_big_quiet_step ((first
                      | (go_at_call 80; with_reducible exact HC1.out _)
                      | (go_at_call 80; with_reducible exact HC2.out _)
                      | (go_at_call 74; exact Calls.grew_of (HMj.out _) (fun _ _ h => h)))))
                    refine wpQuiet_nil ?_
                    intro _ hw'
                    obtain ⟨nq, hw''⟩ := hw'
                    subst hw''
                    go_wp2_with fail
                    go_roundg (l.length - j)
                    case measure => omega
                    case rel => exact ⟨j + 1, by omega, hj15, by omega, by go_num, HYs.out, HK.out.trans (KA.out.trans (grew_kp _ _))⟩
                  · have HNn := Lib.hid (HNo.out (by rw [HPb.out, Hrm.out]; rcases hr1 with h | h <;> rw [h] <;> rfl))
                    rcases hr1 with rfl | rfl
                    all_goals
                      refine wp_region_grew (by kernel_rfl) (by kernel_rfl) ?_
                      repeat (go_big_quiet_step ((first
                        | (go_at_call 80; with_reducible exact HC1.out _)
                        | (go_at_call 80; with_reducible exact HC2.out _)
                        | (go_at_call 74; exact Calls.grew_of (HMj.out _) (fun _ _ h => h)))))
                      refine wpQuiet_nil ?_
                      intro _ hw'
                      obtain ⟨nq, hw''⟩ := hw'
                      subst hw''
                      go_wp2_with fail
                      go_ret
                      rw [HNn.out]
                      exact ⟨rfl, HK.out.trans (KA.out.trans (grew_kp _ _))⟩
            · have HNn := Lib.hid (HNo.out (by rw [HPb.out]; rfl))
              refine wp_region_grew (by kernel_rfl) (by kernel_rfl) ?_
              repeat (go_big_quiet_step ((first
                | (go_at_call 80; with_reducible exact HC1.out _)
                | (go_at_call 80; with_reducible exact HC2.out _)
                | (go_at_call 74; exact Calls.grew_of (HMj.out _) (fun _ _ h => h)))))
              refine wpQuiet_nil ?_
              intro _ hw'
              obtain ⟨nq, hw''⟩ := hw'
              subst hw''
              go_wp2_with fail
              go_ret
              rw [HNn.out]
              exact ⟨rfl, HK.out.trans (KA.out.trans (grew_kp _ _))⟩
          · have HNn := Lib.hid (HNo.out (by rw [HPb.out]; rfl))
            refine wp_region_grew (by kernel_rfl) (by kernel_rfl) ?_
            repeat (go_big_quiet_step ((first
              | (go_at_call 80; with_reducible exact HC1.out _)
              | (go_at_call 80; with_reducible exact HC2.out _)
              | (go_at_call 74; exact Calls.grew_of (HMj.out _) (fun _ _ h => h)))))
            refine wpQuiet_nil ?_
            intro _ hw'
            obtain ⟨nq, hw''⟩ := hw'
            subst hw''
            go_wp2_with fail
            go_ret
            rw [HNn.out]
            exact ⟨rfl, HK.out.trans (KA.out.trans (grew_kp _ _))⟩
        · have HNn := Lib.hid (HNo.out (by rw [HPb.out]; rfl))
          refine wp_region_grew (by kernel_rfl) (by kernel_rfl) ?_
          repeat (go_big_quiet_step ((first
            | (go_at_call 80; with_reducible exact HC1.out _)
            | (go_at_call 80; with_reducible exact HC2.out _)
            | (go_at_call 74; exact Calls.grew_of (HMj.out _) (fun _ _ h => h)))))
          refine wpQuiet_nil ?_
          intro _ hw'
          obtain ⟨nq, hw''⟩ := hw'
          subst hw''
          go_wp2_with fail
          go_ret
          rw [HNn.out]
          exact ⟨rfl, HK.out.trans (KA.out.trans (grew_kp _ _))⟩
    · have HEnd := Lib.hid (nmI_end 2 l j (by omega) HJ.out)
      clear PLr
      go_wp2_with fail
      go_ret
      rw [HEnd.out]
      exact ⟨rfl, HK.out⟩
end Ad
end Go.Proofs.YtjkkcoiebnmkcaaGreatDoor
