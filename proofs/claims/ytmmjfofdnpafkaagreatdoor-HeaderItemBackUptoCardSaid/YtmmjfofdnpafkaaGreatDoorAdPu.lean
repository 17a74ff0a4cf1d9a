/- Contract of PrintParams of package address. Names and values have at most 2^21 bytes. -/
import Derived.Test.YtmmjfofdnpafkaaGreatDoorAdPq
import Derived.Test.YtmmjfofdnpafkaaGreatDoorM7
namespace Go.Proofs.YtmmjfofdnpafkaaGreatDoor
namespace Ad
open Go.RowKit Lx

theorem pvL_len (l : List UInt8) : (pvL l).length ≤ 2 * l.length + 2 := by
  unfold pvL
  split
  · omega
  · have := escL_len l
    simp only [List.length_append, List.length_cons, List.length_nil]; omega
theorem ppL_len (p : Prm) (h : p.1.length ≤ 2097152 ∧ p.2.1.length ≤ 2097152) : (ppL p).length ≤ 6291460 := by
  unfold ppL
  have := pvL_len p.2.1
  split <;> simp only [List.cons_append, List.length_append, List.length_cons, List.length_nil] <;> omega
def ppX (l : List Prm) (j : Nat) : List UInt8 := (l.take j).flatMap ppL
theorem ppX_len (l : List Prm) (h : SzP l) (j : Nat) (hj : j ≤ 16) : (ppX l j).length ≤ 16 * 6291460 := by
  unfold ppX
  have : ∀ m : List Prm, SzP m → (m.flatMap ppL).length ≤ m.length * 6291460 := by
    intro m
    induction m with
    | nil => intro _; simp
    | cons p t ih =>
      intro hm
      have h1 := ppL_len p (hm p (List.mem_cons_self ..))
      have h2 := ih (fun q hq => hm q (List.mem_cons_of_mem _ hq))
      rw [List.flatMap_cons, List.length_append, List.length_cons]; omega
  have h1 := this (l.take j) (h.take j)
  have h2 : (l.take j).length ≤ 16 := by rw [List.length_take]; omega
  exact Nat.le_trans h1 (Nat.mul_le_mul_right _ h2)
theorem ppX_snoc (l : List Prm) (j : Nat) (h : j < l.length) : ppX l (j + 1) = ppX l j ++ ppL l[j]! := by
  unfold ppX
  rw [List.take_succ_eq_append_getElem h, List.flatMap_append, getElem!_pos l j h]; simp
/-- What is printed so far is the head of the answer. -/
def PpI (l : List Prm) (j : Nat) : Prop := ppO l = (ppF (l.drop j) (l.take j)).map fun y => ppX l j ++ y
theorem ppI_zero (l : List Prm) : PpI l 0 := by
  unfold PpI ppO ppX; simp
theorem ppI_step (l : List Prm) (j : Nat) (h : j < l.length) (hI : PpI l j) (p : Prm) (hp : l[j]! = p) (hc : (ppB p && decide (room (l.take j) p.1 = 0)) = true) : PpI l (j + 1) := by
  unfold PpI at hI ⊢
  rw [getElem!_pos l j h] at hp
  rw [List.drop_eq_getElem_cons h, hp, ppF, if_pos hc] at hI
  rw [hI, List.take_succ_eq_append_getElem h, hp, ppX_snoc l j h, getElem!_pos l j h, hp, Option.map_map]
  congr 1
  funext y
  simp
theorem ppI_no (l : List Prm) (j : Nat) (h : j < l.length) (hI : PpI l j) (p : Prm) (hp : l[j]! = p) (hc : (ppB p && decide (room (l.take j) p.1 = 0)) = false) : ppO l = none := by
  unfold PpI at hI
  rw [getElem!_pos l j h] at hp
  rw [List.drop_eq_getElem_cons h, hp, ppF, if_neg (by rw [hc]; decide)] at hI
  exact hI
theorem ppI_end (l : List Prm) (j : Nat) (h : l.length ≤ j) (hI : PpI l j) : ppO l = some (ppX l j) := by
  unfold PpI at hI
  rw [List.drop_eq_nil_of_le h, ppF] at hI
  rw [hI]; simp
theorem room_cases (acc : List Prm) (n : List UInt8) : room acc n = 0 ∨ room acc n = 7 ∨ room acc n = 4 := by
  unfold room
  split
  · exact .inr (.inl rfl)
  · split
    · exact .inr (.inr rfl)
    · exact .inl rfl
/-- An error code, and memory that is only added to. -/
def ErK (x : Int) (w : World) (e : Ending) (w' : World) : Prop := e = .returned (.int .u8 x) ∧ Kp [] w w'
theorem PmIn.take {B : Nat} {w : World} {b o n c : Nat} {l : List Prm} (hb : b < B) (hn : l.length = n) (hc : n ≤ c) (hcell : ∀ (i : Nat) (u : Value), (pcl l)[i]? = some u → w.cell? ⟨b, o + i, none⟩ = some u) (j : Nat) (hj : j ≤ n) : PmIn B w (.slice (some ⟨b, o, none⟩) j c) (l.take j) := by
  refine ⟨j, c, by rw [List.length_take]; omega, by omega, .inr ⟨b, o, rfl, hb, fun i u hu => hcell i u ?_⟩⟩
  have e : pcl l = pcl (l.take j) ++ pcl (l.drop j) := by rw [← pcl_app, List.take_append_drop]
  rw [e, List.getElem?_append_left (by exact (List.getElem?_eq_some_iff.1 hu).1)]; exact hu
set_option maxRecDepth 100000 in
set_option maxHeartbeats 4000000 in
theorem printParams_any (B : Nat) (v : Value) (l : List Prm) (w : World) (hP : PmIn B w v l) (hB : B ≤ w.heap.size) (hz : SzP l) (hl : l.length ≤ 2097152) (E : Env w) :
    Calls Tryz.prog 65 #[v] w (PrP (ppO l) w) := by
  obtain ⟨A, c, rfl⟩ := hP.form
  have hsz := E.sz
  have hal := (Kp.refl [] w).alloc (.cells #[.pointer none, .slice none 0 0] 131)
  obtain ⟨w0, hw0⟩ : ∃ w0, w.alloc (.cells #[.pointer none, .slice none 0 0] 131) = w0 := ⟨_, rfl⟩
  have I0 := Lib.hid (show IsB w.heap.size w.heap.size [] w0 from by rw [← hw0]; exact fresh_isB w)
  rw [hw0] at hal
  have K0 := Lib.hid hal
  have P0 := Lib.hid (hP.kp hal hB (by simp))
  have E0 := Lib.hid (E.kp hal (by simp))
  have hz0 : w.heap.size ≤ w0.heap.size := hal.size
  clear hal hP E
  go_enter Tryz.func65, Tryz.ntmps65
  go_wp2_with fail
  go_loopg [9] (l.length + 1) (fun gg i wr => ∃ j : Nat, j ≤ l.length ∧ j ≤ 16 ∧ l.length - j < gg ∧ i = .int .i64 j ∧ PpI l j ∧ IsB w.heap.size w.heap.size (Lib.byteCells (ppX l j)) wr ∧ Kb w.heap.size w0 wr)
  case atStart => exact ⟨0, by omega, by omega, by omega, rfl, ppI_zero l, by simpa [ppX, Lib.byteCells] using I0.out, Kb.refl _ _⟩
  case round =>
    obtain ⟨j, hj, hj16, hg, rfl, hJ, hI, hK⟩ := hrel
    have HI := Lib.hid hI
    have HK := Lib.hid hK
    have HJ := Lib.hid hJ
    have hzr := hK.below.size
    have Er := Lib.hid (E0.out.belowB hK.below (by omega))
    have PLr := P0.out.belowB hK.below hB
    have hla := ppX_len l hz j hj16
    clear hI hK hJ
    by_cases hlt : j < l.length
    · obtain ⟨q1, q2, q3, hq⟩ : ∃ a b c, l[j]! = (a, b, c) := ⟨_, _, _, rfl⟩
      have hm : (q1, q2, q3) ∈ l := by rw [← hq, getElem!_pos l j hlt]; exact List.getElem_mem hlt
      obtain ⟨hq1, hq2⟩ := hz _ hm
      dsimp only at hq1 hq2
      have hsn := ppX_snoc l j hlt
      rw [hq] at hsn
      have HSn := Lib.hid hsn
      have HYes := Lib.hid (ppI_step l j hlt HJ.out _ hq)
      have HNo := Lib.hid (ppI_no l j hlt HJ.out _ hq)
      have hsome : l[j]? = some (q1, q2, q3) := by rw [← hq]; exact getD_some l j hlt
      obtain ⟨_, c', rfl, hc, ⟨h0, hv⟩ | ⟨bl, o, hv, hbl, hcell⟩⟩ := PLr
      · omega
      · injection hv with hA _ hc2
        subst hA
        subst hc2
        have c0 : wr.cell? ⟨bl, o + j * 3, none⟩ = some (.string (Txt q1)) := hcell _ _ (pcl_at l j _ hsome 0 _ rfl)
        have c1 : wr.cell? ⟨bl, o + j * 3 + 1, none⟩ = some (.string (Txt q2)) := by rw [Nat.add_assoc]; exact hcell _ _ (pcl_at l j _ hsome 1 _ rfl)
        have c2 : wr.cell? ⟨bl, o + j * 3 + 2, none⟩ = some (.bool q3) := by rw [Nat.add_assoc]; exact hcell _ _ (pcl_at l j _ hsome 2 _ rfl)
        have hc3 : j ≤ c := by omega
        have HTk := Lib.hid (PmIn.take hbl rfl hc hcell j hj)
        have hKA := (Kp.refl [] wr).alloc (.cells #[.string (Txt q1), .string (Txt q2), .bool q3] 72)
        obtain ⟨wA, hwA⟩ : ∃ wA, wr.alloc (.cells #[.string (Txt q1), .string (Txt q2), .bool q3] 72) = wA := ⟨_, rfl⟩
        have BA := show Blk wA wr.heap.size 72 #[.string (Txt q1), .string (Txt q2), .bool q3] from by rw [← hwA]; exact Blk.new wr _ _
        rw [hwA] at hKA
        have KA := Lib.hid hKA
        have g0 := grew_cell (BA.cell 0)
        have g1 := grew_cell (BA.cell 1)
        have g2 := grew_cell (BA.cell 2)
        have BAh := Lib.hid BA
        have HTA := Lib.hid (HTk.out.kp hKA (by omega) (by simp))
        have hzA : w.heap.size ≤ wA.heap.size := by have := hKA.size; omega
        obtain ⟨pb, hpb⟩ : ∃ b, ppB (q1, q2, q3) = b := ⟨_, rfl⟩
        have HPb := Lib.hid (fun wz => printable_any q1 q2 q3 wz hq1 hq2)
        rw [hpb] at HPb
        clear BA hKA hcell hc hq hm hsome hsn
        cases pb
        · have HNn := Lib.hid (HNo.out (by rw [hpb]; rfl))
          clear hpb
          go_wp2_with fail
          refine wp_region_grew (by kernel_rfl) (by kernel_rfl) ?_
          repeat (go_big_quiet_step ((go_at_call 129; exact Calls.grew_of (HPb.out _) (fun _ _ h => h))))
          refine wpQuiet_nil ?_
          intro _ hw'
          obtain ⟨nq, hw''⟩ := hw'
          subst hw''
          go_wp2_with fail
          go_ret2
          rw [HNn.out]
          exact ⟨rfl, (K0.out.kb HK.out.below (Nat.le_refl _) |>.trans KA.out |>.trans (grew_kp _ _)).nilBelow⟩
        · have HMj := Lib.hid (fun (n : Gw wA) => (mayJoin_any B (.slice (some ⟨bl, o, none⟩) j c) (l.take j) (q1, q2, q3) (grew wA n) (HTA.out.kp (grew_kp _ n) (by omega) (by simp)) (by have := (grew_kp _ n).size; omega) (by rw [List.length_take]; omega)).mono (fun e w' h => (⟨h.1, (Kp.refl [] _).below h.2⟩ : ErK (room (l.take j) q1) (grew wA n) e w')))
          obtain ⟨rm, hrm⟩ : ∃ r, room (l.take j) q1 = r := ⟨_, rfl⟩
          rw [hrm] at HMj
          have hrc := room_cases (l.take j) q1
          rw [hrm] at hrc
          have hj64 : (j : Int) < 4194304 := by omega
          have hlc : (j : Int) ≤ (c : Int) := by omega
          rcases hrc with hr0 | hr1
          · subst hr0
            have HYs := Lib.hid (HYes.out (by rw [hpb, hrm]; rfl))
            have hj15 : j < 16 := by have := ((room_iff (l.take j) q1).1 hrm).2; rw [List.length_take] at this; omega
            have hctl0 : hasCtl q2 = false := by have h := hpb; rw [ppB_eq] at h; simp only [Bool.and_eq_true] at h; simpa using h.2.2.1
            clear hpb hrm
            go_wp2_with fail
            refine wp_region_grew (by kernel_rfl) (by kernel_rfl) ?_
            repeat (go_big_quiet_step ((first | (go_at_call 129; exact Calls.grew_of (HPb.out _) (fun _ _ h => h)) | (go_at_call 130; exact Calls.grew_of (HMj.out _) (fun _ _ h => h)))))
            refine wpQuiet_nil ?_
            intro _ hw'
            obtain ⟨nq, hw''⟩ := hw'
            subst hw''
            have hKG := grew_kp wA nq
            obtain ⟨w2, hw2⟩ : ∃ w2, grew wA nq = w2 := ⟨_, rfl⟩
            rw [hw2] at hKG ⊢
            clear hw2 g0 g1 g2
            have hctl : hasCtl q2 = false := hctl0
            have I2 := Lib.hid (isB_kp (isB_kp HI.out KA.out (by simp)) hKG (by simp))
            have K2 := Lib.hid (Kb.of_below ((KA.out.trans hKG).nilBelow) (B := w.heap.size) (by omega))
            have B2 := Lib.hid (BAh.out.kp hKG (by simp))
            have E2 := Lib.hid ((Er.out.kp KA.out (by simp)).kp hKG (by simp))
            have hz2 : w.heap.size ≤ w2.heap.size := by have := hKG.size; omega
            clear hKG c0 c1 c2
            go_wp2_with fail
            refine (wbyt w.heap.size w.heap.size (ppX l j) 59 59 rfl _ I2.out (by omega) hz2).mono ?_
            rintro e w3 ⟨rfl, hI, hk⟩
            have I3 := Lib.hid hI
            have K3 := Lib.hid (K2.out.trans hk)
            have B3 := Lib.hid (B2.out.kb hk (by decide))
            have E3 := Lib.hid (E2.out.belowB hk.below (by omega))
            have hz3 : w.heap.size ≤ w3.heap.size := by have := hk.below.size; omega
            have hl3 : (ppX l j ++ [59]).length ≤ 268435456 := by rw [List.length_append, List.length_singleton]; omega
            clear hI hk
            have s0 : w3.cell? ⟨wr.heap.size, 0, none⟩ = some (.string (Txt q1)) := B3.out.cell 0
            go_wp2_with fail
            refine (wstr w.heap.size w.heap.size (ppX l j ++ [59]) q1 _ I3.out (by omega) (by omega) hz3).mono ?_
            rintro e w4 ⟨rfl, hI, hk⟩
            have I4 := Lib.hid hI
            have K4 := Lib.hid (K3.out.trans hk)
            have B4 := Lib.hid (B3.out.kb hk (by decide))
            have E4 := Lib.hid (E3.out.belowB hk.below (by omega))
            have hz4 : w.heap.size ≤ w4.heap.size := by have := hk.below.size; omega
            have hl4 : (ppX l j ++ [59] ++ q1).length ≤ 536870912 := by rw [List.length_append]; omega
            clear hI hk s0
            have s2 : w4.cell? ⟨wr.heap.size, 2, none⟩ = some (.bool q3) := B4.out.cell 2
            cases q3
            · have HT := Lib.hid (HSn.out.trans (by unfold ppL; simp) : ppX l (j + 1) = ppX l j ++ [59] ++ q1)
              go_wp2_with fail
              go_roundg (l.length - j)
              case measure => omega
              case rel => exact ⟨j + 1, by omega, by omega, by omega, by go_num, HYs.out, by rw [HT.out]; exact I4.out, HK.out.trans K4.out⟩
            · have HT := Lib.hid (HSn.out.trans (by unfold ppL; simp) : ppX l (j + 1) = ppX l j ++ [59] ++ q1 ++ [61] ++ pvL q2)
              have hpl := pvL_len q2
              go_wp2_with fail
              refine (wbyt w.heap.size w.heap.size (ppX l j ++ [59] ++ q1) 61 61 rfl _ I4.out (by omega) hz4).mono ?_
              rintro e w5 ⟨rfl, hI, hk⟩
              have I5 := Lib.hid hI
              have K5 := Lib.hid (K4.out.trans hk)
              have B5 := Lib.hid (B4.out.kb hk (by decide))
              have E5 := Lib.hid (E4.out.belowB hk.below (by omega))
              have hz5 : w.heap.size ≤ w5.heap.size := by have := hk.below.size; omega
              have hl5 : (ppX l j ++ [59] ++ q1 ++ [61]).length ≤ 536870913 := by rw [List.length_append, List.length_singleton]; omega
              clear hI hk s2
              have s1 : w5.cell? ⟨wr.heap.size, 1, none⟩ = some (.string (Txt q2)) := B5.out.cell 1
              go_wp2_with fail
              refine (printValue_any q2 _ hq2 hctl E5.out).mono ?_
              rintro e w6 ⟨rfl, hB6⟩
              have hK6 := (Kp.refl [] w5).below hB6
              have I6 := Lib.hid (isB_kp I5.out hK6 (by simp))
              have K6 := Lib.hid (K5.out.trans (Kb.of_below hB6 hz5))
              have hz6 : w.heap.size ≤ w6.heap.size := by have := hB6.size; omega
              clear hB6 hK6 s1
              go_wp2_with fail
              refine (wstr w.heap.size w.heap.size (ppX l j ++ [59] ++ q1 ++ [61]) (pvL q2) _ I6.out (by omega) (by omega) hz6).mono ?_
              rintro e w7 ⟨rfl, hI, hk⟩
              have I7 := Lib.hid hI
              have K7 := Lib.hid (K6.out.trans hk)
              clear hI hk
              go_wp2_with fail
              go_roundg (l.length - j)
              case measure => omega
              case rel => exact ⟨j + 1, by omega, by omega, by omega, by go_num, HYs.out, by rw [HT.out]; exact I7.out, HK.out.trans K7.out⟩
          · have HNn := Lib.hid (HNo.out (by rw [hpb, hrm]; rcases hr1 with h | h <;> rw [h] <;> rfl))
            clear hpb hrm
            rcases hr1 with rfl | rfl
            all_goals
              go_wp2_with fail
              refine wp_region_grew (by kernel_rfl) (by kernel_rfl) ?_
              repeat (go_big_quiet_step ((first | (go_at_call 129; exact Calls.grew_of (HPb.out _) (fun _ _ h => h)) | (go_at_call 130; exact Calls.grew_of (HMj.out _) (fun _ _ h => h)))))
              refine wpQuiet_nil ?_
              intro _ hw'
              obtain ⟨nq, hw''⟩ := hw'
              subst hw''
              go_wp2_with fail
              go_ret2
              rw [HNn.out]
              exact ⟨rfl, (K0.out.kb HK.out.below (Nat.le_refl _) |>.trans KA.out |>.trans (grew_kp _ _)).nilBelow⟩
    · have HEnd := Lib.hid (ppI_end l j (by omega) HJ.out)
      clear PLr
      go_wp2_with fail
      refine (string_any w.heap.size w.heap.size _ _ HI.out (by omega)).mono ?_
      rintro e w9 ⟨rfl, hk9, _⟩
      have KF := Lib.hid (K0.out.belowB (HK.out.below.trans hk9.below) (Nat.le_refl _))
      clear hk9
      go_wp2_with fail
      go_ret2
      rw [HEnd.out]
      exact ⟨rfl, KF.out.nilBelow⟩
end Ad
end Go.Proofs.YtmmjfofdnpafkaaGreatDoor
