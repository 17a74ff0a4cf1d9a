/- Contract of the reference's reader's port (dialtoneref02). A text has at most 2^21 bytes. -/
import Derived.Test.YtonbkedjlbhpfaaGreatDoorAdVo
namespace Go.Proofs.YtonbkedjlbhpfaaGreatDoor
namespace Ad
open Go.RowKit Lx

/-- Behind a reader's method that gives a number. -/
def RdI (b : Nat) (s : ByteArray) (r : Int × Nat × Int) (w : World) (e : Ending) (w' : World) : Prop :=
  ∃ v i', e = .returned (.int .i64 v) ∧ i' ≤ s.size ∧ Rdr b s i' (if r.2.2 = 0 then 0 else r.2.1) r.2.2 w' ∧ Kp [b] w w' ∧ (r.2.2 = 0 → v = r.1 ∧ i' = r.2.1)
theorem mem2 (c : Int) : memB (ByteArray.mk #[59, 63]).data.toList c = semq c := by
  unfold memB semq
  simp only [List.any_cons, List.any_nil, Bool.or_false]
  have e : ∀ n : Nat, ((n : Int) == c) = (c == (n : Int)) := fun n => by rw [Bool.eq_iff_iff]; simp only [beq_iff_eq]; exact eq_comm
  rw [show (((59 : UInt8).toNat : Int)) = 59 from rfl, show (((63 : UInt8).toNat : Int)) = 63 from rfl]
  rw [show ((59 : Int) == c) = (c == 59) from e 59, show ((63 : Int) == c) = (c == 63) from e 63]
theorem prt_no (s : ByteArray) (i : Nat) (hi : i ≤ s.size) (h : (atB s.data.toList i == 58) = false) :
    prtR s.data.toList i = if i < s.size ∧ (atB s.data.toList i == 59) = false ∧ (atB s.data.toList i == 63) = false then (0, i, 5) else (0, i, 0) := by
  unfold prtR
  rw [if_neg (by rw [beq_eq_false_iff_ne] at h; exact h)]
  by_cases hlt : i < s.size
  · have hA := atB_get s i hlt
    by_cases hq : semq s[i].toNat = true
    · rw [endP_at_k semq s i hlt hq, if_neg (by omega), if_neg]
      rintro ⟨_, h1, h2⟩
      rw [hA] at h1 h2
      unfold semq at hq
      rw [h1, h2] at hq
      cases hq
    · rw [Bool.not_eq_true] at hq
      have hg : i < endP semq s.data.toList i := by rw [endP_next semq s i hlt hq]; exact endP_ge semq s.data.toList (i + 1)
      rw [if_pos hg, if_pos]
      unfold semq at hq
      rw [Bool.or_eq_false_iff] at hq
      rw [hA]
      exact ⟨hlt, hq.1, hq.2⟩
  · rw [endP_out semq s i (by omega), if_neg (by omega), if_neg (fun h => hlt h.1)]
set_option maxRecDepth 100000 in
set_option maxHeartbeats 8000000 in
theorem rport_no (b i : Nat) (s : ByteArray) (w : World) (R : Rdr b s i 0 0 w) (hi : i ≤ s.size) (hs : s.size ≤ 2097152) (h58 : (atB s.data.toList i == 58) = false) :
    Calls Tryz.prog 75 #[.pointer (some ⟨b, 0, none⟩)] w (RdI b s (prtR s.data.toList i) w) := by
  have hbw := R.lt
  have HRd := Lib.hid R
  have HV := Lib.hid (prt_no s i hi h58)
  have hIs : ∀ (c : Int) (x : Bool), 0 ≤ c → (atB s.data.toList i == c) = x → ∀ wz, Rdr b s i 0 0 wz → Calls Tryz.prog 151 #[.pointer (some ⟨b, 0, none⟩), .int .u8 c] wz (BoK x wz) := fun c x hc hx wz h => by have h2 := ris_any b i 0 s c wz h hi hs hc; rw [hx] at h2; exact h2
  obtain ⟨x59, h59⟩ : ∃ x, (atB s.data.toList i == 59) = x := ⟨_, rfl⟩
  obtain ⟨x63, h63⟩ : ∃ x, (atB s.data.toList i == 63) = x := ⟨_, rfl⟩
  have HI58 := Lib.hid (hIs 58 false (by decide) h58)
  have HI59 := Lib.hid (hIs 59 x59 (by decide) h59)
  have HI63 := Lib.hid (hIs 63 x63 (by decide) h63)
  rw [h59, h63] at HV
  clear R h58 h59 h63 hIs
  go_enter Tryz.func75, Tryz.ntmps75
  go_wp2_with fail
  refine (HI58.out _ HRd.out).mono ?_
  rintro e w2 ⟨rfl, hK2⟩
  have R2 := Lib.hid (HRd.out.kp hK2 (by simp))
  have K2 := Lib.hid hK2
  clear hK2
  have c0 := grew_cell R2.out.c0
  have c1 := grew_cell R2.out.c1
  have Q1 := Lib.hid (fun (n : Gw w2) => Calls.grew_of (HI59.out _ (R2.out.kp (grew_kp w2 n) (by simp))) (fun _ _ h => h))
  have Q2 := Lib.hid (fun (n : Gw w2) => Calls.grew_of (HI63.out _ (R2.out.kp (grew_kp w2 n) (by simp))) (fun _ _ h => h))
  by_cases hlt : i < s.size
  · have hl64 : (i : Int) < (s.size : Int) := by omega
    cases x59
    · cases x63
      · have HF := Lib.hid (HV.out.trans (if_pos ⟨hlt, rfl, rfl⟩) : prtR s.data.toList i = (0, i, 5))
        go_upto_region 2 with fail
        refine wp_region_grew (by kernel_rfl) (by kernel_rfl) ?_
        (go_big_quiet_step ((first | (go_at_call 151; with_reducible exact Q1.out _) | (go_at_call 151; with_reducible exact Q2.out _))))
        repeat (go_big_quiet_step ((first | (go_at_call 151; with_reducible exact Q1.out _) | (go_at_call 151; with_reducible exact Q2.out _))))
        refine wpQuiet_nil ?_
        intro _ hw'
        obtain ⟨nq, hw''⟩ := hw'
        subst hw''
        have hKG := grew_kp w2 nq
        obtain ⟨w4, hw4⟩ : ∃ w4, grew w2 nq = w4 := ⟨_, rfl⟩
        rw [hw4] at hKG ⊢
        have R4 := Lib.hid (R2.out.kp hKG (by simp))
        have K4 := Lib.hid (K2.out.trans hKG)
        clear hw4 c0 c1 hKG
        have c1 := R4.out.c1
        go_wp2_with fail
        refine (rfail_yes b i 0 i s 5 _ R4.out).mono ?_
        rintro e w5 ⟨rfl, hR5, hK5⟩
        have R5 := Lib.hid hR5
        have K5 := Lib.hid ((K4.out.mono (Y := [b]) (by simp)).trans hK5)
        clear hR5 hK5 c1
        go_wp2_with fail
        go_ret
        unfold RdI
        rw [HF.out]
        exact ⟨_, i, rfl, hi, R5.out, K5.out, fun h => by simp at h⟩
      · have HF := Lib.hid (HV.out.trans (if_neg (fun h => by cases h.2.2)) : prtR s.data.toList i = (0, i, 0))
        go_upto_region 2 with fail
        refine wp_region_grew (by kernel_rfl) (by kernel_rfl) ?_
        (go_big_quiet_step ((first | (go_at_call 151; with_reducible exact Q1.out _) | (go_at_call 151; with_reducible exact Q2.out _))))
        repeat (go_big_quiet_step ((first | (go_at_call 151; with_reducible exact Q1.out _) | (go_at_call 151; with_reducible exact Q2.out _))))
        refine wpQuiet_nil ?_
        intro _ hw'
        obtain ⟨nq, hw''⟩ := hw'
        subst hw''
        have hKG := grew_kp w2 nq
        obtain ⟨w4, hw4⟩ : ∃ w4, grew w2 nq = w4 := ⟨_, rfl⟩
        rw [hw4] at hKG ⊢
        have R4 := Lib.hid (R2.out.kp hKG (by simp))
        have K4 := Lib.hid (K2.out.trans hKG)
        clear hw4 c0 c1 hKG
        go_wp2_with fail
        go_ret
        unfold RdI
        rw [HF.out]
        exact ⟨_, i, rfl, hi, R4.out, K4.out.mono (by simp), fun _ => ⟨rfl, rfl⟩⟩
    · have HF := Lib.hid (HV.out.trans (if_neg (fun h => by cases h.2.1)) : prtR s.data.toList i = (0, i, 0))
      go_upto_region 2 with fail
      refine wp_region_grew (by kernel_rfl) (by kernel_rfl) ?_
      (go_big_quiet_step ((first | (go_at_call 151; with_reducible exact Q1.out _) | (go_at_call 151; with_reducible exact Q2.out _))))
      repeat (go_big_quiet_step ((first | (go_at_call 151; with_reducible exact Q1.out _) | (go_at_call 151; with_reducible exact Q2.out _))))
      refine wpQuiet_nil ?_
      intro _ hw'
      obtain ⟨nq, hw''⟩ := hw'
      subst hw''
      have hKG := grew_kp w2 nq
      obtain ⟨w4, hw4⟩ : ∃ w4, grew w2 nq = w4 := ⟨_, rfl⟩
      rw [hw4] at hKG ⊢
      have R4 := Lib.hid (R2.out.kp hKG (by simp))
      have K4 := Lib.hid (K2.out.trans hKG)
      clear hw4 c0 c1 hKG
      go_wp2_with fail
      go_ret
      unfold RdI
      rw [HF.out]
      exact ⟨_, i, rfl, hi, R4.out, K4.out.mono (by simp), fun _ => ⟨rfl, rfl⟩⟩
  · have hl64 : ¬ (i : Int) < (s.size : Int) := by omega
    have HF := Lib.hid (HV.out.trans (if_neg (fun h => hlt h.1)) : prtR s.data.toList i = (0, i, 0))
    go_upto_region 2 with fail
    refine wp_region_grew (by kernel_rfl) (by kernel_rfl) ?_
    (go_big_quiet_step ((first | (go_at_call 151; with_reducible exact Q1.out _) | (go_at_call 151; with_reducible exact Q2.out _))))
    repeat (go_big_quiet_step ((first | (go_at_call 151; with_reducible exact Q1.out _) | (go_at_call 151; with_reducible exact Q2.out _))))
    refine wpQuiet_nil ?_
    intro _ hw'
    obtain ⟨nq, hw''⟩ := hw'
    subst hw''
    have hKG := grew_kp w2 nq
    obtain ⟨w4, hw4⟩ : ∃ w4, grew w2 nq = w4 := ⟨_, rfl⟩
    rw [hw4] at hKG ⊢
    have R4 := Lib.hid (R2.out.kp hKG (by simp))
    have K4 := Lib.hid (K2.out.trans hKG)
    clear hw4 c0 c1 hKG
    go_wp2_with fail
    go_ret
    unfold RdI
    rw [HF.out]
    exact ⟨_, i, rfl, hi, R4.out, K4.out.mono (by simp), fun _ => ⟨rfl, rfl⟩⟩
set_option maxRecDepth 100000 in
set_option maxHeartbeats 8000000 in
theorem rport_yes (b i : Nat) (s : ByteArray) (w : World) (R : Rdr b s i 0 0 w) (hi : i ≤ s.size) (hs : s.size ≤ 2097152) (h58 : (atB s.data.toList i == 58) = true) :
    Calls Tryz.prog 75 #[.pointer (some ⟨b, 0, none⟩)] w (RdI b s (prtR s.data.toList i) w) := by
  have hbw := R.lt
  have HRd := Lib.hid R
  have hA : atB s.data.toList i = 58 := by simpa using h58
  have hlt : i < s.size := by have := atB_lt s.data.toList i (by rw [hA]; decide); rwa [len_list] at this
  obtain ⟨i1, h1⟩ : ∃ x, i + 1 = x := ⟨_, rfl⟩
  obtain ⟨te, hte⟩ : ∃ n, endP semq s.data.toList i1 = n := ⟨_, rfl⟩
  have g0 : i1 ≤ te := by rw [← hte]; exact endP_ge _ _ _
  have l0 : te ≤ s.size := by rw [← hte, ← len_list]; exact endP_le _ _ _ (by rw [len_list]; omega)
  obtain ⟨nE, hnE⟩ : ∃ n, numE (slc s.data.toList i1 te) = n := ⟨_, rfl⟩
  obtain ⟨nN, hnN⟩ : ∃ n, numN (slc s.data.toList i1 te) = n := ⟨_, rfl⟩
  have HV := Lib.hid (by unfold prtR; rw [if_pos hA, h1, hte, hnE, hnN] : prtR s.data.toList i = if nE ≠ 0 then (0, i1, nE) else if nN < 1 ∨ 65535 < nN then (0, i1, 3) else (nN, te, 0))
  have HIs := Lib.hid (by have h2 := ris_any b i 0 s 58 w R hi hs (by decide); rw [h58] at h2; exact h2 : Calls Tryz.prog 151 #[.pointer (some ⟨b, 0, none⟩), .int .u8 58] w (BoK true w))
  have HUn := Lib.hid (fun wz (h : Rdr b s i1 0 0 wz) => (by have h := runtil_any semq b i1 0 s ⟨#[59, 63]⟩ 0 wz h (by omega) hs (by decide) mem2; rw [hte] at h; exact h : Calls Tryz.prog 72 #[.pointer (some ⟨b, 0, none⟩), .string ⟨#[59, 63]⟩] wz (InK (te : Nat) wz)))
  have HNu := Lib.hid (fun wz => (by have h := rnumber_any (s.extract i1 te) wz (by unfold maxLen; simp; omega); rw [show (s.extract i1 te).data.toList = slc s.data.toList i1 te from slc_data s i1 te, hnE, hnN] at h; exact h : Calls Tryz.prog 118 #[.string (s.extract i1 te)] wz (Ret (.tuple #[.int .i64 nN, .int .u8 nE]) wz)))
  have hz : nE ≠ 0 → nN = 0 := by
    intro h
    rw [← hnN]; rw [← hnE] at h
    unfold numN numE at *
    generalize (slc s.data.toList i1 te) = l at *
    by_cases h1 : l.length < 1 ∨ 10 < l.length ∨ allD l = false
    · rw [if_pos (by rcases h1 with h1 | h1 | h1 <;> simp [h1])]
    · rw [if_neg h1] at h
      by_cases h2 : 2147483647 < valL l
      · rw [if_pos (.inr (.inr (.inr h2)))]
      · rw [if_neg h2] at h; exact absurd rfl h
  have Hz := Lib.hid hz
  clear R h58 hA hte hnE hnN hz
  go_enter Tryz.func75, Tryz.ntmps75
  go_wp2_with fail
  refine HIs.out.mono ?_
  rintro e w2 ⟨rfl, hK2⟩
  have R2 := Lib.hid (HRd.out.kp hK2 (by simp))
  have c1 := R2.out.c1
  have f1 := R2.out.fr 1
  have hR3 := R2.out.at1 i1
  have hK3 := (hK2.mono (Y := [b]) (by simp)).setCell (p := ⟨b, 1, none⟩) (.inl (by simp)) (.int .i64 i1)
  have hi1 : IntKind.i64.wrap ((i : Int) + 1) = (i1 : Int) := by rw [IntWalk.i64_in _ (by omega)]; omega
  have hil : i1 ≤ s.size := by omega
  clear hK2 h1
  go_upto_region 6 with fail
  obtain ⟨w3, hw3⟩ : ∃ w3, w2.setCell ⟨b, 1, none⟩ (.int .i64 i1) = w3 := ⟨_, rfl⟩
  rw [hw3] at hR3 hK3 ⊢
  have R3 := Lib.hid hR3
  have K3 := Lib.hid hK3
  clear hw3 hR3 hK3 c1 f1 hi1
  go_wp2_with fail
  refine (HUn.out _ R3.out).mono ?_
  rintro e w4 ⟨rfl, hK4⟩
  have R4 := Lib.hid (R3.out.kp hK4 (by simp))
  have K4 := Lib.hid (K3.out.trans (hK4.mono (Y := [b]) (by simp)))
  clear hK4
  have c0 := grew_cell R4.out.c0
  have c1 := grew_cell R4.out.c1
  have hi64 : (i1 : Int) ≤ (te : Int) := by omega
  have ht64 : (te : Int) ≤ (s.size : Int) := by omega
  have Q6 := Lib.hid (fun (n : Gw w4) => (Calls.grew_of (HNu.out _) (fun _ _ h => ⟨h.1, by rw [← h.2]; exact Kp.refl [] _⟩) : Calls Tryz.prog 118 #[.string (s.extract i1 te)] (grew w4 n) fun e w'' => e = .returned (.tuple #[.int .i64 nN, .int .u8 nE]) ∧ ∃ m, w'' = grew w4 m))
  go_upto_region 7 with fail
  refine wp_region_grew (by kernel_rfl) (by kernel_rfl) ?_
  (go_big_quiet_step ((go_at_call 118; with_reducible exact Q6.out _)))
  repeat (go_big_quiet_step ((go_at_call 118; with_reducible exact Q6.out _)))
  refine wpQuiet_nil ?_
  intro _ hw'
  obtain ⟨nq, hw''⟩ := hw'
  subst hw''
  have hKG := grew_kp w4 nq
  obtain ⟨w5, hw5⟩ : ∃ w5, grew w4 nq = w5 := ⟨_, rfl⟩
  rw [hw5] at hKG ⊢
  have R5 := Lib.hid (R4.out.kp hKG (by simp))
  have K5 := Lib.hid (K4.out.trans (hKG.mono (Y := [b]) (by simp)))
  clear hw5 c0 c1 hKG
  have c1 := R5.out.c1
  by_cases hE : nE = 0
  · have bE : (nE == 0) = true := by rw [hE]; rfl
    have bE2 : (nE != 0) = false := by rw [hE]; rfl
    have HW := Lib.hid (HV.out.trans (if_neg (fun h => h hE)))
    clear hE
    by_cases hr : nN < 1 ∨ 65535 < nN
    · have HF := Lib.hid (HW.out.trans (if_pos hr))
      rcases hr with hr | hr
      all_goals
        go_wp2_with fail
        refine (rfail_yes b i1 0 i1 s 3 _ R5.out).mono ?_
        rintro e w6 ⟨rfl, hR6, hK6⟩
        clear c1
        have c1 := hR6.c1
        have f1 := hR6.fr 1
        have R7 := Lib.hid (hR6.at1 te)
        have K7 := Lib.hid ((K5.out.trans hK6).setCell (p := ⟨b, 1, none⟩) (.inl (by simp)) (.int .i64 te))
        clear hR6 hK6
        go_wp2_with fail
        go_ret
        unfold RdI
        rw [HF.out]
        exact ⟨_, te, rfl, l0, R7.out, K7.out, fun h => by simp at h⟩
    · have HF := Lib.hid (HW.out.trans (if_neg hr))
      have r1 : ¬ nN < 1 := fun h => hr (.inl h)
      have r2 : ¬ 65535 < nN := fun h => hr (.inr h)
      have f1 := R5.out.fr 1
      have R7 := Lib.hid (R5.out.at1 te)
      have K7 := Lib.hid (K5.out.setCell (p := ⟨b, 1, none⟩) (.inl (by simp)) (.int .i64 te))
      clear hr
      go_wp2_with fail
      go_ret
      unfold RdI
      rw [HF.out]
      exact ⟨_, te, rfl, l0, R7.out, K7.out, fun _ => ⟨rfl, rfl⟩⟩
  · have bE : (nE == 0) = false := by rw [beq_eq_false_iff_ne]; exact hE
    have bE2 : (nE != 0) = true := by rw [bne_iff_ne]; exact hE
    have HF := Lib.hid (HV.out.trans (if_pos hE))
    have hN0 := Hz.out hE
    subst hN0
    have HE := Lib.hid hE
    clear hE
    go_wp2_with fail
    refine (rfail_yes b i1 0 i1 s nE _ R5.out).mono ?_
    rintro e w6 ⟨rfl, hR6, hK6⟩
    clear c1
    have c1 := hR6.c1
    have R6 := Lib.hid hR6
    have K6 := Lib.hid (K5.out.trans hK6)
    clear hR6 hK6
    go_wp2_with fail
    refine (rfail_no b i1 i1 i1 s nE 3 _ R6.out HE.out).mono ?_
    rintro e w7 ⟨rfl, hR7, hK7⟩
    clear c1
    have c1 := hR7.c1
    have f1 := hR7.fr 1
    have R8 := Lib.hid (hR7.at1 te)
    have K8 := Lib.hid ((K6.out.trans hK7).setCell (p := ⟨b, 1, none⟩) (.inl (by simp)) (.int .i64 te))
    clear hR7 hK7
    go_wp2_with fail
    go_ret
    unfold RdI
    rw [HF.out]
    exact ⟨_, te, rfl, l0, by dsimp only; rw [if_neg HE.out]; exact R8.out, K8.out, fun h => absurd h HE.out⟩
theorem rport_any (b i : Nat) (s : ByteArray) (w : World) (R : Rdr b s i 0 0 w) (hi : i ≤ s.size) (hs : s.size ≤ 2097152) :
    Calls Tryz.prog 75 #[.pointer (some ⟨b, 0, none⟩)] w (RdI b s (prtR s.data.toList i) w) := by
  cases h : (atB s.data.toList i == 58)
  · exact rport_no b i s w R hi hs h
  · exact rport_yes b i s w R hi hs h
set_option maxRecDepth 100000 in
set_option maxHeartbeats 8000000 in
theorem rport_err (b i p : Nat) (s : ByteArray) (e : Int) (w : World) (R : Rdr b s i p e w) (hi : i ≤ s.size) (hs : s.size ≤ 2097152) (he : e ≠ 0) :
    Calls Tryz.prog 75 #[.pointer (some ⟨b, 0, none⟩)] w (fun en w' => en = .returned (.int .i64 0) ∧ Rdr b s i p e w' ∧ Kp [b] w w') := by
  have hbw := R.lt
  have HRd := Lib.hid R
  have HIs := Lib.hid (fun (c : Int) wz (h : Rdr b s i p e wz) => ris_err b i p s e c wz h he)
  have HE := Lib.hid he
  clear R he
  go_enter Tryz.func75, Tryz.ntmps75
  go_wp2_with fail
  refine (HIs.out 58 _ HRd.out).mono ?_
  rintro e2 w2 ⟨rfl, hK2⟩
  have R2 := Lib.hid (HRd.out.kp hK2 (by simp))
  have K2 := Lib.hid hK2
  clear hK2
  have c0 := grew_cell R2.out.c0
  have c1 := grew_cell R2.out.c1
  have Q1 := Lib.hid (fun (n : Gw w2) => Calls.grew_of (HIs.out 59 _ (R2.out.kp (grew_kp w2 n) (by simp))) (fun _ _ h => h))
  have Q2 := Lib.hid (fun (n : Gw w2) => Calls.grew_of (HIs.out 63 _ (R2.out.kp (grew_kp w2 n) (by simp))) (fun _ _ h => h))
  by_cases hlt : i < s.size
  · have hl64 : (i : Int) < (s.size : Int) := by omega
    go_upto_region 2 with fail
    refine wp_region_grew (by kernel_rfl) (by kernel_rfl) ?_
    (go_big_quiet_step ((first | (go_at_call 151; with_reducible exact Q1.out _) | (go_at_call 151; with_reducible exact Q2.out _))))
    repeat (go_big_quiet_step ((first | (go_at_call 151; with_reducible exact Q1.out _) | (go_at_call 151; with_reducible exact Q2.out _))))
    refine wpQuiet_nil ?_
    intro _ hw'
    obtain ⟨nq, hw''⟩ := hw'
    subst hw''
    have hKG := grew_kp w2 nq
    obtain ⟨w4, hw4⟩ : ∃ w4, grew w2 nq = w4 := ⟨_, rfl⟩
    rw [hw4] at hKG ⊢
    have R4 := Lib.hid (R2.out.kp hKG (by simp))
    have K4 := Lib.hid (K2.out.trans hKG)
    clear hw4 c0 c1 hKG
    have c1 := R4.out.c1
    go_wp2_with fail
    refine (rfail_no b i p i s e 5 _ R4.out HE.out).mono ?_
    rintro e2 w5 ⟨rfl, hR5, hK5⟩
    have R5 := Lib.hid hR5
    have K5 := Lib.hid ((K4.out.mono (Y := [b]) (by simp)).trans hK5)
    clear hR5 hK5 c1
    go_wp2_with fail
    go_ret
    exact ⟨rfl, R5.out, K5.out⟩
  · have hl64 : ¬ (i : Int) < (s.size : Int) := by omega
    go_upto_region 2 with fail
    refine wp_region_grew (by kernel_rfl) (by kernel_rfl) ?_
    (go_big_quiet_step ((first | (go_at_call 151; with_reducible exact Q1.out _) | (go_at_call 151; with_reducible exact Q2.out _))))
    repeat (go_big_quiet_step ((first | (go_at_call 151; with_reducible exact Q1.out _) | (go_at_call 151; with_reducible exact Q2.out _))))
    refine wpQuiet_nil ?_
    intro _ hw'
    obtain ⟨nq, hw''⟩ := hw'
    subst hw''
    have hKG := grew_kp w2 nq
    obtain ⟨w4, hw4⟩ : ∃ w4, grew w2 nq = w4 := ⟨_, rfl⟩
    rw [hw4] at hKG ⊢
    have R4 := Lib.hid (R2.out.kp hKG (by simp))
    have K4 := Lib.hid (K2.out.trans hKG)
    clear hw4 c0 c1 hKG
    go_wp2_with fail
    go_ret
    exact ⟨rfl, R4.out, K4.out.mono (by simp)⟩
end Ad
end Go.Proofs.YtonbkedjlbhpfaaGreatDoor
