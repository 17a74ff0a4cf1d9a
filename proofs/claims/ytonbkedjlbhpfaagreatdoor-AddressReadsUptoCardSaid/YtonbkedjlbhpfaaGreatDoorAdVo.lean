/- Contract of the reference's reader's host (dialtoneref02). A text has at most 2^21 bytes. -/
import Derived.Test.YtonbkedjlbhpfaaGreatDoorAdVn
namespace Go.Proofs.YtonbkedjlbhpfaaGreatDoor
namespace Ad
open Go.RowKit Lx

theorem mem3 (c : Int) : memB (ByteArray.mk #[58, 59, 63]).data.toList c = hendC c := by
  unfold memB hendC
  simp only [List.any_cons, List.any_nil, Bool.or_false]
  have e : ∀ n : Nat, ((n : Int) == c) = (c == (n : Int)) := fun n => by rw [Bool.eq_iff_iff]; simp only [beq_iff_eq]; exact eq_comm
  rw [show (((58 : UInt8).toNat : Int)) = 58 from rfl, show (((59 : UInt8).toNat : Int)) = 59 from rfl, show (((63 : UInt8).toNat : Int)) = 63 from rfl]
  rw [show ((58 : Int) == c) = (c == 58) from e 58, show ((59 : Int) == c) = (c == 59) from e 59, show ((63 : Int) == c) = (c == 63) from e 63]
theorem mem93 (c : Int) : memB (ByteArray.mk #[93]).data.toList c = (c == 93) := by
  unfold memB
  simp only [List.any_cons, List.any_nil, Bool.or_false]
  rw [Bool.eq_iff_iff]; simp only [beq_iff_eq]; exact eq_comm
set_option maxRecDepth 100000 in
set_option maxHeartbeats 1000000 in
theorem rhost_err (b i p : Nat) (s : ByteArray) (e : Int) (w : World) (R : Rdr b s i p e w) (he : e ≠ 0) :
    Calls Tryz.prog 74 #[.pointer (some ⟨b, 0, none⟩)] w (fun en w' => en = .returned (.string (Txt [])) ∧ Rdr b s i p e w' ∧ Kp [b] w w') := by
  have c3 := R.c3
  have be : (e != 0) = true := by rw [bne_iff_ne]; exact he
  have be2 : (e == 0) = false := by rw [beq_eq_false_iff_ne]; exact he
  have HR := Lib.hid R
  clear R he
  go_enter Tryz.func74, Tryz.ntmps74
  go_wp2_with fail
  go_ret
  exact ⟨rfl, HR.out, Kp.refl _ _⟩
set_option maxRecDepth 100000 in
set_option maxHeartbeats 8000000 in
theorem rhost_any (b i : Nat) (s : ByteArray) (w : World) (R : Rdr b s i 0 0 w) (hi : i ≤ s.size) (hs : s.size ≤ 2097152) :
    Calls Tryz.prog 74 #[.pointer (some ⟨b, 0, none⟩)] w (RdT b s (hstR s.data.toList i) w) := by
  have c3 := R.c3
  have hbw := R.lt
  have HRd := Lib.hid R
  obtain ⟨k0, hk0⟩ : ∃ n, endP hendC s.data.toList i = n := ⟨_, rfl⟩
  obtain ⟨k1, hk1⟩ : ∃ n, endP (· == 93) s.data.toList i = n := ⟨_, rfl⟩
  have g0 : i ≤ k0 := by rw [← hk0]; exact endP_ge _ _ _
  have g1 : i ≤ k1 := by rw [← hk1]; exact endP_ge _ _ _
  have l0 : k0 ≤ s.size := by rw [← hk0, ← len_list]; exact endP_le _ _ _ (by rw [len_list]; exact hi)
  have l1 : k1 ≤ s.size := by rw [← hk1, ← len_list]; exact endP_le _ _ _ (by rw [len_list]; exact hi)
  obtain ⟨pl, hpl⟩ : ∃ x, (atB s.data.toList i == 91) = x := ⟨_, rfl⟩
  have HU0 := Lib.hid (fun wz (h : Rdr b s i 0 0 wz) => (by have h := runtil_any hendC b i 0 s ⟨#[58, 59, 63]⟩ 0 wz h hi hs (by decide) mem3; rw [hk0] at h; exact h : Calls Tryz.prog 72 #[.pointer (some ⟨b, 0, none⟩), .string ⟨#[58, 59, 63]⟩] wz (InK (k0 : Nat) wz)))
  have HU1 := Lib.hid (fun wz (h : Rdr b s i 0 0 wz) => (by have h := runtil_any (· == 93) b i 0 s ⟨#[93]⟩ 0 wz h hi hs (by decide) mem93; rw [hk1] at h; exact h : Calls Tryz.prog 72 #[.pointer (some ⟨b, 0, none⟩), .string ⟨#[93]⟩] wz (InK (k1 : Nat) wz)))
  have HIs := Lib.hid (fun wz (h : Rdr b s i 0 0 wz) => (by have h := ris_any b i 0 s 91 wz h hi hs (by decide); rw [hpl] at h; exact h : Calls Tryz.prog 151 #[.pointer (some ⟨b, 0, none⟩), .int .u8 91] wz (BoK pl wz)))
  obtain ⟨te, hte⟩ : ∃ n, hstTo s.data.toList i = n := ⟨_, rfl⟩
  have hto : te = if pl = true then min (k1 + 1) s.size else k0 := by
    rw [← hte]; unfold hstTo; rw [hk0, hk1, len_list]
    cases pl
    · rw [if_neg (by rw [beq_eq_false_iff_ne] at hpl; exact hpl), if_neg (by decide)]
    · rw [if_pos (by simpa using hpl), if_pos rfl]
  have hit : i ≤ te := by rw [hto]; split <;> omega
  have htes : te ≤ s.size := by rw [hto]; split <;> omega
  obtain ⟨oh, hoh⟩ : ∃ o, hostO (slc s.data.toList i te) = o := ⟨_, rfl⟩
  have HV1 := Lib.hid (fun h (e : oh = some h) => (by unfold hstR; rw [hte, hoh, e] : hstR s.data.toList i = (h, te, 0)))
  have HV2 := Lib.hid (fun (e : oh = none) => (by unfold hstR; rw [hte, hoh, e] : hstR s.data.toList i = ([], i, 5)))
  have HHo := Lib.hid (fun wz => (by have h := rHost_any (s.extract i te) wz (by simp; omega); rw [show (s.extract i te).data.toList = slc s.data.toList i te from slc_data s i te, hoh] at h; exact h : Calls Tryz.prog 104 #[.string (s.extract i te)] wz (HoP oh wz)))
  clear R hk0 hk1 hpl hte hoh
  go_enter Tryz.func74, Tryz.ntmps74
  go_wp2_with fail
  refine (HU0.out _ HRd.out).mono ?_
  rintro e w1 ⟨rfl, hK1⟩
  have R1 := Lib.hid (HRd.out.kp hK1 (by simp))
  have K1 := Lib.hid hK1
  clear c3 hK1
  go_wp2_with fail
  refine (HIs.out _ R1.out).mono ?_
  rintro e w2 ⟨rfl, hK2⟩
  have K2 := Lib.hid (K1.out.trans hK2)
  have R2 := Lib.hid (R1.out.kp hK2 (by simp))
  clear hK2
  have hi64 : (i : Int) ≤ (te : Int) := by omega
  have ht64 : (te : Int) ≤ (s.size : Int) := by omega
  cases pl
  · have ht := hto
    rw [if_neg (by decide)] at ht
    subst ht
    clear hto
    go_upto_region 6 with fail
    have c0 := grew_cell R2.out.c0
    have c1 := grew_cell R2.out.c1
    cases oh with
    | none =>
      have HF := Lib.hid (HV2.out rfl)
      have Q6 := Lib.hid (fun (n : Gw w2) => (Calls.grew_of (HHo.out _) (fun _ _ h => ⟨h.1, (Kp.refl [] _).below h.2⟩) : Calls Tryz.prog 104 #[.string (s.extract i te)] (grew w2 n) fun e w'' => e = .returned (.tuple #[.string (Txt []), .bool false]) ∧ ∃ m, w'' = grew w2 m))
      refine wp_region_grew (by kernel_rfl) (by kernel_rfl) ?_
      (go_big_quiet_step ((go_at_call 104; with_reducible exact Q6.out _)))
      repeat (go_big_quiet_step ((go_at_call 104; with_reducible exact Q6.out _)))
      refine wpQuiet_nil ?_
      intro _ hw'
      obtain ⟨nq, hw''⟩ := hw'
      subst hw''
      have hKG := grew_kp w2 nq
      obtain ⟨w4, hw4⟩ : ∃ w4, grew w2 nq = w4 := ⟨_, rfl⟩
      rw [hw4] at hKG ⊢
      have R4 := Lib.hid (R2.out.kp hKG (by simp))
      have K4 := Lib.hid (K2.out.trans hKG)
      clear hw4 c0 c1 hKG
      have c1 := R4.out.c1
      go_wp2_with fail
      refine (rfail_yes b i 0 i s 5 _ R4.out).mono ?_
      rintro e w5 ⟨rfl, hR5, hK5⟩
      clear c1
      have c1 := hR5.c1
      have f1 := hR5.fr 1
      have R6 := Lib.hid (hR5.at1 te)
      have K6 := Lib.hid (((K4.out.mono (Y := [b]) (by simp)).trans hK5).setCell (p := ⟨b, 1, none⟩) (.inl (by simp)) (.int .i64 te))
      clear hR5 hK5
      go_wp2_with fail
      go_ret
      unfold RdT
      rw [HF.out]
      exact ⟨_, te, rfl, htes, R6.out, K6.out, fun h => by simp at h⟩
    | some h =>
      have HF := Lib.hid (HV1.out h rfl)
      have Q6 := Lib.hid (fun (n : Gw w2) => (Calls.grew_of (HHo.out _) (fun _ _ h => ⟨h.1, (Kp.refl [] _).below h.2⟩) : Calls Tryz.prog 104 #[.string (s.extract i te)] (grew w2 n) fun e w'' => e = .returned (.tuple #[.string (Txt h), .bool true]) ∧ ∃ m, w'' = grew w2 m))
      refine wp_region_grew (by kernel_rfl) (by kernel_rfl) ?_
      (go_big_quiet_step ((go_at_call 104; with_reducible exact Q6.out _)))
      repeat (go_big_quiet_step ((go_at_call 104; with_reducible exact Q6.out _)))
      refine wpQuiet_nil ?_
      intro _ hw'
      obtain ⟨nq, hw''⟩ := hw'
      subst hw''
      have hKG := grew_kp w2 nq
      obtain ⟨w4, hw4⟩ : ∃ w4, grew w2 nq = w4 := ⟨_, rfl⟩
      rw [hw4] at hKG ⊢
      have R4 := Lib.hid (R2.out.kp hKG (by simp))
      have K4 := Lib.hid (K2.out.trans hKG)
      clear hw4 c0 c1 hKG
      have c1 := R4.out.c1
      have f1 := R4.out.fr 1
      have R6 := Lib.hid (R4.out.at1 te)
      have K6 := Lib.hid ((K4.out.mono (Y := [b]) (by simp)).setCell (p := ⟨b, 1, none⟩) (.inl (by simp)) (.int .i64 te))
      go_wp2_with fail
      go_ret
      unfold RdT
      rw [HF.out]
      exact ⟨_, te, rfl, htes, R6.out, K6.out, fun _ => ⟨rfl, rfl⟩⟩
  · rw [if_pos rfl] at hto
    have c0 := grew_cell R2.out.c0
    have Q1 := Lib.hid (fun (n : Gw w2) => Calls.grew_of (HU1.out _ (R2.out.kp (grew_kp w2 n) (by simp))) (fun _ _ h => h))
    have hmin : min ((k1 : Int) + 1) (s.size : Int) = (te : Int) := by omega
    clear hto
    go_upto_region 5 with fail
    refine wp_region_grew (by kernel_rfl) (by kernel_rfl) ?_
    (go_big_quiet_step ((go_at_call 72; with_reducible exact Q1.out _)))
    repeat (go_big_quiet_step ((go_at_call 72; with_reducible exact Q1.out _)))
    refine wpQuiet_nil ?_
    intro _ hw'
    obtain ⟨nq, hw''⟩ := hw'
    subst hw''
    have hKG := grew_kp w2 nq
    obtain ⟨w3, hw3⟩ : ∃ w3, grew w2 nq = w3 := ⟨_, rfl⟩
    rw [hw3] at hKG ⊢
    have R3 := Lib.hid (R2.out.kp hKG (by simp))
    have K3 := Lib.hid (K2.out.trans hKG)
    clear hw3 c0 hKG R2 K2 R1 K1
    have R2 := R3
    have K2 := K3
    clear R3 K3
    go_upto_region 6 with fail
    have c0 := grew_cell R2.out.c0
    have c1 := grew_cell R2.out.c1
    cases oh with
    | none =>
      have HF := Lib.hid (HV2.out rfl)
      have Q6 := Lib.hid (fun (n : Gw w3) => (Calls.grew_of (HHo.out _) (fun _ _ h => ⟨h.1, (Kp.refl [] _).below h.2⟩) : Calls Tryz.prog 104 #[.string (s.extract i te)] (grew w3 n) fun e w'' => e = .returned (.tuple #[.string (Txt []), .bool false]) ∧ ∃ m, w'' = grew w3 m))
      refine wp_region_grew (by kernel_rfl) (by kernel_rfl) ?_
      (go_big_quiet_step ((go_at_call 104; with_reducible exact Q6.out _)))
      repeat (go_big_quiet_step ((go_at_call 104; with_reducible exact Q6.out _)))
      refine wpQuiet_nil ?_
      intro _ hw'
      obtain ⟨nq, hw''⟩ := hw'
      subst hw''
      have hKG := grew_kp w3 nq
      obtain ⟨w4, hw4⟩ : ∃ w4, grew w3 nq = w4 := ⟨_, rfl⟩
      rw [hw4] at hKG ⊢
      have R4 := Lib.hid (R2.out.kp hKG (by simp))
      have K4 := Lib.hid (K2.out.trans hKG)
      clear hw4 c0 c1 hKG
      have c1 := R4.out.c1
      go_wp2_with fail
      refine (rfail_yes b i 0 i s 5 _ R4.out).mono ?_
      rintro e w5 ⟨rfl, hR5, hK5⟩
      clear c1
      have c1 := hR5.c1
      have f1 := hR5.fr 1
      have R6 := Lib.hid (hR5.at1 te)
      have K6 := Lib.hid (((K4.out.mono (Y := [b]) (by simp)).trans hK5).setCell (p := ⟨b, 1, none⟩) (.inl (by simp)) (.int .i64 te))
      clear hR5 hK5
      go_wp2_with fail
      go_ret
      unfold RdT
      rw [HF.out]
      exact ⟨_, te, rfl, htes, R6.out, K6.out, fun h => by simp at h⟩
    | some h =>
      have HF := Lib.hid (HV1.out h rfl)
      have Q6 := Lib.hid (fun (n : Gw w3) => (Calls.grew_of (HHo.out _) (fun _ _ h => ⟨h.1, (Kp.refl [] _).below h.2⟩) : Calls Tryz.prog 104 #[.string (s.extract i te)] (grew w3 n) fun e w'' => e = .returned (.tuple #[.string (Txt h), .bool true]) ∧ ∃ m, w'' = grew w3 m))
      refine wp_region_grew (by kernel_rfl) (by kernel_rfl) ?_
      (go_big_quiet_step ((go_at_call 104; with_reducible exact Q6.out _)))
      repeat (go_big_quiet_step ((go_at_call 104; with_reducible exact Q6.out _)))
      refine wpQuiet_nil ?_
      intro _ hw'
      obtain ⟨nq, hw''⟩ := hw'
      subst hw''
      have hKG := grew_kp w3 nq
      obtain ⟨w4, hw4⟩ : ∃ w4, grew w3 nq = w4 := ⟨_, rfl⟩
      rw [hw4] at hKG ⊢
      have R4 := Lib.hid (R2.out.kp hKG (by simp))
      have K4 := Lib.hid (K2.out.trans hKG)
      clear hw4 c0 c1 hKG
      have c1 := R4.out.c1
      have f1 := R4.out.fr 1
      have R6 := Lib.hid (R4.out.at1 te)
      have K6 := Lib.hid ((K4.out.mono (Y := [b]) (by simp)).setCell (p := ⟨b, 1, none⟩) (.inl (by simp)) (.int .i64 te))
      go_wp2_with fail
      go_ret
      unfold RdT
      rw [HF.out]
      exact ⟨_, te, rfl, htes, R6.out, K6.out, fun _ => ⟨rfl, rfl⟩⟩
end Ad
end Go.Proofs.YtonbkedjlbhpfaaGreatDoor
