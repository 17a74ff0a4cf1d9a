/- The law HeaderCanon. A text has at most 2^20 bytes. -/
import Derived.Test.YtonbkedjlbhpfaaGreatDoorHeK
namespace Go.Proofs.YtonbkedjlbhpfaaGreatDoor
namespace Ad
open Go.RowKit Lx

set_option maxRecDepth 100000 in
set_option maxHeartbeats 4000000 in
theorem canon_law (s : ByteArray) (w : World) (hs : s.size ≤ 1048576) (H : HEnv w) :
    Calls Tryz.prog 12 #[.string s] w (BoK true w) := by
  have hlen := len_list s
  obtain ⟨o, ho⟩ : ∃ o, othL s.data.toList = o := ⟨_, rfl⟩
  have hol : o.length = s.size := by rw [← ho]; unfold othL; rw [List.length_map, hlen]
  have HO := Lib.hid (fun wz => (by have h := other_any s wz (by omega); rw [ho] at h; exact h : Calls Tryz.prog 62 #[.string s] wz (RetNew o wz)))
  have hcR : canR o = canR s.data.toList := by rw [← ho]; exact canR_oth _
  obtain ⟨a, x, hr⟩ : ∃ a x, canR s.data.toList = (a, x) := ⟨_, _, rfl⟩
  rw [hr] at hcR
  have HC1 := Lib.hid (fun wz (h : HEnv wz) => (by have h := canon_any s wz (by omega) h; rw [hr] at h; exact h : Calls Tryz.prog 26 #[.string s] wz (TxE (a, x) wz)))
  have HC2 := Lib.hid (fun wz (h : HEnv wz) => (by have h := canon_any (Txt o) wz (by rw [txt_size]; omega) h; rw [txt_list, hcR] at h; exact h : Calls Tryz.prog 26 #[.string (Txt o)] wz (TxE (a, x) wz)))
  obtain ⟨b, hb⟩ : ∃ b, (kindR a).2 = b := ⟨_, rfl⟩
  have HM1 := Lib.hid (fun wz (h : HEnv wz) => (by have h := many_any s wz (by omega) h; rw [hr, hb] at h; exact h : Calls Tryz.prog 28 #[.string s] wz (BoK b wz)))
  have HM2 := Lib.hid (fun wz (h : HEnv wz) => (by have h := many_any (Txt o) wz (by rw [txt_size]; omega) h; rw [txt_list, hcR, hb] at h; exact h : Calls Tryz.prog 28 #[.string (Txt o)] wz (BoK b wz)))
  have HA := Lib.hid (fun wz (h : HEnv wz) => hawake_any wz h)
  have HE := Lib.hid H
  have hcase : (x = 5 ∧ a = [] ∧ b = false) ∨ (x = 0 ∧ a.length ≤ 1048576 ∧ canR a = (a, 0)) := by
    cases hB : canB s.data.toList
    · left
      unfold canR at hr
      rw [hB] at hr
      obtain ⟨rfl, rfl⟩ := Prod.mk.injEq .. ▸ hr
      exact ⟨rfl, rfl, by rw [← hb]; decide +kernel⟩
    · right
      have h2 := canR_can _ hB
      unfold canR at hr
      rw [hB] at hr
      obtain ⟨h3, h4⟩ := Prod.mk.injEq .. ▸ hr
      rw [h3] at h2
      refine ⟨h4.symm, ?_, h2⟩
      unfold canR at h2
      cases hB2 : canB a
      · rw [hB2] at h2
        simp at h2
      · unfold canB at hB2
        rw [Bool.and_eq_true, decide_eq_true_iff] at hB2
        omega
  clear hlen ho hol hcR hr hb H
  have ta := txtl a
  rcases hcase with ⟨hx, ha, hb⟩ | ⟨hx, hal, hca⟩
  · subst hx ha hb
    go_enter Tryz.func12, Tryz.ntmps12
    go_wp2_with fail
    refine (HC1.out _ HE.out).mono ?_
    rintro e w1 ⟨rfl, hK1⟩
    have K1 := Lib.hid hK1
    clear hK1
    dsimp only
    go_wp2_with fail
    refine (HO.out _).mono ?_
    rintro e w2 ⟨rfl, hB2⟩
    have K2 := Lib.hid (K1.out.below hB2)
    clear hB2
    go_wp2_with fail
    refine (HC2.out _ (HE.out.kp K2.out (by simp))).mono ?_
    rintro e w3 ⟨rfl, hK3⟩
    have K3 := Lib.hid (K2.out.trans hK3)
    clear hK3
    dsimp only
    go_wp2_with fail
    refine (HM1.out _ (HE.out.kp K3.out (by simp))).mono ?_
    rintro e w4 ⟨rfl, hK4⟩
    have K4 := Lib.hid (K3.out.trans hK4)
    clear hK4
    go_wp2_with fail
    refine (HO.out _).mono ?_
    rintro e w5 ⟨rfl, hB5⟩
    have K5 := Lib.hid (K4.out.below hB5)
    clear hB5
    go_wp2_with fail
    refine (HM2.out _ (HE.out.kp K5.out (by simp))).mono ?_
    rintro e w6 ⟨rfl, hK6⟩
    have K6 := Lib.hid (K5.out.trans hK6)
    clear hK6
    go_wp2_with fail
    refine (HM1.out _ (HE.out.kp K6.out (by simp))).mono ?_
    rintro e w7 ⟨rfl, hK7⟩
    have K7 := Lib.hid (K6.out.trans hK7)
    clear hK7
    go_wp2_with fail
    refine (HA.out _ (HE.out.kp K7.out (by simp))).mono ?_
    rintro e w8 ⟨rfl, hK8⟩
    have K8 := Lib.hid (K7.out.trans hK8)
    clear hK8
    go_wp2_with fail
    go_ret
    exact ⟨rfl, K8.out⟩
  · have HC3 := Lib.hid (fun wz (h : HEnv wz) => (by have h := canon_any (Txt a) wz (by rw [txt_size]; omega) h; rw [txt_list, hca] at h; exact h : Calls Tryz.prog 26 #[.string (Txt a)] wz (TxE (a, 0) wz)))
    clear hal hca
    subst hx
    go_enter Tryz.func12, Tryz.ntmps12
    go_wp2_with fail
    refine (HC1.out _ HE.out).mono ?_
    rintro e w1 ⟨rfl, hK1⟩
    have K1 := Lib.hid hK1
    clear hK1
    dsimp only
    go_wp2_with fail
    refine (HO.out _).mono ?_
    rintro e w2 ⟨rfl, hB2⟩
    have K2 := Lib.hid (K1.out.below hB2)
    clear hB2
    go_wp2_with fail
    refine (HC2.out _ (HE.out.kp K2.out (by simp))).mono ?_
    rintro e w3 ⟨rfl, hK3⟩
    have K3 := Lib.hid (K2.out.trans hK3)
    clear hK3
    dsimp only
    go_wp2_with fail
    refine (HM1.out _ (HE.out.kp K3.out (by simp))).mono ?_
    rintro e w4 ⟨rfl, hK4⟩
    have K4 := Lib.hid (K3.out.trans hK4)
    clear hK4
    go_wp2_with fail
    refine (HO.out _).mono ?_
    rintro e w5 ⟨rfl, hB5⟩
    have K5 := Lib.hid (K4.out.below hB5)
    clear hB5
    go_wp2_with fail
    refine (HM2.out _ (HE.out.kp K5.out (by simp))).mono ?_
    rintro e w6 ⟨rfl, hK6⟩
    have K6 := Lib.hid (K5.out.trans hK6)
    clear hK6
    go_wp2_with fail
    refine (HC3.out _ (HE.out.kp K6.out (by simp))).mono ?_
    rintro e w7 ⟨rfl, hK7⟩
    have K7 := Lib.hid (K6.out.trans hK7)
    clear hK7
    dsimp only
    go_wp2_with fail
    refine (HA.out _ (HE.out.kp K7.out (by simp))).mono ?_
    rintro e w8 ⟨rfl, hK8⟩
    have K8 := Lib.hid (K7.out.trans hK8)
    clear hK8
    go_wp2_with fail
    go_ret
    exact ⟨rfl, K8.out⟩
end Ad
end Go.Proofs.YtonbkedjlbhpfaaGreatDoor
