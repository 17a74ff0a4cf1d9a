/- Contract of the reference's Many, and the law HeaderNames. A text has at most 2^20 bytes. -/
import Derived.Test.YtonbkedjlbhpfaaGreatDoorHeO
import Derived.Test.YtonbkedjlbhpfaaGreatDoorM13
namespace Go.Proofs.YtonbkedjlbhpfaaGreatDoor
namespace Ad
open Go.RowKit Lx

set_option maxRecDepth 100000 in
set_option maxHeartbeats 4000000 in
theorem rmany_any (s : ByteArray) (w : World) (hs : s.size ≤ 2097152) :
    Calls Tryz.prog 29 #[.string s] w (BoK (kindR (canR s.data.toList).1).2 w) := by
  have HC := Lib.hid (fun wz => rcanon_any s wz hs)
  have hcase : (canR s.data.toList = ([], 5)) ∨ ∃ a, canR s.data.toList = (a, 0) := by
    unfold canR
    cases canB s.data.toList
    · exact .inl rfl
    · exact .inr ⟨_, rfl⟩
  rcases hcase with hr | ⟨a, hr⟩
  · rw [hr] at HC ⊢
    have HF := Lib.hid (by decide +kernel : (kindR (([] : List UInt8), (5 : Int)).1).2 = false)
    clear hr
    go_enter Tryz.func29, Tryz.ntmps29
    go_wp2_with fail
    refine (HC.out _).mono ?_
    rintro e w1 ⟨rfl, hK1⟩
    have K1 := Lib.hid hK1
    clear hK1
    dsimp only
    go_wp2_with fail
    go_ret
    rw [HF.out]
    exact ⟨rfl, K1.out⟩
  · rw [hr] at HC ⊢
    dsimp only
    have HF := Lib.hid (rmany_is a)
    have HK := Lib.hid (fun wz => rkind_any (Txt a) a rfl wz)
    obtain ⟨b, hb⟩ : ∃ b, sixL.any (· == a) = b := ⟨_, rfl⟩
    obtain ⟨k, hk⟩ : ∃ k, rkindR a = k := ⟨_, rfl⟩
    have HA := Lib.hid (fun wz => ramK sixL (Txt a) a rfl 6 rfl (by decide) #[.string ⟨#[67, 111, 110, 116, 97, 99, 116]⟩, .string ⟨#[80, 97, 116, 104]⟩, .string ⟨#[82, 101, 99, 111, 114, 100, 45, 82, 111, 117, 116, 101]⟩, .string ⟨#[82, 111, 117, 116, 101]⟩, .string ⟨#[83, 101, 114, 118, 105, 99, 101, 45, 82, 111, 117, 116, 101]⟩, .string ⟨#[86, 105, 97]⟩] rfl b hb wz)
    rw [hb, hk] at HF
    rw [hk] at HK
    clear hr hb hk
    by_cases h7 : k = 7
    · have b7 : (k == 7) = true := by rw [h7]; rfl
      have HF2 := Lib.hid (by rw [← HF.out, b7]; rfl : (kindR a).2 = true)
      clear h7
      go_enter Tryz.func29, Tryz.ntmps29
      go_wp2_with fail
      refine (HC.out _).mono ?_
      rintro e w1 ⟨rfl, hK1⟩
      have K1 := Lib.hid hK1
      clear hK1
      dsimp only
      go_wp2_with fail
      refine (HK.out _).mono ?_
      rintro e w2 ⟨rfl, hK2⟩
      have K2 := Lib.hid (K1.out.trans hK2)
      clear hK2
      go_wp2_with fail
      go_ret
      rw [HF2.out]
      exact ⟨rfl, K2.out⟩
    · have b7 : (k == 7) = false := beq_eq_false_iff_ne.2 h7
      have HF2 := Lib.hid (by rw [← HF.out, b7, Bool.false_or] : (kindR a).2 = b)
      clear h7
      go_enter Tryz.func29, Tryz.ntmps29
      go_wp2_with fail
      refine (HC.out _).mono ?_
      rintro e w1 ⟨rfl, hK1⟩
      have K1 := Lib.hid hK1
      clear hK1
      dsimp only
      go_wp2_with fail
      refine (HK.out _).mono ?_
      rintro e w2 ⟨rfl, hK2⟩
      have K2 := Lib.hid (K1.out.trans hK2)
      clear hK2
      go_wp2_with fail
      refine (HA.out _).mono ?_
      rintro e w3 ⟨rfl, hK3⟩
      have K3 := Lib.hid ((K2.out.alloc _).trans hK3)
      clear hK3
      cases b
      all_goals
        go_wp2_with fail
        go_ret
        rw [HF2.out]
        exact ⟨rfl, K3.out⟩
set_option maxRecDepth 100000 in
set_option maxHeartbeats 4000000 in
theorem names_law (s : ByteArray) (w : World) (hs : s.size ≤ 1048576) (H : HEnv w) :
    Calls Tryz.prog 5 #[.string s] w (BoK true w) := by
  have HC1 := Lib.hid (fun wz (h : HEnv wz) => canon_any s wz (by omega) h)
  have HC2 := Lib.hid (fun wz => rcanon_any s wz (by omega))
  have HM1 := Lib.hid (fun wz (h : HEnv wz) => many_any s wz (by omega) h)
  have HM2 := Lib.hid (fun wz => rmany_any s wz (by omega))
  have HA := Lib.hid (fun wz (h : HEnv wz) => hawake_any wz h)
  obtain ⟨a, x, hr⟩ : ∃ a x, canR s.data.toList = (a, x) := ⟨_, _, rfl⟩
  rw [hr] at HC1 HC2 HM1 HM2
  obtain ⟨b, hb⟩ : ∃ b, (kindR a).2 = b := ⟨_, rfl⟩
  rw [hb] at HM1 HM2
  have HE := Lib.hid H
  clear hr hb H
  go_enter Tryz.func5, Tryz.ntmps5
  go_wp2_with fail
  refine (HC1.out _ HE.out).mono ?_
  rintro e w1 ⟨rfl, hK1⟩
  have K1 := Lib.hid hK1
  clear hK1
  dsimp only
  go_wp2_with fail
  refine (HC2.out _).mono ?_
  rintro e w2 ⟨rfl, hK2⟩
  have K2 := Lib.hid (K1.out.trans hK2)
  clear hK2
  dsimp only
  go_wp2_with fail
  refine (HM1.out _ (HE.out.kp K2.out (by simp))).mono ?_
  rintro e w3 ⟨rfl, hK3⟩
  have K3 := Lib.hid (K2.out.trans hK3)
  clear hK3
  go_wp2_with fail
  refine (HM2.out _).mono ?_
  rintro e w4 ⟨rfl, hK4⟩
  have K4 := Lib.hid (K3.out.trans hK4)
  clear hK4
  go_wp2_with fail
  refine (HA.out _ (HE.out.kp K4.out (by simp))).mono ?_
  rintro e w5 ⟨rfl, hK5⟩
  have K5 := Lib.hid (K4.out.trans hK5)
  clear hK5
  go_wp2_with fail
  go_ret
  exact ⟨rfl, K5.out⟩
end Ad
end Go.Proofs.YtonbkedjlbhpfaaGreatDoor
