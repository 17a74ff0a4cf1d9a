/- AddressParses of package dialtonelaw02 returns true for every text of at most 2^20 bytes, and nothing that was there is changed. -/
import Derived.Test.YtonbkedjlbhpfaaGreatDoorAdVt
import Derived.Test.YtonbkedjlbhpfaaGreatDoorM8
namespace Go.Proofs.YtonbkedjlbhpfaaGreatDoor
namespace Ad
open Go.RowKit Lx

set_option maxRecDepth 100000 in
set_option maxHeartbeats 8000000 in
theorem parses_law (s : ByteArray) (w : World) (hs : s.size ≤ 1048576) (E : Env w) : Calls Tryz.prog 3 #[.string s] w (BoK true w) := by
  obtain ⟨u, n, x, hr⟩ : ∃ a b c, parse s.data.toList = (a, b, c) := ⟨_, _, _, rfl⟩
  have P1 := Parse_any s w (by omega) E
  rw [hr] at P1
  have HP1 := Lib.hid P1
  have HRf := Lib.hid (fun wz => (by have h := rParse_any s wz (by omega); rw [hr] at h; exact h : Calls Tryz.prog 20 #[.string s] wz (UrP (u, n, x) wz)))
  have HE := Lib.hid E
  have HK := Lib.hid (Kp.refl [] w)
  obtain ⟨hat, hnil⟩ := parse_at s.data.toList
  have hNF := parse_NF s.data.toList
  rw [hr] at hat hnil hNF
  dsimp only at hat hnil hNF
  have hl : u.params.length ≤ 16 ∧ u.heads.length ≤ 16 := by
    by_cases hx : x = 0
    · obtain ⟨nf, _⟩ := hNF hx
      exact ⟨nf.params.len, nf.heads.len⟩
    · rw [hnil hx]; exact ⟨Nat.zero_le _, Nat.zero_le _⟩
  obtain ⟨l1, l2⟩ := hl
  have HSm := Lib.hid (show sameU u u = true from (sameU_iff _ _).2 rfl)
  have bn : ((n : Int) == (n : Int)) = true := beq_self_eq_true _
  have bx : (x == x) = true := beq_self_eq_true _
  clear P1 E hr hNF hnil hat
  go_enter Tryz.func3, Tryz.ntmps3
  go_wp2_with fail
  refine (HP1.out).mono ?_
  rintro e w1 ⟨v, rfl, hu, hB⟩
  have hK := (Kp.refl [] w).below hB
  have hu' := hu
  obtain ⟨vp, vh, rfl, hp, hh⟩ := hu
  obtain ⟨A1_, C1_, rfl⟩ := hp.form
  obtain ⟨D1_, F1_, rfl⟩ := hh.form
  have KK2_ := Lib.hid (HK.out.trans hK)
  have EE3_ := Lib.hid (HE.out.kp hK (by simp))
  dsimp only at hu' ⊢
  obtain ⟨w4_, hw5_⟩ : ∃ wz_, w1.alloc (.cells #[.string (Txt u.scheme), .string (Txt u.user), .string (Txt u.host), .int .i64 u.port, .slice A1_ u.params.length C1_, .slice D1_ u.heads.length F1_] 24) = wz_ := ⟨_, rfl⟩
  have hX := UBox.new hu'
  rw [hw5_] at hX
  have hKb : Kp [] w1 w4_ := by rw [← hw5_]; exact (Kp.refl [] w1).alloc _
  have KK6_ := Lib.hid (KK2_.out.trans hKb)
  have EE7_ := Lib.hid (EE3_.out.kp hKb (by simp))
  clear KK2_ EE3_
  have HX8_ := Lib.hid hX
  clear hX hKb
  clear hK hB hp hh hu'
  go_wp2_with fail
  refine (HRf.out _).mono ?_
  rintro e w2 ⟨v, rfl, hu, hB⟩
  have hK := (Kp.refl [] w4_).below hB
  have hu' := hu
  obtain ⟨vp, vh, rfl, hp, hh⟩ := hu
  obtain ⟨A9_, C9_, rfl⟩ := hp.form
  obtain ⟨D9_, F9_, rfl⟩ := hh.form
  have HX10_ := Lib.hid (HX8_.out.kpn hK)
  have KK11_ := Lib.hid (KK6_.out.trans hK)
  have EE12_ := Lib.hid (EE7_.out.kp hK (by simp))
  clear HX8_ KK6_ EE7_
  dsimp only at hu' ⊢
  obtain ⟨w13_, hw14_⟩ : ∃ wz_, w2.alloc (.cells #[.string (Txt u.scheme), .string (Txt u.user), .string (Txt u.host), .int .i64 u.port, .slice A9_ u.params.length C9_, .slice D9_ u.heads.length F9_] 24) = wz_ := ⟨_, rfl⟩
  have hX := UBox.new hu'
  rw [hw14_] at hX
  have hKb : Kp [] w2 w13_ := by rw [← hw14_]; exact (Kp.refl [] w2).alloc _
  have HX15_ := Lib.hid (HX10_.out.kpn hKb)
  have KK16_ := Lib.hid (KK11_.out.trans hKb)
  have EE17_ := Lib.hid (EE12_.out.kp hKb (by simp))
  clear HX10_ KK11_ EE12_
  have HX18_ := Lib.hid hX
  clear hX hKb
  clear hK hB hp hh hu'
  obtain ⟨a19_, c19_, d19_, e19_, hc19_, hi19_⟩ := HX15_.out.in
  have b19_x0 := hc19_ 0
  have b19_x1 := hc19_ 1
  have b19_x2 := hc19_ 2
  have b19_x3 := hc19_ 3
  have b19_x4 := hc19_ 4
  have b19_x5 := hc19_ 5
  have In19_ := Lib.hid hi19_
  clear hc19_ hi19_
  obtain ⟨a20_, c20_, d20_, e20_, hc20_, hi20_⟩ := HX18_.out.in
  have b20_x0 := hc20_ 0
  have b20_x1 := hc20_ 1
  have b20_x2 := hc20_ 2
  have b20_x3 := hc20_ 3
  have b20_x4 := hc20_ 4
  have b20_x5 := hc20_ 5
  have In20_ := Lib.hid hi20_
  clear hc20_ hi20_
  go_wp2_with fail
  refine (same_u _ _ _ _ u u _ In19_.out In20_.out (Nat.le_refl _) (Nat.le_refl _) (by omega) (by omega) (by omega) (by omega)).mono ?_
  rintro e w6 ⟨rfl, hK⟩
  rw [HSm.out]
  have HX21_ := Lib.hid (HX15_.out.kpn hK)
  have HX22_ := Lib.hid (HX18_.out.kpn hK)
  have KK23_ := Lib.hid (KK16_.out.trans hK)
  have EE24_ := Lib.hid (EE17_.out.kp hK (by simp))
  clear HX15_ HX18_ KK16_ EE17_
  clear hK
  clear b19_x0 b19_x1 b19_x2 b19_x3 b19_x4 b19_x5 In19_ b20_x0 b20_x1 b20_x2 b20_x3 b20_x4 b20_x5 In20_
  go_wp2_with fail
  refine (awake_any _ EE24_.out).mono ?_
  rintro e w7 ⟨rfl, hK⟩
  have HX25_ := Lib.hid (HX21_.out.kpn hK)
  have HX26_ := Lib.hid (HX22_.out.kpn hK)
  have KK27_ := Lib.hid (KK23_.out.trans hK)
  have EE28_ := Lib.hid (EE24_.out.kp hK (by simp))
  clear HX21_ HX22_ KK23_ EE24_
  clear hK
  go_wp2_with fail
  go_ret
  exact ⟨rfl, KK27_.out⟩
end Ad
end Go.Proofs.YtonbkedjlbhpfaaGreatDoor
