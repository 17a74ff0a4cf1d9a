/- The laws of HashHex and HashBack (layer 6): they return true. Bytes and a text; the table of constants holds what the program's text says. -/
import Derived.Test.YtakanjadcnmciaaDoorHsLk
import Derived.Test.YtakanjadcnmciaaDoorHsE
import Derived.Test.YtakanjadcnmciaaDoorHsF
import Derived.Test.YtakanjadcnmciaaDoorHsL
namespace Go.Proofs.YtakanjadcnmciaaDoor
namespace Hs
open Go.RowKit Ad

set_option maxRecDepth 100000 in
set_option maxHeartbeats 1000000 in
theorem hhex_law (l : List UInt8) (A : Option Addr) (c : Nat) (s : ByteArray) (w : World) (hA : ByIn w A l) (E : KE w) (hl : l.length ≤ 9223372036854775807) (hs : s.size ≤ 9223372036854775807) :
    Calls Tryd.prog 8 #[.slice A l.length c, .string s] w (BoK true w) := by
  have HE := Lib.hid E
  have HA := Lib.hid hA
  have HL := Lib.hid (fun wz (Ez : KE wz) => lives_any wz Ez)
  clear E hA
  by_cases h1 : 4000 < l.length
  · have t1 : (4000 : Int) < (l.length : Int) := by omega
    go_enter Tryd.func8, Tryd.ntmps8
    go_wp2_with fail
    refine (HL.out _ HE.out).mono ?_
    rintro e w1 ⟨rfl, hK1⟩
    go_wp2_with fail
    go_ret
    exact ⟨rfl, hK1⟩
  · by_cases h2 : 4000 < s.size
    · have t1 : ¬ (4000 : Int) < (l.length : Int) := by omega
      have t2 : (4000 : Int) < (s.size : Int) := by omega
      go_enter Tryd.func8, Tryd.ntmps8
      go_wp2_with fail
      refine (HL.out _ HE.out).mono ?_
      rintro e w1 ⟨rfl, hK1⟩
      go_wp2_with fail
      go_ret
      exact ⟨rfl, hK1⟩
    · have t1 : ¬ (4000 : Int) < (l.length : Int) := by omega
      have t2 : ¬ (4000 : Int) < (s.size : Int) := by omega
      go_enter Tryd.func8, Tryd.ntmps8
      go_wp2_with fail
      refine (punhex_any s _ (by omega)).mono ?_
      rintro e w1 ⟨v, rfl, hown, hB1⟩
      have HK1 := Lib.hid (kp_of_below hB1)
      obtain ⟨R, hR⟩ : ∃ R : List UInt8, (unhex s.data.toList).getD [] = R := ⟨_, rfl⟩
      obtain ⟨n, hn⟩ : ∃ n : Int, (if (unhex s.data.toList).isSome = true then (0 : Int) else 5) = n := ⟨_, rfl⟩
      rw [hR] at hown
      rw [hn]
      have HRR := Lib.hid hR
      have HNN := Lib.hid hn
      have HO1 := Lib.hid hown
      clear hown hB1 hR hn
      go_wp2_with fail
      refine (runhex_any s _ (by omega)).mono ?_
      rintro e w2 ⟨u, rfl, hown, hB2⟩
      have HK2 := Lib.hid (HK1.out.trans (kp_of_below hB2))
      have HO2 := Lib.hid (own_kpn HO1.out (kp_of_below hB2))
      rw [HRR.out] at hown
      rw [HNN.out]
      have HP2 := Lib.hid hown
      clear hown hB2
      go_wp2_with fail
      refine (phex_any l A c _ (byin_kp HA.out HK2.out) (by omega)).mono ?_
      rintro e w3 ⟨rfl, hB3⟩
      have HK3 := Lib.hid (HK2.out.trans (kp_of_below hB3))
      have HO3 := Lib.hid (own_kpn HO2.out (kp_of_below hB3))
      have HP3 := Lib.hid (own_kpn HP2.out (kp_of_below hB3))
      clear hB3
      go_wp2_with fail
      refine (rhex_any l A c _ (byin_kp HA.out HK3.out) (by omega)).mono ?_
      rintro e w4 ⟨rfl, n4, rfl⟩
      have HK4 := Lib.hid (HK3.out.drewN n4)
      have HO4 := Lib.hid (own_kpn HO3.out ((Kp.refl [] w3).drewN n4))
      have HP4 := Lib.hid (own_kpn HP3.out ((Kp.refl [] w3).drewN n4))
      have hc1 := conv_row HO4.out
      have hc2 := conv_row HP4.out
      go_wp2_with fail
      refine (HL.out _ (HE.out.kp HK4.out (by simp))).mono ?_
      rintro e w5 ⟨rfl, hK5⟩
      have HK5 := Lib.hid (HK4.out.trans hK5)
      clear hK5 hc1 hc2
      go_wp2_with fail
      go_ret
      exact ⟨rfl, HK5.out⟩
end Hs
end Go.Proofs.YtakanjadcnmciaaDoor
