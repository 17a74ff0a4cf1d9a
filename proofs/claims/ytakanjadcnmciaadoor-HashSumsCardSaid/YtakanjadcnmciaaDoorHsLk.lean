/- The law of HashKnown (layer 6): it returns true. The table of constants holds what the program's text says. -/
import Derived.Test.YtakanjadcnmciaaDoorHsLv
namespace Go.Proofs.YtakanjadcnmciaaDoor
namespace Hs
open Go.RowKit Ad

theorem sum_nil : hex (sum []) = [101, 51, 98, 48, 99, 52, 52, 50, 57, 56, 102, 99, 49, 99, 49, 52, 57, 97, 102, 98, 102, 52, 99, 56, 57, 57, 54, 102, 98, 57, 50, 52, 50, 55, 97, 101, 52, 49, 101, 52, 54, 52, 57, 98, 57, 51, 52, 99, 97, 52, 57, 53, 57, 57, 49, 98, 55, 56, 53, 50, 98, 56, 53, 53] := by decide +kernel
theorem sum_long : hex (sum [97, 98, 99, 100, 98, 99, 100, 101, 99, 100, 101, 102, 100, 101, 102, 103, 101, 102, 103, 104, 102, 103, 104, 105, 103, 104, 105, 106, 104, 105, 106, 107, 105, 106, 107, 108, 106, 107, 108, 109, 107, 108, 109, 110, 108, 109, 110, 111, 109, 110, 111, 112, 110, 111, 112, 113]) = [50, 52, 56, 100, 54, 97, 54, 49, 100, 50, 48, 54, 51, 56, 98, 56, 101, 53, 99, 48, 50, 54, 57, 51, 48, 99, 51, 101, 54, 48, 51, 57, 97, 51, 51, 99, 101, 52, 53, 57, 54, 52, 102, 102, 50, 49, 54, 55, 102, 54, 101, 99, 101, 100, 100, 52, 49, 57, 100, 98, 48, 54, 99, 49] := by decide +kernel
theorem unhex_a : unhex [48, 65, 102, 70] = some [10, 255] := by decide +kernel
theorem unhex_b : unhex [48] = none := by decide +kernel
set_option maxRecDepth 100000 in
set_option maxHeartbeats 1000000 in
theorem known_law (w : World) (E : KE w) : Calls Tryd.prog 10 #[] w (BoK true w) := by
  have HE := Lib.hid E
  have HU := Lib.hid (fun wz => punhex_any ⟨#[48, 65, 102, 70]⟩ wz (by decide))
  have HV := Lib.hid (fun wz => punhex_any ⟨#[48]⟩ wz (by decide))
  have HT := Lib.hid (fun wz (Ez : KE wz) => ptext_any ⟨#[]⟩ wz Ez (by decide))
  have HS := Lib.hid (fun wz (Ez : KE wz) => ptext_any ⟨#[97, 98, 99, 100, 98, 99, 100, 101, 99, 100, 101, 102, 100, 101, 102, 103, 101, 102, 103, 104, 102, 103, 104, 105, 103, 104, 105, 106, 104, 105, 106, 107, 105, 106, 107, 108, 106, 107, 108, 109, 107, 108, 109, 110, 108, 109, 110, 111, 109, 110, 111, 112, 110, 111, 112, 113]⟩ wz Ez (by decide))
  have HL := Lib.hid (fun wz (Ez : KE wz) => lives_any wz Ez)
  clear E
  go_enter Tryd.func10, Tryd.ntmps10
  go_wp2_with fail
  refine (HU.out _).mono ?_
  rintro e w1 ⟨v, rfl, hown, hB1⟩
  rw [show unhex (⟨#[48, 65, 102, 70]⟩ : ByteArray).data.toList = _ from unhex_a] at hown ⊢
  dsimp only [Option.isSome, Option.getD] at hown ⊢
  have HK1 := Lib.hid (kp_of_below hB1)
  have HO1 := Lib.hid hown
  clear hown hB1
  go_wp2_with fail
  refine (HV.out _).mono ?_
  rintro e w2 ⟨u, rfl, hown, hB2⟩
  rw [show unhex (⟨#[48]⟩ : ByteArray).data.toList = _ from unhex_b]
  dsimp only [Option.isSome]
  have HK2 := Lib.hid (HK1.out.trans (kp_of_below hB2))
  have HO2 := Lib.hid (own_kpn HO1.out (kp_of_below hB2))
  clear hown hB2
  go_wp2_with fail
  refine (HT.out _ (HE.out.kp HK2.out (by simp))).mono ?_
  rintro e w3 ⟨rfl, hK3⟩
  rw [show (hex (sum (⟨#[]⟩ : ByteArray).data.toList)) = _ from sum_nil]
  have HK3 := Lib.hid (HK2.out.trans hK3)
  have HO3 := Lib.hid (own_kpn HO2.out hK3)
  clear hK3
  go_wp2_with fail
  refine (HS.out _ (HE.out.kp HK3.out (by simp))).mono ?_
  rintro e w4 ⟨rfl, hK4⟩
  rw [show (hex (sum (⟨#[97, 98, 99, 100, 98, 99, 100, 101, 99, 100, 101, 102, 100, 101, 102, 103, 101, 102, 103, 104, 102, 103, 104, 105, 103, 104, 105, 106, 104, 105, 106, 107, 105, 106, 107, 108, 106, 107, 108, 109, 107, 108, 109, 110, 108, 109, 110, 111, 109, 110, 111, 112, 110, 111, 112, 113]⟩ : ByteArray).data.toList)) = _ from sum_long]
  have HK4 := Lib.hid (HK3.out.trans hK4)
  have HO4 := Lib.hid (own_kpn HO3.out hK4)
  have hcv := conv_row HO4.out
  have hcv2 := conv_row (B := w4.heap.size) (l := [10, 255]) (World.ownsRow_lit (base := w4.heap.size) (e := 5) (size := 1) w4 #[.int .u8 10, .int .u8 255] 2 (Nat.le_refl _) (by decide) rfl)
  clear hK4
  go_wp2_with fail
  refine (HL.out _ (HE.out.kp (HK4.out.alloc _) (by simp))).mono ?_
  rintro e w5 ⟨rfl, hK5⟩
  have HK5 := Lib.hid ((HK4.out.alloc _).trans hK5)
  clear hK5 hcv hcv2
  go_wp2_with fail
  go_ret
  exact ⟨rfl, HK5.out⟩
end Hs
end Go.Proofs.YtakanjadcnmciaaDoor
