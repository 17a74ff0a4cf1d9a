/- The reference's CSeq and RAck (dialtoneref03). A text has at most 2^20 bytes. -/
import Derived.Test.YtmmjfofdnpafkaaGreatDoorHeZa
namespace Go.Proofs.YtmmjfofdnpafkaaGreatDoor
namespace Ad
open Go.RowKit Lx

set_option maxRecDepth 100000 in
set_option maxHeartbeats 4000000 in
theorem rcseq_any (s : ByteArray) (w : World) (hs : s.size ≤ 1048576) :
    Calls Tryz.prog 26 #[.string s] w (LeP (cseqR s.data.toList) w) := by
  have hll := lead_len s.data.toList
  rw [len_list] at hll
  have HL := Lib.hid (fun wz => rfirst_any s wz hs)
  obtain ⟨n, m, x, hr⟩ : ∃ a b c, leadR s.data.toList = (a, b, c) := ⟨_, _, _, rfl⟩
  rw [hr] at HL hll
  have HV := Lib.hid (by unfold cseqR; rw [hr] : cseqR s.data.toList = if x ≠ 0 then (0, [], x) else if tokB m then (n, m, 0) else (0, [], 5))
  dsimp only at hll
  have HTk := Lib.hid (fun wz => (by have h := rtoken_any (Txt m) wz (by rw [txt_size]; unfold maxLen; omega); rw [tokenB_eq, txt_list] at h; exact h : Calls Tryz.prog 91 #[.string (Txt m)] wz (Ret (.bool (tokB m)) wz)))
  clear hr hll
  by_cases hx : x = 0
  · have HV1 := Lib.hid (HV.out.trans (if_neg (fun h => h hx)))
    have bx : (x == 0) = true := by rw [hx]; rfl
    have bx2 : (x != 0) = false := by rw [hx]; rfl
    clear hx
    cases ht : tokB m
    · have HF := Lib.hid (by rw [HV1.out, ht]; rfl : cseqR s.data.toList = (0, [], 5))
      rw [ht] at HTk
      clear ht
      go_enter Tryz.func26, Tryz.ntmps26
      go_wp2_with fail
      refine (HL.out _).mono ?_
      rintro e w1 ⟨rfl, hK1⟩
      have K1 := Lib.hid hK1
      clear hK1
      go_wp2_with fail
      refine (HTk.out _).mono ?_
      rintro e w2 ⟨rfl, hw2⟩
      obtain rfl := hw2
      go_wp2_with fail
      go_ret3
      unfold LeP
      rw [HF.out]
      exact ⟨rfl, K1.out⟩
    · have HF := Lib.hid (by rw [HV1.out, ht]; rfl : cseqR s.data.toList = (n, m, 0))
      rw [ht] at HTk
      clear ht
      go_enter Tryz.func26, Tryz.ntmps26
      go_wp2_with fail
      refine (HL.out _).mono ?_
      rintro e w1 ⟨rfl, hK1⟩
      have K1 := Lib.hid hK1
      clear hK1
      go_wp2_with fail
      refine (HTk.out _).mono ?_
      rintro e w2 ⟨rfl, hw2⟩
      obtain rfl := hw2
      go_wp2_with fail
      go_ret3
      unfold LeP
      rw [HF.out]
      exact ⟨rfl, K1.out⟩
  · have HF := Lib.hid (HV.out.trans (if_pos hx))
    have bx : (x == 0) = false := by rw [beq_eq_false_iff_ne]; exact hx
    have bx2 : (x != 0) = true := by rw [bne_iff_ne]; exact hx
    clear hx
    go_enter Tryz.func26, Tryz.ntmps26
    go_wp2_with fail
    refine (HL.out _).mono ?_
    rintro e w1 ⟨rfl, hK1⟩
    have K1 := Lib.hid hK1
    clear hK1
    go_wp2_with fail
    go_ret3
    unfold LeP
    rw [HF.out]
    exact ⟨rfl, K1.out⟩
set_option maxRecDepth 100000 in
set_option maxHeartbeats 4000000 in
theorem rrack_any (s : ByteArray) (w : World) (hs : s.size ≤ 1048576) : Calls Tryz.prog 28 #[.string s] w (RaE (rckR s.data.toList) w) := by
  have hll := lead_len s.data.toList
  rw [len_list] at hll
  have HL := Lib.hid (fun wz => rfirst_any s wz hs)
  obtain ⟨n, m, x, hr⟩ : ∃ a b c, leadR s.data.toList = (a, b, c) := ⟨_, _, _, rfl⟩
  rw [hr] at HL hll
  dsimp only at hll
  have HC := Lib.hid (fun wz => (by have h := rcseq_any (Txt m) wz (by rw [txt_size]; omega); rw [txt_list] at h; exact h : Calls Tryz.prog 26 #[.string (Txt m)] wz (LeP (cseqR m) wz)))
  obtain ⟨k, q, y, hc⟩ : ∃ a b c, cseqR m = (a, b, c) := ⟨_, _, _, rfl⟩
  rw [hc] at HC
  have HV := Lib.hid (by unfold rckR; rw [hr, hc]; unfold rckC; rfl : rckR s.data.toList = if x ≠ 0 then (0, 0, [], x) else if y ≠ 0 then (0, 0, [], y) else (n, k, q, 0))
  clear hr hc hll
  go_enter Tryz.func28, Tryz.ntmps28
  go_wp2_with fail
  refine (HL.out _).mono ?_
  rintro e w1 ⟨rfl, hK1⟩
  have K1 := Lib.hid hK1
  clear hK1
  dsimp only
  by_cases hx : x = 0
  case neg =>
    have HF := Lib.hid (HV.out.trans (if_pos hx))
    have bx : (x != 0) = true := by rw [bne_iff_ne]; exact hx
    clear hx
    go_wp2_with fail
    refine bodyPost_ret (results_four rfl _ _ _) rfl ?_
    rw [HF.out]
    exact ⟨rfl, K1.out⟩
  case pos =>
    have HV1 := Lib.hid (HV.out.trans (if_neg (fun h => h hx)))
    have bx : (x != 0) = false := by rw [hx]; rfl
    clear hx
    go_wp2_with fail
    refine (HC.out _).mono ?_
    rintro e w2 ⟨rfl, hK2⟩
    have K2 := Lib.hid (K1.out.trans hK2)
    clear hK2
    dsimp only
    by_cases hy : y = 0
    case neg =>
      have HF := Lib.hid (HV1.out.trans (if_pos hy))
      have by_ : (y != 0) = true := by rw [bne_iff_ne]; exact hy
      clear hy
      go_wp2_with fail
      refine bodyPost_ret (results_four rfl _ _ _) rfl ?_
      rw [HF.out]
      exact ⟨rfl, K2.out⟩
    case pos =>
      have HF := Lib.hid (HV1.out.trans (if_neg (fun h => h hy)))
      have by_ : (y != 0) = false := by rw [hy]; rfl
      clear hy
      go_wp2_with fail
      refine bodyPost_ret (results_four rfl _ _ _) rfl ?_
      rw [HF.out]
      exact ⟨rfl, K2.out⟩
end Ad
end Go.Proofs.YtmmjfofdnpafkaaGreatDoor
