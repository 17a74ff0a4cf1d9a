/- Contracts of Number and RAck of package header; the reference's Number. A text has at most 2^20 bytes. -/
import Derived.Test.YtmmjfofdnpafkaaGreatDoorHeS
namespace Go.Proofs.YtmmjfofdnpafkaaGreatDoor
namespace Ad
open Go.RowKit Lx

def NuE (l : List UInt8) (w : World) (e : Ending) (w' : World) : Prop := e = .returned (.tuple #[.int .i64 (numN (trS l)), .int .u8 (numE (trS l))]) ∧ Kp [] w w'
set_option maxRecDepth 100000 in
set_option maxHeartbeats 2000000 in
theorem hnumber_any (s : ByteArray) (w : World) (hs : s.size ≤ 1048576) : Calls Tryz.prog 29 #[.string s] w (NuE s.data.toList w) := by
  obtain ⟨t, ht⟩ : ∃ t, trS s.data.toList = t := ⟨_, rfl⟩
  have htl : t.length ≤ 1048576 := by rw [← ht]; have := trS_len s.data.toList; rw [len_list] at this; omega
  have HT := Lib.hid (fun wz => (by have h := trimmed_any s wz (by omega); rw [ht] at h; exact h : Calls Tryz.prog 72 #[.string s] wz (TxK t wz)))
  have HN := Lib.hid (fun wz => (by have h := number_q (Txt t) wz (by rw [txt_size]; omega); rw [txt_list] at h; exact h))
  unfold NuE
  rw [ht]
  clear ht htl
  go_enter Tryz.func29, Tryz.ntmps29
  go_wp2_with fail
  refine (HT.out _).mono ?_
  rintro e w1 ⟨rfl, hK1⟩
  have K1 := Lib.hid hK1
  clear hK1
  go_wp2_with fail
  refine (HN.out _).mono ?_
  rintro e w2 ⟨rfl, hw⟩
  obtain rfl := hw.symm
  go_wp2_with fail
  go_ret2
  exact ⟨rfl, K1.out⟩
set_option maxRecDepth 100000 in
set_option maxHeartbeats 2000000 in
theorem rnumber3_any (s : ByteArray) (w : World) (hs : s.size ≤ 1048576) : Calls Tryz.prog 30 #[.string s] w (NuE s.data.toList w) := by
  obtain ⟨t, ht⟩ : ∃ t, trS s.data.toList = t := ⟨_, rfl⟩
  have htl : t.length ≤ 1048576 := by rw [← ht]; have := trS_len s.data.toList; rw [len_list] at this; omega
  have HT := Lib.hid (fun wz => rtrim_k s t wz (by omega) ht)
  have HN := Lib.hid (fun wz => (by have h := rnumber_any (Txt t) wz (by rw [txt_size]; unfold maxLen; omega); rw [txt_list] at h; exact h))
  unfold NuE
  rw [ht]
  clear ht htl
  go_enter Tryz.func30, Tryz.ntmps30
  go_wp2_with fail
  refine (HT.out _).mono ?_
  rintro e w1 ⟨rfl, hK1⟩
  have K1 := Lib.hid hK1
  clear hK1
  go_wp2_with fail
  refine (HN.out _).mono ?_
  rintro e w2 ⟨rfl, hw⟩
  obtain rfl := hw
  go_wp2_with fail
  go_ret2
  exact ⟨rfl, K1.out⟩
/-- The two numbers and the method of a RAck, and the error. -/
def rckC (n : Int) (c : Int × List UInt8 × Int) : Int × Int × List UInt8 × Int := if c.2.2 ≠ 0 then (0, 0, [], c.2.2) else (n, c.1, c.2.1, 0)
def rckR (l : List UInt8) : Int × Int × List UInt8 × Int := if (leadR l).2.2 ≠ 0 then (0, 0, [], (leadR l).2.2) else rckC (leadR l).1 (cseqR (leadR l).2.1)
def RaE (r : Int × Int × List UInt8 × Int) (w : World) (e : Ending) (w' : World) : Prop := e = .returned (.tuple #[.int .i64 r.1, .int .i64 r.2.1, .string (Txt r.2.2.1), .int .u8 r.2.2.2]) ∧ Kp [] w w'
set_option maxRecDepth 100000 in
set_option maxHeartbeats 4000000 in
theorem hrack_any (s : ByteArray) (w : World) (hs : s.size ≤ 1048576) : Calls Tryz.prog 27 #[.string s] w (RaE (rckR s.data.toList) w) := by
  have hll := lead_len s.data.toList
  rw [len_list] at hll
  have HL := Lib.hid (fun wz => leading_any s wz (by omega))
  obtain ⟨n, m, x, hr⟩ : ∃ a b c, leadR s.data.toList = (a, b, c) := ⟨_, _, _, rfl⟩
  rw [hr] at HL hll
  dsimp only at hll
  have HC := Lib.hid (fun wz => (by have h := cseq_any (Txt m) wz (by rw [txt_size]; omega); rw [txt_list] at h; exact h : Calls Tryz.prog 25 #[.string (Txt m)] wz (LeP (cseqR m) wz)))
  obtain ⟨k, q, y, hc⟩ : ∃ a b c, cseqR m = (a, b, c) := ⟨_, _, _, rfl⟩
  rw [hc] at HC
  have HV := Lib.hid (by unfold rckR; rw [hr, hc]; unfold rckC; rfl : rckR s.data.toList = if x ≠ 0 then (0, 0, [], x) else if y ≠ 0 then (0, 0, [], y) else (n, k, q, 0))
  clear hr hc hll
  go_enter Tryz.func27, Tryz.ntmps27
  go_wp2_with fail
  refine (HL.out _).mono ?_
  rintro e w1 ⟨rfl, hK1⟩
  have K1 := Lib.hid hK1
  clear hK1
  dsimp only
  by_cases hx : x = 0
  case neg =>
    have HF := Lib.hid (HV.out.trans (if_pos hx))
    have bx : (x != 0) = true := by rw [bne_iff_ne]; exact hx
    clear hx
    go_wp2_with fail
    refine bodyPost_ret (results_four rfl _ _ _) rfl ?_
    rw [HF.out]
    exact ⟨rfl, K1.out⟩
  case pos =>
    have HV1 := Lib.hid (HV.out.trans (if_neg (fun h => h hx)))
    have bx : (x != 0) = false := by rw [hx]; rfl
    clear hx
    go_wp2_with fail
    refine (HC.out _).mono ?_
    rintro e w2 ⟨rfl, hK2⟩
    have K2 := Lib.hid (K1.out.trans hK2)
    clear hK2
    dsimp only
    by_cases hy : y = 0
    case neg =>
      have HF := Lib.hid (HV1.out.trans (if_pos hy))
      have by_ : (y != 0) = true := by rw [bne_iff_ne]; exact hy
      clear hy
      go_wp2_with fail
      refine bodyPost_ret (results_four rfl _ _ _) rfl ?_
      rw [HF.out]
      exact ⟨rfl, K2.out⟩
    case pos =>
      have HF := Lib.hid (HV1.out.trans (if_neg (fun h => h hy)))
      have by_ : (y != 0) = false := by rw [hy]; rfl
      clear hy
      go_wp2_with fail
      refine bodyPost_ret (results_four rfl _ _ _) rfl ?_
      rw [HF.out]
      exact ⟨rfl, K2.out⟩
end Ad
end Go.Proofs.YtmmjfofdnpafkaaGreatDoor
