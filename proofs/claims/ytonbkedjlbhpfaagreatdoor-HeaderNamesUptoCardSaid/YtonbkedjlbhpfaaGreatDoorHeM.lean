/- Contracts of the reference's names of headers (dialtoneref03): among, short. A text has at most 2^20 bytes. -/
import Derived.Test.YtonbkedjlbhpfaaGreatDoorM11
namespace Go.Proofs.YtonbkedjlbhpfaaGreatDoor
namespace Ad
open Go.RowKit Lx

set_option maxRecDepth 100000 in
set_option maxHeartbeats 2000000 in
theorem ramong_any (g c : Nat) (ss : List (List UInt8)) (s : List UInt8) (n : Nat) (w : World) (hn : ss.length = n) (hn2 : n ≤ 1000) (hcn : n ≤ c) (hc : ∀ (i : Nat) z, ss[i]? = some z → w.cell? ⟨g, i, none⟩ = some (.string (Txt z))) :
    Calls Tryz.prog 94 #[.string (Txt s), .slice (some ⟨g, 0, none⟩) n c] w (BoK (ss.any (· == s)) w) := by
  have Hc := Lib.hid hc
  have Hn := Lib.hid hn
  clear hc hn
  obtain ⟨R, hR⟩ : ∃ R, ss.any (· == s) = R := ⟨_, rfl⟩
  have HR := Lib.hid hR
  rw [hR]
  clear hR
  go_enter Tryz.func94, Tryz.ntmps94
  go_wp2_with fail
  go_loopw [5] (fun i wr => ∃ j : Nat, j ≤ n ∧ i = .int .i64 j ∧ wr = w ∧ R = (ss.drop j).any (· == s)) (fun i _ => n - (intOf i).toNat)
  case atStart => exact ⟨0, by omega, rfl, rfl, HR.out.symm⟩
  case round =>
    obtain ⟨j, hj, rfl, rfl, hr⟩ := hrel
    have Hr := Lib.hid hr
    clear hr
    by_cases hlt : j < n
    · obtain ⟨z, hz⟩ : ∃ z, ss[j]? = some z := ⟨ss[j]'(by rw [Hn.out]; exact hlt), List.getElem?_eq_getElem _⟩
      have c0 := Hc.out j z hz
      have hdr : ss.drop j = z :: ss.drop (j + 1) := by
        obtain ⟨h1, h2⟩ := List.getElem?_eq_some_iff.1 hz
        rw [← h2]; exact List.drop_eq_getElem_cons h1
      have HD := Lib.hid (by rw [Hr.out, hdr, List.any_cons] : R = (z == s || (ss.drop (j + 1)).any (· == s)))
      clear hz hdr
      cases hb : (z == s)
      case true =>
        have bE : ((Txt z).toList == (Txt s).toList) = true := (txt_eq_iff z s).trans hb
        have HF := Lib.hid (by rw [HD.out, hb]; rfl : R = true)
        clear hb
        go_wp2_with fail
        go_ret
        rw [HF.out]
        exact ⟨rfl, Kp.refl _ _⟩
      case false =>
        have bE : ((Txt z).toList == (Txt s).toList) = false := (txt_eq_iff z s).trans hb
        have HF := Lib.hid (by rw [HD.out, hb, Bool.false_or] : R = (ss.drop (j + 1)).any (· == s))
        clear hb
        go_wp2_with fail
        go_roundw
        case rel => exact ⟨j + 1, by omega, by go_num, by first | trivial | rfl, HF.out⟩
        case measure => simp [intOf]; omega
    · have HF := Lib.hid (by rw [Hr.out, List.drop_eq_nil_of_le (by rw [Hn.out]; omega)]; rfl : R = false)
      go_wp2_with fail
      go_ret
      rw [HF.out]
      exact ⟨rfl, Kp.refl _ _⟩
def shoO (R : Option (List UInt8 × List UInt8)) : List UInt8 := match R with | some p => p.2 | none => []
/-- What a letter stands for. -/
def shoF (c : UInt8) : List UInt8 := shoO (shortL.find? (fun p => p.1 == [c]))
theorem shr_at : ∀ j, j < 15 → ∃ a t, shortL[j]? = some ([a], t) ∧ (#[.string ⟨#[98, 82, 101, 102, 101, 114, 114, 101, 100, 45, 66, 121]⟩, .string ⟨#[99, 67, 111, 110, 116, 101, 110, 116, 45, 84, 121, 112, 101]⟩, .string ⟨#[101, 67, 111, 110, 116, 101, 110, 116, 45, 69, 110, 99, 111, 100, 105, 110, 103]⟩, .string ⟨#[102, 70, 114, 111, 109]⟩, .string ⟨#[105, 67, 97, 108, 108, 45, 73, 68]⟩, .string ⟨#[107, 83, 117, 112, 112, 111, 114, 116, 101, 100]⟩, .string ⟨#[108, 67, 111, 110, 116, 101, 110, 116, 45, 76, 101, 110, 103, 116, 104]⟩, .string ⟨#[109, 67, 111, 110, 116, 97, 99, 116]⟩, .string ⟨#[111, 69, 118, 101, 110, 116]⟩, .string ⟨#[114, 82, 101, 102, 101, 114, 45, 84, 111]⟩, .string ⟨#[115, 83, 117, 98, 106, 101, 99, 116]⟩, .string ⟨#[116, 84, 111]⟩, .string ⟨#[117, 65, 108, 108, 111, 119, 45, 69, 118, 101, 110, 116, 115]⟩, .string ⟨#[118, 86, 105, 97]⟩, .string ⟨#[120, 83, 101, 115, 115, 105, 111, 110, 45, 69, 120, 112, 105, 114, 101, 115]⟩] : Array Value)[j]? = some (.string ⟨(a :: t).toArray⟩)
  | 0, _ => ⟨_, _, rfl, rfl⟩
  | 1, _ => ⟨_, _, rfl, rfl⟩
  | 2, _ => ⟨_, _, rfl, rfl⟩
  | 3, _ => ⟨_, _, rfl, rfl⟩
  | 4, _ => ⟨_, _, rfl, rfl⟩
  | 5, _ => ⟨_, _, rfl, rfl⟩
  | 6, _ => ⟨_, _, rfl, rfl⟩
  | 7, _ => ⟨_, _, rfl, rfl⟩
  | 8, _ => ⟨_, _, rfl, rfl⟩
  | 9, _ => ⟨_, _, rfl, rfl⟩
  | 10, _ => ⟨_, _, rfl, rfl⟩
  | 11, _ => ⟨_, _, rfl, rfl⟩
  | 12, _ => ⟨_, _, rfl, rfl⟩
  | 13, _ => ⟨_, _, rfl, rfl⟩
  | 14, _ => ⟨_, _, rfl, rfl⟩
  | n + 15, h => absurd h (by omega)
set_option maxRecDepth 100000 in
set_option maxHeartbeats 2000000 in
theorem rshort_any (c : UInt8) (w : World) :
    Calls Tryz.prog 91 #[.int .u8 (c.toNat : Int)] w (TxK (shoF c) w) := by
  obtain ⟨R, hR⟩ : ∃ R, shortL.find? (fun p => p.1 == [c]) = R := ⟨_, rfl⟩
  have HV := Lib.hid (by unfold shoF; rw [hR] : shoF c = shoO R)
  have HR := Lib.hid hR
  clear hR
  obtain ⟨w1, hw1⟩ : ∃ x, w.alloc (.cells #[.string ⟨#[98, 82, 101, 102, 101, 114, 114, 101, 100, 45, 66, 121]⟩, .string ⟨#[99, 67, 111, 110, 116, 101, 110, 116, 45, 84, 121, 112, 101]⟩, .string ⟨#[101, 67, 111, 110, 116, 101, 110, 116, 45, 69, 110, 99, 111, 100, 105, 110, 103]⟩, .string ⟨#[102, 70, 114, 111, 109]⟩, .string ⟨#[105, 67, 97, 108, 108, 45, 73, 68]⟩, .string ⟨#[107, 83, 117, 112, 112, 111, 114, 116, 101, 100]⟩, .string ⟨#[108, 67, 111, 110, 116, 101, 110, 116, 45, 76, 101, 110, 103, 116, 104]⟩, .string ⟨#[109, 67, 111, 110, 116, 97, 99, 116]⟩, .string ⟨#[111, 69, 118, 101, 110, 116]⟩, .string ⟨#[114, 82, 101, 102, 101, 114, 45, 84, 111]⟩, .string ⟨#[115, 83, 117, 98, 106, 101, 99, 116]⟩, .string ⟨#[116, 84, 111]⟩, .string ⟨#[117, 65, 108, 108, 111, 119, 45, 69, 118, 101, 110, 116, 115]⟩, .string ⟨#[118, 86, 105, 97]⟩, .string ⟨#[120, 83, 101, 115, 115, 105, 111, 110, 45, 69, 120, 112, 105, 114, 101, 115]⟩] 9) = x := ⟨_, rfl⟩
  have K1 := Lib.hid (show Kp [] w w1 from by rw [← hw1]; exact (Kp.refl _ _).alloc _)
  have B1 := Lib.hid (show Blk w1 w.heap.size 9 #[.string ⟨#[98, 82, 101, 102, 101, 114, 114, 101, 100, 45, 66, 121]⟩, .string ⟨#[99, 67, 111, 110, 116, 101, 110, 116, 45, 84, 121, 112, 101]⟩, .string ⟨#[101, 67, 111, 110, 116, 101, 110, 116, 45, 69, 110, 99, 111, 100, 105, 110, 103]⟩, .string ⟨#[102, 70, 114, 111, 109]⟩, .string ⟨#[105, 67, 97, 108, 108, 45, 73, 68]⟩, .string ⟨#[107, 83, 117, 112, 112, 111, 114, 116, 101, 100]⟩, .string ⟨#[108, 67, 111, 110, 116, 101, 110, 116, 45, 76, 101, 110, 103, 116, 104]⟩, .string ⟨#[109, 67, 111, 110, 116, 97, 99, 116]⟩, .string ⟨#[111, 69, 118, 101, 110, 116]⟩, .string ⟨#[114, 82, 101, 102, 101, 114, 45, 84, 111]⟩, .string ⟨#[115, 83, 117, 98, 106, 101, 99, 116]⟩, .string ⟨#[116, 84, 111]⟩, .string ⟨#[117, 65, 108, 108, 111, 119, 45, 69, 118, 101, 110, 116, 115]⟩, .string ⟨#[118, 86, 105, 97]⟩, .string ⟨#[120, 83, 101, 115, 115, 105, 111, 110, 45, 69, 120, 112, 105, 114, 101, 115]⟩] from by rw [← hw1]; exact Blk.new _ _ _)
  obtain ⟨g, hg⟩ : ∃ g, w.heap.size = g := ⟨_, rfl⟩
  rw [hg] at B1
  obtain ⟨n, hc⟩ : ∃ n, c.toNat = n := ⟨_, rfl⟩
  rw [hc]
  have Hc := Lib.hid hc
  clear hc
  go_enter Tryz.func91, Tryz.ntmps91
  go_upto_region 2 with fail
  try rw [hw1]
  try rw [hg]
  clear hw1 hg
  go_wp2_with fail
  go_loopw [4] (fun i wr => ∃ j : Nat, j ≤ 15 ∧ i = .int .i64 j ∧ Kp [] w1 wr ∧ R = (shortL.drop j).find? (fun p => p.1 == [c])) (fun i _ => 15 - (intOf i).toNat)
  case atStart => exact ⟨0, by omega, rfl, Kp.refl _ _, HR.out.symm⟩
  case round =>
    obtain ⟨j, hj, rfl, hK, hr⟩ := hrel
    have Hr := Lib.hid hr
    have B2 := Lib.hid (B1.out.kp hK (by simp))
    have K2 := Lib.hid hK
    clear hr hK
    by_cases hlt : j < 15
    · obtain ⟨a, t, hz, hz2⟩ := shr_at j hlt
      have c0 := (B2.out.cell j).trans hz2
      have HD := Lib.hid (Hr.out.trans (find_step _ _ _ _ hz))
      have bz : 0 < (ByteArray.mk (a :: t).toArray).size := by show 0 < (a :: t).toArray.size; simp
      clear hz hz2
      have hx : (ByteArray.mk (a :: t).toArray)[0] = a := rfl
      have hE : (ByteArray.mk (a :: t).toArray).extract 1 (t.length + 1) = Txt t := by
        have h := slc_txt (Txt (a :: t)) 1 (t.length + 1)
        rw [txt_list, slc_full _ _ _ (by simp)] at h
        exact h
      have HE := Lib.hid hE
      have hcc := Hc.out
      by_cases hac : a = c
      · have bE : (((ByteArray.mk (a :: t).toArray)[0].toNat : Int) == (n : Int)) = true := by rw [hx, hac, hcc]; exact beq_self_eq_true _
        have HF := Lib.hid (by rw [HD.out, hac]; simp : R = some ([a], t))
        clear hx hE hac hcc
        go_wp2_with fail
        go_ret
        unfold TxK
        rw [HV.out, HF.out, HE.out]
        exact ⟨rfl, K1.out.trans K2.out⟩
      · have bE : (((ByteArray.mk (a :: t).toArray)[0].toNat : Int) == (n : Int)) = false := by
          rw [hx, ← hcc, beq_eq_false_iff_ne]
          intro h
          exact hac (UInt8.toNat_inj.1 (Int.ofNat.inj h))
        have HF := Lib.hid (by rw [HD.out, if_neg (by simpa using hac)] : R = (shortL.drop (j + 1)).find? (fun p => p.1 == [c]))
        clear hx hE hac hcc
        go_wp2_with fail
        go_roundw
        case rel => exact ⟨j + 1, by omega, by go_num, K2.out, HF.out⟩
        case measure => simp [intOf]; omega
    · have HF := Lib.hid (by rw [Hr.out, List.drop_eq_nil_of_le (by rw [show shortL.length = 15 from rfl]; omega)]; rfl : R = none)
      go_wp2_with fail
      go_ret
      unfold TxK
      rw [HV.out, HF.out]
      exact ⟨rfl, K1.out.trans K2.out⟩
end Ad
end Go.Proofs.YtonbkedjlbhpfaaGreatDoor
