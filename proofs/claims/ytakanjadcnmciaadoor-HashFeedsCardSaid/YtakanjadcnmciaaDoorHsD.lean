/- Contract of the reference's digit (layer 6). No conditions. -/
import Derived.Test.YtakanjadcnmciaaDoorHsHex
import Derived.Test.YtakanjadcnmciaaDoorHsA
import Derived.Test.YtakanjadcnmciaaDoorLxSpec
namespace Go.Proofs.YtakanjadcnmciaaDoor
namespace Hs
open Go.RowKit Ad

def digA : List UInt8 := [48, 49, 50, 51, 52, 53, 54, 55, 56, 57, 97, 98, 99, 100, 101, 102, 65, 66, 67, 68, 69, 70]
def digI (c : UInt8) : Int := match digV c with | some d => (d.toNat : Int) | none => -1
theorem digI_at : ∀ j, j < 22 → digI (digA.getD j 0) = if j < 16 then (j : Int) else (j : Int) - 6 := by decide +kernel
theorem digI_out (c : UInt8) (h : ∀ k, k < 22 → digA.getD k 0 ≠ c) : digI c = -1 := by
  have := all_bytes (fun c => decide (digI c = -1) || (List.range 22).any (fun k => digA.getD k 0 == c)) (by decide +kernel) c
  rcases Bool.or_eq_true_iff.1 this with h1 | h1
  · exact of_decide_eq_true h1
  · obtain ⟨k, hk, e⟩ := List.any_eq_true.1 h1
    exact absurd (by simpa using e) (h k (List.mem_range.1 hk))
set_option maxRecDepth 100000 in
set_option maxHeartbeats 1000000 in
theorem rdigit_any (c : UInt8) (w : World) : Calls Tryd.prog 31 #[.int .u8 c.toNat] w fun e w' => e = .returned (.int .i64 (digI c)) ∧ w' = w := by
  obtain ⟨T, hT⟩ : ∃ T : ByteArray, (⟨#[48, 49, 50, 51, 52, 53, 54, 55, 56, 57, 97, 98, 99, 100, 101, 102, 65, 66, 67, 68, 69, 70]⟩ : ByteArray) = T := ⟨_, rfl⟩
  have hTs : T.size = 22 := by rw [← hT]; rfl
  have hTd : T.data.toList = digA := by rw [← hT]; rfl
  have hTj : ∀ j (h : j < T.size), T[j] = digA.getD j 0 := by
    intro j h
    have : T[j] = T.data.toList[j]'(by simpa using h) := rfl
    rw [this]
    simp only [hTd]
    rw [List.getD_eq_getElem?_getD, List.getElem?_eq_getElem]
    rfl
  go_enter Tryd.func31, Tryd.ntmps31
  go_wp2_with fail
  rw [hT]
  have HTs := Lib.hid hTs
  have HTj := Lib.hid hTj
  clear hT hTd hTj
  go_loopw [4] (fun i wr => ∃ j : Nat, j ≤ 22 ∧ i = .int .i64 j ∧ wr = w ∧ ∀ k, k < j → digA.getD k 0 ≠ c) (fun i _ => 22 - (intOf i).toNat)
  case atStart => exact ⟨0, by omega, rfl, rfl, fun k hk => by omega⟩
  case round =>
    obtain ⟨j, hj, rfl, rfl, hk⟩ := hrel
    have HK := Lib.hid hk
    clear hk
    by_cases hlt : j < 22
    · have hjs : j < T.size := by omega
      obtain ⟨x, hx⟩ : ∃ x, T[j] = x := ⟨_, rfl⟩
      have hxv : digA.getD j 0 = x := by rw [← HTj.out j hjs, hx]
      by_cases hc : x = c
      · have HI := Lib.hid (by have := digI_at j hlt; rwa [hxv, hc] at this : digI c = if j < 16 then (j : Int) else (j : Int) - 6)
        by_cases h16 : j < 16
        · have HI2 := Lib.hid (HI.out.trans (if_pos h16))
          subst hc
          have c1 : (j : Int) < 16 := by omega
          have hx2 : (T[j].toNat : Int) = (x.toNat : Int) := by rw [hx]
          clear h16 hxv
          go_wp2_with fail
          go_ret
          exact ⟨by rw [HI2.out]; rfl, rfl⟩
        · have HI2 := Lib.hid (HI.out.trans (if_neg h16))
          subst hc
          have c1 : ¬ (j : Int) < 16 := by omega
          have hx2 : (T[j].toNat : Int) = (x.toNat : Int) := by rw [hx]
          have hw6 : IntKind.i64.wrap ((j : Int) - 6) = (j : Int) - 6 := IntWalk.i64_in _ (by omega)
          clear h16 hxv
          go_wp2_with fail
          go_ret
          exact ⟨by rw [HI2.out]; rfl, rfl⟩
      · have hx2 : (T[j].toNat : Int) = (x.toNat : Int) := by rw [hx]
        have hne : ((x.toNat : Int) == (c.toNat : Int)) = false := beq_eq_false_iff_ne.2 fun e => hc (UInt8.toNat_inj.1 (by omega))
        have HN := Lib.hid (by rw [hxv]; exact hc : digA.getD j 0 ≠ c)
        clear hc hxv
        go_wp2_with fail
        go_roundw
        case rel => exact ⟨j + 1, by omega, by go_num, by first | rfl | trivial, fun k hk => by
          rcases Nat.lt_or_ge k j with h | h
          · exact HK.out k h
          · obtain rfl : k = j := by omega
            exact HN.out⟩
        case measure => simp [intOf]; omega
    · have HI := Lib.hid (digI_out c fun k hk => HK.out k (by omega))
      go_wp2_with fail
      go_ret
      exact ⟨by rw [HI.out]; rfl, rfl⟩
end Hs
end Go.Proofs.YtakanjadcnmciaaDoor
