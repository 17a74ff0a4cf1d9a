/- Contracts of the program's digit and Unhex (layer 6). -/
import Derived.Test.YtakanjadcnmciaaDoorHsPh
namespace Go.Proofs.YtakanjadcnmciaaDoor
namespace Hs
open Go.RowKit Ad

def digN (c : UInt8) : Int := match digV c with | some d => (d.toNat : Int) | none => 0
theorem dig_cases (c : UInt8) : (c.toNat < 48 ∧ digV c = none) ∨ (48 ≤ c.toNat ∧ c.toNat ≤ 57 ∧ digV c = some (c - 48) ∧ ((c - 48).toNat : Int) = (c.toNat : Int) - 48) ∨ (57 < c.toNat ∧ c.toNat < 65 ∧ digV c = none) ∨
    (65 ≤ c.toNat ∧ c.toNat ≤ 70 ∧ digV c = some (c - 55) ∧ ((c - 55).toNat : Int) = (c.toNat : Int) - 55) ∨ (70 < c.toNat ∧ c.toNat < 97 ∧ digV c = none) ∨ (97 ≤ c.toNat ∧ c.toNat ≤ 102 ∧ digV c = some (c - 87) ∧ ((c - 87).toNat : Int) = (c.toNat : Int) - 87) ∨ (102 < c.toNat ∧ digV c = none) := by
  have := all_bytes (fun c => decide ((c.toNat < 48 ∧ digV c = none) ∨ (48 ≤ c.toNat ∧ c.toNat ≤ 57 ∧ digV c = some (c - 48) ∧ ((c - 48).toNat : Int) = (c.toNat : Int) - 48) ∨ (57 < c.toNat ∧ c.toNat < 65 ∧ digV c = none) ∨
    (65 ≤ c.toNat ∧ c.toNat ≤ 70 ∧ digV c = some (c - 55) ∧ ((c - 55).toNat : Int) = (c.toNat : Int) - 55) ∨ (70 < c.toNat ∧ c.toNat < 97 ∧ digV c = none) ∨ (97 ≤ c.toNat ∧ c.toNat ≤ 102 ∧ digV c = some (c - 87) ∧ ((c - 87).toNat : Int) = (c.toNat : Int) - 87) ∨ (102 < c.toNat ∧ digV c = none))) (by decide +kernel) c
  exact of_decide_eq_true this
def DigP (c : UInt8) (w : World) (e : Ending) (w' : World) : Prop := e = .returned (.tuple #[.int .u8 (digN c), .bool (digV c).isSome]) ∧ w = w'
set_option maxRecDepth 100000 in
set_option maxHeartbeats 1000000 in
theorem pdig_any (c : UInt8) (w : World) : Calls Tryd.prog 30 #[.int .u8 c.toNat] w (DigP c w) := by
  have hxl := c.toNat_lt
  rcases dig_cases c with ⟨h1, hd⟩ | ⟨h1, h2, hd, hv⟩ | ⟨h1, h2, hd⟩ | ⟨h1, h2, hd, hv⟩ | ⟨h1, h2, hd⟩ | ⟨h1, h2, hd, hv⟩ | ⟨h1, hd⟩
  · have HD := Lib.hid hd
    clear hd
    have t0 : ¬ (48 : Int) ≤ (c.toNat : Int) := by omega
    have t1 : ¬ (97 : Int) ≤ (c.toNat : Int) := by omega
    have t2 : ¬ (65 : Int) ≤ (c.toNat : Int) := by omega
    go_enter Tryd.func30, Tryd.ntmps30
    go_wp2_with fail
    go_ret2
    unfold DigP digN
    rw [HD.out]
    exact ⟨rfl, rfl⟩
  · have HD := Lib.hid hd
    have HV := Lib.hid hv
    clear hd hv
    have t0 : (48 : Int) ≤ (c.toNat : Int) := by omega
    have t1 : (c.toNat : Int) ≤ 57 := by omega
    have v0 : IntKind.u8.wrap ((c.toNat : Int) - 48) = (c.toNat : Int) - 48 := by rw [IntKind.wrap_u8']; omega
    go_enter Tryd.func30, Tryd.ntmps30
    go_wp2_with fail
    go_ret2
    unfold DigP digN
    rw [HD.out]
    dsimp only
    rw [HV.out]
    exact ⟨by go_num, rfl⟩
  · have HD := Lib.hid hd
    clear hd
    have t0 : (48 : Int) ≤ (c.toNat : Int) := by omega
    have t1 : ¬ (c.toNat : Int) ≤ 57 := by omega
    have t2 : ¬ (97 : Int) ≤ (c.toNat : Int) := by omega
    have t3 : ¬ (65 : Int) ≤ (c.toNat : Int) := by omega
    go_enter Tryd.func30, Tryd.ntmps30
    go_wp2_with fail
    go_ret2
    unfold DigP digN
    rw [HD.out]
    exact ⟨rfl, rfl⟩
  · have HD := Lib.hid hd
    have HV := Lib.hid hv
    clear hd hv
    have t0 : (48 : Int) ≤ (c.toNat : Int) := by omega
    have t1 : ¬ (c.toNat : Int) ≤ 57 := by omega
    have t2 : ¬ (97 : Int) ≤ (c.toNat : Int) := by omega
    have t3 : (65 : Int) ≤ (c.toNat : Int) := by omega
    have t4 : (c.toNat : Int) ≤ 70 := by omega
    have v0 : IntKind.u8.wrap ((c.toNat : Int) - 65) = (c.toNat : Int) - 65 := by rw [IntKind.wrap_u8']; omega
    have v1 : IntKind.u8.wrap ((c.toNat : Int) - 65 + 10) = (c.toNat : Int) - 65 + 10 := by rw [IntKind.wrap_u8']; omega
    go_enter Tryd.func30, Tryd.ntmps30
    go_wp2_with fail
    go_ret2
    unfold DigP digN
    rw [HD.out]
    dsimp only
    rw [HV.out]
    exact ⟨by go_num, rfl⟩
  · have HD := Lib.hid hd
    clear hd
    have t0 : (48 : Int) ≤ (c.toNat : Int) := by omega
    have t1 : ¬ (c.toNat : Int) ≤ 57 := by omega
    have t2 : ¬ (97 : Int) ≤ (c.toNat : Int) := by omega
    have t3 : (65 : Int) ≤ (c.toNat : Int) := by omega
    have t4 : ¬ (c.toNat : Int) ≤ 70 := by omega
    go_enter Tryd.func30, Tryd.ntmps30
    go_wp2_with fail
    go_ret2
    unfold DigP digN
    rw [HD.out]
    exact ⟨rfl, rfl⟩
  · have HD := Lib.hid hd
    have HV := Lib.hid hv
    clear hd hv
    have t0 : (48 : Int) ≤ (c.toNat : Int) := by omega
    have t1 : ¬ (c.toNat : Int) ≤ 57 := by omega
    have t2 : (97 : Int) ≤ (c.toNat : Int) := by omega
    have t3 : (c.toNat : Int) ≤ 102 := by omega
    have v0 : IntKind.u8.wrap ((c.toNat : Int) - 97) = (c.toNat : Int) - 97 := by rw [IntKind.wrap_u8']; omega
    have v1 : IntKind.u8.wrap ((c.toNat : Int) - 97 + 10) = (c.toNat : Int) - 97 + 10 := by rw [IntKind.wrap_u8']; omega
    go_enter Tryd.func30, Tryd.ntmps30
    go_wp2_with fail
    go_ret2
    unfold DigP digN
    rw [HD.out]
    dsimp only
    rw [HV.out]
    exact ⟨by go_num, rfl⟩
  · have HD := Lib.hid hd
    clear hd
    have t0 : (48 : Int) ≤ (c.toNat : Int) := by omega
    have t1 : ¬ (c.toNat : Int) ≤ 57 := by omega
    have t2 : (97 : Int) ≤ (c.toNat : Int) := by omega
    have t3 : ¬ (c.toNat : Int) ≤ 102 := by omega
    have t4 : (65 : Int) ≤ (c.toNat : Int) := by omega
    have t5 : ¬ (c.toNat : Int) ≤ 70 := by omega
    go_enter Tryd.func30, Tryd.ntmps30
    go_wp2_with fail
    go_ret2
    unfold DigP digN
    rw [HD.out]
    exact ⟨rfl, rfl⟩
end Hs
end Go.Proofs.YtakanjadcnmciaaDoor
