/- Contracts of the program's rotations of words (layer 6). Rotations by 1 to 31 bits. -/
import Derived.Test.YtakanjadcnmciaaDoorHsA
namespace Go.Proofs.YtakanjadcnmciaaDoor
namespace Hs
open Go.RowKit Ad

def WdE (x : UInt32) (w : World) (e : Ending) (w' : World) : Prop := e = .returned (.int .u32 (x.toNat : Int)) ∧ w = w'
theorem neg_and : ∀ n : Nat, n < 32 → 1 ≤ n → bits .and .u64 (IntKind.u64.wrap (-(n : Int))) 31 = ((32 - n : Nat) : Int) := by decide +kernel
theorem prot_is (x : UInt32) (n m : Nat) (h1 : 1 ≤ n) (h2 : n ≤ 31) (hm : 32 - n = m) : bits .or .u32 ((x.toNat : Int) * 2 ^ m % 4294967296) ((x.toNat : Int) / 2 ^ n) = ((rotW x (UInt32.ofNat n)).toNat : Int) := by
  subst hm
  rw [← IntKind.wrap_u32', w_shr x n (by omega), w_shl x (32 - n) (by omega), w_or]
  unfold rotW
  rw [sub_num n (by omega), UInt32.or_comm]
set_option maxRecDepth 100000 in
set_option maxHeartbeats 1000000 in
theorem prl_any (x : UInt32) (n : Nat) (h1 : 1 ≤ n) (h2 : n ≤ 31) (w : World) : Calls Tryd.prog 45 #[.int .u32 x.toNat, .int .i64 (-(n : Int))] w (WdE (rotW x (UInt32.ofNat n)) w) := by
  have HN := neg_and n (by omega) h1
  obtain ⟨m, hm⟩ : ∃ m, 32 - n = m := ⟨_, rfl⟩
  rw [hm] at HN
  have HR := Lib.hid (prot_is x n m h1 h2 hm)
  have e1 : min m 32 = m := by omega
  have e2 : min n 32 = n := by omega
  have e3 : (32 : Int) - (m : Int) = (n : Int) := by omega
  have e4 : IntKind.u64.wrap (n : Int) = (n : Int) := by simp [IntKind.wrap, IntKind.bits, IntKind.signed]; omega
  clear hm
  go_enter Tryd.func45, Tryd.ntmps45
  go_wp2_with fail
  go_ret
  unfold WdE
  rw [← HR.out]
  exact ⟨rfl, rfl⟩
set_option maxRecDepth 100000 in
set_option maxHeartbeats 1000000 in
theorem prot_any (x : UInt32) (n : Nat) (h1 : 1 ≤ n) (h2 : n ≤ 31) (w : World) : Calls Tryd.prog 44 #[.int .u32 x.toNat, .int .i64 n] w (WdE (rotW x (UInt32.ofNat n)) w) := by
  have H1 := Lib.hid (prl_any x n h1 h2)
  have e1 : IntKind.i64.wrap (-(n : Int)) = -(n : Int) := IntWalk.i64_in _ (by omega)
  go_enter Tryd.func44, Tryd.ntmps44
  go_wp2_with fail
  refine (H1.out _).mono ?_
  rintro e w1 ⟨rfl, rfl⟩
  go_wp2_with fail
  go_ret
  exact ⟨rfl, rfl⟩
theorem prot_c (x : UInt32) (n : Nat) (c : Int) (hc : (n : Int) = c) (h1 : 1 ≤ n) (h2 : n ≤ 31) (w : World) : Calls Tryd.prog 44 #[.int .u32 x.toNat, .int .i64 c] w (WdE (rotW x (UInt32.ofNat n)) w) := by
  rw [← hc]
  exact prot_any x n h1 h2 w
set_option maxRecDepth 100000 in
set_option maxHeartbeats 1000000 in
theorem psm0_any (x : UInt32) (w : World) : Calls Tryd.prog 40 #[.int .u32 x.toNat] w (WdE (sm0 x) w) := by
  have HR := Lib.hid (sm0_is x)
  have H1 := Lib.hid (fun wz => prot_c x 7 7 rfl (by decide) (by decide) wz)
  have H2 := Lib.hid (fun wz => prot_c x 18 18 rfl (by decide) (by decide) wz)
  go_enter Tryd.func40, Tryd.ntmps40
  go_wp2_with fail
  refine (H1.out _).mono ?_
  rintro e w1 ⟨rfl, rfl⟩
  go_wp2_with fail
  refine (H2.out _).mono ?_
  rintro e w2 ⟨rfl, rfl⟩
  go_wp2_with fail
  go_ret
  unfold WdE
  rw [← HR.out]
  exact ⟨rfl, rfl⟩
set_option maxRecDepth 100000 in
set_option maxHeartbeats 1000000 in
theorem psm1_any (x : UInt32) (w : World) : Calls Tryd.prog 39 #[.int .u32 x.toNat] w (WdE (sm1 x) w) := by
  have HR := Lib.hid (sm1_is x)
  have H1 := Lib.hid (fun wz => prot_c x 17 17 rfl (by decide) (by decide) wz)
  have H2 := Lib.hid (fun wz => prot_c x 19 19 rfl (by decide) (by decide) wz)
  go_enter Tryd.func39, Tryd.ntmps39
  go_wp2_with fail
  refine (H1.out _).mono ?_
  rintro e w1 ⟨rfl, rfl⟩
  go_wp2_with fail
  refine (H2.out _).mono ?_
  rintro e w2 ⟨rfl, rfl⟩
  go_wp2_with fail
  go_ret
  unfold WdE
  rw [← HR.out]
  exact ⟨rfl, rfl⟩
set_option maxRecDepth 100000 in
set_option maxHeartbeats 1000000 in
theorem plg0_any (x : UInt32) (w : World) : Calls Tryd.prog 42 #[.int .u32 x.toNat] w (WdE (lg0 x) w) := by
  have HR := Lib.hid (lg0_is x)
  have H1 := Lib.hid (fun wz => prot_c x 2 2 rfl (by decide) (by decide) wz)
  have H2 := Lib.hid (fun wz => prot_c x 13 13 rfl (by decide) (by decide) wz)
  have H3 := Lib.hid (fun wz => prot_c x 22 22 rfl (by decide) (by decide) wz)
  go_enter Tryd.func42, Tryd.ntmps42
  go_wp2_with fail
  refine (H1.out _).mono ?_
  rintro e w1 ⟨rfl, rfl⟩
  go_wp2_with fail
  refine (H2.out _).mono ?_
  rintro e w2 ⟨rfl, rfl⟩
  go_wp2_with fail
  refine (H3.out _).mono ?_
  rintro e w3 ⟨rfl, rfl⟩
  go_wp2_with fail
  go_ret
  unfold WdE
  rw [← HR.out]
  exact ⟨rfl, rfl⟩
set_option maxRecDepth 100000 in
set_option maxHeartbeats 1000000 in
theorem plg1_any (x : UInt32) (w : World) : Calls Tryd.prog 41 #[.int .u32 x.toNat] w (WdE (lg1 x) w) := by
  have HR := Lib.hid (lg1_is x)
  have H1 := Lib.hid (fun wz => prot_c x 6 6 rfl (by decide) (by decide) wz)
  have H2 := Lib.hid (fun wz => prot_c x 11 11 rfl (by decide) (by decide) wz)
  have H3 := Lib.hid (fun wz => prot_c x 25 25 rfl (by decide) (by decide) wz)
  go_enter Tryd.func41, Tryd.ntmps41
  go_wp2_with fail
  refine (H1.out _).mono ?_
  rintro e w1 ⟨rfl, rfl⟩
  go_wp2_with fail
  refine (H2.out _).mono ?_
  rintro e w2 ⟨rfl, rfl⟩
  go_wp2_with fail
  refine (H3.out _).mono ?_
  rintro e w3 ⟨rfl, rfl⟩
  go_wp2_with fail
  go_ret
  unfold WdE
  rw [← HR.out]
  exact ⟨rfl, rfl⟩
end Hs
end Go.Proofs.YtakanjadcnmciaaDoor
