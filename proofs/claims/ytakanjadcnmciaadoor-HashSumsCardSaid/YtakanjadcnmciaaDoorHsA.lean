/- Contracts of the reference's rotation of words (layer 6). Rotations by 1 to 31 bits. -/
import Derived.Test.YtakanjadcnmciaaDoorHsSpec
import Derived.Test.YtakanjadcnmciaaDoorHsW
import Derived.Test.YtakanjadcnmciaaDoorAdKp
import Derived.Test.YtakanjadcnmciaaDoorAdGw
import Derived.Test.YtakanjadcnmciaaDoorProg
import Derived.WalkKit
import Derived.WalkSpells
import Derived.WalkLawsBesides
import Derived.BigQuiet
import Derived.LoopTactic
import Derived.RegionTactic
import Derived.KernelRfl
namespace Go.Proofs.YtakanjadcnmciaaDoor
namespace Hs
open Go.RowKit Ad

def WdK (x : UInt32) (w : World) (e : Ending) (w' : World) : Prop := e = .returned (.int .u32 (x.toNat : Int)) ∧ ∃ n, w' = w.drewN n
theorem sub_num (n : Nat) (h : n ≤ 32) : 32 - UInt32.ofNat n = UInt32.ofNat (32 - n) := by
  apply UInt32.toNat_inj.1
  rw [UInt32.toNat_sub]
  show (2 ^ 32 - n % 2 ^ 32 + 32) % 2 ^ 32 = (32 - n) % 2 ^ 32
  omega
theorem rot_is (x : UInt32) (n : Nat) (h1 : 1 ≤ n) (h2 : n ≤ 31) : bits .or .u32 ((x.toNat : Int) / 2 ^ n) ((x.toNat : Int) * 2 ^ (32 - n) % 4294967296) = ((rotW x (UInt32.ofNat n)).toNat : Int) := by
  rw [← IntKind.wrap_u32', w_shr x n (by omega), w_shl x (32 - n) (by omega), w_or]
  unfold rotW
  rw [sub_num n (by omega)]
set_option maxRecDepth 100000 in
set_option maxHeartbeats 1000000 in
theorem rrot_any (x : UInt32) (n : Nat) (h1 : 1 ≤ n) (h2 : n ≤ 31) (w : World) : Calls Tryd.prog 43 #[.int .u32 x.toNat, .int .i64 n] w (WdK (rotW x (UInt32.ofNat n)) w) := by
  have HR := Lib.hid (rot_is x n h1 h2)
  have a1 : (0 : Int) ≤ (n : Int) := by omega
  have a2 : (n : Int) ≤ 32 := by omega
  have a3 : (0 : Int) ≤ 32 - (n : Int) := by omega
  have a4 : 32 - (n : Int) ≤ 32 := by omega
  have e1 : (32 - (n : Int)).toNat = 32 - n := by omega
  have e2 : ((n : Int)).toNat = n := by omega
  go_enter Tryd.func43, Tryd.ntmps43
  go_wp2_with fail
  go_quiet (fail)
  go_wp2_with fail
  go_ret
  unfold WdK
  rw [← HR.out]
  exact ⟨rfl, nq, rfl⟩
theorem rrot_c (x : UInt32) (n : Nat) (c : Int) (hc : (n : Int) = c) (h1 : 1 ≤ n) (h2 : n ≤ 31) (w : World) : Calls Tryd.prog 43 #[.int .u32 x.toNat, .int .i64 c] w (WdK (rotW x (UInt32.ofNat n)) w) := by
  rw [← hc]
  exact rrot_any x n h1 h2 w
theorem sm0_is (x : UInt32) : bits .xor .u32 (bits .xor .u32 ((rotW x (UInt32.ofNat 7)).toNat : Int) ((rotW x (UInt32.ofNat 18)).toNat : Int)) ((x.toNat : Int) / 8) = ((sm0 x).toNat : Int) := by
  rw [w_xor, show (8 : Int) = 2 ^ 3 from rfl, w_shr x 3 (by decide), w_xor]; rfl
theorem sm1_is (x : UInt32) : bits .xor .u32 (bits .xor .u32 ((rotW x (UInt32.ofNat 17)).toNat : Int) ((rotW x (UInt32.ofNat 19)).toNat : Int)) ((x.toNat : Int) / 1024) = ((sm1 x).toNat : Int) := by
  rw [w_xor, show (1024 : Int) = 2 ^ 10 from rfl, w_shr x 10 (by decide), w_xor]; rfl
theorem lg0_is (x : UInt32) : bits .xor .u32 (bits .xor .u32 ((rotW x (UInt32.ofNat 2)).toNat : Int) ((rotW x (UInt32.ofNat 13)).toNat : Int)) ((rotW x (UInt32.ofNat 22)).toNat : Int) = ((lg0 x).toNat : Int) := by
  rw [w_xor, w_xor]; rfl
theorem lg1_is (x : UInt32) : bits .xor .u32 (bits .xor .u32 ((rotW x (UInt32.ofNat 6)).toNat : Int) ((rotW x (UInt32.ofNat 11)).toNat : Int)) ((rotW x (UInt32.ofNat 25)).toNat : Int) = ((lg1 x).toNat : Int) := by
  rw [w_xor, w_xor]; rfl
set_option maxRecDepth 100000 in
set_option maxHeartbeats 1000000 in
theorem rsm0_any (x : UInt32) (w : World) : Calls Tryd.prog 35 #[.int .u32 x.toNat] w (WdK (sm0 x) w) := by
  have HR := Lib.hid (sm0_is x)
  have H1 := Lib.hid (fun wz => rrot_c x 7 7 rfl (by decide) (by decide) wz)
  have H2 := Lib.hid (fun wz => rrot_c x 18 18 rfl (by decide) (by decide) wz)
  go_enter Tryd.func35, Tryd.ntmps35
  go_wp2_with fail
  refine (H1.out _).mono ?_
  rintro e w1 ⟨rfl, n1, rfl⟩
  go_wp2_with fail
  refine (H2.out _).mono ?_
  rintro e w2 ⟨rfl, n2, rfl⟩
  go_wp2_with fail
  go_ret
  unfold WdK
  rw [← HR.out]
  exact ⟨rfl, _, rfl⟩
set_option maxRecDepth 100000 in
set_option maxHeartbeats 1000000 in
theorem rsm1_any (x : UInt32) (w : World) : Calls Tryd.prog 34 #[.int .u32 x.toNat] w (WdK (sm1 x) w) := by
  have HR := Lib.hid (sm1_is x)
  have H1 := Lib.hid (fun wz => rrot_c x 17 17 rfl (by decide) (by decide) wz)
  have H2 := Lib.hid (fun wz => rrot_c x 19 19 rfl (by decide) (by decide) wz)
  go_enter Tryd.func34, Tryd.ntmps34
  go_wp2_with fail
  refine (H1.out _).mono ?_
  rintro e w1 ⟨rfl, n1, rfl⟩
  go_wp2_with fail
  refine (H2.out _).mono ?_
  rintro e w2 ⟨rfl, n2, rfl⟩
  go_wp2_with fail
  go_ret
  unfold WdK
  rw [← HR.out]
  exact ⟨rfl, _, rfl⟩
set_option maxRecDepth 100000 in
set_option maxHeartbeats 1000000 in
theorem rlg0_any (x : UInt32) (w : World) : Calls Tryd.prog 38 #[.int .u32 x.toNat] w (WdK (lg0 x) w) := by
  have HR := Lib.hid (lg0_is x)
  have H1 := Lib.hid (fun wz => rrot_c x 2 2 rfl (by decide) (by decide) wz)
  have H2 := Lib.hid (fun wz => rrot_c x 13 13 rfl (by decide) (by decide) wz)
  have H3 := Lib.hid (fun wz => rrot_c x 22 22 rfl (by decide) (by decide) wz)
  go_enter Tryd.func38, Tryd.ntmps38
  go_wp2_with fail
  refine (H1.out _).mono ?_
  rintro e w1 ⟨rfl, n1, rfl⟩
  go_wp2_with fail
  refine (H2.out _).mono ?_
  rintro e w2 ⟨rfl, n2, rfl⟩
  go_wp2_with fail
  refine (H3.out _).mono ?_
  rintro e w3 ⟨rfl, n3, rfl⟩
  go_wp2_with fail
  go_ret
  unfold WdK
  rw [← HR.out]
  exact ⟨rfl, _, rfl⟩
set_option maxRecDepth 100000 in
set_option maxHeartbeats 1000000 in
theorem rlg1_any (x : UInt32) (w : World) : Calls Tryd.prog 37 #[.int .u32 x.toNat] w (WdK (lg1 x) w) := by
  have HR := Lib.hid (lg1_is x)
  have H1 := Lib.hid (fun wz => rrot_c x 6 6 rfl (by decide) (by decide) wz)
  have H2 := Lib.hid (fun wz => rrot_c x 11 11 rfl (by decide) (by decide) wz)
  have H3 := Lib.hid (fun wz => rrot_c x 25 25 rfl (by decide) (by decide) wz)
  go_enter Tryd.func37, Tryd.ntmps37
  go_wp2_with fail
  refine (H1.out _).mono ?_
  rintro e w1 ⟨rfl, n1, rfl⟩
  go_wp2_with fail
  refine (H2.out _).mono ?_
  rintro e w2 ⟨rfl, n2, rfl⟩
  go_wp2_with fail
  refine (H3.out _).mono ?_
  rintro e w3 ⟨rfl, n3, rfl⟩
  go_wp2_with fail
  go_ret
  unfold WdK
  rw [← HR.out]
  exact ⟨rfl, _, rfl⟩
end Hs
end Go.Proofs.YtakanjadcnmciaaDoor
