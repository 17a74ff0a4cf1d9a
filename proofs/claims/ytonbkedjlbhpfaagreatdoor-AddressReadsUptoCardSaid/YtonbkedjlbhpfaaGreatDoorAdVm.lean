/- Contract of the reference's index (dialtoneref02). A text has at most 2^21 bytes. -/
import Derived.Test.YtonbkedjlbhpfaaGreatDoorAdVb
namespace Go.Proofs.YtonbkedjlbhpfaaGreatDoor
namespace Ad
open Go.RowKit Lx

/-- The offset of the first byte c from an offset on; -1: there is none. -/
def idxI (l : List UInt8) (i : Nat) (c : Int) : Int := if endP (· == c) l i < l.length then (endP (· == c) l i : Nat) else -1
set_option maxRecDepth 100000 in
set_option maxHeartbeats 1000000 in
theorem rindex_any (s : ByteArray) (i : Nat) (c : Int) (w : World) (hi : i ≤ s.size) (hs : s.size ≤ 2097152) :
    Calls Tryz.prog 82 #[.string s, .int .i64 i, .int .u8 c] w (InK (idxI s.data.toList i c) w) := by
  obtain ⟨n, hn⟩ : ∃ n, idxI s.data.toList i c = n := ⟨_, rfl⟩
  have Hn := Lib.hid hn
  rw [hn]
  clear hn
  go_enter Tryz.func82, Tryz.ntmps82
  go_wp2_with fail
  go_loop [7] (fun k => ∃ j : Nat, j ≤ s.size ∧ k = .int .i64 j ∧ idxI s.data.toList j c = n) (fun k => s.size - (intOf k).toNat)
  case atStart => exact ⟨i, hi, rfl, Hn.out⟩
  case round =>
    obtain ⟨j, hj, rfl, he⟩ := hrel
    have He := Lib.hid he
    clear he
    by_cases hjs : j < s.size
    · obtain ⟨x, hx⟩ : ∃ x : Int, (s[j].toNat : Int) = x := ⟨_, rfl⟩
      cases hpc : (x == c)
      · have HN := Lib.hid (by
          have h := He.out
          unfold idxI at h ⊢
          rw [endP_next (· == c) s j hjs (by rw [hx]; exact hpc)] at h
          exact h : idxI s.data.toList (j + 1) c = n)
        have hpc2 : ((s[j].toNat : Int) == c) = false := by rw [hx]; exact hpc
        clear hpc hx
        go_wp2_with fail
        go_round
        case rel => exact ⟨j + 1, by omega, by go_num, HN.out⟩
        case measure => simp [intOf]; omega
      · have HN := Lib.hid (by
          have h := He.out
          unfold idxI at h
          rw [endP_at_k (· == c) s j hjs (by rw [hx]; exact hpc), if_pos (by rw [len_list]; exact hjs)] at h
          exact h : (j : Int) = n)
        have hpc2 : ((s[j].toNat : Int) == c) = true := by rw [hx]; exact hpc
        clear hpc hx
        go_wp2_with fail
        go_ret
        exact ⟨ret_int HN.out, Kp.refl _ _⟩
    · have HN := Lib.hid (by
        have h := He.out
        unfold idxI at h
        rw [endP_out (· == c) s j (by omega), if_neg (by rw [len_list]; omega)] at h
        exact h : (-1 : Int) = n)
      go_wp2_with fail
      go_ret
      exact ⟨ret_int HN.out, Kp.refl _ _⟩
end Ad
end Go.Proofs.YtonbkedjlbhpfaaGreatDoor
