/- Contracts of Number of package lexis: it returns what the plain specification says and leaves memory as it was. Condition: a text has at most maxLen bytes. -/
import Derived.Test.YtjbjaofbdbkjaaaDoorLxA
namespace Go.Proofs.YtjbjaofbdbkjaaaDoor
namespace Lx
open Go.RowKit

theorem runL_digits (s : ByteArray) : bhd digitI s (min (0 : Int).toNat s.size) = s.size ↔ allD s.data.toList = true := by
  rw [bhd_zero, ← runL_all, len_list]; simp [bhd]
theorem allD_take (l : List UInt8) (k : Nat) (h : allD l = true) : allD (l.take k) = true := by
  simp only [allD, List.all_eq_true] at h ⊢
  intro x hx; exact h x (List.mem_of_mem_take hx)
theorem allD_at (s : ByteArray) (h : allD s.data.toList = true) (k : Nat) (hk : k < s.size) : 48 ≤ (s[k].toNat : Int) ∧ (s[k].toNat : Int) ≤ 57 := by
  simp only [allD, List.all_eq_true] at h
  have : s[k] ∈ s.data.toList := Array.getElem_mem_toList (xs := s.data) hk
  have := h _ this
  simpa [digitI] using this

set_option maxRecDepth 100000 in
set_option maxHeartbeats 400000 in
theorem number_any (s : ByteArray) (w : World) (hs : s.size ≤ maxLen) :
    Calls Tryd.prog 14 #[.string s] w (Ret (.tuple #[.int .i64 (numN s.data.toList), .int .u8 (numE s.data.toList)]) w) := by
  have hL := len_list s
  by_cases h1 : s.size < 1
  · have hb := num_bad s.data.toList (by omega)
    have Hb := Lib.hid hb
    clear hb hL
    unfold maxLen at hs
    go_enter Tryd.func14, Tryd.ntmps14
    go_wp2_with fail
    go_ret2
    exact ⟨ret_ii Hb.out.1.symm Hb.out.2.symm, rfl⟩
  by_cases h2 : 10 < s.size
  · have hb := num_bad s.data.toList (by omega)
    have Hb := Lib.hid hb
    clear hb hL
    unfold maxLen at hs
    go_enter Tryd.func14, Tryd.ntmps14
    go_wp2_with fail
    go_ret2
    exact ⟨ret_ii Hb.out.1.symm Hb.out.2.symm, rfl⟩
  have hle := bhd_le digitI s (min (0 : Int).toNat s.size) (by omega)
  cases h3 : allD s.data.toList
  · have hb := num_bad s.data.toList (by simp [h3])
    have Hb := Lib.hid hb
    have hlt : bhd digitI s (min (0 : Int).toNat s.size) < s.size := by
      have := runL_digits s
      rw [h3] at this
      have : ¬ bhd digitI s (min (0 : Int).toNat s.size) = s.size := fun h => by have := this.1 h; cases this
      omega
    generalize hB : bhd digitI s (min (0 : Int).toNat s.size) = B at hlt hle
    have HB := Lib.hid hB
    have Hs := Lib.hid hs
    clear hb hL hB h3
    unfold maxLen at hs
    go_enter Tryd.func14, Tryd.ntmps14
    go_wp2_with fail
    refine (behind_any _ _ digitFn _ _ _ Hs.out).mono ?_
    rintro e w' ⟨rfl, rfl⟩
    rw [HB.out]
    go_wp2_with fail
    go_ret2
    exact ⟨ret_ii Hb.out.1.symm Hb.out.2.symm, rfl⟩
  · have hEq : bhd digitI s (min (0 : Int).toNat s.size) = s.size := (runL_digits s).2 h3
    have HE := Lib.hid hEq
    have H3 := Lib.hid h3
    have HL := Lib.hid hL
    have Hs := Lib.hid hs
    clear hL hEq h3 hle
    unfold maxLen at hs
    go_enter Tryd.func14, Tryd.ntmps14
    go_wp2_with fail
    refine (behind_any _ _ digitFn _ _ _ Hs.out).mono ?_
    rintro e w' ⟨rfl, rfl⟩
    rw [HE.out]
    go_wp2_with fail
    go_loop [4, 5, 23] (fun n _ i => ∃ k : Nat, k ≤ s.size ∧ i = .int .i64 k ∧ n = .int .i64 (valL (s.data.toList.take k))) (fun _ _ i => s.size - (intOf i).toNat)
    case atStart => exact ⟨0, by omega, rfl, rfl⟩
    case round =>
      obtain ⟨k, hk, rfl, rfl⟩ := hrel
      by_cases hlt : k < s.size
      · have hd := allD_at s H3.out k hlt
        have hv := valL_small (s.data.toList.take k) (allD_take _ _ H3.out) (by simp; omega)
        have hsn := Lib.hid (by rw [take_snoc s k hlt, valL_snoc] : valL (s.data.toList.take (k + 1)) = valL (s.data.toList.take k) * 10 + ((s[k].toNat : Int) - 48))
        go_wp2_with fail
        go_round
        case rel => exact ⟨k + 1, by omega, by go_num, by rw [hsn.out]⟩
        case measure => simp [intOf]; omega
      · obtain rfl : k = s.size := by omega
        have htk := Lib.hid (by rw [List.take_of_length_le (by rw [HL.out]; exact Nat.le_refl _)] : valL (s.data.toList.take s.size) = valL s.data.toList)
        by_cases hbig : 2147483647 < valL (s.data.toList.take s.size)
        · have Hb := Lib.hid (num_big s.data.toList (by rw [HL.out]; omega) (by rw [HL.out]; omega) H3.out (by rw [← htk.out]; exact hbig))
          go_wp2_with fail
          go_ret2
          exact ⟨ret_ii Hb.out.1.symm Hb.out.2.symm, rfl⟩
        · have Hb := Lib.hid (num_ok s.data.toList (by rw [HL.out]; omega) (by rw [HL.out]; omega) H3.out (by rw [← htk.out]; omega))
          go_wp2_with fail
          go_ret2
          exact ⟨ret_ii (by rw [Hb.out.1, htk.out]) Hb.out.2.symm, rfl⟩
end Lx
end Go.Proofs.YtjbjaofbdbkjaaaDoor
