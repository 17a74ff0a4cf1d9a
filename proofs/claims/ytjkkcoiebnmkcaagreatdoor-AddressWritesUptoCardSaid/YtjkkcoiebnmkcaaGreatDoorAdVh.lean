/- Contract of the reference's decimal (dialtoneref02). Numbers up to 65535. -/
import Derived.Test.YtjkkcoiebnmkcaaGreatDoorAdVg
namespace Go.Proofs.YtjkkcoiebnmkcaaGreatDoor
namespace Ad
open Go.RowKit Lx

theorem decL_lt (n : Nat) (h : n < 10) : decL n = [(48 + n).toUInt8] := by rw [decL, if_pos h]
theorem decL_ge (n : Nat) (h : ¬ n < 10) : decL n = decL (n / 10) ++ [(48 + n % 10).toUInt8] := by rw [decL, if_neg h]
theorem decL_len (n : Nat) : n ≤ 65535 → (decL n).length ≤ 20 := by
  have key : ∀ k n : Nat, n < 10 ^ k → (decL n).length ≤ k + 1 := by
    intro k
    induction k with
    | zero => intro n h; rw [decL_lt n (by omega)]; simp
    | succ k ih =>
      intro n h
      by_cases h10 : n < 10
      · rw [decL_lt n h10]; simp
      · rw [decL_ge n h10, List.length_append]
        have := ih (n / 10) (by rw [Nat.pow_succ] at h; omega)
        simp; omega
  intro h
  have := key 5 n (by omega)
  omega
theorem digit_cut (d : Nat) (h : d < 10) : (⟨#[48, 49, 50, 51, 52, 53, 54, 55, 56, 57]⟩ : ByteArray).extract d (d + 1) = Txt [(48 + d).toUInt8] := by
  have : d = 0 ∨ d = 1 ∨ d = 2 ∨ d = 3 ∨ d = 4 ∨ d = 5 ∨ d = 6 ∨ d = 7 ∨ d = 8 ∨ d = 9 := by omega
  rcases this with rfl | rfl | rfl | rfl | rfl | rfl | rfl | rfl | rfl | rfl <;> rfl
set_option maxRecDepth 100000 in
set_option maxHeartbeats 8000000 in
theorem rdecimal_any (n : Nat) : n ≤ 65535 → ∀ w : World, Calls Tryz.prog 105 #[.int .i64 n] w (TxK (decL n) w) := by
  induction n using Nat.strongRecOn with
  | _ n ih =>
    intro hn w
    by_cases h : n < 10
    · have hcut := digit_cut n h
      have hD := decL_lt n h
      obtain ⟨x, hx⟩ : ∃ x : UInt8, (48 + n).toUInt8 = x := ⟨_, rfl⟩
      rw [hx] at hcut hD
      have HD := Lib.hid hD
      clear hx hD
      have h1 : (n : Int) < 10 := by omega
      go_enter Tryz.func105, Tryz.ntmps105
      go_wp2_with fail
      go_ret
      unfold TxK
      rw [HD.out]
      exact ⟨rfl, Kp.refl _ _⟩
    · have h1 : ¬ (n : Int) < 10 := by omega
      obtain ⟨q, hq⟩ : ∃ q, n / 10 = q := ⟨_, rfl⟩
      obtain ⟨d, hd⟩ : ∃ d, n % 10 = d := ⟨_, rfl⟩
      have hd10 : d < 10 := by omega
      have HD := Lib.hid (by rw [decL_ge n h, hq, hd] : decL n = decL q ++ [(48 + d).toUInt8])
      have HC := Lib.hid (ih q (by omega) (by omega))
      have hw : IntKind.i64.wrap ((n : Int) / 10) = (q : Int) := by rw [IntWalk.i64_in _ (by omega)]; omega
      have hr : (n : Int).tmod 10 = (d : Int) := by rw [Int.tmod_eq_emod_of_nonneg (by omega)]; omega
      have hcut := digit_cut d hd10
      obtain ⟨x, hx⟩ : ∃ x : UInt8, (48 + d).toUInt8 = x := ⟨_, rfl⟩
      rw [hx] at hcut HD
      clear hx
      have hl := decL_len q (by omega)
      have sQ : (Txt (decL q)).size ≤ 20 := by rw [txt_size]; exact hl
      have sD : (Txt [x]).size ≤ 1 := by rw [txt_size]; exact Nat.le_refl _
      have HcB := Lib.hid (cat_txt (decL q) [x])
      clear ih hq hd h hl
      go_enter Tryz.func105, Tryz.ntmps105
      go_wp2_with fail
      refine wp_region_grew (by kernel_rfl) (by kernel_rfl) ?_
      (go_big_quiet_step ((go_at_call 105; exact Calls.grew_of (HC.out _) (fun _ _ h => h))))
      repeat (go_big_quiet_step ((go_at_call 105; exact Calls.grew_of (HC.out _) (fun _ _ h => h))))
      refine wpQuiet_nil ?_
      intro _ hw'
      obtain ⟨nq, hw''⟩ := hw'
      subst hw''
      go_wp2_with fail
      go_ret
      unfold TxK
      rw [HD.out]
      exact ⟨congrArg (fun z => Ending.returned (.string z)) HcB.out, grew_kp _ _⟩
end Ad
end Go.Proofs.YtjkkcoiebnmkcaaGreatDoor
