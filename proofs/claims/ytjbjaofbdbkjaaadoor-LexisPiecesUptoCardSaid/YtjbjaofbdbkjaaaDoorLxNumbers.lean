/- LexisNumbers of package dialtonelaw01 returns true for every number and count of zeros; nothing that lay before has turned. Condition: bytealg.MaxLen holds an int. -/
import Derived.Test.YtjbjaofbdbkjaaaDoorLxAwake
import Derived.ShutString
namespace Go.Proofs.YtjbjaofbdbkjaaaDoor
namespace Lx
open Go.RowKit

/-- The decimal digits of a number. -/
def digL (n : Nat) : List UInt8 := if n < 10 then [(48 + n).toUInt8] else digL (n / 10) ++ [(48 + n % 10).toUInt8]
termination_by n
decreasing_by omega
theorem digL_one (n : Nat) (h : n < 10) : digL n = [(48 + n).toUInt8] := by rw [digL, if_pos h]
theorem digL_more (n : Nat) (h : ¬ n < 10) : digL n = digL (n / 10) ++ [(48 + n % 10).toUInt8] := by rw [digL, if_neg h]
theorem dig_nat (d : Nat) (h : d < 10) : ((48 + d).toUInt8).toNat = 48 + d := by
  simp only [Nat.toUInt8, UInt8.toNat_ofNat']; omega
theorem digL_spec (k : Nat) : ∀ n, n ≤ k → allD (digL n) = true ∧ valL (digL n) = n ∧ 1 ≤ (digL n).length ∧ (∀ e, 1 ≤ e → n < 10 ^ e → (digL n).length ≤ e) := by
  induction k using Nat.strongRecOn with
  | ind k ih =>
    intro n hn
    by_cases h : n < 10
    · have hd := dig_nat n h
      rw [digL_one n h]
      refine ⟨by simp only [allD, List.all_cons, List.all_nil, digitI, hd]; simp; omega, by simp only [valL, List.foldl_cons, List.foldl_nil, hd]; omega, by simp, fun e he _ => by simp; omega⟩
    · have hd := dig_nat (n % 10) (Nat.mod_lt _ (by omega))
      obtain ⟨h1, h2, h3, h4⟩ := ih (n / 10) (by omega) (n / 10) (Nat.le_refl _)
      rw [digL_more n h]
      refine ⟨?_, ?_, by simp, fun e he hlt => ?_⟩
      · rw [allD_snoc, h1]; simp only [digitI, hd]; simp; omega
      · rw [valL_snoc, h2, hd]; omega
      · cases e with
        | zero => omega
        | succ e =>
          by_cases he0 : e = 0
          · subst he0; simp at hlt; omega
          · have := h4 e (by omega) (by
              rw [Nat.pow_succ] at hlt
              omega)
            simp; omega
theorem dig_tab (n : Nat) (h : n < 10) : (⟨#[48, 49, 50, 51, 52, 53, 54, 55, 56, 57]⟩ : ByteArray).extract n (n + 1) = ⟨(digL n).toArray⟩ := by
  rw [digL_one n h]
  have : n = 0 ∨ n = 1 ∨ n = 2 ∨ n = 3 ∨ n = 4 ∨ n = 5 ∨ n = 6 ∨ n = 7 ∨ n = 8 ∨ n = 9 := by omega
  rcases this with rfl | rfl | rfl | rfl | rfl | rfl | rfl | rfl | rfl | rfl <;> decide +kernel
theorem cat_mk (a b : List UInt8) : (⟨a.toArray⟩ : ByteArray) ++ (⟨b.toArray⟩ : ByteArray) = ⟨(a ++ b).toArray⟩ := by
  apply ByteArray.ext
  simp

set_option maxRecDepth 100000 in
set_option maxHeartbeats 400000 in
theorem digits_any (k : Nat) : ∀ (n : Nat) (w : World), n ≤ k → n ≤ 4294967296 → Calls Tryd.prog 38 #[.int .i64 n] w (Ret (.string ⟨(digL n).toArray⟩) w) := by
  induction k using Nat.strongRecOn with
  | ind k ih =>
    intro n w hn hb
    by_cases h : n < 10
    · have HT := Lib.hid (dig_tab n h)
      clear ih
      go_enter Tryd.func38, Tryd.ntmps38
      go_wp2_with fail
      go_ret
      exact ⟨by rw [← HT.out]; rfl, rfl⟩
    · have H1 := Lib.hid (by have := ih (n / 10) (by omega) (n / 10) w (Nat.le_refl _) (by omega); rw [show ((n / 10 : Nat) : Int) = (n : Int) / 10 from by omega] at this; exact this : Calls Tryd.prog 38 #[.int .i64 ((n : Int) / 10)] w (Ret (.string ⟨(digL (n / 10)).toArray⟩) w))
      have H2 := Lib.hid (by have := ih (n % 10) (by omega) (n % 10) w (Nat.le_refl _) (by omega); rw [show ((n % 10 : Nat) : Int) = (n : Int) % 10 from by omega] at this; exact this : Calls Tryd.prog 38 #[.int .i64 ((n : Int) % 10)] w (Ret (.string ⟨(digL (n % 10)).toArray⟩) w))
      have hl1 := (digL_spec _ (n / 10) (Nat.le_refl _)).2.2.2 10 (by omega) (by omega)
      have hl2 := (digL_spec _ (n % 10) (Nat.le_refl _)).2.2.2 10 (by omega) (by omega)
      have HD := Lib.hid (by rw [digL_more n h, ← digL_one (n % 10) (Nat.mod_lt _ (by omega))] : digL n = digL (n / 10) ++ digL (n % 10))
      clear ih
      go_enter Tryd.func38, Tryd.ntmps38
      go_wp2_with fail
      refine H1.out.mono ?_
      rintro e w' ⟨rfl, rfl⟩
      go_wp2_with fail
      refine H2.out.mono ?_
      rintro e w' ⟨rfl, rfl⟩
      go_wp2_with fail
      go_ret
      exact ⟨by rw [HD.out, ← cat_mk]; rfl, rfl⟩

theorem rep_spec (k n : Nat) : allD (List.replicate k 48 ++ digL n) = true ∧ valL (List.replicate k 48 ++ digL n) = n ∧ (List.replicate k 48 ++ digL n).length = k + (digL n).length := by
  obtain ⟨h1, h2, _, _⟩ := digL_spec n n (Nat.le_refl _)
  refine ⟨?_, ?_, by simp⟩
  · simp only [allD, List.all_append] at h1 ⊢
    rw [h1, Bool.and_true]
    simp [digitI]
  · induction k with
    | zero => simpa using h2
    | succ k ih =>
      rw [List.replicate_succ, List.cons_append]
      have : ∀ l : List UInt8, valL (48 :: l) = valL l := by intro l; simp [valL]
      rw [this]; exact ih
theorem u32_lo {x : Int} (h : (Lit.int .u32 x).wf = true) : 0 ≤ x := by
  have : 0 ≤ x ∧ x ≤ 4294967295 := by simpa [Lit.wf, IntKind.min, IntKind.max, IntKind.signed, IntKind.bits] using h
  exact this.1
theorem u32_hi {x : Int} (h : (Lit.int .u32 x).wf = true) : x ≤ 4294967295 := by
  have : 0 ≤ x ∧ x ≤ 4294967295 := by simpa [Lit.wf, IntKind.min, IntKind.max, IntKind.signed, IntKind.bits] using h
  exact this.2
theorem u8_lo {x : Int} (h : (Lit.int .u8 x).wf = true) : 0 ≤ x := by
  have : 0 ≤ x ∧ x ≤ 255 := by simpa [Lit.wf, IntKind.min, IntKind.max, IntKind.signed, IntKind.bits] using h
  exact this.1
theorem u8_hi {x : Int} (h : (Lit.int .u8 x).wf = true) : x ≤ 255 := by
  have : 0 ≤ x ∧ x ≤ 255 := by simpa [Lit.wf, IntKind.min, IntKind.max, IntKind.signed, IntKind.bits] using h
  exact this.2
theorem cons_mk (l : List UInt8) : (⟨#[48]⟩ : ByteArray) ++ (⟨l.toArray⟩ : ByteArray) = ⟨(48 :: l).toArray⟩ := cat_mk [48] l

set_option maxRecDepth 100000 in
set_option maxHeartbeats 2000000 in
theorem numbers_law (v z m : Int) (w : World) (hv0 : 0 ≤ v) (hv1 : v ≤ 4294967295) (hz0 : 0 ≤ z) (hz1 : z ≤ 255) (hm : w.cell? ⟨0, 0, none⟩ = some (.int .i64 m)) :
    Calls Tryd.prog 12 #[.int .u32 v, .int .u8 z] w fun e w' => e = .returned (.bool true) ∧ Below w.heap.size w w' := by
  have Hm := Lib.hid hm
  clear hm
  obtain ⟨n, rfl⟩ := Int.eq_ofNat_of_zero_le hv0
  have HL := (digL_spec n n (Nat.le_refl _)).2.2
  have hl10 := HL.2 10 (by omega) (by omega)
  have hl1 := HL.1
  clear HL
  go_enter Tryd.func12, Tryd.ntmps12
  go_wp2_with fail
  refine (digits_any n n w (Nat.le_refl _) (by omega)).mono ?_
  rintro e w' ⟨rfl, rfl⟩
  go_wp2_with fail
  go_loop [6, 7] (fun s i => ∃ k : Nat, (k : Int) ≤ z % 12 ∧ i = .int .i64 k ∧ s = .string ⟨(List.replicate k 48 ++ digL n).toArray⟩) (fun _ i => (z % 12 - intOf i).toNat)
  case atStart => exact ⟨0, by omega, rfl, rfl⟩
  case round =>
    obtain ⟨k, hk, rfl, rfl⟩ := hrel
    have hr := rep_spec k n
    have hrl := hr.2.2
    obtain ⟨l, hl⟩ : ∃ l, List.replicate k 48 ++ digL n = l := ⟨_, rfl⟩
    rw [hl] at hr hrl
    have Hl := Lib.hid hl
    have Hr := Lib.hid hr
    have hll : l.length ≤ 22 := by omega
    rw [hl]
    clear hr hl
    by_cases hlt : (k : Int) < z % 12
    · have HC := Lib.hid (by rw [List.replicate_succ, List.cons_append, Hl.out] : List.replicate (k + 1) 48 ++ digL n = 48 :: l)
      clear hrl
      go_wp2_with fail
      go_round
      case rel => exact ⟨k + 1, by omega, by go_num, by rw [HC.out]; exact congrArg Value.string (cons_mk l)⟩
      case measure => simp [intOf]; omega
    · have hge : z % 12 ≤ (k : Int) := by omega
      have Hrl := Lib.hid hrl
      clear hrl
      by_cases h10 : 10 < l.length
      · have hb := num_bad l (.inr (.inl h10))
        have Hb := Lib.hid hb
        clear hb
        go_wp2_with fail
        refine (number_any ⟨l.toArray⟩ _ (by rw [size_of_list]; unfold maxLen; omega)).mono ?_
        rintro e w' ⟨rfl, rfl⟩
        rw [show (⟨l.toArray⟩ : ByteArray).data.toList = l from rfl, Hb.out.1, Hb.out.2]
        go_wp2_with fail
        refine (awake_any m _ Hm.out).mono ?_
        rintro e w' ⟨rfl, hB⟩
        go_wp2_with fail
        go_ret
        exact ⟨rfl, hB⟩
      · have hs10 : l.length ≤ 10 := by omega
        by_cases hbig : 2147483647 < n
        · have Hb := Lib.hid (num_big l (by rw [Hrl.out]; omega) (by omega) Hr.out.1 (by rw [Hr.out.2.1]; omega))
          clear h10
          go_wp2_with fail
          refine (number_any ⟨l.toArray⟩ _ (by rw [size_of_list]; unfold maxLen; omega)).mono ?_
          rintro e w' ⟨rfl, rfl⟩
          rw [show (⟨l.toArray⟩ : ByteArray).data.toList = l from rfl, Hb.out.1, Hb.out.2]
          go_wp2_with fail
          refine (awake_any m _ Hm.out).mono ?_
          rintro e w' ⟨rfl, hB⟩
          go_wp2_with fail
          go_ret
          exact ⟨rfl, hB⟩
        · have Hb := Lib.hid (num_ok l (by rw [Hrl.out]; omega) (by omega) Hr.out.1 (by rw [Hr.out.2.1]; omega))
          have Hn := Lib.hid Hr.out.2.1
          have hle : n ≤ 2147483647 := by omega
          clear h10 hbig
          go_wp2_with fail
          refine (number_any ⟨l.toArray⟩ _ (by rw [size_of_list]; unfold maxLen; omega)).mono ?_
          rintro e w' ⟨rfl, rfl⟩
          rw [show (⟨l.toArray⟩ : ByteArray).data.toList = l from rfl, Hb.out.1, Hb.out.2, Hn.out]
          go_wp2_with fail
          refine (awake_any m _ Hm.out).mono ?_
          rintro e w' ⟨rfl, hB⟩
          go_wp2_with fail
          go_ret
          exact ⟨rfl, hB⟩
end Lx
end Go.Proofs.YtjbjaofbdbkjaaaDoor
