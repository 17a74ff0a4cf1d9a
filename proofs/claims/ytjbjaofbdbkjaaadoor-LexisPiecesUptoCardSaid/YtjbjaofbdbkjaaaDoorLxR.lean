/- Contracts of the functions of package dialtoneref01 that LexisTokens calls: each returns what the plain specification says and leaves memory as it was. Condition: a text has at most maxLen bytes. -/
import Derived.Test.YtjbjaofbdbkjaaaDoorLxN
namespace Go.Proofs.YtjbjaofbdbkjaaaDoor
namespace Lx
open Go.RowKit

theorem rblank_any (c : Int) (w : World) : Calls Tryd.prog 36 #[.int .u8 c] w (Ret (.bool (blankI c)) w) := by
  go_enter Tryd.func36, Tryd.ntmps36
  go_wp2
  all_goals (go_ret; exact ⟨by simp [blankI, *], rfl⟩)
theorem rctl_any (c : Int) (w : World) : Calls Tryd.prog 48 #[.int .u8 c] w (Ret (.bool (ctlI c)) w) := by
  go_enter Tryd.func48, Tryd.ntmps48
  go_wp2
  all_goals (go_ret; exact ⟨by simp [ctlI, *] <;> omega, rfl⟩)

def m9 : List UInt8 := [45, 46, 33, 37, 42, 95, 43, 39, 126]
theorem mark_m9 (c : Int) : markI c = ((m9.any fun b => (b.toNat : Int) == c) || (c == 96)) := by
  have h : ((96 : Int) == c) = (c == 96) := by rw [Bool.eq_iff_iff, beq_iff_eq, beq_iff_eq]; exact eq_comm
  have : markI c = ((m9.any fun b => (b.toNat : Int) == c) || ((96 : Int) == c)) := by simp [markI, marksL, m9, Bool.or_assoc]
  rw [this, h]
theorem tok_letter (c : Int) (h : letterI c = true ∨ digitI c = true) : tokI c = true := by
  rcases h with h | h <;> simp [tokI, h]
theorem tok_mark (c : Int) (h : letterI c = false) (h2 : digitI c = false) : tokI c = ((m9.any fun b => (b.toNat : Int) == c) || (c == 96)) := by
  unfold tokI; rw [h, h2, mark_m9]; rfl

set_option maxRecDepth 100000 in
set_option maxHeartbeats 1000000 in
theorem rtok_any (c : Int) (w : World) : Calls Tryd.prog 42 #[.int .u8 c] w (Ret (.bool (tokI c)) w) := by
  by_cases hA : 65 ≤ c ∧ c ≤ 90
  · obtain ⟨a1, a2⟩ := hA
    have HT := Lib.hid (tok_letter c (.inl (by simp [letterI, a1, a2])))
    go_enter Tryd.func42, Tryd.ntmps42
    go_wp2
    all_goals (go_ret; exact ⟨ret_bool HT.out.symm, rfl⟩)
  by_cases hB : 97 ≤ c ∧ c ≤ 122
  · obtain ⟨a1, a2⟩ := hB
    have HT := Lib.hid (tok_letter c (.inl (by simp [letterI, a1, a2])))
    have a3 : 90 < c := by omega
    clear hA
    go_enter Tryd.func42, Tryd.ntmps42
    go_wp2
    all_goals (go_ret; exact ⟨ret_bool HT.out.symm, rfl⟩)
  by_cases hC : 48 ≤ c ∧ c ≤ 57
  · obtain ⟨a1, a2⟩ := hC
    have HT := Lib.hid (tok_letter c (.inr (by simp [digitI, a1, a2])))
    have a3 : c < 65 := by omega
    clear hA hB
    go_enter Tryd.func42, Tryd.ntmps42
    go_wp2
    all_goals (go_ret; exact ⟨ret_bool HT.out.symm, rfl⟩)
  have hl : letterI c = false := by
    rw [Bool.eq_false_iff]; simp only [letterI, ne_eq, Bool.or_eq_true, Bool.and_eq_true, decide_eq_true_eq]; omega
  have hd : digitI c = false := by
    rw [Bool.eq_false_iff]; simp only [digitI, ne_eq, Bool.and_eq_true, decide_eq_true_eq]; omega
  have HT := Lib.hid (tok_mark c hl hd)
  have h4 : (c < 48 ∧ c < 65) ∨ (57 < c ∧ c < 65) ∨ (90 < c ∧ c < 97) ∨ (122 < c ∧ 90 < c) := by omega
  clear hA hB hC hl hd
  obtain ⟨ms, hms⟩ : ∃ ms : ByteArray, (⟨#[45, 46, 33, 37, 42, 95, 43, 39, 126]⟩ : ByteArray) = ms := ⟨_, rfl⟩
  have hsz : ms.size = 9 := by rw [← hms]; rfl
  have hs1 : ms.size ≤ 9 := by omega
  have hs2 : 9 ≤ ms.size := by omega
  have HL := Lib.hid (by rw [← hms]; rfl : ms.data.toList = m9)
  have HM := Lib.hid hms
  clear hsz hms
  rcases h4 with ⟨a1, a2⟩ | ⟨a1, a2⟩ | ⟨a1, a2⟩ | ⟨a1, a2⟩
  all_goals
    go_enter Tryd.func42, Tryd.ntmps42
    go_wp2_with fail
    rw [HM.out]
    go_loop [4] (fun i => ∃ k : Nat, k ≤ ms.size ∧ i = .int .i64 k ∧ ((ms.data.toList.take k).any fun b => (b.toNat : Int) == c) = false) (fun i => ms.size - (intOf i).toNat)
    case atStart => exact ⟨0, by omega, rfl, rfl⟩
    case round =>
      obtain ⟨k, hk, rfl, he⟩ := hrel
      have He := Lib.hid he
      clear he
      by_cases hlt : k < ms.size
      · have HS := Lib.hid (by rw [take_snoc ms k hlt, List.any_append, He.out]; simp : ((ms.data.toList.take (k + 1)).any fun b => (b.toNat : Int) == c) = ((ms[k].toNat : Int) == c))
        cases hb : ((ms[k].toNat : Int) == c)
        · go_wp2_with fail
          go_round
          case rel => exact ⟨k + 1, by omega, by go_num, by rw [HS.out]; exact hb⟩
          case measure => simp [intOf]; omega
        · have HF := Lib.hid (by
            rw [HT.out, ← HL.out]
            have h1 : ((ms.data.toList.take (k + 1)).any fun b => (b.toNat : Int) == c) = true := by rw [HS.out]; exact hb
            have h2 : (ms.data.toList.any fun b => (b.toNat : Int) == c) = true := by
              rw [List.any_eq_true] at h1 ⊢
              obtain ⟨x, hx, hp⟩ := h1
              exact ⟨x, List.mem_of_mem_take hx, hp⟩
            rw [h2]; rfl : tokI c = true)
          go_wp2_with fail
          go_ret
          exact ⟨ret_bool HF.out.symm, rfl⟩
      · have HF := Lib.hid (by
          rw [HT.out, ← HL.out]
          have h1 := He.out
          rw [List.take_of_length_le (by rw [len_list]; omega)] at h1
          rw [h1, Bool.false_or] : tokI c = (c == 96))
        go_wp2_with fail
        go_ret
        exact ⟨ret_bool HF.out.symm, rfl⟩

set_option maxRecDepth 100000 in
set_option maxHeartbeats 400000 in
theorem rtokenEnd_any (s : ByteArray) (i : Int) (w : World) (hs : s.size ≤ maxLen) :
    Calls Tryd.prog 19 #[.string s, .int .i64 i] w (Ret (.int .i64 (bhd tokI s (min i.toNat s.size) : Nat)) w) := by
  unfold maxLen at hs
  go_enter Tryd.func19, Tryd.ntmps19
  go_wp2
  all_goals
    go_loop [5] (fun i' => ∃ k : Nat, k ≤ s.size ∧ i' = .int .i64 k ∧ bhd tokI s k = bhd tokI s (min i.toNat s.size)) (fun i' => s.size - (intOf i').toNat)
    case atStart => exact ⟨min i.toNat s.size, by omega, by first | (congr 1; omega) | (congr 1; simp; omega), rfl⟩
    case round =>
      obtain ⟨k, hk, rfl, he⟩ := hrel
      have He := Lib.hid he
      clear he
      by_cases hlt : k < s.size
      · cases hb : tokI s[k].toNat
        · have H1 := Lib.hid (bhd_no tokI s k hlt hb)
          have H2 := Lib.hid hb
          clear hb
          go_wp2_with fail
          refine (rtok_any _ _).mono ?_
          rintro e w' ⟨rfl, rfl⟩
          rw [H2.out]
          go_wp2_with fail
          go_ret
          exact ⟨ret_int (by rw [← He.out, H1.out]), rfl⟩
        · have H1 := Lib.hid (bhd_yes tokI s k hlt hb)
          have H2 := Lib.hid hb
          clear hb
          go_wp2_with fail
          refine (rtok_any _ _).mono ?_
          rintro e w' ⟨rfl, rfl⟩
          rw [H2.out]
          go_wp2_with fail
          go_round
          case rel => exact ⟨k + 1, by omega, by go_num, by rw [← H1.out, He.out]⟩
          case measure => simp [intOf]; omega
      · have H1 := Lib.hid (bhd_end tokI s k (by omega))
        go_wp2
        go_ret
        exact ⟨ret_int (by rw [← He.out, H1.out]), rfl⟩

set_option maxRecDepth 100000 in
set_option maxHeartbeats 400000 in
theorem rblanks_any (s : ByteArray) (i : Int) (w : World) (hs : s.size ≤ maxLen) :
    Calls Tryd.prog 21 #[.string s, .int .i64 i] w (Ret (.int .i64 (bhd blankI s (min i.toNat s.size) : Nat)) w) := by
  unfold maxLen at hs
  go_enter Tryd.func21, Tryd.ntmps21
  go_wp2
  all_goals
    go_loop [5] (fun i' => ∃ k : Nat, k ≤ s.size ∧ i' = .int .i64 k ∧ bhd blankI s k = bhd blankI s (min i.toNat s.size)) (fun i' => s.size - (intOf i').toNat)
    case atStart => exact ⟨min i.toNat s.size, by omega, by first | (congr 1; omega) | (congr 1; simp; omega), rfl⟩
    case round =>
      obtain ⟨k, hk, rfl, he⟩ := hrel
      have He := Lib.hid he
      clear he
      by_cases hlt : k < s.size
      · cases hb : blankI s[k].toNat
        · have H1 := Lib.hid (bhd_no blankI s k hlt hb)
          have H2 := Lib.hid hb
          clear hb
          go_wp2_with fail
          refine (rblank_any _ _).mono ?_
          rintro e w' ⟨rfl, rfl⟩
          rw [H2.out]
          go_wp2_with fail
          go_ret
          exact ⟨ret_int (by rw [← He.out, H1.out]), rfl⟩
        · have H1 := Lib.hid (bhd_yes blankI s k hlt hb)
          have H2 := Lib.hid hb
          clear hb
          go_wp2_with fail
          refine (rblank_any _ _).mono ?_
          rintro e w' ⟨rfl, rfl⟩
          rw [H2.out]
          go_wp2_with fail
          go_round
          case rel => exact ⟨k + 1, by omega, by go_num, by rw [← H1.out, He.out]⟩
          case measure => simp [intOf]; omega
      · have H1 := Lib.hid (bhd_end blankI s k (by omega))
        go_wp2
        go_ret
        exact ⟨ret_int (by rw [← He.out, H1.out]), rfl⟩

set_option maxRecDepth 100000 in
theorem rtoken_any (s : ByteArray) (w : World) (hs : s.size ≤ maxLen) :
    Calls Tryd.prog 17 #[.string s] w (Ret (.bool (tokenB s)) w) := by
  by_cases h1 : 1 ≤ s.size
  · have he := isEmpty_no s h1
    have hn := toList_ne s h1
    have Hs := Lib.hid hs
    have H1 := Lib.hid h1
    clear hs h1
    go_enter Tryd.func17, Tryd.ntmps17
    go_wp2_with fail
    refine (rtokenEnd_any _ _ _ Hs.out).mono ?_
    rintro e w' ⟨rfl, rfl⟩
    rw [bhd_zero]
    go_wp2_with fail
    go_ret
    exact ⟨ret_bool (by rw [cast_beq]; simp [tokenB, H1.out]), rfl⟩
  · have he := isEmpty_yes s h1
    have hn := toList_nil s h1
    have Hs := Lib.hid hs
    have H1 := Lib.hid h1
    clear hs h1
    go_enter Tryd.func17, Tryd.ntmps17
    go_wp2_with fail
    go_ret
    exact ⟨ret_bool (by simp [tokenB]; intro h; exact absurd h H1.out), rfl⟩

theorem valL_ten (l : List UInt8) (h : allD l = true) (hl : l.length ≤ 10) : 0 ≤ valL l ∧ valL l ≤ 9999999999 := by
  have h1 := valL_bd l h
  have h2 : (10 : Int) ^ l.length ≤ 10 ^ 10 := by
    have := Nat.pow_le_pow_right (n := 10) (by omega) hl
    exact_mod_cast this
  have h3 : (10 : Int) ^ 10 = 10000000000 := by decide
  omega

set_option maxRecDepth 100000 in
set_option maxHeartbeats 1000000 in
theorem rnumber_any (s : ByteArray) (w : World) (hs : s.size ≤ maxLen) :
    Calls Tryd.prog 15 #[.string s] w (Ret (.tuple #[.int .i64 (numN s.data.toList), .int .u8 (numE s.data.toList)]) w) := by
  have hL := len_list s
  have HL := Lib.hid hL
  clear hL
  unfold maxLen at hs
  go_enter Tryd.func15, Tryd.ntmps15
  go_wp2_with fail
  go_loop [4, 5] (fun n i => ∃ k : Nat, k ≤ s.size ∧ k ≤ 10 ∧ i = .int .i64 k ∧ allD (s.data.toList.take k) = true ∧ n = .int .i64 (valL (s.data.toList.take k))) (fun _ i => s.size - (intOf i).toNat)
  case atStart => exact ⟨0, by omega, by omega, rfl, rfl, rfl⟩
  case round =>
    obtain ⟨k, hk, hk10, rfl, hall, rfl⟩ := hrel
    have Hall := Lib.hid hall
    have hvt := valL_ten (s.data.toList.take k) hall (by simp; omega)
    clear hall
    by_cases hlt : k < s.size
    · by_cases hd : 48 ≤ (s[k].toNat : Int) ∧ (s[k].toNat : Int) ≤ 57
      · obtain ⟨d1, d2⟩ := hd
        by_cases h10 : 10 ≤ k
        · have Hb := Lib.hid (num_bad s.data.toList (by rw [HL.out]; omega))
          go_wp2_with fail
          go_ret2
          exact ⟨ret_ii Hb.out.1.symm Hb.out.2.symm, rfl⟩
        · have hv := valL_small (s.data.toList.take k) Hall.out (by simp; omega)
          have hsn := Lib.hid (by rw [take_snoc s k hlt, valL_snoc] : valL (s.data.toList.take (k + 1)) = valL (s.data.toList.take k) * 10 + ((s[k].toNat : Int) - 48))
          have hsa := Lib.hid (by rw [take_snoc s k hlt, allD_snoc, Hall.out]; simp [digitI, d1, d2] : allD (s.data.toList.take (k + 1)) = true)
          clear hvt
          go_wp2_with fail
          go_round
          case rel => exact ⟨k + 1, by omega, by omega, by go_num, hsa.out, by rw [hsn.out, Int.mul_comm]⟩
          case measure => simp [intOf]; omega
      · have hf : allD (s.data.toList.take (k + 1)) = false := by
          rw [take_snoc s k hlt, allD_snoc, Hall.out, Bool.true_and, Bool.eq_false_iff]
          simp only [digitI, ne_eq, Bool.and_eq_true, decide_eq_true_eq]; exact hd
        have Hb := Lib.hid (num_bad s.data.toList (.inr (.inr (allD_take_false _ _ hf))))
        clear hf
        rcases Int.lt_or_le (s[k].toNat : Int) 48 with d | d
        · go_wp2_with fail
          go_ret2
          exact ⟨ret_ii Hb.out.1.symm Hb.out.2.symm, rfl⟩
        · have d' : 57 < (s[k].toNat : Int) := by omega
          go_wp2_with fail
          go_ret2
          exact ⟨ret_ii Hb.out.1.symm Hb.out.2.symm, rfl⟩
    · have htk := Lib.hid (List.take_of_length_le (by rw [HL.out]; omega) : s.data.toList.take k = s.data.toList)
      by_cases h1 : 1 ≤ s.size
      · have he := isEmpty_no s h1
        have hn := toList_ne s h1
        by_cases hbig : 2147483647 < valL (s.data.toList.take k)
        · have Hb := Lib.hid (num_big s.data.toList (by rw [HL.out]; omega) (by rw [HL.out]; omega) (by rw [← htk.out]; exact Hall.out) (by rw [← htk.out]; exact hbig))
          go_wp2_with fail
          go_ret2
          exact ⟨ret_ii Hb.out.1.symm Hb.out.2.symm, rfl⟩
        · have Hb := Lib.hid (num_ok s.data.toList (by rw [HL.out]; omega) (by rw [HL.out]; omega) (by rw [← htk.out]; exact Hall.out) (by rw [← htk.out]; omega))
          have hle : valL (s.data.toList.take k) ≤ 2147483647 := by omega
          clear hbig
          go_wp2_with fail
          go_ret2
          exact ⟨ret_ii (by rw [Hb.out.1, htk.out]) Hb.out.2.symm, rfl⟩
      · have he := isEmpty_yes s h1
        have hn := toList_nil s h1
        have Hb := Lib.hid (num_bad s.data.toList (by rw [HL.out]; omega))
        go_wp2_with fail
        go_ret2
        exact ⟨ret_ii Hb.out.1.symm Hb.out.2.symm, rfl⟩
end Lx
end Go.Proofs.YtjbjaofbdbkjaaaDoor
