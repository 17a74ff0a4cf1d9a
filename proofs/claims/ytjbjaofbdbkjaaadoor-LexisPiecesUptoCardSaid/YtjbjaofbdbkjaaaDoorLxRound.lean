/- LexisRound of package dialtonelaw01 returns true for every three texts; nothing that lay before has turned. Conditions: the texts have together at most 2^21 bytes; bytealg.MaxLen holds an int. -/
import Derived.Test.YtjbjaofbdbkjaaaDoorLxAwake
import Derived.Test.YtjbjaofbdbkjaaaDoorLxNumbers
import Derived.ShutString
namespace Go.Proofs.YtjbjaofbdbkjaaaDoor
namespace Lx
open Go.RowKit

theorem esc_of_ctl (c : UInt8) (h2 : c.toNat = 34 ∨ c.toNat = 92) : escI c.toNat = true := by
  rcases h2 with h2 | h2 <;> rw [h2] <;> decide
theorem escL_cons (c : UInt8) (t : List UInt8) : escL (c :: t) = (if c.toNat = 34 ∨ c.toNat = 92 then [92, c] else [c]) ++ escL t := by simp [escL]
theorem round_spec (b : List UInt8) : ∀ (l : List UInt8) (i : Nat), hasCtl l = false → qEnd (escL l ++ [34] ++ b) i = (i + (escL l).length + 1, 0) ∧ qText (escL l ++ [34] ++ b) = l ∧ l.length ≤ (escL l).length := by
  intro l
  induction l with
  | nil =>
    intro i _
    have : escL [] ++ [34] ++ b = 34 :: b := by simp [escL]
    rw [this, qEnd_quote _ _ _ (by decide), qText_quote _ _ (by decide)]
    simp [escL]
  | cons c t ih =>
    intro i h
    simp only [hasCtl, List.any_cons, Bool.or_eq_false_iff] at h
    have hc := h.1
    have ht : hasCtl t = false := h.2
    rw [escL_cons]
    by_cases hq : c.toNat = 34 ∨ c.toNat = 92
    · rw [if_pos hq]
      obtain ⟨i1, i2, i3⟩ := ih (i + 2) ht
      have e : [92, c] ++ escL t ++ [34] ++ b = 92 :: c :: (escL t ++ [34] ++ b) := by simp
      have hs : stepS (92 :: c :: (escL t ++ [34] ++ b)) i = (i + 2, 0) := stepS_two _ _ _ _ (by decide) (by decide) (esc_of_ctl c hq)
      rw [e, qEnd_step _ _ _ (by decide) (by rw [hs]), qText_two _ _ _ (by decide), hs]
      have : i + 2 - i = 2 := by omega
      simp only [this, List.drop_succ_cons, List.drop_zero]
      rw [i1, i2]
      refine ⟨by simp; omega, rfl, by simp; omega⟩
    · rw [if_neg hq]
      obtain ⟨i1, i2, i3⟩ := ih (i + 1) ht
      have e : [c] ++ escL t ++ [34] ++ b = c :: (escL t ++ [34] ++ b) := by simp
      have hs : stepS (c :: (escL t ++ [34] ++ b)) i = (i + 1, 0) := stepS_one _ _ _ hc (by omega)
      rw [e, qEnd_step _ _ _ (by omega) (by rw [hs]), qText_one _ _ (by omega) (by omega), hs]
      have : i + 1 - i = 1 := by omega
      simp only [this, List.drop_succ_cons, List.drop_zero]
      rw [i1, i2]
      refine ⟨by simp; omega, rfl, by simp; omega⟩
/-- Unquote of what Quote returns, with anything before and behind it. -/
theorem round_uq (a l b : List UInt8) (h : hasCtl l = false) :
    uqT (a ++ quT l ++ b) a.length = l ∧ uqN (a ++ quT l ++ b) a.length = ((a.length + (quT l).length : Nat) : Int) ∧ uqE (a ++ quT l ++ b) a.length = 0 ∧ l.length + 2 ≤ (quT l).length := by
  have hq : quT l = [34] ++ escL l ++ [34] := by unfold quT; rw [h]; simp
  have hd0 : (a ++ quT l ++ b).drop a.length = 34 :: (escL l ++ [34] ++ b) := by rw [hq]; simp
  have hd1 : (a ++ quT l ++ b).drop (a.length + 1) = escL l ++ [34] ++ b := by rw [← List.drop_drop, hd0]; simp
  have ho : opE 34 (a ++ quT l ++ b) a.length = 0 := by
    unfold opE
    rw [if_neg (by rw [hq]; simp; omega), Int.toNat_natCast, hd0]; rfl
  obtain ⟨r1, r2, r3⟩ := round_spec b l (a.length + 1) h
  have hr : uqR (a ++ quT l ++ b) a.length = (a.length + 1 + (escL l).length + 1, 0) := by
    unfold uqR; rw [Int.toNat_natCast, hd1, r1]
  refine ⟨?_, ?_, ?_, by rw [hq]; simp; omega⟩
  · unfold uqT; rw [if_neg (by rw [ho, hr]; simp), Int.toNat_natCast, hd1, r2]
  · unfold uqN; rw [if_neg (by rw [ho]; simp), hr, hq]; simp; omega
  · unfold uqE; rw [if_neg (by rw [ho]; simp), hr]
theorem hasCtl_at (s : ByteArray) (k : Nat) (h : k < s.size) (hc : ctlI s[k].toNat = true) : hasCtl s.data.toList = true := by
  simp only [hasCtl, List.any_eq_true]
  exact ⟨s[k], Array.getElem_mem_toList (xs := s.data) h, hc⟩
theorem hasCtl_drop (s : ByteArray) (k : Nat) (h : k < s.size) : hasCtl (s.data.toList.drop k) = (ctlI s[k].toNat || hasCtl (s.data.toList.drop (k + 1))) := by
  rw [drop_step s k h]; rfl
theorem str_cat (a b c : List UInt8) : (⟨a.toArray⟩ : ByteArray) ++ (⟨b.toArray⟩ : ByteArray) ++ (⟨c.toArray⟩ : ByteArray) = ⟨(a ++ b ++ c).toArray⟩ := by rw [cat_mk, cat_mk]
theorem str_self (s : ByteArray) : s = ⟨s.data.toList.toArray⟩ := by cases s; simp

set_option maxRecDepth 100000 in
set_option maxHeartbeats 4000000 in
theorem round_law (a s b : ByteArray) (m : Int) (w : World) (hsz : a.size + s.size + b.size ≤ 2097152) (hm : w.cell? ⟨0, 0, none⟩ = some (.int .i64 m)) :
    Calls Tryd.prog 8 #[.string a, .string s, .string b] w fun e w' => e = .returned (.bool true) ∧ Below w.heap.size w w' := by
  have hm0 := cell_lt' hm
  have Hm := Lib.hid hm
  clear hm
  go_enter Tryd.func8, Tryd.ntmps8
  go_wp2_with fail
  refine (quote_any s _ (by omega)).mono ?_
  rintro e w1 ⟨rfl, hB1⟩
  have hs1 := hB1.size
  have Hm1 := Lib.hid ((hB1.cell (p := ⟨0, 0, none⟩) hm0).trans Hm.out)
  obtain ⟨qt, hqt⟩ : ∃ qt, quT s.data.toList = qt := ⟨_, rfl⟩
  obtain ⟨qe, hqe⟩ : ∃ qe, quE s.data.toList = qe := ⟨_, rfl⟩
  have Hqt := Lib.hid hqt
  have Hqe := Lib.hid hqe
  rw [hqt, hqe]
  clear hqt hqe
  go_wp2_with fail
  go_loop [9] (fun i => ∃ k : Nat, k ≤ s.size ∧ i = .int .i64 k ∧ hasCtl s.data.toList = hasCtl (s.data.toList.drop k)) (fun i => s.size - (intOf i).toNat)
  case atStart => exact ⟨0, by omega, rfl, rfl⟩
  case round =>
    obtain ⟨k, hk, rfl, he⟩ := hrel
    have He := Lib.hid he
    clear he
    by_cases hlt : k < s.size
    · cases hc : ctlI s[k].toNat
      · have HN := Lib.hid (by rw [He.out, hasCtl_drop s k hlt, hc]; rfl : hasCtl s.data.toList = hasCtl (s.data.toList.drop (k + 1)))
        have hcc : (32 ≤ (s[k].toNat : Int) ∧ ((s[k].toNat : Int) == 127) = false) ∨ ((s[k].toNat : Int) < 32 ∧ ((s[k].toNat : Int) != 9) = false ∧ ((s[k].toNat : Int) == 127) = false) := by
          simp only [ctlI, Bool.or_eq_false_iff, Bool.and_eq_false_iff, decide_eq_false_iff_not] at hc
          obtain ⟨h1, h2⟩ := hc
          rcases h1 with h1 | h1
          · exact .inl ⟨by omega, h2⟩
          · rcases Int.lt_or_le (s[k].toNat : Int) 32 with h | h
            · exact .inr ⟨h, h1, h2⟩
            · exact .inl ⟨h, h2⟩
        clear hc
        rcases hcc with ⟨h1, h2⟩ | ⟨h1, h2, h3⟩
        all_goals
          go_wp2_with fail
          go_round
          case rel => exact ⟨k + 1, by omega, by go_num, HN.out⟩
          case measure => simp [intOf]; omega
      · have hct := hasCtl_at s k hlt hc
        have HT := Lib.hid (by rw [← Hqt.out]; unfold quT; rw [if_pos hct] : qt = [])
        have HE := Lib.hid (by rw [← Hqe.out]; unfold quE; rw [if_pos hct] : qe = 5)
        have hcc : ((s[k].toNat : Int) < 32 ∧ ((s[k].toNat : Int) != 9) = true) ∨ (32 ≤ (s[k].toNat : Int) ∧ ((s[k].toNat : Int) == 127) = true) := by
          simp only [ctlI, Bool.or_eq_true, Bool.and_eq_true, decide_eq_true_eq] at hc
          rcases hc with ⟨h1, h2⟩ | h2
          · exact .inl ⟨h1, h2⟩
          · refine .inr ⟨?_, h2⟩
            have := beq_iff_eq.1 h2
            omega
        clear hc hct
        obtain rfl : qt = [] := HT.out
        obtain rfl : qe = 5 := HE.out
        rcases hcc with ⟨h1, h2⟩ | ⟨h1, h2⟩
        all_goals
          go_wp2_with fail
          refine (awake_any m _ Hm1.out).mono ?_
          rintro e w2 ⟨rfl, hB2⟩
          go_wp2_with fail
          go_ret
          exact ⟨rfl, hB1.trans (hB2.mono hs1)⟩
    · have hnc : hasCtl s.data.toList = false := by rw [He.out, drop_end s k (by omega)]; rfl
      obtain ⟨r1, r2, r3, r4⟩ := round_uq a.data.toList s.data.toList b.data.toList hnc
      have HE := Lib.hid (by rw [← Hqe.out]; unfold quE; rw [if_neg (by rw [hnc]; simp)] : qe = 0)
      have hel := escL_len s.data.toList
      have hql : qt.length ≤ 2 * s.size + 2 := by
        rw [← Hqt.out]; unfold quT; rw [if_neg (by rw [hnc]; simp)]
        rw [len_list] at hel
        simp; omega
      rw [Hqt.out] at r1 r2 r3 r4
      have hcat : a ++ (⟨qt.toArray⟩ : ByteArray) ++ b = ⟨(a.data.toList ++ qt ++ b.data.toList).toArray⟩ := by
        conv => lhs; rw [str_self a, str_self b]
        exact str_cat _ _ _
      rw [len_list] at r1 r2 r3 r4
      obtain rfl : qe = 0 := HE.out
      have R1 := Lib.hid r1
      have R2 := Lib.hid r2
      have R3 := Lib.hid r3
      have hcs : (⟨(a.data.toList ++ qt ++ b.data.toList).toArray⟩ : ByteArray).size ≤ 8388608 := by
        rw [size_of_list, List.length_append, List.length_append, len_list, len_list]; omega
      have HC := Lib.hid hcat
      have HCS := Lib.hid hcs
      clear hcat hcs r1 r2 r3 hnc hel
      go_wp2_with fail
      rw [HC.out]
      refine (unquote_any _ _ _ (by have := HCS.out; omega)).mono ?_
      rintro e w2 ⟨rfl, hB2⟩
      have hB12 := hB1.trans (hB2.mono hs1)
      have hs2 := hB12.size
      have Hm2 := Lib.hid ((hB12.cell (p := ⟨0, 0, none⟩) hm0).trans Hm.out)
      rw [show (⟨(a.data.toList ++ qt ++ b.data.toList).toArray⟩ : ByteArray).data.toList = a.data.toList ++ qt ++ b.data.toList from rfl, R1.out, R2.out, R3.out, ← str_self s]
      go_wp2_with fail
      refine (awake_any m _ Hm2.out).mono ?_
      rintro e w3 ⟨rfl, hB3⟩
      go_wp2_with fail
      go_ret
      exact ⟨rfl, hB12.trans (hB3.mono hs2)⟩
end Lx
end Go.Proofs.YtjbjaofbdbkjaaaDoor
