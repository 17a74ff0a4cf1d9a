/- Contracts of the reference's In (any class), hex, escape, Escape and Unescape (dialtoneref02). A text has at most 2^40 bytes. -/
import Derived.Test.YtjkkcoiebnmkcaaGreatDoorAdPl
import Derived.Test.YtjkkcoiebnmkcaaGreatDoorM2
import Derived.StillTailTactics
import Derived.Sort.CutIn
import Derived.Deep.RegionHeldLaw
import Derived.Deep.AppendLies
namespace Go.Proofs.YtjkkcoiebnmkcaaGreatDoor
namespace Ad
open Go.RowKit Lx

theorem clsL_other (k : Int) (h : ¬ (0 ≤ k ∧ k < 3)) : clsL k = [] := by
  unfold clsL
  rw [if_neg (by omega), if_neg (by omega), if_neg (by omega)]
set_option maxRecDepth 100000 in
set_option maxHeartbeats 1000000 in
theorem rin_all (k c : Int) (w : World) : Calls Tryz.prog 47 #[.int .u8 c, .int .i64 k] w (Ret (.bool (inC k c)) w) := by
  by_cases hk : 0 ≤ k ∧ k < 3
  · exact rin_any k c w hk.1 hk.2
  have q0 : (k == 0) = false := by rw [beq_eq_false_iff_ne]; omega
  have q1 : (k == 1) = false := by rw [beq_eq_false_iff_ne]; omega
  have q2 : (k == 2) = false := by rw [beq_eq_false_iff_ne]; omega
  cases hl : letterI c
  · cases hd : digitI c
    · cases he : memB everyL c
      · have Hl := Lib.hid hl
        have Hd := Lib.hid hd
        have He := Lib.hid (show memB (ByteArray.mk #[45, 95, 46, 33, 126, 42, 39, 40, 41]).data.toList c = false from he)
        have Hin := Lib.hid ((inC_mem k c hl hd he).trans (by rw [clsL_other k hk]; rfl : memB (clsL k) c = false))
        clear hl hd he hk
        go_enter Tryz.func47, Tryz.ntmps47
        go_wp2_with fail
        refine (rletter_any _ _).mono ?_
        rintro e w' ⟨rfl, rfl⟩
        rw [Hl.out]
        go_wp2_with fail
        refine (rdigit_any _ _).mono ?_
        rintro e w' ⟨rfl, rfl⟩
        rw [Hd.out]
        go_wp2_with fail
        refine (rcontains_any _ _ _ (by decide)).mono ?_
        rintro e w' ⟨rfl, rfl⟩
        rw [He.out]
        go_wp2_with fail
        go_ret
        rw [Hin.out]
        exact ⟨rfl, rfl⟩
      · have Hl := Lib.hid hl
        have Hd := Lib.hid hd
        have He := Lib.hid (show memB (ByteArray.mk #[45, 95, 46, 33, 126, 42, 39, 40, 41]).data.toList c = true from he)
        have Hin := Lib.hid (inC_of k c (.inr (.inr he)))
        clear hl hd he hk
        go_enter Tryz.func47, Tryz.ntmps47
        go_wp2_with fail
        refine (rletter_any _ _).mono ?_
        rintro e w' ⟨rfl, rfl⟩
        rw [Hl.out]
        go_wp2_with fail
        refine (rdigit_any _ _).mono ?_
        rintro e w' ⟨rfl, rfl⟩
        rw [Hd.out]
        go_wp2_with fail
        refine (rcontains_any _ _ _ (by decide)).mono ?_
        rintro e w' ⟨rfl, rfl⟩
        rw [He.out]
        go_wp2_with fail
        go_ret
        rw [Hin.out]
        exact ⟨rfl, rfl⟩
    · have Hl := Lib.hid hl
      have Hd := Lib.hid hd
      have Hin := Lib.hid (inC_of k c (.inr (.inl hd)))
      clear hl hd hk
      go_enter Tryz.func47, Tryz.ntmps47
      go_wp2_with fail
      refine (rletter_any _ _).mono ?_
      rintro e w' ⟨rfl, rfl⟩
      rw [Hl.out]
      go_wp2_with fail
      refine (rdigit_any _ _).mono ?_
      rintro e w' ⟨rfl, rfl⟩
      rw [Hd.out]
      go_wp2_with fail
      go_ret
      rw [Hin.out]
      exact ⟨rfl, rfl⟩
  · have Hl := Lib.hid hl
    have Hin := Lib.hid (inC_of k c (.inl hl))
    clear hl hk
    go_enter Tryz.func47, Tryz.ntmps47
    go_wp2_with fail
    refine (rletter_any _ _).mono ?_
    rintro e w' ⟨rfl, rfl⟩
    rw [Hl.out]
    go_wp2_with fail
    go_ret
    rw [Hin.out]
    exact ⟨rfl, rfl⟩

theorem wrap_u8 (n : Nat) (h : n < 256) : IntKind.u8.wrap (n : Int) = n := by
  exact IntWalk.u8_in (n : Int) (by omega)
theorem hex_tabQ (n : Nat) (hn : n < 256) (h : ((n : Int) / 16).toNat < 16) : (⟨#[48, 49, 50, 51, 52, 53, 54, 55, 56, 57, 65, 66, 67, 68, 69, 70]⟩ : ByteArray)[((n : Int) / 16).toNat]'h = hexD (n / 16) := by
  have e : ((n : Int) / 16).toNat = n / 16 := by omega
  have := hex_tab (n / 16) (by omega)
  simpa only [e] using this
theorem hex_tabR (n : Nat) (h : ((n : Int) % 16).toNat < 16) : (⟨#[48, 49, 50, 51, 52, 53, 54, 55, 56, 57, 65, 66, 67, 68, 69, 70]⟩ : ByteArray)[((n : Int) % 16).toNat]'h = hexD (n % 16) := by
  have e : ((n : Int) % 16).toNat = n % 16 := by omega
  have := hex_tab (n % 16) (by omega)
  simpa only [e] using this
theorem ret_i' {k : IntKind} {a b : Int} (h : a = b) : Ending.returned (.int k a) = .returned (.int k b) := by rw [h]
set_option maxRecDepth 100000 in
set_option maxHeartbeats 1000000 in
theorem rhex_any (c : Int) (w : World) (h0 : 0 ≤ c) (h1 : c < 256) : Calls Tryz.prog 123 #[.int .u8 c] w (Ret (.int .i64 (hexV c)) w) := by
  cases hd : digitI c
  · have Hd := Lib.hid hd
    by_cases hu : 65 ≤ c ∧ c ≤ 70
    · have HV := Lib.hid (by unfold hexV; rw [hd, if_neg (by simp), if_pos hu] : hexV c = c - 55)
      obtain ⟨n, rfl⟩ : ∃ n : Nat, c = n := ⟨c.toNat, by omega⟩
      have u1 : 65 ≤ n := by omega
      have u2 : n ≤ 70 := by omega
      clear hd hu
      go_enter Tryz.func123, Tryz.ntmps123
      go_wp2_with fail
      refine (rdigit_any _ _).mono ?_
      rintro e w' ⟨rfl, rfl⟩
      rw [Hd.out]
      go_wp2_with fail
      go_ret
      exact ⟨ret_i' (by rw [HV.out]; omega), rfl⟩
    · by_cases hv : 97 ≤ c ∧ c ≤ 102
      · have HV := Lib.hid (by unfold hexV; rw [hd, if_neg (by simp), if_neg hu, if_pos hv] : hexV c = c - 87)
        obtain ⟨n, rfl⟩ : ∃ n : Nat, c = n := ⟨c.toNat, by omega⟩
        have u1 : 97 ≤ n := by omega
        have u2 : n ≤ 102 := by omega
        clear hd hu hv
        go_enter Tryz.func123, Tryz.ntmps123
        go_wp2_with fail
        refine (rdigit_any _ _).mono ?_
        rintro e w' ⟨rfl, rfl⟩
        rw [Hd.out]
        go_wp2_with fail
        go_ret
        exact ⟨ret_i' (by rw [HV.out]; omega), rfl⟩
      · have HV := Lib.hid (by unfold hexV; rw [hd, if_neg (by simp), if_neg hu, if_neg hv] : hexV c = -1)
        rcases (by omega : c < 65 ∨ (70 < c ∧ c < 97) ∨ 102 < c) with q | ⟨q, q'⟩ | q
        all_goals
          clear hd hu hv
          go_enter Tryz.func123, Tryz.ntmps123
          go_wp2_with fail
          refine (rdigit_any _ _).mono ?_
          rintro e w' ⟨rfl, rfl⟩
          rw [Hd.out]
          go_wp2_with fail
          go_ret
          exact ⟨ret_i' (by rw [HV.out]), rfl⟩
  · have Hd := Lib.hid hd
    have HV := Lib.hid (by unfold hexV; rw [hd, if_pos rfl] : hexV c = c - 48)
    have hr : 48 ≤ c ∧ c ≤ 57 := by simpa [digitI] using hd
    obtain ⟨n, rfl⟩ : ∃ n : Nat, c = n := ⟨c.toNat, by omega⟩
    have u1 : 48 ≤ n := by omega
    have u2 : n ≤ 57 := by omega
    clear hd hr
    go_enter Tryz.func123, Tryz.ntmps123
    go_wp2_with fail
    refine (rdigit_any _ _).mono ?_
    rintro e w' ⟨rfl, rfl⟩
    rw [Hd.out]
    go_wp2_with fail
    go_ret
    exact ⟨ret_i' (by rw [HV.out]), rfl⟩

set_option maxRecDepth 100000 in
set_option maxHeartbeats 2000000 in
theorem rEscape_any (k : Int) (s : ByteArray) (w : World) (hs : s.size ≤ 1099511627776) :
    Calls Tryz.prog 17 #[.string s, .int .i64 k] w (RetNew (escpL k s.data.toList) w) := by
  obtain ⟨i0, hi, hz0, hz1, hz2⟩ := info_parts infoByte
  go_enter Tryz.func17, Tryz.ntmps17
  go_wp2_with fail
  go_loopw [5, 6] (fun v i wr => ∃ j : Nat, j ≤ s.size ∧ i = .int .i64 j ∧ wr.ownsRow w.heap.size 5 1 v (escpL k (s.data.toList.take j)).length (Lib.byteCells (escpL k (s.data.toList.take j))) ∧ Below w.heap.size w wr) (fun _ i _ => s.size - (intOf i).toNat)
  case atStart => exact ⟨0, by omega, rfl, World.ownsRow_nil _ _ _ _, Below.refl _ w⟩
  case round =>
    obtain ⟨j, hj, rfl, hown, hB⟩ := hrel
    have hsz := hB.size
    have hlen : (escpL k (s.data.toList.take j)).length ≤ 3 * j := by
      have := (escp_len k (s.data.toList.take j)).2
      simp at this; omega
    have Ho := Lib.hid hown
    clear hown
    by_cases hlt : j < s.size
    · have Ht := Lib.hid (by rw [take_snoc s j hlt]; simp [escpL] : escpL k (s.data.toList.take (j + 1)) = escpL k (s.data.toList.take j) ++ escpB k s[j])
      cases hin : inC k s[j].toNat
      · have Hi := Lib.hid hin
        clear hin
        have hq : s[j].toNat / 16 < 16 := by have := s[j].toNat_lt; omega
        have hr : s[j].toNat % 16 < 16 := by omega
        go_wp2_with fail
        refine (rin_all k s[j].toNat _).mono ?_
        rintro e w1 ⟨rfl, rfl⟩
        rw [Hi.out]
        go_wp2_with fail
        have Hod := Lib.hid (show World.ownsRow (World.drew wr) w.heap.size 5 1 _ _ _ from Ho.out)
        have hz : (World.drew wr).heap.size = wr.heap.size := rfl
        have iq0 : (0 : Int) ≤ ((s[j].toNat / 16 : Nat) : Int) := by omega
        have iq1 : ((s[j].toNat / 16 : Nat) : Int) < 16 := by omega
        have ir0 : (0 : Int) ≤ ((s[j].toNat % 16 : Nat) : Int) := by omega
        have ir1 : ((s[j].toNat % 16 : Nat) : Int) < 16 := by omega
        have jq0 : (0 : Int) ≤ (s[j].toNat : Int) / 16 := by omega
        have jq1 : (s[j].toNat : Int) / 16 < 16 := by omega
        have jr0 : (0 : Int) ≤ (s[j].toNat : Int) % 16 := by omega
        have jr1 : (s[j].toNat : Int) % 16 < 16 := by omega
        have jw : IntKind.u8.wrap ((s[j].toNat : Int) / 16) = (s[j].toNat : Int) / 16 := by rw [show (s[j].toNat : Int) / 16 = ((s[j].toNat / 16 : Nat) : Int) by omega]; exact wrap_u8 _ (by omega)
        have jt : (s[j].toNat : Int).tmod 16 = (s[j].toNat : Int) % 16 := Int.tmod_eq_emod_of_nonneg (by omega)
        have jj0 : (0 : Int) ≤ (j : Int) := by omega
        have jj1 : (j : Int) < s.size := by omega
        go_region_held_law (fun w' => True) (trivial)
          ((refine step_append_lies _ (by rfl) _ _ 70 (by rfl) w.heap.size 5 i0 (.int .u8 0) 1 1 Tryz.underlying70 hi hz0 hz1 hz2 (by rfl) (by decide) _ _ _ (by rfl) (Hod.out.alloc _) ⟨wr.heap.size, 0, none⟩ 3 3 _ (by rfl) (by rfl) (World.news_of_block (heap_alloc_new _ _)) (by simp [Value.oneCell']) (by decide) (by unfold maxLen; omega) (by omega) (by simp; omega) _ rfl ?_; intro g cap w4 hown' hgrow hat hlt2))
        all_goals
          have HO4 := Lib.hid (by simpa [Lib.byteCells, hex_tabQ _ s[j].toNat_lt, hex_tabR] using hown' : w4.ownsRow w.heap.size 5 1 (.slice (some ⟨g, 0, none⟩) ((escpL k (s.data.toList.take j)).length + 3) cap) (escpL k (s.data.toList.take j) ++ [37, hexD (s[j].toNat / 16), hexD (s[j].toNat % 16)]).length (Lib.byteCells (escpL k (s.data.toList.take j) ++ [37, hexD (s[j].toNat / 16), hexD (s[j].toNat % 16)])))
          have hB4 := (hB.drew.alloc (by show w.heap.size ≤ wr.heap.size; omega) _).grown hgrow (by simp; omega) (fun k' hk' => (Hod.out.lt k' hk').1)
          have hs4 := hB4.size
          clear hown' hgrow hat hlt2
          go_wp2_with fail
          go_roundw
          case rel => exact ⟨j + 1, by omega, by go_num, by rw [Ht.out]; unfold escpB; rw [Hi.out, if_neg (by simp)]; simpa using HO4.out, hB4⟩
          case measure => simp [intOf]; omega
      · have Hi := Lib.hid hin
        clear hin
        go_wp2_with fail
        refine (rin_all k s[j].toNat _).mono ?_
        rintro e w1 ⟨rfl, rfl⟩
        rw [Hi.out]
        go_wp2_with (at_builtin; refine wpList_append_own _ rfl _ _ 70 rfl w.heap.size 5 i0 (.int .u8 0) 1 1 Tryz.underlying70 hi hz0 hz1 hz2 rfl (by decide) _ _ _ rfl (Ho.out.alloc _) ⟨wr.heap.size, 0, none⟩ 1 1 [.int .u8 (s[j].toNat : Int)] rfl rfl (cell_one_new _ _ _) (by simp [Value.oneCell']) ?c3 ?c4 ?c5 ?_)
        case c3 => unfold maxLen; omega
        case c4 => omega
        case c5 => simp; omega
        intro v4 w4 hown' hgrow _
        have HO4 := Lib.hid (by simpa [Lib.byteCells] using hown' : w4.ownsRow w.heap.size 5 1 v4 (escpL k (s.data.toList.take j) ++ [s[j]]).length (Lib.byteCells (escpL k (s.data.toList.take j) ++ [s[j]])))
        have hB4 := (hB.alloc (by omega) (.cells #[.int .u8 (s[j].toNat : Int)] 5)).grown hgrow (by simp; omega) (fun k' hk' => (Ho.out.lt k' hk').1)
        have hs4 := hB4.size
        clear hown' hgrow
        go_wp2_with fail
        go_roundw
        case rel => exact ⟨j + 1, by omega, by go_num, by rw [Ht.out]; unfold escpB; rw [Hi.out, if_pos rfl]; exact HO4.out, hB4⟩
        case measure => simp [intOf]; omega
    · have Hacc := Lib.hid (by rw [List.take_of_length_le (by rw [len_list]; omega)] : escpL k (s.data.toList.take j) = escpL k s.data.toList)
      have hcv := conv_row Ho.out
      go_wp2_with fail
      go_ret
      exact ⟨by rw [← Hacc.out]; rfl, hB⟩

end Ad
end Go.Proofs.YtjkkcoiebnmkcaaGreatDoor
