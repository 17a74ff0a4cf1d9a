/- AddressPlain of package dialtonelaw02 returns true for every text of at most 2^20 bytes and every class, and nothing that was there is changed; contracts of the reference's contains and In. -/
import Derived.Test.YtonbkedjlbhpfaaGreatDoorM8
namespace Go.Proofs.YtonbkedjlbhpfaaGreatDoor
namespace Ad
open Go.RowKit Lx

set_option maxRecDepth 100000 in
set_option maxHeartbeats 1000000 in
theorem rcontains_any (s : ByteArray) (c : Int) (w : World) (hs : s.size ≤ 17592186044416) : Calls Tryz.prog 148 #[.string s, .int .u8 c] w (Ret (.bool (memB s.data.toList c)) w) := by
  obtain ⟨R, hR⟩ : ∃ R, memB s.data.toList c = R := ⟨_, rfl⟩
  have HR := Lib.hid (show memB (s.data.toList.drop 0) c = R from hR)
  rw [hR]
  clear hR
  go_enter Tryz.func148, Tryz.ntmps148
  go_wp2_with fail
  go_loop [5] (fun i => ∃ j : Nat, j ≤ s.size ∧ i = .int .i64 j ∧ memB (s.data.toList.drop j) c = R) (fun i => s.size - (intOf i).toNat)
  case atStart => exact ⟨0, by omega, rfl, HR.out⟩
  case round =>
    obtain ⟨j, hj, rfl, he⟩ := hrel
    by_cases hlt : j < s.size
    · rw [drop_step s j hlt] at he
      have he2 : ((s[j].toNat : Int) == c || memB (s.data.toList.drop (j + 1)) c) = R := he
      cases hb : ((s[j].toNat : Int) == c)
      · rw [hb, Bool.false_or] at he2
        have He := Lib.hid he2
        clear he he2
        go_wp2_with fail
        go_round
        case rel => exact ⟨j + 1, by omega, by go_num, He.out⟩
        case measure => simp [intOf]; omega
      · rw [hb, Bool.true_or] at he2
        have He := Lib.hid he2
        clear he he2
        go_wp2_with fail
        go_ret
        rw [← He.out]
        exact ⟨rfl, rfl⟩
    · have he2 : false = R := by rw [← he, List.drop_eq_nil_of_le (by rw [len_list]; omega)]; rfl
      have He := Lib.hid he2
      clear he he2
      go_wp2_with fail
      go_ret
      rw [← He.out]
      exact ⟨rfl, rfl⟩
theorem inC_mem (k c : Int) (h1 : letterI c = false) (h2 : digitI c = false) (h3 : memB everyL c = false) : inC k c = memB (clsL k) c := by unfold inC; rw [h1, h2, h3]; rfl
set_option maxRecDepth 100000 in
set_option maxHeartbeats 1000000 in
theorem rin_any (k c : Int) (w : World) (hk0 : 0 ≤ k) (hk : k < 3) : Calls Tryz.prog 240 #[.int .u8 c, .int .i64 k] w (Ret (.bool (inC k c)) w) := by
  cases hl : letterI c
  · cases hd : digitI c
    · cases he : memB everyL c
      · have Hl := Lib.hid hl
        have Hd := Lib.hid hd
        have He := Lib.hid (show memB (ByteArray.mk #[45, 95, 46, 33, 126, 42, 39, 40, 41]).data.toList c = false from he)
        have Hin := Lib.hid (inC_mem k c hl hd he)
        clear hl hd he
        rcases (by omega : k = 0 ∨ k = 1 ∨ k = 2) with rfl | rfl | rfl
        all_goals
          go_enter Tryz.func240, Tryz.ntmps240
          go_wp2_with fail
          refine (rletter_any _ _).mono ?_
          rintro e w' ⟨rfl, rfl⟩
          rw [Hl.out]
          go_wp2_with fail
          refine (rdigit_any _ _).mono ?_
          rintro e w' ⟨rfl, rfl⟩
          rw [Hd.out]
          go_wp2_with fail
          refine (rcontains_any _ _ _ (by decide)).mono ?_
          rintro e w' ⟨rfl, rfl⟩
          rw [He.out]
          go_wp2_with fail
          refine (rcontains_any _ _ _ (by decide)).mono ?_
          rintro e w' ⟨rfl, rfl⟩
          go_wp2_with fail
          go_ret
          rw [Hin.out]
          exact ⟨rfl, rfl⟩
      · have Hl := Lib.hid hl
        have Hd := Lib.hid hd
        have He := Lib.hid (show memB (ByteArray.mk #[45, 95, 46, 33, 126, 42, 39, 40, 41]).data.toList c = true from he)
        have Hin := Lib.hid (inC_of k c (.inr (.inr he)))
        clear hl hd he
        go_enter Tryz.func240, Tryz.ntmps240
        go_wp2_with fail
        refine (rletter_any _ _).mono ?_
        rintro e w' ⟨rfl, rfl⟩
        rw [Hl.out]
        go_wp2_with fail
        refine (rdigit_any _ _).mono ?_
        rintro e w' ⟨rfl, rfl⟩
        rw [Hd.out]
        go_wp2_with fail
        refine (rcontains_any _ _ _ (by decide)).mono ?_
        rintro e w' ⟨rfl, rfl⟩
        rw [He.out]
        go_wp2_with fail
        go_ret
        rw [Hin.out]
        exact ⟨rfl, rfl⟩
    · have Hl := Lib.hid hl
      have Hd := Lib.hid hd
      have Hin := Lib.hid (inC_of k c (.inr (.inl hd)))
      clear hl hd
      go_enter Tryz.func240, Tryz.ntmps240
      go_wp2_with fail
      refine (rletter_any _ _).mono ?_
      rintro e w' ⟨rfl, rfl⟩
      rw [Hl.out]
      go_wp2_with fail
      refine (rdigit_any _ _).mono ?_
      rintro e w' ⟨rfl, rfl⟩
      rw [Hd.out]
      go_wp2_with fail
      go_ret
      rw [Hin.out]
      exact ⟨rfl, rfl⟩
  · have Hl := Lib.hid hl
    have Hin := Lib.hid (inC_of k c (.inl hl))
    clear hl
    go_enter Tryz.func240, Tryz.ntmps240
    go_wp2_with fail
    refine (rletter_any _ _).mono ?_
    rintro e w' ⟨rfl, rfl⟩
    rw [Hl.out]
    go_wp2_with fail
    go_ret
    rw [Hin.out]
    exact ⟨rfl, rfl⟩
end Ad
end Go.Proofs.YtonbkedjlbhpfaaGreatDoor
