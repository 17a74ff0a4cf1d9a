/- Contracts of the reference's In (any class), hex, escape, Escape and Unescape (dialtoneref02). A text has at most 2^40 bytes. -/
import Derived.Test.YtonbkedjlbhpfaaGreatDoorAdPl
import Derived.Test.YtonbkedjlbhpfaaGreatDoorM2
import Derived.StillTailTactics
import Derived.Sort.CutIn
import Derived.Deep.RegionHeldLaw
import Derived.Deep.AppendLies
namespace Go.Proofs.YtonbkedjlbhpfaaGreatDoor
namespace Ad
open Go.RowKit Lx

theorem clsL_other (k : Int) (h : ¬ (0 ≤ k ∧ k < 3)) : clsL k = [] := by
  unfold clsL
  rw [if_neg (by omega), if_neg (by omega), if_neg (by omega)]
set_option maxRecDepth 100000 in
set_option maxHeartbeats 1000000 in
theorem rin_all (k c : Int) (w : World) : Calls Tryz.prog 240 #[.int .u8 c, .int .i64 k] w (Ret (.bool (inC k c)) w) := by
  by_cases hk : 0 ≤ k ∧ k < 3
  · exact rin_any k c w hk.1 hk.2
  have q0 : (k == 0) = false := by rw [beq_eq_false_iff_ne]; omega
  have q1 : (k == 1) = false := by rw [beq_eq_false_iff_ne]; omega
  have q2 : (k == 2) = false := by rw [beq_eq_false_iff_ne]; omega
  cases hl : letterI c
  · cases hd : digitI c
    · cases he : memB everyL c
      · have Hl := Lib.hid hl
        have Hd := Lib.hid hd
        have He := Lib.hid (show memB (ByteArray.mk #[45, 95, 46, 33, 126, 42, 39, 40, 41]).data.toList c = false from he)
        have Hin := Lib.hid ((inC_mem k c hl hd he).trans (by rw [clsL_other k hk]; rfl : memB (clsL k) c = false))
        clear hl hd he hk
        go_enter Tryz.func240, Tryz.ntmps240
        go_wp2_with fail
        refine (rletter_any _ _).mono ?_
        rintro e w' ⟨rfl, rfl⟩
        rw [Hl.out]
        go_wp2_with fail
        refine (rdigit_any _ _).mono ?_
        rintro e w' ⟨rfl, rfl⟩
        rw [Hd.out]
        go_wp2_with fail
        refine (rcontains_any _ _ _ (by decide)).mono ?_
        rintro e w' ⟨rfl, rfl⟩
        rw [He.out]
        go_wp2_with fail
        go_ret
        rw [Hin.out]
        exact ⟨rfl, rfl⟩
      · have Hl := Lib.hid hl
        have Hd := Lib.hid hd
        have He := Lib.hid (show memB (ByteArray.mk #[45, 95, 46, 33, 126, 42, 39, 40, 41]).data.toList c = true from he)
        have Hin := Lib.hid (inC_of k c (.inr (.inr he)))
        clear hl hd he hk
        go_enter Tryz.func240, Tryz.ntmps240
        go_wp2_with fail
        refine (rletter_any _ _).mono ?_
        rintro e w' ⟨rfl, rfl⟩
        rw [Hl.out]
        go_wp2_with fail
        refine (rdigit_any _ _).mono ?_
        rintro e w' ⟨rfl, rfl⟩
        rw [Hd.out]
        go_wp2_with fail
        refine (rcontains_any _ _ _ (by decide)).mono ?_
        rintro e w' ⟨rfl, rfl⟩
        rw [He.out]
        go_wp2_with fail
        go_ret
        rw [Hin.out]
        exact ⟨rfl, rfl⟩
    · have Hl := Lib.hid hl
      have Hd := Lib.hid hd
      have Hin := Lib.hid (inC_of k c (.inr (.inl hd)))
      clear hl hd hk
      go_enter Tryz.func240, Tryz.ntmps240
      go_wp2_with fail
      refine (rletter_any _ _).mono ?_
      rintro e w' ⟨rfl, rfl⟩
      rw [Hl.out]
      go_wp2_with fail
      refine (rdigit_any _ _).mono ?_
      rintro e w' ⟨rfl, rfl⟩
      rw [Hd.out]
      go_wp2_with fail
      go_ret
      rw [Hin.out]
      exact ⟨rfl, rfl⟩
  · have Hl := Lib.hid hl
    have Hin := Lib.hid (inC_of k c (.inl hl))
    clear hl hk
    go_enter Tryz.func240, Tryz.ntmps240
    go_wp2_with fail
    refine (rletter_any _ _).mono ?_
    rintro e w' ⟨rfl, rfl⟩
    rw [Hl.out]
    go_wp2_with fail
    go_ret
    rw [Hin.out]
    exact ⟨rfl, rfl⟩

theorem ret_i' {k : IntKind} {a b : Int} (h : a = b) : Ending.returned (.int k a) = .returned (.int k b) := by rw [h]
set_option maxRecDepth 100000 in
set_option maxHeartbeats 1000000 in
theorem rhex_any (c : Int) (w : World) (h0 : 0 ≤ c) (h1 : c < 256) : Calls Tryz.prog 292 #[.int .u8 c] w (Ret (.int .i64 (hexV c)) w) := by
  cases hd : digitI c
  · have Hd := Lib.hid hd
    by_cases hu : 65 ≤ c ∧ c ≤ 70
    · have HV := Lib.hid (by unfold hexV; rw [hd, if_neg (by simp), if_pos hu] : hexV c = c - 55)
      obtain ⟨n, rfl⟩ : ∃ n : Nat, c = n := ⟨c.toNat, by omega⟩
      have u1 : 65 ≤ n := by omega
      have u2 : n ≤ 70 := by omega
      clear hd hu
      go_enter Tryz.func292, Tryz.ntmps292
      go_wp2_with fail
      refine (rdigit_any _ _).mono ?_
      rintro e w' ⟨rfl, rfl⟩
      rw [Hd.out]
      go_wp2_with fail
      go_ret
      exact ⟨ret_i' (by rw [HV.out]; omega), rfl⟩
    · by_cases hv : 97 ≤ c ∧ c ≤ 102
      · have HV := Lib.hid (by unfold hexV; rw [hd, if_neg (by simp), if_neg hu, if_pos hv] : hexV c = c - 87)
        obtain ⟨n, rfl⟩ : ∃ n : Nat, c = n := ⟨c.toNat, by omega⟩
        have u1 : 97 ≤ n := by omega
        have u2 : n ≤ 102 := by omega
        clear hd hu hv
        go_enter Tryz.func292, Tryz.ntmps292
        go_wp2_with fail
        refine (rdigit_any _ _).mono ?_
        rintro e w' ⟨rfl, rfl⟩
        rw [Hd.out]
        go_wp2_with fail
        go_ret
        exact ⟨ret_i' (by rw [HV.out]; omega), rfl⟩
      · have HV := Lib.hid (by unfold hexV; rw [hd, if_neg (by simp), if_neg hu, if_neg hv] : hexV c = -1)
        rcases (by omega : c < 65 ∨ (70 < c ∧ c < 97) ∨ 102 < c) with q | ⟨q, q'⟩ | q
        all_goals
          clear hd hu hv
          go_enter Tryz.func292, Tryz.ntmps292
          go_wp2_with fail
          refine (rdigit_any _ _).mono ?_
          rintro e w' ⟨rfl, rfl⟩
          rw [Hd.out]
          go_wp2_with fail
          go_ret
          exact ⟨ret_i' (by rw [HV.out]), rfl⟩
  · have Hd := Lib.hid hd
    have HV := Lib.hid (by unfold hexV; rw [hd, if_pos rfl] : hexV c = c - 48)
    have hr : 48 ≤ c ∧ c ≤ 57 := by simpa [digitI] using hd
    obtain ⟨n, rfl⟩ : ∃ n : Nat, c = n := ⟨c.toNat, by omega⟩
    have u1 : 48 ≤ n := by omega
    have u2 : n ≤ 57 := by omega
    clear hd hr
    go_enter Tryz.func292, Tryz.ntmps292
    go_wp2_with fail
    refine (rdigit_any _ _).mono ?_
    rintro e w' ⟨rfl, rfl⟩
    rw [Hd.out]
    go_wp2_with fail
    go_ret
    exact ⟨ret_i' (by rw [HV.out]), rfl⟩

theorem hexV_m1 (c : Int) (h : hexV c < 0) : hexV c = -1 := by
  unfold hexV at h ⊢
  by_cases h1 : digitI c
  · rw [if_pos h1] at h
    have : 48 ≤ c ∧ c ≤ 57 := by simpa [digitI] using h1
    omega
  · rw [if_neg h1] at h ⊢
    by_cases h2 : 65 ≤ c ∧ c ≤ 70
    · rw [if_pos h2] at h; omega
    · rw [if_neg h2] at h ⊢
      by_cases h3 : 97 ≤ c ∧ c ≤ 102
      · rw [if_pos h3] at h; omega
      · rw [if_neg h3]
theorem escV_m1 (l : List UInt8) (h : escV l < 0) : escV l = -1 := by
  match l, h with
  | [], _ => rfl
  | [_], _ => rfl
  | [_, _], _ => rfl
  | a :: b :: c :: r, h =>
    rw [escV_def] at h ⊢
    by_cases hc : a.toNat = 37 ∧ 0 ≤ hexV b.toNat ∧ 0 ≤ hexV c.toNat
    · rw [if_pos hc] at h; omega
    · rw [if_neg hc]
theorem drop3 (s : ByteArray) (i : Nat) (h : i + 2 < s.size) : s.data.toList.drop i = s[i] :: s[i + 1] :: s[i + 2] :: s.data.toList.drop (i + 3) := by
  rw [drop_step s i (by omega), drop_step s (i + 1) (by omega), drop_step s (i + 2) (by omega)]
set_option maxRecDepth 100000 in
set_option maxHeartbeats 1000000 in
theorem rescape_any (s : ByteArray) (i : Nat) (w : World) (hs : s.size ≤ 17592186044416) (hi : i < s.size) :
    Calls Tryz.prog 239 #[.string s, .int .i64 i] w (fun r w' => r = .returned (.int .i64 (escV (s.data.toList.drop i))) ∧ Below w.heap.size w w') := by
  by_cases h3 : i + 2 < s.size
  · have hV := congrArg escV (drop3 s i h3)
    rw [escV_def] at hV
    by_cases h37 : s[i].toNat = 37
    · have t37 : ((s[i].toNat : Int) != 37) = false := by rw [h37]; rfl
      by_cases ha : 0 ≤ hexV s[i + 1].toNat
      · by_cases hb : 0 ≤ hexV s[i + 2].toNat
        · rw [if_pos ⟨h37, ha, hb⟩] at hV
          have b1 := hexV_bd s[i + 1].toNat
          have b2 := hexV_bd s[i + 2].toNat
          have g1 : decide ((s.size : Int) ≤ (i : Int) + 2) = false := by rw [decide_eq_false_iff_not]; omega
          have g2 : decide (hexV s[i + 1].toNat < 0) = false := by rw [decide_eq_false_iff_not]; omega
          have g3 : decide (hexV s[i + 2].toNat < 0) = false := by rw [decide_eq_false_iff_not]; omega
          have HV := Lib.hid hV
          have hq : ∀ (c : UInt8) (v : World), Calls Tryz.prog 292 #[.int .u8 c.toNat] v (fun r v' => r = .returned (.int .i64 (hexV c.toNat)) ∧ v' = v) := fun c v => (rhex_any _ v (byte_lo _) (byte_hi _)).mono (fun _ _ h => ⟨h.1, h.2.symm⟩)
          have HQ := Lib.hid hq
          clear hV h37 hq
          go_enter Tryz.func239, Tryz.ntmps239
          go_wp2_with fail
          refine (rhex_any _ _ (byte_lo _) (byte_hi _)).mono ?_
          rintro e w' ⟨rfl, rfl⟩
          go_wp2_with fail
          refine (rhex_any _ _ (byte_lo _) (byte_hi _)).mono ?_
          rintro e w' ⟨rfl, rfl⟩
          go_wp2_with (go_quiet ((go_at_call 292; exact Calls.quiet_of_same (HQ.out _ _))))
          go_ret
          exact ⟨ret_i' HV.out.symm, below_drewN (Below.refl _ _) _⟩
        · rw [if_neg (fun h => hb h.2.2)] at hV
          have g1 : decide ((s.size : Int) ≤ (i : Int) + 2) = false := by rw [decide_eq_false_iff_not]; omega
          have b1 := hexV_bd s[i + 1].toNat
          obtain ⟨x, hx⟩ : ∃ x : Nat, hexV s[i + 1].toNat = x := ⟨(hexV s[i + 1].toNat).toNat, by omega⟩
          have g2 : decide ((x : Int) < 0) = false := by rw [decide_eq_false_iff_not]; omega
          have HX := Lib.hid hx
          have HY := Lib.hid (hexV_m1 _ (by omega : hexV s[i + 2].toNat < 0))
          skip
          have HV := Lib.hid hV
          clear ha hb hV b1 hx h37
          go_enter Tryz.func239, Tryz.ntmps239
          go_wp2_with fail
          refine (rhex_any _ _ (byte_lo _) (byte_hi _)).mono ?_
          rintro e w' ⟨rfl, rfl⟩
          rw [HX.out]
          go_wp2_with fail
          refine (rhex_any _ _ (byte_lo _) (byte_hi _)).mono ?_
          rintro e w' ⟨rfl, rfl⟩
          rw [HY.out]
          go_wp2_with fail
          go_ret
          exact ⟨ret_i' HV.out.symm, Below.refl _ _⟩
      · rw [if_neg (fun h => ha h.2.1)] at hV
        have g1 : decide ((s.size : Int) ≤ (i : Int) + 2) = false := by rw [decide_eq_false_iff_not]; omega
        have HX := Lib.hid (hexV_m1 _ (by omega : hexV s[i + 1].toNat < 0))
        skip
        have HV := Lib.hid hV
        clear ha hV h37
        go_enter Tryz.func239, Tryz.ntmps239
        go_wp2_with fail
        refine (rhex_any _ _ (byte_lo _) (byte_hi _)).mono ?_
        rintro e w' ⟨rfl, rfl⟩
        rw [HX.out]
        go_wp2_with fail
        go_ret
        exact ⟨ret_i' HV.out.symm, Below.refl _ _⟩
    · have t37 : ((s[i].toNat : Int) != 37) = true := by rw [bne_iff_ne]; omega
      rw [if_neg (fun h => h37 h.1)] at hV
      have g1 : decide ((s.size : Int) ≤ (i : Int) + 2) = false := by rw [decide_eq_false_iff_not]; omega
      skip
      have HV := Lib.hid hV
      clear hV h37
      go_enter Tryz.func239, Tryz.ntmps239
      go_wp2_with fail
      go_ret
      exact ⟨ret_i' HV.out.symm, Below.refl _ _⟩
  · have hV := escV_m1 _ (escV_short (s.data.toList.drop i) (by rw [List.length_drop, len_list]; omega))
    have g1 : decide ((s.size : Int) ≤ (i : Int) + 2) = true := by rw [decide_eq_true_iff]; omega
    skip
    have HV := Lib.hid hV
    clear hV
    go_enter Tryz.func239, Tryz.ntmps239
    go_wp2_with fail
    go_ret
    exact ⟨ret_i' HV.out.symm, Below.refl _ _⟩
end Ad
end Go.Proofs.YtonbkedjlbhpfaaGreatDoor
