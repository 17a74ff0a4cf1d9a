/- AddressPlain of package dialtonelaw02 returns true for every text of at most 2^20 bytes and every class, and nothing that was there is changed; contracts of the reference's contains and In. -/
import Derived.Test.YtjkkcoiebnmkcaaGreatDoorM8
namespace Go.Proofs.YtjkkcoiebnmkcaaGreatDoor
namespace Ad
open Go.RowKit Lx

set_option maxRecDepth 100000 in
set_option maxHeartbeats 1000000 in
theorem rcontains_any (s : ByteArray) (c : Int) (w : World) (hs : s.size ≤ 17592186044416) : Calls Tryz.prog 117 #[.string s, .int .u8 c] w (Ret (.bool (memB s.data.toList c)) w) := by
  obtain ⟨R, hR⟩ : ∃ R, memB s.data.toList c = R := ⟨_, rfl⟩
  have HR := Lib.hid (show memB (s.data.toList.drop 0) c = R from hR)
  rw [hR]
  clear hR
  go_enter Tryz.func117, Tryz.ntmps117
  go_wp2_with fail
  go_loop [5] (fun i => ∃ j : Nat, j ≤ s.size ∧ i = .int .i64 j ∧ memB (s.data.toList.drop j) c = R) (fun i => s.size - (intOf i).toNat)
  case atStart => exact ⟨0, by omega, rfl, HR.out⟩
  case round =>
    obtain ⟨j, hj, rfl, he⟩ := hrel
    by_cases hlt : j < s.size
    · rw [drop_step s j hlt] at he
      have he2 : ((s[j].toNat : Int) == c || memB (s.data.toList.drop (j + 1)) c) = R := he
      cases hb : ((s[j].toNat : Int) == c)
      · rw [hb, Bool.false_or] at he2
        have He := Lib.hid he2
        clear he he2
        go_wp2_with fail
        go_round
        case rel => exact ⟨j + 1, by omega, by go_num, He.out⟩
        case measure => simp [intOf]; omega
      · rw [hb, Bool.true_or] at he2
        have He := Lib.hid he2
        clear he he2
        go_wp2_with fail
        go_ret
        rw [← He.out]
        exact ⟨rfl, rfl⟩
    · have he2 : false = R := by rw [← he, List.drop_eq_nil_of_le (by rw [len_list]; omega)]; rfl
      have He := Lib.hid he2
      clear he he2
      go_wp2_with fail
      go_ret
      rw [← He.out]
      exact ⟨rfl, rfl⟩
theorem inC_mem (k c : Int) (h1 : letterI c = false) (h2 : digitI c = false) (h3 : memB everyL c = false) : inC k c = memB (clsL k) c := by unfold inC; rw [h1, h2, h3]; rfl
set_option maxRecDepth 100000 in
set_option maxHeartbeats 1000000 in
theorem rin_any (k c : Int) (w : World) (hk0 : 0 ≤ k) (hk : k < 3) : Calls Tryz.prog 47 #[.int .u8 c, .int .i64 k] w (Ret (.bool (inC k c)) w) := by
  cases hl : letterI c
  · cases hd : digitI c
    · cases he : memB everyL c
      · have Hl := Lib.hid hl
        have Hd := Lib.hid hd
        have He := Lib.hid (show memB (ByteArray.mk #[45, 95, 46, 33, 126, 42, 39, 40, 41]).data.toList c = false from he)
        have Hin := Lib.hid (inC_mem k c hl hd he)
        clear hl hd he
        rcases (by omega : k = 0 ∨ k = 1 ∨ k = 2) with rfl | rfl | rfl
        all_goals
          go_enter Tryz.func47, Tryz.ntmps47
          go_wp2_with fail
          refine (rletter_any _ _).mono ?_
          rintro e w' ⟨rfl, rfl⟩
          rw [Hl.out]
          go_wp2_with fail
          refine (rdigit_any _ _).mono ?_
          rintro e w' ⟨rfl, rfl⟩
          rw [Hd.out]
          go_wp2_with fail
          refine (rcontains_any _ _ _ (by decide)).mono ?_
          rintro e w' ⟨rfl, rfl⟩
          rw [He.out]
          go_wp2_with fail
          refine (rcontains_any _ _ _ (by decide)).mono ?_
          rintro e w' ⟨rfl, rfl⟩
          go_wp2_with fail
          go_ret
          rw [Hin.out]
          exact ⟨rfl, rfl⟩
      · have Hl := Lib.hid hl
        have Hd := Lib.hid hd
        have He := Lib.hid (show memB (ByteArray.mk #[45, 95, 46, 33, 126, 42, 39, 40, 41]).data.toList c = true from he)
        have Hin := Lib.hid (inC_of k c (.inr (.inr he)))
        clear hl hd he
        go_enter Tryz.func47, Tryz.ntmps47
        go_wp2_with fail
        refine (rletter_any _ _).mono ?_
        rintro e w' ⟨rfl, rfl⟩
        rw [Hl.out]
        go_wp2_with fail
        refine (rdigit_any _ _).mono ?_
        rintro e w' ⟨rfl, rfl⟩
        rw [Hd.out]
        go_wp2_with fail
        refine (rcontains_any _ _ _ (by decide)).mono ?_
        rintro e w' ⟨rfl, rfl⟩
        rw [He.out]
        go_wp2_with fail
        go_ret
        rw [Hin.out]
        exact ⟨rfl, rfl⟩
    · have Hl := Lib.hid hl
      have Hd := Lib.hid hd
      have Hin := Lib.hid (inC_of k c (.inr (.inl hd)))
      clear hl hd
      go_enter Tryz.func47, Tryz.ntmps47
      go_wp2_with fail
      refine (rletter_any _ _).mono ?_
      rintro e w' ⟨rfl, rfl⟩
      rw [Hl.out]
      go_wp2_with fail
      refine (rdigit_any _ _).mono ?_
      rintro e w' ⟨rfl, rfl⟩
      rw [Hd.out]
      go_wp2_with fail
      go_ret
      rw [Hin.out]
      exact ⟨rfl, rfl⟩
  · have Hl := Lib.hid hl
    have Hin := Lib.hid (inC_of k c (.inl hl))
    clear hl
    go_enter Tryz.func47, Tryz.ntmps47
    go_wp2_with fail
    refine (rletter_any _ _).mono ?_
    rintro e w' ⟨rfl, rfl⟩
    rw [Hl.out]
    go_wp2_with fail
    go_ret
    rw [Hin.out]
    exact ⟨rfl, rfl⟩
theorem un_escp (k : Int) (l : List UInt8) : unT (escpL k l) = l ∧ unN (escpL k l) = 0 ∧ unE (escpL k l) = 0 := by
  have h := uneR_escp k l
  unfold unT unN unE
  rw [h]
  simp
set_option maxRecDepth 100000 in
set_option maxHeartbeats 4000000 in
theorem plain_law (s : ByteArray) (c : Int) (w : World) (hs : s.size ≤ 1048576) (h0 : 0 ≤ c) (h1 : c < 256) (E : Env w) : Calls Tryz.prog 12 #[.string s, .int .u8 c] w (BoK true w) := by
  have HE := Lib.hid E
  obtain ⟨k, hk⟩ : ∃ k : Int, c.tmod 3 = k := ⟨_, rfl⟩
  have hk0 : 0 ≤ k := by rw [← hk]; exact Int.tmod_nonneg 3 h0
  have hk3 : k < 3 := by rw [← hk]; exact Int.tmod_lt_of_pos c (by decide)
  obtain ⟨t, ht⟩ : ∃ t, escpL k s.data.toList = t := ⟨_, rfl⟩
  obtain ⟨u1, u2, u3⟩ := un_escp k s.data.toList
  obtain ⟨l1, l2⟩ := escp_len k s.data.toList
  have hin := escp_in k s.data.toList
  rw [ht] at u1 u2 u3 l1 l2 hin
  rw [len_list] at l1 l2
  have HT := Lib.hid ht
  have HK := Lib.hid hk
  have U1 := Lib.hid u1
  have U2 := Lib.hid u2
  have U3 := Lib.hid u3
  have HIn := Lib.hid hin
  obtain ⟨B, hB⟩ : ∃ B : ByteArray, Txt t = B := ⟨_, rfl⟩
  have hBl : B.data.toList = t := by rw [← hB]; exact txt_list t
  have hts : B.size = t.length := by rw [← hB]; exact txt_size t
  have hge : s.size ≤ B.size := by omega
  have hle : B.size ≤ 3145728 := by omega
  have HBl := Lib.hid hBl
  have HB := Lib.hid hB
  have bt : (s.toList == s.toList) = true := beq_self_eq_true _
  have HTs := Lib.hid hts
  clear E u1 u2 u3 ht hin hts l1 l2 hB hBl
  go_enter Tryz.func12, Tryz.ntmps12
  go_wp2_with fail
  refine (Escape_any k s _ (by omega) HE.out).mono ?_
  rintro e w1 ⟨rfl, hB1⟩
  rw [HT.out, show (ByteArray.mk t.toArray) = B from HB.out]
  have K1 := Lib.hid ((Kp.refl [] w).below hB1)
  have E1 := Lib.hid (HE.out.kp K1.out (by simp))
  clear hB1
  go_wp2_with fail
  go_loop [7] (fun i => ∃ j : Nat, j ≤ B.size ∧ i = .int .i64 j) (fun i => B.size - (intOf i).toNat)
  case atStart => exact ⟨0, by omega, rfl⟩
  case round =>
    obtain ⟨j, hj, rfl⟩ := hrel
    by_cases hlt : j < B.size
    · have hmem : B[j] ∈ t := by
        rw [← HBl.out]
        exact Array.getElem_mem_toList (xs := B.data) hlt
      have hcs := HIn.out _ hmem
      have HC := Lib.hid hcs
      clear hmem hcs
      by_cases h37 : B[j] = 37
      · have b37 : ((B[j].toNat : Int) != 37) = false := by rw [h37]; rfl
        clear h37
        go_wp2_with fail
        go_round
        case rel => exact ⟨j + 1, by omega, by go_num⟩
        case measure => simp [intOf]; omega
      · have b37 : ((B[j].toNat : Int) != 37) = true := by
          rw [bne_iff_ne]
          intro e
          exact h37 (UInt8.toNat_inj.1 (by have e2 : B[j].toNat = 37 := by omega
                                           exact e2))
        have hI : inC k B[j].toNat = true := by
          rcases HC.out with h | h
          · exact h
          · exact absurd h h37
        have HI := Lib.hid hI
        clear h37 hI
        go_wp2_with fail
        refine (rin_any k _ _ hk0 hk3).mono ?_
        rintro e w' ⟨rfl, rfl⟩
        rw [HI.out]
        go_wp2_with fail
        go_round
        case rel => exact ⟨j + 1, by omega, by go_num⟩
        case measure => simp [intOf]; omega
    · go_wp2_with fail
      refine (Unescape_any B _ (by omega)).mono ?_
      rintro e w2 ⟨rfl, hB2⟩
      rw [HBl.out, U1.out, U2.out, U3.out]
      have K2 := Lib.hid (K1.out.below hB2)
      have E2 := Lib.hid (HE.out.kp K2.out (by simp))
      clear hB2
      have bs : ((Txt s.data.toList).toList == s.toList) = true := by rw [txt_self]; exact beq_self_eq_true _
      go_wp2_with fail
      refine (awake_any _ E2.out).mono ?_
      rintro e w3 ⟨rfl, hK⟩
      have K3 := Lib.hid (K2.out.trans hK)
      go_wp2_with fail
      go_ret
      exact ⟨rfl, K3.out⟩
end Ad
end Go.Proofs.YtjkkcoiebnmkcaaGreatDoor
