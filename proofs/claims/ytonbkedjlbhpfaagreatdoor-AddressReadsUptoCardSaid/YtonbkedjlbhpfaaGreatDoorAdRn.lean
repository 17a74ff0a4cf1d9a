/- Contract of the reference's value (dialtoneref02). A text has at most 2^21 bytes. -/
import Derived.Test.YtonbkedjlbhpfaaGreatDoorAdRm
namespace Go.Proofs.YtonbkedjlbhpfaaGreatDoor
namespace Ad
open Go.RowKit Lx

theorem rtokE (s : ByteArray) (k : Nat) (w : World) (hs : s.size ≤ 2097152) (hk : k ≤ s.size) : Calls Tryz.prog 101 #[.string s, .int .i64 k] w (Ret (.int .i64 (tokE s.data.toList k : Nat)) w) := by
  have := rtokenEnd_any s k w (by unfold maxLen; omega)
  rwa [tokE_bhd s k hk] at this
theorem rblkE (s : ByteArray) (k : Nat) (w : World) (hs : s.size ≤ 2097152) (hk : k ≤ s.size) : Calls Tryz.prog 81 #[.string s, .int .i64 k] w (Ret (.int .i64 (blkE s.data.toList k : Nat)) w) := by
  have := rblanks_any s k w (by unfold maxLen; omega)
  rwa [blkE_bhd s k hk] at this
theorem brk_end (l : List UInt8) (k : Nat) (h91 : atB l k = 91) (h : List UInt8) (ho : hostO (slc l k (min (endP (· == 93) l k + 1) l.length)) = some h) : endP (· == 93) l k < l.length := by
  have hk := atB_lt l k (by rw [h91]; decide)
  have hle := endP_le (· == 93) l k (by omega)
  rcases Nat.lt_or_ge (endP (· == 93) l k) l.length with h1 | h1
  · exact h1
  · exfalso
    have he : endP (· == 93) l k = l.length := by omega
    rw [he, Nat.min_eq_right (by omega), slc_full _ _ _ (Nat.le_refl _)] at ho
    have hr : runL (fun c => !(c == 93)) (l.drop k) = (l.drop k).length := by
      have he2 : k + runL (fun c => !(c == 93)) (l.drop k) = l.length := he
      rw [List.length_drop]; omega
    rw [runL_full] at hr
    have h9 : l[k].toNat = 91 := by unfold atB at h91; rw [List.getElem?_eq_getElem hk] at h91; dsimp only at h91; omega
    have hd : (l.drop k).head? = some 91 := by
      rw [List.head?_drop, List.getElem?_eq_getElem hk, Option.some_inj, ← UInt8.toNat_inj]; exact h9
    unfold hostO at ho
    rw [if_pos hd] at ho
    split at ho
    · rename_i hlast
      have h1 := List.mem_of_getLast? hlast
      have h2 := List.mem_of_mem_tail h1
      have h3 := List.all_eq_true.1 hr _ h2
      simp at h3
    · cases ho
/-- The value's answer. -/
def VaP (r : List UInt8 × Nat × Int) (w : World) (e : Ending) (w' : World) : Prop := e = .returned (.tuple #[.string (Txt r.1), .int .i64 (r.2.1 : Nat), .int .u8 r.2.2]) ∧ Kp [] w w'
set_option maxRecDepth 100000 in
set_option maxHeartbeats 2000000 in
theorem rvalue_any (s : ByteArray) (k : Nat) (w : World) (hs : s.size ≤ 2097152) (hk : k ≤ s.size) :
    Calls Tryz.prog 182 #[.string s, .int .i64 k] w (VaP (valR s.data.toList k) w) := by
  by_cases h34 : atB s.data.toList k = 34
  · have hlt := atB_lt _ _ (by rw [h34]; decide : atB s.data.toList k ≠ -1)
    rw [len_list] at hlt
    have h3 := h34
    rw [atB_get s k hlt] at h3
    have b34 : ((s[k].toNat : Int) == 34) = true := by rw [h3]; rfl
    have HV := Lib.hid (by unfold valR; rw [if_pos h34] : valR s.data.toList k = (uqT s.data.toList k, (uqN s.data.toList k).toNat, uqE s.data.toList k))
    have HN := Lib.hid (by rw [(uq34 _ _ h34).1, Int.toNat_natCast] : uqN s.data.toList k = ((uqN s.data.toList k).toNat : Int))
    clear h34 h3
    go_enter Tryz.func182, Tryz.ntmps182
    go_wp2_with fail
    refine (runquote_any s k _ (by omega)).mono ?_
    rintro e w1 ⟨rfl, hB⟩
    go_wp2_with fail
    go_ret3
    unfold VaP
    rw [HV.out]
    exact ⟨ret_3 rfl HN.out rfl, (Kp.refl [] w).below hB⟩
  · by_cases h91 : atB s.data.toList k = 91
    · have hlt := atB_lt _ _ (by rw [h91]; decide : atB s.data.toList k ≠ -1)
      rw [len_list] at hlt
      have h3 := h91
      rw [atB_get s k hlt] at h3
      have b34 : ((s[k].toNat : Int) == 34) = false := by rw [h3]; rfl
      have b91 : ((s[k].toNat : Int) == 91) = true := by rw [h3]; rfl
      obtain ⟨n, hn⟩ : ∃ n, endP (· == 93) s.data.toList k = n := ⟨_, rfl⟩
      have hnk : k ≤ n := by rw [← hn]; exact endP_ge _ _ _
      have hns : n ≤ s.size := by rw [← hn, ← len_list]; exact endP_le _ _ _ (by rw [len_list]; exact hk)
      obtain ⟨m, hm⟩ : ∃ m, min (n + 1) s.size = m := ⟨_, rfl⟩
      have HV : Hid (valR s.data.toList k = match hostO (slc s.data.toList k m) with | some h => (h, m, 0) | none => ([], k, 5)) := by
        have : valR s.data.toList k = match hostO (slc s.data.toList k m) with | some h => (h, m, 0) | none => ([], k, 5) := by
          unfold valR; rw [if_neg h34, if_pos h91, hn, len_list, hm]; rfl
        exact this
      have HEd := Lib.hid (fun h (ho : hostO (slc s.data.toList k m) = some h) => (by have := brk_end s.data.toList k h91 h (by rw [hn, len_list, hm]; exact ho); rw [hn, len_list] at this; omega : n + 1 = m))
      have hkm : k ≤ m := by omega
      have hms : m ≤ s.size := by omega
      have HM := Lib.hid (by omega : min ((n : Int) + 1) (s.size : Int) = (m : Int))
      have HX := Lib.hid (slc_txt s k m)
      have Hn := Lib.hid hn
      clear h34 h91 h3 hn hm
      go_enter Tryz.func182, Tryz.ntmps182
      go_wp2_with fail
      go_loop [7] (fun i => ∃ j : Nat, k ≤ j ∧ j ≤ s.size ∧ i = .int .i64 j ∧ endP (· == 93) s.data.toList j = n) (fun i => s.size - (intOf i).toNat)
      case atStart => exact ⟨k, by omega, by omega, rfl, Hn.out⟩
      case round =>
        obtain ⟨j, hkj, hj, rfl, he⟩ := hrel
        by_cases hjs : j < s.size
        · by_cases h93 : s[j].toNat = 93
          · have b93 : ((s[j].toNat : Int) == 93) = true := by rw [h93]; rfl
            have b93n : ((s[j].toNat : Int) != 93) = false := by rw [h93]; rfl
            have hjn : j = n := by rw [← he]; exact (endP_at_k (· == 93) s j hjs b93).symm
            subst hjn
            have hmin := HM.out
            have HJ := Lib.hid hjs
            clear he h93
            go_wp2_with fail
            rw [HX.out]
            refine (rHost_any (Txt (slc s.data.toList k m)) _ (by rw [txt_size]; have := slc_le s.data.toList k m; omega)).mono ?_
            rintro e w3 ⟨rfl, hB⟩
            rw [txt_list]
            cases ho : hostO (slc s.data.toList k m) with
            | none =>
              have HR := Lib.hid (HV.out.trans (by rw [ho]))
              clear ho hmin
              go_wp2_with fail
              go_ret3
              unfold VaP
              rw [HR.out]
              exact ⟨rfl, (Kp.refl [] w).below hB⟩
            | some h =>
              have HR := Lib.hid (HV.out.trans (by rw [ho]))
              have HE := Lib.hid (HEd.out h ho)
              clear ho hmin
              go_wp2_with fail
              go_ret3
              unfold VaP
              rw [HR.out]
              exact ⟨ret_3 rfl (by have := HE.out; show ((j : Int) + 1) = ((m : Nat) : Int); omega) rfl, (Kp.refl [] w).below hB⟩
          · have b93 : ((s[j].toNat : Int) == 93) = false := by rw [beq_eq_false_iff_ne]; omega
            have b93n : ((s[j].toNat : Int) != 93) = true := by rw [bne_iff_ne]; omega
            have HE := Lib.hid ((endP_next (· == 93) s j hjs b93).symm.trans he)
            clear he h93
            go_wp2_with fail
            go_round
            case rel => exact ⟨j + 1, by omega, by omega, by go_num, HE.out⟩
            case measure => simp [intOf]; omega
        · have hjn : j = n := by rw [← he]; exact (endP_out (· == 93) s j (by omega)).symm
          subst hjn
          have hmin := HM.out
          clear he
          go_wp2_with fail
          rw [HX.out]
          refine (rHost_any (Txt (slc s.data.toList k m)) _ (by rw [txt_size]; have := slc_le s.data.toList k m; omega)).mono ?_
          rintro e w3 ⟨rfl, hB⟩
          rw [txt_list]
          cases ho : hostO (slc s.data.toList k m) with
          | none =>
            have HR := Lib.hid (HV.out.trans (by rw [ho]))
            clear ho hmin
            go_wp2_with fail
            go_ret3
            unfold VaP
            rw [HR.out]
            exact ⟨rfl, (Kp.refl [] w).below hB⟩
          | some h =>
            exfalso
            have := HEd.out h ho
            omega
    · have HT := fun wz => rtokE s k wz hs hk
      obtain ⟨n, hn⟩ : ∃ n, tokE s.data.toList k = n := ⟨_, rfl⟩
      obtain ⟨n1, n2⟩ := tokE_bd s k hk
      rw [hn] at n1 n2 HT
      have HT := Lib.hid HT
      have HX := Lib.hid (slc_txt s k n)
      have HV := Lib.hid (by unfold valR; rw [if_neg h34, if_neg h91, hn] : valR s.data.toList k = if n = k then ([], k, 5) else (slc s.data.toList k n, n, 0))
      by_cases hlt : k < s.size
      · have h3 := h34
        have h9 := h91
        rw [atB_get s k hlt] at h3 h9
        have b34 : ((s[k].toNat : Int) == 34) = false := by rw [beq_eq_false_iff_ne]; exact h3
        have b91 : ((s[k].toNat : Int) == 91) = false := by rw [beq_eq_false_iff_ne]; exact h9
        clear h34 h91 h3 h9 hn
        by_cases hz : n = k
        · have bz : ((n : Int) == (k : Int)) = true := by rw [hz]; exact beq_self_eq_true _
          have HR := Lib.hid (HV.out.trans (if_pos hz))
          clear hz
          go_enter Tryz.func182, Tryz.ntmps182
          go_wp2_with fail
          refine (HT.out _).mono ?_
          rintro e w' ⟨rfl, rfl⟩
          go_wp2_with fail
          go_ret3
          unfold VaP
          rw [HR.out]
          exact ⟨rfl, Kp.refl _ _⟩
        · have bz : ((n : Int) == (k : Int)) = false := by rw [beq_eq_false_iff_ne]; omega
          have HR := Lib.hid (HV.out.trans (if_neg hz))
          clear hz
          go_enter Tryz.func182, Tryz.ntmps182
          go_wp2_with fail
          refine (HT.out _).mono ?_
          rintro e w' ⟨rfl, rfl⟩
          go_wp2_with fail
          go_ret3
          unfold VaP
          rw [HR.out]
          exact ⟨ret_3 HX.out rfl rfl, Kp.refl _ _⟩
      · have hz : n = k := by omega
        have bz : ((n : Int) == (k : Int)) = true := by rw [hz]; exact beq_self_eq_true _
        have HR := Lib.hid (HV.out.trans (if_pos hz))
        clear h34 h91 hn hz
        go_enter Tryz.func182, Tryz.ntmps182
        go_wp2_with fail
        refine (HT.out _).mono ?_
        rintro e w' ⟨rfl, rfl⟩
        go_wp2_with fail
        go_ret3
        unfold VaP
        rw [HR.out]
        exact ⟨rfl, Kp.refl _ _⟩
end Ad
end Go.Proofs.YtonbkedjlbhpfaaGreatDoor
