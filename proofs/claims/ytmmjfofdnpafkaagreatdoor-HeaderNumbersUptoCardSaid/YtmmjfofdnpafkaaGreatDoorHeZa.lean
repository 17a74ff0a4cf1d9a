/- The reference's first (dialtoneref03). A text has at most 2^20 bytes. -/
import Derived.Test.YtmmjfofdnpafkaaGreatDoorHeZ
namespace Go.Proofs.YtmmjfofdnpafkaaGreatDoor
namespace Ad
open Go.RowKit Lx

theorem rd_snoc (u : List UInt8) (a : UInt8) : rd bb (u ++ [a]) = if bb a = true then rd bb u else u ++ [a] := by
  unfold rd
  rw [List.reverse_append, List.reverse_singleton, List.singleton_append, List.dropWhile_cons]
  split
  · rfl
  · rw [List.reverse_cons, List.reverse_reverse]
theorem rd_suffix (t y : List UInt8) (h : rd bb t = t) (hs : y <:+ t) : rd bb y = y := by
  rcases List.eq_nil_or_concat y with rfl | ⟨u, a, rfl⟩
  · rfl
  · rw [List.concat_eq_append] at hs ⊢
    obtain ⟨z, hz⟩ := hs
    rw [← hz, ← List.append_assoc, rd_snoc] at h
    rw [rd_snoc]
    cases hb : bb a
    · rfl
    · rw [hb, if_pos rfl] at h
      have h1 := rd_len bb (z ++ u)
      rw [h] at h1
      simp at h1
      omega
theorem drop_run (p : Int → Bool) (b : UInt8 → Bool) (hb : ∀ c, b c = p c.toNat) : ∀ x : List UInt8, x.dropWhile b = x.drop (runL p x) := by
  intro x
  induction x with
  | nil => rfl
  | cons c t ih =>
    rw [List.dropWhile_cons, runL, hb c]
    cases p c.toNat
    · rfl
    · rw [if_pos rfl, if_pos rfl, List.drop_succ_cons, ih]
theorem dw_idem (p : UInt8 → Bool) : ∀ l : List UInt8, (l.dropWhile p).dropWhile p = l.dropWhile p := by
  intro l
  induction l with
  | nil => rfl
  | cons c t ih =>
    rw [List.dropWhile_cons]
    cases hc : p c
    · simp [hc]
    · simpa using ih
theorem trS_rd (l : List UInt8) : rd bb (trS l) = trS l := by
  unfold trS
  rw [trimS_eq]
  obtain ⟨y, hy⟩ : ∃ y, l.dropWhile bb = y := ⟨_, rfl⟩
  rw [hy]
  unfold rd
  rw [List.reverse_reverse]
  congr 1
  exact dw_idem _ _
theorem rest_is (l : List UInt8) (k : Nat) : (trS l).drop (blkE (trS l) k) = trS ((trS l).drop k) := by
  have h := trS_rd l
  obtain ⟨t, ht⟩ : ∃ t, trS l = t := ⟨_, rfl⟩
  rw [ht] at h ⊢
  unfold blkE
  rw [← List.drop_drop, ← drop_run blankI bb (fun c => by rfl)]
  show _ = Lib.trimS (t.drop k) blk
  rw [trimS_eq]
  exact (rd_suffix t _ h ((List.dropWhile_suffix _).trans (List.drop_suffix _ _))).symm
set_option maxRecDepth 100000 in
set_option maxHeartbeats 4000000 in
theorem rfirst_any (s : ByteArray) (w : World) (hs : s.size ≤ 1048576) : Calls Tryz.prog 94 #[.string s] w (LeP (leadR s.data.toList) w) := by
  have hrest := rest_is s.data.toList
  obtain ⟨t, ht⟩ : ∃ t, trS s.data.toList = t := ⟨_, rfl⟩
  have htl : t.length ≤ 1048576 := by rw [← ht]; have := trS_len s.data.toList; rw [len_list] at this; omega
  have HT := Lib.hid (fun wz => rtrim_k s t wz (by omega) ht)
  rw [ht] at hrest
  have HV := Lib.hid (by unfold leadR; rw [ht, ← hrest] : leadR s.data.toList = (numN (t.take (endP blankI t 0)), t.drop (blkE t (endP blankI t 0)), numE (t.take (endP blankI t 0))))
  have HBl := Lib.hid (fun (c : Int) wz => rblank_any c wz)
  obtain ⟨X, hX⟩ : ∃ X, Txt t = X := ⟨_, rfl⟩
  have hXd : X.data.toList = t := by rw [← hX, txt_list]
  have hXs : X.size = t.length := by rw [← hX]; exact txt_size t
  unfold TxK at HT
  rw [hX] at HT
  have HXd := Lib.hid hXd
  have HXs := Lib.hid hXs
  have Htl := Lib.hid htl
  clear ht hrest hX hXd htl
  have hX64 : X.size ≤ 1048576 := by have := Htl.out; omega
  clear hXs
  go_enter Tryz.func94, Tryz.ntmps94
  go_wp2_with fail
  refine (HT.out _).mono ?_
  rintro e w1 ⟨rfl, hK1⟩
  have K1 := Lib.hid hK1
  clear hK1
  go_wp2_with fail
  go_loopw [6] (fun i wr => ∃ k : Nat, k ≤ X.size ∧ i = .int .i64 k ∧ wr = w1 ∧ endP blankI t 0 = endP blankI t k) (fun i _ => X.size - (intOf i).toNat)
  case atStart => exact ⟨0, by omega, rfl, rfl, rfl⟩
  case round =>
    obtain ⟨k, hk, rfl, rfl, he⟩ := hrel
    have He := Lib.hid he
    clear he
    by_cases hlt : k < X.size
    · cases hb : blankI (X[k].toNat : Int)
      · have HB := Lib.hid (fun wz => (by have h := HBl.out (X[k].toNat : Int) wz; rw [hb] at h; exact h : Calls Tryz.prog 80 #[.int .u8 (X[k].toNat : Int)] wz (Ret (.bool false) wz)))
        have HN := Lib.hid (by
          rw [He.out]
          have h : t[k]? = some X[k] := by rw [← HXd.out]; exact Lib.data_getElem? X k hlt
          obtain ⟨h1, h2⟩ := List.getElem?_eq_some_iff.1 h
          unfold endP
          rw [List.drop_eq_getElem_cons h1, h2, runL, hb]
          simp only [Bool.not_false, if_true]
          omega : endP blankI t 0 = endP blankI t (k + 1))
        clear hb
        go_wp2_with fail
        refine (HB.out _).mono ?_
        rintro e w2 ⟨rfl, hw⟩
        obtain rfl := hw
        go_wp2_with fail
        go_roundw
        case rel => exact ⟨k + 1, by omega, by go_num, by first | trivial | rfl, HN.out⟩
        case measure => simp [intOf]; omega
      · have HB := Lib.hid (fun wz => (by have h := HBl.out (X[k].toNat : Int) wz; rw [hb] at h; exact h : Calls Tryz.prog 80 #[.int .u8 (X[k].toNat : Int)] wz (Ret (.bool true) wz)))
        have HN := Lib.hid (by
          rw [He.out]
          have h : t[k]? = some X[k] := by rw [← HXd.out]; exact Lib.data_getElem? X k hlt
          obtain ⟨h1, h2⟩ := List.getElem?_eq_some_iff.1 h
          unfold endP
          rw [List.drop_eq_getElem_cons h1, h2, runL, hb]
          rfl : endP blankI t 0 = k)
        clear hb
        go_wp2_with fail
        refine (HB.out _).mono ?_
        rintro e w2 ⟨rfl, hw⟩
        obtain rfl := hw
        have H1 := Lib.hid (by have h := take_slc X k; rw [HXd.out] at h; exact h : X.extract 0 k = Txt (t.take k))
        obtain ⟨b, hb2⟩ : ∃ b, blkE t k = b := ⟨_, rfl⟩
        have hbl : b ≤ X.size := by rw [← hb2, HXs.out]; exact blkE_len t k (by have := HXs.out; omega)
        have HNu := Lib.hid (fun wz => (by have h := rnumber_any (Txt (t.take k)) wz (by rw [txt_size, List.length_take]; unfold maxLen; omega); rw [txt_list] at h; exact h))
        have HBe := Lib.hid (fun wz => (by have h := rblkE X k wz (by omega) hk; rw [HXd.out, hb2] at h; exact h : Calls Tryz.prog 78 #[.string X, .int .i64 (k : Int)] wz (Ret (.int .i64 (b : Int)) wz)))
        have H2 := Lib.hid (by rw [slc_txt, HXd.out, slc_full _ _ _ (by have := HXs.out; omega)] : X.extract b X.size = Txt (t.drop b))
        have HF := Lib.hid (by rw [HV.out, HN.out, hb2] : leadR s.data.toList = (numN (t.take k), t.drop b, numE (t.take k)))
        have bI : (b : Int) ≤ (X.size : Int) := by omega
        have kI : (k : Int) ≤ (X.size : Int) := by omega
        clear hb2 hbl
        go_wp2_with fail
        rw [H1.out]
        refine (HNu.out _).mono ?_
        rintro e w3 ⟨rfl, hw⟩
        obtain rfl := hw
        go_upto_region 6 with fail
        go_quiet ((go_at_call 78; exact Calls.quiet_of_same ((HBe.out _).mono fun _ _ h => ⟨h.1, h.2.symm⟩)))
        go_wp2_with fail
        go_ret3
        unfold LeP
        rw [HF.out, ← H2.out]
        exact ⟨rfl, K1.out.drewN _⟩
    · have HN := Lib.hid (by
        rw [He.out]
        unfold endP
        rw [List.drop_eq_nil_of_le (by have := HXs.out; omega)]
        rfl : endP blankI t 0 = k)
      have H1 := Lib.hid (by have h := take_slc X k; rw [HXd.out] at h; exact h : X.extract 0 k = Txt (t.take k))
      obtain ⟨b, hb2⟩ : ∃ b, blkE t k = b := ⟨_, rfl⟩
      have hbl : b ≤ X.size := by rw [← hb2, HXs.out]; exact blkE_len t k (by have := HXs.out; omega)
      have HNu := Lib.hid (fun wz => (by have h := rnumber_any (Txt (t.take k)) wz (by rw [txt_size, List.length_take]; unfold maxLen; omega); rw [txt_list] at h; exact h))
      have HBe := Lib.hid (fun wz => (by have h := rblkE X k wz (by omega) hk; rw [HXd.out, hb2] at h; exact h : Calls Tryz.prog 78 #[.string X, .int .i64 (k : Int)] wz (Ret (.int .i64 (b : Int)) wz)))
      have H2 := Lib.hid (by rw [slc_txt, HXd.out, slc_full _ _ _ (by have := HXs.out; omega)] : X.extract b X.size = Txt (t.drop b))
      have HF := Lib.hid (by rw [HV.out, HN.out, hb2] : leadR s.data.toList = (numN (t.take k), t.drop b, numE (t.take k)))
      have bI : (b : Int) ≤ (X.size : Int) := by omega
      have kI : (k : Int) ≤ (X.size : Int) := by omega
      clear hb2 hbl
      go_wp2_with fail
      rw [H1.out]
      refine (HNu.out _).mono ?_
      rintro e w3 ⟨rfl, hw⟩
      obtain rfl := hw
      go_upto_region 6 with fail
      go_quiet ((go_at_call 78; exact Calls.quiet_of_same ((HBe.out _).mono fun _ _ h => ⟨h.1, h.2.symm⟩)))
      go_wp2_with fail
      go_ret3
      unfold LeP
      rw [HF.out, ← H2.out]
      exact ⟨rfl, K1.out.drewN _⟩
end Ad
end Go.Proofs.YtmmjfofdnpafkaaGreatDoor
