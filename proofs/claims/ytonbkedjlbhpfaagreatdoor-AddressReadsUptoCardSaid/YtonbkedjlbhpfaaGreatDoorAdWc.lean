/- Contract of the reference's display (dialtoneref02). A text has at most 2^20 bytes. -/
import Derived.Test.YtonbkedjlbhpfaaGreatDoorAdWb
import Derived.Test.YtonbkedjlbhpfaaGreatDoorAdVm
import Derived.Test.YtonbkedjlbhpfaaGreatDoorAdRn
import Derived.Test.YtonbkedjlbhpfaaGreatDoorM7
namespace Go.Proofs.YtonbkedjlbhpfaaGreatDoor
namespace Ad
open Go.RowKit Lx

/-- The display name, the offset of the angle bracket, the offset of an error, the error. -/
def dspR (l : List UInt8) (i less : Nat) : List UInt8 × Nat × Nat × Int :=
  if atB l i = 34 then
    (if uqE l i ≠ 0 then ([], 0, (uqN l i).toNat, uqE l i)
     else if atB l (blkE l (uqN l i).toNat) ≠ 60 then ([], 0, blkE l (uqN l i).toNat, 5) else (uqT l i, blkE l (uqN l i).toNat, 0, 0))
  else if (tksF (l.length + 1) l i less []).2.2 ≠ 0 then ([], 0, (tksF (l.length + 1) l i less []).2) else (joinL 32 (tksF (l.length + 1) l i less []).1, less, 0, 0)
def DsP (r : List UInt8 × Nat × Nat × Int) (w : World) (e : Ending) (w' : World) : Prop :=
  e = .returned (.tuple #[.string (Txt r.1), .int .i64 (r.2.1 : Nat), .int .i64 (r.2.2.1 : Nat), .int .u8 r.2.2.2]) ∧ Kp [] w w'
theorem ret_4 {t u : ByteArray} {n m a b c d : Int} (h1 : t = u) (h2 : n = m) (h3 : a = b) (h4 : c = d) : Ending.returned (.tuple #[.string t, .int .i64 n, .int .i64 a, .int .u8 c]) = .returned (.tuple #[.string u, .int .i64 m, .int .i64 b, .int .u8 d]) := by rw [h1, h2, h3, h4]
theorem results_four {fn : Func} {t u v x : Tmp} (h : fn.results = #[.tmp t, .tmp u, .tmp v, .tmp x]) (tmps : Array Value) (P : Program) (w : World) :
    (results fn tmps).run P w = .ok (.tuple #[tmps.getD t undef, tmps.getD u undef, tmps.getD v undef, tmps.getD x undef]) w := by
  simp [results, h]
theorem ext_sz (s : ByteArray) (a b : Nat) : (s.extract a b).size ≤ s.size := by simp; omega
theorem uqN_le (l : List UInt8) (i : Nat) (h : atB l i = 34) (h0 : uqE l i = 0) : (uqN l i).toNat ≤ l.length := by
  obtain ⟨h1, h2⟩ := uq34 l i h
  rw [h1, Int.toNat_natCast]
  rw [h2] at h0
  have hi := atB_lt l i (by rw [h]; decide)
  have hR : uqR l i = qEnd (l.drop (i + 1)) (i + 1) := by unfold uqR; rw [Int.toNat_natCast]
  rw [hR] at h0 ⊢
  have := qEnd_part _ (l.drop (i + 1)) (i + 1) (qEnd (l.drop (i + 1)) (i + 1)).1 (Nat.le_refl _) (by rw [← h0])
  simp only [List.length_drop] at this
  omega
set_option maxRecDepth 100000 in
set_option maxHeartbeats 4000000 in
theorem rdisplay_q (s : ByteArray) (i less : Nat) (lz : Int) (w : World) (hs : s.size ≤ 1048576) (h34 : atB s.data.toList i = 34) :
    Calls Tryz.prog 84 #[.string s, .int .i64 i, .int .i64 lz] w (DsP (dspR s.data.toList i less) w) := by
  have hlt := atB_lt _ _ (by rw [h34]; decide : atB s.data.toList i ≠ -1)
  rw [len_list] at hlt
  have h3 := h34
  rw [atB_get s i hlt] at h3
  have b34 : ((s[i].toNat : Int) == 34) = true := by rw [h3]; rfl
  obtain ⟨N, hN⟩ : ∃ N, (uqN s.data.toList i).toNat = N := ⟨_, rfl⟩
  have HNi := Lib.hid (by rw [← hN, (uq34 _ _ h34).1, Int.toNat_natCast] : uqN s.data.toList i = (N : Int))
  obtain ⟨x, hx⟩ : ∃ x, uqE s.data.toList i = x := ⟨_, rfl⟩
  have hNl := uqN_le s.data.toList i h34
  rw [hN, hx, len_list] at hNl
  have HV := Lib.hid (by unfold dspR; rw [if_pos h34, hN, hx] : dspR s.data.toList i less = if x ≠ 0 then ([], 0, N, x) else if atB s.data.toList (blkE s.data.toList N) ≠ 60 then ([], 0, blkE s.data.toList N, 5) else (uqT s.data.toList i, blkE s.data.toList N, 0, 0))
  have HX := Lib.hid hx
  clear h34 h3 hN hx
  by_cases hx0 : x = 0
  · have bx : (x != 0) = false := by rw [hx0]; rfl
    have hN0 := hNl hx0
    obtain ⟨m, hm⟩ : ∃ m, blkE s.data.toList N = m := ⟨_, rfl⟩
    obtain ⟨m1, m2⟩ := blkE_bd s N hN0
    rw [hm] at m1 m2
    have HM := Lib.hid hm
    have HW := Lib.hid (by have h := HV.out; rw [if_neg (fun h => h hx0), hm] at h; exact h : dspR s.data.toList i less = if atB s.data.toList m ≠ 60 then ([], 0, m, 5) else (uqT s.data.toList i, m, 0, 0))
    have hBl := fun wz => rblkE s N wz (by omega) hN0
    have HBl := Lib.hid hBl
    clear hx0 hm hBl hNl
    by_cases hms : m = s.size
    · have bm : ((m : Int) == (s.size : Int)) = true := by rw [hms]; simp
      have HF := Lib.hid (HW.out.trans (if_pos (by rw [atB_end _ _ (by rw [len_list]; omega)]; decide)))
      clear hms
      go_enter Tryz.func84, Tryz.ntmps84
      go_wp2_with fail
      refine (runquote_any s i _ (by omega)).mono ?_
      rintro e w1 ⟨rfl, hB⟩
      have K1 := Lib.hid ((Kp.refl [] w).below hB)
      rw [HNi.out, HX.out]
      clear hB
      go_wp2_with fail
      refine (HBl.out _).mono ?_
      rintro e w2 ⟨rfl, hw⟩
      rw [HM.out]
      obtain rfl := hw.symm
      go_wp2_with fail
      (try simp only [Exit.inBlock, Exit.then])
      refine bodyPost_ret (results_four rfl _ _ _) rfl ?_
      unfold DsP
      rw [HF.out]
      exact ⟨ret_4 rfl rfl rfl rfl, K1.out⟩
    · have bm : ((m : Int) == (s.size : Int)) = false := by rw [beq_eq_false_iff_ne]; omega
      have hml : m < s.size := by omega
      have hA := atB_get s m hml
      by_cases h60 : atB s.data.toList m = 60
      · have HF := Lib.hid (HW.out.trans (if_neg (fun h => h h60)))
        have b60 : ((s[m].toNat : Int) != 60) = false := by rw [hA] at h60; rw [h60]; rfl
        clear hms h60 hA
        go_enter Tryz.func84, Tryz.ntmps84
        go_wp2_with fail
        refine (runquote_any s i _ (by omega)).mono ?_
        rintro e w1 ⟨rfl, hB⟩
        have K1 := Lib.hid ((Kp.refl [] w).below hB)
        rw [HNi.out, HX.out]
        clear hB
        go_wp2_with fail
        refine (HBl.out _).mono ?_
        rintro e w2 ⟨rfl, hw⟩
        rw [HM.out]
        obtain rfl := hw.symm
        go_wp2_with fail
        (try simp only [Exit.inBlock, Exit.then])
        refine bodyPost_ret (results_four rfl _ _ _) rfl ?_
        unfold DsP
        rw [HF.out]
        exact ⟨ret_4 rfl rfl rfl rfl, K1.out⟩
      · have HF := Lib.hid (HW.out.trans (if_pos h60))
        have b60 : ((s[m].toNat : Int) != 60) = true := by rw [hA] at h60; rw [bne_iff_ne]; exact h60
        clear hms h60 hA
        go_enter Tryz.func84, Tryz.ntmps84
        go_wp2_with fail
        refine (runquote_any s i _ (by omega)).mono ?_
        rintro e w1 ⟨rfl, hB⟩
        have K1 := Lib.hid ((Kp.refl [] w).below hB)
        rw [HNi.out, HX.out]
        clear hB
        go_wp2_with fail
        refine (HBl.out _).mono ?_
        rintro e w2 ⟨rfl, hw⟩
        rw [HM.out]
        obtain rfl := hw.symm
        go_wp2_with fail
        (try simp only [Exit.inBlock, Exit.then])
        refine bodyPost_ret (results_four rfl _ _ _) rfl ?_
        unfold DsP
        rw [HF.out]
        exact ⟨ret_4 rfl rfl rfl rfl, K1.out⟩
  · have bx : (x != 0) = true := by rw [bne_iff_ne]; exact hx0
    have HF := Lib.hid (HV.out.trans (if_pos hx0))
    clear hx0 hNl
    go_enter Tryz.func84, Tryz.ntmps84
    go_wp2_with fail
    refine (runquote_any s i _ (by omega)).mono ?_
    rintro e w1 ⟨rfl, hB⟩
    have K1 := Lib.hid ((Kp.refl [] w).below hB)
    rw [HNi.out, HX.out]
    clear hB
    go_wp2_with fail
    (try simp only [Exit.inBlock, Exit.then])
    refine bodyPost_ret (results_four rfl _ _ _) rfl ?_
    unfold DsP
    rw [HF.out]
    exact ⟨ret_4 rfl rfl rfl rfl, K1.out⟩
set_option maxRecDepth 100000 in
set_option maxHeartbeats 8000000 in
theorem rdisplay_t (s : ByteArray) (i less : Nat) (w : World) (hs : s.size ≤ 1048576) (hi : i < s.size) (hls : less ≤ s.size) (h34 : atB s.data.toList i ≠ 34) :
    Calls Tryz.prog 84 #[.string s, .int .i64 i, .int .i64 less] w (DsP (dspR s.data.toList i less) w) := by
  have hA := atB_get s i hi
  have b34 : ((s[i].toNat : Int) == 34) = false := by rw [hA] at h34; rw [beq_eq_false_iff_ne]; exact h34
  obtain ⟨T, hT⟩ : ∃ T, tksF (s.data.toList.length + 1) s.data.toList i less [] = T := ⟨_, rfl⟩
  have HV := Lib.hid (by unfold dspR; rw [if_neg h34, hT] : dspR s.data.toList i less = if T.2.2 ≠ 0 then ([], 0, T.2) else (joinL 32 T.1, less, 0, 0))
  have HT := Lib.hid hT
  have hlen := len_list s
  have Hlen := Lib.hid hlen
  clear hA h34 hT
  clear hlen
  go_enter Tryz.func84, Tryz.ntmps84
  go_wp2_with fail
  go_loop [1, 13] (fun k nm => ∃ (j : Nat) (acc : List (List UInt8)) (q : List UInt8) (f : Nat), j ≤ s.size ∧ k = .int .i64 j ∧ nm = .string (Txt q) ∧ q = joinL 32 acc ∧ (∀ y ∈ acc, y ≠ []) ∧ acc.length ≤ j ∧ (acc.map List.length).sum ≤ j ∧ less - j < f ∧ tksF f s.data.toList j less acc = T) (fun k _ => less - (intOf k).toNat)
  case atStart => exact ⟨i, [], [], s.data.toList.length + 1, by omega, rfl, rfl, rfl, (fun y hy => by cases hy), by simp, by simp, by rw [Hlen.out]; omega, HT.out⟩
  case round =>
    obtain ⟨j, acc, q, f, hj, rfl, rfl, hq, hne, hal, hsum, hf, hTj⟩ := hrel
    obtain ⟨f, rfl⟩ : ∃ x, f = x + 1 := ⟨f - 1, by omega⟩
    have hql : q.length ≤ j + j := by rw [hq]; have := joinL_acc 32 acc j hsum; omega
    have Hq := Lib.hid hq
    have Hne := Lib.hid hne
    have Hsum := Lib.hid hsum
    have HTj := Lib.hid hTj
    clear hq hne hTj hsum
    have hqs : (Txt q).size ≤ 2097152 := by rw [txt_size]; omega
    by_cases hjl : j < less
    · have hjs : j < s.size := by omega
      have tj : (j : Int) < (less : Int) := by omega
      obtain ⟨k, hk⟩ : ∃ k, tokE s.data.toList j = k := ⟨_, rfl⟩
      obtain ⟨k1, k2⟩ := tokE_bd s j hj
      rw [hk] at k1 k2
      have HTk := Lib.hid (by have h := fun wz => rtokE s j wz (by omega) hj; rw [hk] at h; exact h)
      by_cases hkj : k = j
      · have bk : ((k : Int) == (j : Int)) = true := by rw [hkj]; simp
        have HF := Lib.hid (by rw [HV.out, ← HTj.out, tksF_bad f s.data.toList j less acc hjl (by rw [hk]; exact hkj)]; rfl : dspR s.data.toList i less = ([], 0, j, 5))
        clear hk hkj
        go_wp2_with fail
        refine (HTk.out _).mono ?_
        rintro e w2 ⟨rfl, hw⟩
        obtain rfl := hw.symm
        go_wp2_with fail
        (try simp only [Exit.inBlock, Exit.then])
        refine bodyPost_ret (results_four rfl _ _ _) rfl ?_
        unfold DsP
        rw [HF.out]
        exact ⟨ret_4 rfl rfl rfl rfl, Kp.refl _ _⟩
      · have bk : ((k : Int) == (j : Int)) = false := by rw [beq_eq_false_iff_ne]; omega
        have hkl : j < k := by omega
        obtain ⟨m, hm⟩ : ∃ m, blkE s.data.toList k = m := ⟨_, rfl⟩
        obtain ⟨m1, m2⟩ := blkE_bd s k k2
        rw [hm] at m1 m2
        have HBl := Lib.hid (by have h := fun wz => rblkE s k wz (by omega) k2; rw [hm] at h; exact h)
        have HTn := Lib.hid (by have h := HTj.out; rw [tksF_step f s.data.toList j less acc hjl (by rw [hk]; exact hkj), hk, hm] at h; exact h)
        obtain ⟨y, hy⟩ : ∃ y, slc s.data.toList j k = y := ⟨_, rfl⟩
        rw [hy] at HTn
        have hyl : y.length = k - j := by rw [← hy]; exact slc_len _ _ _ (by rw [len_list]; exact k2)
        have HE := Lib.hid (by rw [slc_txt, hy] : s.extract j k = Txt y)
        have hes := ext_sz s j k
        have hj64 : (j : Int) ≤ (k : Int) := by omega
        have hk64 : (k : Int) ≤ (s.size : Int) := by omega
        have Hyl := Lib.hid hyl
        clear hk hkj hm hy hyl
        by_cases hac : acc = []
        · have hq0 : q = [] := by rw [Hq.out, hac]; rfl
          have bq : ((Txt q).toList == ([] : List UInt8)) = true := (emp_D q).trans (decide_eq_true hq0)
          have HQ := Lib.hid (by rw [hq0]; exact (congrArg (fun z => Txt [] ++ z) HE.out).trans (cat_txt [] y) : Txt q ++ s.extract j k = Txt y)
          have HA := Lib.hid hac
          clear hq0 hac
          go_wp2_with fail
          refine (HTk.out _).mono ?_
          rintro e w2 ⟨rfl, hw⟩
          obtain rfl := hw.symm
          go_wp2_with fail
          refine (HBl.out _).mono ?_
          rintro e w2 ⟨rfl, hw⟩
          obtain rfl := hw.symm
          go_wp2_with fail
          go_round
          case rel => exact ⟨m, acc ++ [y], y, f, m2, by go_num, congrArg Value.string HQ.out, by rw [HA.out]; rfl, (fun z hz => by
            rcases List.mem_append.1 hz with h | h
            · exact Hne.out z h
            · rw [List.mem_singleton.1 h]; intro h2; have := Hyl.out; rw [h2] at this; simp at this; omega), by simp; omega, by rw [List.map_append, List.sum_append]; have := Hsum.out; have := Hyl.out; simp; omega, by omega, HTn.out⟩
          case measure => simp [intOf]; omega
        · have hq0 : q ≠ [] := by rw [Hq.out]; exact joinL_ne 32 acc hac Hne.out
          have bq : ((Txt q).toList == ([] : List UInt8)) = false := (emp_D q).trans (decide_eq_false hq0)
          have HQ := Lib.hid ((congrArg (fun z => Txt q ++ (⟨#[32]⟩ : ByteArray) ++ z) HE.out).trans (((congrArg (· ++ Txt y) (cat_txt q [32])).trans (cat_txt (q ++ [32]) y)).trans (by simp)) : Txt q ++ (⟨#[32]⟩ : ByteArray) ++ s.extract j k = Txt (q ++ 32 :: y))
          have HA := Lib.hid (by rw [jn_snoc, if_neg hac, ← Hq.out] : joinL 32 (acc ++ [y]) = q ++ 32 :: y)
          have hq32 : (Txt q ++ (⟨#[32]⟩ : ByteArray)).size ≤ 2097153 := by rw [ByteArray.size_append]; have := sz_one 32; omega
          clear hq0 hac
          go_wp2_with fail
          refine (HTk.out _).mono ?_
          rintro e w2 ⟨rfl, hw⟩
          obtain rfl := hw.symm
          go_wp2_with fail
          refine (HBl.out _).mono ?_
          rintro e w2 ⟨rfl, hw⟩
          obtain rfl := hw.symm
          go_wp2_with fail
          go_round
          case rel => exact ⟨m, acc ++ [y], q ++ 32 :: y, f, m2, by go_num, congrArg Value.string HQ.out, HA.out.symm, (fun z hz => by
            rcases List.mem_append.1 hz with h | h
            · exact Hne.out z h
            · rw [List.mem_singleton.1 h]; intro h2; have := Hyl.out; rw [h2] at this; simp at this; omega), by simp; omega, by rw [List.map_append, List.sum_append]; have := Hsum.out; have := Hyl.out; simp; omega, by omega, HTn.out⟩
          case measure => simp [intOf]; omega
    · have tj : ¬ (j : Int) < (less : Int) := by omega
      have HF := Lib.hid (by rw [HV.out, ← HTj.out, tksF_end f s.data.toList j less acc (by omega), ← Hq.out]; rfl : dspR s.data.toList i less = (q, less, 0, 0))
      go_wp2_with fail
      (try simp only [Exit.inBlock, Exit.then])
      refine bodyPost_ret (results_four rfl _ _ _) rfl ?_
      unfold DsP
      rw [HF.out]
      exact ⟨ret_4 rfl rfl rfl rfl, Kp.refl _ _⟩
end Ad
end Go.Proofs.YtonbkedjlbhpfaaGreatDoor
