/- Contracts of the reference's rest, bare and ParseAddress (dialtoneref02). A text has at most 2^20 bytes. -/
import Derived.Test.YtonbkedjlbhpfaaGreatDoorAdWc
import Derived.Test.YtonbkedjlbhpfaaGreatDoorAdVt
import Derived.Test.YtonbkedjlbhpfaaGreatDoorM7
namespace Go.Proofs.YtonbkedjlbhpfaaGreatDoor
namespace Ad
open Go.RowKit Lx

theorem valR_le (l : List UInt8) (k : Nat) (hk : k ≤ l.length) : (valR l k).2.1 ≤ l.length + 2 := by
  unfold valR
  split
  · rename_i h34
    have hlt := atB_lt l k (by rw [h34]; decide)
    obtain ⟨h1, _⟩ := uq34 l k h34
    dsimp only
    rw [h1, Int.toNat_natCast]
    have h := qEnd_le _ (l.drop (k + 1)) (k + 1) (Nat.le_refl _)
    have hR : uqR l k = qEnd (l.drop (k + 1)) (k + 1) := by unfold uqR; rw [Int.toNat_natCast]
    rw [hR]
    rw [List.length_drop] at h
    omega
  · split
    · cases hostO (slc l k (min (endP (· == 93) l k + 1) l.length)) with
      | none => dsimp only; omega
      | some h => dsimp only; omega
    · split
      · dsimp only; omega
      · dsimp only
        have := runL_le tokI (l.drop k)
        rw [List.length_drop] at this
        unfold tokE; omega
theorem tokE_len (l : List UInt8) (k : Nat) (hk : k ≤ l.length) : tokE l k ≤ l.length := by
  have := runL_le tokI (l.drop k)
  rw [List.length_drop] at this
  unfold tokE; omega
theorem blkE_len (l : List UInt8) (k : Nat) (hk : k ≤ l.length) : blkE l k ≤ l.length := by
  have := runL_le blankI (l.drop k)
  rw [List.length_drop] at this
  unfold blkE; omega
theorem pmR_le (l : List UInt8) (k : Nat) (hk : k ≤ l.length) : (pmR l k).2.1 ≤ l.length + 2 := by
  by_cases hz : tokE l k = k
  · rw [pmR_none _ _ hz]; dsimp only; omega
  · have h1 := tokE_len l k hk
    have h2 := blkE_len l _ h1
    by_cases h61 : atB l (blkE l (tokE l k)) = 61
    · rw [pmR_val _ _ hz h61]
      have := atB_lt l _ (by rw [h61]; decide : atB l (blkE l (tokE l k)) ≠ -1)
      exact valR_le l _ (blkE_len l _ (by omega))
    · rw [pmR_bare _ _ hz h61]; dsimp only; omega
theorem parF_le (l : List UInt8) : ∀ (n k : Nat) (acc : List Prm), (parF n l k acc).2.1 ≤ l.length + 2 := by
  intro n
  induction n with
  | zero => intro k acc; exact Nat.zero_le _
  | succ n ih =>
    intro k acc
    rcases Nat.lt_or_ge k l.length with hk | hk
    · by_cases h59 : atB l k = 59
      · by_cases h3 : (pmR l (blkE l (k + 1))).2.2 = 0
        · by_cases h4 : room acc (pmR l (blkE l (k + 1))).1.1 = 0
          · rw [parF_step n l k acc hk h59 h3 h4]; exact ih _ _
          · rw [parF_err3 n l k acc hk h59 h3 h4]; have := blkE_len l (k + 1) hk; dsimp only; omega
        · rw [parF_err2 n l k acc hk h59 h3]; exact pmR_le l _ (blkE_len l (k + 1) hk)
      · rw [parF_err1 n l k acc hk h59]; dsimp only; omega
    · rw [parF_end n l k acc hk]; exact Nat.zero_le _
set_option maxRecDepth 100000 in
set_option maxHeartbeats 8000000 in
theorem rrest_any (d : List UInt8) (s : ByteArray) (a te tr : Nat) (w : World) (hs : s.size ≤ 1048576) (ha : a ≤ te) (hte : te ≤ s.size) (htr : tr ≤ s.size) :
    Calls Tryz.prog 85 #[.string s, .string (Txt d), .int .i64 a, .int .i64 te, .int .i64 tr] w (AdrP (restR s.data.toList d a te tr) w) := by
  obtain ⟨u, n, x, hr⟩ : ∃ a' b' c', parse (slc s.data.toList a te) = (a', b', c') := ⟨_, _, _, rfl⟩
  obtain ⟨ps, m, y, hr2⟩ : ∃ a' b' c', parR (s.data.toList.drop tr) = (a', b', c') := ⟨_, _, _, rfl⟩
  obtain ⟨q1, q2, q3⟩ := parR_drop s.data.toList tr (by rw [len_list]; exact htr)
  obtain ⟨at1, _⟩ := parse_at (slc s.data.toList a te)
  have sl1 := slc_le s.data.toList a te
  rw [hr] at at1
  have pl2 := parF_le (s.data.toList.drop tr) ((s.data.toList.drop tr).length + 1) (blkE (s.data.toList.drop tr) 0) []
  rw [show parF ((s.data.toList.drop tr).length + 1) (s.data.toList.drop tr) (blkE (s.data.toList.drop tr) 0) [] = parR (s.data.toList.drop tr) from rfl] at pl2
  rw [hr2] at q1 q2 q3 pl2
  rw [List.length_drop, len_list] at pl2
  dsimp only at q1 q2 q3 pl2 at1
  rw [← q2] at q3
  have HV := Lib.hid (restR_eq s.data.toList d a te tr u n x hr (parF (s.data.toList.length + 1) s.data.toList (blkE s.data.toList tr) []).1 (parF (s.data.toList.length + 1) s.data.toList (blkE s.data.toList tr) []).2.1 (parF (s.data.toList.length + 1) s.data.toList (blkE s.data.toList tr) []).2.2 rfl)
  rw [← q1, ← q2] at HV
  have Q3 := Lib.hid q3
  have HPr := Lib.hid (fun wz => (by have h := rParse_any (s.extract a te) wz (by have := ext_sz s a te; omega); rw [slc_data, hr] at h; exact h : Calls Tryz.prog 20 #[.string (s.extract a te)] wz (UrP (u, n, x) wz)))
  have HPa := Lib.hid (fun wz => (by have h := rParams_any (s.extract tr s.size) wz (by have := ext_sz s tr s.size; omega); rw [slc_data, slc_full _ _ _ (by rw [len_list]; exact Nat.le_refl _), hr2] at h; exact h : Calls Tryz.prog 106 #[.string (s.extract tr s.size)] wz (PaP (ps, m, y) wz)))
  obtain ⟨w0, hw0⟩ : ∃ x, w.alloc (.cells #[.string ⟨#[]⟩, .string ⟨#[]⟩, .string ⟨#[]⟩, .string ⟨#[]⟩, .int .i64 0, .slice none 0 0, .slice none 0 0, .slice none 0 0] 32) = x := ⟨_, rfl⟩
  have K0 := Lib.hid (show Kp [] w w0 from by rw [← hw0]; exact (Kp.refl _ _).alloc _)
  have Z0 := Lib.hid (show Zab w0 w.heap.size from by rw [← hw0]; exact Blk.new w 32 _)
  have ha64 : (a : Int) ≤ (te : Int) := by omega
  have ht64 : (te : Int) ≤ (s.size : Int) := by omega
  have hr64 : (tr : Int) ≤ (s.size : Int) := by omega
  obtain ⟨an, han⟩ : ∃ x, a + n = x := ⟨_, rfl⟩
  have wan : IntKind.i64.wrap ((a : Int) + (n : Int)) = (an : Int) := by rw [IntWalk.i64_in _ (by omega)]; omega
  obtain ⟨tm, htm⟩ : ∃ x, tr + m = x := ⟨_, rfl⟩
  have wtm : IntKind.i64.wrap ((tr : Int) + (m : Int)) = (tm : Int) := by rw [IntWalk.i64_in _ (by omega)]; omega
  rw [han] at HV
  have Htm := Lib.hid htm
  clear hr hr2 q1 q2 q3 at1 pl2 han htm
  go_enter Tryz.func85, Tryz.ntmps85
  go_wp2_with fail
  refine (HPr.out _).mono ?_
  rintro e w2 ⟨v, rfl, hu, hB⟩
  have hsz0 := Z0.out.lt
  have hK2 := (Kp.refl [] w0).below hB
  have K2 := Lib.hid (K0.out.trans hK2)
  have Z2 := Lib.hid (show Zab w2 w.heap.size from Z0.out.kp hK2 (by simp))
  have hz2 := Z2.out.lt
  obtain ⟨vp, vh, rfl, hp, hh⟩ := hu
  obtain ⟨A1, C1, rfl⟩ := hp.form
  obtain ⟨A2, C2, rfl⟩ := hh.form
  dsimp only at hp hh ⊢
  obtain ⟨S, hS⟩ : ∃ S, u.scheme = S := ⟨_, rfl⟩
  obtain ⟨U, hU⟩ : ∃ S, u.user = S := ⟨_, rfl⟩
  obtain ⟨H, hH⟩ : ∃ S, u.host = S := ⟨_, rfl⟩
  obtain ⟨P, hP⟩ : ∃ S, u.port = S := ⟨_, rfl⟩
  rw [hS, hU, hH, hP]
  have HUe := Lib.hid (show u = ⟨S, U, H, P, u.params, u.heads⟩ from by rw [← hS, ← hU, ← hH, ← hP])
  clear hS hU hH hP
  obtain ⟨g, hg⟩ : ∃ x, w2.heap.size = x := ⟨_, rfl⟩
  obtain ⟨w3, hw3⟩ : ∃ x, w2.alloc (.cells #[.string (Txt S), .string (Txt U), .string (Txt H), .int .i64 P, .slice A1 u.params.length C1, .slice A2 u.heads.length C2] 24) = x := ⟨_, rfl⟩
  have hKa : Kp [] w2 w3 := by rw [← hw3]; exact (Kp.refl _ _).alloc _
  have K3 := Lib.hid (K2.out.trans hKa)
  have Z3 := Lib.hid (show Zab w3 w.heap.size from Z2.out.kp hKa (by simp))
  have U3 := Lib.hid (show Urb w3 g (.string (Txt S)) (.string (Txt U)) (.string (Txt H)) (.int .i64 P) (.slice A1 u.params.length C1) (.slice A2 u.heads.length C2) from by rw [← hw3, ← hg]; exact Blk.new w2 _ _)
  have Hp3 := Lib.hid (hp.grow hKa (by intro y hy; cases hy))
  have Hh3 := Lib.hid (hh.grow hKa (by intro y hy; cases hy))
  clear hB hK2 hp hh hKa
  by_cases hx : x = 0
  · have bx : (x != 0) = false := by rw [hx]; rfl
    have HV1 := Lib.hid (HV.out.trans (if_neg (fun h => h hx)))
    clear hx
    go_upto_region 4 with fail
    try rw [hw3]
    go_wp2_with fail
    refine (HPa.out _).mono ?_
    rintro e w4 ⟨v4, rfl, hp4, hB4, hpl⟩
    have hK4 := (Kp.refl [] w3).below hB4
    have K4 := Lib.hid (K3.out.trans hK4)
    have Z4 := Lib.hid (show Zab w4 w.heap.size from Z3.out.kp hK4 (by simp))
    have U4 := Lib.hid (show Urb w4 g _ _ _ _ _ _ from Blk.kp U3.out hK4 (by simp))
    have Hp4 := Lib.hid (Hp3.out.grow hK4 (by intro y hy; cases hy))
    have Hh4 := Lib.hid (Hh3.out.grow hK4 (by intro y hy; cases hy))
    obtain ⟨A3, C3, rfl⟩ := hp4.form
    have Hq4 := Lib.hid hp4
    clear hB4 hK4 hp4 hpl
    dsimp only at Hq4 ⊢
    have d0 := Z4.out.cell 0
    have g0 := Z4.out.frozen 0
    have d1 := Z4.out.cell 1
    have g1 := Z4.out.frozen 1
    have d2 := Z4.out.cell 2
    have g2 := Z4.out.frozen 2
    have d3 := Z4.out.cell 3
    have g3 := Z4.out.frozen 3
    have d4 := Z4.out.cell 4
    have g4 := Z4.out.frozen 4
    have d5 := Z4.out.cell 5
    have g5 := Z4.out.frozen 5
    have d6 := Z4.out.cell 6
    have g6 := Z4.out.frozen 6
    have d7 := Z4.out.cell 7
    have g7 := Z4.out.frozen 7
    by_cases hy : y = 0
    · have bY : (y != 0) = false := by rw [hy]; rfl
      have HF := Lib.hid (HV1.out.trans (if_neg (fun h => h hy)))
      have u0 := U4.out.cell 0
      have u1 := U4.out.cell 1
      have u2 := U4.out.cell 2
      have u3 := U4.out.cell 3
      have u4 := U4.out.cell 4
      have u5 := U4.out.cell 5
      clear hy
      go_wp2_with fail
      refine bodyPost_ret (results_three rfl _ _ w.heap.size 32 _ (0, 0) _ rfl (blk8 Z4.out _ _ _ _ _ _ _ _) Tryz.underlying32 rfl infoAdr) rfl ?_
      rw [HF.out]
      exact adr_out w.heap.size w w4 ⟨d, u, ps⟩ 0 0 _ _ _ _ _ _ _ _ _ _ _ _ _ _ (by rw [HUe.out]; exact ⟨_, _, _, rfl, Hp4.out, Hh4.out, Hq4.out⟩) K4.out (Nat.le_refl _) Z4.out
    · have bY : (y != 0) = true := by rw [bne_iff_ne]; exact hy
      have HF := Lib.hid (by rw [HV1.out, if_pos hy, ← Q3.out hy, Htm.out] : restR s.data.toList d a te tr = (nilA, tm, y))
      clear hy
      go_wp2_with fail
      refine bodyPost_ret (results_three rfl _ _ w.heap.size 32 _ (0, 0) _ rfl (blk8 Z4.out _ _ _ _ _ _ _ _) Tryz.underlying32 rfl infoAdr) rfl ?_
      rw [HF.out]
      exact adr_out w.heap.size w w4 nilA tm y _ _ _ _ _ _ _ _ _ _ _ _ _ _ (AdIn.nil _ _) K4.out (Nat.le_refl _) Z4.out
  · have bx : (x != 0) = true := by rw [bne_iff_ne]; exact hx
    have HF := Lib.hid (HV.out.trans (if_pos hx))
    clear hx
    have d0 := Z3.out.cell 0
    have g0 := Z3.out.frozen 0
    have d1 := Z3.out.cell 1
    have g1 := Z3.out.frozen 1
    have d2 := Z3.out.cell 2
    have g2 := Z3.out.frozen 2
    have d3 := Z3.out.cell 3
    have g3 := Z3.out.frozen 3
    have d4 := Z3.out.cell 4
    have g4 := Z3.out.frozen 4
    have d5 := Z3.out.cell 5
    have g5 := Z3.out.frozen 5
    have d6 := Z3.out.cell 6
    have g6 := Z3.out.frozen 6
    have d7 := Z3.out.cell 7
    have g7 := Z3.out.frozen 7
    go_upto_region 3 with fail
    try rw [hw3]
    go_wp2_with fail
    refine bodyPost_ret (results_three rfl _ _ w.heap.size 32 _ (0, 0) _ rfl (blk8 Z3.out _ _ _ _ _ _ _ _) Tryz.underlying32 rfl infoAdr) rfl ?_
    rw [HF.out]
    exact adr_out w.heap.size w w3 nilA an x _ _ _ _ _ _ _ _ _ _ _ _ _ _ (AdIn.nil _ _) K3.out (Nat.le_refl _) Z3.out
end Ad
end Go.Proofs.YtonbkedjlbhpfaaGreatDoor
