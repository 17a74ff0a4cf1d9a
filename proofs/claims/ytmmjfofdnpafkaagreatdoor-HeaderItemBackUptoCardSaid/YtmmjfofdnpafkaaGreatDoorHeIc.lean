/- The law HeaderItemBack. The value and the parameters have at most 2^20 letters and values together. -/
import Derived.Test.YtmmjfofdnpafkaaGreatDoorHeIb
import Derived.Test.YtmmjfofdnpafkaaGreatDoorM13
import Derived.Test.YtmmjfofdnpafkaaGreatDoorAdAq
import Derived.Test.YtmmjfofdnpafkaaGreatDoorAdLi
import Derived.Test.YtmmjfofdnpafkaaGreatDoorAdSo
namespace Go.Proofs.YtmmjfofdnpafkaaGreatDoor
namespace Ad
open Go.RowKit Lx

theorem sumP_perm {l l' : List Prm} (h : l'.Perm l) : sumP l' = sumP l := by
  induction h with
  | nil => rfl
  | cons x _ ih => simp only [sumP, ih]
  | swap x y l => simp only [sumP]; omega
  | trans _ _ h1 h2 => rw [h1, h2]
theorem pit_len (v : List UInt8) (l : List Prm) (m : Nat) (h : v.length + sumP l ≤ m) (t : List UInt8) (ht : pitO v l = some t) : t.length ≤ 2 * m := by
  unfold pitO at ht
  cases hp : ppO (srt l) with
  | none => rw [hp] at ht; cases ht
  | some p =>
    rw [hp] at ht
    dsimp only at ht
    split at ht
    · injection ht with ht
      have := pp_sum (srt l) (sumP l) (by rw [sumP_perm (srt_perm l)]; exact Nat.le_refl _) p hp
      rw [← ht, List.length_append]
      omega
    · cases ht
set_option maxRecDepth 100000 in
set_option maxHeartbeats 8000000 in
theorem itemback_law (B : Nat) (v : List UInt8) (A : Option Addr) (c : Nat) (l : List Prm) (w : World) (hP : PmIn B w (.slice A l.length c) l) (hB : B ≤ w.heap.size) (hz : SzL 1048576 l) (hs : v.length + sumP l ≤ 1048576) (hl : l.length ≤ 1048576) (H : HEnv w) :
    Calls Tryz.prog 12 #[.agg #[.string (Txt v), .slice A l.length c]] w (BoK true w) := by
  obtain ⟨w0, hw0⟩ : ∃ x, w.alloc (.cells #[.string (Txt v), .slice A l.length c] 59) = x := ⟨_, rfl⟩
  have B0 := Lib.hid (show Blk w0 w.heap.size 59 #[.string (Txt v), .slice A l.length c] from by rw [← hw0]; exact Blk.new w _ _)
  have k0 : Kp [] w w0 := by rw [← hw0]; exact (Kp.refl _ _).alloc _
  have K0 := Lib.hid k0
  have P0 := Lib.hid (hP.kp k0 hB (by simp))
  have hB0 := Nat.le_trans hB k0.size
  have HAw := Lib.hid (fun wz (h : HEnv wz) => hawake_any wz h)
  have HE := Lib.hid H
  have HZ := Lib.hid (show SzP l from fun p hp => by have := hz p hp; omega)
  obtain ⟨o, ho⟩ : ∃ o, pitO v l = o := ⟨_, rfl⟩
  have HO := Lib.hid ho
  have HT := Lib.hid (fun t (h : o = some t) => pit_len v l 1048576 hs t (by rw [ho, h]))
  have HR := Lib.hid (fun t (h : o = some t) => itm_back v l t (by rw [ho, h]))
  have hvl : v.length ≤ 1048576 := by omega
  clear k0 hP H hz ho hs
  go_enter Tryz.func12, Tryz.ntmps12
  have a0 := B0.out.cell 0
  have a1 := B0.out.cell 1
  by_cases h40 : 40 < l.length
  · go_wp2_with fail
    refine (HAw.out _ (HE.out.kp K0.out (by simp))).mono ?_
    rintro e w1 ⟨rfl, hK1⟩
    have K1 := Lib.hid (K0.out.trans hK1)
    clear hK1
    go_wp2_with fail
    go_ret
    exact ⟨rfl, K1.out⟩
  · go_wp2_with fail
    refine (printItem_any B v A c l w0 P0.out hB0 (by omega) HZ.out (by omega) (HE.out.kp K0.out (by simp)).env).mono ?_
    rintro e w1 ⟨rfl, hK1⟩
    rw [HO.out]
    have K1 := Lib.hid (K0.out.trans hK1)
    have B1 := Lib.hid (B0.out.kp hK1 (by simp))
    have P1 := Lib.hid (P0.out.kp hK1 hB0 (by simp))
    have hB1 := Nat.le_trans hB0 hK1.size
    clear hK1 a0 a1
    cases o with
    | none =>
      simp only [Option.getD_none, Option.isSome_none, Bool.false_eq_true, if_false]
      have te := emp_yes [] rfl
      go_wp2_with fail
      refine (HAw.out _ (HE.out.kp K1.out (by simp))).mono ?_
      rintro e w2 ⟨rfl, hK2⟩
      have K2 := Lib.hid (K1.out.trans hK2)
      clear hK2
      go_wp2_with fail
      go_ret
      exact ⟨rfl, K2.out⟩
    | some t =>
      simp only [Option.getD_some, Option.isSome_some, if_true]
      have hi := HR.out t rfl
      have hlt := HT.out t rfl
      have HI := Lib.hid (fun wz (h : HEnv wz) => (by have h := item_any2 (Txt t) wz (by rw [txt_size]; omega) h.env; rw [txt_list, hi] at h; exact h : Calls Tryz.prog 43 #[.string (Txt t)] wz (ItP ((v, srt l), 0) wz)))
      clear hi hlt
      go_wp2_with fail
      refine (HI.out _ (HE.out.kp K1.out (by simp))).mono ?_
      rintro e w2 ⟨v2, rfl, hP2, hK2⟩
      obtain ⟨A2, c2, rfl⟩ := hP2.form
      dsimp only at hP2 ⊢
      obtain ⟨w3, hw3⟩ : ∃ x, w2.alloc (.cells #[.string (Txt v), .slice A2 (srt l).length c2] 59) = x := ⟨_, rfl⟩
      have k3 : Kp [] w2 w3 := by rw [← hw3]; exact (Kp.refl _ _).alloc _
      have Y3 := Lib.hid (show Blk w3 w2.heap.size 59 #[.string (Txt v), .slice A2 (srt l).length c2] from by rw [← hw3]; exact Blk.new w2 _ _)
      have Q3 := Lib.hid (hP2.grow k3 (by intro y hy; cases hy))
      have K3 := Lib.hid ((K1.out.trans hK2).trans k3)
      have B3 := Lib.hid (B1.out.kp (hK2.trans k3) (by simp))
      have P3 := Lib.hid (P1.out.kp (hK2.trans k3) hB1 (by simp))
      have hB3 := Nat.le_trans hB1 (hK2.trans k3).size
      have P3 := Lib.hid (P3.out.more hB3)
      have hsl : (srt l).length ≤ 1048576 := by rw [(srt_perm l).length_eq]; exact hl
      have EE := Lib.hid (HE.out.kp K3.out (by simp))
      clear hK2 k3 hP2
      have b0 := B3.out.cell 0
      have b1 := B3.out.cell 1
      have c0 := Y3.out.cell 0
      have c1 := Y3.out.cell 1
      have hvv : ((Txt v).toList == (Txt v).toList) = true := beq_self_eq_true _
      go_wp2_with fail
      go_region_held3 (fun w' => w'.cell? ⟨w.heap.size, 0, none⟩ = some (.string (Txt v)) ∧ w'.cell? ⟨w.heap.size, 1, none⟩ = some (.slice A l.length c) ∧ w'.cell? ⟨w2.heap.size, 0, none⟩ = some (.string (Txt v)) ∧ w'.cell? ⟨w2.heap.size, 1, none⟩ = some (.slice A2 (srt l).length c2)) (go_keep)
        ((first
          | (go_at_call 55; refine (rSorted_any _ _ l _ (P3.out.grow (Kp.drewN (Kp.refl [] w3) _) (by intro y hy; cases hy)) (Nat.le_refl _) (by omega)).mono ?_; rintro e w4 ⟨v4, rfl, hP4, hk4⟩; have hK4 := Kp.trans (Kp.drewN (Kp.refl [] w3) _) hk4; clear hk4; obtain ⟨A4, C4, rfl⟩ := hP4.form; have Q4 := Lib.hid hP4; clear hP4; have B3 := Lib.hid (B3.out.kp hK4 (by simp)); have Y3 := Lib.hid (Y3.out.kp hK4 (by simp)); have P3 := Lib.hid (P3.out.grow hK4 (by intro y hy; cases hy)); have Q3 := Lib.hid (Q3.out.grow hK4 (by intro y hy; cases hy)); have K3 := Lib.hid (K3.out.trans hK4); have EE := Lib.hid (EE.out.kp hK4 (by simp)); clear hK4 b0 b1 c0 c1; have b0 := B3.out.cell 0; have b1 := B3.out.cell 1; have c0 := Y3.out.cell 0; have c1 := Y3.out.cell 1)
          | (go_at_call 47; refine (same_self _ _ _ _ (srt l) _ Q3.out Q4.out (Nat.le_refl _) (Nat.le_refl _) (by omega)).mono ?_; rintro e w5 ⟨rfl, hK4⟩; have B3 := Lib.hid (B3.out.kp hK4 (by simp)); have Y3 := Lib.hid (Y3.out.kp hK4 (by simp)); have P3 := Lib.hid (P3.out.grow hK4 (by intro y hy; cases hy)); have Q3 := Lib.hid (Q3.out.grow hK4 (by intro y hy; cases hy)); have K3 := Lib.hid (K3.out.trans hK4); have EE := Lib.hid (EE.out.kp hK4 (by simp)); clear hK4 b0 b1 c0 c1; have b0 := B3.out.cell 0; have b1 := B3.out.cell 1; have c0 := Y3.out.cell 0; have c1 := Y3.out.cell 1)
          | (go_at_call 19; refine (HAw.out _ EE.out).mono ?_; rintro e w6 ⟨rfl, hK4⟩; have B3 := Lib.hid (B3.out.kp hK4 (by simp)); have Y3 := Lib.hid (Y3.out.kp hK4 (by simp)); have P3 := Lib.hid (P3.out.grow hK4 (by intro y hy; cases hy)); have Q3 := Lib.hid (Q3.out.grow hK4 (by intro y hy; cases hy)); have K3 := Lib.hid (K3.out.trans hK4); have EE := Lib.hid (EE.out.kp hK4 (by simp)); clear hK4 b0 b1 c0 c1; have b0 := B3.out.cell 0; have b1 := B3.out.cell 1; have c0 := Y3.out.cell 0; have c1 := Y3.out.cell 1)))
      go_wp2_with fail
      go_ret
      exact ⟨rfl, K3.out⟩
end Ad
end Go.Proofs.YtmmjfofdnpafkaaGreatDoor
