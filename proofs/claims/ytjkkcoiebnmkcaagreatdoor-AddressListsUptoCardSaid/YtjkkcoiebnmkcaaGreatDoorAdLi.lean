/- AddressLists of package dialtonelaw02 returns true for every text of at most 2^20 bytes, every list and every parameter, and nothing that was there is changed. -/
import Derived.Test.YtjkkcoiebnmkcaaGreatDoorAdSt
import Derived.Test.YtjkkcoiebnmkcaaGreatDoorM8
namespace Go.Proofs.YtjkkcoiebnmkcaaGreatDoor
namespace Ad
open Go.RowKit Lx

theorem stL_len (l : List Prm) (nm x : List UInt8) : (stL l nm x).length ≤ l.length + 1 := by
  unfold stL
  split
  · simp
  · simp
theorem same_self (B1 B2 : Nat) (va vb : Value) (l : List Prm) (w : World) (hA : PmIn B1 w va l) (hB : PmIn B2 w vb l) (h1 : B1 ≤ w.heap.size) (h2 : B2 ≤ w.heap.size) (hll : l.length ≤ 4294967296) : Calls Tryz.prog 29 #[va, vb] w (BoK true w) := by
  have := sameP_any B1 B2 va vb l l w hA hB h1 h2 hll hll
  rwa [beq_self_eq_true] at this
set_option maxRecDepth 100000 in
set_option maxHeartbeats 8000000 in
theorem lists_law (s : ByteArray) (B : Nat) (v : Value) (l : List Prm) (q1 q2 : List UInt8) (q3 : Bool) (w : World) (hs : s.size ≤ 1048576) (hP : PmIn B w v l) (hB : B ≤ w.heap.size) (hz : SzP l) (hl : l.length ≤ 2097152) (h1 : q1.length ≤ 2097152) (h2 : q2.length ≤ 2097152) (E : Env w) :
    Calls Tryz.prog 4 #[.string s, v, .agg #[.string (Txt q1), .string (Txt q2), .bool q3]] w (BoK true w) := by
  have hAl := (Kp.refl [] w).alloc (.cells #[.string (Txt q1), .string (Txt q2), .bool q3] 32)
  obtain ⟨wA, hwA⟩ : ∃ wA, w.alloc (.cells #[.string (Txt q1), .string (Txt q2), .bool q3] 32) = wA := ⟨_, rfl⟩
  have HBA := Lib.hid (show Blk wA w.heap.size 32 #[.string (Txt q1), .string (Txt q2), .bool q3] from by rw [← hwA]; exact Blk.new w _ _)
  rw [hwA] at hAl
  have PA := Lib.hid (hP.kp hAl hB (by simp))
  have EA := Lib.hid (E.kp hAl (by simp))
  have KA := Lib.hid hAl
  have hszA := hAl.size
  obtain ⟨A, c, rfl⟩ := hP.form
  clear hP hAl E
  by_cases h40 : 40 < l.length
  · go_enter Tryz.func4, Tryz.ntmps4
    go_wp2_with fail
    refine (awake_any _ EA.out).mono ?_
    rintro e w1 ⟨rfl, hK⟩
    have K1 := Lib.hid (KA.out.trans hK)
    clear hK
    go_wp2_with fail
    go_ret
    exact ⟨rfl, K1.out⟩
  · obtain ⟨r1, r2, r3, hr⟩ : ∃ r1 r2 r3, parR s.data.toList = (r1, r2, r3) := ⟨_, _, _, rfl⟩
    obtain ⟨po, hpo⟩ : ∃ o, ppO l = o := ⟨_, rfl⟩
    obtain ⟨pt, hpt⟩ : ∃ x, po.getD [] = x := ⟨_, rfl⟩
    obtain ⟨pe, hpe⟩ : ∃ x : Int, (if po.isSome then 0 else 2) = x := ⟨_, rfl⟩
    obtain ⟨gv, hgv⟩ : ∃ x, getV l q1 = x := ⟨_, rfl⟩
    obtain ⟨gb, hgb⟩ : ∃ x, getB l q1 = x := ⟨_, rfl⟩
    obtain ⟨sl, hsl⟩ : ∃ x, stL l q1 q2 = x := ⟨_, rfl⟩
    have hsll : sl.length ≤ 41 := by rw [← hsl]; have := stL_len l q1 q2; omega
    have HR := Lib.hid hr
    have HPo := Lib.hid hpo
    have HPt := Lib.hid hpt
    have HPe := Lib.hid hpe
    have HGv := Lib.hid hgv
    have HGb := Lib.hid hgb
    have HSl := Lib.hid hsl
    have b1 : ((Txt pt).toList == (Txt pt).toList) = true := beq_self_eq_true _
    have b2 : ((Txt gv).toList == (Txt gv).toList) = true := beq_self_eq_true _
    clear hr hpo hpt hpe hgv hgb hsl
    go_enter Tryz.func4, Tryz.ntmps4
    go_wp2_with fail
    refine (Params_any s _ (by omega) EA.out).mono ?_
    rintro e w1 ⟨v1, rfl, hP1, hB1, hl1⟩
    rw [HR.out] at hP1 hl1 ⊢
    dsimp only at hP1 hl1 ⊢
    have hK1 := (Kp.refl [] wA).below hB1
    obtain ⟨A1, c1, rfl⟩ := hP1.form
    have P1 := Lib.hid hP1
    have Q1 := Lib.hid (PA.out.kp hK1 (by omega) (by simp))
    have K1 := Lib.hid (KA.out.trans hK1)
    have E1 := Lib.hid (EA.out.kp hK1 (by simp))
    have X1 := Lib.hid (HBA.out.kp hK1 (by simp))
    have hsz1 := hK1.size
    clear hK1 hB1 hP1 HBA
    go_wp2_with fail
    refine (rParams_any s _ (by omega)).mono ?_
    rintro e w2 ⟨v2, rfl, hP2, hB2, hl2⟩
    rw [HR.out] at hP2 hl2 ⊢
    dsimp only at hP2 hl2 ⊢
    have hK2 := (Kp.refl [] w1).below hB2
    obtain ⟨A2, c2, rfl⟩ := hP2.form
    have P1 := Lib.hid (P1.out.kp hK2 (Nat.le_refl _) (by simp))
    have P2 := Lib.hid hP2
    have Q2 := Lib.hid (Q1.out.kp hK2 (by omega) (by simp))
    have K2 := Lib.hid (K1.out.trans hK2)
    have E2 := Lib.hid (E1.out.kp hK2 (by simp))
    have X2 := Lib.hid (X1.out.kp hK2 (by simp))
    have hsz2 := hK2.size
    clear hK2 hB2 hP2 X1 E1 K1 Q1
    go_wp2_with fail
    refine (printParams_any B _ l _ Q2.out (by omega) hz hl E2.out).mono ?_
    rintro e w3 ⟨rfl, hB3⟩
    rw [HPo.out, HPt.out, HPe.out]
    have hK3 := (Kp.refl [] w2).below hB3
    have P1 := Lib.hid (P1.out.kp hK3 (by omega) (by simp))
    have P2 := Lib.hid (P2.out.kp hK3 (by omega) (by simp))
    have Q3 := Lib.hid (Q2.out.kp hK3 (by omega) (by simp))
    have K3 := Lib.hid (K2.out.trans hK3)
    have E3 := Lib.hid (E2.out.kp hK3 (by simp))
    have X3 := Lib.hid (X2.out.kp hK3 (by simp))
    have hsz3 := hK3.size
    clear hK3 hB3 X2 E2 K2 Q2
    go_wp2_with fail
    refine (rPrintParams_any B _ l _ Q3.out (by omega) hz hl).mono ?_
    rintro e w4 ⟨rfl, hB4⟩
    rw [HPo.out, HPt.out, HPe.out]
    have hK4 := (Kp.refl [] w3).below hB4
    have P1 := Lib.hid (P1.out.kp hK4 (by omega) (by simp))
    have P2 := Lib.hid (P2.out.kp hK4 (by omega) (by simp))
    have Q4 := Lib.hid (Q3.out.kp hK4 (by omega) (by simp))
    have K4 := Lib.hid (K3.out.trans hK4)
    have E4 := Lib.hid (E3.out.kp hK4 (by simp))
    have X4 := Lib.hid (X3.out.kp hK4 (by simp))
    have hsz4 := hK4.size
    clear hK4 hB4 X3 E3 K3 Q3
    have x0 := X4.out.cell 0
    go_wp2_with fail
    refine (get_any B _ l q1 _ Q4.out (by omega) hz (by omega) h1).mono ?_
    rintro e w5 ⟨rfl, hK5⟩
    rw [HGv.out, HGb.out]
    have P1 := Lib.hid (P1.out.kp hK5 (by omega) (by simp))
    have P2 := Lib.hid (P2.out.kp hK5 (by omega) (by simp))
    have Q5 := Lib.hid (Q4.out.kp hK5 (by omega) (by simp))
    have K5 := Lib.hid (K4.out.trans hK5)
    have E5 := Lib.hid (E4.out.kp hK5 (by simp))
    have X5 := Lib.hid (X4.out.kp hK5 (by simp))
    have hsz5 := hK5.size
    clear hK5 x0 X4 E4 K4 Q4
    have x0 := X5.out.cell 0
    go_wp2_with fail
    refine (rget_any B _ l q1 _ Q5.out (by omega) hz (by omega) h1).mono ?_
    rintro e w6 ⟨rfl, hK6⟩
    rw [HGv.out, HGb.out]
    have P1 := Lib.hid (P1.out.kp hK6 (by omega) (by simp))
    have P2 := Lib.hid (P2.out.kp hK6 (by omega) (by simp))
    have Q6 := Lib.hid (Q5.out.kp hK6 (by omega) (by simp))
    have K6 := Lib.hid (K5.out.trans hK6)
    have E6 := Lib.hid (E5.out.kp hK6 (by simp))
    have X6 := Lib.hid (X5.out.kp hK6 (by simp))
    have hsz6 := hK6.size
    clear hK6 x0 X5 E5 K5 Q5
    have x0 := X6.out.cell 0
    have x1 := X6.out.cell 1
    go_wp2_with fail
    go_region_held3 (fun w' => w'.cell? ⟨w.heap.size, 0, none⟩ = some (.string (Txt q1)) ∧ w'.cell? ⟨w.heap.size, 1, none⟩ = some (.string (Txt q2))) (go_keep)
      ((first
        | (go_at_call_of 29 A1; refine (same_self _ _ _ _ r1 _ (P1.out.kp (Kp.drewN (Kp.refl [] w6) _) (by omega) (by simp)) (P2.out.kp (Kp.drewN (Kp.refl [] w6) _) (by omega) (by simp)) ?_ ?_ (by omega)).mono ?_; (all_goals first | (show _ ≤ w6.heap.size; omega) | skip); rintro e w7 ⟨rfl, hk7⟩; have hK7 := Kp.trans (Kp.drewN (Kp.refl [] w6) _) hk7; have Q7 := Lib.hid (Q6.out.kp hK7 (by omega) (by simp)); have K7 := Lib.hid (K6.out.trans hK7); have E7 := Lib.hid (E6.out.kp hK7 (by simp)); have X7 := Lib.hid (X6.out.kp hK7 (by simp)); have hsz7 := hK7.size; have d0 := X7.out.cell 0; have d1 := X7.out.cell 1; clear hK7 hk7)
        | (go_at_call 30; refine (set_any B _ l q1 q2 _ Q7.out (by omega) hz hl h1 h2).mono ?_; rintro e w8 ⟨v8, rfl, hP8, hK8⟩; rw [HSl.out] at hP8; obtain ⟨A8, c8, rfl⟩ := hP8.form; have P8 := Lib.hid hP8; have Q8 := Lib.hid (Q7.out.kp hK8 (by omega) (by simp)); have K8 := Lib.hid (K7.out.trans hK8); have E8 := Lib.hid (E7.out.kp hK8 (by simp)); have X8 := Lib.hid (X7.out.kp hK8 (by simp)); have hsz8 := hK8.size; clear hK8 hP8 d0 d1; have d0 := X8.out.cell 0; have d1 := X8.out.cell 1)
        | (go_at_call 31; refine (rset_any B _ l q1 q2 _ Q8.out (by omega) hz hl h1 h2).mono ?_; rintro e w9 ⟨v9, rfl, hP9, hK9⟩; rw [HSl.out] at hP9; obtain ⟨A9, c9, rfl⟩ := hP9.form; have P9 := Lib.hid hP9; have P8 := Lib.hid (P8.out.kp hK9 (Nat.le_refl _) (by simp)); have K9 := Lib.hid (K8.out.trans hK9); have E9 := Lib.hid (E8.out.kp hK9 (by simp)); have X9 := Lib.hid (X8.out.kp hK9 (by simp)); have hsz9 := hK9.size; clear hK9 hP9 d0 d1; have d0 := X9.out.cell 0; have d1 := X9.out.cell 1)
        | (go_at_call_of 29 A8; refine (same_self _ _ _ _ sl _ P8.out P9.out (by omega) (Nat.le_refl _) (by omega)).mono ?_; rintro e w10 ⟨rfl, hK10⟩; have K10 := Lib.hid (K9.out.trans hK10); have E10 := Lib.hid (E9.out.kp hK10 (by simp)); have X10 := Lib.hid (X9.out.kp hK10 (by simp)); clear hK10 d0 d1; have d0 := X10.out.cell 0; have d1 := X10.out.cell 1)
        | (go_at_call 22; refine (awake_any _ E10.out).mono ?_; rintro e w11 ⟨rfl, hK11⟩; have K11 := Lib.hid (K10.out.trans hK11); have X11 := Lib.hid (X10.out.kp hK11 (by simp)); clear hK11 d0 d1; have d0 := X11.out.cell 0; have d1 := X11.out.cell 1)))
    go_wp2_with fail
    go_ret
    exact ⟨rfl, K11.out⟩
end Ad
end Go.Proofs.YtjkkcoiebnmkcaaGreatDoor
