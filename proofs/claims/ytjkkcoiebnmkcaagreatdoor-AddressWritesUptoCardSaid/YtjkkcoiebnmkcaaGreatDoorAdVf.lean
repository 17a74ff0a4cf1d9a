/- Contract of the reference's Normal (dialtoneref02). Texts have at most 2^21 bytes, lists at most 2^21 elements. -/
import Derived.Test.YtjkkcoiebnmkcaaGreatDoorAdVe
import Derived.Test.YtjkkcoiebnmkcaaGreatDoorAdVc
namespace Go.Proofs.YtjkkcoiebnmkcaaGreatDoor
namespace Ad
open Go.RowKit Lx

theorem num_ctl (l : List UInt8) (h : isNum l = true) : hasCtl l = false := by
  have key : ∀ c : Int, (digitI c || locC c) = true ∨ c = 43 → ctlI c = false := by
    intro c h
    unfold digitI locC at h
    unfold ctlI
    simp at h ⊢
    omega
  unfold hasCtl
  rw [List.any_eq_false]
  intro c hc
  rw [Bool.not_eq_true]
  rcases num_kinds l h with ⟨t, rfl, _, _, _, ht⟩ | ⟨_, _, _, _, hs⟩
  · rcases List.mem_cons.1 hc with rfl | hc
    · exact key _ (.inr rfl)
    · exact key _ (.inl (by rw [ht c hc]; rfl))
  · exact key _ (.inl (hs c hc))
theorem normal_no1 (S U H : List UInt8) (P : Int) (ps hs : List Prm) (h : (nmF 1 ps []).isSome = false) : normal ⟨S, U, H, P, ps, hs⟩ = none := by
  unfold normal
  rw [Option.isSome_eq_false_iff, Option.isNone_iff_eq_none] at h
  dsimp only
  rw [h]
theorem normal_no2 (S U H : List UInt8) (P : Int) (ps hs : List Prm) (h : (nmF 2 hs []).isSome = false) : normal ⟨S, U, H, P, ps, hs⟩ = none := by
  unfold normal
  rw [Option.isSome_eq_false_iff, Option.isNone_iff_eq_none] at h
  dsimp only
  rw [h]
  cases nmF 1 ps [] <;> rfl
theorem normal_in (S U H : List UInt8) (P : Int) (ps hs : List Prm) (h1 : (nmF 1 ps []).isSome = true) (h2 : (nmF 2 hs []).isSome = true) :
    normal ⟨S, U, H, P, ps, hs⟩ = (if lowL S = sipL ∨ lowL S = sipsL then
      (match hostO H with
       | some h => if 0 ≤ P ∧ P ≤ 65535 ∧ hasCtl U = false then some ⟨lowL S, U, h, P, srt (lowA ps), srt (lowA hs)⟩ else none
       | none => none)
    else if lowL S = telL then
      (if isNum U = true ∧ H = [] ∧ P = 0 ∧ hs = [] then some ⟨telL, U, [], 0, srt (lowA ps), []⟩ else none)
    else none) := by
  obtain ⟨p, hp⟩ := Option.isSome_iff_exists.1 h1
  obtain ⟨q, hq⟩ := Option.isSome_iff_exists.1 h2
  have e1 := nmF_low 1 ps p hp
  have e2 := nmF_low 2 hs q hq
  subst e1 e2
  unfold normal
  dsimp only
  rw [hp, hq]
  rfl
theorem normal_ctl (S U H : List UInt8) (P : Int) (ps hs : List Prm) (h1 : (nmF 1 ps []).isSome = true) (h2 : (nmF 2 hs []).isSome = true) (hc : hasCtl U = true) : normal ⟨S, U, H, P, ps, hs⟩ = none := by
  rw [normal_in S U H P ps hs h1 h2]
  by_cases hs1 : lowL S = sipL ∨ lowL S = sipsL
  · rw [if_pos hs1]
    cases hostO H with
    | none => rfl
    | some h => dsimp only; rw [if_neg (by rw [hc]; simp)]
  · rw [if_neg hs1]
    by_cases ht : lowL S = telL
    · rw [if_pos ht, if_neg]
      intro h
      have := num_ctl U h.1
      rw [hc] at this
      cases this
    · rw [if_neg ht]
set_option maxRecDepth 100000 in
set_option maxHeartbeats 8000000 in
theorem rNormal_any (B : Nat) (v : Value) (u : Uri) (w : World) (hU : UriIn B w v u) (hB : B ≤ w.heap.size) (hz : SzU u) :
    Calls Tryz.prog 36 #[v] w (NoP (normal u) w) := by
  obtain ⟨vp, vh, rfl, hp, hh⟩ := hU
  obtain ⟨a1, c1, rfl⟩ := hp.form
  obtain ⟨a2, c2, rfl⟩ := hh.form
  obtain ⟨S, U, H, P, ps, hs⟩ := u
  dsimp only at *
  have hzS := hz.scheme
  have hzU := hz.user
  have hzH := hz.host
  have hzp := hz.params
  have hzh := hz.heads
  dsimp only at hzS hzU hzH hzp hzh
  have hzps := Lib.hid (show SzP ps from hz.ps)
  have hzhs := Lib.hid (show SzP hs from hz.hs)
  have KA := Lib.hid ((Kp.refl [] w).alloc (.cells #[.string (Txt S), .string (Txt U), .string (Txt H), .int .i64 P, .slice a1 ps.length c1, .slice a2 hs.length c2] 42))
  have BA0 := Blk.new w 42 #[.string (Txt S), .string (Txt U), .string (Txt H), .int .i64 P, .slice a1 ps.length c1, .slice a2 hs.length c2]
  have hsA : (w.alloc (.cells #[.string (Txt S), .string (Txt U), .string (Txt H), .int .i64 P, .slice a1 ps.length c1, .slice a2 hs.length c2] 42)).heap.size = w.heap.size + 1 := by simp
  have BB0 := BA0.alloc (.cells zU 42)
  have ZB0 := Blk.new (w.alloc (.cells #[.string (Txt S), .string (Txt U), .string (Txt H), .int .i64 P, .slice a1 ps.length c1, .slice a2 hs.length c2] 42)) 42 zU
  rw [hsA] at ZB0
  have KB0 := KA.out.alloc (.cells zU 42)
  obtain ⟨w1, hw1⟩ : ∃ w1, (w.alloc (.cells #[.string (Txt S), .string (Txt U), .string (Txt H), .int .i64 P, .slice a1 ps.length c1, .slice a2 hs.length c2] 42)).alloc (.cells zU 42) = w1 := ⟨_, rfl⟩
  rw [hw1] at BB0 ZB0 KB0
  have B1 := Lib.hid BB0
  have Z1 := Lib.hid (show Zub w1 (w.heap.size + 1) from ZB0)
  have K1 := Lib.hid KB0
  have P1 := Lib.hid (hp.kp KB0 hB (by simp))
  have H1 := Lib.hid (hh.kp KB0 hB (by simp))
  have hs1 := KB0.size
  have b0 := BB0.cell 0
  have hne : ¬ w.heap.size + 1 = w.heap.size := by omega
  have hLo := Lib.hid (fun wz => rlowK S hzS wz)
  obtain ⟨L, hL⟩ : ∃ L, lowL S = L := ⟨_, rfl⟩
  have HL := Lib.hid hL
  rw [hL] at hLo
  clear hp hh BA0 ZB0 BB0 KB0 hsA hz hL
  go_enter Tryz.func36, Tryz.ntmps36
  go_wp2_with fail
  refine (hLo.out _).mono ?_
  rintro e w2 ⟨rfl, hK2⟩
  have B2 := Lib.hid (B1.out.kp hK2 (by simp))
  have Z2 := Lib.hid (show Zub _ _ from Z1.out.kp hK2 (by simp))
  have P2 := Lib.hid (P1.out.kp hK2 (by omega) (by simp))
  have H2 := Lib.hid (H1.out.kp hK2 (by omega) (by simp))
  have K2 := Lib.hid (K1.out.trans hK2)
  have hs2 := hK2.size
  clear hK2 b0
  have b0 := B2.out.cell 0
  have f0 := B2.out.frozen 0
  have hk3 := (Kp.refl [w.heap.size] w2).setCell (p := ⟨w.heap.size, 0, none⟩) (.inl (by simp)) (.string (Txt L))
  have B30 := show Blk (w2.setCell ⟨w.heap.size, 0, none⟩ (.string (Txt L))) w.heap.size 42 #[.string (Txt L), .string (Txt U), .string (Txt H), .int .i64 P, .slice a1 ps.length c1, .slice a2 hs.length c2] from B2.out.set_ 0 (.string (Txt L))
  have Z30 := show Zub (w2.setCell ⟨w.heap.size, 0, none⟩ (.string (Txt L))) (w.heap.size + 1) from Z2.out.kp hk3 (by simp)
  have K30 := K2.out.setCell (p := ⟨w.heap.size, 0, none⟩) (.inr (Nat.le_refl _)) (.string (Txt L))
  have P30 := P2.out.kp hk3 (by omega) (by intro y hy; rw [List.mem_singleton.1 hy]; exact hB)
  have H30 := H2.out.kp hk3 (by omega) (by intro y hy; rw [List.mem_singleton.1 hy]; exact hB)
  go_upto_region 2 with fail
  obtain ⟨w3, hw3⟩ : ∃ w3, w2.setCell ⟨w.heap.size, 0, none⟩ (.string (Txt L)) = w3 := ⟨_, rfl⟩
  rw [hw3] at hk3 B30 Z30 K30 P30 H30 ⊢
  have hs3 := hk3.size
  have B3 := Lib.hid B30
  have Z3 := Lib.hid Z30
  have K3 := Lib.hid K30
  have P3 := Lib.hid P30
  have H3 := Lib.hid H30
  clear hw3 hk3 B30 Z30 K30 P30 H30
  clear b0 f0
  have b4 := B3.out.cell 4
  have b5 := B3.out.cell 5
  have b1 := B3.out.cell 1
  obtain ⟨X1, hX1⟩ : ∃ X, (nmF 1 ps []).isSome = X := ⟨_, rfl⟩
  have HN1 := Lib.hid (by have h := rnamed_par B _ ps w3 P3.out (by omega) hzps.out hzp; rw [hX1] at h; exact h)
  have HX1 := Lib.hid hX1
  clear hX1
  cases X1
  · have HF := Lib.hid (normal_no1 S U H P ps hs HX1.out)
    go_wp2_with fail
    refine HN1.out.mono ?_
    rintro e w4 ⟨rfl, hK4⟩
    have B4 := Lib.hid (B3.out.kp hK4 (by simp))
    have Z4 := Lib.hid (show Zub _ _ from Z3.out.kp hK4 (by simp))
    have K4 := Lib.hid (K3.out.trans hK4)
    have hs4 := hK4.size
    clear hK4 b4 b5 b1
    have d0 := Z4.out.cell 0
    have g0 := Z4.out.frozen 0
    have d1 := Z4.out.cell 1
    have g1 := Z4.out.frozen 1
    have d2 := Z4.out.cell 2
    have g2 := Z4.out.frozen 2
    have d3 := Z4.out.cell 3
    have g3 := Z4.out.frozen 3
    have d4 := Z4.out.cell 4
    have g4 := Z4.out.frozen 4
    have d5 := Z4.out.cell 5
    have g5 := Z4.out.frozen 5
    go_wp2_with fail
    refine bodyPost_ret (results_two rfl _ _ (w.heap.size + 1) 42 _ (0, 0) _ rfl (blk6 Z4.out _ _ _ _ _ _) Tryz.underlying42 rfl infoUri) rfl ?_
    rw [HF.out]
    exact ⟨_, rfl, UriIn.nil _ _, (kp6 K4.out (.inr (by omega)) _ _ _ _ _ _).nilBelow⟩
  go_wp2_with fail
  refine HN1.out.mono ?_
  rintro e w4 ⟨rfl, hK4⟩
  have B4 := Lib.hid (B3.out.kp hK4 (by simp))
  have Z4 := Lib.hid (show Zub _ _ from Z3.out.kp hK4 (by simp))
  have P4 := Lib.hid (P3.out.kp hK4 (by omega) (by simp))
  have H4 := Lib.hid (H3.out.kp hK4 (by omega) (by simp))
  have K4 := Lib.hid (K3.out.trans hK4)
  have hs4 := hK4.size
  clear hK4 b4 b5 b1 HN1
  have b5 := B4.out.cell 5
  have b1 := B4.out.cell 1
  obtain ⟨X2, hX2⟩ : ∃ X, (nmF 2 hs []).isSome = X := ⟨_, rfl⟩
  have HN2 := Lib.hid (by have h := rnamed_hds B _ hs w4 H4.out (by omega) hzhs.out hzh; rw [hX2] at h; exact h)
  have HX2 := Lib.hid hX2
  clear hX2
  cases X2
  · have HF := Lib.hid (normal_no2 S U H P ps hs HX2.out)
    go_wp2_with fail
    refine HN2.out.mono ?_
    rintro e w5 ⟨rfl, hK5⟩
    have B5 := Lib.hid (B4.out.kp hK5 (by simp))
    have Z5 := Lib.hid (show Zub _ _ from Z4.out.kp hK5 (by simp))
    have K5 := Lib.hid (K4.out.trans hK5)
    have hs5 := hK5.size
    clear hK5 b5 b1
    have d0 := Z5.out.cell 0
    have g0 := Z5.out.frozen 0
    have d1 := Z5.out.cell 1
    have g1 := Z5.out.frozen 1
    have d2 := Z5.out.cell 2
    have g2 := Z5.out.frozen 2
    have d3 := Z5.out.cell 3
    have g3 := Z5.out.frozen 3
    have d4 := Z5.out.cell 4
    have g4 := Z5.out.frozen 4
    have d5 := Z5.out.cell 5
    have g5 := Z5.out.frozen 5
    go_wp2_with fail
    refine bodyPost_ret (results_two rfl _ _ (w.heap.size + 1) 42 _ (0, 0) _ rfl (blk6 Z5.out _ _ _ _ _ _) Tryz.underlying42 rfl infoUri) rfl ?_
    rw [HF.out]
    exact ⟨_, rfl, UriIn.nil _ _, (kp6 K5.out (.inr (by omega)) _ _ _ _ _ _).nilBelow⟩
  go_wp2_with fail
  refine HN2.out.mono ?_
  rintro e w5 ⟨rfl, hK5⟩
  have B5 := Lib.hid (B4.out.kp hK5 (by simp))
  have Z5 := Lib.hid (show Zub _ _ from Z4.out.kp hK5 (by simp))
  have P5 := Lib.hid (P4.out.kp hK5 (by omega) (by simp))
  have H5 := Lib.hid (H4.out.kp hK5 (by omega) (by simp))
  have K5 := Lib.hid (K4.out.trans hK5)
  have hs5 := hK5.size
  clear hK5 b5 b1 HN2
  have b1 := B5.out.cell 1
  obtain ⟨CC, hC⟩ : ∃ C, hasCtl U = C := ⟨_, rfl⟩
  have HP0 := Lib.hid (fun wz => rplainK U CC hC hzU wz)
  have HC := Lib.hid hC
  clear hC
  cases CC
  case true =>
    have HF := Lib.hid (normal_ctl S U H P ps hs HX1.out HX2.out HC.out)
    go_wp2_with fail
    refine (HP0.out _).mono ?_
    rintro e w6 ⟨rfl, hK6⟩
    have B6 := Lib.hid (B5.out.kp hK6 (by simp))
    have Z6 := Lib.hid (show Zub _ _ from Z5.out.kp hK6 (by simp))
    have K6 := Lib.hid (K5.out.trans hK6)
    have hs6 := hK6.size
    clear hK6 b1
    have d0 := Z6.out.cell 0
    have g0 := Z6.out.frozen 0
    have d1 := Z6.out.cell 1
    have g1 := Z6.out.frozen 1
    have d2 := Z6.out.cell 2
    have g2 := Z6.out.frozen 2
    have d3 := Z6.out.cell 3
    have g3 := Z6.out.frozen 3
    have d4 := Z6.out.cell 4
    have g4 := Z6.out.frozen 4
    have d5 := Z6.out.cell 5
    have g5 := Z6.out.frozen 5
    go_wp2_with fail
    refine bodyPost_ret (results_two rfl _ _ (w.heap.size + 1) 42 _ (0, 0) _ rfl (blk6 Z6.out _ _ _ _ _ _) Tryz.underlying42 rfl infoUri) rfl ?_
    rw [HF.out]
    exact ⟨_, rfl, UriIn.nil _ _, (kp6 K6.out (.inr (by omega)) _ _ _ _ _ _).nilBelow⟩
  have HV := Lib.hid (by have h := normal_in S U H P ps hs HX1.out HX2.out; rw [HL.out] at h; exact h)
  go_wp2_with fail
  refine (HP0.out _).mono ?_
  rintro e w6 ⟨rfl, hK6⟩
  have B6 := Lib.hid (B5.out.kp hK6 (by simp))
  have Z6 := Lib.hid (show Zub _ _ from Z5.out.kp hK6 (by simp))
  have P6 := Lib.hid (P5.out.kp hK6 (by omega) (by simp))
  have H6 := Lib.hid (H5.out.kp hK6 (by omega) (by simp))
  have K6 := Lib.hid (K5.out.trans hK6)
  have hs6 := hK6.size
  clear hK6 b1 HP0
  have b4 := B6.out.cell 4
  go_wp2_with fail
  refine (rlowered_any B _ ps w6 P6.out (by omega) hzps.out hzp).mono ?_
  rintro e w7 ⟨v7, rfl, hQ7, hK7⟩
  obtain ⟨A7, n7, rfl⟩ := hQ7.form
  obtain ⟨p7, hp7⟩ : ∃ x, srt (lowA ps) = x := ⟨_, rfl⟩
  have Hp7 := Lib.hid hp7
  rw [hp7] at hQ7 ⊢
  have Q7 := Lib.hid hQ7
  have B7 := Lib.hid (B6.out.kp hK7 (by simp))
  have Z7 := Lib.hid (show Zub _ _ from Z6.out.kp hK7 (by simp))
  have H7 := Lib.hid (H6.out.kp hK7 (by omega) (by simp))
  have K7 := Lib.hid (K6.out.trans hK7)
  have hs7 := hK7.size
  clear hK7 hQ7 hp7 b4
  have b4 := B7.out.cell 4
  have f4 := B7.out.frozen 4
  have hk8 := (Kp.refl [w.heap.size] w7).setCell (p := ⟨w.heap.size, 4, none⟩) (.inl (by simp)) (.slice A7 p7.length n7)
  have B80 := show Blk (w7.setCell ⟨w.heap.size, 4, none⟩ (.slice A7 p7.length n7)) w.heap.size 42 #[.string (Txt L), .string (Txt U), .string (Txt H), .int .i64 P, .slice A7 p7.length n7, .slice a2 hs.length c2] from B7.out.set_ 4 (.slice A7 p7.length n7)
  have Z80 := show Zub (w7.setCell ⟨w.heap.size, 4, none⟩ (.slice A7 p7.length n7)) (w.heap.size + 1) from Z7.out.kp hk8 (by simp)
  have K80 := K7.out.setCell (p := ⟨w.heap.size, 4, none⟩) (.inr (Nat.le_refl _)) (.slice A7 p7.length n7)
  have H80 := H7.out.kp hk8 (by omega) (by intro y hy; rw [List.mem_singleton.1 hy]; exact hB)
  have Q80 := Q7.out.grow hk8 (by intro y hy; rw [List.mem_singleton.1 hy]; exact NoB.urb B7.out)
  go_upto_region 5 with fail
  obtain ⟨w8, hw8⟩ : ∃ w8, w7.setCell ⟨w.heap.size, 4, none⟩ (.slice A7 p7.length n7) = w8 := ⟨_, rfl⟩
  rw [hw8] at hk8 B80 Z80 K80 H80 Q80 ⊢
  have hs8 := hk8.size
  have B8 := Lib.hid B80
  have Z8 := Lib.hid Z80
  have K8 := Lib.hid K80
  have H8 := Lib.hid H80
  have Q8 := Lib.hid Q80
  clear hw8 hk8 B80 Z80 K80 H80 Q80
  clear b4 f4
  have b5 := B8.out.cell 5
  go_wp2_with fail
  refine (rlowered_any B _ hs w8 H8.out (by omega) hzhs.out hzh).mono ?_
  rintro e w9 ⟨v9, rfl, hR9, hK9⟩
  obtain ⟨A9, n9, rfl⟩ := hR9.form
  obtain ⟨p9, hp9⟩ : ∃ x, srt (lowA hs) = x := ⟨_, rfl⟩
  have Hp9 := Lib.hid hp9
  rw [hp9] at hR9 ⊢
  have R9 := Lib.hid hR9
  have B9 := Lib.hid (B8.out.kp hK9 (by simp))
  have Z9 := Lib.hid (show Zub _ _ from Z8.out.kp hK9 (by simp))
  have Q9 := Lib.hid (Q8.out.grow hK9 (by intro y hy; cases hy))
  have K9 := Lib.hid (K8.out.trans hK9)
  have hs9 := hK9.size
  clear hK9 hR9 hp9 b5
  have b5 := B9.out.cell 5
  have f5 := B9.out.frozen 5
  have hk10 := (Kp.refl [w.heap.size] w9).setCell (p := ⟨w.heap.size, 5, none⟩) (.inl (by simp)) (.slice A9 p9.length n9)
  have B100 := show Blk (w9.setCell ⟨w.heap.size, 5, none⟩ (.slice A9 p9.length n9)) w.heap.size 42 #[.string (Txt L), .string (Txt U), .string (Txt H), .int .i64 P, .slice A7 p7.length n7, .slice A9 p9.length n9] from B9.out.set_ 5 (.slice A9 p9.length n9)
  have Z100 := show Zub (w9.setCell ⟨w.heap.size, 5, none⟩ (.slice A9 p9.length n9)) (w.heap.size + 1) from Z9.out.kp hk10 (by simp)
  have K100 := K9.out.setCell (p := ⟨w.heap.size, 5, none⟩) (.inr (Nat.le_refl _)) (.slice A9 p9.length n9)
  have Q100 := Q9.out.grow hk10 (by intro y hy; rw [List.mem_singleton.1 hy]; exact NoB.urb B9.out)
  have R100 := R9.out.grow hk10 (by intro y hy; rw [List.mem_singleton.1 hy]; exact NoB.urb B9.out)
  go_upto_region 6 with fail
  obtain ⟨w10, hw10⟩ : ∃ w10, w9.setCell ⟨w.heap.size, 5, none⟩ (.slice A9 p9.length n9) = w10 := ⟨_, rfl⟩
  rw [hw10] at hk10 B100 Z100 K100 Q100 R100 ⊢
  have hs10 := hk10.size
  have B10 := Lib.hid B100
  have Z10 := Lib.hid Z100
  have K10 := Lib.hid K100
  have Q10 := Lib.hid Q100
  have R10 := Lib.hid R100
  clear hw10 hk10 B100 Z100 K100 Q100 R100
  clear b5 f5
  have b0 := B10.out.cell 0
  have b2 := B10.out.cell 2
  have b3 := B10.out.cell 3
  have eL : (Txt L).toList = L := by rw [Lib.toList_data]; rfl
  by_cases hsip : L = sipL ∨ L = sipsL
  · rcases hsip with hsip | hsip
    · have bs1 : ((Txt L).toList == [115, 105, 112]) = true := by rw [eL, hsip]; rfl
      clear eL
      have HW := Lib.hid (HV.out.trans (if_pos (.inl hsip)))
      clear hsip
      obtain ⟨oh, hoh⟩ : ∃ o, hostO H = o := ⟨_, rfl⟩
      have HHo := Lib.hid (by have h := rHost_any (Txt H) w10 (by rw [txt_size]; exact hzH); rw [txt_list, hoh] at h; exact h)
      have HO := Lib.hid hoh
      clear hoh
      rcases oh with _ | h
      · have HF := Lib.hid (HW.out.trans (by rw [HO.out]))
        go_wp2_with fail
        refine HHo.out.mono ?_
        rintro e w11 ⟨rfl, hB11⟩
        have hK11 := (Kp.refl [] w10).below hB11
        have B11 := Lib.hid (B10.out.kp hK11 (by simp))
        have Z11 := Lib.hid (show Zub _ _ from Z10.out.kp hK11 (by simp))
        have Q11 := Lib.hid (Q10.out.grow hK11 (by intro y hy; cases hy))
        have R11 := Lib.hid (R10.out.grow hK11 (by intro y hy; cases hy))
        have K11 := Lib.hid (K10.out.trans hK11)
        have hs11 := hK11.size
        clear hK11 hB11 b0 b2 b3
        have b3 := B11.out.cell 3
        have d0 := Z11.out.cell 0
        have g0 := Z11.out.frozen 0
        have d1 := Z11.out.cell 1
        have g1 := Z11.out.frozen 1
        have d2 := Z11.out.cell 2
        have g2 := Z11.out.frozen 2
        have d3 := Z11.out.cell 3
        have g3 := Z11.out.frozen 3
        have d4 := Z11.out.cell 4
        have g4 := Z11.out.frozen 4
        have d5 := Z11.out.cell 5
        have g5 := Z11.out.frozen 5
        go_wp2_with fail
        refine bodyPost_ret (results_two rfl _ _ (w.heap.size + 1) 42 _ (0, 0) _ rfl (blk6 Z11.out _ _ _ _ _ _) Tryz.underlying42 rfl infoUri) rfl ?_
        rw [HF.out]
        exact ⟨_, rfl, UriIn.nil _ _, (kp6 K11.out (.inr (by omega)) _ _ _ _ _ _).nilBelow⟩
      · by_cases hp0 : 0 ≤ P
        · by_cases hp1 : P ≤ 65535
          · have HF := Lib.hid (HW.out.trans (by rw [HO.out]; dsimp only; rw [if_pos ⟨hp0, hp1, HC.out⟩, Hp7.out, Hp9.out]) : normal ⟨S, U, H, P, ps, hs⟩ = some ⟨L, U, h, P, p7, p9⟩)
            go_wp2_with fail
            refine HHo.out.mono ?_
            rintro e w11 ⟨rfl, hB11⟩
            have hK11 := (Kp.refl [] w10).below hB11
            have B11 := Lib.hid (B10.out.kp hK11 (by simp))
            have Z11 := Lib.hid (show Zub _ _ from Z10.out.kp hK11 (by simp))
            have Q11 := Lib.hid (Q10.out.grow hK11 (by intro y hy; cases hy))
            have R11 := Lib.hid (R10.out.grow hK11 (by intro y hy; cases hy))
            have K11 := Lib.hid (K10.out.trans hK11)
            have hs11 := hK11.size
            clear hK11 hB11 b0 b2 b3
            have b3 := B11.out.cell 3
            have b2 := B11.out.cell 2
            have f2 := B11.out.frozen 2
            have hk12 := (Kp.refl [w.heap.size] w11).setCell (p := ⟨w.heap.size, 2, none⟩) (.inl (by simp)) (.string (Txt h))
            have B120 := show Blk (w11.setCell ⟨w.heap.size, 2, none⟩ (.string (Txt h))) w.heap.size 42 #[.string (Txt L), .string (Txt U), .string (Txt h), .int .i64 P, .slice A7 p7.length n7, .slice A9 p9.length n9] from B11.out.set_ 2 (.string (Txt h))
            have Z120 := show Zub (w11.setCell ⟨w.heap.size, 2, none⟩ (.string (Txt h))) (w.heap.size + 1) from Z11.out.kp hk12 (by simp)
            have K120 := K11.out.setCell (p := ⟨w.heap.size, 2, none⟩) (.inr (Nat.le_refl _)) (.string (Txt h))
            have Q120 := Q11.out.grow hk12 (by intro y hy; rw [List.mem_singleton.1 hy]; exact NoB.urb B11.out)
            have R120 := R11.out.grow hk12 (by intro y hy; rw [List.mem_singleton.1 hy]; exact NoB.urb B11.out)
            go_upto_region 13 with fail
            obtain ⟨w12, hw12⟩ : ∃ w12, w11.setCell ⟨w.heap.size, 2, none⟩ (.string (Txt h)) = w12 := ⟨_, rfl⟩
            rw [hw12] at hk12 B120 Z120 K120 Q120 R120 ⊢
            have hs12 := hk12.size
            have B12 := Lib.hid B120
            have Z12 := Lib.hid Z120
            have K12 := Lib.hid K120
            have Q12 := Lib.hid Q120
            have R12 := Lib.hid R120
            clear hw12 hk12 B120 Z120 K120 Q120 R120
            clear b2 f2 b3
            have n0 := B12.out.cell 0
            have n1 := B12.out.cell 1
            have n2 := B12.out.cell 2
            have n3 := B12.out.cell 3
            have n4 := B12.out.cell 4
            have n5 := B12.out.cell 5
            have d0 := Z12.out.cell 0
            have g0 := Z12.out.frozen 0
            have d1 := Z12.out.cell 1
            have g1 := Z12.out.frozen 1
            have d2 := Z12.out.cell 2
            have g2 := Z12.out.frozen 2
            have d3 := Z12.out.cell 3
            have g3 := Z12.out.frozen 3
            have d4 := Z12.out.cell 4
            have g4 := Z12.out.frozen 4
            have d5 := Z12.out.cell 5
            have g5 := Z12.out.frozen 5
            have hu := Lib.hid (show UriIn w12.heap.size w12 (.agg #[.string (Txt L), .string (Txt U), .string (Txt h), .int .i64 P, .slice A7 p7.length n7, .slice A9 p9.length n9]) ⟨L, U, h, P, p7, p9⟩ from ⟨_, _, rfl, Q12.out, R12.out⟩)
            go_wp2_with fail
            refine bodyPost_ret (results_two rfl _ _ (w.heap.size + 1) 42 _ (0, 0) _ rfl (blk6 Z12.out _ _ _ _ _ _) Tryz.underlying42 rfl infoUri) rfl ?_
            rw [HF.out]
            exact no_fin (w.heap.size + 1) w w12 _ _ _ _ _ _ _ _ _ _ _ hu.out K12.out (by omega) Z12.out
          · have HF := Lib.hid (HW.out.trans (by rw [HO.out]; dsimp only; rw [if_neg (fun hh => hp1 hh.2.1)]) : normal ⟨S, U, H, P, ps, hs⟩ = none)
            go_wp2_with fail
            refine HHo.out.mono ?_
            rintro e w11 ⟨rfl, hB11⟩
            have hK11 := (Kp.refl [] w10).below hB11
            have B11 := Lib.hid (B10.out.kp hK11 (by simp))
            have Z11 := Lib.hid (show Zub _ _ from Z10.out.kp hK11 (by simp))
            have Q11 := Lib.hid (Q10.out.grow hK11 (by intro y hy; cases hy))
            have R11 := Lib.hid (R10.out.grow hK11 (by intro y hy; cases hy))
            have K11 := Lib.hid (K10.out.trans hK11)
            have hs11 := hK11.size
            clear hK11 hB11 b0 b2 b3
            have b3 := B11.out.cell 3
            have d0 := Z11.out.cell 0
            have g0 := Z11.out.frozen 0
            have d1 := Z11.out.cell 1
            have g1 := Z11.out.frozen 1
            have d2 := Z11.out.cell 2
            have g2 := Z11.out.frozen 2
            have d3 := Z11.out.cell 3
            have g3 := Z11.out.frozen 3
            have d4 := Z11.out.cell 4
            have g4 := Z11.out.frozen 4
            have d5 := Z11.out.cell 5
            have g5 := Z11.out.frozen 5
            go_wp2_with fail
            refine bodyPost_ret (results_two rfl _ _ (w.heap.size + 1) 42 _ (0, 0) _ rfl (blk6 Z11.out _ _ _ _ _ _) Tryz.underlying42 rfl infoUri) rfl ?_
            rw [HF.out]
            exact ⟨_, rfl, UriIn.nil _ _, (kp6 K11.out (.inr (by omega)) _ _ _ _ _ _).nilBelow⟩
        · have HF := Lib.hid (HW.out.trans (by rw [HO.out]; dsimp only; rw [if_neg (fun hh => hp0 hh.1)]) : normal ⟨S, U, H, P, ps, hs⟩ = none)
          go_wp2_with fail
          refine HHo.out.mono ?_
          rintro e w11 ⟨rfl, hB11⟩
          have hK11 := (Kp.refl [] w10).below hB11
          have B11 := Lib.hid (B10.out.kp hK11 (by simp))
          have Z11 := Lib.hid (show Zub _ _ from Z10.out.kp hK11 (by simp))
          have Q11 := Lib.hid (Q10.out.grow hK11 (by intro y hy; cases hy))
          have R11 := Lib.hid (R10.out.grow hK11 (by intro y hy; cases hy))
          have K11 := Lib.hid (K10.out.trans hK11)
          have hs11 := hK11.size
          clear hK11 hB11 b0 b2 b3
          have b3 := B11.out.cell 3
          have d0 := Z11.out.cell 0
          have g0 := Z11.out.frozen 0
          have d1 := Z11.out.cell 1
          have g1 := Z11.out.frozen 1
          have d2 := Z11.out.cell 2
          have g2 := Z11.out.frozen 2
          have d3 := Z11.out.cell 3
          have g3 := Z11.out.frozen 3
          have d4 := Z11.out.cell 4
          have g4 := Z11.out.frozen 4
          have d5 := Z11.out.cell 5
          have g5 := Z11.out.frozen 5
          go_wp2_with fail
          refine bodyPost_ret (results_two rfl _ _ (w.heap.size + 1) 42 _ (0, 0) _ rfl (blk6 Z11.out _ _ _ _ _ _) Tryz.underlying42 rfl infoUri) rfl ?_
          rw [HF.out]
          exact ⟨_, rfl, UriIn.nil _ _, (kp6 K11.out (.inr (by omega)) _ _ _ _ _ _).nilBelow⟩
    · have bs1 : ((Txt L).toList == [115, 105, 112]) = false := by rw [eL, hsip]; rfl
      have bs2 : ((Txt L).toList == [115, 105, 112, 115]) = true := by rw [eL, hsip]; rfl
      clear eL
      have HW := Lib.hid (HV.out.trans (if_pos (.inr hsip)))
      clear hsip
      obtain ⟨oh, hoh⟩ : ∃ o, hostO H = o := ⟨_, rfl⟩
      have HHo := Lib.hid (by have h := rHost_any (Txt H) w10 (by rw [txt_size]; exact hzH); rw [txt_list, hoh] at h; exact h)
      have HO := Lib.hid hoh
      clear hoh
      rcases oh with _ | h
      · have HF := Lib.hid (HW.out.trans (by rw [HO.out]))
        go_wp2_with fail
        refine HHo.out.mono ?_
        rintro e w11 ⟨rfl, hB11⟩
        have hK11 := (Kp.refl [] w10).below hB11
        have B11 := Lib.hid (B10.out.kp hK11 (by simp))
        have Z11 := Lib.hid (show Zub _ _ from Z10.out.kp hK11 (by simp))
        have Q11 := Lib.hid (Q10.out.grow hK11 (by intro y hy; cases hy))
        have R11 := Lib.hid (R10.out.grow hK11 (by intro y hy; cases hy))
        have K11 := Lib.hid (K10.out.trans hK11)
        have hs11 := hK11.size
        clear hK11 hB11 b0 b2 b3
        have b3 := B11.out.cell 3
        have d0 := Z11.out.cell 0
        have g0 := Z11.out.frozen 0
        have d1 := Z11.out.cell 1
        have g1 := Z11.out.frozen 1
        have d2 := Z11.out.cell 2
        have g2 := Z11.out.frozen 2
        have d3 := Z11.out.cell 3
        have g3 := Z11.out.frozen 3
        have d4 := Z11.out.cell 4
        have g4 := Z11.out.frozen 4
        have d5 := Z11.out.cell 5
        have g5 := Z11.out.frozen 5
        go_wp2_with fail
        refine bodyPost_ret (results_two rfl _ _ (w.heap.size + 1) 42 _ (0, 0) _ rfl (blk6 Z11.out _ _ _ _ _ _) Tryz.underlying42 rfl infoUri) rfl ?_
        rw [HF.out]
        exact ⟨_, rfl, UriIn.nil _ _, (kp6 K11.out (.inr (by omega)) _ _ _ _ _ _).nilBelow⟩
      · by_cases hp0 : 0 ≤ P
        · by_cases hp1 : P ≤ 65535
          · have HF := Lib.hid (HW.out.trans (by rw [HO.out]; dsimp only; rw [if_pos ⟨hp0, hp1, HC.out⟩, Hp7.out, Hp9.out]) : normal ⟨S, U, H, P, ps, hs⟩ = some ⟨L, U, h, P, p7, p9⟩)
            go_wp2_with fail
            refine HHo.out.mono ?_
            rintro e w11 ⟨rfl, hB11⟩
            have hK11 := (Kp.refl [] w10).below hB11
            have B11 := Lib.hid (B10.out.kp hK11 (by simp))
            have Z11 := Lib.hid (show Zub _ _ from Z10.out.kp hK11 (by simp))
            have Q11 := Lib.hid (Q10.out.grow hK11 (by intro y hy; cases hy))
            have R11 := Lib.hid (R10.out.grow hK11 (by intro y hy; cases hy))
            have K11 := Lib.hid (K10.out.trans hK11)
            have hs11 := hK11.size
            clear hK11 hB11 b0 b2 b3
            have b3 := B11.out.cell 3
            have b2 := B11.out.cell 2
            have f2 := B11.out.frozen 2
            have hk12 := (Kp.refl [w.heap.size] w11).setCell (p := ⟨w.heap.size, 2, none⟩) (.inl (by simp)) (.string (Txt h))
            have B120 := show Blk (w11.setCell ⟨w.heap.size, 2, none⟩ (.string (Txt h))) w.heap.size 42 #[.string (Txt L), .string (Txt U), .string (Txt h), .int .i64 P, .slice A7 p7.length n7, .slice A9 p9.length n9] from B11.out.set_ 2 (.string (Txt h))
            have Z120 := show Zub (w11.setCell ⟨w.heap.size, 2, none⟩ (.string (Txt h))) (w.heap.size + 1) from Z11.out.kp hk12 (by simp)
            have K120 := K11.out.setCell (p := ⟨w.heap.size, 2, none⟩) (.inr (Nat.le_refl _)) (.string (Txt h))
            have Q120 := Q11.out.grow hk12 (by intro y hy; rw [List.mem_singleton.1 hy]; exact NoB.urb B11.out)
            have R120 := R11.out.grow hk12 (by intro y hy; rw [List.mem_singleton.1 hy]; exact NoB.urb B11.out)
            go_upto_region 13 with fail
            obtain ⟨w12, hw12⟩ : ∃ w12, w11.setCell ⟨w.heap.size, 2, none⟩ (.string (Txt h)) = w12 := ⟨_, rfl⟩
            rw [hw12] at hk12 B120 Z120 K120 Q120 R120 ⊢
            have hs12 := hk12.size
            have B12 := Lib.hid B120
            have Z12 := Lib.hid Z120
            have K12 := Lib.hid K120
            have Q12 := Lib.hid Q120
            have R12 := Lib.hid R120
            clear hw12 hk12 B120 Z120 K120 Q120 R120
            clear b2 f2 b3
            have n0 := B12.out.cell 0
            have n1 := B12.out.cell 1
            have n2 := B12.out.cell 2
            have n3 := B12.out.cell 3
            have n4 := B12.out.cell 4
            have n5 := B12.out.cell 5
            have d0 := Z12.out.cell 0
            have g0 := Z12.out.frozen 0
            have d1 := Z12.out.cell 1
            have g1 := Z12.out.frozen 1
            have d2 := Z12.out.cell 2
            have g2 := Z12.out.frozen 2
            have d3 := Z12.out.cell 3
            have g3 := Z12.out.frozen 3
            have d4 := Z12.out.cell 4
            have g4 := Z12.out.frozen 4
            have d5 := Z12.out.cell 5
            have g5 := Z12.out.frozen 5
            have hu := Lib.hid (show UriIn w12.heap.size w12 (.agg #[.string (Txt L), .string (Txt U), .string (Txt h), .int .i64 P, .slice A7 p7.length n7, .slice A9 p9.length n9]) ⟨L, U, h, P, p7, p9⟩ from ⟨_, _, rfl, Q12.out, R12.out⟩)
            go_wp2_with fail
            refine bodyPost_ret (results_two rfl _ _ (w.heap.size + 1) 42 _ (0, 0) _ rfl (blk6 Z12.out _ _ _ _ _ _) Tryz.underlying42 rfl infoUri) rfl ?_
            rw [HF.out]
            exact no_fin (w.heap.size + 1) w w12 _ _ _ _ _ _ _ _ _ _ _ hu.out K12.out (by omega) Z12.out
          · have HF := Lib.hid (HW.out.trans (by rw [HO.out]; dsimp only; rw [if_neg (fun hh => hp1 hh.2.1)]) : normal ⟨S, U, H, P, ps, hs⟩ = none)
            go_wp2_with fail
            refine HHo.out.mono ?_
            rintro e w11 ⟨rfl, hB11⟩
            have hK11 := (Kp.refl [] w10).below hB11
            have B11 := Lib.hid (B10.out.kp hK11 (by simp))
            have Z11 := Lib.hid (show Zub _ _ from Z10.out.kp hK11 (by simp))
            have Q11 := Lib.hid (Q10.out.grow hK11 (by intro y hy; cases hy))
            have R11 := Lib.hid (R10.out.grow hK11 (by intro y hy; cases hy))
            have K11 := Lib.hid (K10.out.trans hK11)
            have hs11 := hK11.size
            clear hK11 hB11 b0 b2 b3
            have b3 := B11.out.cell 3
            have d0 := Z11.out.cell 0
            have g0 := Z11.out.frozen 0
            have d1 := Z11.out.cell 1
            have g1 := Z11.out.frozen 1
            have d2 := Z11.out.cell 2
            have g2 := Z11.out.frozen 2
            have d3 := Z11.out.cell 3
            have g3 := Z11.out.frozen 3
            have d4 := Z11.out.cell 4
            have g4 := Z11.out.frozen 4
            have d5 := Z11.out.cell 5
            have g5 := Z11.out.frozen 5
            go_wp2_with fail
            refine bodyPost_ret (results_two rfl _ _ (w.heap.size + 1) 42 _ (0, 0) _ rfl (blk6 Z11.out _ _ _ _ _ _) Tryz.underlying42 rfl infoUri) rfl ?_
            rw [HF.out]
            exact ⟨_, rfl, UriIn.nil _ _, (kp6 K11.out (.inr (by omega)) _ _ _ _ _ _).nilBelow⟩
        · have HF := Lib.hid (HW.out.trans (by rw [HO.out]; dsimp only; rw [if_neg (fun hh => hp0 hh.1)]) : normal ⟨S, U, H, P, ps, hs⟩ = none)
          go_wp2_with fail
          refine HHo.out.mono ?_
          rintro e w11 ⟨rfl, hB11⟩
          have hK11 := (Kp.refl [] w10).below hB11
          have B11 := Lib.hid (B10.out.kp hK11 (by simp))
          have Z11 := Lib.hid (show Zub _ _ from Z10.out.kp hK11 (by simp))
          have Q11 := Lib.hid (Q10.out.grow hK11 (by intro y hy; cases hy))
          have R11 := Lib.hid (R10.out.grow hK11 (by intro y hy; cases hy))
          have K11 := Lib.hid (K10.out.trans hK11)
          have hs11 := hK11.size
          clear hK11 hB11 b0 b2 b3
          have b3 := B11.out.cell 3
          have d0 := Z11.out.cell 0
          have g0 := Z11.out.frozen 0
          have d1 := Z11.out.cell 1
          have g1 := Z11.out.frozen 1
          have d2 := Z11.out.cell 2
          have g2 := Z11.out.frozen 2
          have d3 := Z11.out.cell 3
          have g3 := Z11.out.frozen 3
          have d4 := Z11.out.cell 4
          have g4 := Z11.out.frozen 4
          have d5 := Z11.out.cell 5
          have g5 := Z11.out.frozen 5
          go_wp2_with fail
          refine bodyPost_ret (results_two rfl _ _ (w.heap.size + 1) 42 _ (0, 0) _ rfl (blk6 Z11.out _ _ _ _ _ _) Tryz.underlying42 rfl infoUri) rfl ?_
          rw [HF.out]
          exact ⟨_, rfl, UriIn.nil _ _, (kp6 K11.out (.inr (by omega)) _ _ _ _ _ _).nilBelow⟩
  · have bs1 : ((Txt L).toList == [115, 105, 112]) = false := by rw [eL, beq_eq_false_iff_ne]; exact fun h => hsip (.inl h)
    have bs2 : ((Txt L).toList == [115, 105, 112, 115]) = false := by rw [eL, beq_eq_false_iff_ne]; exact fun h => hsip (.inr h)
    have HW := Lib.hid (HV.out.trans (if_neg hsip))
    by_cases htel : L = telL
    · have bt : ((Txt L).toList == [116, 101, 108]) = true := by rw [eL, htel]; rfl
      have HW2 := Lib.hid (HW.out.trans (if_pos htel))
      have b1 := B10.out.cell 1
      have b5 := B10.out.cell 5
      have hl9 : p9.length = hs.length := by rw [← Hp9.out, (srt_perm _).length_eq, lowA_len]
      obtain ⟨EH, hEH⟩ : ∃ T, decide (H = []) = T := ⟨_, rfl⟩
      have bH : ((Txt H).toList == ([] : List UInt8)) = EH := (emp_D _).trans hEH
      obtain ⟨Z0, hZ0⟩ : ∃ T, (P == 0) = T := ⟨_, rfl⟩
      obtain ⟨Z9, hZ9⟩ : ∃ T, ((p9.length : Int) == 0) = T := ⟨_, rfl⟩
      obtain ⟨IN, hIN⟩ : ∃ T, isNum U = T := ⟨_, rfl⟩
      have HTl := Lib.hid (by have h := rtelephoned_any U w10 hzU; rw [hIN] at h; exact h)
      have HcH := Lib.hid hEH
      have HcP := Lib.hid hZ0
      have HcN := Lib.hid (show decide (hs.length = 0) = Z9 from by rw [← hZ9, ← hl9, Bool.eq_iff_iff]; simp)
      have HcI := Lib.hid hIN
      have HtL := Lib.hid htel
      clear eL hsip htel hl9 hEH hIN
      cases EH
      · have HF := Lib.hid (HW2.out.trans (if_neg (fun hh => of_decide_eq_false HcH.out hh.2.1)))
        have d0 := Z10.out.cell 0
        have g0 := Z10.out.frozen 0
        have d1 := Z10.out.cell 1
        have g1 := Z10.out.frozen 1
        have d2 := Z10.out.cell 2
        have g2 := Z10.out.frozen 2
        have d3 := Z10.out.cell 3
        have g3 := Z10.out.frozen 3
        have d4 := Z10.out.cell 4
        have g4 := Z10.out.frozen 4
        have d5 := Z10.out.cell 5
        have g5 := Z10.out.frozen 5
        go_wp2_with fail
        refine bodyPost_ret (results_two rfl _ _ (w.heap.size + 1) 42 _ (0, 0) _ rfl (blk6 Z10.out _ _ _ _ _ _) Tryz.underlying42 rfl infoUri) rfl ?_
        rw [HF.out]
        exact ⟨_, rfl, UriIn.nil _ _, (kp6 K10.out (.inr (by omega)) _ _ _ _ _ _).nilBelow⟩
      · cases Z0
        · have HF := Lib.hid (HW2.out.trans (if_neg (fun hh => (beq_eq_false_iff_ne.1 HcP.out) hh.2.2.1)))
          have d0 := Z10.out.cell 0
          have g0 := Z10.out.frozen 0
          have d1 := Z10.out.cell 1
          have g1 := Z10.out.frozen 1
          have d2 := Z10.out.cell 2
          have g2 := Z10.out.frozen 2
          have d3 := Z10.out.cell 3
          have g3 := Z10.out.frozen 3
          have d4 := Z10.out.cell 4
          have g4 := Z10.out.frozen 4
          have d5 := Z10.out.cell 5
          have g5 := Z10.out.frozen 5
          go_wp2_with fail
          refine bodyPost_ret (results_two rfl _ _ (w.heap.size + 1) 42 _ (0, 0) _ rfl (blk6 Z10.out _ _ _ _ _ _) Tryz.underlying42 rfl infoUri) rfl ?_
          rw [HF.out]
          exact ⟨_, rfl, UriIn.nil _ _, (kp6 K10.out (.inr (by omega)) _ _ _ _ _ _).nilBelow⟩
        · cases Z9
          · have HF := Lib.hid (HW2.out.trans (if_neg (fun hh => of_decide_eq_false HcN.out (by rw [hh.2.2.2]; rfl))))
            have d0 := Z10.out.cell 0
            have g0 := Z10.out.frozen 0
            have d1 := Z10.out.cell 1
            have g1 := Z10.out.frozen 1
            have d2 := Z10.out.cell 2
            have g2 := Z10.out.frozen 2
            have d3 := Z10.out.cell 3
            have g3 := Z10.out.frozen 3
            have d4 := Z10.out.cell 4
            have g4 := Z10.out.frozen 4
            have d5 := Z10.out.cell 5
            have g5 := Z10.out.frozen 5
            go_wp2_with fail
            refine bodyPost_ret (results_two rfl _ _ (w.heap.size + 1) 42 _ (0, 0) _ rfl (blk6 Z10.out _ _ _ _ _ _) Tryz.underlying42 rfl infoUri) rfl ?_
            rw [HF.out]
            exact ⟨_, rfl, UriIn.nil _ _, (kp6 K10.out (.inr (by omega)) _ _ _ _ _ _).nilBelow⟩
          · cases IN
            · have HF := Lib.hid (HW2.out.trans (if_neg (fun hh => by have h2 := hh.1; rw [HcI.out] at h2; cases h2)))
              go_wp2_with fail
              refine HTl.out.mono ?_
              rintro e w11 ⟨rfl, hK11⟩
              have B11 := Lib.hid (B10.out.kp hK11 (by simp))
              have Z11 := Lib.hid (show Zub _ _ from Z10.out.kp hK11 (by simp))
              have K11 := Lib.hid (K10.out.trans hK11)
              have hs11 := hK11.size
              clear hK11 b0 b1 b2 b3 b5
              have d0 := Z11.out.cell 0
              have g0 := Z11.out.frozen 0
              have d1 := Z11.out.cell 1
              have g1 := Z11.out.frozen 1
              have d2 := Z11.out.cell 2
              have g2 := Z11.out.frozen 2
              have d3 := Z11.out.cell 3
              have g3 := Z11.out.frozen 3
              have d4 := Z11.out.cell 4
              have g4 := Z11.out.frozen 4
              have d5 := Z11.out.cell 5
              have g5 := Z11.out.frozen 5
              go_wp2_with fail
              refine bodyPost_ret (results_two rfl _ _ (w.heap.size + 1) 42 _ (0, 0) _ rfl (blk6 Z11.out _ _ _ _ _ _) Tryz.underlying42 rfl infoUri) rfl ?_
              rw [HF.out]
              exact ⟨_, rfl, UriIn.nil _ _, (kp6 K11.out (.inr (by omega)) _ _ _ _ _ _).nilBelow⟩
            · have hH0 := of_decide_eq_true HcH.out
              have hP0 : P = 0 := by have := HcP.out; simpa using this
              have hs0 : hs = [] := List.eq_nil_of_length_eq_zero (of_decide_eq_true HcN.out)
              have h90 : p9 = [] := by rw [← Hp9.out, hs0]; rfl
              have HF := Lib.hid (HW2.out.trans (by rw [if_pos ⟨HcI.out, hH0, hP0, hs0⟩, Hp7.out, ← HtL.out, ← hH0, ← hP0, ← h90]) : normal ⟨S, U, H, P, ps, hs⟩ = some ⟨L, U, H, P, p7, p9⟩)
              clear hH0 hP0 hs0 h90
              go_wp2_with fail
              refine HTl.out.mono ?_
              rintro e w11 ⟨rfl, hK11⟩
              have B11 := Lib.hid (B10.out.kp hK11 (by simp))
              have Z11 := Lib.hid (show Zub _ _ from Z10.out.kp hK11 (by simp))
              have Q11 := Lib.hid (Q10.out.grow hK11 (by intro y hy; cases hy))
              have R11 := Lib.hid (R10.out.grow hK11 (by intro y hy; cases hy))
              have K11 := Lib.hid (K10.out.trans hK11)
              have hs11 := hK11.size
              clear hK11 b0 b1 b2 b3 b5
              have n0 := B11.out.cell 0
              have n1 := B11.out.cell 1
              have n2 := B11.out.cell 2
              have n3 := B11.out.cell 3
              have n4 := B11.out.cell 4
              have n5 := B11.out.cell 5
              have d0 := Z11.out.cell 0
              have g0 := Z11.out.frozen 0
              have d1 := Z11.out.cell 1
              have g1 := Z11.out.frozen 1
              have d2 := Z11.out.cell 2
              have g2 := Z11.out.frozen 2
              have d3 := Z11.out.cell 3
              have g3 := Z11.out.frozen 3
              have d4 := Z11.out.cell 4
              have g4 := Z11.out.frozen 4
              have d5 := Z11.out.cell 5
              have g5 := Z11.out.frozen 5
              have hu := Lib.hid (show UriIn w11.heap.size w11 (.agg #[.string (Txt L), .string (Txt U), .string (Txt H), .int .i64 P, .slice A7 p7.length n7, .slice A9 p9.length n9]) ⟨L, U, H, P, p7, p9⟩ from ⟨_, _, rfl, Q11.out, R11.out⟩)
              go_wp2_with fail
              refine bodyPost_ret (results_two rfl _ _ (w.heap.size + 1) 42 _ (0, 0) _ rfl (blk6 Z11.out _ _ _ _ _ _) Tryz.underlying42 rfl infoUri) rfl ?_
              rw [HF.out]
              exact no_fin (w.heap.size + 1) w w11 _ _ _ _ _ _ _ _ _ _ _ hu.out K11.out (by omega) Z11.out
    · have bt : ((Txt L).toList == [116, 101, 108]) = false := by rw [eL, beq_eq_false_iff_ne]; exact htel
      have HF := Lib.hid (HW.out.trans (if_neg htel))
      clear eL hsip htel
      have d0 := Z10.out.cell 0
      have g0 := Z10.out.frozen 0
      have d1 := Z10.out.cell 1
      have g1 := Z10.out.frozen 1
      have d2 := Z10.out.cell 2
      have g2 := Z10.out.frozen 2
      have d3 := Z10.out.cell 3
      have g3 := Z10.out.frozen 3
      have d4 := Z10.out.cell 4
      have g4 := Z10.out.frozen 4
      have d5 := Z10.out.cell 5
      have g5 := Z10.out.frozen 5
      go_wp2_with fail
      refine bodyPost_ret (results_two rfl _ _ (w.heap.size + 1) 42 _ (0, 0) _ rfl (blk6 Z10.out _ _ _ _ _ _) Tryz.underlying42 rfl infoUri) rfl ?_
      rw [HF.out]
      exact ⟨_, rfl, UriIn.nil _ _, (kp6 K10.out (.inr (by omega)) _ _ _ _ _ _).nilBelow⟩
end Ad
end Go.Proofs.YtjkkcoiebnmkcaaGreatDoor
