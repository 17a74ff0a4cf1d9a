/- Contract of the reference's Print (dialtoneref02). Texts have at most 2^21 bytes, lists at most 2^21 elements, the host 2^20. -/
import Derived.Test.YtjkkcoiebnmkcaaGreatDoorAdVh
namespace Go.Proofs.YtjkkcoiebnmkcaaGreatDoor
namespace Ad
open Go.RowKit Lx

theorem wrt_lenB (f a : UInt8) (cls : Int) (l : List Prm) (hz : SzP l) : (wrt f a cls l).length ≤ l.length * 12582914 := by
  induction l generalizing f with
  | nil => simp [wrt]
  | cons p t ih =>
    obtain ⟨q1, q2, q3⟩ := p
    have h1 := hz (q1, q2, q3) (List.mem_cons_self ..)
    have h2 := prP_len cls q1 q2 q3 h1.1 h1.2
    have h3 := ih a (fun q hq => hz q (List.mem_cons_of_mem _ hq))
    rw [wrt]
    simp only [List.cons_append, List.length_cons, List.length_append]
    omega
set_option maxRecDepth 100000 in
set_option maxHeartbeats 8000000 in
theorem rPrint_any (B : Nat) (v : Value) (u : Uri) (w : World) (hU : UriIn B w v u) (hB : B ≤ w.heap.size) (hz : SzU u) (hzh : u.host.length ≤ 1048576) :
    Calls Tryz.prog 38 #[v] w (PrP (printO u) w) := by
  obtain ⟨vp, vh, rfl, hp, hh⟩ := hU
  obtain ⟨a1, c1, rfl⟩ := hp.form
  obtain ⟨a2, c2, rfl⟩ := hh.form
  obtain ⟨S, U, H, P, ps, hs⟩ := u
  dsimp only at hzh hp hh ⊢
  have hKA := (Kp.refl [] w).alloc (.cells #[.string (Txt S), .string (Txt U), .string (Txt H), .int .i64 P, .slice a1 ps.length c1, .slice a2 hs.length c2] 42)
  obtain ⟨wA, hwA⟩ : ∃ wA, w.alloc (.cells #[.string (Txt S), .string (Txt U), .string (Txt H), .int .i64 P, .slice a1 ps.length c1, .slice a2 hs.length c2] 42) = wA := ⟨_, rfl⟩
  have BA := show Blk wA w.heap.size 42 #[.string (Txt S), .string (Txt U), .string (Txt H), .int .i64 P, .slice a1 ps.length c1, .slice a2 hs.length c2] from by rw [← hwA]; exact Blk.new w _ _
  rw [hwA] at hKA
  have KA := Lib.hid hKA
  have HN := Lib.hid (rNormal_any B (.agg #[.string (Txt S), .string (Txt U), .string (Txt H), .int .i64 P, .slice a1 ps.length c1, .slice a2 hs.length c2]) ⟨S, U, H, P, ps, hs⟩ wA ⟨_, _, rfl, hp.kp hKA hB (by simp), hh.kp hKA hB (by simp)⟩ (by have := hKA.size; omega) hz)
  have HPr := Lib.hid (rfl : printO ⟨S, U, H, P, ps, hs⟩ = (normal ⟨S, U, H, P, ps, hs⟩).map textU)
  have HSz := Lib.hid (fun n h => normal_sz ⟨S, U, H, P, ps, hs⟩ n hz hzh h)
  have k0 := BA.cell 0
  have k1 := BA.cell 1
  have k2 := BA.cell 2
  have k3 := BA.cell 3
  have k4 := BA.cell 4
  have k5 := BA.cell 5
  clear hp hh hz hKA BA
  go_enter Tryz.func38, Tryz.ntmps38
  go_wp2_with fail
  refine HN.out.mono ?_
  rintro e w1 ⟨v1, rfl, hU1, hB1⟩
  obtain ⟨nn, hn⟩ : ∃ o, normal ⟨S, U, H, P, ps, hs⟩ = o := ⟨_, rfl⟩
  rw [hn] at hU1
  rw [show (if (normal ⟨S, U, H, P, ps, hs⟩).isSome then (0 : Int) else 2) = (if nn.isSome then 0 else 2) from by rw [hn]]
  cases nn with
  | none =>
    simp only [Option.isSome_none, Bool.false_eq_true, if_false]
    obtain ⟨vp1, vh1, rfl, hp1, hh1⟩ := hU1
    obtain ⟨b1, d1, rfl⟩ := hp1.form
    obtain ⟨b2, d2, rfl⟩ := hh1.form
    have HPn := Lib.hid (by show (normal _).map textU = _; rw [hn]; rfl : printO ⟨S, U, H, P, ps, hs⟩ = none)
    have K1 := Lib.hid (KA.out.below hB1)
    clear hn hp1 hh1 hB1 k0 k1 k2 k3 k4 k5
    go_wp2_with fail
    go_ret2
    rw [HPn.out]
    exact ⟨rfl, (K1.out.alloc _).nilBelow⟩
  | some n =>
    simp only [Option.isSome_some, if_true]
    have hzn := HSz.out n hn
    have HPn0 := Lib.hid (by show (normal _).map textU = _; rw [hn]; rfl : printO ⟨S, U, H, P, ps, hs⟩ = some (textU n))
    obtain ⟨S2, U2, H2, P2, ps2, hs2⟩ := n
    obtain ⟨vp1, vh1, rfl, hp1, hh1⟩ := hU1
    obtain ⟨b1, d1, rfl⟩ := hp1.form
    obtain ⟨b2, d2, rfl⟩ := hh1.form
    dsimp only [Option.getD_some] at hp1 hh1 ⊢
    have zS := hzn.scheme
    have zU := hzn.user
    have zH := hzn.host
    have zP0 := hzn.port0
    have zP1 := hzn.port1
    have zps := hzn.params
    have zhs := hzn.heads
    have Zps := hzn.ps
    have Zhs := hzn.hs
    dsimp only at zS zU zH zP0 zP1 zps zhs Zps Zhs
    obtain ⟨p, rfl⟩ : ∃ p : Nat, P2 = (p : Int) := ⟨P2.toNat, by omega⟩
    have K1 := KA.out.below hB1
    have hKN := (Kp.refl [] w1).alloc (.cells #[.string (Txt S2), .string (Txt U2), .string (Txt H2), .int .i64 p, .slice b1 ps2.length d1, .slice b2 hs2.length d2] 42)
    obtain ⟨w2, hw2⟩ : ∃ w2, w1.alloc (.cells #[.string (Txt S2), .string (Txt U2), .string (Txt H2), .int .i64 p, .slice b1 ps2.length d1, .slice b2 hs2.length d2] 42) = w2 := ⟨_, rfl⟩
    have NN := Lib.hid (show Blk w2 w1.heap.size 42 #[.string (Txt S2), .string (Txt U2), .string (Txt H2), .int .i64 p, .slice b1 ps2.length d1, .slice b2 hs2.length d2] from by rw [← hw2]; exact Blk.new w1 _ _)
    rw [hw2] at hKN
    have K2 := Lib.hid (K1.trans hKN)
    have P2 := Lib.hid (hp1.grow hKN (by intro y hy; cases hy))
    have H2_ := Lib.hid (hh1.grow hKN (by intro y hy; cases hy))
    have lW1 := wrt_lenB 59 59 1 ps2 Zps
    have lW2 := wrt_lenB 63 38 2 hs2 Zhs
    obtain ⟨W1, hW1⟩ : ∃ x, wrt 59 59 1 ps2 = x := ⟨_, rfl⟩
    obtain ⟨W2, hW2⟩ : ∃ x, wrt 63 38 2 hs2 = x := ⟨_, rfl⟩
    have HW1 := Lib.hid (fun (wz : World) (k : Kp [] w2 wz) => (by have h := rwrite_any 59 59 1 w2.heap.size _ ps2 wz (P2.out.kp k (Nat.le_refl _) (by simp)) k.size Zps zps; rw [hW1] at h; exact h : Calls Tryz.prog 104 #[.slice b1 ps2.length d1, .string ⟨#[59]⟩, .string ⟨#[59]⟩, .int .i64 1] wz (TxK W1 wz)))
    have HW2 := Lib.hid (fun (wz : World) (k : Kp [] w2 wz) => (by have h := rwrite_any 63 38 2 w2.heap.size _ hs2 wz (H2_.out.kp k (Nat.le_refl _) (by simp)) k.size Zhs zhs; rw [hW2] at h; exact h : Calls Tryz.prog 104 #[.slice b2 hs2.length d2, .string ⟨#[63]⟩, .string ⟨#[38]⟩, .int .i64 2] wz (TxK W2 wz)))
    rw [hW1] at lW1
    rw [hW2] at lW2
    have hTx := HPn0.out
    unfold textU at hTx
    dsimp only at hTx
    rw [hW1, hW2, Int.toNat_natCast] at hTx
    have HTx := Lib.hid hTx
    have sW1 : (Txt W1).size ≤ 201326624 := by rw [txt_size]; omega
    have sW2 : (Txt W2).size ≤ 201326624 := by rw [txt_size]; omega
    have sS : (Txt S2).size ≤ 4 := by rw [txt_size]; exact zS
    have sU : (Txt U2).size ≤ 2097152 := by rw [txt_size]; exact zU
    have sH : (Txt H2).size ≤ 2097152 := by rw [txt_size]; exact zH
    have eS : (Txt S2).toList = S2 := by rw [Lib.toList_data]; rfl
    clear hn hp1 hh1 hB1 K1 hKN k0 k1 k2 k3 k4 k5 hW1 hW2 lW1 lW2 hTx Zps Zhs zps zhs hzn
    have s0 := NN.out.cell 0
    by_cases ht : S2 = telL
    · have bt : ((Txt S2).toList == [116, 101, 108]) = true := by rw [eS, ht]; rfl
      have HT := Lib.hid (HTx.out.trans (by rw [if_pos ht]))
      have g1 := grew_cell (NN.out.cell 1)
      have g4 := grew_cell (NN.out.cell 4)
      have Q1 := Lib.hid (fun (n : Gw w2) => Calls.grew_of (HW1.out _ (grew_kp w2 n)) (fun _ _ h => h))
      obtain ⟨T1, hT1⟩ : ∃ T, [116, 101, 108, 58] ++ U2 = T := ⟨_, rfl⟩
      have hc1 : (⟨#[116, 101, 108, 58]⟩ : ByteArray) ++ Txt U2 = Txt T1 := by rw [← hT1]; exact cat_txt [116, 101, 108, 58] U2
      have sT1 : (Txt T1).size ≤ 2097156 := by rw [txt_size, ← hT1, List.length_append]; simp; omega
      have hc2 := Lib.hid (cat_txt T1 W1)
      rw [hT1] at HT
      clear eS ht hT1
      go_upto_region 5 with fail
      refine wp_region_grew (by kernel_rfl) (by kernel_rfl) ?_
      (go_big_quiet_step ((go_at_call 104; with_reducible exact Q1.out _)))
      repeat (go_big_quiet_step ((go_at_call 104; with_reducible exact Q1.out _)))
      refine wpQuiet_nil ?_
      intro _ hw'
      obtain ⟨nq, hw''⟩ := hw'
      subst hw''
      go_wp2_with fail
      go_ret2
      rw [HT.out]
      exact ⟨congrArg (fun z => Ending.returned (.tuple #[.string z, .int .u8 0])) hc2.out, (K2.out.trans (grew_kp _ _)).nilBelow⟩
    · have bt : ((Txt S2).toList == [116, 101, 108]) = false := by rw [eS, beq_eq_false_iff_ne]; exact ht
      have HT := Lib.hid (HTx.out.trans (by rw [if_neg ht]))
      have s1 := NN.out.cell 1
      have s2 := NN.out.cell 2
      have s3 := NN.out.cell 3
      obtain ⟨T1, hT1⟩ : ∃ T, S2 ++ [58] = T := ⟨_, rfl⟩
      have hc1 : Txt S2 ++ (⟨#[58]⟩ : ByteArray) = Txt T1 := by rw [← hT1]; exact cat_txt S2 [58]
      have sT1 : (Txt T1).size ≤ 5 := by rw [txt_size, ← hT1, List.length_append]; simp; omega
      rw [hT1] at HT
      clear eS ht hT1
      have N2 := Lib.hid NN.out
      have KW2 := Lib.hid (Kp.refl [] w2)
      by_cases hu : U2 = []
      · have HU := Lib.hid (HT.out.trans (by rw [if_pos hu, List.append_nil]))
        have bu : ((Txt U2).toList == ([] : List UInt8)) = true := (emp_D U2).trans (decide_eq_true hu)
        clear hu
        obtain ⟨T3, hT3⟩ : ∃ T, T1 ++ H2 = T := ⟨_, rfl⟩
        have hc3 : Txt T1 ++ Txt H2 = Txt T3 := by rw [← hT3]; exact cat_txt T1 H2
        have sT3 : (Txt T3).size ≤ 2097157 := by rw [← hc3, ByteArray.size_append]; omega
        rw [hT3] at HU
        clear hT3
        by_cases hp0 : p = 0
        · have HF := Lib.hid (HU.out.trans (by rw [if_pos (by rw [hp0]; rfl), List.append_nil]))
          have hn0 : ¬ (0 : Int) < (p : Int) := by omega
          clear hp0
          obtain ⟨T7, hT7⟩ : ∃ T, T3 ++ W1 = T := ⟨_, rfl⟩
          have hc7 : Txt T3 ++ Txt W1 = Txt T7 := by rw [← hT7]; exact cat_txt T3 W1
          have sT7 : (Txt T7).size ≤ 203423781 := by rw [← hc7, ByteArray.size_append]; omega
          have hc8 := Lib.hid (cat_txt T7 W2)
          have HG2 := Lib.hid (HF.out.trans (by rw [hT7]) : printO ⟨S, U, H, P, ps, hs⟩ = some (T7 ++ W2))
          have g4 := grew_cell (N2.out.cell 4)
          have g5 := grew_cell (N2.out.cell 5)
          have Q1 := Lib.hid (fun (n : Gw w2) => Calls.grew_of (HW1.out _ (KW2.out.trans (grew_kp w2 n))) (fun _ _ h => h))
          have Q2 := Lib.hid (fun (n : Gw w2) => Calls.grew_of (HW2.out _ (KW2.out.trans (grew_kp w2 n))) (fun _ _ h => h))
          clear hT7
          go_upto_region 12 with fail
          refine wp_region_grew (by kernel_rfl) (by kernel_rfl) ?_
          (go_big_quiet_step ((first | (go_at_call 104; with_reducible exact Q1.out _) | (go_at_call 104; with_reducible exact Q2.out _))))
          repeat (go_big_quiet_step ((first | (go_at_call 104; with_reducible exact Q1.out _) | (go_at_call 104; with_reducible exact Q2.out _))))
          refine wpQuiet_nil ?_
          intro _ hw'
          obtain ⟨nq, hw''⟩ := hw'
          subst hw''
          go_wp2_with fail
          go_ret2
          rw [HG2.out]
          exact ⟨congrArg (fun z => Ending.returned (.tuple #[.string z, .int .u8 0])) hc8.out, (K2.out.trans (grew_kp _ _)).nilBelow⟩
        · have HF := Lib.hid (HU.out.trans (by rw [if_neg (by omega)]))
          have hn0 : (0 : Int) < (p : Int) := by omega
          clear hp0
          have HD := Lib.hid (fun wz => rdecimal_any p (by omega) wz)
          have lD := decL_len p (by omega)
          obtain ⟨D, hD⟩ : ∃ D, decL p = D := ⟨_, rfl⟩
          rw [hD] at HD lD HF
          obtain ⟨T4, hT4⟩ : ∃ T, T3 ++ [58] = T := ⟨_, rfl⟩
          have hc4 : Txt T3 ++ (⟨#[58]⟩ : ByteArray) = Txt T4 := by rw [← hT4]; exact cat_txt T3 [58]
          have sT4 : (Txt T4).size ≤ 2097158 := by rw [← hc4, ByteArray.size_append]; have : (⟨#[58]⟩ : ByteArray).size = 1 := rfl; omega
          obtain ⟨T5, hT5⟩ : ∃ T, T4 ++ D = T := ⟨_, rfl⟩
          have hc5 : Txt T4 ++ Txt D = Txt T5 := by rw [← hT5]; exact cat_txt T4 D
          have sD : (Txt D).size ≤ 20 := by rw [txt_size]; exact lD
          have sT5 : (Txt T5).size ≤ 2097178 := by rw [← hc5, ByteArray.size_append]; omega
          have HG := Lib.hid (HF.out.trans (by rw [← hT5, ← hT4]; simp) : printO ⟨S, U, H, P, ps, hs⟩ = some (T5 ++ W1 ++ W2))
          clear hT4 hT5 hD lD
          go_wp2_with fail
          refine (HD.out _).mono ?_
          rintro e w9 ⟨rfl, hK9⟩
          have N9 := Lib.hid (N2.out.kp hK9 (by simp))
          have K9 := Lib.hid (K2.out.trans hK9)
          have KW9 := Lib.hid (KW2.out.trans hK9)
          clear hK9 s2 s3
          obtain ⟨T7, hT7⟩ : ∃ T, T5 ++ W1 = T := ⟨_, rfl⟩
          have hc7 : Txt T5 ++ Txt W1 = Txt T7 := by rw [← hT7]; exact cat_txt T5 W1
          have sT7 : (Txt T7).size ≤ 203423802 := by rw [← hc7, ByteArray.size_append]; omega
          have hc8 := Lib.hid (cat_txt T7 W2)
          have HG2 := Lib.hid (HG.out.trans (by rw [hT7]) : printO ⟨S, U, H, P, ps, hs⟩ = some (T7 ++ W2))
          have g4 := grew_cell (N9.out.cell 4)
          have g5 := grew_cell (N9.out.cell 5)
          have Q1 := Lib.hid (fun (n : Gw w9) => Calls.grew_of (HW1.out _ (KW9.out.trans (grew_kp w9 n))) (fun _ _ h => h))
          have Q2 := Lib.hid (fun (n : Gw w9) => Calls.grew_of (HW2.out _ (KW9.out.trans (grew_kp w9 n))) (fun _ _ h => h))
          clear hT7
          go_upto_region 12 with fail
          refine wp_region_grew (by kernel_rfl) (by kernel_rfl) ?_
          (go_big_quiet_step ((first | (go_at_call 104; with_reducible exact Q1.out _) | (go_at_call 104; with_reducible exact Q2.out _))))
          repeat (go_big_quiet_step ((first | (go_at_call 104; with_reducible exact Q1.out _) | (go_at_call 104; with_reducible exact Q2.out _))))
          refine wpQuiet_nil ?_
          intro _ hw'
          obtain ⟨nq, hw''⟩ := hw'
          subst hw''
          go_wp2_with fail
          go_ret2
          rw [HG2.out]
          exact ⟨congrArg (fun z => Ending.returned (.tuple #[.string z, .int .u8 0])) hc8.out, (K9.out.trans (grew_kp _ _)).nilBelow⟩
      · have HU := Lib.hid (HT.out.trans (by rw [if_neg hu]))
        have bu : ((Txt U2).toList == ([] : List UInt8)) = false := (emp_D U2).trans (decide_eq_false hu)
        have HE := Lib.hid (fun wz => (by have h := rEscape_any 0 (Txt U2) wz (by rw [txt_size]; omega); rw [txt_list] at h; exact h : Calls Tryz.prog 17 #[.string (Txt U2), .int .i64 0] wz (RetNew (escpL 0 U2) wz)))
        have lE := (escp_len 0 U2).2
        obtain ⟨E, hE⟩ : ∃ E, escpL 0 U2 = E := ⟨_, rfl⟩
        rw [hE] at HE lE HU
        obtain ⟨T8, hT8⟩ : ∃ T, T1 ++ E = T := ⟨_, rfl⟩
        have hc8' : Txt T1 ++ Txt E = Txt T8 := by rw [← hT8]; exact cat_txt T1 E
        have sE : (Txt E).size ≤ 6291456 := by rw [txt_size]; omega
        have sT8 : (Txt T8).size ≤ 6291461 := by rw [← hc8', ByteArray.size_append]; omega
        obtain ⟨T2, hT2⟩ : ∃ T, T8 ++ [64] = T := ⟨_, rfl⟩
        have hc2 : Txt T8 ++ (⟨#[64]⟩ : ByteArray) = Txt T2 := by rw [← hT2]; exact cat_txt T8 [64]
        have sT2 : (Txt T2).size ≤ 6291462 := by rw [← hc2, ByteArray.size_append]; have : (⟨#[64]⟩ : ByteArray).size = 1 := rfl; omega
        have HV := Lib.hid (HU.out.trans (by rw [← hT2, ← hT8]; simp) : printO ⟨S, U, H, P, ps, hs⟩ = some (T2 ++ H2 ++ (if (p : Int) = 0 then [] else 58 :: decL p) ++ W1 ++ W2))
        clear hu hE hT8 hT2 lE
        go_wp2_with fail
        refine (HE.out _).mono ?_
        rintro e w3 ⟨rfl, hB3⟩
        have hK3 := (Kp.refl [] w2).below hB3
        have N3 := Lib.hid (N2.out.kp hK3 (by simp))
        have K3 := Lib.hid (K2.out.trans hK3)
        have KW3 := Lib.hid (KW2.out.trans hK3)
        clear hK3 hB3 s0 s1 s2 s3
        have s2 := N3.out.cell 2
        have s3 := N3.out.cell 3
        rw [show (⟨E.toArray⟩ : ByteArray) = Txt E from rfl]
        obtain ⟨T3, hT3⟩ : ∃ T, T2 ++ H2 = T := ⟨_, rfl⟩
        have hc3 : Txt T2 ++ Txt H2 = Txt T3 := by rw [← hT3]; exact cat_txt T2 H2
        have sT3 : (Txt T3).size ≤ 8388614 := by rw [← hc3, ByteArray.size_append]; omega
        rw [hT3] at HV
        clear hT3
        by_cases hp0 : p = 0
        · have HF := Lib.hid (HV.out.trans (by rw [if_pos (by rw [hp0]; rfl), List.append_nil]))
          have hn0 : ¬ (0 : Int) < (p : Int) := by omega
          clear hp0
          obtain ⟨T7, hT7⟩ : ∃ T, T3 ++ W1 = T := ⟨_, rfl⟩
          have hc7 : Txt T3 ++ Txt W1 = Txt T7 := by rw [← hT7]; exact cat_txt T3 W1
          have sT7 : (Txt T7).size ≤ 209715238 := by rw [← hc7, ByteArray.size_append]; omega
          have hc8 := Lib.hid (cat_txt T7 W2)
          have HG2 := Lib.hid (HF.out.trans (by rw [hT7]) : printO ⟨S, U, H, P, ps, hs⟩ = some (T7 ++ W2))
          have g4 := grew_cell (N3.out.cell 4)
          have g5 := grew_cell (N3.out.cell 5)
          have Q1 := Lib.hid (fun (n : Gw w3) => Calls.grew_of (HW1.out _ (KW3.out.trans (grew_kp w3 n))) (fun _ _ h => h))
          have Q2 := Lib.hid (fun (n : Gw w3) => Calls.grew_of (HW2.out _ (KW3.out.trans (grew_kp w3 n))) (fun _ _ h => h))
          clear hT7
          go_upto_region 12 with fail
          refine wp_region_grew (by kernel_rfl) (by kernel_rfl) ?_
          (go_big_quiet_step ((first | (go_at_call 104; with_reducible exact Q1.out _) | (go_at_call 104; with_reducible exact Q2.out _))))
          repeat (go_big_quiet_step ((first | (go_at_call 104; with_reducible exact Q1.out _) | (go_at_call 104; with_reducible exact Q2.out _))))
          refine wpQuiet_nil ?_
          intro _ hw'
          obtain ⟨nq, hw''⟩ := hw'
          subst hw''
          go_wp2_with fail
          go_ret2
          rw [HG2.out]
          exact ⟨congrArg (fun z => Ending.returned (.tuple #[.string z, .int .u8 0])) hc8.out, (K3.out.trans (grew_kp _ _)).nilBelow⟩
        · have HF := Lib.hid (HV.out.trans (by rw [if_neg (by omega)]))
          have hn0 : (0 : Int) < (p : Int) := by omega
          clear hp0
          have HD := Lib.hid (fun wz => rdecimal_any p (by omega) wz)
          have lD := decL_len p (by omega)
          obtain ⟨D, hD⟩ : ∃ D, decL p = D := ⟨_, rfl⟩
          rw [hD] at HD lD HF
          obtain ⟨T4, hT4⟩ : ∃ T, T3 ++ [58] = T := ⟨_, rfl⟩
          have hc4 : Txt T3 ++ (⟨#[58]⟩ : ByteArray) = Txt T4 := by rw [← hT4]; exact cat_txt T3 [58]
          have sT4 : (Txt T4).size ≤ 8388615 := by rw [← hc4, ByteArray.size_append]; have : (⟨#[58]⟩ : ByteArray).size = 1 := rfl; omega
          obtain ⟨T5, hT5⟩ : ∃ T, T4 ++ D = T := ⟨_, rfl⟩
          have hc5 : Txt T4 ++ Txt D = Txt T5 := by rw [← hT5]; exact cat_txt T4 D
          have sD : (Txt D).size ≤ 20 := by rw [txt_size]; exact lD
          have sT5 : (Txt T5).size ≤ 8388635 := by rw [← hc5, ByteArray.size_append]; omega
          have HG := Lib.hid (HF.out.trans (by rw [← hT5, ← hT4]; simp) : printO ⟨S, U, H, P, ps, hs⟩ = some (T5 ++ W1 ++ W2))
          clear hT4 hT5 hD lD
          go_wp2_with fail
          refine (HD.out _).mono ?_
          rintro e w9 ⟨rfl, hK9⟩
          have N9 := Lib.hid (N3.out.kp hK9 (by simp))
          have K9 := Lib.hid (K3.out.trans hK9)
          have KW9 := Lib.hid (KW3.out.trans hK9)
          clear hK9 s2 s3
          obtain ⟨T7, hT7⟩ : ∃ T, T5 ++ W1 = T := ⟨_, rfl⟩
          have hc7 : Txt T5 ++ Txt W1 = Txt T7 := by rw [← hT7]; exact cat_txt T5 W1
          have sT7 : (Txt T7).size ≤ 209715259 := by rw [← hc7, ByteArray.size_append]; omega
          have hc8 := Lib.hid (cat_txt T7 W2)
          have HG2 := Lib.hid (HG.out.trans (by rw [hT7]) : printO ⟨S, U, H, P, ps, hs⟩ = some (T7 ++ W2))
          have g4 := grew_cell (N9.out.cell 4)
          have g5 := grew_cell (N9.out.cell 5)
          have Q1 := Lib.hid (fun (n : Gw w9) => Calls.grew_of (HW1.out _ (KW9.out.trans (grew_kp w9 n))) (fun _ _ h => h))
          have Q2 := Lib.hid (fun (n : Gw w9) => Calls.grew_of (HW2.out _ (KW9.out.trans (grew_kp w9 n))) (fun _ _ h => h))
          clear hT7
          go_upto_region 12 with fail
          refine wp_region_grew (by kernel_rfl) (by kernel_rfl) ?_
          (go_big_quiet_step ((first | (go_at_call 104; with_reducible exact Q1.out _) | (go_at_call 104; with_reducible exact Q2.out _))))
          repeat (go_big_quiet_step ((first | (go_at_call 104; with_reducible exact Q1.out _) | (go_at_call 104; with_reducible exact Q2.out _))))
          refine wpQuiet_nil ?_
          intro _ hw'
          obtain ⟨nq, hw''⟩ := hw'
          subst hw''
          go_wp2_with fail
          go_ret2
          rw [HG2.out]
          exact ⟨congrArg (fun z => Ending.returned (.tuple #[.string z, .int .u8 0])) hc8.out, (K9.out.trans (grew_kp _ _)).nilBelow⟩
end Ad
end Go.Proofs.YtjkkcoiebnmkcaaGreatDoor
