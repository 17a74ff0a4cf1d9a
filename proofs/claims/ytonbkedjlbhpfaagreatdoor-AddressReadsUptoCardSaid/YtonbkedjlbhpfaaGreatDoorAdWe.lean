/- Contracts of the reference's bare and ParseAddress (dialtoneref02). A text has at most 2^20 bytes. -/
import Derived.Test.YtonbkedjlbhpfaaGreatDoorAdWd
namespace Go.Proofs.YtonbkedjlbhpfaaGreatDoor
namespace Ad
open Go.RowKit Lx
theorem blank_bare (c : Int) (h : (c == 59) = false) : blankI c = bareC c := by unfold bareC blankI; rw [h, Bool.false_or]
set_option maxRecDepth 100000 in
set_option maxHeartbeats 8000000 in
theorem rbare_any (s : ByteArray) (i : Nat) (w : World) (hs : s.size ≤ 1048576) (hi : i ≤ s.size) :
    Calls Tryz.prog 83 #[.string s, .int .i64 i] w (AdrP (if endP queC s.data.toList i < endP bareC s.data.toList i then (nilA, endP queC s.data.toList i, 5) else restR s.data.toList [] i (endP bareC s.data.toList i) (endP bareC s.data.toList i)) w) := by
  obtain ⟨te, hte⟩ : ∃ n, endP bareC s.data.toList i = n := ⟨_, rfl⟩
  obtain ⟨c, hc⟩ : ∃ n, endP queC s.data.toList i = n := ⟨_, rfl⟩
  have g0 : i ≤ te := by rw [← hte]; exact endP_ge _ _ _
  have l0 : te ≤ s.size := by rw [← hte, ← len_list]; exact endP_le _ _ _ (by rw [len_list]; exact hi)
  obtain ⟨R, hR⟩ : ∃ R, (if c < te then (nilA, c, 5) else restR s.data.toList [] i te te) = R := ⟨_, rfl⟩
  rw [hte, hc, hR]
  have HRe := Lib.hid (fun wz => rrest_any [] s i te te wz hs g0 l0 l0)
  have HR := Lib.hid hR
  have Hte := Lib.hid hte
  have Hc := Lib.hid hc
  obtain ⟨w0, hw0⟩ : ∃ x, w.alloc (.cells #[.string ⟨#[]⟩, .string ⟨#[]⟩, .string ⟨#[]⟩, .string ⟨#[]⟩, .int .i64 0, .slice none 0 0, .slice none 0 0, .slice none 0 0] 32) = x := ⟨_, rfl⟩
  have K0 := Lib.hid (show Kp [] w w0 from by rw [← hw0]; exact (Kp.refl _ _).alloc _)
  have Z0 := Lib.hid (show Zab w0 w.heap.size from by rw [← hw0]; exact Blk.new w 32 _)
  have HBl := Lib.hid (fun (c : Int) wz => rblank_any c wz)
  clear hte hc hR
  go_enter Tryz.func83, Tryz.ntmps83
  go_wp2_with fail
  go_loop [7] (fun k => ∃ j : Nat, i ≤ j ∧ j ≤ s.size ∧ k = .int .i64 j ∧ endP bareC s.data.toList j = te) (fun k => s.size - (intOf k).toNat)
  case atStart => exact ⟨i, Nat.le_refl _, hi, rfl, Hte.out⟩
  case round =>
    obtain ⟨j, hij, hjs, rfl, he⟩ := hrel
    have He := Lib.hid he
    clear he
    by_cases hlt : j < s.size
    · obtain ⟨x, hx⟩ : ∃ x : Int, (s[j].toNat : Int) = x := ⟨_, rfl⟩
      have tj : (j : Int) < (s.size : Int) := by omega
      cases hb : bareC x
      · have HN := Lib.hid ((endP_next bareC s j hlt (by rw [hx]; exact hb)).symm.trans He.out)
        have h59 : (x == 59) = false := by
          unfold bareC at hb; rw [Bool.or_eq_false_iff] at hb; exact hb.1
        have hbl := blank_bare x h59
        rw [hb] at hbl
        have b59 : ((s[j].toNat : Int) != 59) = true := by rw [bne, hx, h59]; rfl
        have HB := Lib.hid (fun wz => (by have h := HBl.out (s[j].toNat : Int) wz; rw [hx, hbl, ← hx] at h; exact h : Calls Tryz.prog 103 #[.int .u8 (s[j].toNat : Int)] wz (Ret (.bool false) wz)))
        clear hb hx h59 hbl
        go_wp2_with fail
        refine (HB.out _).mono ?_
        rintro e w' ⟨rfl, hw⟩
        obtain rfl := hw
        go_wp2_with fail
        go_round
        case rel => exact ⟨j + 1, by omega, by omega, by go_num, HN.out⟩
        case measure => simp [intOf]; omega
      · have hjt : te = j := He.out.symm.trans (endP_at_k bareC s j hlt (by rw [hx]; exact hb))
        cases h59 : (x == 59)
        case' false =>
          have hbl := blank_bare x h59
          rw [hb] at hbl
          have b59 : ((s[j].toNat : Int) != 59) = true := by rw [bne, hx, h59]; rfl
          have HB := Lib.hid (fun wz => (by have h := HBl.out (s[j].toNat : Int) wz; rw [hx, hbl, ← hx] at h; exact h : Calls Tryz.prog 103 #[.int .u8 (s[j].toNat : Int)] wz (Ret (.bool true) wz)))
          clear hb hx h59 hbl He
          subst hjt
          go_wp2_with fail
          refine (HB.out _).mono ?_
          rintro e w' ⟨rfl, hw⟩
          obtain rfl := hw
        case' true =>
          have b59 : ((s[j].toNat : Int) != 59) = false := by rw [bne, hx, h59]; rfl
          clear hb hx h59 He
          subst hjt
        all_goals
          go_wp2_with fail
          go_loop [8] (fun k => ∃ m : Nat, i ≤ m ∧ m ≤ te ∧ k = .int .i64 m ∧ endP queC s.data.toList m = c) (fun k => te - (intOf k).toNat)
          case atStart => exact ⟨i, Nat.le_refl _, g0, rfl, Hc.out⟩
          case round =>
            obtain ⟨m, him, hmt, rfl, hq⟩ := hrel
            have Hq := Lib.hid hq
            clear hq
            by_cases hm : m < te
            · have hms : m < s.size := by omega
              have tm : (m : Int) < (te : Int) := by omega
              obtain ⟨x2, hx2⟩ : ∃ x : Int, (s[m].toNat : Int) = x := ⟨_, rfl⟩
              cases hqc : queC x2
              · have HN2 := Lib.hid ((endP_next queC s m hms (by rw [hx2]; exact hqc)).symm.trans Hq.out)
                obtain ⟨q1, q2⟩ : (x2 == 63) = false ∧ (x2 == 44) = false := by unfold queC at hqc; rw [Bool.or_eq_false_iff] at hqc; exact hqc
                have c1 : ((s[m].toNat : Int) == 63) = false := by rw [hx2]; exact q1
                have c2 : ((s[m].toNat : Int) == 44) = false := by rw [hx2]; exact q2
                clear hqc hx2 q1 q2
                go_wp2_with fail
                go_round
                case rel => exact ⟨m + 1, by omega, by omega, by go_num, HN2.out⟩
                case measure => simp [intOf]; omega
              · have hcm : c = m := Hq.out.symm.trans (endP_at_k queC s m hms (by rw [hx2]; exact hqc))
                have HF := Lib.hid (HR.out.symm.trans (if_pos (by omega)) : R = (nilA, c, 5))
                subst hcm
                cases h63 : (x2 == 63)
                · have c1 : ((s[c].toNat : Int) == 63) = false := by rw [hx2]; exact h63
                  have c2 : ((s[c].toNat : Int) == 44) = true := by rw [hx2]; unfold queC at hqc; rw [h63, Bool.false_or] at hqc; exact hqc
                  clear hqc hx2 h63
                  have d0 := Z0.out.cell 0
                  have g0 := Z0.out.frozen 0
                  have d1 := Z0.out.cell 1
                  have g1 := Z0.out.frozen 1
                  have d2 := Z0.out.cell 2
                  have g2 := Z0.out.frozen 2
                  have d3 := Z0.out.cell 3
                  have g3 := Z0.out.frozen 3
                  have d4 := Z0.out.cell 4
                  have g4 := Z0.out.frozen 4
                  have d5 := Z0.out.cell 5
                  have g5 := Z0.out.frozen 5
                  have d6 := Z0.out.cell 6
                  have g6 := Z0.out.frozen 6
                  have d7 := Z0.out.cell 7
                  have g7 := Z0.out.frozen 7
                  go_wp2_with fail
                  refine bodyPost_ret (results_three rfl _ _ w.heap.size 32 _ (0, 0) _ rfl (blk8 Z0.out _ _ _ _ _ _ _ _) Tryz.underlying32 rfl infoAdr) rfl ?_
                  rw [HF.out]
                  have hfin := adr_out w.heap.size w w0 nilA c 5 ⟨#[]⟩ ⟨#[]⟩ ⟨#[]⟩ ⟨#[]⟩ 0 none 0 0 none 0 0 none 0 0 (AdIn.nil _ _) K0.out (Nat.le_refl _) Z0.out
                  exact hfin
                · have c1 : ((s[c].toNat : Int) == 63) = true := by rw [hx2]; exact h63
                  clear hqc hx2 h63
                  have d0 := Z0.out.cell 0
                  have g0 := Z0.out.frozen 0
                  have d1 := Z0.out.cell 1
                  have g1 := Z0.out.frozen 1
                  have d2 := Z0.out.cell 2
                  have g2 := Z0.out.frozen 2
                  have d3 := Z0.out.cell 3
                  have g3 := Z0.out.frozen 3
                  have d4 := Z0.out.cell 4
                  have g4 := Z0.out.frozen 4
                  have d5 := Z0.out.cell 5
                  have g5 := Z0.out.frozen 5
                  have d6 := Z0.out.cell 6
                  have g6 := Z0.out.frozen 6
                  have d7 := Z0.out.cell 7
                  have g7 := Z0.out.frozen 7
                  go_wp2_with fail
                  refine bodyPost_ret (results_three rfl _ _ w.heap.size 32 _ (0, 0) _ rfl (blk8 Z0.out _ _ _ _ _ _ _ _) Tryz.underlying32 rfl infoAdr) rfl ?_
                  rw [HF.out]
                  have hfin := adr_out w.heap.size w w0 nilA c 5 ⟨#[]⟩ ⟨#[]⟩ ⟨#[]⟩ ⟨#[]⟩ 0 none 0 0 none 0 0 none 0 0 (AdIn.nil _ _) K0.out (Nat.le_refl _) Z0.out
                  exact hfin
            · have hmte : te = m := by omega
              have tm : ¬ (m : Int) < (te : Int) := by omega
              have hnc : ¬ c < te := by have h := Hq.out; rw [← hmte] at h; have := endP_ge queC s.data.toList te; omega
              have HF := Lib.hid (HR.out.symm.trans (if_neg hnc) : R = restR s.data.toList [] i te te)
              obtain ⟨ra, rn, rx, hrr⟩ : ∃ a b c, restR s.data.toList [] i te te = (a, b, c) := ⟨_, _, _, rfl⟩
              have HRr := Lib.hid (by have h := HRe.out w0; rw [hrr] at h; exact h : Calls Tryz.prog 85 #[.string s, .string (Txt []), .int .i64 i, .int .i64 te, .int .i64 te] w0 (AdrP (ra, rn, rx) w0))
              rw [hrr] at HF
              clear hmte hnc hrr
              go_wp2_with fail
              refine HRr.out.mono ?_
              rintro e w9 ⟨v, rfl, hv, hB9⟩
              have hK9 := (Kp.refl [] w0).below hB9
              have K9 := Lib.hid (K0.out.trans hK9)
              have Z9 := Lib.hid (show Zab w9 w.heap.size from Z0.out.kp hK9 (by simp))
              have Hv := Lib.hid hv
              obtain ⟨vp, vh, vq, rfl, h1, h2, h3⟩ := hv
              obtain ⟨A1, C1, rfl⟩ := h1.form
              obtain ⟨A2, C2, rfl⟩ := h2.form
              obtain ⟨A3, C3, rfl⟩ := h3.form
              clear h1 h2 h3 hB9 hK9
              dsimp only at Hv ⊢
              have d0 := Z9.out.cell 0
              have g0 := Z9.out.frozen 0
              have d1 := Z9.out.cell 1
              have g1 := Z9.out.frozen 1
              have d2 := Z9.out.cell 2
              have g2 := Z9.out.frozen 2
              have d3 := Z9.out.cell 3
              have g3 := Z9.out.frozen 3
              have d4 := Z9.out.cell 4
              have g4 := Z9.out.frozen 4
              have d5 := Z9.out.cell 5
              have g5 := Z9.out.frozen 5
              have d6 := Z9.out.cell 6
              have g6 := Z9.out.frozen 6
              have d7 := Z9.out.cell 7
              have g7 := Z9.out.frozen 7
              go_wp2_with fail
              refine bodyPost_ret (results_three rfl _ _ w.heap.size 32 _ (0, 0) _ rfl (blk8 Z9.out _ _ _ _ _ _ _ _) Tryz.underlying32 rfl infoAdr) rfl ?_
              rw [HF.out]
              exact adr_out w.heap.size w w9 ra rn rx _ _ _ _ _ _ _ _ _ _ _ _ _ _ Hv.out K9.out (Nat.le_refl _) Z9.out
    · have hjt : te = j := by have h := He.out; rw [endP_out bareC s j (by omega)] at h; omega
      have tj : ¬ (j : Int) < (s.size : Int) := by omega
      clear He
      subst hjt
      go_wp2_with fail
      go_loop [8] (fun k => ∃ m : Nat, i ≤ m ∧ m ≤ te ∧ k = .int .i64 m ∧ endP queC s.data.toList m = c) (fun k => te - (intOf k).toNat)
      case atStart => exact ⟨i, Nat.le_refl _, g0, rfl, Hc.out⟩
      case round =>
        obtain ⟨m, him, hmt, rfl, hq⟩ := hrel
        have Hq := Lib.hid hq
        clear hq
        by_cases hm : m < te
        · have hms : m < s.size := by omega
          have tm : (m : Int) < (te : Int) := by omega
          obtain ⟨x2, hx2⟩ : ∃ x : Int, (s[m].toNat : Int) = x := ⟨_, rfl⟩
          cases hqc : queC x2
          · have HN2 := Lib.hid ((endP_next queC s m hms (by rw [hx2]; exact hqc)).symm.trans Hq.out)
            obtain ⟨q1, q2⟩ : (x2 == 63) = false ∧ (x2 == 44) = false := by unfold queC at hqc; rw [Bool.or_eq_false_iff] at hqc; exact hqc
            have c1 : ((s[m].toNat : Int) == 63) = false := by rw [hx2]; exact q1
            have c2 : ((s[m].toNat : Int) == 44) = false := by rw [hx2]; exact q2
            clear hqc hx2 q1 q2
            go_wp2_with fail
            go_round
            case rel => exact ⟨m + 1, by omega, by omega, by go_num, HN2.out⟩
            case measure => simp [intOf]; omega
          · have hcm : c = m := Hq.out.symm.trans (endP_at_k queC s m hms (by rw [hx2]; exact hqc))
            have HF := Lib.hid (HR.out.symm.trans (if_pos (by omega)) : R = (nilA, c, 5))
            subst hcm
            cases h63 : (x2 == 63)
            · have c1 : ((s[c].toNat : Int) == 63) = false := by rw [hx2]; exact h63
              have c2 : ((s[c].toNat : Int) == 44) = true := by rw [hx2]; unfold queC at hqc; rw [h63, Bool.false_or] at hqc; exact hqc
              clear hqc hx2 h63
              have d0 := Z0.out.cell 0
              have g0 := Z0.out.frozen 0
              have d1 := Z0.out.cell 1
              have g1 := Z0.out.frozen 1
              have d2 := Z0.out.cell 2
              have g2 := Z0.out.frozen 2
              have d3 := Z0.out.cell 3
              have g3 := Z0.out.frozen 3
              have d4 := Z0.out.cell 4
              have g4 := Z0.out.frozen 4
              have d5 := Z0.out.cell 5
              have g5 := Z0.out.frozen 5
              have d6 := Z0.out.cell 6
              have g6 := Z0.out.frozen 6
              have d7 := Z0.out.cell 7
              have g7 := Z0.out.frozen 7
              go_wp2_with fail
              refine bodyPost_ret (results_three rfl _ _ w.heap.size 32 _ (0, 0) _ rfl (blk8 Z0.out _ _ _ _ _ _ _ _) Tryz.underlying32 rfl infoAdr) rfl ?_
              rw [HF.out]
              have hfin := adr_out w.heap.size w w0 nilA c 5 ⟨#[]⟩ ⟨#[]⟩ ⟨#[]⟩ ⟨#[]⟩ 0 none 0 0 none 0 0 none 0 0 (AdIn.nil _ _) K0.out (Nat.le_refl _) Z0.out
              exact hfin
            · have c1 : ((s[c].toNat : Int) == 63) = true := by rw [hx2]; exact h63
              clear hqc hx2 h63
              have d0 := Z0.out.cell 0
              have g0 := Z0.out.frozen 0
              have d1 := Z0.out.cell 1
              have g1 := Z0.out.frozen 1
              have d2 := Z0.out.cell 2
              have g2 := Z0.out.frozen 2
              have d3 := Z0.out.cell 3
              have g3 := Z0.out.frozen 3
              have d4 := Z0.out.cell 4
              have g4 := Z0.out.frozen 4
              have d5 := Z0.out.cell 5
              have g5 := Z0.out.frozen 5
              have d6 := Z0.out.cell 6
              have g6 := Z0.out.frozen 6
              have d7 := Z0.out.cell 7
              have g7 := Z0.out.frozen 7
              go_wp2_with fail
              refine bodyPost_ret (results_three rfl _ _ w.heap.size 32 _ (0, 0) _ rfl (blk8 Z0.out _ _ _ _ _ _ _ _) Tryz.underlying32 rfl infoAdr) rfl ?_
              rw [HF.out]
              have hfin := adr_out w.heap.size w w0 nilA c 5 ⟨#[]⟩ ⟨#[]⟩ ⟨#[]⟩ ⟨#[]⟩ 0 none 0 0 none 0 0 none 0 0 (AdIn.nil _ _) K0.out (Nat.le_refl _) Z0.out
              exact hfin
        · have hmte : te = m := by omega
          have tm : ¬ (m : Int) < (te : Int) := by omega
          have hnc : ¬ c < te := by have h := Hq.out; rw [← hmte] at h; have := endP_ge queC s.data.toList te; omega
          have HF := Lib.hid (HR.out.symm.trans (if_neg hnc) : R = restR s.data.toList [] i te te)
          obtain ⟨ra, rn, rx, hrr⟩ : ∃ a b c, restR s.data.toList [] i te te = (a, b, c) := ⟨_, _, _, rfl⟩
          have HRr := Lib.hid (by have h := HRe.out w0; rw [hrr] at h; exact h : Calls Tryz.prog 85 #[.string s, .string (Txt []), .int .i64 i, .int .i64 te, .int .i64 te] w0 (AdrP (ra, rn, rx) w0))
          rw [hrr] at HF
          clear hmte hnc hrr
          go_wp2_with fail
          refine HRr.out.mono ?_
          rintro e w9 ⟨v, rfl, hv, hB9⟩
          have hK9 := (Kp.refl [] w0).below hB9
          have K9 := Lib.hid (K0.out.trans hK9)
          have Z9 := Lib.hid (show Zab w9 w.heap.size from Z0.out.kp hK9 (by simp))
          have Hv := Lib.hid hv
          obtain ⟨vp, vh, vq, rfl, h1, h2, h3⟩ := hv
          obtain ⟨A1, C1, rfl⟩ := h1.form
          obtain ⟨A2, C2, rfl⟩ := h2.form
          obtain ⟨A3, C3, rfl⟩ := h3.form
          clear h1 h2 h3 hB9 hK9
          dsimp only at Hv ⊢
          have d0 := Z9.out.cell 0
          have g0 := Z9.out.frozen 0
          have d1 := Z9.out.cell 1
          have g1 := Z9.out.frozen 1
          have d2 := Z9.out.cell 2
          have g2 := Z9.out.frozen 2
          have d3 := Z9.out.cell 3
          have g3 := Z9.out.frozen 3
          have d4 := Z9.out.cell 4
          have g4 := Z9.out.frozen 4
          have d5 := Z9.out.cell 5
          have g5 := Z9.out.frozen 5
          have d6 := Z9.out.cell 6
          have g6 := Z9.out.frozen 6
          have d7 := Z9.out.cell 7
          have g7 := Z9.out.frozen 7
          go_wp2_with fail
          refine bodyPost_ret (results_three rfl _ _ w.heap.size 32 _ (0, 0) _ rfl (blk8 Z9.out _ _ _ _ _ _ _ _) Tryz.underlying32 rfl infoAdr) rfl ?_
          rw [HF.out]
          exact adr_out w.heap.size w w9 ra rn rx _ _ _ _ _ _ _ _ _ _ _ _ _ _ Hv.out K9.out (Nat.le_refl _) Z9.out
set_option maxRecDepth 100000 in
theorem adr_dsp (l : List UInt8) (hl : ¬ 1024 < l.length) (i less : Nat) (hi : blkE l 0 = i) (hle : endP (· == 60) l i = less) (h : atB l i = 34 ∨ less < l.length) (nm : List UInt8) (o p : Nat) (x : Int) (hd : dspR l i less = (nm, o, p, x)) :
    adrR l = if x ≠ 0 then (nilA, p, x) else angR l nm o := by
  unfold adrR
  rw [if_neg hl, hi, hle]
  unfold dspR at hd
  by_cases h34 : atB l i = 34
  · rw [if_pos h34] at hd ⊢
    by_cases h1 : uqE l i ≠ 0
    · rw [if_pos h1] at hd ⊢
      injection hd with e1 e2; injection e2 with e2 e3; injection e3 with e3 e4
      rw [← e4, ← e3, if_pos h1]
    · rw [if_neg h1] at hd ⊢
      by_cases h2 : atB l (blkE l (uqN l i).toNat) ≠ 60
      · rw [if_pos h2] at hd ⊢
        injection hd with e1 e2; injection e2 with e2 e3; injection e3 with e3 e4
        rw [← e4, ← e3, if_pos (by decide)]
      · rw [if_neg h2] at hd ⊢
        injection hd with e1 e2; injection e2 with e2 e3; injection e3 with e3 e4
        rw [← e4, ← e1, ← e2, if_neg (by decide)]
  · rw [if_neg h34] at hd ⊢
    have hll : less < l.length := by rcases h with h | h; exact absurd h h34; exact h
    rw [if_pos hll]
    by_cases h1 : (tksF (l.length + 1) l i less []).2.2 ≠ 0
    · rw [if_pos h1] at hd ⊢
      injection hd with e1 e2; injection e2 with e2 e3
      have e5 : x = (tksF (l.length + 1) l i less []).2.2 := by rw [e3]
      have e6 : p = (tksF (l.length + 1) l i less []).2.1 := by rw [e3]
      rw [if_pos (by rw [e5]; exact h1), e5, e6]
    · rw [if_neg h1] at hd ⊢
      injection hd with e1 e2; injection e2 with e2 e3; injection e3 with e3 e4
      rw [← e4, ← e1, ← e2, if_neg (by decide)]
theorem dsp_open (l : List UInt8) (i less : Nat) (hle : endP (· == 60) l i = less) (h : atB l i = 34 ∨ less < l.length) (nm : List UInt8) (o p : Nat) (x : Int) (hd : dspR l i less = (nm, o, p, x)) (hx : x = 0) : atB l o = 60 := by
  unfold dspR at hd
  by_cases h34 : atB l i = 34
  · rw [if_pos h34] at hd
    by_cases h1 : uqE l i ≠ 0
    · rw [if_pos h1] at hd
      injection hd with e1 e2; injection e2 with e2 e3; injection e3 with e3 e4
      exact absurd (e4.trans hx) h1
    · rw [if_neg h1] at hd
      by_cases h2 : atB l (blkE l (uqN l i).toNat) ≠ 60
      · rw [if_pos h2] at hd
        injection hd with e1 e2; injection e2 with e2 e3; injection e3 with e3 e4
        rw [← e4] at hx; exact absurd hx (by decide)
      · rw [if_neg h2] at hd
        injection hd with e1 e2; injection e2 with e2 e3
        rw [← e2]; exact Decidable.not_not.1 h2
  · rw [if_neg h34] at hd
    have hll : less < l.length := by rcases h with h | h; exact absurd h h34; exact h
    by_cases h1 : (tksF (l.length + 1) l i less []).2.2 ≠ 0
    · rw [if_pos h1] at hd
      injection hd with e1 e2; injection e2 with e2 e3
      have e5 : x = (tksF (l.length + 1) l i less []).2.2 := by rw [e3]
      exact absurd (e5.symm.trans hx) h1
    · rw [if_neg h1] at hd
      injection hd with e1 e2; injection e2 with e2 e3
      rw [← e2]
      have := endP_at (· == 60) l i (by rw [hle]; exact hll)
      rw [hle] at this
      exact beq_iff_eq.1 this
theorem adr_noang (l : List UInt8) (hl : ¬ 1024 < l.length) (i : Nat) (hi : blkE l 0 = i) (h34 : atB l i ≠ 34) (h : ¬ endP (· == 60) l i < l.length) :
    adrR l = if endP queC l i < endP bareC l i then (nilA, endP queC l i, 5) else restR l [] i (endP bareC l i) (endP bareC l i) := by
  unfold adrR
  rw [if_neg hl, hi, if_neg h34, if_neg h]
set_option maxRecDepth 100000 in
set_option maxHeartbeats 16000000 in
theorem rParseAddress_any (s : ByteArray) (w : World) (hs : s.size ≤ 1048576) :
    Calls Tryz.prog 24 #[.string s] w (AdrP (adrR s.data.toList) w) := by
  have hlen := len_list s
  obtain ⟨w0, hw0⟩ : ∃ x, w.alloc (.cells #[.string ⟨#[]⟩, .string ⟨#[]⟩, .string ⟨#[]⟩, .string ⟨#[]⟩, .int .i64 0, .slice none 0 0, .slice none 0 0, .slice none 0 0] 32) = x := ⟨_, rfl⟩
  have K0 := Lib.hid (show Kp [] w w0 from by rw [← hw0]; exact (Kp.refl _ _).alloc _)
  have Z0 := Lib.hid (show Zab w0 w.heap.size from by rw [← hw0]; exact Blk.new w 32 _)
  by_cases h1024 : 1024 < s.size
  · have hl : (1024 : Int) < (s.size : Int) := by omega
    have HF := Lib.hid (by unfold adrR; rw [if_pos (by rw [hlen]; exact h1024)] : adrR s.data.toList = (nilA, 1024, 4))
    clear hlen h1024
    go_enter Tryz.func24, Tryz.ntmps24
    have d0 := Z0.out.cell 0
    have g0 := Z0.out.frozen 0
    have d1 := Z0.out.cell 1
    have g1 := Z0.out.frozen 1
    have d2 := Z0.out.cell 2
    have g2 := Z0.out.frozen 2
    have d3 := Z0.out.cell 3
    have g3 := Z0.out.frozen 3
    have d4 := Z0.out.cell 4
    have g4 := Z0.out.frozen 4
    have d5 := Z0.out.cell 5
    have g5 := Z0.out.frozen 5
    have d6 := Z0.out.cell 6
    have g6 := Z0.out.frozen 6
    have d7 := Z0.out.cell 7
    have g7 := Z0.out.frozen 7
    go_wp2_with fail
    refine bodyPost_ret (results_three rfl _ _ w.heap.size 32 _ (0, 0) _ rfl (blk8 Z0.out _ _ _ _ _ _ _ _) Tryz.underlying32 rfl infoAdr) rfl ?_
    rw [HF.out]
    have hfin := adr_out w.heap.size w w0 nilA 1024 4 ⟨#[]⟩ ⟨#[]⟩ ⟨#[]⟩ ⟨#[]⟩ 0 none 0 0 none 0 0 none 0 0 (AdIn.nil _ _) K0.out (Nat.le_refl _) Z0.out
    exact hfin
  have hl : ¬ (1024 : Int) < (s.size : Int) := by omega
  obtain ⟨i, hi⟩ : ∃ i, blkE s.data.toList 0 = i := ⟨_, rfl⟩
  obtain ⟨_, i2⟩ := blkE_bd s 0 (Nat.zero_le _)
  rw [hi] at i2
  have HBl := Lib.hid (by have h := rblkE s 0 w0 (by omega) (Nat.zero_le _); rw [hi] at h; exact h : Calls Tryz.prog 81 #[.string s, .int .i64 0] w0 (Ret (.int .i64 (i : Nat)) w0))
  obtain ⟨lz, hlz⟩ : ∃ z, idxI s.data.toList i 60 = z := ⟨_, rfl⟩
  have HIx := Lib.hid (by have h := rindex_any s i 60 w0 i2 (by omega); rw [hlz] at h; exact h : Calls Tryz.prog 82 #[.string s, .int .i64 i, .int .u8 60] w0 (InK lz w0))
  obtain ⟨le, hle⟩ : ∃ n, endP (· == 60) s.data.toList i = n := ⟨_, rfl⟩
  have lez : le ≤ s.size := by rw [← hle, ← hlen]; exact endP_le _ _ _ (by rw [hlen]; exact i2)
  have leg : i ≤ le := by rw [← hle]; exact endP_ge _ _ _
  have hz : lz = if le < s.size then (le : Int) else -1 := by rw [← hlz]; unfold idxI; rw [hle, hlen]
  have hl2 : ¬ 1024 < s.data.toList.length := by omega
  by_cases hd : atB s.data.toList i = 34 ∨ le < s.data.toList.length
  · -- with an angle bracket or a quotation mark
    obtain ⟨nm, o, p, x, hdr⟩ : ∃ a b c d, dspR s.data.toList i le = (a, b, c, d) := ⟨_, _, _, _, rfl⟩
    have HA := Lib.hid (adr_dsp s.data.toList hl2 i le hi hle hd nm o p x hdr)
    have HO := Lib.hid (dsp_open s.data.toList i le hle hd nm o p x hdr)
    have hDs : (∀ wz, Calls Tryz.prog 84 #[.string s, .int .i64 i, .int .i64 lz] wz (DsP (nm, o, p, x) wz)) := by
      intro wz
      rw [← hdr]
      by_cases h34 : atB s.data.toList i = 34
      · exact rdisplay_q s i le lz wz hs h34
      · have hll : le < s.size := by rcases hd with h | h; exact absurd h h34; rw [hlen] at h; exact h
        rw [hz, if_pos hll]
        exact rdisplay_t s i le wz hs (by omega) (by omega) h34
    have HDs := Lib.hid hDs
    have Hlen := Lib.hid hlen
    have hIn : (i : Int) < (s.size : Int) := by
      rcases hd with h | h
      · have := atB_lt _ _ (by rw [h]; decide : atB s.data.toList i ≠ -1); omega
      · omega
    have his : i < s.size := by omega
    have hAi := atB_get s i his
    have hne : ((i : Int) == (s.size : Int)) = false := by rw [beq_eq_false_iff_ne]; omega
    have hcase : (lz < 0 ∧ ((s[i].toNat : Int) != 34) = false) ∨ ¬ lz < 0 := by
      by_cases hneg : lz < 0
      · left
        have h34 : atB s.data.toList i = 34 := by
          rcases hd with h | h
          · exact h
          · rw [hlen] at h; rw [hz, if_pos h] at hneg; omega
        exact ⟨hneg, by rw [hAi] at h34; rw [h34]; rfl⟩
      · exact .inr hneg
    clear hd hdr hDs hlen hi hlz hle hz hl2 lez leg hAi h1024
    rcases hcase with ⟨hneg, b34⟩ | hneg
    all_goals
      go_enter Tryz.func24, Tryz.ntmps24
      go_wp2_with fail
      refine HBl.out.mono ?_
      rintro e w1 ⟨rfl, hw1⟩
      obtain rfl := hw1
      go_wp2_with fail
      refine HIx.out.mono ?_
      rintro e w2 ⟨rfl, hK2⟩
      have K2 := Lib.hid (K0.out.trans hK2)
      have Z2 := Lib.hid (show Zab w2 w.heap.size from Z0.out.kp hK2 (by simp))
      clear hK2
      go_wp2_with fail
      refine (HDs.out _).mono ?_
      rintro e w3 ⟨rfl, hK3⟩
      have K3 := Lib.hid (K2.out.trans hK3)
      have Z3 := Lib.hid (show Zab w3 w.heap.size from Z2.out.kp hK3 (by simp))
      clear hK3
      dsimp only
      by_cases hx : x = 0
      · have bx : (x != 0) = false := by rw [hx]; rfl
        have hA := HA.out
        rw [if_neg (fun h => h hx)] at hA
        have hO := HO.out hx
        have hos := atB_lt _ _ (by rw [hO]; decide : atB s.data.toList o ≠ -1)
        rw [Hlen.out] at hos
        have hAo := atB_get s o hos
        rw [hO] at hAo
        have hen : endP (· == 62) s.data.toList o = endP (· == 62) s.data.toList (o + 1) := endP_next (· == 62) s o hos (by show (((s[o].toNat : Nat) : Int) == 62) = false; rw [← hAo]; rfl)
        obtain ⟨en, hEn⟩ : ∃ n, endP (· == 62) s.data.toList (o + 1) = n := ⟨_, rfl⟩
        obtain ⟨o1, ho1⟩ : ∃ n, o + 1 = n := ⟨_, rfl⟩
        have en1 : o + 1 ≤ en := by rw [← hEn]; exact endP_ge _ _ _
        have en2 : en ≤ s.size := by rw [← hEn, ← Hlen.out]; exact endP_le _ _ _ (by rw [Hlen.out]; omega)
        obtain ⟨ez, hez⟩ : ∃ z, idxI s.data.toList o 62 = z := ⟨_, rfl⟩
        have HI2 := Lib.hid (fun wz => (by have h := rindex_any s o 62 wz (by omega) (by omega); rw [hez] at h; exact h : Calls Tryz.prog 82 #[.string s, .int .i64 o, .int .u8 62] wz (InK ez wz)))
        have hez2 : ez = if en < s.size then (en : Int) else -1 := by rw [← hez]; unfold idxI; rw [hen, hEn, Hlen.out]
        have hA2 : adrR s.data.toList = if en = s.size then (nilA, s.size, 5) else restR s.data.toList nm o1 en (en + 1) := by rw [hA]; unfold angR; rw [hEn, Hlen.out, ho1]
        have HA2 := Lib.hid hA2
        have wo1 : IntKind.i64.wrap ((o : Int) + 1) = (o1 : Int) := by rw [IntWalk.i64_in _ (by omega)]; omega
        clear hx hA hO hAo hen hEn hez hA2 HA HO
        by_cases hes : en = s.size
        · have HF := Lib.hid (HA2.out.trans (if_pos hes))
          have hzn : ez < 0 := by rw [hez2, if_neg (by omega)]; decide
          clear hez2 hes en1 en2 ho1
          go_wp2_with fail
          refine (HI2.out _).mono ?_
          rintro e w4 ⟨rfl, hK4⟩
          have K4 := Lib.hid (K3.out.trans hK4)
          have Z4 := Lib.hid (show Zab w4 w.heap.size from Z3.out.kp hK4 (by simp))
          clear hK4
          have d0 := Z4.out.cell 0
          have g0 := Z4.out.frozen 0
          have d1 := Z4.out.cell 1
          have g1 := Z4.out.frozen 1
          have d2 := Z4.out.cell 2
          have g2 := Z4.out.frozen 2
          have d3 := Z4.out.cell 3
          have g3 := Z4.out.frozen 3
          have d4 := Z4.out.cell 4
          have g4 := Z4.out.frozen 4
          have d5 := Z4.out.cell 5
          have g5 := Z4.out.frozen 5
          have d6 := Z4.out.cell 6
          have g6 := Z4.out.frozen 6
          have d7 := Z4.out.cell 7
          have g7 := Z4.out.frozen 7
          go_wp2_with fail
          refine bodyPost_ret (results_three rfl _ _ w.heap.size 32 _ (0, 0) _ rfl (blk8 Z4.out _ _ _ _ _ _ _ _) Tryz.underlying32 rfl infoAdr) rfl ?_
          rw [HF.out]
          have hfin := adr_out w.heap.size w w4 nilA s.size 5 ⟨#[]⟩ ⟨#[]⟩ ⟨#[]⟩ ⟨#[]⟩ 0 none 0 0 none 0 0 none 0 0 (AdIn.nil _ _) K4.out (Nat.le_refl _) Z4.out
          exact hfin
        · have HF := Lib.hid (HA2.out.trans (if_neg hes))
          have hzn : ¬ ez < 0 := by rw [hez2, if_pos (by omega)]; omega
          have hze : ez = (en : Int) := by rw [hez2, if_pos (by omega)]
          obtain ⟨e1, he1⟩ : ∃ n, en + 1 = n := ⟨_, rfl⟩
          have we1 : IntKind.i64.wrap ((en : Int) + 1) = (e1 : Int) := by rw [IntWalk.i64_in _ (by omega)]; omega
          rw [he1] at HF
          obtain ⟨ra, rn, rx, hrr⟩ : ∃ a b c, restR s.data.toList nm o1 en e1 = (a, b, c) := ⟨_, _, _, rfl⟩
          have HRr := Lib.hid (fun wz => (by have h := rrest_any nm s o1 en e1 wz hs (by omega) en2 (by omega); rw [hrr] at h; exact h : Calls Tryz.prog 85 #[.string s, .string (Txt nm), .int .i64 o1, .int .i64 en, .int .i64 e1] wz (AdrP (ra, rn, rx) wz)))
          rw [hrr] at HF
          clear hez2 hes ho1 he1 hrr
          subst hze
          go_wp2_with fail
          refine (HI2.out _).mono ?_
          rintro e w4 ⟨rfl, hK4⟩
          have K4 := Lib.hid (K3.out.trans hK4)
          have Z4 := Lib.hid (show Zab w4 w.heap.size from Z3.out.kp hK4 (by simp))
          clear hK4
          go_wp2_with fail
          refine (HRr.out _).mono ?_
          rintro e w9 ⟨v, rfl, hv, hB9⟩
          have hK9 := (Kp.refl [] w4).below hB9
          have K9 := Lib.hid (K4.out.trans hK9)
          have Z9 := Lib.hid (show Zab w9 w.heap.size from Z4.out.kp hK9 (by simp))
          have Hv := Lib.hid hv
          obtain ⟨vp, vh, vq, rfl, h1, h2, h3⟩ := hv
          obtain ⟨A1, C1, rfl⟩ := h1.form
          obtain ⟨A2, C2, rfl⟩ := h2.form
          obtain ⟨A3, C3, rfl⟩ := h3.form
          clear h1 h2 h3 hB9 hK9
          dsimp only at Hv ⊢
          have d0 := Z9.out.cell 0
          have g0 := Z9.out.frozen 0
          have d1 := Z9.out.cell 1
          have g1 := Z9.out.frozen 1
          have d2 := Z9.out.cell 2
          have g2 := Z9.out.frozen 2
          have d3 := Z9.out.cell 3
          have g3 := Z9.out.frozen 3
          have d4 := Z9.out.cell 4
          have g4 := Z9.out.frozen 4
          have d5 := Z9.out.cell 5
          have g5 := Z9.out.frozen 5
          have d6 := Z9.out.cell 6
          have g6 := Z9.out.frozen 6
          have d7 := Z9.out.cell 7
          have g7 := Z9.out.frozen 7
          go_wp2_with fail
          refine bodyPost_ret (results_three rfl _ _ w.heap.size 32 _ (0, 0) _ rfl (blk8 Z9.out _ _ _ _ _ _ _ _) Tryz.underlying32 rfl infoAdr) rfl ?_
          rw [HF.out]
          exact adr_out w.heap.size w w9 ra rn rx _ _ _ _ _ _ _ _ _ _ _ _ _ _ Hv.out K9.out (Nat.le_refl _) Z9.out
      · have bx : (x != 0) = true := by rw [bne_iff_ne]; exact hx
        have HF := Lib.hid (HA.out.trans (if_pos hx))
        clear hx HA HO
        have d0 := Z3.out.cell 0
        have g0 := Z3.out.frozen 0
        have d1 := Z3.out.cell 1
        have g1 := Z3.out.frozen 1
        have d2 := Z3.out.cell 2
        have g2 := Z3.out.frozen 2
        have d3 := Z3.out.cell 3
        have g3 := Z3.out.frozen 3
        have d4 := Z3.out.cell 4
        have g4 := Z3.out.frozen 4
        have d5 := Z3.out.cell 5
        have g5 := Z3.out.frozen 5
        have d6 := Z3.out.cell 6
        have g6 := Z3.out.frozen 6
        have d7 := Z3.out.cell 7
        have g7 := Z3.out.frozen 7
        go_wp2_with fail
        refine bodyPost_ret (results_three rfl _ _ w.heap.size 32 _ (0, 0) _ rfl (blk8 Z3.out _ _ _ _ _ _ _ _) Tryz.underlying32 rfl infoAdr) rfl ?_
        rw [HF.out]
        have hfin := adr_out w.heap.size w w3 nilA p x ⟨#[]⟩ ⟨#[]⟩ ⟨#[]⟩ ⟨#[]⟩ 0 none 0 0 none 0 0 none 0 0 (AdIn.nil _ _) K3.out (Nat.le_refl _) Z3.out
        exact hfin
  · have h34 : atB s.data.toList i ≠ 34 := fun h => hd (.inl h)
    have hll : ¬ le < s.data.toList.length := fun h => hd (.inr h)
    have HF := Lib.hid (adr_noang s.data.toList hl2 i hi h34 (by rw [hle]; exact hll))
    have hneg : lz < 0 := by rw [hz, if_neg (by rw [hlen] at hll; exact hll)]; decide
    have HBa := Lib.hid (fun wz => rbare_any s i wz hs i2)
    have hcase : ((i : Int) == (s.size : Int)) = true ∨ (((i : Int) == (s.size : Int)) = false ∧ ∃ hil : i < s.size, ((s[i].toNat : Int) != 34) = true) := by
      by_cases his : i = s.size
      · left; rw [his]; simp
      · right
        have hil : i < s.size := by omega
        have hAi := atB_get s i hil
        exact ⟨by rw [beq_eq_false_iff_ne]; omega, hil, by rw [hAi] at h34; rw [bne_iff_ne]; exact h34⟩
    clear hd hlen hi hlz hle hz hl2 lez leg h34 hll h1024
    rcases hcase with be | ⟨be, hil, b34⟩
    all_goals
      obtain ⟨ra, rn, rx, hrr⟩ : ∃ a b c, (if endP queC s.data.toList i < endP bareC s.data.toList i then (nilA, endP queC s.data.toList i, 5) else restR s.data.toList [] i (endP bareC s.data.toList i) (endP bareC s.data.toList i)) = (a, b, c) := ⟨_, _, _, rfl⟩
      rw [hrr] at HF HBa
      clear hrr
      go_enter Tryz.func24, Tryz.ntmps24
      go_wp2_with fail
      refine HBl.out.mono ?_
      rintro e w1 ⟨rfl, hw1⟩
      obtain rfl := hw1
      go_wp2_with fail
      refine HIx.out.mono ?_
      rintro e w2 ⟨rfl, hK2⟩
      have K2 := Lib.hid (K0.out.trans hK2)
      have Z2 := Lib.hid (show Zab w2 w.heap.size from Z0.out.kp hK2 (by simp))
      clear hK2
      go_wp2_with fail
      refine (HBa.out _).mono ?_
      rintro e w9 ⟨v, rfl, hv, hB9⟩
      have hK9 := (Kp.refl [] w2).below hB9
      have K9 := Lib.hid (K2.out.trans hK9)
      have Z9 := Lib.hid (show Zab w9 w.heap.size from Z2.out.kp hK9 (by simp))
      have Hv := Lib.hid hv
      obtain ⟨vp, vh, vq, rfl, h1, h2, h3⟩ := hv
      obtain ⟨A1, C1, rfl⟩ := h1.form
      obtain ⟨A2, C2, rfl⟩ := h2.form
      obtain ⟨A3, C3, rfl⟩ := h3.form
      clear h1 h2 h3 hB9 hK9
      dsimp only at Hv ⊢
      have d0 := Z9.out.cell 0
      have g0 := Z9.out.frozen 0
      have d1 := Z9.out.cell 1
      have g1 := Z9.out.frozen 1
      have d2 := Z9.out.cell 2
      have g2 := Z9.out.frozen 2
      have d3 := Z9.out.cell 3
      have g3 := Z9.out.frozen 3
      have d4 := Z9.out.cell 4
      have g4 := Z9.out.frozen 4
      have d5 := Z9.out.cell 5
      have g5 := Z9.out.frozen 5
      have d6 := Z9.out.cell 6
      have g6 := Z9.out.frozen 6
      have d7 := Z9.out.cell 7
      have g7 := Z9.out.frozen 7
      go_wp2_with fail
      refine bodyPost_ret (results_three rfl _ _ w.heap.size 32 _ (0, 0) _ rfl (blk8 Z9.out _ _ _ _ _ _ _ _) Tryz.underlying32 rfl infoAdr) rfl ?_
      rw [HF.out]
      exact adr_out w.heap.size w w9 ra rn rx _ _ _ _ _ _ _ _ _ _ _ _ _ _ Hv.out K9.out (Nat.le_refl _) Z9.out
end Ad
end Go.Proofs.YtonbkedjlbhpfaaGreatDoor
