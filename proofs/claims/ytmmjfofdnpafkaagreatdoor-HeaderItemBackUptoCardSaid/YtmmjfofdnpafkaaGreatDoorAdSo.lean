/- Contract of the reference's Sorted (dialtoneref02). -/
import Derived.Test.YtmmjfofdnpafkaaGreatDoorAdTu
namespace Go.Proofs.YtmmjfofdnpafkaaGreatDoor
namespace Ad
open Go.RowKit Lx

theorem insE_at (x : Prm) (O : List Prm) (k : Nat) (hk : k ≤ O.length) (h1 : ∀ m, k ≤ m → m < O.length → ltL x.1 O[m]!.1 = true) (h2 : k = 0 ∨ ltL x.1 O[k - 1]!.1 = false) : insE x O = O.take k ++ x :: O.drop k := by
  have hp : ∀ y ∈ (O.drop k).reverse, (fun y : Prm => ltL x.1 y.1) y = true := by
    intro y hy
    rw [List.mem_reverse] at hy
    obtain ⟨i, hi, rfl⟩ := List.mem_iff_getElem.1 hy
    rw [List.getElem_drop]
    have := h1 (k + i) (by omega) (by rw [List.length_drop] at hi; omega)
    rwa [getElem!_pos O (k + i) (by rw [List.length_drop] at hi; omega)] at this
  have hr : O.reverse = (O.drop k).reverse ++ (O.take k).reverse := by rw [← List.reverse_append, List.take_append_drop]
  have hf : ((O.take k).reverse.takeWhile fun y => ltL x.1 y.1) = [] ∧ ((O.take k).reverse.dropWhile fun y => ltL x.1 y.1) = (O.take k).reverse := by
    rcases h2 with h2 | h2
    · subst h2; simp
    · rcases k with _ | m
      · simp
      · rw [List.take_succ_eq_append_getElem (by omega), List.reverse_append, List.reverse_singleton, List.singleton_append]
        rw [Nat.add_sub_cancel, getElem!_pos O m (by omega)] at h2
        rw [List.takeWhile_cons, List.dropWhile_cons, h2]
        simp
  unfold insE
  rw [hr, List.takeWhile_append_of_pos hp, List.dropWhile_append_of_pos hp, hf.1, hf.2]
  simp
theorem srt_next (l : List Prm) (j : Nat) (h : j < l.length) : srt (l.take (j + 1)) = insE l[j]! (srt (l.take j)) := by
  rw [List.take_succ_eq_append_getElem h, getElem!_pos l j h]
  unfold srt
  rw [List.foldl_append]; rfl
theorem PmIn.drop {B : Nat} {w : World} {b o n c : Nat} {l : List Prm} (hb : b < B) (hn : l.length = n) (hc : n ≤ c) (hcell : ∀ (i : Nat) (u : Value), (pcl l)[i]? = some u → w.cell? ⟨b, o + i, none⟩ = some u) (k : Nat) (hk : k ≤ n) : PmIn B w (.slice (some ⟨b, o + k * 3, none⟩) (n - k) (c - k)) (l.drop k) := by
  refine ⟨n - k, c - k, by rw [List.length_drop]; omega, by omega, .inr ⟨b, o + k * 3, rfl, hb, fun i u hu => ?_⟩⟩
  have e : pcl l = pcl (l.take k) ++ pcl (l.drop k) := by rw [← pcl_app, List.take_append_drop]
  have hl : (pcl (l.take k)).length = k * 3 := by rw [pcl_len, List.length_take, Nat.min_eq_left (by omega)]
  have := hcell (k * 3 + i) u (by rw [e, List.getElem?_append_right (by omega), hl]; rw [show k * 3 + i - k * 3 = i from by omega]; exact hu)
  rwa [← Nat.add_assoc] at this
theorem PmIn.none0 (B : Nat) (w : World) (A : Option Addr) (c : Nat) (b o : Nat) (hb : b < B) : PmIn B w (.slice (some ⟨b, o, none⟩) 0 c) [] := ⟨0, c, rfl, Nat.zero_le _, .inr ⟨b, o, rfl, hb, fun j u hu => by simp [pcl] at hu⟩⟩
/-- The parameters from k on are all greater. -/
def GtF (x : List UInt8) (O : List Prm) (k : Nat) : Prop := ∀ m, k ≤ m → m < O.length → ltL x O[m]!.1 = true
theorem GtF.down {x : List UInt8} {O : List Prm} {k : Nat} (h : GtF x O (k + 1)) (h2 : ltL x O[k]!.1 = true) : GtF x O k := fun m hm hl => by
  rcases Nat.lt_or_ge k m with h3 | h3
  · exact h m h3 hl
  · rw [show m = k from by omega]; exact h2
set_option maxRecDepth 100000 in
set_option maxHeartbeats 8000000 in
theorem rSorted_any (B : Nat) (v : Value) (l : List Prm) (w : World) (hP : PmIn B w v l) (hB : B ≤ w.heap.size) (hl : l.length ≤ 2097152) :
    Calls Tryz.prog 55 #[v] w (StP (srt l) w) := by
  have HPm := Lib.hid hP
  obtain ⟨i0, hi, hz0, hz1, hz2⟩ := info_parts infoPrm3
  obtain ⟨A, cA, rfl⟩ := hP.form
  clear hP
  go_enter Tryz.func55, Tryz.ntmps55
  go_wp2_with fail
  go_loopg [3, 4] (l.length + 1) (fun gg out i wr => ∃ (j : Nat) (vA : Option Addr) (vC nO : Nat), j ≤ l.length ∧ l.length - j < gg ∧ nO = j ∧ (nO = 0 → vA = none) ∧ out = .slice vA nO vC ∧ i = .int .i64 j ∧ PmIn wr.heap.size wr (.slice vA nO vC) (srt (l.take j)) ∧ Kp [] w wr)
  case atStart => exact ⟨0, none, 0, 0, by omega, by omega, rfl, (fun _ => rfl), rfl, rfl, PmIn.nil _ _, Kp.refl _ _⟩
  case round =>
    obtain ⟨j, vA, vC, nO, hj, hg, hnO, hnA, rfl, rfl, hPO, hK⟩ := hrel
    obtain ⟨w0, rfl⟩ : ∃ w0, w0 = wr := ⟨_, rfl⟩
    have HK := Lib.hid hK
    have HPO := Lib.hid hPO
    have hsz := hK.size
    have PLr := HPm.out.kp hK hB (by simp)
    obtain ⟨O, hO⟩ : ∃ O, srt (l.take j) = O := ⟨_, rfl⟩
    have hOl : O.length = j := by rw [← hO, (srt_perm _).length_eq, List.length_take]; omega
    have HO := Lib.hid hO
    rw [hO] at hPO HPO
    clear hK
    by_cases hlt : j < l.length
    · obtain ⟨q1, q2, q3, hq⟩ : ∃ a b c, l[j]! = (a, b, c) := ⟨_, _, _, rfl⟩
      have hsome : l[j]? = some (q1, q2, q3) := by rw [← hq]; exact getD_some l j hlt
      have HNx := Lib.hid (by rw [srt_next l j hlt, hq, hO] : srt (l.take (j + 1)) = insE (q1, q2, q3) O)
      obtain ⟨_, c', rfl, hc, ⟨h0, hv⟩ | ⟨bl, o, hv, hbl, hcell⟩⟩ := PLr
      · omega
      · injection hv with hA _ hc2
        subst hA
        subst hc2
        have c0 := Lib.hid (show w0.cell? ⟨bl, o + j * 3, none⟩ = some (.string (Txt q1)) from hcell _ _ (pcl_at l j _ hsome 0 _ rfl))
        have c1 := Lib.hid (show w0.cell? ⟨bl, o + j * 3 + 1, none⟩ = some (.string (Txt q2)) from by rw [Nat.add_assoc]; exact hcell _ _ (pcl_at l j _ hsome 1 _ rfl))
        have c2 := Lib.hid (show w0.cell? ⟨bl, o + j * 3 + 2, none⟩ = some (.bool q3) from by rw [Nat.add_assoc]; exact hcell _ _ (pcl_at l j _ hsome 2 _ rfl))
        have hblt : bl < w0.heap.size := by omega
        clear hcell hc hq hsome hO
        obtain ⟨n9, cO, hn9, hcO, ⟨h0, hv⟩ | ⟨bo, oo, hv, hbo, hcell⟩⟩ := hPO
        · -- the first one
          have hO0 : O = [] := List.eq_nil_of_length_eq_zero (by omega)
          subst hO0
          injection hv with hv1 hv2 hv3
          subst hv1
          subst hv2
          have hj0 : j = 0 := by simpa using hOl.symm
          subst hj0
          clear hn9 hcO h0 hv3 hnO hOl
          have hn1 : (0 : Nat) ≤ 0 := Nat.le_refl _
          clear hnA
          go_wp2_with fail
          go_loopg [5] 1 (fun gk k wr => k = .int .i64 0 ∧ Kp [] w0 wr)
          case atStart => exact ⟨rfl, Kp.refl _ _⟩
          case round =>
            obtain ⟨rfl, hKr⟩ := hrel
            have HKr := Lib.hid hKr
            have hszr := hKr.size
            have d0 := (hKr.cell (p := ⟨bl, o, none⟩) hblt (by simp)).trans c0.out
            have d1 := (hKr.cell (p := ⟨bl, o + 1, none⟩) hblt (by simp)).trans c1.out
            have d2 := (hKr.cell (p := ⟨bl, o + 2, none⟩) hblt (by simp)).trans c2.out
            have HIns := Lib.hid (HNx.out.trans (show insE (q1, q2, q3) [] = [(q1, q2, q3)] from rfl))
            have PT := Lib.hid (show PmIn wr.heap.size wr (.slice none 0 vC) [] from ⟨0, vC, rfl, Nat.zero_le _, .inl ⟨rfl, rfl⟩⟩)
            have PD := PT
            clear hKr
            obtain ⟨L1, hL1⟩ : ∃ x : List Prm, x = [] := ⟨_, rfl⟩
            obtain ⟨L2, hL2⟩ : ∃ x : List Prm, x = [] := ⟨_, rfl⟩
            have hl1 : L1.length ≤ 0 := by rw [hL1]; exact Nat.le_refl _
            have hl2 : L2.length ≤ 0 := by rw [hL2]; exact Nat.le_refl _
            have hl12 : L1.length + L2.length ≤ 2097152 := by omega
            have HLN := Lib.hid (by rw [hL1, hL2]; rfl : (L1 ++ [(q1, q2, q3)] ++ L2).length = 1)
            have HIns := Lib.hid (by rw [HIns.out, hL1, hL2]; rfl : srt (l.take (0 + 1)) = L1 ++ [(q1, q2, q3)] ++ L2)
            have HL1n := Lib.hid hL1
            have HL2n := Lib.hid hL2
            have PT := Lib.hid (by rw [hL1]; exact PT.out : PmIn wr.heap.size wr (.slice none 0 vC) L1)
            have PD := Lib.hid (by rw [hL2]; exact PD.out : PmIn wr.heap.size wr (.slice none 0 vC) L2)
            clear hL1 hL2
            go_wp2_with fail
            go_quiet (fail)
            obtain ⟨wq, hwq⟩ : ∃ w2, wr.drewN nq = w2 := ⟨_, rfl⟩
            rw [hwq]
            have hKq : Kp [] wr wq := by rw [← hwq]; exact (Kp.refl [] wr).drewN _
            have hszq := hKq.size
            have PT := Lib.hid (PT.out.kp hKq (Nat.le_refl _) (by simp))
            have PD := Lib.hid (PD.out.kp hKq (Nat.le_refl _) (by simp))
            have HKq := Lib.hid hKq
            clear hwq d0 d1 d2 
            go_wp2_with (at_builtin; refine wpList_append_pm rfl _ _ rfl wq.heap.size [] L1 _ _ rfl (World.ownsRow_nil _ _ _ _) _ rfl PT.out ?c1 (Nat.le_refl _) ?_)
            case c1 => simp only [List.length_nil]; omega
            intro v1 w1 hown1 hgrow1
            have hK1 := (Kp.refl [] wq).grown hgrow1 (fun g hg => by cases hg)
            have O1 := (show w1.ownsRow wq.heap.size 72 3 v1 L1.length (pcl L1) from hown1)
            obtain ⟨p1, x1, rfl⟩ := own_form O1
            have O1 := Lib.hid O1
            have hKr1 := (HKr.out.trans hKq).trans hK1
            have e0 := (hKr1.cell (p := ⟨bl, o, none⟩) hblt (by simp)).trans c0.out
            have e1 := (hKr1.cell (p := ⟨bl, o + 1, none⟩) hblt (by simp)).trans c1.out
            have e2 := (hKr1.cell (p := ⟨bl, o + 2, none⟩) hblt (by simp)).trans c2.out
            have hsz1 := hK1.size
            have HK1 := Lib.hid hK1
            clear hown1 hgrow1 hK1 hKr1
            go_wp2_with (at_builtin; refine wpList_append_own _ rfl _ _ 22 rfl wq.heap.size 72 i0 (.agg #[.string .empty, .string .empty, .bool false]) 3 40 Tryz.underlying22 hi hz0 hz1 hz2 rfl (by decide) _ _ _ rfl (O1.out.alloc _) ⟨w1.heap.size, 0, none⟩ 1 1 [.string (Txt q1), .string (Txt q2), .bool q3] rfl rfl (cell_three_new _ _ _ _ _) (by simp [Value.oneCell']) ?c3 ?c4 ?c5 ?_)
            case c3 => unfold maxLen; omega
            case c4 => omega
            case c5 => simp; omega
            intro v2 w2 hown2 hgrow2 _
            have hK2 := (HK1.out.alloc (.cells #[.string (Txt q1), .string (Txt q2), .bool q3] 72)).grown hgrow2 (fun g hg => .inr (O1.out.lt g hg).1)
            have O2 := (by simpa [pcl, pc1, Txt] using hown2 : w2.ownsRow wq.heap.size 72 3 v2 (L1 ++ [(q1, q2, q3)]).length (pcl (L1 ++ [(q1, q2, q3)])))
            obtain ⟨p2, x2, hv2⟩ := own_form O2
            rw [List.length_append, List.length_singleton] at hv2
            subst hv2
            have O2 := Lib.hid O2
            have PD2 := Lib.hid (PD.out.kp hK2 hszq (by simp))
            have hsz2 := hK2.size
            have HK2 := Lib.hid hK2
            clear hown2 hgrow2 hK2 e0 e1 e2
            go_wp2_with (at_builtin; refine wpList_append_pm rfl _ _ rfl wq.heap.size (L1 ++ [(q1, q2, q3)]) L2 _ _ rfl O2.out _ rfl PD2.out ?c1 hsz2 ?_)
            case c1 => simp only [List.length_append, List.length_singleton]; omega
            intro v3 w3 hown3 hgrow3
            have hK3 := HK2.out.grown hgrow3 (fun g hg => .inr (O2.out.lt g hg).1)
            have hown3 := (by simpa using hown3 : w3.ownsRow wq.heap.size 72 3 v3 (L1 ++ [(q1, q2, q3)] ++ L2).length (pcl (L1 ++ [(q1, q2, q3)] ++ L2)))
            obtain ⟨p3, x3, hv3⟩ := own_form hown3
            rw [HLN.out] at hv3
            subst hv3
            have P3 := Lib.hid (own_pm hown3)
            have KF := Lib.hid (HK.out.trans ((HKr.out.trans hKq).trans hK3))
            clear hown3 hgrow3 hK3 hKq
            go_wp2_with fail
            go_roundg (l.length - 0)
            case measure => omega
            case rel => exact ⟨1, p3, x3, 1, by omega, by omega, rfl, (fun h => absurd h (Nat.succ_ne_zero _)), rfl, by go_num, by rw [HIns.out]; exact P3.out, KF.out⟩
        · injection hv with hv1 hv2 hv3
          subst hv1
          subst hv3
          have hnj : n9 = j := by omega
          subst hv2
          have HCell := Lib.hid hcell
          have hcj : j ≤ vC := by omega
          have hn0 : 0 < nO := by rcases Nat.eq_zero_or_pos nO with h | h; exact absurd (hnA h) (by simp); exact h
          clear hnA hn9 hcO hcell hnO
          subst hnj
          have hn1 : nO ≤ 2097152 := by omega
          go_wp2_with fail
          go_loopg [5] (nO + 1) (fun gk k wr => ∃ kk : Nat, kk ≤ nO ∧ kk < gk ∧ k = .int .i64 kk ∧ GtF q1 O kk ∧ Kp [] w0 wr)
          case atStart => exact ⟨nO, by omega, by omega, rfl, (fun m h1 h2 => by omega), Kp.refl _ _⟩
          case round =>
            obtain ⟨k, hk, hgk, rfl, hG, hKr⟩ := hrel
            have HG := Lib.hid hG
            have HKr := Lib.hid hKr
            clear hG
            have d0 := (hKr.cell (p := ⟨bl, o + nO * 3, none⟩) hblt (by simp)).trans c0.out
            have d1 := (hKr.cell (p := ⟨bl, o + nO * 3 + 1, none⟩) hblt (by simp)).trans c1.out
            have d2 := (hKr.cell (p := ⟨bl, o + nO * 3 + 2, none⟩) hblt (by simp)).trans c2.out
            have hszr := hKr.size
            clear hKr
            by_cases hkA : k = nO
            · obtain rfl : nO = k := hkA.symm
              obtain ⟨m, hm⟩ : ∃ m : Nat, (nO : Int) - 1 = (m : Int) := ⟨nO - 1, by omega⟩
              have hm1 : m + 1 ≤ nO := by omega
              have hm2 : nO ≤ m + 1 := by omega
              have Hm := Lib.hid hm
              clear hm hkA
              have hkl : m < O.length := by omega
              obtain ⟨y1, y2, y3, hy⟩ : ∃ a b c, O[m]! = (a, b, c) := ⟨_, _, _, rfl⟩
              have hys : O[m]? = some (y1, y2, y3) := by rw [← hy]; exact getD_some O m hkl
              have y0 : wr.cell? ⟨bo, oo + m * 3, none⟩ = some (.string (Txt y1)) := (HKr.out.cell (p := ⟨bo, oo + m * 3, none⟩) hbo (by simp)).trans (HCell.out _ _ (pcl_at O m _ hys 0 _ rfl))
              have wkA := Hm.out
              have wk1 : IntKind.i64.wrap (m : Int) = (m : Int) := IntWalk.i64_in _ (by omega)
              have hn0' : (0 : Int) < (nO : Int) := by omega
              have hk0 : (0 : Int) ≤ (m : Int) := by omega
              have hkn : (m : Int) < (nO : Int) := by omega
              have hjl2 : (nO : Int) < (l.length : Int) := by omega
              have etl : ∀ a b : List UInt8, Op.bytesLess (Txt a).toList (Txt b).toList = ltL a b := fun a b => by rw [Lib.toList_data, Lib.toList_data, bytesLess_ltL]; rfl
              have bl9 := etl y1 q1
              have be9 : ((Txt y1).toList == (Txt q1).toList) = decide (y1 = q1) := txt_beqD _ _
              clear etl
              cases hlt2 : ltL q1 y1
              · have H2 := Lib.hid (show nO = 0 ∨ ltL (q1, q2, q3).1 O[nO - 1]!.1 = false from .inr (by rw [show nO - 1 = m from by omega, hy]; exact hlt2))
                by_cases he : y1 = q1
                · rw [decide_eq_true he] at be9
                  rw [show ltL y1 q1 = false from by rw [he]; exact ltL_irrefl _] at bl9
                  clear hys hy hlt2 he
                  by_cases hck : vC = nO
                  · obtain rfl : nO = vC := hck.symm
                    have HIns := Lib.hid (HNx.out.trans (insE_at (q1, q2, q3) O nO (by omega) HG.out H2.out) : srt (l.take (nO + 1)) = O.take nO ++ (q1, q2, q3) :: O.drop nO)
                    have HCr := fun i u (h : (pcl O)[i]? = some u) => (HKr.out.cell (p := ⟨bo, oo + i, none⟩) hbo (by simp)).trans (HCell.out i u h)
                    have hbo2 : bo < wr.heap.size := by omega
                    have PT := Lib.hid (PmIn.take (B := wr.heap.size) hbo2 hOl hcj HCr nO (by omega))
                    have hdr : O.drop nO = [] := List.drop_eq_nil_of_le (by omega)
                    have PD := Lib.hid (by rw [hdr]; exact PmIn.none0 _ wr none 0 bo oo hbo2 : PmIn wr.heap.size wr (.slice (some ⟨bo, oo, none⟩) 0 0) (O.drop nO))
                    clear HCr hdr
                    obtain ⟨L1, hL1⟩ : ∃ x, O.take nO = x := ⟨_, rfl⟩
                    obtain ⟨L2, hL2⟩ : ∃ x, O.drop nO = x := ⟨_, rfl⟩
                    have hl1 : L1.length = nO := by rw [← hL1, List.length_take]; omega
                    have hl2 : L2.length = nO - nO := by rw [← hL2, List.length_drop]; omega
                    have hl12 : L1.length + L2.length ≤ 2097152 := by omega
                    have HLN := Lib.hid (by simp only [List.length_append, List.length_singleton]; omega : (L1 ++ [(q1, q2, q3)] ++ L2).length = nO + 1)
                    rw [hL1, hL2] at HIns
                    rw [hL1] at PT
                    rw [hL2] at PD
                    have HIns := Lib.hid (by rw [HIns.out]; simp : srt (l.take (nO + 1)) = L1 ++ [(q1, q2, q3)] ++ L2)
                    clear hL1 hL2 hl1 hl2
                    go_wp2_with fail
                    go_quiet (fail)
                    obtain ⟨wq, hwq⟩ : ∃ w2, wr.drewN nq = w2 := ⟨_, rfl⟩
                    rw [hwq]
                    have hKq : Kp [] wr wq := by rw [← hwq]; exact (Kp.refl [] wr).drewN _
                    have hszq := hKq.size
                    have PT := Lib.hid (PT.out.kp hKq (Nat.le_refl _) (by simp))
                    have PD := Lib.hid (PD.out.kp hKq (Nat.le_refl _) (by simp))
                    have HKq := Lib.hid hKq
                    clear hwq d0 d1 d2 y0 bl9 be9 wk1 wkA
                    go_wp2_with (at_builtin; refine wpList_append_pm rfl _ _ rfl wq.heap.size [] L1 _ _ rfl (World.ownsRow_nil _ _ _ _) _ rfl PT.out ?c1 (Nat.le_refl _) ?_)
                    case c1 => simp only [List.length_nil]; omega
                    intro v1 w1 hown1 hgrow1
                    have hK1 := (Kp.refl [] wq).grown hgrow1 (fun g hg => by cases hg)
                    have O1 := (show w1.ownsRow wq.heap.size 72 3 v1 L1.length (pcl L1) from hown1)
                    obtain ⟨p1, x1, rfl⟩ := own_form O1
                    have O1 := Lib.hid O1
                    have hKr1 := (HKr.out.trans hKq).trans hK1
                    have e0 := (hKr1.cell (p := ⟨bl, o + nO * 3, none⟩) hblt (by simp)).trans c0.out
                    have e1 := (hKr1.cell (p := ⟨bl, o + nO * 3 + 1, none⟩) hblt (by simp)).trans c1.out
                    have e2 := (hKr1.cell (p := ⟨bl, o + nO * 3 + 2, none⟩) hblt (by simp)).trans c2.out
                    have hsz1 := hK1.size
                    have HK1 := Lib.hid hK1
                    clear hown1 hgrow1 hK1 hKr1
                    go_wp2_with (at_builtin; refine wpList_append_own _ rfl _ _ 22 rfl wq.heap.size 72 i0 (.agg #[.string .empty, .string .empty, .bool false]) 3 40 Tryz.underlying22 hi hz0 hz1 hz2 rfl (by decide) _ _ _ rfl (O1.out.alloc _) ⟨w1.heap.size, 0, none⟩ 1 1 [.string (Txt q1), .string (Txt q2), .bool q3] rfl rfl (cell_three_new _ _ _ _ _) (by simp [Value.oneCell']) ?c3 ?c4 ?c5 ?_)
                    case c3 => unfold maxLen; omega
                    case c4 => omega
                    case c5 => simp; omega
                    intro v2 w2 hown2 hgrow2 _
                    have hK2 := (HK1.out.alloc (.cells #[.string (Txt q1), .string (Txt q2), .bool q3] 72)).grown hgrow2 (fun g hg => .inr (O1.out.lt g hg).1)
                    have O2 := (by simpa [pcl, pc1, Txt] using hown2 : w2.ownsRow wq.heap.size 72 3 v2 (L1 ++ [(q1, q2, q3)]).length (pcl (L1 ++ [(q1, q2, q3)])))
                    obtain ⟨p2, x2, hv2⟩ := own_form O2
                    rw [List.length_append, List.length_singleton] at hv2
                    subst hv2
                    have O2 := Lib.hid O2
                    have PD2 := Lib.hid (PD.out.kp hK2 hszq (by simp))
                    have hsz2 := hK2.size
                    have HK2 := Lib.hid hK2
                    clear hown2 hgrow2 hK2 e0 e1 e2
                    go_wp2_with (at_builtin; refine wpList_append_pm rfl _ _ rfl wq.heap.size (L1 ++ [(q1, q2, q3)]) L2 _ _ rfl O2.out _ rfl PD2.out ?c1 hsz2 ?_)
                    case c1 => simp only [List.length_append, List.length_singleton]; omega
                    intro v3 w3 hown3 hgrow3
                    have hK3 := HK2.out.grown hgrow3 (fun g hg => .inr (O2.out.lt g hg).1)
                    have hown3 := (by simpa using hown3 : w3.ownsRow wq.heap.size 72 3 v3 (L1 ++ [(q1, q2, q3)] ++ L2).length (pcl (L1 ++ [(q1, q2, q3)] ++ L2)))
                    obtain ⟨p3, x3, hv3⟩ := own_form hown3
                    rw [HLN.out] at hv3
                    subst hv3
                    have P3 := Lib.hid (own_pm hown3)
                    have KF := Lib.hid (HK.out.trans ((HKr.out.trans hKq).trans hK3))
                    clear hown3 hgrow3 hK3 hKq
                    go_wp2_with fail
                    go_roundg (l.length - nO)
                    case measure => omega
                    case rel => exact ⟨nO + 1, p3, x3, nO + 1, by omega, by omega, rfl, (fun h => absurd h (Nat.succ_ne_zero _)), rfl, by go_num, by rw [HIns.out]; exact P3.out, KF.out⟩
                  · have HIns := Lib.hid (HNx.out.trans (insE_at (q1, q2, q3) O nO (by omega) HG.out H2.out) : srt (l.take (nO + 1)) = O.take nO ++ (q1, q2, q3) :: O.drop nO)
                    have HCr := fun i u (h : (pcl O)[i]? = some u) => (HKr.out.cell (p := ⟨bo, oo + i, none⟩) hbo (by simp)).trans (HCell.out i u h)
                    have hbo2 : bo < wr.heap.size := by omega
                    have PT := Lib.hid (PmIn.take (B := wr.heap.size) hbo2 hOl hcj HCr nO (by omega))
                    have hkc : nO < vC := by omega
                    have hdr : O.drop nO = [] := List.drop_eq_nil_of_le (by omega)
                    have PD := Lib.hid (by rw [hdr]; exact PmIn.none0 _ wr none (vC - nO) bo (oo + nO * 3) hbo2 : PmIn wr.heap.size wr (.slice (some ⟨bo, oo + nO * 3, none⟩) 0 (vC - nO)) (O.drop nO))
                    clear HCr hdr hck
                    obtain ⟨L1, hL1⟩ : ∃ x, O.take nO = x := ⟨_, rfl⟩
                    obtain ⟨L2, hL2⟩ : ∃ x, O.drop nO = x := ⟨_, rfl⟩
                    have hl1 : L1.length = nO := by rw [← hL1, List.length_take]; omega
                    have hl2 : L2.length = nO - nO := by rw [← hL2, List.length_drop]; omega
                    have hl12 : L1.length + L2.length ≤ 2097152 := by omega
                    have HLN := Lib.hid (by simp only [List.length_append, List.length_singleton]; omega : (L1 ++ [(q1, q2, q3)] ++ L2).length = nO + 1)
                    rw [hL1, hL2] at HIns
                    rw [hL1] at PT
                    rw [hL2] at PD
                    have HIns := Lib.hid (by rw [HIns.out]; simp : srt (l.take (nO + 1)) = L1 ++ [(q1, q2, q3)] ++ L2)
                    clear hL1 hL2 hl1 hl2
                    go_wp2_with fail
                    go_quiet (fail)
                    obtain ⟨wq, hwq⟩ : ∃ w2, wr.drewN nq = w2 := ⟨_, rfl⟩
                    rw [hwq]
                    have hKq : Kp [] wr wq := by rw [← hwq]; exact (Kp.refl [] wr).drewN _
                    have hszq := hKq.size
                    have PT := Lib.hid (PT.out.kp hKq (Nat.le_refl _) (by simp))
                    have PD := Lib.hid (PD.out.kp hKq (Nat.le_refl _) (by simp))
                    have HKq := Lib.hid hKq
                    clear hwq d0 d1 d2 y0 bl9 be9 wk1 wkA
                    go_wp2_with (at_builtin; refine wpList_append_pm rfl _ _ rfl wq.heap.size [] L1 _ _ rfl (World.ownsRow_nil _ _ _ _) _ rfl PT.out ?c1 (Nat.le_refl _) ?_)
                    case c1 => simp only [List.length_nil]; omega
                    intro v1 w1 hown1 hgrow1
                    have hK1 := (Kp.refl [] wq).grown hgrow1 (fun g hg => by cases hg)
                    have O1 := (show w1.ownsRow wq.heap.size 72 3 v1 L1.length (pcl L1) from hown1)
                    obtain ⟨p1, x1, rfl⟩ := own_form O1
                    have O1 := Lib.hid O1
                    have hKr1 := (HKr.out.trans hKq).trans hK1
                    have e0 := (hKr1.cell (p := ⟨bl, o + nO * 3, none⟩) hblt (by simp)).trans c0.out
                    have e1 := (hKr1.cell (p := ⟨bl, o + nO * 3 + 1, none⟩) hblt (by simp)).trans c1.out
                    have e2 := (hKr1.cell (p := ⟨bl, o + nO * 3 + 2, none⟩) hblt (by simp)).trans c2.out
                    have hsz1 := hK1.size
                    have HK1 := Lib.hid hK1
                    clear hown1 hgrow1 hK1 hKr1
                    go_wp2_with (at_builtin; refine wpList_append_own _ rfl _ _ 22 rfl wq.heap.size 72 i0 (.agg #[.string .empty, .string .empty, .bool false]) 3 40 Tryz.underlying22 hi hz0 hz1 hz2 rfl (by decide) _ _ _ rfl (O1.out.alloc _) ⟨w1.heap.size, 0, none⟩ 1 1 [.string (Txt q1), .string (Txt q2), .bool q3] rfl rfl (cell_three_new _ _ _ _ _) (by simp [Value.oneCell']) ?c3 ?c4 ?c5 ?_)
                    case c3 => unfold maxLen; omega
                    case c4 => omega
                    case c5 => simp; omega
                    intro v2 w2 hown2 hgrow2 _
                    have hK2 := (HK1.out.alloc (.cells #[.string (Txt q1), .string (Txt q2), .bool q3] 72)).grown hgrow2 (fun g hg => .inr (O1.out.lt g hg).1)
                    have O2 := (by simpa [pcl, pc1, Txt] using hown2 : w2.ownsRow wq.heap.size 72 3 v2 (L1 ++ [(q1, q2, q3)]).length (pcl (L1 ++ [(q1, q2, q3)])))
                    obtain ⟨p2, x2, hv2⟩ := own_form O2
                    rw [List.length_append, List.length_singleton] at hv2
                    subst hv2
                    have O2 := Lib.hid O2
                    have PD2 := Lib.hid (PD.out.kp hK2 hszq (by simp))
                    have hsz2 := hK2.size
                    have HK2 := Lib.hid hK2
                    clear hown2 hgrow2 hK2 e0 e1 e2
                    go_wp2_with (at_builtin; refine wpList_append_pm rfl _ _ rfl wq.heap.size (L1 ++ [(q1, q2, q3)]) L2 _ _ rfl O2.out _ rfl PD2.out ?c1 hsz2 ?_)
                    case c1 => simp only [List.length_append, List.length_singleton]; omega
                    intro v3 w3 hown3 hgrow3
                    have hK3 := HK2.out.grown hgrow3 (fun g hg => .inr (O2.out.lt g hg).1)
                    have hown3 := (by simpa using hown3 : w3.ownsRow wq.heap.size 72 3 v3 (L1 ++ [(q1, q2, q3)] ++ L2).length (pcl (L1 ++ [(q1, q2, q3)] ++ L2)))
                    obtain ⟨p3, x3, hv3⟩ := own_form hown3
                    rw [HLN.out] at hv3
                    subst hv3
                    have P3 := Lib.hid (own_pm hown3)
                    have KF := Lib.hid (HK.out.trans ((HKr.out.trans hKq).trans hK3))
                    clear hown3 hgrow3 hK3 hKq
                    go_wp2_with fail
                    go_roundg (l.length - nO)
                    case measure => omega
                    case rel => exact ⟨nO + 1, p3, x3, nO + 1, by omega, by omega, rfl, (fun h => absurd h (Nat.succ_ne_zero _)), rfl, by go_num, by rw [HIns.out]; exact P3.out, KF.out⟩
                · rw [decide_eq_false he] at be9
                  rw [show ltL y1 q1 = true from by cases h : ltL y1 q1 with | true => rfl | false => exact absurd (ltL_total y1 q1 h hlt2) he] at bl9
                  clear hys hy hlt2 he
                  by_cases hck : vC = nO
                  · obtain rfl : nO = vC := hck.symm
                    have HIns := Lib.hid (HNx.out.trans (insE_at (q1, q2, q3) O nO (by omega) HG.out H2.out) : srt (l.take (nO + 1)) = O.take nO ++ (q1, q2, q3) :: O.drop nO)
                    have HCr := fun i u (h : (pcl O)[i]? = some u) => (HKr.out.cell (p := ⟨bo, oo + i, none⟩) hbo (by simp)).trans (HCell.out i u h)
                    have hbo2 : bo < wr.heap.size := by omega
                    have PT := Lib.hid (PmIn.take (B := wr.heap.size) hbo2 hOl hcj HCr nO (by omega))
                    have hdr : O.drop nO = [] := List.drop_eq_nil_of_le (by omega)
                    have PD := Lib.hid (by rw [hdr]; exact PmIn.none0 _ wr none 0 bo oo hbo2 : PmIn wr.heap.size wr (.slice (some ⟨bo, oo, none⟩) 0 0) (O.drop nO))
                    clear HCr hdr
                    obtain ⟨L1, hL1⟩ : ∃ x, O.take nO = x := ⟨_, rfl⟩
                    obtain ⟨L2, hL2⟩ : ∃ x, O.drop nO = x := ⟨_, rfl⟩
                    have hl1 : L1.length = nO := by rw [← hL1, List.length_take]; omega
                    have hl2 : L2.length = nO - nO := by rw [← hL2, List.length_drop]; omega
                    have hl12 : L1.length + L2.length ≤ 2097152 := by omega
                    have HLN := Lib.hid (by simp only [List.length_append, List.length_singleton]; omega : (L1 ++ [(q1, q2, q3)] ++ L2).length = nO + 1)
                    rw [hL1, hL2] at HIns
                    rw [hL1] at PT
                    rw [hL2] at PD
                    have HIns := Lib.hid (by rw [HIns.out]; simp : srt (l.take (nO + 1)) = L1 ++ [(q1, q2, q3)] ++ L2)
                    clear hL1 hL2 hl1 hl2
                    go_wp2_with fail
                    go_quiet (fail)
                    obtain ⟨wq, hwq⟩ : ∃ w2, wr.drewN nq = w2 := ⟨_, rfl⟩
                    rw [hwq]
                    have hKq : Kp [] wr wq := by rw [← hwq]; exact (Kp.refl [] wr).drewN _
                    have hszq := hKq.size
                    have PT := Lib.hid (PT.out.kp hKq (Nat.le_refl _) (by simp))
                    have PD := Lib.hid (PD.out.kp hKq (Nat.le_refl _) (by simp))
                    have HKq := Lib.hid hKq
                    clear hwq d0 d1 d2 y0 bl9 be9 wk1 wkA
                    go_wp2_with (at_builtin; refine wpList_append_pm rfl _ _ rfl wq.heap.size [] L1 _ _ rfl (World.ownsRow_nil _ _ _ _) _ rfl PT.out ?c1 (Nat.le_refl _) ?_)
                    case c1 => simp only [List.length_nil]; omega
                    intro v1 w1 hown1 hgrow1
                    have hK1 := (Kp.refl [] wq).grown hgrow1 (fun g hg => by cases hg)
                    have O1 := (show w1.ownsRow wq.heap.size 72 3 v1 L1.length (pcl L1) from hown1)
                    obtain ⟨p1, x1, rfl⟩ := own_form O1
                    have O1 := Lib.hid O1
                    have hKr1 := (HKr.out.trans hKq).trans hK1
                    have e0 := (hKr1.cell (p := ⟨bl, o + nO * 3, none⟩) hblt (by simp)).trans c0.out
                    have e1 := (hKr1.cell (p := ⟨bl, o + nO * 3 + 1, none⟩) hblt (by simp)).trans c1.out
                    have e2 := (hKr1.cell (p := ⟨bl, o + nO * 3 + 2, none⟩) hblt (by simp)).trans c2.out
                    have hsz1 := hK1.size
                    have HK1 := Lib.hid hK1
                    clear hown1 hgrow1 hK1 hKr1
                    go_wp2_with (at_builtin; refine wpList_append_own _ rfl _ _ 22 rfl wq.heap.size 72 i0 (.agg #[.string .empty, .string .empty, .bool false]) 3 40 Tryz.underlying22 hi hz0 hz1 hz2 rfl (by decide) _ _ _ rfl (O1.out.alloc _) ⟨w1.heap.size, 0, none⟩ 1 1 [.string (Txt q1), .string (Txt q2), .bool q3] rfl rfl (cell_three_new _ _ _ _ _) (by simp [Value.oneCell']) ?c3 ?c4 ?c5 ?_)
                    case c3 => unfold maxLen; omega
                    case c4 => omega
                    case c5 => simp; omega
                    intro v2 w2 hown2 hgrow2 _
                    have hK2 := (HK1.out.alloc (.cells #[.string (Txt q1), .string (Txt q2), .bool q3] 72)).grown hgrow2 (fun g hg => .inr (O1.out.lt g hg).1)
                    have O2 := (by simpa [pcl, pc1, Txt] using hown2 : w2.ownsRow wq.heap.size 72 3 v2 (L1 ++ [(q1, q2, q3)]).length (pcl (L1 ++ [(q1, q2, q3)])))
                    obtain ⟨p2, x2, hv2⟩ := own_form O2
                    rw [List.length_append, List.length_singleton] at hv2
                    subst hv2
                    have O2 := Lib.hid O2
                    have PD2 := Lib.hid (PD.out.kp hK2 hszq (by simp))
                    have hsz2 := hK2.size
                    have HK2 := Lib.hid hK2
                    clear hown2 hgrow2 hK2 e0 e1 e2
                    go_wp2_with (at_builtin; refine wpList_append_pm rfl _ _ rfl wq.heap.size (L1 ++ [(q1, q2, q3)]) L2 _ _ rfl O2.out _ rfl PD2.out ?c1 hsz2 ?_)
                    case c1 => simp only [List.length_append, List.length_singleton]; omega
                    intro v3 w3 hown3 hgrow3
                    have hK3 := HK2.out.grown hgrow3 (fun g hg => .inr (O2.out.lt g hg).1)
                    have hown3 := (by simpa using hown3 : w3.ownsRow wq.heap.size 72 3 v3 (L1 ++ [(q1, q2, q3)] ++ L2).length (pcl (L1 ++ [(q1, q2, q3)] ++ L2)))
                    obtain ⟨p3, x3, hv3⟩ := own_form hown3
                    rw [HLN.out] at hv3
                    subst hv3
                    have P3 := Lib.hid (own_pm hown3)
                    have KF := Lib.hid (HK.out.trans ((HKr.out.trans hKq).trans hK3))
                    clear hown3 hgrow3 hK3 hKq
                    go_wp2_with fail
                    go_roundg (l.length - nO)
                    case measure => omega
                    case rel => exact ⟨nO + 1, p3, x3, nO + 1, by omega, by omega, rfl, (fun h => absurd h (Nat.succ_ne_zero _)), rfl, by go_num, by rw [HIns.out]; exact P3.out, KF.out⟩
                  · have HIns := Lib.hid (HNx.out.trans (insE_at (q1, q2, q3) O nO (by omega) HG.out H2.out) : srt (l.take (nO + 1)) = O.take nO ++ (q1, q2, q3) :: O.drop nO)
                    have HCr := fun i u (h : (pcl O)[i]? = some u) => (HKr.out.cell (p := ⟨bo, oo + i, none⟩) hbo (by simp)).trans (HCell.out i u h)
                    have hbo2 : bo < wr.heap.size := by omega
                    have PT := Lib.hid (PmIn.take (B := wr.heap.size) hbo2 hOl hcj HCr nO (by omega))
                    have hkc : nO < vC := by omega
                    have hdr : O.drop nO = [] := List.drop_eq_nil_of_le (by omega)
                    have PD := Lib.hid (by rw [hdr]; exact PmIn.none0 _ wr none (vC - nO) bo (oo + nO * 3) hbo2 : PmIn wr.heap.size wr (.slice (some ⟨bo, oo + nO * 3, none⟩) 0 (vC - nO)) (O.drop nO))
                    clear HCr hdr hck
                    obtain ⟨L1, hL1⟩ : ∃ x, O.take nO = x := ⟨_, rfl⟩
                    obtain ⟨L2, hL2⟩ : ∃ x, O.drop nO = x := ⟨_, rfl⟩
                    have hl1 : L1.length = nO := by rw [← hL1, List.length_take]; omega
                    have hl2 : L2.length = nO - nO := by rw [← hL2, List.length_drop]; omega
                    have hl12 : L1.length + L2.length ≤ 2097152 := by omega
                    have HLN := Lib.hid (by simp only [List.length_append, List.length_singleton]; omega : (L1 ++ [(q1, q2, q3)] ++ L2).length = nO + 1)
                    rw [hL1, hL2] at HIns
                    rw [hL1] at PT
                    rw [hL2] at PD
                    have HIns := Lib.hid (by rw [HIns.out]; simp : srt (l.take (nO + 1)) = L1 ++ [(q1, q2, q3)] ++ L2)
                    clear hL1 hL2 hl1 hl2
                    go_wp2_with fail
                    go_quiet (fail)
                    obtain ⟨wq, hwq⟩ : ∃ w2, wr.drewN nq = w2 := ⟨_, rfl⟩
                    rw [hwq]
                    have hKq : Kp [] wr wq := by rw [← hwq]; exact (Kp.refl [] wr).drewN _
                    have hszq := hKq.size
                    have PT := Lib.hid (PT.out.kp hKq (Nat.le_refl _) (by simp))
                    have PD := Lib.hid (PD.out.kp hKq (Nat.le_refl _) (by simp))
                    have HKq := Lib.hid hKq
                    clear hwq d0 d1 d2 y0 bl9 be9 wk1 wkA
                    go_wp2_with (at_builtin; refine wpList_append_pm rfl _ _ rfl wq.heap.size [] L1 _ _ rfl (World.ownsRow_nil _ _ _ _) _ rfl PT.out ?c1 (Nat.le_refl _) ?_)
                    case c1 => simp only [List.length_nil]; omega
                    intro v1 w1 hown1 hgrow1
                    have hK1 := (Kp.refl [] wq).grown hgrow1 (fun g hg => by cases hg)
                    have O1 := (show w1.ownsRow wq.heap.size 72 3 v1 L1.length (pcl L1) from hown1)
                    obtain ⟨p1, x1, rfl⟩ := own_form O1
                    have O1 := Lib.hid O1
                    have hKr1 := (HKr.out.trans hKq).trans hK1
                    have e0 := (hKr1.cell (p := ⟨bl, o + nO * 3, none⟩) hblt (by simp)).trans c0.out
                    have e1 := (hKr1.cell (p := ⟨bl, o + nO * 3 + 1, none⟩) hblt (by simp)).trans c1.out
                    have e2 := (hKr1.cell (p := ⟨bl, o + nO * 3 + 2, none⟩) hblt (by simp)).trans c2.out
                    have hsz1 := hK1.size
                    have HK1 := Lib.hid hK1
                    clear hown1 hgrow1 hK1 hKr1
                    go_wp2_with (at_builtin; refine wpList_append_own _ rfl _ _ 22 rfl wq.heap.size 72 i0 (.agg #[.string .empty, .string .empty, .bool false]) 3 40 Tryz.underlying22 hi hz0 hz1 hz2 rfl (by decide) _ _ _ rfl (O1.out.alloc _) ⟨w1.heap.size, 0, none⟩ 1 1 [.string (Txt q1), .string (Txt q2), .bool q3] rfl rfl (cell_three_new _ _ _ _ _) (by simp [Value.oneCell']) ?c3 ?c4 ?c5 ?_)
                    case c3 => unfold maxLen; omega
                    case c4 => omega
                    case c5 => simp; omega
                    intro v2 w2 hown2 hgrow2 _
                    have hK2 := (HK1.out.alloc (.cells #[.string (Txt q1), .string (Txt q2), .bool q3] 72)).grown hgrow2 (fun g hg => .inr (O1.out.lt g hg).1)
                    have O2 := (by simpa [pcl, pc1, Txt] using hown2 : w2.ownsRow wq.heap.size 72 3 v2 (L1 ++ [(q1, q2, q3)]).length (pcl (L1 ++ [(q1, q2, q3)])))
                    obtain ⟨p2, x2, hv2⟩ := own_form O2
                    rw [List.length_append, List.length_singleton] at hv2
                    subst hv2
                    have O2 := Lib.hid O2
                    have PD2 := Lib.hid (PD.out.kp hK2 hszq (by simp))
                    have hsz2 := hK2.size
                    have HK2 := Lib.hid hK2
                    clear hown2 hgrow2 hK2 e0 e1 e2
                    go_wp2_with (at_builtin; refine wpList_append_pm rfl _ _ rfl wq.heap.size (L1 ++ [(q1, q2, q3)]) L2 _ _ rfl O2.out _ rfl PD2.out ?c1 hsz2 ?_)
                    case c1 => simp only [List.length_append, List.length_singleton]; omega
                    intro v3 w3 hown3 hgrow3
                    have hK3 := HK2.out.grown hgrow3 (fun g hg => .inr (O2.out.lt g hg).1)
                    have hown3 := (by simpa using hown3 : w3.ownsRow wq.heap.size 72 3 v3 (L1 ++ [(q1, q2, q3)] ++ L2).length (pcl (L1 ++ [(q1, q2, q3)] ++ L2)))
                    obtain ⟨p3, x3, hv3⟩ := own_form hown3
                    rw [HLN.out] at hv3
                    subst hv3
                    have P3 := Lib.hid (own_pm hown3)
                    have KF := Lib.hid (HK.out.trans ((HKr.out.trans hKq).trans hK3))
                    clear hown3 hgrow3 hK3 hKq
                    go_wp2_with fail
                    go_roundg (l.length - nO)
                    case measure => omega
                    case rel => exact ⟨nO + 1, p3, x3, nO + 1, by omega, by omega, rfl, (fun h => absurd h (Nat.succ_ne_zero _)), rfl, by go_num, by rw [HIns.out]; exact P3.out, KF.out⟩
              · have hne : y1 ≠ q1 := fun h => by rw [h, ltL_irrefl] at hlt2; cases hlt2
                rw [decide_eq_false hne] at be9
                rw [show ltL y1 q1 = false from ltL_asymm _ _ hlt2] at bl9
                have HD := Lib.hid (GtF.down (k := m) (by rw [show m + 1 = nO from by omega]; exact HG.out) (by rw [hy]; exact hlt2))
                clear hys hy hlt2 hne
                go_wp2_with fail
                go_quiet (fail)
                go_wp2_with fail
                go_roundg (m + 1)
                case measure => omega
                case rel => exact ⟨m, by omega, by omega, by first | rfl | (rw [Hm.out]) | exact congrArg (Value.int .i64) Hm.out, HD.out, HKr.out.drewN _⟩
            · have hkB : k < nO := by omega
              clear hkA
              rcases k with _ | k
              · have H2 := Lib.hid (show (0 : Nat) = 0 ∨ ltL (q1, q2, q3).1 O[0 - 1]!.1 = false from .inl rfl)
                have HIns := Lib.hid (HNx.out.trans (insE_at (q1, q2, q3) O 0 (by omega) HG.out H2.out) : srt (l.take (nO + 1)) = O.take 0 ++ (q1, q2, q3) :: O.drop 0)
                have HCr := fun i u (h : (pcl O)[i]? = some u) => (HKr.out.cell (p := ⟨bo, oo + i, none⟩) hbo (by simp)).trans (HCell.out i u h)
                have hbo2 : bo < wr.heap.size := by omega
                have PT := Lib.hid (PmIn.take (B := wr.heap.size) hbo2 hOl hcj HCr 0 (by omega))
                have PD := Lib.hid (PmIn.drop (B := wr.heap.size) hbo2 hOl hcj HCr 0 (by omega))
                have hkc : 0 < vC := by omega
                clear HCr
                obtain ⟨L1, hL1⟩ : ∃ x, O.take 0 = x := ⟨_, rfl⟩
                obtain ⟨L2, hL2⟩ : ∃ x, O.drop 0 = x := ⟨_, rfl⟩
                have hl1 : L1.length = 0 := by rw [← hL1, List.length_take]; omega
                have hl2 : L2.length = nO - 0 := by rw [← hL2, List.length_drop]; omega
                have hl12 : L1.length + L2.length ≤ 2097152 := by omega
                have HLN := Lib.hid (by simp only [List.length_append, List.length_singleton]; omega : (L1 ++ [(q1, q2, q3)] ++ L2).length = nO + 1)
                rw [hL1, hL2] at HIns
                rw [hL1] at PT
                rw [hL2] at PD
                have HIns := Lib.hid (by rw [HIns.out]; simp : srt (l.take (nO + 1)) = L1 ++ [(q1, q2, q3)] ++ L2)
                clear hL1 hL2 hl1 hl2
                go_wp2_with fail
                go_quiet (fail)
                obtain ⟨wq, hwq⟩ : ∃ w2, wr.drewN nq = w2 := ⟨_, rfl⟩
                rw [hwq]
                have hKq : Kp [] wr wq := by rw [← hwq]; exact (Kp.refl [] wr).drewN _
                have hszq := hKq.size
                have PT := Lib.hid (PT.out.kp hKq (Nat.le_refl _) (by simp))
                have PD := Lib.hid (PD.out.kp hKq (Nat.le_refl _) (by simp))
                have HKq := Lib.hid hKq
                clear hwq d0 d1 d2 
                go_wp2_with (at_builtin; refine wpList_append_pm rfl _ _ rfl wq.heap.size [] L1 _ _ rfl (World.ownsRow_nil _ _ _ _) _ rfl PT.out ?c1 (Nat.le_refl _) ?_)
                case c1 => simp only [List.length_nil]; omega
                intro v1 w1 hown1 hgrow1
                have hK1 := (Kp.refl [] wq).grown hgrow1 (fun g hg => by cases hg)
                have O1 := (show w1.ownsRow wq.heap.size 72 3 v1 L1.length (pcl L1) from hown1)
                obtain ⟨p1, x1, rfl⟩ := own_form O1
                have O1 := Lib.hid O1
                have hKr1 := (HKr.out.trans hKq).trans hK1
                have e0 := (hKr1.cell (p := ⟨bl, o + nO * 3, none⟩) hblt (by simp)).trans c0.out
                have e1 := (hKr1.cell (p := ⟨bl, o + nO * 3 + 1, none⟩) hblt (by simp)).trans c1.out
                have e2 := (hKr1.cell (p := ⟨bl, o + nO * 3 + 2, none⟩) hblt (by simp)).trans c2.out
                have hsz1 := hK1.size
                have HK1 := Lib.hid hK1
                clear hown1 hgrow1 hK1 hKr1
                go_wp2_with (at_builtin; refine wpList_append_own _ rfl _ _ 22 rfl wq.heap.size 72 i0 (.agg #[.string .empty, .string .empty, .bool false]) 3 40 Tryz.underlying22 hi hz0 hz1 hz2 rfl (by decide) _ _ _ rfl (O1.out.alloc _) ⟨w1.heap.size, 0, none⟩ 1 1 [.string (Txt q1), .string (Txt q2), .bool q3] rfl rfl (cell_three_new _ _ _ _ _) (by simp [Value.oneCell']) ?c3 ?c4 ?c5 ?_)
                case c3 => unfold maxLen; omega
                case c4 => omega
                case c5 => simp; omega
                intro v2 w2 hown2 hgrow2 _
                have hK2 := (HK1.out.alloc (.cells #[.string (Txt q1), .string (Txt q2), .bool q3] 72)).grown hgrow2 (fun g hg => .inr (O1.out.lt g hg).1)
                have O2 := (by simpa [pcl, pc1, Txt] using hown2 : w2.ownsRow wq.heap.size 72 3 v2 (L1 ++ [(q1, q2, q3)]).length (pcl (L1 ++ [(q1, q2, q3)])))
                obtain ⟨p2, x2, hv2⟩ := own_form O2
                rw [List.length_append, List.length_singleton] at hv2
                subst hv2
                have O2 := Lib.hid O2
                have PD2 := Lib.hid (PD.out.kp hK2 hszq (by simp))
                have hsz2 := hK2.size
                have HK2 := Lib.hid hK2
                clear hown2 hgrow2 hK2 e0 e1 e2
                go_wp2_with (at_builtin; refine wpList_append_pm rfl _ _ rfl wq.heap.size (L1 ++ [(q1, q2, q3)]) L2 _ _ rfl O2.out _ rfl PD2.out ?c1 hsz2 ?_)
                case c1 => simp only [List.length_append, List.length_singleton]; omega
                intro v3 w3 hown3 hgrow3
                have hK3 := HK2.out.grown hgrow3 (fun g hg => .inr (O2.out.lt g hg).1)
                have hown3 := (by simpa using hown3 : w3.ownsRow wq.heap.size 72 3 v3 (L1 ++ [(q1, q2, q3)] ++ L2).length (pcl (L1 ++ [(q1, q2, q3)] ++ L2)))
                obtain ⟨p3, x3, hv3⟩ := own_form hown3
                rw [HLN.out] at hv3
                subst hv3
                have P3 := Lib.hid (own_pm hown3)
                have KF := Lib.hid (HK.out.trans ((HKr.out.trans hKq).trans hK3))
                clear hown3 hgrow3 hK3 hKq
                go_wp2_with fail
                go_roundg (l.length - nO)
                case measure => omega
                case rel => exact ⟨nO + 1, p3, x3, nO + 1, by omega, by omega, rfl, (fun h => absurd h (Nat.succ_ne_zero _)), rfl, by go_num, by rw [HIns.out]; exact P3.out, KF.out⟩
              · have hkl : k < O.length := by omega
                obtain ⟨y1, y2, y3, hy⟩ : ∃ a b c, O[k]! = (a, b, c) := ⟨_, _, _, rfl⟩
                have hys : O[k]? = some (y1, y2, y3) := by rw [← hy]; exact getD_some O k hkl
                have y0 : wr.cell? ⟨bo, oo + k * 3, none⟩ = some (.string (Txt y1)) := (HKr.out.cell (p := ⟨bo, oo + k * 3, none⟩) hbo (by simp)).trans (HCell.out _ _ (pcl_at O k _ hys 0 _ rfl))
                have wk1 : IntKind.i64.wrap ((k : Int) + 1 - 1) = (k : Int) := by rw [Int.add_sub_cancel]; exact IntWalk.i64_in _ (by omega)
                have wk2 : IntKind.i64.wrap (k : Int) = (k : Int) := IntWalk.i64_in _ (by omega)
                have hk0 : (0 : Int) ≤ (k : Int) := by omega
                have hkn : (k : Int) < (nO : Int) := by omega
                have hjl2 : (nO : Int) < (l.length : Int) := by omega
                have etl : ∀ a b : List UInt8, Op.bytesLess (Txt a).toList (Txt b).toList = ltL a b := fun a b => by rw [Lib.toList_data, Lib.toList_data, bytesLess_ltL]; rfl
                have bl9 := etl y1 q1
                have be9 : ((Txt y1).toList == (Txt q1).toList) = decide (y1 = q1) := txt_beqD _ _
                clear etl
                cases hlt2 : ltL q1 y1
                · have H2 := Lib.hid (show (k + 1) = 0 ∨ ltL (q1, q2, q3).1 O[(k + 1) - 1]!.1 = false from .inr (by rw [show (k + 1) - 1 = k from by omega, hy]; exact hlt2))
                  by_cases he : y1 = q1
                  · rw [decide_eq_true he] at be9
                    rw [show ltL y1 q1 = false from by rw [he]; exact ltL_irrefl _] at bl9
                    clear hys hy hlt2 he
                    have HIns := Lib.hid (HNx.out.trans (insE_at (q1, q2, q3) O (k + 1) (by omega) HG.out H2.out) : srt (l.take (nO + 1)) = O.take (k + 1) ++ (q1, q2, q3) :: O.drop (k + 1))
                    have HCr := fun i u (h : (pcl O)[i]? = some u) => (HKr.out.cell (p := ⟨bo, oo + i, none⟩) hbo (by simp)).trans (HCell.out i u h)
                    have hbo2 : bo < wr.heap.size := by omega
                    have PT := Lib.hid (PmIn.take (B := wr.heap.size) hbo2 hOl hcj HCr (k + 1) (by omega))
                    have PD := Lib.hid (PmIn.drop (B := wr.heap.size) hbo2 hOl hcj HCr (k + 1) (by omega))
                    have hkc : (k + 1) < vC := by omega
                    clear HCr
                    obtain ⟨L1, hL1⟩ : ∃ x, O.take (k + 1) = x := ⟨_, rfl⟩
                    obtain ⟨L2, hL2⟩ : ∃ x, O.drop (k + 1) = x := ⟨_, rfl⟩
                    have hl1 : L1.length = (k + 1) := by rw [← hL1, List.length_take]; omega
                    have hl2 : L2.length = nO - (k + 1) := by rw [← hL2, List.length_drop]; omega
                    have hl12 : L1.length + L2.length ≤ 2097152 := by omega
                    have HLN := Lib.hid (by simp only [List.length_append, List.length_singleton]; omega : (L1 ++ [(q1, q2, q3)] ++ L2).length = nO + 1)
                    rw [hL1, hL2] at HIns
                    rw [hL1] at PT
                    rw [hL2] at PD
                    have HIns := Lib.hid (by rw [HIns.out]; simp : srt (l.take (nO + 1)) = L1 ++ [(q1, q2, q3)] ++ L2)
                    clear hL1 hL2 hl1 hl2
                    go_wp2_with fail
                    go_quiet (fail)
                    obtain ⟨wq, hwq⟩ : ∃ w2, wr.drewN nq = w2 := ⟨_, rfl⟩
                    rw [hwq]
                    have hKq : Kp [] wr wq := by rw [← hwq]; exact (Kp.refl [] wr).drewN _
                    have hszq := hKq.size
                    have PT := Lib.hid (PT.out.kp hKq (Nat.le_refl _) (by simp))
                    have PD := Lib.hid (PD.out.kp hKq (Nat.le_refl _) (by simp))
                    have HKq := Lib.hid hKq
                    clear hwq d0 d1 d2 y0 bl9 be9 wk1 wk2
                    go_wp2_with (at_builtin; refine wpList_append_pm rfl _ _ rfl wq.heap.size [] L1 _ _ rfl (World.ownsRow_nil _ _ _ _) _ rfl PT.out ?c1 (Nat.le_refl _) ?_)
                    case c1 => simp only [List.length_nil]; omega
                    intro v1 w1 hown1 hgrow1
                    have hK1 := (Kp.refl [] wq).grown hgrow1 (fun g hg => by cases hg)
                    have O1 := (show w1.ownsRow wq.heap.size 72 3 v1 L1.length (pcl L1) from hown1)
                    obtain ⟨p1, x1, rfl⟩ := own_form O1
                    have O1 := Lib.hid O1
                    have hKr1 := (HKr.out.trans hKq).trans hK1
                    have e0 := (hKr1.cell (p := ⟨bl, o + nO * 3, none⟩) hblt (by simp)).trans c0.out
                    have e1 := (hKr1.cell (p := ⟨bl, o + nO * 3 + 1, none⟩) hblt (by simp)).trans c1.out
                    have e2 := (hKr1.cell (p := ⟨bl, o + nO * 3 + 2, none⟩) hblt (by simp)).trans c2.out
                    have hsz1 := hK1.size
                    have HK1 := Lib.hid hK1
                    clear hown1 hgrow1 hK1 hKr1
                    go_wp2_with (at_builtin; refine wpList_append_own _ rfl _ _ 22 rfl wq.heap.size 72 i0 (.agg #[.string .empty, .string .empty, .bool false]) 3 40 Tryz.underlying22 hi hz0 hz1 hz2 rfl (by decide) _ _ _ rfl (O1.out.alloc _) ⟨w1.heap.size, 0, none⟩ 1 1 [.string (Txt q1), .string (Txt q2), .bool q3] rfl rfl (cell_three_new _ _ _ _ _) (by simp [Value.oneCell']) ?c3 ?c4 ?c5 ?_)
                    case c3 => unfold maxLen; omega
                    case c4 => omega
                    case c5 => simp; omega
                    intro v2 w2 hown2 hgrow2 _
                    have hK2 := (HK1.out.alloc (.cells #[.string (Txt q1), .string (Txt q2), .bool q3] 72)).grown hgrow2 (fun g hg => .inr (O1.out.lt g hg).1)
                    have O2 := (by simpa [pcl, pc1, Txt] using hown2 : w2.ownsRow wq.heap.size 72 3 v2 (L1 ++ [(q1, q2, q3)]).length (pcl (L1 ++ [(q1, q2, q3)])))
                    obtain ⟨p2, x2, hv2⟩ := own_form O2
                    rw [List.length_append, List.length_singleton] at hv2
                    subst hv2
                    have O2 := Lib.hid O2
                    have PD2 := Lib.hid (PD.out.kp hK2 hszq (by simp))
                    have hsz2 := hK2.size
                    have HK2 := Lib.hid hK2
                    clear hown2 hgrow2 hK2 e0 e1 e2
                    go_wp2_with (at_builtin; refine wpList_append_pm rfl _ _ rfl wq.heap.size (L1 ++ [(q1, q2, q3)]) L2 _ _ rfl O2.out _ rfl PD2.out ?c1 hsz2 ?_)
                    case c1 => simp only [List.length_append, List.length_singleton]; omega
                    intro v3 w3 hown3 hgrow3
                    have hK3 := HK2.out.grown hgrow3 (fun g hg => .inr (O2.out.lt g hg).1)
                    have hown3 := (by simpa using hown3 : w3.ownsRow wq.heap.size 72 3 v3 (L1 ++ [(q1, q2, q3)] ++ L2).length (pcl (L1 ++ [(q1, q2, q3)] ++ L2)))
                    obtain ⟨p3, x3, hv3⟩ := own_form hown3
                    rw [HLN.out] at hv3
                    subst hv3
                    have P3 := Lib.hid (own_pm hown3)
                    have KF := Lib.hid (HK.out.trans ((HKr.out.trans hKq).trans hK3))
                    clear hown3 hgrow3 hK3 hKq
                    go_wp2_with fail
                    go_roundg (l.length - nO)
                    case measure => omega
                    case rel => exact ⟨nO + 1, p3, x3, nO + 1, by omega, by omega, rfl, (fun h => absurd h (Nat.succ_ne_zero _)), rfl, by go_num, by rw [HIns.out]; exact P3.out, KF.out⟩
                  · rw [decide_eq_false he] at be9
                    rw [show ltL y1 q1 = true from by cases h : ltL y1 q1 with | true => rfl | false => exact absurd (ltL_total y1 q1 h hlt2) he] at bl9
                    clear hys hy hlt2 he
                    have HIns := Lib.hid (HNx.out.trans (insE_at (q1, q2, q3) O (k + 1) (by omega) HG.out H2.out) : srt (l.take (nO + 1)) = O.take (k + 1) ++ (q1, q2, q3) :: O.drop (k + 1))
                    have HCr := fun i u (h : (pcl O)[i]? = some u) => (HKr.out.cell (p := ⟨bo, oo + i, none⟩) hbo (by simp)).trans (HCell.out i u h)
                    have hbo2 : bo < wr.heap.size := by omega
                    have PT := Lib.hid (PmIn.take (B := wr.heap.size) hbo2 hOl hcj HCr (k + 1) (by omega))
                    have PD := Lib.hid (PmIn.drop (B := wr.heap.size) hbo2 hOl hcj HCr (k + 1) (by omega))
                    have hkc : (k + 1) < vC := by omega
                    clear HCr
                    obtain ⟨L1, hL1⟩ : ∃ x, O.take (k + 1) = x := ⟨_, rfl⟩
                    obtain ⟨L2, hL2⟩ : ∃ x, O.drop (k + 1) = x := ⟨_, rfl⟩
                    have hl1 : L1.length = (k + 1) := by rw [← hL1, List.length_take]; omega
                    have hl2 : L2.length = nO - (k + 1) := by rw [← hL2, List.length_drop]; omega
                    have hl12 : L1.length + L2.length ≤ 2097152 := by omega
                    have HLN := Lib.hid (by simp only [List.length_append, List.length_singleton]; omega : (L1 ++ [(q1, q2, q3)] ++ L2).length = nO + 1)
                    rw [hL1, hL2] at HIns
                    rw [hL1] at PT
                    rw [hL2] at PD
                    have HIns := Lib.hid (by rw [HIns.out]; simp : srt (l.take (nO + 1)) = L1 ++ [(q1, q2, q3)] ++ L2)
                    clear hL1 hL2 hl1 hl2
                    go_wp2_with fail
                    go_quiet (fail)
                    obtain ⟨wq, hwq⟩ : ∃ w2, wr.drewN nq = w2 := ⟨_, rfl⟩
                    rw [hwq]
                    have hKq : Kp [] wr wq := by rw [← hwq]; exact (Kp.refl [] wr).drewN _
                    have hszq := hKq.size
                    have PT := Lib.hid (PT.out.kp hKq (Nat.le_refl _) (by simp))
                    have PD := Lib.hid (PD.out.kp hKq (Nat.le_refl _) (by simp))
                    have HKq := Lib.hid hKq
                    clear hwq d0 d1 d2 y0 bl9 be9 wk1 wk2
                    go_wp2_with (at_builtin; refine wpList_append_pm rfl _ _ rfl wq.heap.size [] L1 _ _ rfl (World.ownsRow_nil _ _ _ _) _ rfl PT.out ?c1 (Nat.le_refl _) ?_)
                    case c1 => simp only [List.length_nil]; omega
                    intro v1 w1 hown1 hgrow1
                    have hK1 := (Kp.refl [] wq).grown hgrow1 (fun g hg => by cases hg)
                    have O1 := (show w1.ownsRow wq.heap.size 72 3 v1 L1.length (pcl L1) from hown1)
                    obtain ⟨p1, x1, rfl⟩ := own_form O1
                    have O1 := Lib.hid O1
                    have hKr1 := (HKr.out.trans hKq).trans hK1
                    have e0 := (hKr1.cell (p := ⟨bl, o + nO * 3, none⟩) hblt (by simp)).trans c0.out
                    have e1 := (hKr1.cell (p := ⟨bl, o + nO * 3 + 1, none⟩) hblt (by simp)).trans c1.out
                    have e2 := (hKr1.cell (p := ⟨bl, o + nO * 3 + 2, none⟩) hblt (by simp)).trans c2.out
                    have hsz1 := hK1.size
                    have HK1 := Lib.hid hK1
                    clear hown1 hgrow1 hK1 hKr1
                    go_wp2_with (at_builtin; refine wpList_append_own _ rfl _ _ 22 rfl wq.heap.size 72 i0 (.agg #[.string .empty, .string .empty, .bool false]) 3 40 Tryz.underlying22 hi hz0 hz1 hz2 rfl (by decide) _ _ _ rfl (O1.out.alloc _) ⟨w1.heap.size, 0, none⟩ 1 1 [.string (Txt q1), .string (Txt q2), .bool q3] rfl rfl (cell_three_new _ _ _ _ _) (by simp [Value.oneCell']) ?c3 ?c4 ?c5 ?_)
                    case c3 => unfold maxLen; omega
                    case c4 => omega
                    case c5 => simp; omega
                    intro v2 w2 hown2 hgrow2 _
                    have hK2 := (HK1.out.alloc (.cells #[.string (Txt q1), .string (Txt q2), .bool q3] 72)).grown hgrow2 (fun g hg => .inr (O1.out.lt g hg).1)
                    have O2 := (by simpa [pcl, pc1, Txt] using hown2 : w2.ownsRow wq.heap.size 72 3 v2 (L1 ++ [(q1, q2, q3)]).length (pcl (L1 ++ [(q1, q2, q3)])))
                    obtain ⟨p2, x2, hv2⟩ := own_form O2
                    rw [List.length_append, List.length_singleton] at hv2
                    subst hv2
                    have O2 := Lib.hid O2
                    have PD2 := Lib.hid (PD.out.kp hK2 hszq (by simp))
                    have hsz2 := hK2.size
                    have HK2 := Lib.hid hK2
                    clear hown2 hgrow2 hK2 e0 e1 e2
                    go_wp2_with (at_builtin; refine wpList_append_pm rfl _ _ rfl wq.heap.size (L1 ++ [(q1, q2, q3)]) L2 _ _ rfl O2.out _ rfl PD2.out ?c1 hsz2 ?_)
                    case c1 => simp only [List.length_append, List.length_singleton]; omega
                    intro v3 w3 hown3 hgrow3
                    have hK3 := HK2.out.grown hgrow3 (fun g hg => .inr (O2.out.lt g hg).1)
                    have hown3 := (by simpa using hown3 : w3.ownsRow wq.heap.size 72 3 v3 (L1 ++ [(q1, q2, q3)] ++ L2).length (pcl (L1 ++ [(q1, q2, q3)] ++ L2)))
                    obtain ⟨p3, x3, hv3⟩ := own_form hown3
                    rw [HLN.out] at hv3
                    subst hv3
                    have P3 := Lib.hid (own_pm hown3)
                    have KF := Lib.hid (HK.out.trans ((HKr.out.trans hKq).trans hK3))
                    clear hown3 hgrow3 hK3 hKq
                    go_wp2_with fail
                    go_roundg (l.length - nO)
                    case measure => omega
                    case rel => exact ⟨nO + 1, p3, x3, nO + 1, by omega, by omega, rfl, (fun h => absurd h (Nat.succ_ne_zero _)), rfl, by go_num, by rw [HIns.out]; exact P3.out, KF.out⟩
                · have hne : y1 ≠ q1 := fun h => by rw [h, ltL_irrefl] at hlt2; cases hlt2
                  rw [decide_eq_false hne] at be9
                  rw [show ltL y1 q1 = false from ltL_asymm _ _ hlt2] at bl9
                  have HD := Lib.hid (GtF.down (k := k) (by rw [show k + 1 = (k + 1) from by omega]; exact HG.out) (by rw [hy]; exact hlt2))
                  clear hys hy hlt2 hne
                  go_wp2_with fail
                  go_quiet (fail)
                  go_wp2_with fail
                  go_roundg (k + 1)
                  case measure => omega
                  case rel => exact ⟨k, by omega, by omega, by go_num, HD.out, HKr.out.drewN _⟩
    · have hjl : l.take j = l := List.take_of_length_le (by omega)
      have HF := Lib.hid (by rw [← HO.out, hjl] : srt l = O)
      clear hjl PLr hPO
      go_wp2_with fail
      go_ret
      unfold StP
      rw [HF.out]
      exact ⟨_, rfl, HPO.out, HK.out⟩
end Ad
end Go.Proofs.YtmmjfofdnpafkaaGreatDoor
