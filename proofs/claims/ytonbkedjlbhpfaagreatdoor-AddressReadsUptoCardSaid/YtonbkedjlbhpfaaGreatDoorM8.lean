/- Contracts of the reference's Same and SameParams, of Equal, of awake; how long the parts of a URI are. -/
import Derived.Test.YtonbkedjlbhpfaaGreatDoorM7
/- Contracts of the reference's SameParams, Same and SameAddress. Texts and lists have at most 2^32 bytes or elements. -/
namespace Go.Proofs.YtonbkedjlbhpfaaGreatDoor
namespace Ad
open Go.RowKit Lx

/-- A truth value, and nothing that was there is changed. -/
def BoK (x : Bool) (w : World) (e : Ending) (w' : World) : Prop := e = .returned (.bool x) ∧ Kp [] w w'
theorem txt_beq (a b : List UInt8) (h : a ≠ b) : ((Txt a).toList == (Txt b).toList) = false := by
  rw [Lib.toList_data, Lib.toList_data, beq_eq_false_iff_ne]; exact h
theorem txt_beqT (a b : List UInt8) (h : a = b) : ((Txt a).toList == (Txt b).toList) = true := by rw [h]; exact beq_self_eq_true _
theorem prm_ne (a b c a' b' c') (h : ¬ ((a : List UInt8) = a' ∧ (b : List UInt8) = b' ∧ (c : Bool) = c')) (s t : List Prm) : (((a, b, c) :: s) == ((a', b', c') :: t)) = false := by
  rw [beq_eq_false_iff_ne]
  intro e
  injection e with e1 e2
  injection e1 with e3 e4
  injection e4 with e5 e6
  exact h ⟨e3, e5, e6⟩
theorem prm_eq (p : Prm) (s t : List Prm) : ((p :: s) == (p :: t)) = (s == t) := by
  rw [List.cons_beq_cons, beq_self_eq_true, Bool.true_and]
set_option maxRecDepth 100000 in
set_option maxHeartbeats 4000000 in
theorem sameP_any (B1 B2 : Nat) (va vb : Value) (l m : List Prm) (w : World) (hA : PmIn B1 w va l) (hB : PmIn B2 w vb m) (h1 : B1 ≤ w.heap.size) (h2 : B2 ≤ w.heap.size) (hll : l.length ≤ 4294967296) (hml : m.length ≤ 4294967296) :
    Calls Tryz.prog 57 #[va, vb] w (BoK (l == m) w) := by
  obtain ⟨A1, k1, rfl⟩ := hA.form
  obtain ⟨A2, k2, rfl⟩ := hB.form
  obtain ⟨R, hR⟩ : ∃ R, (l == m) = R := ⟨_, rfl⟩
  have HR := Lib.hid hR
  have HA := Lib.hid hA
  have HB := Lib.hid hB
  clear hA hB
  by_cases hl : l.length = m.length
  · have bl : ((l.length : Int) != (m.length : Int)) = false := by rw [hl]; simp
    have HL := Lib.hid hl
    have hx : (l.drop 0 == m.drop 0) = R := hR
    have HX := Lib.hid hx
    rw [hR]
    clear hl hR hx
    go_enter Tryz.func57, Tryz.ntmps57
    go_wp2_with fail
    go_loopg [5] (l.length + 1) (fun gg i wr => ∃ (j : Nat), j ≤ l.length ∧ l.length - j < gg ∧ i = .int .i64 j ∧ (l.drop j == m.drop j) = R ∧ Kp [] w wr)
    case atStart => exact ⟨0, by omega, by omega, rfl, HX.out, Kp.refl _ _⟩
    case round =>
      obtain ⟨j, hj, hg, rfl, hr, hK⟩ := hrel
      have PA := Lib.hid (HA.out.kp hK h1 (by simp))
      have PB := Lib.hid (HB.out.kp hK h2 (by simp))
      by_cases hlt : j < l.length
      · have hlt2 : j < m.length := by rw [← HL.out]; exact hlt
        rw [drop_cons l j hlt, drop_cons m j hlt2] at hr
        obtain ⟨p1, p2, p3, hp⟩ : ∃ a b c, l[j]! = (a, b, c) := ⟨_, _, _, rfl⟩
        obtain ⟨q1, q2, q3, hq⟩ : ∃ a b c, m[j]! = (a, b, c) := ⟨_, _, _, rfl⟩
        rw [hp, hq] at hr
        have hsp : l[j]? = some (p1, p2, p3) := by rw [← hp]; exact getD_some l j hlt
        have hsq : m[j]? = some (q1, q2, q3) := by rw [← hq]; exact getD_some m j hlt2
        obtain ⟨_, kk1, rfl, hc1, ⟨h0, hv⟩ | ⟨b1, o1, hv, hb1, hcell1⟩⟩ := PA.out
        · omega
        · injection hv with hA1 _ hc12
          subst hA1
          obtain ⟨_, kk2, rfl, hc2, ⟨h0, hv⟩ | ⟨b2, o2, hv, hb2, hcell2⟩⟩ := PB.out
          · omega
          · injection hv with hA2 _ hc22
            subst hA2
            have c0 : wr.cell? ⟨b1, o1 + j * 3, none⟩ = some (.string (Txt p1)) := hcell1 _ _ (pcl_at l j _ hsp 0 _ rfl)
            have c1 : wr.cell? ⟨b1, o1 + j * 3 + 1, none⟩ = some (.string (Txt p2)) := by rw [Nat.add_assoc]; exact hcell1 _ _ (pcl_at l j _ hsp 1 _ rfl)
            have c2 : wr.cell? ⟨b1, o1 + j * 3 + 2, none⟩ = some (.bool p3) := by rw [Nat.add_assoc]; exact hcell1 _ _ (pcl_at l j _ hsp 2 _ rfl)
            have e0 : wr.cell? ⟨b2, o2 + j * 3, none⟩ = some (.string (Txt q1)) := hcell2 _ _ (pcl_at m j _ hsq 0 _ rfl)
            have e1 : wr.cell? ⟨b2, o2 + j * 3 + 1, none⟩ = some (.string (Txt q2)) := by rw [Nat.add_assoc]; exact hcell2 _ _ (pcl_at m j _ hsq 1 _ rfl)
            have e2 : wr.cell? ⟨b2, o2 + j * 3 + 2, none⟩ = some (.bool q3) := by rw [Nat.add_assoc]; exact hcell2 _ _ (pcl_at m j _ hsq 2 _ rfl)
            clear hcell1 hcell2 hc1 hc2 hc12 hc22 hp hq hsp hsq
            by_cases hx1 : p1 = q1
            · have t1 := txt_beqT p1 q1 hx1
              have HX1 := Lib.hid hx1
              clear hx1
              by_cases hx2 : p2 = q2
              · have t2 := txt_beqT p2 q2 hx2
                have HX2 := Lib.hid hx2
                clear hx2
                by_cases hx3 : p3 = q3
                · have t3 : (p3 == q3) = true := by rw [hx3]; exact beq_self_eq_true _
                  have HX := Lib.hid (show (l.drop (j + 1) == m.drop (j + 1)) = R from by rw [← hr, HX1.out, HX2.out, hx3, prm_eq])
                  clear hx3 hr
                  go_wp2_with fail
                  go_quiet (fail)
                  go_wp2_with fail
                  go_roundg (l.length - j)
                  case measure => omega
                  case rel => exact ⟨j + 1, by omega, by omega, rfl, HX.out, hK.drewN _⟩
                · have t3 : (p3 == q3) = false := beq_eq_false_iff_ne.2 hx3
                  have HX := Lib.hid (hr.symm.trans (prm_ne _ _ _ _ _ _ (fun h => hx3 h.2.2) _ _))
                  clear hr
                  go_wp2_with fail
                  go_quiet (fail)
                  go_wp2_with fail
                  go_ret
                  rw [HX.out]
                  exact ⟨rfl, hK.drewN _⟩
              · have t2 := txt_beq p2 q2 hx2
                have HX := Lib.hid (hr.symm.trans (prm_ne _ _ _ _ _ _ (fun h => hx2 h.2.1) _ _))
                clear hr
                go_wp2_with fail
                go_quiet (fail)
                go_wp2_with fail
                go_ret
                rw [HX.out]
                exact ⟨rfl, hK.drewN _⟩
            · have t1 := txt_beq p1 q1 hx1
              have HX := Lib.hid (hr.symm.trans (prm_ne _ _ _ _ _ _ (fun h => hx1 h.1) _ _))
              clear hr
              go_wp2_with fail
              go_quiet (fail)
              go_wp2_with fail
              go_ret
              rw [HX.out]
              exact ⟨rfl, hK.drewN _⟩
      · have HX := Lib.hid (show R = true from by
          rw [← hr, List.drop_eq_nil_of_le (by omega), List.drop_eq_nil_of_le (by have := HL.out; omega)]; rfl)
        clear hr
        go_wp2_with fail
        go_ret
        rw [HX.out]
        exact ⟨rfl, hK⟩
  · have bl : ((l.length : Int) != (m.length : Int)) = true := by rw [bne_iff_ne]; omega
    have HX := Lib.hid (show (l == m) = false from beq_eq_false_iff_ne.2 (fun e => hl (by rw [e])))
    clear hl hR
    go_enter Tryz.func57, Tryz.ntmps57
    go_wp2_with fail
    go_ret
    rw [HX.out]
    exact ⟨rfl, Kp.refl _ _⟩
set_option maxRecDepth 100000 in
set_option maxHeartbeats 8000000 in
theorem same_u (B1 B2 : Nat) (va vb : Value) (x y : Uri) (w : World) (hA : UriIn B1 w va x) (hB : UriIn B2 w vb y) (h1 : B1 ≤ w.heap.size) (h2 : B2 ≤ w.heap.size) (hx1 : x.params.length ≤ 4294967296) (hx2 : x.heads.length ≤ 4294967296) (hy1 : y.params.length ≤ 4294967296) (hy2 : y.heads.length ≤ 4294967296) :
    Calls Tryz.prog 21 #[va, vb] w (BoK (sameU x y) w) := by
  obtain ⟨vp, vh, rfl, hp, hh⟩ := hA
  obtain ⟨vq, vk, rfl, hq, hk⟩ := hB
  obtain ⟨a1, c1, rfl⟩ := hp.form
  obtain ⟨a2, c2, rfl⟩ := hh.form
  obtain ⟨a3, c3, rfl⟩ := hq.form
  obtain ⟨a4, c4, rfl⟩ := hk.form
  obtain ⟨S, U, H, P, ps, hs⟩ := x
  obtain ⟨S', U', H', P', ps', hs'⟩ := y
  dsimp only at *
  obtain ⟨wA, hwA⟩ : ∃ wA, w.alloc (.cells #[.string (Txt S), .string (Txt U), .string (Txt H), .int .i64 P, .slice a1 ps.length c1, .slice a2 hs.length c2] 24) = wA := ⟨_, rfl⟩
  obtain ⟨wB, hwB⟩ : ∃ wB, wA.alloc (.cells #[.string (Txt S'), .string (Txt U'), .string (Txt H'), .int .i64 P', .slice a3 ps'.length c3, .slice a4 hs'.length c4] 24) = wB := ⟨_, rfl⟩
  have hsA : wA.heap.size = w.heap.size + 1 := by rw [← hwA]; simp
  have BA : Blk wA w.heap.size 24 #[.string (Txt S), .string (Txt U), .string (Txt H), .int .i64 P, .slice a1 ps.length c1, .slice a2 hs.length c2] := by rw [← hwA]; exact Blk.new w _ _
  have BB := Lib.hid (show Blk wB w.heap.size 24 _ from by rw [← hwB]; exact BA.alloc _)
  have BC := Lib.hid (show Blk wB (w.heap.size + 1) 24 #[.string (Txt S'), .string (Txt U'), .string (Txt H'), .int .i64 P', .slice a3 ps'.length c3, .slice a4 hs'.length c4] from by rw [← hwB, ← hsA]; exact Blk.new wA _ _)
  have KB := Lib.hid (show Kp [] w wB from by rw [← hwB, ← hwA]; exact ((Kp.refl [] w).alloc _).alloc _)
  have HW := Lib.hid (show (w.alloc (.cells #[.string (Txt S), .string (Txt U), .string (Txt H), .int .i64 P, .slice a1 ps.length c1, .slice a2 hs.length c2] 24)).alloc (.cells #[.string (Txt S'), .string (Txt U'), .string (Txt H'), .int .i64 P', .slice a3 ps'.length c3, .slice a4 hs'.length c4] 24) = wB from by rw [hwA]; exact hwB)
  have hsB : w.heap.size + 2 ≤ wB.heap.size := by rw [← hwB]; simp; omega
  have Pp := Lib.hid (hp.kp KB.out h1 (by simp))
  have Ph := Lib.hid (hh.kp KB.out h1 (by simp))
  have Pq := Lib.hid (hq.kp KB.out h2 (by simp))
  have Pk := Lib.hid (hk.kp KB.out h2 (by simp))
  clear hwA hwB BA hsA hp hh hq hk
  have b0 := BB.out.cell 0
  have d0 := BC.out.cell 0
  have b1 := BB.out.cell 1
  have d1 := BC.out.cell 1
  have b2 := BB.out.cell 2
  have d2 := BC.out.cell 2
  have b3 := BB.out.cell 3
  have d3 := BC.out.cell 3
  have b4 := BB.out.cell 4
  have d4 := BC.out.cell 4
  have b5 := BB.out.cell 5
  have d5 := BC.out.cell 5
  by_cases hy00 : S = S'
  · have t0 := txt_beqT S S' hy00
    have HY0 := Lib.hid hy00
    clear hy00
    by_cases hy10 : U = U'
    · have t1 := txt_beqT U U' hy10
      have HY1 := Lib.hid hy10
      clear hy10
      by_cases hy20 : H = H'
      · have t2 := txt_beqT H H' hy20
        have HY2 := Lib.hid hy20
        clear hy20
        by_cases hy30 : P = P'
        · have t3 : (P == P') = true := by rw [hy30]; exact beq_self_eq_true _
          have HY3 := Lib.hid hy30
          clear hy30
          by_cases hy40 : ps = ps'
          · have T4 := Lib.hid (show (ps == ps') = true from by rw [hy40]; exact beq_self_eq_true _)
            have HY4 := Lib.hid hy40
            clear hy40
            by_cases hy50 : hs = hs'
            · have T5 := Lib.hid (show (hs == hs') = true from by rw [hy50]; exact beq_self_eq_true _)
              have HY5 := Lib.hid hy50
              clear hy50
              have HX := Lib.hid (show sameU ⟨S, U, H, P, ps, hs⟩ ⟨S', U', H', P', ps', hs'⟩ = true from by rw [sameU_iff, HY0.out, HY1.out, HY2.out, HY3.out, HY4.out, HY5.out])
              go_enter Tryz.func21, Tryz.ntmps21
              go_upto_region 1 with fail
              rw [HW.out]
              go_wp2_with fail
              refine (sameP_any B1 B2 _ _ ps ps' _ Pp.out Pq.out (by omega) (by omega) hx1 hy1).mono ?_
              rintro e w2 ⟨rfl, hK2⟩
              rw [T4.out]
              have B2' := Lib.hid (BB.out.kp hK2 (by simp))
              have C2' := Lib.hid (BC.out.kp hK2 (by simp))
              have K2 := Lib.hid (KB.out.trans hK2)
              have Qh := Lib.hid (Ph.out.kp hK2 (by omega) (by simp))
              have Qk := Lib.hid (Pk.out.kp hK2 (by omega) (by simp))
              have hs2 := hK2.size
              clear hK2
              have b5' : w2.cell? ⟨w.heap.size, 5, none⟩ = some (.slice a2 hs.length c2) := B2'.out.cell 5
              have d5' : w2.cell? ⟨w.heap.size + 1, 5, none⟩ = some (.slice a4 hs'.length c4) := C2'.out.cell 5
              go_wp2_with fail
              refine (sameP_any B1 B2 _ _ hs hs' _ Qh.out Qk.out (by omega) (by omega) hx2 hy2).mono ?_
              rintro e w3 ⟨rfl, hK3⟩
              rw [T5.out]
              have K3 := Lib.hid (K2.out.trans hK3)
              clear hK3
              go_wp2_with fail
              go_ret
              rw [HX.out]
              exact ⟨rfl, K3.out⟩
            · have T5 := Lib.hid (show (hs == hs') = false from beq_eq_false_iff_ne.2 hy50)
              have HX := Lib.hid (show sameU ⟨S, U, H, P, ps, hs⟩ ⟨S', U', H', P', ps', hs'⟩ = false from by rw [Bool.eq_false_iff, ne_eq, sameU_iff]; intro e; injection e with e1 e2 e3 e4 e5 e6; exact hy50 e6)
              clear hy50
              go_enter Tryz.func21, Tryz.ntmps21
              go_upto_region 1 with fail
              rw [HW.out]
              go_wp2_with fail
              refine (sameP_any B1 B2 _ _ ps ps' _ Pp.out Pq.out (by omega) (by omega) hx1 hy1).mono ?_
              rintro e w2 ⟨rfl, hK2⟩
              rw [T4.out]
              have B2' := Lib.hid (BB.out.kp hK2 (by simp))
              have C2' := Lib.hid (BC.out.kp hK2 (by simp))
              have K2 := Lib.hid (KB.out.trans hK2)
              have Qh := Lib.hid (Ph.out.kp hK2 (by omega) (by simp))
              have Qk := Lib.hid (Pk.out.kp hK2 (by omega) (by simp))
              have hs2 := hK2.size
              clear hK2
              have b5' : w2.cell? ⟨w.heap.size, 5, none⟩ = some (.slice a2 hs.length c2) := B2'.out.cell 5
              have d5' : w2.cell? ⟨w.heap.size + 1, 5, none⟩ = some (.slice a4 hs'.length c4) := C2'.out.cell 5
              go_wp2_with fail
              refine (sameP_any B1 B2 _ _ hs hs' _ Qh.out Qk.out (by omega) (by omega) hx2 hy2).mono ?_
              rintro e w3 ⟨rfl, hK3⟩
              rw [T5.out]
              have K3 := Lib.hid (K2.out.trans hK3)
              clear hK3
              go_wp2_with fail
              go_ret
              rw [HX.out]
              exact ⟨rfl, K3.out⟩
          · have T4 := Lib.hid (show (ps == ps') = false from beq_eq_false_iff_ne.2 hy40)
            have HX := Lib.hid (show sameU ⟨S, U, H, P, ps, hs⟩ ⟨S', U', H', P', ps', hs'⟩ = false from by rw [Bool.eq_false_iff, ne_eq, sameU_iff]; intro e; injection e with e1 e2 e3 e4 e5 e6; exact hy40 e5)
            clear hy40
            go_enter Tryz.func21, Tryz.ntmps21
            go_upto_region 1 with fail
            rw [HW.out]
            go_wp2_with fail
            refine (sameP_any B1 B2 _ _ ps ps' _ Pp.out Pq.out (by omega) (by omega) hx1 hy1).mono ?_
            rintro e w2 ⟨rfl, hK2⟩
            rw [T4.out]
            have B2' := Lib.hid (BB.out.kp hK2 (by simp))
            have C2' := Lib.hid (BC.out.kp hK2 (by simp))
            have K2 := Lib.hid (KB.out.trans hK2)
            have Qh := Lib.hid (Ph.out.kp hK2 (by omega) (by simp))
            have Qk := Lib.hid (Pk.out.kp hK2 (by omega) (by simp))
            have hs2 := hK2.size
            clear hK2
            have b5' : w2.cell? ⟨w.heap.size, 5, none⟩ = some (.slice a2 hs.length c2) := B2'.out.cell 5
            have d5' : w2.cell? ⟨w.heap.size + 1, 5, none⟩ = some (.slice a4 hs'.length c4) := C2'.out.cell 5
            go_wp2_with fail
            go_ret
            rw [HX.out]
            exact ⟨rfl, K2.out⟩
        · have t3 : (P == P') = false := beq_eq_false_iff_ne.2 hy30
          have HX := Lib.hid (show sameU ⟨S, U, H, P, ps, hs⟩ ⟨S', U', H', P', ps', hs'⟩ = false from by rw [Bool.eq_false_iff, ne_eq, sameU_iff]; intro e; injection e with e1 e2 e3 e4 e5 e6; exact hy30 e4)
          clear hy30
          go_enter Tryz.func21, Tryz.ntmps21
          go_upto_region 1 with fail
          rw [HW.out]
          go_wp2_with fail
          go_ret
          rw [HX.out]
          exact ⟨rfl, KB.out⟩
      · have t2 := txt_beq H H' hy20
        have HX := Lib.hid (show sameU ⟨S, U, H, P, ps, hs⟩ ⟨S', U', H', P', ps', hs'⟩ = false from by rw [Bool.eq_false_iff, ne_eq, sameU_iff]; intro e; injection e with e1 e2 e3 e4 e5 e6; exact hy20 e3)
        clear hy20
        go_enter Tryz.func21, Tryz.ntmps21
        go_upto_region 1 with fail
        rw [HW.out]
        go_wp2_with fail
        go_ret
        rw [HX.out]
        exact ⟨rfl, KB.out⟩
    · have t1 := txt_beq U U' hy10
      have HX := Lib.hid (show sameU ⟨S, U, H, P, ps, hs⟩ ⟨S', U', H', P', ps', hs'⟩ = false from by rw [Bool.eq_false_iff, ne_eq, sameU_iff]; intro e; injection e with e1 e2 e3 e4 e5 e6; exact hy10 e2)
      clear hy10
      go_enter Tryz.func21, Tryz.ntmps21
      go_upto_region 1 with fail
      rw [HW.out]
      go_wp2_with fail
      go_ret
      rw [HX.out]
      exact ⟨rfl, KB.out⟩
  · have t0 := txt_beq S S' hy00
    have HX := Lib.hid (show sameU ⟨S, U, H, P, ps, hs⟩ ⟨S', U', H', P', ps', hs'⟩ = false from by rw [Bool.eq_false_iff, ne_eq, sameU_iff]; intro e; injection e with e1 e2 e3 e4 e5 e6; exact hy00 e1)
    clear hy00
    go_enter Tryz.func21, Tryz.ntmps21
    go_upto_region 1 with fail
    rw [HW.out]
    go_wp2_with fail
    go_ret
    rw [HX.out]
    exact ⟨rfl, KB.out⟩
set_option maxRecDepth 100000 in
set_option maxHeartbeats 8000000 in
theorem same_a (B1 B2 : Nat) (va vb : Value) (x y : Adr) (w : World) (hA : AdIn B1 w va x) (hB : AdIn B2 w vb y) (h1 : B1 ≤ w.heap.size) (h2 : B2 ≤ w.heap.size) (hx1 : x.uri.params.length ≤ 4294967296) (hx2 : x.uri.heads.length ≤ 4294967296) (hx3 : x.params.length ≤ 4294967296) (hy1 : y.uri.params.length ≤ 4294967296) (hy2 : y.uri.heads.length ≤ 4294967296) (hy3 : y.params.length ≤ 4294967296) :
    Calls Tryz.prog 25 #[va, vb] w (BoK (x.display == y.display && (sameU x.uri y.uri && x.params == y.params)) w) := by
  obtain ⟨vp, vh, vz, rfl, hp, hh, hz⟩ := hA
  obtain ⟨vq, vk, vy, rfl, hq, hk, hy⟩ := hB
  obtain ⟨a1, c1, rfl⟩ := hp.form
  obtain ⟨a2, c2, rfl⟩ := hh.form
  obtain ⟨a3, c3, rfl⟩ := hq.form
  obtain ⟨a4, c4, rfl⟩ := hk.form
  obtain ⟨a5, c5, rfl⟩ := hz.form
  obtain ⟨a6, c6, rfl⟩ := hy.form
  obtain ⟨D, X, zs⟩ := x
  obtain ⟨D', Y, ys⟩ := y
  dsimp only at *
  obtain ⟨wA, hwA⟩ : ∃ wA, w.alloc (.cells #[.string (Txt D), .string (Txt X.scheme), .string (Txt X.user), .string (Txt X.host), .int .i64 X.port, .slice a1 X.params.length c1, .slice a2 X.heads.length c2, .slice a5 zs.length c5] 32) = wA := ⟨_, rfl⟩
  obtain ⟨wB, hwB⟩ : ∃ wB, wA.alloc (.cells #[.string (Txt D'), .string (Txt Y.scheme), .string (Txt Y.user), .string (Txt Y.host), .int .i64 Y.port, .slice a3 Y.params.length c3, .slice a4 Y.heads.length c4, .slice a6 ys.length c6] 32) = wB := ⟨_, rfl⟩
  have hsA : wA.heap.size = w.heap.size + 1 := by rw [← hwA]; simp
  have BA : Blk wA w.heap.size 32 #[.string (Txt D), .string (Txt X.scheme), .string (Txt X.user), .string (Txt X.host), .int .i64 X.port, .slice a1 X.params.length c1, .slice a2 X.heads.length c2, .slice a5 zs.length c5] := by rw [← hwA]; exact Blk.new w _ _
  have BB := Lib.hid (show Blk wB w.heap.size 32 _ from by rw [← hwB]; exact BA.alloc _)
  have BC := Lib.hid (show Blk wB (w.heap.size + 1) 32 #[.string (Txt D'), .string (Txt Y.scheme), .string (Txt Y.user), .string (Txt Y.host), .int .i64 Y.port, .slice a3 Y.params.length c3, .slice a4 Y.heads.length c4, .slice a6 ys.length c6] from by rw [← hwB, ← hsA]; exact Blk.new wA _ _)
  have KB := Lib.hid (show Kp [] w wB from by rw [← hwB, ← hwA]; exact ((Kp.refl [] w).alloc _).alloc _)
  have HW := Lib.hid (show (w.alloc (.cells #[.string (Txt D), .string (Txt X.scheme), .string (Txt X.user), .string (Txt X.host), .int .i64 X.port, .slice a1 X.params.length c1, .slice a2 X.heads.length c2, .slice a5 zs.length c5] 32)).alloc (.cells #[.string (Txt D'), .string (Txt Y.scheme), .string (Txt Y.user), .string (Txt Y.host), .int .i64 Y.port, .slice a3 Y.params.length c3, .slice a4 Y.heads.length c4, .slice a6 ys.length c6] 32) = wB from by rw [hwA]; exact hwB)
  have hsB : w.heap.size + 2 ≤ wB.heap.size := by rw [← hwB]; simp; omega
  have PX := Lib.hid (show UriIn B1 wB (.agg #[.string (Txt X.scheme), .string (Txt X.user), .string (Txt X.host), .int .i64 X.port, .slice a1 X.params.length c1, .slice a2 X.heads.length c2]) X from ⟨_, _, rfl, hp.kp KB.out h1 (by simp), hh.kp KB.out h1 (by simp)⟩)
  have PY := Lib.hid (show UriIn B2 wB (.agg #[.string (Txt Y.scheme), .string (Txt Y.user), .string (Txt Y.host), .int .i64 Y.port, .slice a3 Y.params.length c3, .slice a4 Y.heads.length c4]) Y from ⟨_, _, rfl, hq.kp KB.out h2 (by simp), hk.kp KB.out h2 (by simp)⟩)
  have Pz := Lib.hid (hz.kp KB.out h1 (by simp))
  have Py := Lib.hid (hy.kp KB.out h2 (by simp))
  clear hwA hwB BA hsA hp hh hq hk hz hy
  have b0 := BB.out.cell 0
  have d0 := BC.out.cell 0
  have b1 := BB.out.cell 1
  have d1 := BC.out.cell 1
  have b2 := BB.out.cell 2
  have d2 := BC.out.cell 2
  have b3 := BB.out.cell 3
  have d3 := BC.out.cell 3
  have b4 := BB.out.cell 4
  have d4 := BC.out.cell 4
  have b5 := BB.out.cell 5
  have d5 := BC.out.cell 5
  have b6 := BB.out.cell 6
  have d6 := BC.out.cell 6
  have b7 := BB.out.cell 7
  have d7 := BC.out.cell 7
  by_cases hy00 : D = D'
  · have t0 := txt_beqT D D' hy00
    have HY0 := Lib.hid hy00
    clear hy00
    cases hT : sameU X Y
    · have T1 := Lib.hid hT
      have HX := Lib.hid (show (D == D' && (false && zs == ys)) = false from by simp)
      clear hT
      go_enter Tryz.func25, Tryz.ntmps25
      go_upto_region 1 with fail
      rw [HW.out]
      go_wp2_with fail
      refine (same_u B1 B2 _ _ X Y _ PX.out PY.out (by omega) (by omega) hx1 hx2 hy1 hy2).mono ?_
      rintro e w2 ⟨rfl, hK2⟩
      rw [T1.out]
      have B2' := Lib.hid (BB.out.kp hK2 (by simp))
      have C2' := Lib.hid (BC.out.kp hK2 (by simp))
      have K2 := Lib.hid (KB.out.trans hK2)
      have Qz := Lib.hid (Pz.out.kp hK2 (by omega) (by simp))
      have Qy := Lib.hid (Py.out.kp hK2 (by omega) (by simp))
      have hs2 := hK2.size
      clear hK2
      have b7' : w2.cell? ⟨w.heap.size, 7, none⟩ = some (.slice a5 zs.length c5) := B2'.out.cell 7
      have d7' : w2.cell? ⟨w.heap.size + 1, 7, none⟩ = some (.slice a6 ys.length c6) := C2'.out.cell 7
      go_wp2_with fail
      go_ret
      rw [HX.out]
      exact ⟨rfl, K2.out⟩
    · have T1 := Lib.hid hT
      have HX := Lib.hid (show (D == D' && (true && zs == ys)) = (zs == ys) from by rw [HY0.out]; simp)
      clear hT
      go_enter Tryz.func25, Tryz.ntmps25
      go_upto_region 1 with fail
      rw [HW.out]
      go_wp2_with fail
      refine (same_u B1 B2 _ _ X Y _ PX.out PY.out (by omega) (by omega) hx1 hx2 hy1 hy2).mono ?_
      rintro e w2 ⟨rfl, hK2⟩
      rw [T1.out]
      have B2' := Lib.hid (BB.out.kp hK2 (by simp))
      have C2' := Lib.hid (BC.out.kp hK2 (by simp))
      have K2 := Lib.hid (KB.out.trans hK2)
      have Qz := Lib.hid (Pz.out.kp hK2 (by omega) (by simp))
      have Qy := Lib.hid (Py.out.kp hK2 (by omega) (by simp))
      have hs2 := hK2.size
      clear hK2
      have b7' : w2.cell? ⟨w.heap.size, 7, none⟩ = some (.slice a5 zs.length c5) := B2'.out.cell 7
      have d7' : w2.cell? ⟨w.heap.size + 1, 7, none⟩ = some (.slice a6 ys.length c6) := C2'.out.cell 7
      go_wp2_with fail
      refine (sameP_any B1 B2 _ _ zs ys _ Qz.out Qy.out (by omega) (by omega) hx3 hy3).mono ?_
      rintro e w3 ⟨rfl, hK3⟩
      have K3 := Lib.hid (K2.out.trans hK3)
      clear hK3
      go_wp2_with fail
      go_ret
      rw [HX.out]
      exact ⟨rfl, K3.out⟩
  · have t0 := txt_beq D D' hy00
    have HX := Lib.hid (show (D == D' && (sameU X Y && zs == ys)) = false from by rw [beq_eq_false_iff_ne.2 hy00]; rfl)
    clear hy00
    go_enter Tryz.func25, Tryz.ntmps25
    go_upto_region 1 with fail
    rw [HW.out]
    go_wp2_with fail
    go_ret
    rw [HX.out]
    exact ⟨rfl, KB.out⟩
end Ad
end Go.Proofs.YtonbkedjlbhpfaaGreatDoor
/- Contracts of slices.Equal at lists of parameters and of Equal of package address. Texts have at most 2^21 bytes. -/
namespace Go.Proofs.YtonbkedjlbhpfaaGreatDoor
namespace Ad
open Go.RowKit Lx

end Ad
end Go.Proofs.YtonbkedjlbhpfaaGreatDoor
/- Contract of awake of package dialtonelaw02: it returns true, and nothing that was there is changed. -/
namespace Go.Proofs.YtonbkedjlbhpfaaGreatDoor
namespace Ad
open Go.RowKit Lx

/-- A block that holds a URI. -/
def UBox (w : World) (g : Nat) (u : Uri) : Prop := ∃ (a1 : Option Addr) (c1 : Nat) (a2 : Option Addr) (c2 : Nat),
  Blk w g 24 #[.string (Txt u.scheme), .string (Txt u.user), .string (Txt u.host), .int .i64 u.port, .slice a1 u.params.length c1, .slice a2 u.heads.length c2] ∧ PmIn w.heap.size w (.slice a1 u.params.length c1) u.params ∧ PmIn w.heap.size w (.slice a2 u.heads.length c2) u.heads
theorem UBox.kpn {w w' : World} {g : Nat} {u : Uri} (h : UBox w g u) (k : Kp [] w w') : UBox w' g u := by
  obtain ⟨a1, c1, a2, c2, hb, h1, h2⟩ := h
  exact ⟨a1, c1, a2, c2, hb.kp k (by simp), h1.grow k (by intro y hy; cases hy), h2.grow k (by intro y hy; cases hy)⟩
theorem UBox.new {w : World} {S U H : ByteArray} {P : Int} {a1 : Option Addr} {n1 c1 : Nat} {a2 : Option Addr} {n2 c2 : Nat} {u : Uri} (h : UriIn w.heap.size w (.agg #[.string S, .string U, .string H, .int .i64 P, .slice a1 n1 c1, .slice a2 n2 c2]) u) :
    UBox (w.alloc (.cells #[.string S, .string U, .string H, .int .i64 P, .slice a1 n1 c1, .slice a2 n2 c2] 24)) w.heap.size u := by
  obtain ⟨vp, vh, he, hp, hh⟩ := h
  injection he with he
  simp only [Array.mk.injEq, List.cons.injEq, and_true] at he
  obtain ⟨e1, e2, e3, e4, e5, e6⟩ := he
  subst e5 e6
  obtain ⟨A1, C1, f1⟩ := hp.form
  obtain ⟨A2, C2, f2⟩ := hh.form
  have k := (Kp.refl [] w).alloc (.cells #[.string S, .string U, .string H, .int .i64 P, .slice a1 n1 c1, .slice a2 n2 c2] 24)
  have hp' := hp.grow k (by intro y hy; cases hy)
  have hh' := hh.grow k (by intro y hy; cases hy)
  have hB := Blk.new w 24 #[.string S, .string U, .string H, .int .i64 P, .slice a1 n1 c1, .slice a2 n2 c2]
  rw [e1, e2, e3, e4, f1, f2] at hB
  rw [f1] at hp'
  rw [f2] at hh'
  injection f1 with f11 f12 f13
  injection f2 with f21 f22 f23
  subst f11 f12 f13 f21 f22 f23
  rw [← e1, ← e2, ← e3, ← e4] at hB
  exact ⟨_, _, _, _, by rw [e1, e2, e3, e4] at hB; rw [e1, e2, e3, e4]; exact hB, by rw [e1, e2, e3, e4] at hp'; rw [e1, e2, e3, e4]; exact hp', by rw [e1, e2, e3, e4] at hh'; rw [e1, e2, e3, e4]; exact hh'⟩
theorem UBox.in {w : World} {g : Nat} {u : Uri} (h : UBox w g u) : ∃ (a1 : Option Addr) (c1 : Nat) (a2 : Option Addr) (c2 : Nat),
    (∀ i, w.cell? ⟨g, i, none⟩ = #[Value.string (Txt u.scheme), .string (Txt u.user), .string (Txt u.host), .int .i64 u.port, .slice a1 u.params.length c1, .slice a2 u.heads.length c2][i]?) ∧ UriIn w.heap.size w (.agg #[.string (Txt u.scheme), .string (Txt u.user), .string (Txt u.host), .int .i64 u.port, .slice a1 u.params.length c1, .slice a2 u.heads.length c2]) u := by
  obtain ⟨a1, c1, a2, c2, hb, h1, h2⟩ := h
  exact ⟨a1, c1, a2, c2, fun i => hb.cell i, _, _, rfl, h1, h2⟩
/-- Parameters in a block of their own. -/
theorem PmIn.blk {w : World} {g : Nat} {t : TypeId} {l : List Prm} (h : Blk w g t (pcl l).toArray) : PmIn w.heap.size w (.slice (some ⟨g, 0, none⟩) l.length l.length) l :=
  ⟨_, _, rfl, Nat.le_refl _, .inr ⟨g, 0, rfl, h.lt, fun j u hu => by rw [Nat.zero_add, h.cell j]; simpa using hu⟩⟩

def aw1 : List UInt8 := [83, 73, 80, 58, 65, 108, 37, 54, 57, 99, 101, 64, 69, 120, 97, 109, 112, 108, 101, 46, 99, 111, 109, 58, 53, 48, 55, 48, 59, 76, 82, 59, 97, 61, 37, 52, 49]
def awU : Uri := ⟨[115, 105, 112], [65, 108, 105, 99, 101], [101, 120, 97, 109, 112, 108, 101, 46, 99, 111, 109], 5070, [([97], [65], true), ([108, 114], [], false)], []⟩
def awV : Uri := ⟨[115, 105, 112], [97, 32, 98], [72], 0, [([88], [], false)], []⟩
def aw2 : List UInt8 := [115, 105, 112, 58, 97, 58, 98, 64, 99]
def aw3 : List UInt8 := [34, 65, 46, 32, 66, 34, 32, 60, 115, 105, 112, 58, 97, 64, 98, 59, 120, 62, 59, 116, 97, 103, 61, 49]
def awX : Uri := ⟨[115, 105, 112], [97], [98], 0, [([120], [], false)], []⟩
theorem parse_is (l : List UInt8) (u : Uri) (n : Nat) (x : Int) (h : sameU (parse l).1 u = true) (h2 : (parse l).2 = (n, x)) : parse l = (u, n, x) := by
  obtain ⟨a, b, c⟩ : ∃ a b, parse l = (a, b) := ⟨_, _, rfl⟩
  rw [c] at h h2 ⊢
  dsimp only at h h2
  rw [(sameU_iff _ _).1 h, h2]
theorem adr_is (l : List UInt8) (d : List UInt8) (u : Uri) (ps : List Prm) (n : Nat) (x : Int) (h : sameU (adrR l).1.uri u = true) (h1 : (adrR l).1.display = d) (h3 : (adrR l).1.params = ps) (h2 : (adrR l).2 = (n, x)) : adrR l = (⟨d, u, ps⟩, n, x) := by
  obtain ⟨a, b, c⟩ : ∃ a b, adrR l = (a, b) := ⟨_, _, rfl⟩
  rw [c] at h h1 h2 h3 ⊢
  dsimp only at h h1 h2 h3
  obtain ⟨p, q, r⟩ := a
  dsimp only at *
  rw [(sameU_iff _ _).1 h, h1, h2, h3]
set_option maxRecDepth 100000 in
theorem aw1_is : parse aw1 = (awU, 0, 0) := parse_is _ _ _ _ (by decide +kernel) (by decide +kernel)
set_option maxRecDepth 100000 in
theorem aw2_is : parse aw2 = (nilU, 5, 15) := parse_is _ _ _ _ (by decide +kernel) (by decide +kernel)
set_option maxRecDepth 100000 in
theorem aw3_is : adrR aw3 = (⟨[65, 46, 32, 66], awX, [([116, 97, 103], [49], true)]⟩, 0, 0) := adr_is _ _ _ _ _ _ (by decide +kernel) (by decide +kernel) (by decide +kernel) (by decide +kernel)
set_option maxRecDepth 100000 in
theorem awV_is : printO awV = some [115, 105, 112, 58, 97, 37, 50, 48, 98, 64, 104, 59, 120] := by decide +kernel
/-- A block that holds an address. -/
def ABox (w : World) (g : Nat) (a : Adr) : Prop := ∃ (a1 : Option Addr) (c1 : Nat) (a2 : Option Addr) (c2 : Nat) (a3 : Option Addr) (c3 : Nat),
  Blk w g 32 #[.string (Txt a.display), .string (Txt a.uri.scheme), .string (Txt a.uri.user), .string (Txt a.uri.host), .int .i64 a.uri.port, .slice a1 a.uri.params.length c1, .slice a2 a.uri.heads.length c2, .slice a3 a.params.length c3] ∧ PmIn w.heap.size w (.slice a1 a.uri.params.length c1) a.uri.params ∧ PmIn w.heap.size w (.slice a2 a.uri.heads.length c2) a.uri.heads ∧ PmIn w.heap.size w (.slice a3 a.params.length c3) a.params
theorem ABox.kpn {w w' : World} {g : Nat} {a : Adr} (h : ABox w g a) (k : Kp [] w w') : ABox w' g a := by
  obtain ⟨a1, c1, a2, c2, a3, c3, hb, h1, h2, h3⟩ := h
  exact ⟨a1, c1, a2, c2, a3, c3, hb.kp k (by simp), h1.grow k (by intro y hy; cases hy), h2.grow k (by intro y hy; cases hy), h3.grow k (by intro y hy; cases hy)⟩
theorem ABox.new {w : World} {a : Adr} {a1 : Option Addr} {c1 : Nat} {a2 : Option Addr} {c2 : Nat} {a3 : Option Addr} {c3 : Nat} (h1 : PmIn w.heap.size w (.slice a1 a.uri.params.length c1) a.uri.params) (h2 : PmIn w.heap.size w (.slice a2 a.uri.heads.length c2) a.uri.heads) (h3 : PmIn w.heap.size w (.slice a3 a.params.length c3) a.params) :
    ABox (w.alloc (.cells #[.string (Txt a.display), .string (Txt a.uri.scheme), .string (Txt a.uri.user), .string (Txt a.uri.host), .int .i64 a.uri.port, .slice a1 a.uri.params.length c1, .slice a2 a.uri.heads.length c2, .slice a3 a.params.length c3] 32)) w.heap.size a := by
  have k := (Kp.refl [] w).alloc (.cells #[.string (Txt a.display), .string (Txt a.uri.scheme), .string (Txt a.uri.user), .string (Txt a.uri.host), .int .i64 a.uri.port, .slice a1 a.uri.params.length c1, .slice a2 a.uri.heads.length c2, .slice a3 a.params.length c3] 32)
  exact ⟨a1, c1, a2, c2, a3, c3, Blk.new w _ _, h1.grow k (by intro y hy; cases hy), h2.grow k (by intro y hy; cases hy), h3.grow k (by intro y hy; cases hy)⟩
theorem ABox.in {w : World} {g : Nat} {a : Adr} (h : ABox w g a) : ∃ (a1 : Option Addr) (c1 : Nat) (a2 : Option Addr) (c2 : Nat) (a3 : Option Addr) (c3 : Nat),
    (∀ i, w.cell? ⟨g, i, none⟩ = #[Value.string (Txt a.display), .string (Txt a.uri.scheme), .string (Txt a.uri.user), .string (Txt a.uri.host), .int .i64 a.uri.port, .slice a1 a.uri.params.length c1, .slice a2 a.uri.heads.length c2, .slice a3 a.params.length c3][i]?) ∧ UriIn w.heap.size w (.agg #[.string (Txt a.uri.scheme), .string (Txt a.uri.user), .string (Txt a.uri.host), .int .i64 a.uri.port, .slice a1 a.uri.params.length c1, .slice a2 a.uri.heads.length c2]) a.uri ∧ PmIn w.heap.size w (.slice a3 a.params.length c3) a.params := by
  obtain ⟨a1, c1, a2, c2, a3, c3, hb, h1, h2, h3⟩ := h
  exact ⟨a1, c1, a2, c2, a3, c3, fun i => hb.cell i, ⟨_, _, rfl, h1, h2⟩, h3⟩
set_option maxRecDepth 100000 in
set_option maxHeartbeats 8000000 in
theorem awake_any (w : World) (E : Env w) : Calls Tryz.prog 22 #[] w (BoK true w) := by
  obtain ⟨u1, hu1⟩ : ∃ u, awU = u := ⟨_, rfl⟩
  obtain ⟨u4, hu4⟩ : ∃ u, nilU = u := ⟨_, rfl⟩
  obtain ⟨A, hA⟩ : ∃ a, (⟨[65, 46, 32, 66], awX, [([116, 97, 103], [49], true)]⟩ : Adr) = a := ⟨_, rfl⟩
  have P1 := Parse_any ⟨aw1.toArray⟩ w (by decide) E
  rw [show (ByteArray.mk aw1.toArray).data.toList = aw1 from rfl, aw1_is, hu1] at P1
  have HP1 := Lib.hid P1
  have HE := Lib.hid E
  have HK := Lib.hid (Kp.refl [] w)
  have S1 := Lib.hid (show sameU u1 awU = true from by rw [← hu1]; exact (sameU_iff _ _).2 rfl)
  have hl1 : u1.params.length = 2 ∧ u1.heads.length = 0 := by rw [← hu1]; exact ⟨rfl, rfl⟩
  have hd : ((Txt A.display).toList == [65, 46, 32, 66]) = true := by rw [← hA]; decide +kernel
  have S2 := Lib.hid (show (A.params == [([116, 97, 103], [49], true)]) = true from by rw [← hA]; decide +kernel)
  have S3 := Lib.hid (show (A.uri.params == [([120], [], false)]) = true from by rw [← hA]; decide +kernel)
  have hla : A.params.length = 1 ∧ A.uri.params.length = 1 := by rw [← hA]; exact ⟨rfl, rfl⟩
  have HD := Lib.hid hd
  have Hl1 := Lib.hid hl1
  have Hla := Lib.hid hla
  have HA := Lib.hid hA
  have Hu4 := Lib.hid hu4
  clear hu1 P1 E hl1 hd hla hA hu4
  go_enter Tryz.func22, Tryz.ntmps22
  go_wp2_with fail
  refine (HP1.out).mono ?_
  rintro e w1 ⟨v, rfl, hu, hB⟩
  have hK := (Kp.refl [] w).below hB
  have hu' := hu
  obtain ⟨vp, vh, rfl, hp, hh⟩ := hu
  obtain ⟨A1_, C1_, rfl⟩ := hp.form
  obtain ⟨D1_, F1_, rfl⟩ := hh.form
  have KK2_ := Lib.hid (HK.out.trans hK)
  have EE3_ := Lib.hid (HE.out.kp hK (by simp))
  dsimp only at hu' ⊢
  obtain ⟨w4_, hw5_⟩ : ∃ z, w1.alloc (.cells #[.string (Txt u1.scheme), .string (Txt u1.user), .string (Txt u1.host), .int .i64 u1.port, .slice A1_ u1.params.length C1_, .slice D1_ u1.heads.length F1_] 24) = z := ⟨_, rfl⟩
  have hX := UBox.new hu'
  rw [hw5_] at hX
  have hKb : Kp [] w1 w4_ := by rw [← hw5_]; exact (Kp.refl [] w1).alloc _
  have KK6_ := Lib.hid (KK2_.out.trans hKb)
  have EE7_ := Lib.hid (EE3_.out.kp hKb (by simp))
  have HX8_ := Lib.hid hX
  clear hX hKb
  clear hK hB hp hh hu'
  obtain ⟨w2, hw2⟩ : ∃ z, w4_.alloc (.cells #[.string ⟨#[97]⟩, .string ⟨#[65]⟩, .bool true, .string ⟨#[108, 114]⟩, .string ⟨#[]⟩, .bool false] 75) = z := ⟨_, rfl⟩
  have hKb : Kp [] w4_ w2 := by rw [← hw2]; exact (Kp.refl [] w4_).alloc _
  have hBk : Blk w2 w4_.heap.size 75 #[.string ⟨#[97]⟩, .string ⟨#[65]⟩, .bool true, .string ⟨#[108, 114]⟩, .string ⟨#[]⟩, .bool false] := by rw [← hw2]; exact Blk.new _ _ _
  have HX9_ := Lib.hid (HX8_.out.kpn hKb)
  have KK10_ := Lib.hid (KK6_.out.trans hKb)
  have EE11_ := Lib.hid (EE7_.out.kp hKb (by simp))
  clear hKb
  have Hhw2 := Lib.hid hw2
  clear hw2
  have hI : UriIn w2.heap.size w2 (.agg #[.string ⟨#[115, 105, 112]⟩, .string ⟨#[65, 108, 105, 99, 101]⟩, .string ⟨#[101, 120, 97, 109, 112, 108, 101, 46, 99, 111, 109]⟩, .int .i64 5070, .slice (some ⟨w4_.heap.size, 0, none⟩) 2 2, .slice none 0 0]) awU := ⟨_, _, rfl, PmIn.blk (l := awU.params) hBk, PmIn.nil _ _⟩
  obtain ⟨w12_, hw13_⟩ : ∃ z, w2.alloc (.cells #[.string ⟨#[115, 105, 112]⟩, .string ⟨#[65, 108, 105, 99, 101]⟩, .string ⟨#[101, 120, 97, 109, 112, 108, 101, 46, 99, 111, 109]⟩, .int .i64 5070, .slice (some ⟨w4_.heap.size, 0, none⟩) 2 2, .slice none 0 0] 24) = z := ⟨_, rfl⟩
  have hX := UBox.new hI
  rw [hw13_] at hX
  have hKb : Kp [] w2 w12_ := by rw [← hw13_]; exact (Kp.refl [] w2).alloc _
  have HX14_ := Lib.hid (HX9_.out.kpn hKb)
  have KK15_ := Lib.hid (KK10_.out.trans hKb)
  have EE16_ := Lib.hid (EE11_.out.kp hKb (by simp))
  rw [show w2.heap.size = w4_.heap.size + 1 from by rw [← Hhw2.out]; simp] at hX
  have Hhw13_ := Lib.hid hw13_
  clear hw13_
  have HX17_ := Lib.hid hX
  clear hX hKb
  clear hI hBk
  obtain ⟨w3, hw3⟩ : ∃ z, w12_.alloc (.cells #[.string ⟨#[88]⟩, .string ⟨#[]⟩, .bool false] 75) = z := ⟨_, rfl⟩
  have hKb : Kp [] w12_ w3 := by rw [← hw3]; exact (Kp.refl [] w12_).alloc _
  have hBk : Blk w3 w12_.heap.size 75 #[.string ⟨#[88]⟩, .string ⟨#[]⟩, .bool false] := by rw [← hw3]; exact Blk.new _ _ _
  have HX18_ := Lib.hid (HX14_.out.kpn hKb)
  have HX19_ := Lib.hid (HX17_.out.kpn hKb)
  have KK20_ := Lib.hid (KK15_.out.trans hKb)
  have EE21_ := Lib.hid (EE16_.out.kp hKb (by simp))
  clear hKb
  have Hhw3 := Lib.hid hw3
  clear hw3
  have hI : UriIn w3.heap.size w3 (.agg #[.string ⟨#[115, 105, 112]⟩, .string ⟨#[97, 32, 98]⟩, .string ⟨#[72]⟩, .int .i64 0, .slice (some ⟨w12_.heap.size, 0, none⟩) 1 1, .slice none 0 0]) awV := ⟨_, _, rfl, PmIn.blk (l := awV.params) hBk, PmIn.nil _ _⟩
  have HPr := Lib.hid (Print_any _ _ awV w3 hI (Nat.le_refl _) ⟨by decide, by decide, by decide, by decide, by decide, by unfold SzP; decide, by unfold SzP; decide⟩ (by decide) EE21_.out)
  clear hI hBk
  rw [awV_is] at HPr
  rw [show w12_.heap.size = w4_.heap.size + 1 + 1 from by rw [← Hhw13_.out, ← Hhw2.out]; simp] at HPr
  go_wp2_with fail
  rw [Hhw2.out, Hhw13_.out, Hhw3.out]
  refine HPr.out.mono ?_
  rintro e w4 ⟨rfl, hB⟩
  have hK := (Kp.refl [] w3).below hB
  have HX22_ := Lib.hid (HX18_.out.kpn hK)
  have HX23_ := Lib.hid (HX19_.out.kpn hK)
  have KK24_ := Lib.hid (KK20_.out.trans hK)
  have EE25_ := Lib.hid (EE21_.out.kp hK (by simp))
  clear hK hB HPr
  dsimp only [Option.getD_some, Option.isSome_some, if_true]
  have P2 := Lib.hid (show Calls Tryz.prog 19 #[.string ⟨aw2.toArray⟩] w4 (UrP (u4, 5, 15) w4) from by have h := Parse_any ⟨aw2.toArray⟩ w4 (by decide) EE25_.out; rw [show (ByteArray.mk aw2.toArray).data.toList = aw2 from rfl, aw2_is, Hu4.out] at h; exact h)
  go_wp2_with fail
  refine (P2.out).mono ?_
  rintro e w5 ⟨v, rfl, hu, hB⟩
  have hK := (Kp.refl [] w4).below hB
  have hu' := hu
  obtain ⟨vp, vh, rfl, hp, hh⟩ := hu
  obtain ⟨A26_, C26_, rfl⟩ := hp.form
  obtain ⟨D26_, F26_, rfl⟩ := hh.form
  have HX27_ := Lib.hid (HX22_.out.kpn hK)
  have HX28_ := Lib.hid (HX23_.out.kpn hK)
  have KK29_ := Lib.hid (KK24_.out.trans hK)
  have EE30_ := Lib.hid (EE25_.out.kp hK (by simp))
  dsimp only at hu' ⊢
  obtain ⟨w31_, hw32_⟩ : ∃ z, w5.alloc (.cells #[.string (Txt u4.scheme), .string (Txt u4.user), .string (Txt u4.host), .int .i64 u4.port, .slice A26_ u4.params.length C26_, .slice D26_ u4.heads.length F26_] 24) = z := ⟨_, rfl⟩
  have hX := UBox.new hu'
  rw [hw32_] at hX
  have hKb : Kp [] w5 w31_ := by rw [← hw32_]; exact (Kp.refl [] w5).alloc _
  have HX33_ := Lib.hid (HX27_.out.kpn hKb)
  have HX34_ := Lib.hid (HX28_.out.kpn hKb)
  have KK35_ := Lib.hid (KK29_.out.trans hKb)
  have EE36_ := Lib.hid (EE30_.out.kp hKb (by simp))
  have HX37_ := Lib.hid hX
  clear hX hKb
  clear hK hB hp hh hu'
  have P3 := Lib.hid (show Calls Tryz.prog 23 #[.string ⟨aw3.toArray⟩] w31_ (AdrP (A, 0, 0) w31_) from by have h := ParseAddress_any ⟨aw3.toArray⟩ w31_ (by decide) EE36_.out; rw [show (ByteArray.mk aw3.toArray).data.toList = aw3 from rfl, aw3_is, HA.out] at h; exact h)
  go_wp2_with fail
  refine P3.out.mono ?_
  rintro e w6 ⟨v, rfl, hu, hB⟩
  have hK := (Kp.refl [] w31_).below hB
  obtain ⟨vp, vh, vq, rfl, hp, hh, hq⟩ := hu
  obtain ⟨a1, c1, rfl⟩ := hp.form
  obtain ⟨a2, c2, rfl⟩ := hh.form
  obtain ⟨a3, c3, rfl⟩ := hq.form
  have HX38_ := Lib.hid (HX33_.out.kpn hK)
  have HX39_ := Lib.hid (HX34_.out.kpn hK)
  have HX40_ := Lib.hid (HX37_.out.kpn hK)
  have KK41_ := Lib.hid (KK35_.out.trans hK)
  have EE42_ := Lib.hid (EE36_.out.kp hK (by simp))
  dsimp only at hp hh hq ⊢
  obtain ⟨w7, hw7⟩ : ∃ z, w6.alloc (.cells #[.string (Txt A.display), .string (Txt A.uri.scheme), .string (Txt A.uri.user), .string (Txt A.uri.host), .int .i64 A.uri.port, .slice a1 A.uri.params.length c1, .slice a2 A.uri.heads.length c2, .slice a3 A.params.length c3] 32) = z := ⟨_, rfl⟩
  have hX := ABox.new (a := A) hp hh hq
  rw [hw7] at hX
  have hKb : Kp [] w6 w7 := by rw [← hw7]; exact (Kp.refl [] w6).alloc _
  have HX43_ := Lib.hid (HX38_.out.kpn hKb)
  have HX44_ := Lib.hid (HX39_.out.kpn hKb)
  have HX45_ := Lib.hid (HX40_.out.kpn hKb)
  have KK46_ := Lib.hid (KK41_.out.trans hKb)
  have EE47_ := Lib.hid (EE42_.out.kp hKb (by simp))
  have HX48_ := Lib.hid hX
  clear hX hKb hK hB hp hh hq
  obtain ⟨a49_, c49_, d49_, e49_, hc49_, hi49_⟩ := HX43_.out.in
  have b49_x0 := hc49_ 0
  have b49_x1 := hc49_ 1
  have b49_x2 := hc49_ 2
  have b49_x3 := hc49_ 3
  have b49_x4 := hc49_ 4
  have b49_x5 := hc49_ 5
  have In49_ := Lib.hid hi49_
  clear hc49_ hi49_
  obtain ⟨a50_, c50_, d50_, e50_, hc50_, hi50_⟩ := HX44_.out.in
  have b50_x0 := hc50_ 0
  have b50_x1 := hc50_ 1
  have b50_x2 := hc50_ 2
  have b50_x3 := hc50_ 3
  have b50_x4 := hc50_ 4
  have b50_x5 := hc50_ 5
  have In50_ := Lib.hid hi50_
  clear hc50_ hi50_
  go_wp2_with fail
  obtain ⟨l1, l2⟩ := Hl1.out
  refine (same_u _ _ _ _ u1 awU _ In49_.out In50_.out (Nat.le_refl _) (Nat.le_refl _) (by omega) (by omega) (by decide) (by decide)).mono ?_
  rintro e w8 ⟨rfl, hK⟩
  rw [S1.out]
  clear l1 l2
  have HX51_ := Lib.hid (HX43_.out.kpn hK)
  have HX52_ := Lib.hid (HX44_.out.kpn hK)
  have HX53_ := Lib.hid (HX45_.out.kpn hK)
  have HX54_ := Lib.hid (HX48_.out.kpn hK)
  have KK55_ := Lib.hid (KK46_.out.trans hK)
  have EE56_ := Lib.hid (EE47_.out.kp hK (by simp))
  clear hK
  clear b49_x0 b49_x1 b49_x2 b49_x3 b49_x4 b49_x5 b50_x0 b50_x1 b50_x2 b50_x3 b50_x4 b50_x5
  obtain ⟨a57_, c57_, d57_, e57_, f57_, g57_, hc57_, hi57_, hp57_⟩ := HX54_.out.in
  have b57_x0 := hc57_ 0
  have b57_x1 := hc57_ 1
  have b57_x2 := hc57_ 2
  have b57_x3 := hc57_ 3
  have b57_x4 := hc57_ 4
  have b57_x5 := hc57_ 5
  have b57_x6 := hc57_ 6
  have b57_x7 := hc57_ 7
  have In57_ := Lib.hid hi57_
  have Ip57_ := Lib.hid hp57_
  clear hc57_ hi57_ hp57_
  have hd := HD.out
  have hpr : ((Txt [115, 105, 112, 58, 97, 37, 50, 48, 98, 64, 104, 59, 120]).toList == [115, 105, 112, 58, 97, 37, 50, 48, 98, 64, 104, 59, 120]) = true := by decide +kernel
  obtain ⟨w9, hw9⟩ : ∃ z, w8.alloc (.cells #[.string ⟨#[116, 97, 103]⟩, .string ⟨#[49]⟩, .bool true] 75) = z := ⟨_, rfl⟩
  have hKb : Kp [] w8 w9 := by rw [← hw9]; exact (Kp.refl [] w8).alloc _
  have hBk : Blk w9 w8.heap.size 75 #[.string ⟨#[116, 97, 103]⟩, .string ⟨#[49]⟩, .bool true] := by rw [← hw9]; exact Blk.new _ _ _
  have HX58_ := Lib.hid (HX51_.out.kpn hKb)
  have HX59_ := Lib.hid (HX52_.out.kpn hKb)
  have HX60_ := Lib.hid (HX53_.out.kpn hKb)
  have HX61_ := Lib.hid (HX54_.out.kpn hKb)
  have KK62_ := Lib.hid (KK55_.out.trans hKb)
  have EE63_ := Lib.hid (EE56_.out.kp hKb (by simp))
  clear hKb
  have HPt := Lib.hid (PmIn.blk (l := [([116, 97, 103], [49], true)]) hBk)
  clear hBk
  go_wp2_with fail
  obtain ⟨l1, l2⟩ := Hla.out
  refine (sameP_any _ _ _ _ A.params [([116, 97, 103], [49], true)] _ (Ip57_.out.grow (by rw [← hw9]; exact (Kp.refl [] w8).alloc _) (by intro y hy; cases hy)) HPt.out (Nat.le_refl _) (Nat.le_refl _) (by omega) (by decide)).mono ?_
  rintro e w10 ⟨rfl, hK⟩
  rw [S2.out]
  clear l1 l2
  have HX64_ := Lib.hid (HX58_.out.kpn hK)
  have HX65_ := Lib.hid (HX59_.out.kpn hK)
  have HX66_ := Lib.hid (HX60_.out.kpn hK)
  have HX67_ := Lib.hid (HX61_.out.kpn hK)
  have KK68_ := Lib.hid (KK62_.out.trans hK)
  have EE69_ := Lib.hid (EE63_.out.kp hK (by simp))
  clear hK hd
  clear b57_x0 b57_x1 b57_x2 b57_x3 b57_x4 b57_x5 b57_x6 b57_x7
  obtain ⟨a70_, c70_, d70_, e70_, f70_, g70_, hc70_, hi70_, hp70_⟩ := HX67_.out.in
  have b70_x0 := hc70_ 0
  have b70_x1 := hc70_ 1
  have b70_x2 := hc70_ 2
  have b70_x3 := hc70_ 3
  have b70_x4 := hc70_ 4
  have b70_x5 := hc70_ 5
  have b70_x6 := hc70_ 6
  have b70_x7 := hc70_ 7
  have In70_ := Lib.hid hi70_
  have Ip70_ := Lib.hid hp70_
  clear hc70_ hi70_ hp70_
  obtain ⟨w11, hw11⟩ : ∃ z, w10.alloc (.cells #[.string ⟨#[120]⟩, .string ⟨#[]⟩, .bool false] 75) = z := ⟨_, rfl⟩
  have hKb : Kp [] w10 w11 := by rw [← hw11]; exact (Kp.refl [] w10).alloc _
  have hBk : Blk w11 w10.heap.size 75 #[.string ⟨#[120]⟩, .string ⟨#[]⟩, .bool false] := by rw [← hw11]; exact Blk.new _ _ _
  have HX71_ := Lib.hid (HX64_.out.kpn hKb)
  have HX72_ := Lib.hid (HX65_.out.kpn hKb)
  have HX73_ := Lib.hid (HX66_.out.kpn hKb)
  have HX74_ := Lib.hid (HX67_.out.kpn hKb)
  have KK75_ := Lib.hid (KK68_.out.trans hKb)
  have EE76_ := Lib.hid (EE69_.out.kp hKb (by simp))
  clear hKb
  have HPt := Lib.hid (PmIn.blk (l := [([120], [], false)]) hBk)
  clear hBk
  go_wp2_with fail
  obtain ⟨vp, vh, hve, hvp, hvh⟩ := In70_.out
  injection hve with hve
  simp only [Array.mk.injEq, List.cons.injEq, and_true, true_and] at hve
  obtain ⟨rfl, rfl⟩ := hve
  obtain ⟨l1, l2⟩ := Hla.out
  refine (sameP_any _ _ _ _ A.uri.params [([120], [], false)] _ (hvp.grow (by rw [← hw11]; exact (Kp.refl [] w10).alloc _) (by intro y hy; cases hy)) HPt.out (Nat.le_refl _) (Nat.le_refl _) (by omega) (by decide)).mono ?_
  rintro e w12 ⟨rfl, hK⟩
  rw [S3.out]
  clear l1 l2
  have HX77_ := Lib.hid (HX71_.out.kpn hK)
  have HX78_ := Lib.hid (HX72_.out.kpn hK)
  have HX79_ := Lib.hid (HX73_.out.kpn hK)
  have HX80_ := Lib.hid (HX74_.out.kpn hK)
  have KK81_ := Lib.hid (KK75_.out.trans hK)
  have EE82_ := Lib.hid (EE76_.out.kp hK (by simp))
  clear hK hvp hvh
  clear b70_x0 b70_x1 b70_x2 b70_x3 b70_x4 b70_x5 b70_x6 b70_x7
  go_wp2_with fail
  go_ret
  exact ⟨rfl, KK81_.out⟩
end Ad
end Go.Proofs.YtonbkedjlbhpfaaGreatDoor
/- Plain facts of the layer address: how long the parts of a URI are that is read, or of a normal form. No program in them. -/
namespace Go.Proofs.YtonbkedjlbhpfaaGreatDoor
namespace Ad
open Lx
theorem slc_lel (l : List UInt8) (a b : Nat) : (slc l a b).length ≤ l.length := by unfold slc; simp; omega
theorem wrd_slc (k : Int) (l : List UInt8) (a b : Nat) : (wrdR k (slc l a b)).1.length ≤ l.length := Nat.le_trans (wrdR_len k _ _ (Nat.le_refl _)) (slc_lel l a b)
end Ad
end Go.Proofs.YtonbkedjlbhpfaaGreatDoor
