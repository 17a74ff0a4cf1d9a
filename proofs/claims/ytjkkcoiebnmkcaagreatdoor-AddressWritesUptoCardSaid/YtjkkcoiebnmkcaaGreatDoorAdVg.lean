/- Contracts of the reference's write and decimal (dialtoneref02). Names and values have at most 2^21 bytes, lists at most 16 elements. -/
import Derived.Test.YtjkkcoiebnmkcaaGreatDoorAdVf
import Derived.Test.YtjkkcoiebnmkcaaGreatDoorM7
namespace Go.Proofs.YtjkkcoiebnmkcaaGreatDoor
namespace Ad
open Go.RowKit Lx

theorem wrt_snoc2 (f a : UInt8) (cls : Int) (p : Prm) : ∀ t : List Prm, wrt f a cls (t ++ [p]) = wrt f a cls t ++ ((if t = [] then f else a) :: prP cls p) := by
  intro t
  induction t generalizing f with
  | nil => simp [wrt]
  | cons q t ih =>
    rw [List.cons_append, wrt, wrt, ih a, if_neg (show ¬ (q :: t) = [] from by simp), ite_self]
    simp [List.append_assoc]
theorem prP_len (cls : Int) (q1 q2 : List UInt8) (q3 : Bool) (h1 : q1.length ≤ 2097152) (h2 : q2.length ≤ 2097152) : (prP cls (q1, q2, q3)).length ≤ 12582913 := by
  have e1 := (escp_len cls q1).2
  have e2 := (escp_len cls q2).2
  unfold prP
  dsimp only
  cases q3
  · simp only [Bool.false_eq_true, if_false, List.length_append, List.length_nil]; omega
  · simp only [if_true, List.length_append, List.length_cons]; omega
set_option maxRecDepth 100000 in
set_option maxHeartbeats 8000000 in
theorem rwrite_any (f a : UInt8) (cls : Int) (B : Nat) (v : Value) (l : List Prm) (w : World) (hP : PmIn B w v l) (hB : B ≤ w.heap.size) (hz : SzP l) (hl : l.length ≤ 16) :
    Calls Tryz.prog 104 #[v, .string (Txt [f]), .string (Txt [a]), .int .i64 cls] w (TxK (wrt f a cls l) w) := by
  have HPm := Lib.hid hP
  obtain ⟨A, c, rfl⟩ := hP.form
  clear hP
  have HE := Lib.hid (fun (q : List UInt8) (hq : q.length ≤ 2097152) wz => (by have h := rEscape_any cls (Txt q) wz (by rw [txt_size]; omega); rw [txt_list] at h; exact h : Calls Tryz.prog 17 #[.string (Txt q), .int .i64 cls] wz (RetNew (escpL cls q) wz)))
  go_enter Tryz.func104, Tryz.ntmps104
  go_wp2_with fail
  go_loopg [9, 10, 11] (l.length + 1) (fun gg out mk i wr => ∃ (j : Nat) (X : List UInt8), X = wrt f a cls (l.take j) ∧ X.length ≤ j * 12582914 ∧ out = .string (Txt X) ∧ mk = .string (Txt [if j = 0 then f else a]) ∧ j ≤ l.length ∧ l.length - j < gg ∧ i = .int .i64 j ∧ Kp [] w wr)
  case atStart => exact ⟨0, [], by simp [wrt], by simp, rfl, rfl, by omega, by omega, rfl, Kp.refl _ _⟩
  case round =>
    obtain ⟨j, X, hX, hXl, rfl, rfl, hj, hg, rfl, hK⟩ := hrel
    obtain ⟨w0, rfl⟩ : ∃ w0, w0 = wr := ⟨_, rfl⟩
    have HX := Lib.hid hX
    have HK := Lib.hid hK
    have hzr := hK.size
    have PLr := HPm.out.kp hK hB (by simp)
    clear hK hX
    obtain ⟨m, hmk⟩ : ∃ m, (if j = 0 then f else a) = m := ⟨_, rfl⟩
    rw [hmk]
    by_cases hlt : j < l.length
    · obtain ⟨q1, q2, q3, hq⟩ : ∃ a b c, l[j]! = (a, b, c) := ⟨_, _, _, rfl⟩
      have hm : (q1, q2, q3) ∈ l := by rw [← hq, getElem!_pos l j hlt]; exact List.getElem_mem hlt
      obtain ⟨hq1, hq2⟩ := hz _ hm
      dsimp only at hq1 hq2
      have hsome : l[j]? = some (q1, q2, q3) := by rw [← hq]; exact getD_some l j hlt
      have HSn := Lib.hid (by
        have h := wrt_snoc2 f a cls (q1, q2, q3) (l.take j)
        rw [← HX.out] at h
        have e : l.take (j + 1) = l.take j ++ [(q1, q2, q3)] := by rw [List.take_add_one, hsome]; rfl
        have e2 : (if l.take j = [] then f else a) = m := by
          rw [← hmk]
          by_cases h0 : j = 0
          · rw [if_pos h0, if_pos (by rw [h0]; rfl)]
          · rw [if_neg h0, if_neg (by intro h1; have h2 := congrArg List.length h1; rw [List.length_take, List.length_nil] at h2; omega)]
        rw [← e, e2] at h
        exact h : wrt f a cls (l.take (j + 1)) = X ++ (m :: prP cls (q1, q2, q3)))
      obtain ⟨_, c', rfl, hc, ⟨h0, hv⟩ | ⟨bl, o, hv, hbl, hcell⟩⟩ := PLr
      · omega
      · injection hv with hA _ hc2
        subst hA
        subst hc2
        have c0 : w0.cell? ⟨bl, o + j * 3, none⟩ = some (.string (Txt q1)) := hcell _ _ (pcl_at l j _ hsome 0 _ rfl)
        have c1 : w0.cell? ⟨bl, o + j * 3 + 1, none⟩ = some (.string (Txt q2)) := by rw [Nat.add_assoc]; exact hcell _ _ (pcl_at l j _ hsome 1 _ rfl)
        have c2 : w0.cell? ⟨bl, o + j * 3 + 2, none⟩ = some (.bool q3) := by rw [Nat.add_assoc]; exact hcell _ _ (pcl_at l j _ hsome 2 _ rfl)
        have hb0 : bl < w0.heap.size := by omega
        have hpl := prP_len cls q1 q2 q3 hq1 hq2
        have e1l := (escp_len cls q1).2
        have e2l := (escp_len cls q2).2
        have HE1 := Lib.hid (fun wz => HE.out q1 hq1 wz)
        have HE2 := Lib.hid (fun wz => HE.out q2 hq2 wz)
        obtain ⟨E1, hE1⟩ : ∃ x, escpL cls q1 = x := ⟨_, rfl⟩
        obtain ⟨E2, hE2⟩ : ∃ x, escpL cls q2 = x := ⟨_, rfl⟩
        rw [hE1] at HE1 e1l
        rw [hE2] at HE2 e2l
        have HPr := Lib.hid (by unfold prP; dsimp only; rw [hE1, hE2] : prP cls (q1, q2, q3) = E1 ++ (if q3 then 61 :: E2 else []))
        have sX : (Txt X).size ≤ 201326624 := by rw [txt_size]; omega
        have sM : (Txt [m]).size ≤ 1 := by rw [txt_size]; exact Nat.le_refl _
        have sA : (Txt X ++ Txt [m]).size ≤ 201326625 := by rw [ByteArray.size_append]; omega
        have sE1 : (Txt E1).size ≤ 6291456 := by rw [txt_size]; omega
        have sE2 : (Txt E2).size ≤ 6291456 := by rw [txt_size]; omega
        have sB : (Txt X ++ Txt [m] ++ Txt E1).size ≤ 207618081 := by rw [ByteArray.size_append]; omega
        have HcB := Lib.hid ((congrArg (· ++ Txt E1) (cat_txt X [m])).trans (cat_txt (X ++ [m]) E1) : Txt X ++ Txt [m] ++ Txt E1 = Txt (X ++ [m] ++ E1))
        have hmk2 := Lib.hid (show (if j + 1 = 0 then f else a) = a from if_neg (by omega))
        clear hcell hc hq hm hsome hE1 hE2 hmk
        cases q3
        · have HT2 := Lib.hid (HSn.out.trans (by rw [HPr.out]; simp) : wrt f a cls (l.take (j + 1)) = X ++ [m] ++ E1)
          have hlen : (X ++ [m] ++ E1).length ≤ (j + 1) * 12582914 := by simp only [List.length_append, List.length_cons, List.length_nil]; omega
          go_wp2_with fail
          refine (HE1.out _).mono ?_
          rintro e w2 ⟨rfl, hB2⟩
          have hK2 := (Kp.refl [] w0).below hB2
          have K2 := Lib.hid (HK.out.trans hK2)
          have d2 := (hK2.cell (p := ⟨bl, o + j * 3 + 2, none⟩) hb0 (by simp)).trans c2
          clear hK2 hB2 c0 c1 c2
          rw [show (⟨E1.toArray⟩ : ByteArray) = Txt E1 from rfl]
          go_wp2_with fail
          go_roundg (l.length - j)
          case measure => omega
          case rel => exact ⟨j + 1, X ++ [m] ++ E1, HT2.out.symm, hlen, congrArg Value.string HcB.out, by rw [hmk2.out], by omega, by omega, by go_num, K2.out⟩
        · have HT2 := Lib.hid (HSn.out.trans (by rw [HPr.out]; simp) : wrt f a cls (l.take (j + 1)) = X ++ [m] ++ E1 ++ [61] ++ E2)
          have hlen : (X ++ [m] ++ E1 ++ [61] ++ E2).length ≤ (j + 1) * 12582914 := by simp only [List.length_append, List.length_cons, List.length_nil]; omega
          go_wp2_with fail
          refine (HE1.out _).mono ?_
          rintro e w2 ⟨rfl, hB2⟩
          have hK2 := (Kp.refl [] w0).below hB2
          have K2 := Lib.hid (HK.out.trans hK2)
          have d2 := (hK2.cell (p := ⟨bl, o + j * 3 + 2, none⟩) hb0 (by simp)).trans c2
          have d1 := (hK2.cell (p := ⟨bl, o + j * 3 + 1, none⟩) hb0 (by simp)).trans c1
          clear hK2 hB2 c0 c1 c2
          rw [show (⟨E1.toArray⟩ : ByteArray) = Txt E1 from rfl]
          obtain ⟨Y, hY⟩ : ∃ Y, X ++ [m] ++ E1 = Y := ⟨_, rfl⟩
          have hcB := HcB.out
          rw [hY] at hcB
          have sY : (Txt Y).size ≤ 207618081 := by rw [← hcB]; exact sB
          have sC : (Txt Y ++ (⟨#[61]⟩ : ByteArray)).size ≤ 207618082 := by rw [ByteArray.size_append]; have : (⟨#[61]⟩ : ByteArray).size = 1 := rfl; omega
          have sD : (Txt Y ++ (⟨#[61]⟩ : ByteArray) ++ Txt E2).size ≤ 213909538 := by rw [ByteArray.size_append]; omega
          have HcD := Lib.hid ((congrArg (· ++ Txt E2) (cat_txt Y [61])).trans (cat_txt (Y ++ [61]) E2) : Txt Y ++ (⟨#[61]⟩ : ByteArray) ++ Txt E2 = Txt (Y ++ [61] ++ E2))
          rw [hY] at HT2 hlen
          have HY := Lib.hid hY
          clear hY
          go_upto_region 8 with fail
          clear hcB
          go_wp2_with fail
          refine (HE2.out _).mono ?_
          rintro e w3 ⟨rfl, hB3⟩
          have K3 := Lib.hid (K2.out.below hB3)
          clear hB3 d1 d2
          rw [show (⟨E2.toArray⟩ : ByteArray) = Txt E2 from rfl]
          go_wp2_with fail
          go_roundg (l.length - j)
          case measure => omega
          case rel => exact ⟨j + 1, Y ++ [61] ++ E2, HT2.out.symm, hlen, congrArg Value.string HcD.out, by rw [hmk2.out], by omega, by omega, by go_num, K3.out⟩
    · have hT := Lib.hid (by rw [List.take_of_length_le (by omega)] : wrt f a cls (l.take j) = wrt f a cls l)
      clear PLr hmk
      go_wp2_with fail
      go_ret
      exact ⟨congrArg (fun z => Ending.returned (.string (Txt z))) (HX.out.trans hT.out), HK.out⟩
end Ad
end Go.Proofs.YtjkkcoiebnmkcaaGreatDoor
