/- Plain facts: parameter lists of the rest of a text, at shifted offsets; how much fuel does not matter. No program. -/
import Derived.Test.YtonbkedjlbhpfaaGreatDoorM4
import Derived.Test.YtonbkedjlbhpfaaGreatDoorAdRo
namespace Go.Proofs.YtonbkedjlbhpfaaGreatDoor
namespace Ad
open Lx

theorem atB_drop (l : List UInt8) (t k : Nat) : atB (l.drop t) k = atB l (t + k) := by unfold atB; rw [List.getElem?_drop]
theorem endP_drop (p : Int → Bool) (l : List UInt8) (t k : Nat) : t + endP p (l.drop t) k = endP p l (t + k) := by unfold endP; rw [List.drop_drop]; omega
theorem tokE_drop (l : List UInt8) (t k : Nat) : t + tokE (l.drop t) k = tokE l (t + k) := by unfold tokE; rw [List.drop_drop]; omega
theorem blkE_drop (l : List UInt8) (t k : Nat) : t + blkE (l.drop t) k = blkE l (t + k) := by unfold blkE; rw [List.drop_drop]; omega
theorem slc_dropl (l : List UInt8) (t a b : Nat) : slc (l.drop t) a b = slc l (t + a) (t + b) := by
  unfold slc; rw [List.take_drop, List.drop_drop]
theorem stepS_shift (r : List UInt8) (t i : Nat) : stepS r (t + i) = (t + (stepS r i).1, (stepS r i).2) := by
  unfold stepS
  split
  · rfl
  · split
    · rfl
    · split
      · rfl
      · split
        · rfl
        · split <;> rfl
theorem qEnd_shift (t n : Nat) : ∀ (r : List UInt8) (i : Nat), r.length ≤ n → qEnd r (t + i) = (t + (qEnd r i).1, (qEnd r i).2) := by
  induction n with
  | zero =>
    intro r i h
    obtain rfl : r = [] := List.eq_nil_of_length_eq_zero (by omega)
    rw [qEnd_nil, qEnd_nil]
  | succ n ih =>
    intro r i h
    match r, h with
    | [], _ => rw [qEnd_nil, qEnd_nil]
    | c :: u, h =>
      by_cases h34 : c.toNat = 34
      · rw [qEnd, qEnd, if_pos h34, if_pos h34]; rfl
      · have hs := stepS_shift (c :: u) t i
        by_cases h2 : (stepS (c :: u) i).2 = 0
        · have h3 : (stepS (c :: u) (t + i)).2 = 0 := by rw [hs]; exact h2
          have ok := stepS_ok _ _ h2
          rw [qEnd_step c u i h34 h2, qEnd_step c u (t + i) h34 h3, hs]
          dsimp only
          rw [show t + (stepS (c :: u) i).1 - (t + i) = (stepS (c :: u) i).1 - i from by omega]
          refine ih _ _ ?_
          rw [List.length_drop]; simp only [List.length_cons] at h ok ⊢; omega
        · have h3 : ¬ (stepS (c :: u) (t + i)).2 = 0 := by rw [hs]; exact h2
          rw [qEnd, qEnd, if_neg h34, if_neg h34, dif_neg h2, dif_neg h3, hs]
theorem uqR_shift (l : List UInt8) (t k : Nat) : uqR l ((t + k : Nat) : Int) = (t + (uqR (l.drop t) (k : Int)).1, (uqR (l.drop t) (k : Int)).2) := by
  unfold uqR
  rw [Int.toNat_natCast, Int.toNat_natCast, List.drop_drop, show t + (k + 1) = t + k + 1 from by omega, show t + k + 1 = t + (k + 1) from by omega]
  exact qEnd_shift t _ _ _ (Nat.le_refl _)
theorem opE_at (l : List UInt8) (k : Nat) (h : atB l k = 34) : opE 34 l (k : Int) = 0 := by
  have hk := atB_lt l k (by rw [h]; decide)
  have e : l.drop k = l[k] :: l.drop (k + 1) := (List.drop_eq_getElem_cons hk)
  unfold opE
  rw [if_neg (by omega), Int.toNat_natCast, e]
  dsimp only
  unfold atB at h
  rw [List.getElem?_eq_getElem hk] at h
  exact if_pos h
theorem uq_shift (l : List UInt8) (t k : Nat) (h : atB l (t + k) = 34) : uqT (l.drop t) (k : Int) = uqT l ((t + k : Nat) : Int) ∧ t + (uqN (l.drop t) (k : Int)).toNat = (uqN l ((t + k : Nat) : Int)).toNat ∧ uqE (l.drop t) (k : Int) = uqE l ((t + k : Nat) : Int) := by
  have h2 : atB (l.drop t) k = 34 := by rw [atB_drop]; exact h
  have hR := uqR_shift l t k
  obtain ⟨n1, e1⟩ := uq34 _ _ h
  obtain ⟨n2, e2⟩ := uq34 _ _ h2
  rw [n1, n2, e1, e2, hR]
  refine ⟨?_, by rw [Int.toNat_natCast, Int.toNat_natCast], rfl⟩
  unfold uqT
  rw [opE_at _ _ h, opE_at _ _ h2, hR, Int.toNat_natCast, Int.toNat_natCast, List.drop_drop, show t + (k + 1) = t + k + 1 from by omega]
theorem valR_shift (l : List UInt8) (t k : Nat) (ht : t ≤ l.length) : (valR (l.drop t) k).1 = (valR l (t + k)).1 ∧ t + (valR (l.drop t) k).2.1 = (valR l (t + k)).2.1 ∧ (valR (l.drop t) k).2.2 = (valR l (t + k)).2.2 := by
  unfold valR
  rw [atB_drop]
  by_cases h34 : atB l (t + k) = 34
  · rw [if_pos h34, if_pos h34]
    exact uq_shift l t k h34
  · rw [if_neg h34, if_neg h34]
    by_cases h91 : atB l (t + k) = 91
    · rw [if_pos h91, if_pos h91]
      have e := endP_drop (· == 93) l t k
      have e2 : t + min (endP (· == 93) (l.drop t) k + 1) (l.drop t).length = min (endP (· == 93) l (t + k) + 1) l.length := by rw [List.length_drop]; omega
      rw [slc_dropl, e2]
      cases hostO (slc l (t + k) (min (endP (· == 93) l (t + k) + 1) l.length)) with
      | none => exact ⟨rfl, rfl, rfl⟩
      | some h => exact ⟨rfl, e2, rfl⟩
    · rw [if_neg h91, if_neg h91]
      have e := tokE_drop l t k
      by_cases hz : tokE l (t + k) = t + k
      · rw [if_pos hz, if_pos (by omega)]; exact ⟨rfl, rfl, rfl⟩
      · rw [if_neg hz, if_neg (by omega), slc_dropl, e]; exact ⟨rfl, rfl, rfl⟩
theorem pmR_shift (l : List UInt8) (t k : Nat) (ht : t ≤ l.length) : (pmR (l.drop t) k).1 = (pmR l (t + k)).1 ∧ t + (pmR (l.drop t) k).2.1 = (pmR l (t + k)).2.1 ∧ (pmR (l.drop t) k).2.2 = (pmR l (t + k)).2.2 := by
  have e := tokE_drop l t k
  have e2 := blkE_drop l t (tokE (l.drop t) k)
  rw [e] at e2
  by_cases hz : tokE l (t + k) = t + k
  · rw [pmR_none _ _ hz, pmR_none _ _ (by omega)]; exact ⟨rfl, rfl, rfl⟩
  · have hz2 : tokE (l.drop t) k ≠ k := by omega
    have hat : atB (l.drop t) (blkE (l.drop t) (tokE (l.drop t) k)) = atB l (blkE l (tokE l (t + k))) := by rw [atB_drop, e2]
    by_cases h61 : atB l (blkE l (tokE l (t + k))) = 61
    · have e3 := blkE_drop l t (blkE (l.drop t) (tokE (l.drop t) k) + 1)
      rw [show t + (blkE (l.drop t) (tokE (l.drop t) k) + 1) = t + blkE (l.drop t) (tokE (l.drop t) k) + 1 from by omega, e2] at e3
      rw [pmR_val _ _ hz h61, pmR_val _ _ hz2 (by rw [hat]; exact h61)]
      have hv := valR_shift l t (blkE (l.drop t) (blkE (l.drop t) (tokE (l.drop t) k) + 1)) ht
      rw [e3] at hv
      dsimp only
      rw [slc_dropl, e, hv.1]
      exact ⟨rfl, hv.2.1, hv.2.2⟩
    · rw [pmR_bare _ _ hz h61, pmR_bare _ _ hz2 (by rw [hat]; exact h61), slc_dropl, e]
      exact ⟨rfl, e2, rfl⟩
theorem parF_shift (l : List UInt8) (t : Nat) (ht : t ≤ l.length) : ∀ (n k : Nat) (acc : List Prm), (parF n (l.drop t) k acc).1 = (parF n l (t + k) acc).1 ∧ (parF n (l.drop t) k acc).2.2 = (parF n l (t + k) acc).2.2 ∧ ((parF n l (t + k) acc).2.2 ≠ 0 → t + (parF n (l.drop t) k acc).2.1 = (parF n l (t + k) acc).2.1) := by
  intro n
  induction n with
  | zero => intro k acc; exact ⟨rfl, rfl, fun h => absurd rfl h⟩
  | succ n ih =>
    intro k acc
    have hl : (l.drop t).length = l.length - t := List.length_drop
    rcases Nat.lt_or_ge (t + k) l.length with hk | hk
    · have hk2 : k < (l.drop t).length := by omega
      have eb := blkE_drop l t (k + 1)
      rw [show t + (k + 1) = t + k + 1 from by omega] at eb
      obtain ⟨p1, p2, p3⟩ := pmR_shift l t (blkE (l.drop t) (k + 1)) ht
      rw [eb] at p1 p2 p3
      by_cases h59 : atB l (t + k) = 59
      · have h59' : atB (l.drop t) k = 59 := by rw [atB_drop]; exact h59
        by_cases h3 : (pmR l (blkE l (t + k + 1))).2.2 = 0
        · by_cases h4 : room acc (pmR l (blkE l (t + k + 1))).1.1 = 0
          · rw [parF_step n l (t + k) acc hk h59 h3 h4, parF_step n (l.drop t) k acc hk2 h59' (by rw [p3]; exact h3) (by rw [p1]; exact h4), p1]
            have e5 := blkE_drop l t (pmR (l.drop t) (blkE (l.drop t) (k + 1))).2.1
            rw [p2] at e5
            rw [← e5]
            exact ih _ _
          · rw [parF_err3 n l (t + k) acc hk h59 h3 h4, parF_err3 n (l.drop t) k acc hk2 h59' (by rw [p3]; exact h3) (by rw [p1]; exact h4), p1]
            exact ⟨rfl, rfl, fun _ => eb⟩
        · rw [parF_err2 n l (t + k) acc hk h59 h3, parF_err2 n (l.drop t) k acc hk2 h59' (by rw [p3]; exact h3)]
          exact ⟨rfl, p3, fun _ => p2⟩
      · rw [parF_err1 n l (t + k) acc hk h59, parF_err1 n (l.drop t) k acc hk2 (by rw [atB_drop]; exact h59)]
        exact ⟨rfl, rfl, fun _ => rfl⟩
    · rw [parF_end n l (t + k) acc hk, parF_end n (l.drop t) k acc (by omega)]
      exact ⟨rfl, rfl, fun h => absurd rfl h⟩
theorem parF_fuel (l : List UInt8) : ∀ (n m k : Nat) (acc : List Prm), l.length - k < n → l.length - k < m → parF n l k acc = parF m l k acc := by
  intro n
  induction n with
  | zero => intro m k acc h; omega
  | succ n ih =>
    intro m k acc h1 h2
    obtain ⟨m, rfl⟩ : ∃ x, m = x + 1 := ⟨m - 1, by omega⟩
    rcases Nat.lt_or_ge k l.length with hk | hk
    · by_cases h59 : atB l k = 59
      · by_cases h3 : (pmR l (blkE l (k + 1))).2.2 = 0
        · by_cases h4 : room acc (pmR l (blkE l (k + 1))).1.1 = 0
          · rw [parF_step n l k acc hk h59 h3 h4, parF_step m l k acc hk h59 h3 h4]
            have hs : (Txt l).size = l.length := txt_size l
            have hb := blkE_bd (Txt l) (k + 1) (by omega)
            rw [txt_list] at hb
            have hp := pm_ok (Txt l) (blkE l (k + 1)) (by omega) (by rw [txt_list]; exact h3)
            rw [txt_list] at hp
            have hb2 := blkE_bd (Txt l) (pmR l (blkE l (k + 1))).2.1 hp.2
            rw [txt_list] at hb2
            exact ih _ _ _ (by omega) (by omega)
          · rw [parF_err3 n l k acc hk h59 h3 h4, parF_err3 m l k acc hk h59 h3 h4]
        · rw [parF_err2 n l k acc hk h59 h3, parF_err2 m l k acc hk h59 h3]
      · rw [parF_err1 n l k acc hk h59, parF_err1 m l k acc hk h59]
    · rw [parF_end n l k acc hk, parF_end m l k acc hk]
/-- A list that begins at an offset, read out of the rest of the text. -/
theorem parR_drop (l : List UInt8) (t : Nat) (ht : t ≤ l.length) : (parR (l.drop t)).1 = (parF (l.length + 1) l (blkE l t) []).1 ∧ (parR (l.drop t)).2.2 = (parF (l.length + 1) l (blkE l t) []).2.2 ∧ ((parF (l.length + 1) l (blkE l t) []).2.2 ≠ 0 → t + (parR (l.drop t)).2.1 = (parF (l.length + 1) l (blkE l t) []).2.1) := by
  have e := blkE_drop l t 0
  rw [Nat.add_zero] at e
  have h := parF_shift l t ht ((l.drop t).length + 1) (blkE (l.drop t) 0) []
  rw [e] at h
  have hge : t ≤ blkE l t := by omega
  rw [parF_fuel l ((l.drop t).length + 1) (l.length + 1) (blkE l t) [] (by rw [List.length_drop]; omega) (by omega)] at h
  exact h
end Ad
end Go.Proofs.YtonbkedjlbhpfaaGreatDoor
