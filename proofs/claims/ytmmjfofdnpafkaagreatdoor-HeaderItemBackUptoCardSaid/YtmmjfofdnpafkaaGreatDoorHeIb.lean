/- What PrintItem writes is read by Item as the value and the sorted parameters. No program but that of the imports. -/
import Derived.Test.YtmmjfofdnpafkaaGreatDoorHePi
import Derived.Test.YtmmjfofdnpafkaaGreatDoorHeTa
namespace Go.Proofs.YtmmjfofdnpafkaaGreatDoor
namespace Ad
open Go.RowKit Lx

theorem itm_split (v : List UInt8) (h : itmB v = true) : tokB v = true ∨ ∃ a b, v = a ++ 47 :: b ∧ tokB a = true ∧ tokB b = true := by
  unfold itmB at h
  obtain ⟨e, he⟩ : ∃ e, endP (isC 47) v 0 = e := ⟨_, rfl⟩
  unfold cutS at h
  rw [he] at h
  by_cases hl : e < v.length
  · rw [if_pos hl] at h
    simp only [Bool.not_true, Bool.false_or, Bool.and_eq_true] at h
    have h47 : atB v e = 47 := by
      have h9 := endP_at (isC 47) v 0 (by rw [he]; exact hl)
      rw [he] at h9
      unfold isC at h9
      exact beq_iff_eq.1 h9
    have hc : v[e] = 47 := by
      unfold atB at h47
      rw [List.getElem?_eq_getElem hl] at h47
      exact UInt8.toNat_inj.1 (show v[e].toNat = (47 : UInt8).toNat from Int.ofNat.inj h47)
    refine .inr ⟨v.take e, v.drop (e + 1), ?_, h.1, h.2⟩
    rw [← hc, ← List.drop_eq_getElem_cons hl, List.take_append_drop]
  · rw [if_neg hl] at h
    simp only [Bool.not_false, Bool.true_or, Bool.and_true] at h
    exact .inl h
theorem s59_47 (p : List UInt8) (hp : Starts (· == 59) p) (v : List UInt8) : atB (v ++ p) v.length ≠ 47 := by
  rcases hp with rfl | ⟨c, t, rfl, hc⟩
  · unfold atB
    rw [List.append_nil, List.getElem?_eq_none (Nat.le_refl _)]
    decide
  · rw [beq_iff_eq] at hc
    rw [atB_app, hc]
    decide
theorem itE_print (v p : List UInt8) (h : itmB v = true) (hp : Starts (· == 59) p) : itE (v ++ p) = v.length := by
  rcases itm_split v h with h | ⟨a, b, rfl, ha, hb⟩
  · have h1 := tokE_app [] v p ((tokB_iff v).1 h).2 (s59_tok p hp)
    rw [List.nil_append, List.length_nil, Nat.zero_add] at h1
    unfold itE
    rw [h1, if_neg (s59_47 p hp v)]
  · have h1 := tokE_app [] a (47 :: (b ++ p)) ((tokB_iff a).1 ha).2 (.inr ⟨47, _, rfl, by decide⟩)
    rw [List.nil_append, List.length_nil, Nat.zero_add] at h1
    have h2 := tokE_app (a ++ [47]) b p ((tokB_iff b).1 hb).2 (s59_tok p hp)
    have e1 : a ++ 47 :: b ++ p = a ++ 47 :: (b ++ p) := by simp
    have e2 : a ++ [47] ++ (b ++ p) = a ++ 47 :: (b ++ p) := by simp
    have e3 : (a ++ [47]).length = a.length + 1 := by simp
    rw [e2, e3] at h2
    have h3 : atB (a ++ 47 :: (b ++ p)) a.length = 47 := by rw [atB_app]; rfl
    unfold itE
    rw [e1, h1, if_pos h3, h2]
    simp; omega
theorem itm_ends (v : List UInt8) (h : itmB v = true) : NEnd v ∧ ∃ c m, v = c :: m ∧ bb c = false := by
  have key : ∀ a : List UInt8, tokB a = true → ∃ c m, a = c :: m ∧ bb c = false := by
    intro a ha
    obtain ⟨h1, h2⟩ := (tokB_iff a).1 ha
    cases a with
    | nil => exact absurd rfl h1
    | cons c m => exact ⟨c, m, rfl, tok_blank _ (h2 c (by simp))⟩
  rcases itm_split v h with h | ⟨a, b, rfl, ha, hb⟩
  · exact ⟨tok_end v h, key v h⟩
  · obtain ⟨c, m, rfl, hc⟩ := key a ha
    exact ⟨((tok_end b hb).pre [47]).pre (c :: m), c, m ++ 47 :: b, rfl, hc⟩
theorem itm_back (v : List UInt8) (l : List Prm) (t : List UInt8) (h : pitO v l = some t) : itmR t = ((v, srt l), 0) := by
  unfold pitO at h
  cases hp : ppO (srt l) with
  | none => rw [hp] at h; cases h
  | some p =>
    rw [hp] at h
    dsimp only at h
    split at h
    · rename_i hi
      injection h with h
      have hs := ppF_starts (srt l) [] p hp
      obtain ⟨he, c, m, hv, hc⟩ := itm_ends v hi
      have hT : trS t = t := by
        have hn : NEnd t := by
          rw [← h]
          rcases ppO_end _ _ hp with rfl | hn
          · rw [List.append_nil]; exact he
          · exact hn.pre v
        obtain ⟨n, d, h2, hd⟩ := hn
        exact trS_self t (m ++ p) n c d (by rw [← h, hv]; rfl) h2 hc hd
      have hE := itE_print v p hi hs
      have hR := parR_print (srt l) p hp
      unfold itmR
      rw [hT, ← h]
      unfold itT
      rw [hE, List.take_left', List.drop_left', hi, hR] <;> rfl
    · cases h
end Ad
end Go.Proofs.YtmmjfofdnpafkaaGreatDoor
