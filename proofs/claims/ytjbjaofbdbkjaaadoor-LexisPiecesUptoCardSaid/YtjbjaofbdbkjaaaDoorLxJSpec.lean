/- Plain facts on lists: how Unfold of a text that is two texts goes together with Unfold of each. No program in them. -/
import Derived.Test.YtjbjaofbdbkjaaaDoorLxRU
namespace Go.Proofs.YtjbjaofbdbkjaaaDoor
namespace Lx

theorem stray_app (n : Nat) : ∀ (A B : List UInt8) (i : Nat), A.length ≤ n → stray A i < i + A.length → stray (A ++ B) i = stray A i := by
  induction n with
  | zero => intro A B i h h2; have : A = [] := List.eq_nil_of_length_eq_zero (by omega); subst this; rw [stray_nil] at h2; simp at h2
  | succ n ih =>
    intro A B i h h2
    cases A with
    | nil => rw [stray_nil] at h2; simp at h2
    | cons c t =>
      rw [List.cons_append]
      simp only [List.length_cons] at h h2
      cases hp : crlf.isPrefixOf (c :: t)
      · have hpB : ∀ (_ : c ≠ 13 ∨ t ≠ []), crlf.isPrefixOf (c :: (t ++ B)) = false := by
          intro hor
          rw [Bool.eq_false_iff]
          intro hh
          obtain ⟨u, hu, hv⟩ := crlf_two _ _ hh
          cases t with
          | nil =>
            rcases hor with h9 | h9
            · exact h9 hu
            · exact h9 rfl
          | cons d u' =>
            rw [List.cons_append] at hv
            injection hv with hv1 hv2
            rw [hu, hv1] at hp
            simp [crlf, List.isPrefixOf] at hp
        cases hc : (ctlI c.toNat && !(c :: t == [13]))
        · rw [stray_next _ _ _ hp hc] at h2 ⊢
          have ht : t ≠ [] := by intro e; subst e; rw [stray_nil] at h2; simp at h2
          have hctl : ctlI c.toNat = false := by
            cases hcc : ctlI c.toNat
            · rfl
            · rw [hcc, Bool.true_and] at hc
              cases t with
              | nil => exact absurd rfl ht
              | cons d u => simp at hc
          rw [stray_next _ _ _ (hpB (.inr ht)) (by rw [hctl]; rfl)]
          exact ih t B (i + 1) (by omega) (by omega)
        · rw [stray_bad _ _ _ hp hc]
          have hor : c ≠ 13 ∨ t ≠ [] := by
            by_cases h9 : c = 13
            · right; intro e; subst e; subst h9; simp at hc
            · exact .inl h9
          rw [Bool.and_eq_true] at hc
          rw [stray_bad _ _ _ (hpB hor) ?_]
          rw [hc.1, Bool.true_and, Bool.not_eq_true', Bool.eq_false_iff]
          intro h9
          have h10 := beq_iff_eq.1 h9
          injection h10 with h11 h12
          rcases hor with h13 | h13
          · exact h13 h11
          · exact h13 (List.append_eq_nil_iff.1 h12).1
      · obtain ⟨u, rfl, rfl⟩ := crlf_two _ _ hp
        rw [stray_crlf _ _ _ hp] at h2 ⊢
        rw [stray_crlf _ _ _ (by rfl)]
        simp only [List.cons_append, List.drop_succ_cons, List.drop_zero, List.length_cons] at h2 h ⊢
        exact ih u B (i + 2) (by omega) (by omega)
def Whole (A : List UInt8) : Prop := A = [] ∨ Lib.hasSuffix A crlf = true
theorem whole_behind (a u : List UInt8) (h : Whole (a ++ [13, 10] ++ u)) : Whole u := by
  by_cases hu : u = []
  · exact .inl hu
  · rcases h with h | h
    · simp at h
    · rw [suf_drop a u hu] at h; exact .inr h
theorem whole_tail (c : UInt8) (t : List UInt8) (h : Whole (c :: t)) (hp : crlf.isPrefixOf (c :: t) = false) : t ≠ [] ∧ Whole t := by
  rcases h with h | h
  · cases h
  · unfold Lib.hasSuffix at h
    rw [List.isSuffixOf_iff_suffix, List.suffix_cons_iff] at h
    rcases h with h | h
    · rw [← h] at hp; simp [crlf, List.isPrefixOf] at hp
    · refine ⟨?_, .inr ?_⟩
      · intro e; subst e
        have := h.length_le
        simp [crlf] at this
      · unfold Lib.hasSuffix; rw [List.isSuffixOf_iff_suffix]; exact h
theorem stray_all (n : Nat) : ∀ (A B : List UInt8) (i : Nat), A.length ≤ n → Whole A → stray A i = i + A.length → stray (A ++ B) i = stray B (i + A.length) := by
  induction n with
  | zero => intro A B i h _ _; have : A = [] := List.eq_nil_of_length_eq_zero (by omega); subst this; simp
  | succ n ih =>
    intro A B i h hw h2
    cases A with
    | nil => simp
    | cons c t =>
      rw [List.cons_append]
      simp only [List.length_cons] at h h2 ⊢
      cases hp : crlf.isPrefixOf (c :: t)
      · obtain ⟨ht, hwt⟩ := whole_tail c t hw hp
        have hpB : crlf.isPrefixOf (c :: (t ++ B)) = false := by
          rw [Bool.eq_false_iff]
          intro hh
          obtain ⟨u, hu, hv⟩ := crlf_two _ _ hh
          cases t with
          | nil => exact ht rfl
          | cons d u' =>
            rw [List.cons_append] at hv
            injection hv with hv1 hv2
            rw [hu, hv1] at hp
            simp [crlf, List.isPrefixOf] at hp
        cases hc : (ctlI c.toNat && !(c :: t == [13]))
        · rw [stray_next _ _ _ hp hc] at h2
          have hctl : ctlI c.toNat = false := by
            cases hcc : ctlI c.toNat
            · rfl
            · rw [hcc, Bool.true_and] at hc
              cases t with
              | nil => exact absurd rfl ht
              | cons d u => simp at hc
          rw [stray_next _ _ _ hpB (by rw [hctl]; rfl), ih t B (i + 1) (by omega) hwt (by omega)]
          congr 1; omega
        · rw [stray_bad _ _ _ hp hc] at h2; omega
      · obtain ⟨u, rfl, rfl⟩ := crlf_two _ _ hp
        rw [stray_crlf _ _ _ hp] at h2
        rw [stray_crlf _ _ _ (by rfl)]
        simp only [List.cons_append, List.drop_succ_cons, List.drop_zero, List.length_cons] at h2 h ⊢
        rw [ih u B (i + 2) (by omega) (whole_behind [] u hw) (by omega)]
        congr 1; omega
theorem stray_shift (n : Nat) : ∀ (l : List UInt8) (i k : Nat), l.length ≤ n → stray l (i + k) = stray l i + k := by
  induction n with
  | zero => intro l i k h; have : l = [] := List.eq_nil_of_length_eq_zero (by omega); subst this; rw [stray_nil, stray_nil]
  | succ n ih =>
    intro l i k h
    cases l with
    | nil => rw [stray_nil, stray_nil]
    | cons c t =>
      simp only [List.length_cons] at h
      cases hp : crlf.isPrefixOf (c :: t)
      · cases hc : (ctlI c.toNat && !(c :: t == [13]))
        · rw [stray_next _ _ _ hp hc, stray_next _ _ _ hp hc, ← ih t (i + 1) k (by omega)]; congr 1; omega
        · rw [stray_bad _ _ _ hp hc, stray_bad _ _ _ hp hc]
      · rw [stray_crlf _ _ _ hp, stray_crlf _ _ _ hp, ← ih (t.drop 1) (i + 2) k (by simp; omega)]; congr 1; omega

/-! ### The physical lines of both -/
theorem index_app (B : List UInt8) : ∀ (A : List UInt8), 0 ≤ Lib.index A crlf → Lib.index (A ++ B) crlf = Lib.index A crlf := by
  intro A
  induction A with
  | nil => intro h; rw [index_nil] at h; omega
  | cons c t ih =>
    intro h
    rw [List.cons_append, index_cons, index_cons] at *
    cases hp : crlf.isPrefixOf (c :: t)
    · rw [hp] at h
      simp only [Bool.false_eq_true, if_false] at h ⊢
      have ht : 0 ≤ Lib.index t crlf := by
        by_cases h2 : Lib.index t crlf = -1
        · rw [if_pos (by rw [beq_iff_eq]; exact h2)] at h; omega
        · have := Lib.index_ge t crlf; omega
      have hpB : crlf.isPrefixOf (c :: (t ++ B)) = false := by
        rw [Bool.eq_false_iff]
        intro hh
        obtain ⟨u, hu, hv⟩ := crlf_two _ _ hh
        cases t with
        | nil => rw [index_nil] at ht; omega
        | cons d u' =>
          rw [List.cons_append] at hv
          injection hv with hv1 hv2
          rw [hu, hv1] at hp
          simp [crlf, List.isPrefixOf] at hp
      rw [hpB, ih ht]
      simp
    · obtain ⟨u, rfl, rfl⟩ := crlf_two _ _ hp
      simp [crlf, List.isPrefixOf]
theorem index_spec : ∀ (l : List UInt8) (n : Nat), Lib.index l crlf = n → n + 2 ≤ l.length ∧ ∃ u, l.drop n = 13 :: 10 :: u := by
  intro l
  induction l with
  | nil => intro n h; rw [index_nil] at h; omega
  | cons c t ih =>
    intro n h
    rw [index_cons] at h
    cases hp : crlf.isPrefixOf (c :: t)
    · rw [hp] at h
      simp only [Bool.false_eq_true, if_false] at h
      by_cases h2 : Lib.index t crlf = -1
      · rw [if_pos (by rw [beq_iff_eq]; exact h2)] at h; omega
      · rw [if_neg (by rw [beq_iff_eq]; exact h2)] at h
        have := Lib.index_ge t crlf
        obtain ⟨m, rfl⟩ : ∃ m, n = m + 1 := ⟨n - 1, by omega⟩
        obtain ⟨h3, u, h4⟩ := ih m (by omega)
        exact ⟨by simp; omega, u, by simpa using h4⟩
    · rw [hp] at h
      obtain ⟨u, rfl, rfl⟩ := crlf_two _ _ hp
      simp at h
      obtain rfl : n = 0 := by omega
      exact ⟨by simp, u, rfl⟩
theorem physL_app (n : Nat) : ∀ (A B : List UInt8) (i : Nat), A.length ≤ n → Whole A → physL (A ++ B) i = physL A i ++ physL B (i + A.length) := by
  induction n with
  | zero => intro A B i h _; have : A = [] := List.eq_nil_of_length_eq_zero (by omega); subst this; simp [physL_nil]
  | succ n ih =>
    intro A B i h hw
    by_cases hA : A = []
    · subst hA; simp [physL_nil]
    · have hx : 0 ≤ Lib.index A crlf := by
        have := Lib.index_ge A crlf
        by_cases h2 : Lib.index A crlf = -1
        · rcases hw with h3 | h3
          · exact absurd h3 hA
          · rw [suf_none A h2] at h3; cases h3
        · omega
      obtain ⟨m, hm⟩ : ∃ m : Nat, Lib.index A crlf = m := ⟨(Lib.index A crlf).toNat, by omega⟩
      obtain ⟨h3, u, h4⟩ := index_spec A m hm
      have hcA : (Lib.cut A crlf).1 = A.take m := by unfold Lib.cut; rw [if_pos hx, hm]; rfl
      have hcB : (Lib.cut (A ++ B) crlf).1 = A.take m := by
        unfold Lib.cut; rw [index_app B A hx, if_pos hx, hm]
        show (A ++ B).take m = _
        rw [List.take_append_of_le_length (by omega)]
      have hlen : (A.take m).length = m := by simp; omega
      have hAe : A = A.take m ++ [13, 10] ++ A.drop (m + 2) := by
        have h5 : A.drop (m + 2) = u := by rw [← List.drop_drop, h4]; rfl
        have h6 : A = A.take m ++ A.drop m := (List.take_append_drop m A).symm
        rw [h5]
        rw [h4] at h6
        simpa using h6
      have hw2 : Whole (A.drop (m + 2)) := whole_behind (A.take m) _ (by rw [← hAe]; exact hw)
      rw [physL_cons (A ++ B) i (by simp [hA]), physL_cons A i hA, hcA, hcB, hlen, List.drop_append_of_le_length (by omega), ih (A.drop (m + 2)) B _ (by simp; omega) hw2]
      simp only [List.length_drop, List.cons_append]
      congr 3
      omega
def shp (k : Nat) (x : Nat × List UInt8) : Nat × List UInt8 := (x.1 + k, x.2)
theorem physL_shift (n : Nat) : ∀ (l : List UInt8) (i k : Nat), l.length ≤ n → physL l (i + k) = (physL l i).map (shp k) := by
  induction n with
  | zero => intro l i k h; have : l = [] := List.eq_nil_of_length_eq_zero (by omega); subst this; simp [physL_nil]
  | succ n ih =>
    intro l i k h
    by_cases hl : l = []
    · subst hl; simp [physL_nil]
    · have := List.length_pos_iff.2 hl
      rw [physL_cons l _ hl, physL_cons l i hl, List.map_cons, ← ih _ _ k (by simp; omega)]
      congr 2; omega
theorem physL_fresh (l : List UInt8) (i : Nat) (h : firstBlank l = false) : physL l i = [] ∨ ∃ p ps, physL l i = (i, p) :: ps ∧ fresh p = true := by
  by_cases hl : l = []
  · left; rw [hl, physL_nil]
  · right
    rw [physL_cons l i hl]
    refine ⟨_, _, rfl, ?_⟩
    cases l with
    | nil => exact absurd rfl hl
    | cons c t =>
      have hb : blankI c.toNat = false := h
      unfold Lib.cut
      split
      · dsimp only
        cases (Lib.index (c :: t) crlf).toNat with
        | zero => rfl
        | succ m => simp [fresh, hb]
      · simp [fresh, hb]

/-! ### The lines of both -/
theorem setLast_app (P ls : List (Nat × List UInt8)) (tx : List UInt8) (h : ls ≠ []) : setLast (P ++ ls) tx = P ++ setLast ls tx := by
  obtain ⟨a, q, rfl, _⟩ := last_split ls (ls.length - 1) (by have := List.length_pos_iff.2 h; omega)
  rw [← List.append_assoc, setLast_snoc, setLast_snoc, List.append_assoc]
def pre (P : List (Nat × List UInt8)) (S : USt) : USt := ⟨P ++ S.ls, S.tx⟩
theorem endL_pre (P : List (Nat × List UInt8)) (S : USt) (h : S.ls ≠ []) : endL (pre P S) = pre P (endL S) := by
  rw [endL_cons S h, endL_cons (pre P S) (by simp [pre, h])]
  simp only [pre]
  rw [setLast_app P S.ls S.tx h]
theorem stepU_pre (P : List (Nat × List UInt8)) (S : USt) (x : Nat × List UInt8) (h : S.ls ≠ []) : stepU (pre P S) x = pre P (stepU S x) ∧ (stepU S x).ls ≠ [] := by
  cases hf : fresh x.2
  · have h1 : addL S x = S := by simp [addL, hf]
    have h2 : addL (pre P S) x = pre P S := by simp [addL, hf]
    unfold stepU
    rw [h1, h2]
    exact ⟨rfl, h⟩
  · have h1 : addL S x = ⟨(endL S).ls ++ [(x.1, [])], (endL S).tx⟩ := by simp [addL, hf]
    have h2 : addL (pre P S) x = ⟨(endL (pre P S)).ls ++ [(x.1, [])], (endL (pre P S)).tx⟩ := by simp [addL, hf]
    unfold stepU
    rw [h1, h2, endL_pre P S h]
    exact ⟨by simp [pre], by simp⟩
theorem foldl_pre (P : List (Nat × List UInt8)) : ∀ (ys : List (Nat × List UInt8)) (S : USt), S.ls ≠ [] → ys.foldl stepU (pre P S) = pre P (ys.foldl stepU S) ∧ (ys.foldl stepU S).ls ≠ [] := by
  intro ys
  induction ys with
  | nil => intro S h; exact ⟨rfl, h⟩
  | cons y ys ih =>
    intro S h
    rw [List.foldl_cons, List.foldl_cons, (stepU_pre P S y h).1]
    exact ih _ (stepU_pre P S y h).2
theorem fold_join (S : USt) (ys : List (Nat × List UInt8)) (hS : S.ls = [] → S.tx = []) (hy : ys = [] ∨ ∃ i p ps, ys = (i, p) :: ps ∧ fresh p = true) :
    (endL (ys.foldl stepU S)).ls = (endL S).ls ++ (endL (foldU ys)).ls := by
  rcases hy with rfl | ⟨i, p, ps, rfl, hf⟩
  · show (endL S).ls = (endL S).ls ++ (endL ⟨[], []⟩).ls
    rw [endL_nil ⟨[], []⟩ rfl]; simp
  · have hst : stepU S (i, p) = pre (endL S).ls ⟨[(i, [])], Lib.trimS p blk⟩ := by
      have ha : addL S (i, p) = ⟨(endL S).ls ++ [(i, [])], (endL S).tx⟩ := by simp [addL, hf]
      unfold stepU; rw [ha]; dsimp only; rw [endL_tx S hS, join_nil]; rfl
    have hs0 : stepU ⟨[], []⟩ (i, p) = ⟨[(i, [])], Lib.trimS p blk⟩ := by
      have ha : addL ⟨[], []⟩ (i, p) = ⟨[(i, [])], []⟩ := by simp [addL, hf, endL]
      unfold stepU; rw [ha]; dsimp only; rw [join_nil]
    unfold foldU
    rw [List.foldl_cons, List.foldl_cons, hst, hs0]
    have h := foldl_pre (endL S).ls ps ⟨[(i, [])], Lib.trimS p blk⟩ (by simp)
    rw [h.1, endL_pre _ _ h.2]
    rfl
def shS (k : Nat) (S : USt) : USt := ⟨S.ls.map (shp k), S.tx⟩
theorem endL_sh (k : Nat) (S : USt) : endL (shS k S) = shS k (endL S) := by
  by_cases h : S.ls = []
  · rw [endL_nil S h, endL_nil (shS k S) (by simp [shS, h])]
  · rw [endL_cons S h, endL_cons (shS k S) (by simp [shS, h])]
    obtain ⟨a, q, ha, _⟩ := last_split S.ls (S.ls.length - 1) (by have := List.length_pos_iff.2 h; omega)
    simp only [shS]
    rw [ha, List.map_append, List.map_cons, List.map_nil, setLast_snoc, setLast_snoc, List.map_append]
    rfl
theorem stepU_sh (k : Nat) (S : USt) (x : Nat × List UInt8) : stepU (shS k S) (shp k x) = shS k (stepU S x) := by
  cases hf : fresh x.2
  · have h1 : addL S x = S := by simp [addL, hf]
    have h2 : addL (shS k S) (shp k x) = shS k S := by simp [addL, shp, hf]
    unfold stepU
    rw [h1, h2]
    rfl
  · have h1 : addL S x = ⟨(endL S).ls ++ [(x.1, [])], (endL S).tx⟩ := by simp [addL, hf]
    have h2 : addL (shS k S) (shp k x) = ⟨(endL (shS k S)).ls ++ [((shp k x).1, [])], (endL (shS k S)).tx⟩ := by simp [addL, shp, hf]
    unfold stepU
    rw [h1, h2, endL_sh]
    simp [shS, shp]
theorem foldl_sh (k : Nat) : ∀ (ys : List (Nat × List UInt8)) (S : USt), (ys.map (shp k)).foldl stepU (shS k S) = shS k (ys.foldl stepU S) := by
  intro ys
  induction ys with
  | nil => intro S; rfl
  | cons y ys ih => intro S; rw [List.map_cons, List.foldl_cons, List.foldl_cons, stepU_sh, ih]
theorem foldU_sh (k : Nat) (ys : List (Nat × List UInt8)) : foldU (ys.map (shp k)) = shS k (foldU ys) := foldl_sh k ys ⟨[], []⟩
theorem foldU_inv : ∀ (ys : List (Nat × List UInt8)), (ys = [] ∨ ∃ i p ps, ys = (i, p) :: ps ∧ fresh p = true) → (foldU ys).ls = [] → (foldU ys).tx = [] := by
  rintro ys (rfl | ⟨i, p, ps, rfl, hf⟩) h
  · rfl
  · exfalso
    have ha : addL ⟨[], []⟩ (i, p) = ⟨[(i, [])], []⟩ := by simp [addL, hf, endL]
    have hs0 : (stepU ⟨[], []⟩ (i, p)).ls ≠ [] := by unfold stepU; rw [ha]; simp
    exact (foldl_pre [] ps _ hs0).2 h

/-! ### Unfold of both -/
theorem stray_top (l : List UInt8) : stray l 0 ≤ l.length := by have := stray_le l.length l 0 (Nat.le_refl _); omega
theorem unfE_zero (A : List UInt8) (h : unfE A = 0) : firstBlank A = false ∧ stray A 0 = A.length ∧ Whole A := by
  have hle := stray_top A
  unfold unfE at h
  split at h
  · omega
  · rename_i h1
    split at h
    · omega
    · rename_i h2
      split at h
      · omega
      · rename_i h3
        refine ⟨by simpa using h1, by omega, ?_⟩
        rw [Bool.not_eq_true, Bool.and_eq_false_iff] at h3
        rcases h3 with h3 | h3
        · left; cases A with
          | nil => rfl
          | cons c t => simp at h3
        · right; simpa using h3
theorem first_app (A B : List UInt8) (hA : firstBlank A = false) (hB : firstBlank B = false) : firstBlank (A ++ B) = false := by
  cases A with
  | nil => exact hB
  | cons c t => exact hA
theorem suf_app (A B : List UInt8) (hw : Whole A) (hB : B ≠ []) : Lib.hasSuffix (A ++ B) crlf = Lib.hasSuffix B crlf := by
  rcases hw with rfl | h
  · rfl
  · unfold Lib.hasSuffix at h
    rw [List.isSuffixOf_iff_suffix] at h
    obtain ⟨a, rfl⟩ := h
    exact suf_drop a B hB
theorem unf_syn (A B : List UInt8) (h : unfE A = 5) : unfE (A ++ B) = 5 ∧ unfAt (A ++ B) = unfAt A := by
  cases hf : firstBlank A
  · have hst : stray A 0 < A.length := by
      rcases Nat.lt_or_ge (stray A 0) A.length with h2 | h2
      · exact h2
      · unfold unfE at h
        rw [hf] at h
        simp only [Bool.false_eq_true, if_false] at h
        rw [if_neg (by omega)] at h
        split at h <;> omega
    have ha := stray_app A.length A B 0 (Nat.le_refl _) (by omega)
    have hfa : firstBlank (A ++ B) = false := by
      cases A with
      | nil => simp at hst
      | cons c t => exact hf
    have hl : stray (A ++ B) 0 < (A ++ B).length := by rw [ha, List.length_append]; omega
    refine ⟨?_, ?_⟩
    · unfold unfE; rw [hfa]; simp only [Bool.false_eq_true, if_false]; rw [if_pos hl]
    · unfold unfAt; rw [hfa, hf]; simp only [Bool.false_eq_true, if_false]; rw [if_pos hl, if_pos hst, ha]
  · have hfa : firstBlank (A ++ B) = true := by
      cases A with
      | nil => cases hf
      | cons c t => exact hf
    exact ⟨by unfold unfE; rw [hfa]; rfl, by unfold unfAt; rw [hfa, hf]; rfl⟩
theorem stray_both (A B : List UInt8) (hw : Whole A) (hs : stray A 0 = A.length) : stray (A ++ B) 0 = A.length + stray B 0 := by
  rw [stray_all A.length A B 0 (Nat.le_refl _) hw (by omega), stray_shift B.length B 0 A.length (Nat.le_refl _)]; omega
theorem unf_err (A B : List UInt8) (h : unfE A = 0) (hb : firstBlank B = false) (h2 : unfE B ≠ 0) : unfE (A ++ B) = unfE B ∧ unfAt (A ++ B) = A.length + unfAt B ∧ unfL (A ++ B) = [] := by
  obtain ⟨hf, hs, hw⟩ := unfE_zero A h
  have hst := stray_both A B hw hs
  have hfa := first_app A B hf hb
  have hle := stray_top B
  by_cases h3 : stray B 0 < B.length
  · have h4 : stray (A ++ B) 0 < (A ++ B).length := by rw [hst, List.length_append]; omega
    refine ⟨?_, ?_, ?_⟩
    · unfold unfE; rw [hfa, hb]; simp only [Bool.false_eq_true, if_false]; rw [if_pos h4, if_pos h3]
    · unfold unfAt; rw [hfa, hb]; simp only [Bool.false_eq_true, if_false]; rw [if_pos h4, if_pos h3, hst]
    · unfold unfL; rw [if_pos (by rw [decide_eq_true h4]; simp)]
  · have h4 : ¬ stray (A ++ B) 0 < (A ++ B).length := by rw [hst, List.length_append]; omega
    have h5 : (!B.isEmpty && !Lib.hasSuffix B crlf) = true := by
      cases h6 : (!B.isEmpty && !Lib.hasSuffix B crlf)
      · exfalso; apply h2
        unfold unfE; rw [hb]; simp only [Bool.false_eq_true, if_false]; rw [if_neg h3, h6]; rfl
      · rfl
    rw [Bool.and_eq_true] at h5
    have hBne : B ≠ [] := by intro e; subst e; simp at h5
    have h7 : (!(A ++ B).isEmpty && !Lib.hasSuffix (A ++ B) crlf) = true := by
      rw [suf_app A B hw hBne, h5.2, Bool.and_true]
      cases hAB : A ++ B with
      | nil => exact absurd (List.append_eq_nil_iff.1 hAB).2 hBne
      | cons c t => rfl
    have h8 : (!B.isEmpty && !Lib.hasSuffix B crlf) = true := by rw [Bool.and_eq_true]; exact h5
    refine ⟨?_, ?_, ?_⟩
    · unfold unfE; rw [hfa, hb]; simp only [Bool.false_eq_true, if_false]; rw [if_neg h4, if_neg h3, h7, h8]
    · unfold unfAt; rw [hfa, hb]; simp only [Bool.false_eq_true, if_false]; rw [if_neg h4, if_neg h3, h7, h8]; simp
    · unfold unfL; rw [h7]; simp
theorem unf_both (A B : List UInt8) (h : unfE A = 0) (hb : firstBlank B = false) (h2 : unfE B = 0) : unfE (A ++ B) = 0 ∧ unfAt (A ++ B) = 0 ∧ unfL (A ++ B) = unfL A ++ (unfL B).map (shp A.length) := by
  obtain ⟨hf, hs, hw⟩ := unfE_zero A h
  obtain ⟨_, hs2, hw2⟩ := unfE_zero B h2
  have hst := stray_both A B hw hs
  have hfa := first_app A B hf hb
  have wh : ∀ l, Whole l → (!l.isEmpty && !Lib.hasSuffix l crlf) = false := by
    rintro l (rfl | h9)
    · rfl
    · rw [h9]; simp
  have hwab : Whole (A ++ B) := by
    by_cases hB : B = []
    · subst hB; simpa using hw
    · rcases hw2 with h9 | h9
      · exact absurd h9 hB
      · exact .inr (by rw [suf_app A B hw hB]; exact h9)
  obtain ⟨u1, u2, u3⟩ := unf_ok (A ++ B) hfa (by rw [hst, hs2, List.length_append]) (wh _ hwab)
  obtain ⟨a1, _, _⟩ := unf_ok A hf hs (wh _ hw)
  obtain ⟨b1, _, _⟩ := unf_ok B hb hs2 (wh _ hw2)
  refine ⟨u3, u2, ?_⟩
  rw [u1, a1, b1, physL_app A.length A B 0 (Nat.le_refl _) hw]
  have e1 : foldU (physL A 0 ++ physL B (0 + A.length)) = (physL B (0 + A.length)).foldl stepU (foldU (physL A 0)) := by unfold foldU; rw [List.foldl_append]
  rw [e1, fold_join _ _ (foldU_inv _ ?_) ?_, physL_shift B.length B 0 A.length (Nat.le_refl _), foldU_sh, endL_sh]
  · rfl
  · rcases physL_fresh A 0 hf with h9 | ⟨p, ps, h9, h10⟩
    · exact .inl h9
    · exact .inr ⟨_, p, ps, h9, h10⟩
  · rcases physL_fresh B (0 + A.length) hb with h9 | ⟨p, ps, h9, h10⟩
    · exact .inl h9
    · exact .inr ⟨_, p, ps, h9, h10⟩
end Lx
end Go.Proofs.YtjbjaofbdbkjaaaDoor
