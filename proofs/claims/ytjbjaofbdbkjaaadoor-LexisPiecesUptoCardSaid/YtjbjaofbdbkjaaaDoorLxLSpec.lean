/- Plain facts: Unfold of what Fold prints is the line. No program in them. -/
import Derived.Test.YtjbjaofbdbkjaaaDoorLxJSpec
import Derived.Test.YtjbjaofbdbkjaaaDoorLxF
import Derived.Test.YtjbjaofbdbkjaaaDoorLxRUW
namespace Go.Proofs.YtjbjaofbdbkjaaaDoor
namespace Lx

/-! ### Where a line is broken -/
theorem brkF_ok (s : ByteArray) (w : Int) (n : Nat) : ∀ (i best : Nat), s.size - i ≤ n → brkF s w i best = best ∨ (brkAt s (brkF s w i best) = true ∧ i ≤ brkF s w i best ∧ brkF s w i best + 1 < s.size) := by
  induction n with
  | zero => intro i best h; left; exact brkF_end _ _ _ _ (by omega)
  | succ n ih =>
    intro i best h
    by_cases h3 : i + 1 < s.size
    · rw [brkF_next _ _ _ _ h3]
      by_cases hc : (brkAt s i && (decide ((i : Int) ≤ w) || best == 0)) = true
      · rw [if_pos hc]
        rw [Bool.and_eq_true] at hc
        rcases ih (i + 1) i (by omega) with h4 | ⟨h4, h5, h6⟩
        · right; rw [h4]; exact ⟨hc.1, Nat.le_refl _, h3⟩
        · right; exact ⟨h4, by omega, h6⟩
      · rw [if_neg hc]
        rcases ih (i + 1) best (by omega) with h4 | ⟨h4, h5, h6⟩
        · left; exact h4
        · right; exact ⟨h4, by omega, h6⟩
    · left; exact brkF_end _ _ _ _ h3
theorem brkF_late (s : ByteArray) (w : Int) (n : Nat) : ∀ (i best : Nat), s.size - i ≤ n → 1 ≤ i → best ≠ 0 → brkF s w i best = best ∨ (brkF s w i best ≠ 0 ∧ (brkF s w i best : Int) ≤ w) := by
  induction n with
  | zero => intro i best h _ _; left; exact brkF_end _ _ _ _ (by omega)
  | succ n ih =>
    intro i best h h1 hb
    by_cases h3 : i + 1 < s.size
    · rw [brkF_next _ _ _ _ h3]
      by_cases hc : (brkAt s i && (decide ((i : Int) ≤ w) || best == 0)) = true
      · rw [if_pos hc]
        have hi : (i : Int) ≤ w := by
          rw [Bool.and_eq_true, Bool.or_eq_true] at hc
          rcases hc.2 with h9 | h9
          · simpa using h9
          · simp at h9; omega
        rcases ih (i + 1) i (by omega) (by omega) (by omega) with h4 | ⟨h4, h5⟩
        · right; rw [h4]; exact ⟨by omega, hi⟩
        · right; exact ⟨h4, h5⟩
      · rw [if_neg hc]
        exact ih (i + 1) best (by omega) (by omega) hb
    · left; exact brkF_end _ _ _ _ h3
/-- Where the break is later than width, or where there is none, no earlier one is passed over. -/
theorem brkF_first (s : ByteArray) (w : Int) (n : Nat) : ∀ (i : Nat), s.size - i ≤ n → 1 ≤ i → (brkF s w i 0 = 0 ∨ w < (brkF s w i 0 : Int)) →
    ∀ j, i ≤ j → j + 1 < s.size → (brkF s w i 0 ≠ 0 → j < brkF s w i 0) → brkAt s j = false := by
  induction n with
  | zero => intro i h _ _ j h1 h2 _; omega
  | succ n ih =>
    intro i h hi hk j hj hj2 hlt
    have h3 : i + 1 < s.size := by omega
    rw [brkF_next _ _ _ _ h3] at hk hlt
    cases hb : brkAt s i
    · rw [hb] at hk hlt
      simp only [Bool.false_and, Bool.false_eq_true, if_false] at hk hlt
      rcases Nat.eq_or_lt_of_le hj with h4 | h4
      · rw [← h4]; exact hb
      · exact ih (i + 1) (by omega) (by omega) hk j (by omega) hj2 hlt
    · rw [hb] at hk hlt
      simp only [beq_self_eq_true, Bool.or_true, Bool.and_self, if_true] at hk hlt
      rcases brkF_late s w _ (i + 1) i (Nat.le_refl _) (by omega) (by omega) with h4 | ⟨h4, h5⟩
      · rw [h4] at hlt
        have := hlt (by omega)
        omega
      · rcases hk with h6 | h6
        · exact absurd h6 h4
        · omega

/-! ### Lines without control characters -/
def NoC (l : List UInt8) : Prop := ∀ c ∈ l, ctlI c.toNat = false
theorem hasCtl_no (l : List UInt8) (h : hasCtl l = false) : NoC l := by
  intro c hc
  unfold hasCtl at h
  rw [List.any_eq_false] at h
  have := h c hc
  simpa using this
theorem NoC.not13 {c : UInt8} {l : List UInt8} (h : NoC (c :: l)) : c ≠ 13 := by
  intro e
  have := h c (by simp)
  rw [e] at this
  revert this; decide
theorem NoC.tail {c : UInt8} {l : List UInt8} (h : NoC (c :: l)) : NoC l := fun d hd => h d (by simp [hd])
theorem pre_not13 (c : UInt8) (t : List UInt8) (h : c ≠ 13) : crlf.isPrefixOf (c :: t) = false := by
  rw [Bool.eq_false_iff]
  intro hh
  obtain ⟨u, hu, _⟩ := crlf_two _ _ hh
  exact h hu
theorem stray_line : ∀ (x R : List UInt8) (i : Nat), NoC x → stray (x ++ crlf ++ R) i = stray R (i + x.length + 2) := by
  intro x
  induction x with
  | nil =>
    intro R i _
    rw [List.nil_append]
    show stray (13 :: 10 :: R) i = _
    rw [stray_crlf _ _ _ (by rfl)]; rfl
  | cons c t ih =>
    intro R i h
    rw [List.cons_append, List.cons_append, stray_next _ _ _ (pre_not13 c _ h.not13) (by rw [h c (by simp)]; rfl), ih R (i + 1) h.tail]
    simp only [List.length_cons]
    congr 1; omega
theorem index_line : ∀ (x R : List UInt8), NoC x → Lib.index (x ++ crlf ++ R) crlf = x.length := by
  intro x
  induction x with
  | nil => intro R _; rw [List.nil_append]; show Lib.index (13 :: 10 :: R) crlf = _; rw [index_cons]; simp [crlf, List.isPrefixOf]
  | cons c t ih =>
    intro R h
    rw [List.cons_append, List.cons_append, index_cons, pre_not13 c _ h.not13, ih R h.tail]
    simp only [Bool.false_eq_true, if_false, List.length_cons]
    rw [if_neg (by rw [beq_iff_eq]; omega)]
    omega
theorem phys_line (x R : List UInt8) (i : Nat) (h : NoC x) : physL (x ++ crlf ++ R) i = (i, x) :: physL R (i + x.length + 2) := by
  have hx := index_line x R h
  have hc : (Lib.cut (x ++ crlf ++ R) crlf).1 = x := by
    unfold Lib.cut; rw [hx, if_pos (by omega)]
    show (x ++ crlf ++ R).take x.length = x
    rw [List.append_assoc, List.take_left']; rfl
  rw [physL_cons _ _ (by simp [crlf]), hc]
  have : (x ++ crlf ++ R).drop (x.length + 2) = R := by
    rw [List.append_assoc, ← List.drop_drop, List.drop_left' rfl]; rfl
  rw [this]
  congr 2

/-! ### Ends that are no blanks -/
def FNB (l : List UInt8) : Prop := ∃ c t, l = c :: t ∧ bb c = false
def LNB (l : List UInt8) : Prop := ∃ t c, l = t ++ [c] ∧ bb c = false
theorem dw_fnb {l : List UInt8} (h : FNB l) : l.dropWhile bb = l := by
  obtain ⟨c, t, rfl, hc⟩ := h
  rw [List.dropWhile_cons, hc]; simp
theorem rd_lnb {l : List UInt8} (h : LNB l) : rd bb l = l := by
  obtain ⟨t, c, rfl, hc⟩ := h
  rw [rd_snoc, hc]; simp
theorem trim_ends {l : List UInt8} (h : FNB l) (h2 : LNB l) : Lib.trimS l blk = l := by rw [trimS_eq, dw_fnb h, rd_lnb h2]
theorem trim_blank {l : List UInt8} (h : FNB l) (h2 : LNB l) : Lib.trimS (32 :: l) blk = l := by
  rw [trimS_eq, List.dropWhile_cons, show bb 32 = true from by decide, if_pos rfl, dw_fnb h, rd_lnb h2]
theorem ends_trim (l : List UInt8) (h : Lib.trimS l blk = l) : l = [] ∨ (FNB l ∧ LNB l) := by
  by_cases hl : l = []
  · exact .inl hl
  · right
    rw [trimS_eq] at h
    obtain ⟨c, t, rfl⟩ := List.exists_cons_of_ne_nil hl
    have hlen : ∀ m : List UInt8, (rd bb m).length ≤ m.length := by
      intro m; unfold rd; simp only [List.length_reverse]
      have := (List.dropWhile_sublist (l := m.reverse) bb).length_le
      simpa using this
    have hf : bb c = false := by
      cases hc : bb c
      · rfl
      · rw [List.dropWhile_cons, hc, if_pos rfl] at h
        have h1 := hlen (t.dropWhile bb)
        have h2 := (List.dropWhile_sublist (l := t) bb).length_le
        rw [h] at h1
        simp only [List.length_cons] at h1
        omega
    refine ⟨⟨c, t, rfl, hf⟩, ?_⟩
    rw [dw_fnb ⟨c, t, rfl, hf⟩] at h
    obtain ⟨a, d, had⟩ : ∃ a d, c :: t = a ++ [d] := ⟨_, _, (List.dropLast_concat_getLast (List.cons_ne_nil c t)).symm⟩
    refine ⟨a, d, had, ?_⟩
    cases hd : bb d
    · rfl
    · rw [had, rd_snoc, hd, if_pos rfl] at h
      have h1 := hlen a
      have h2 := congrArg List.length h
      rw [List.length_append, List.length_singleton] at h2
      omega
theorem LNB.drop {l : List UInt8} (h : LNB l) (k : Nat) (hk : k < l.length) : LNB (l.drop k) := by
  obtain ⟨t, c, rfl, hc⟩ := h
  simp at hk
  refine ⟨t.drop k, c, ?_, hc⟩
  rw [List.drop_append_of_le_length (by omega)]

theorem step_first (x : List UInt8) (i : Nat) (h : x = [] ∨ (FNB x ∧ LNB x)) : stepU ⟨[], []⟩ (i, x) = ⟨[(i, [])], x⟩ := by
  have hf : fresh x = true := by
    rcases h with rfl | ⟨⟨c, t, rfl, hc⟩, _⟩
    · rfl
    · show (!blankI c.toNat) = true
      have : blankI c.toNat = false := hc
      rw [this]; rfl
  have ht : Lib.trimS x blk = x := by
    rcases h with rfl | ⟨h1, h2⟩
    · decide
    · exact trim_ends h1 h2
  have ha : addL ⟨[], []⟩ (i, x) = ⟨[(i, [])], []⟩ := by simp [addL, hf, endL]
  unfold stepU
  rw [ha]
  dsimp only
  rw [join_nil, ht]
theorem step_next (L : List (Nat × List UInt8)) (tx q : List UInt8) (i : Nat) (h0 : tx ≠ []) (h1 : FNB q) (h2 : LNB q) : stepU ⟨L, tx⟩ (i, 32 :: q) = ⟨L, tx ++ (32 :: q)⟩ := by
  have hf : fresh (32 :: q) = false := rfl
  have hq : q ≠ [] := by obtain ⟨c, t, rfl, _⟩ := h1; simp
  have ha : addL ⟨L, tx⟩ (i, 32 :: q) = ⟨L, tx⟩ := by simp [addL, hf]
  unfold stepU
  rw [ha]
  dsimp only
  rw [trim_blank h1 h2, join_both _ _ h0 hq]
  simp

/-! ### Fold, seen as lines -/
theorem at0_list (s : ByteArray) (i : Nat) (h : i < s.data.toList.length) : at0 s i = ((s.data.toList[i]'h).toNat : Int) := by
  have h2 : i < s.size := by rw [len_list] at h; exact h
  rw [at0_eq s i h2, ← list_at s i h2 h]
/-- What a break says of the two parts. -/
theorem brk_split (s : ByteArray) (k : Nat) (hk : 1 ≤ k) (hk2 : k + 1 < s.size) (hb : brkAt s k = true) :
    LNB (s.data.toList.take k) ∧ ∃ q, s.data.toList.drop k = 32 :: q ∧ FNB q := by
  have hl := len_list s
  unfold brkAt at hb
  rw [at0_list s k (by omega), at0_list s (k - 1) (by omega), at0_list s (k + 1) (by omega), Bool.and_eq_true, Bool.and_eq_true] at hb
  obtain ⟨⟨h1, h2⟩, h3⟩ := hb
  refine ⟨⟨s.data.toList.take (k - 1), s.data.toList[k - 1]'(by omega), ?_, by rw [Bool.not_eq_true'] at h2; exact h2⟩, s.data.toList.drop (k + 1), ?_, s.data.toList[k + 1]'(by omega), s.data.toList.drop (k + 2), ?_, by rw [Bool.not_eq_true'] at h3; exact h3⟩
  · obtain ⟨m, rfl⟩ : ∃ m, k = m + 1 := ⟨k - 1, by omega⟩
    exact List.take_succ_eq_append_getElem (by omega)
  · rw [List.drop_eq_getElem_cons (by omega)]
    congr 1
    rw [beq_iff_eq] at h1
    rw [← UInt8.toNat_inj]
    have : (32 : UInt8).toNat = 32 := rfl
    omega
  · rw [List.drop_eq_getElem_cons (by omega)]
/-- The text of a line behind its first break. -/
def Tail (l : List UInt8) : Prop := ∃ q, l = 32 :: q ∧ FNB q ∧ LNB q
theorem noC_take {l : List UInt8} (h : NoC l) (k : Nat) : NoC (l.take k) := fun c hc => h c (List.mem_of_mem_take hc)
theorem noC_drop {l : List UInt8} (h : NoC l) (k : Nat) : NoC (l.drop k) := fun c hc => h c (List.mem_of_mem_drop hc)
/-- One step of Fold: the text ends, or it is divided at a break. -/
theorem fold_step (w : Int) (n : Nat) (s : ByteArray) (h : s.size ≤ n) (h0 : 0 ≤ w) :
    (foldF w n s = s.data.toList ++ crlf ∧ ((s.size : Int) ≤ w ∨ brkF s w 1 0 = 0)) ∨
    ∃ k m, n = m + 1 ∧ brkF s w 1 0 = k ∧ 1 ≤ k ∧ k + 1 < s.size ∧ brkAt s k = true ∧ (s.extract k s.size).size ≤ m ∧ (s.extract k s.size).data.toList = s.data.toList.drop k ∧ foldF w n s = s.data.toList.take k ++ crlf ++ foldF w m (s.extract k s.size) := by
  by_cases h1 : (s.size : Int) ≤ w
  · exact .inl ⟨foldF_end w n s (.inl h1), .inl h1⟩
  · by_cases h2 : brkF s w 1 0 = 0
    · exact .inl ⟨foldF_end w n s (.inr h2), .inr h2⟩
    · right
      obtain ⟨m, hm, hlt, hs2, hm2, hF⟩ := foldF_len w n s h h1 h2 h0
      rcases brkF_ok s w _ 1 0 (Nat.le_refl _) with h3 | ⟨h3, h4, h5⟩
      · exact absurd h3 h2
      · refine ⟨_, m, hm, rfl, h4, h5, h3, hm2, ?_, ?_⟩
        · rw [Lib.extract_data, List.take_of_length_le (by simp)]
        · rw [hF, Lib.extract_data]; rfl
theorem fold_tail (w : Int) (h0 : 0 ≤ w) (n : Nat) : ∀ (s : ByteArray) (L : List (Nat × List UInt8)) (tx : List UInt8) (off : Nat), s.size ≤ n → NoC s.data.toList → Tail s.data.toList → tx ≠ [] →
    stray (foldF w n s) off = off + (foldF w n s).length ∧ (physL (foldF w n s) off).foldl stepU ⟨L, tx⟩ = ⟨L, tx ++ s.data.toList⟩ ∧ Lib.hasSuffix (foldF w n s) crlf = true := by
  have suf : ∀ (x R : List UInt8), Lib.hasSuffix R crlf = true → Lib.hasSuffix (x ++ R) crlf = true := by
    intro x R h
    unfold Lib.hasSuffix at h ⊢
    rw [List.isSuffixOf_iff_suffix] at h ⊢
    exact h.trans (List.suffix_append _ _)
  induction n with
  | zero =>
    intro s L tx off hs hn ht _
    exfalso
    obtain ⟨q, hq, _⟩ := ht
    have := len_list s
    rw [hq] at this
    simp at this; omega
  | succ n ih =>
    intro s L tx off hs hn ht htx
    obtain ⟨q, hq, hq1, hq2⟩ := ht
    rcases fold_step w (n + 1) s hs h0 with ⟨hF, _⟩ | ⟨k, m, hm, _, hk1, hk2, hb, hm2, hd, hF⟩
    · rw [hF]
      have e : s.data.toList ++ crlf = s.data.toList ++ crlf ++ [] := by simp
      refine ⟨?_, ?_, suf _ _ (by decide)⟩
      · conv => lhs; rw [e, stray_line _ _ _ hn, stray_nil]
        simp [crlf]; omega
      · rw [e, phys_line _ _ _ hn, physL_nil, List.foldl_cons, List.foldl_nil]
        rw [hq]
        exact step_next L tx q off htx hq1 hq2
    · obtain rfl : m = n := by omega
      obtain ⟨hl1, q2, hq3, hq4⟩ := brk_split s k hk1 hk2 hb
      have hk3 : 2 ≤ k := by
        rcases Nat.lt_or_ge k 2 with h9 | h9
        · exfalso
          obtain rfl : k = 1 := by omega
          rw [hq] at hl1
          obtain ⟨t, c, h10, h11⟩ := hl1
          have : t = [] ∧ c = 32 := by
            cases t with
            | nil => simp at h10; exact ⟨rfl, h10.symm⟩
            | cons a t => simp at h10
          rw [this.2] at h11
          revert h11; decide
        · exact h9
      have hx : s.data.toList.take k = 32 :: q.take (k - 1) := by
        rw [hq]
        obtain ⟨j, rfl⟩ : ∃ j, k = j + 1 := ⟨k - 1, by omega⟩
        rfl
      have hx1 : FNB (q.take (k - 1)) := by
        obtain ⟨c, t, rfl, hc⟩ := hq1
        obtain ⟨j, hj⟩ : ∃ j, k - 1 = j + 1 := ⟨k - 2, by omega⟩
        rw [hj]
        exact ⟨c, t.take j, rfl, hc⟩
      have hx2 : LNB (q.take (k - 1)) := by
        have := hl1.drop 1 (by simp; have := len_list s; omega)
        rw [hx] at this
        exact this
      have htl : Tail (s.extract k s.size).data.toList := by
        rw [hd]
        refine ⟨q2, hq3, hq4, ?_⟩
        have h9 : LNB s.data.toList := by
          obtain ⟨t, c, rfl, hc⟩ := hq2
          exact ⟨32 :: t, c, by rw [hq]; rfl, hc⟩
        have h10 := h9.drop (k + 1) (by rw [len_list]; omega)
        rw [← List.drop_drop, hq3] at h10
        exact h10
      have hih := ih (s.extract k s.size) L (tx ++ s.data.toList.take k) (off + k + 2) hm2 (by rw [hd]; exact noC_drop hn k) htl (by simp [htx])
      have hkl : (s.data.toList.take k).length = k := by simp; have := len_list s; omega
      rw [hF]
      refine ⟨?_, ?_, ?_⟩
      · rw [stray_line _ _ _ (noC_take hn k), hkl, hih.1]
        simp only [List.length_append, hkl, crlf, List.length_cons, List.length_nil]; omega
      · rw [phys_line _ _ _ (noC_take hn k), List.foldl_cons, hkl]
        conv => lhs; rw [hx]
        rw [step_next L tx _ off htx hx1 hx2, ← hx, hih.2.1, hd, List.append_assoc, List.take_append_drop]
      · rw [List.append_assoc]; exact suf _ _ (suf _ _ hih.2.2)
/-- Unfold of what Fold prints. -/
theorem fold_unfold (w : Int) (h0 : 0 ≤ w) (s : ByteArray) (n : Nat) (hs : s.size ≤ n) (hn : NoC s.data.toList) (ht : Lib.trimS s.data.toList blk = s.data.toList) :
    unfL (foldF w n s) = [(0, s.data.toList)] ∧ unfAt (foldF w n s) = 0 ∧ unfE (foldF w n s) = 0 := by
  have he := ends_trim _ ht
  have hmain : firstBlank (foldF w n s) = false ∧ stray (foldF w n s) 0 = (foldF w n s).length ∧ Lib.hasSuffix (foldF w n s) crlf = true ∧ (endL (foldU (physL (foldF w n s) 0))).ls = [(0, s.data.toList)] := by
    have suf : ∀ (x R : List UInt8), Lib.hasSuffix R crlf = true → Lib.hasSuffix (x ++ R) crlf = true := by
      intro x R h
      unfold Lib.hasSuffix at h ⊢
      rw [List.isSuffixOf_iff_suffix] at h ⊢
      exact h.trans (List.suffix_append _ _)
    have hfb : ∀ (x R : List UInt8), (x = [] ∨ (FNB x ∧ LNB x)) → firstBlank (x ++ crlf ++ R) = false := by
      rintro x R (rfl | ⟨⟨c, t, rfl, hc⟩, _⟩)
      · rfl
      · exact hc
    rcases fold_step w n s hs h0 with ⟨hF, _⟩ | ⟨k, m, hm, _, hk1, hk2, hb, hm2, hd, hF⟩
    · have e : s.data.toList ++ crlf = s.data.toList ++ crlf ++ [] := by simp
      rw [hF]
      refine ⟨by rw [e]; exact hfb _ _ he, ?_, suf _ _ (by decide), ?_⟩
      · conv => lhs; rw [e, stray_line _ _ _ hn, stray_nil]
        simp [crlf]
      · rw [e, phys_line _ _ _ hn, physL_nil]
        show (endL (stepU ⟨[], []⟩ (0, s.data.toList))).ls = _
        rw [step_first _ _ he]; rfl
    · obtain ⟨hl1, q2, hq3, hq4⟩ := brk_split s k hk1 hk2 hb
      have hkl : (s.data.toList.take k).length = k := by simp; have := len_list s; omega
      have hFL : FNB s.data.toList ∧ LNB s.data.toList := by
        rcases he with h9 | h9
        · have := len_list s; rw [h9] at this; simp at this; omega
        · exact h9
      have hx : FNB (s.data.toList.take k) := by
        obtain ⟨c, t, h9, hc⟩ := hFL.1
        rw [h9]
        obtain ⟨j, rfl⟩ : ∃ j, k = j + 1 := ⟨k - 1, by omega⟩
        exact ⟨c, t.take j, rfl, hc⟩
      have htl : Tail (s.extract k s.size).data.toList := by
        rw [hd]
        refine ⟨q2, hq3, hq4, ?_⟩
        have h10 := hFL.2.drop (k + 1) (by rw [len_list]; omega)
        rw [← List.drop_drop, hq3] at h10
        exact h10
      have hih := fold_tail w h0 m (s.extract k s.size) [(0, [])] (s.data.toList.take k) (0 + k + 2) hm2 (by rw [hd]; exact noC_drop hn k) htl (by intro e; rw [e] at hkl; simp at hkl; omega)
      rw [hF]
      refine ⟨hfb _ _ (.inr ⟨hx, hl1⟩), ?_, ?_, ?_⟩
      · rw [stray_line _ _ _ (noC_take hn k), hkl, hih.1]
        simp only [List.length_append, hkl, crlf, List.length_cons, List.length_nil]; omega
      · rw [List.append_assoc]; exact suf _ _ (suf _ _ hih.2.2)
      · rw [phys_line _ _ _ (noC_take hn k), hkl]
        show (endL ((physL _ _).foldl stepU (stepU ⟨[], []⟩ (0, s.data.toList.take k)))).ls = _
        rw [step_first _ _ (.inr ⟨hx, hl1⟩), hih.2.1, hd, List.take_append_drop]
        rfl
  obtain ⟨a1, a2, a3, a4⟩ := hmain
  obtain ⟨b1, b2, b3⟩ := unf_ok (foldF w n s) a1 a2 (by rw [a3]; simp)
  exact ⟨by rw [b1, a4], b2, b3⟩
end Lx
end Go.Proofs.YtjbjaofbdbkjaaaDoor
