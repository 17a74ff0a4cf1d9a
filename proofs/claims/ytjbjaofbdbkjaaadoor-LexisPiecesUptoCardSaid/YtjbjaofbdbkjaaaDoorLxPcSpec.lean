/- Plain facts: the pieces of a text, joined by the separator, are divided into the same pieces. No program in them. -/
import Derived.Test.YtjbjaofbdbkjaaaDoorLxSp
import Derived.Test.YtjbjaofbdbkjaaaDoorLxLSpec
namespace Go.Proofs.YtjbjaofbdbkjaaaDoor
namespace Lx

/-! ### A token is read alike, whatever lies behind it -/
theorem qEnd_local (n : Nat) : ∀ (u y : List UInt8) (i : Nat), u.length ≤ n → qEnd (u ++ y) i = (i + u.length, 0) →
    (∀ y' i', qEnd (u ++ y') i' = (i' + u.length, 0)) ∧ ∃ v, u = v ++ [34] := by
  induction n with
  | zero =>
    intro u y i h he
    have : u = [] := List.eq_nil_of_length_eq_zero (by omega)
    subst this
    have := qEnd_part _ y i i (Nat.le_refl _) (by simpa using he)
    omega
  | succ n ih =>
    intro u y i h he
    cases u with
    | nil =>
      have := qEnd_part _ y i i (Nat.le_refl _) (by simpa using he)
      omega
    | cons c t =>
      simp only [List.length_cons, List.cons_append] at h he ⊢
      by_cases h34 : c.toNat = 34
      · rw [qEnd_quote _ _ _ h34] at he
        simp at he
        subst he
        refine ⟨fun y' i' => by rw [qEnd_quote _ _ _ h34]; rfl, [], ?_⟩
        have : c = 34 := by rw [← UInt8.toNat_inj]; exact h34
        rw [this]; rfl
      · by_cases h0 : (stepS (c :: (t ++ y)) i).2 = 0
        · have hct : ctlI c.toNat = false := by
            cases hc : ctlI c.toNat
            · rfl
            · rw [stepS_ctl _ _ _ hc] at h0; simp at h0
          have he2 := he
          rw [qEnd_step _ _ _ h34 h0] at he2
          rcases step_kind _ _ _ h0 with ⟨h92, h1⟩ | ⟨d, u', h92, hdu, h2⟩
          · rw [h1, show i + 1 - i = 1 by omega, List.drop_succ_cons, List.drop_zero] at he2
            obtain ⟨g1, v, g2⟩ := ih t y (i + 1) (by omega) (by rw [he2]; congr 1; omega)
            refine ⟨fun y' i' => ?_, c :: v, by rw [g2]; rfl⟩
            rw [qEnd_step _ _ _ h34 (by rw [stepS_one _ _ _ hct h92]), stepS_one _ _ _ hct h92, show i' + 1 - i' = 1 by omega, List.drop_succ_cons, List.drop_zero, g1 y' (i' + 1)]
            congr 1; omega
          · rw [h2, show i + 2 - i = 2 by omega, List.drop_succ_cons, hdu, List.drop_succ_cons, List.drop_zero] at he2
            cases t with
            | nil =>
              have := qEnd_part _ u' (i + 2) (i + 1) (Nat.le_refl _) (by simpa using he2)
              omega
            | cons d' t' =>
              rw [List.cons_append] at hdu
              injection hdu with hd1 hd2
              subst hd1
              have hesc : escI d'.toNat = true := by
                cases hd : escI d'.toNat
                · rw [List.cons_append, stepS_bad _ _ _ _ hct h92 hd] at h0; simp at h0
                · rfl
              rw [← hd2] at he2
              simp only [List.length_cons] at h he2 ⊢
              obtain ⟨g1, v, g2⟩ := ih t' y (i + 2) (by omega) (by rw [he2]; congr 1; omega)
              refine ⟨fun y' i' => ?_, c :: d' :: v, by rw [g2]; rfl⟩
              rw [List.cons_append, qEnd_step _ _ _ h34 (by rw [stepS_two _ _ _ _ hct h92 hesc]), stepS_two _ _ _ _ hct h92 hesc, show i' + 2 - i' = 2 by omega, List.drop_succ_cons, List.drop_succ_cons, List.drop_zero, g1 y' (i' + 2)]
              congr 1; omega
        · rw [qEnd_err _ _ _ h34 h0] at he
          exact absurd (by rw [he]) h0
theorem index_local (c : UInt8) : ∀ (u y : List UInt8), u ≠ [] → Lib.indexByte (u ++ y) c = (u.length : Int) - 1 → (∀ y', Lib.indexByte (u ++ y') c = (u.length : Int) - 1) ∧ ∃ v, u = v ++ [c] := by
  intro u
  induction u with
  | nil => intro y h; exact absurd rfl h
  | cons d t ih =>
    intro y _ he
    rw [List.cons_append] at he
    unfold Lib.indexByte at he
    simp only [List.length_cons] at he ⊢
    cases hd : (d == c)
    · rw [hd] at he
      simp only [Bool.false_eq_true, if_false] at he
      have ht : t ≠ [] := by
        intro e; subst e
        have := (indexByte_lt ([] ++ y) c).2
        simp only [List.length_nil] at he
        split at he
        · omega
        · rename_i h9; rw [beq_iff_eq] at h9; omega
      have h9 : Lib.indexByte (t ++ y) c = (t.length : Int) - 1 := by
        split at he
        · omega
        · omega
      obtain ⟨g1, v, g2⟩ := ih y ht h9
      refine ⟨fun y' => ?_, d :: v, by rw [g2]; rfl⟩
      rw [List.cons_append]
      unfold Lib.indexByte
      rw [hd, g1 y']
      have := List.length_pos_iff.2 ht
      simp only [Bool.false_eq_true, if_false]
      rw [if_neg (by rw [beq_iff_eq]; omega)]
      omega
    · rw [hd] at he
      simp only [if_true] at he
      have ht : t = [] := List.eq_nil_of_length_eq_zero (by omega)
      subst ht
      refine ⟨fun y' => ?_, [], ?_⟩
      · rw [List.cons_append]; unfold Lib.indexByte; rw [hd]; rfl
      · have : d = c := by simpa using hd
        rw [this]; rfl
/-- A quoted string, a text in angle brackets, or another byte, which is not the separator. -/
def Tok (sep : Int) (u : List UInt8) : Prop :=
  u ≠ [] ∧ (∀ c t, u = c :: t → ¬ (c.toNat : Int) = sep) ∧ (∀ (s : ByteArray) (k : Nat) (y : List UInt8), s.data.toList.drop k = u ++ y → skR s.data.toList k = (k + u.length, 0)) ∧ ((∃ c, u = [c]) ∨ ∃ v d, u = v ++ [d] ∧ bb d = false)
theorem tok_of (sep : Int) (s : ByteArray) (k j : Nat) (h : k < s.size) (hse : ¬ (s[k].toNat : Int) = sep) (hj : skR s.data.toList k = (j, 0)) : Tok sep ((s.data.toList.drop k).take (j - k)) := by
  have hok := skR_ok s k h (by rw [hj])
  rw [hj] at hok
  dsimp only at hok
  have hl := len_list s
  obtain ⟨u, hu⟩ : ∃ u, (s.data.toList.drop k).take (j - k) = u := ⟨_, rfl⟩
  obtain ⟨y, hy⟩ : ∃ y, (s.data.toList.drop k).drop (j - k) = y := ⟨_, rfl⟩
  have huy : s.data.toList.drop k = u ++ y := by rw [← hu, ← hy, List.take_append_drop]
  have hul : u.length = j - k := by rw [← hu]; simp; omega
  have hd := drop_step s k h
  obtain ⟨t, hut⟩ : ∃ t, u = s[k] :: t := by
    cases u with
    | nil => simp at hul; omega
    | cons c t => rw [hd, List.cons_append] at huy; injection huy with h1 h2; exact ⟨t, by rw [h1]⟩
  have hty : s.data.toList.drop (k + 1) = t ++ y := by rw [hd, hut, List.cons_append] at huy; injection huy
  rw [hu]
  have hlt : t.length + 1 = j - k := by rw [← hul, hut]; rfl
  have hat := skR_at s k h
  rw [hj] at hat
  have hsk : (∀ (s' : ByteArray) (k' : Nat) (y' : List UInt8), s'.data.toList.drop k' = u ++ y' → skR s'.data.toList k' = (k' + u.length, 0)) ∧ ((∃ c, u = [c]) ∨ ∃ v d, u = v ++ [d] ∧ bb d = false) := by
    have hpre : ∀ (s' : ByteArray) (k' : Nat) (y' : List UInt8), s'.data.toList.drop k' = u ++ y' → ∃ h' : k' < s'.size, (s'[k']'h') = s[k] ∧ s'.data.toList.drop (k' + 1) = t ++ y' := by
      intro s' k' y' e
      have h' : k' < s'.size := by
        rcases Nat.lt_or_ge k' s'.size with h9 | h9
        · exact h9
        · rw [drop_end s' k' h9, hut] at e; cases e
      refine ⟨h', ?_⟩
      rw [drop_step s' k' h', hut, List.cons_append] at e
      injection e with e1 e2
      exact ⟨e1, e2⟩
    by_cases h34 : s[k].toNat = 34
    · rw [if_pos h34, hty] at hat
      obtain ⟨g1, v, g2⟩ := qEnd_local _ t y (k + 1) (Nat.le_refl _) (by rw [← hat]; congr 1; omega)
      refine ⟨fun s' k' y' e => ?_, .inr ⟨s[k] :: v, 34, by rw [hut, g2]; rfl, by decide⟩⟩
      obtain ⟨h', e1, e2⟩ := hpre s' k' y' e
      rw [skR_at s' k' h', e1, if_pos h34, e2, g1]
      congr 1; omega
    · rw [if_neg h34] at hat
      by_cases h60 : s[k].toNat = 60
      · rw [if_pos h60] at hat
        split at hat
        · simp at hat
        · rename_i hn
          have hx : Lib.indexByte (u ++ y) 62 = (u.length : Int) - 1 := by
            rw [← huy]
            injection hat with h9 _
            omega
          obtain ⟨g1, v, g2⟩ := index_local 62 u y (by rw [hut]; simp) hx
          refine ⟨fun s' k' y' e => ?_, .inr ⟨v, 62, g2, by decide⟩⟩
          obtain ⟨h', e1, e2⟩ := hpre s' k' y' e
          rw [skR_at s' k' h', e1, if_neg h34, if_pos h60, e, g1 y']
          rw [if_neg (by omega)]
          congr 1; omega
      · rw [if_neg h60] at hat
        split at hat
        · simp at hat
        · rename_i h62
          have ht : t = [] := by
            injection hat with h9 _
            exact List.eq_nil_of_length_eq_zero (by omega)
          refine ⟨fun s' k' y' e => ?_, .inl ⟨s[k], by rw [hut, ht]⟩⟩
          obtain ⟨h', e1, e2⟩ := hpre s' k' y' e
          rw [skR_at s' k' h', e1, if_neg h34, if_neg h60, if_neg h62, hut, ht]
          rfl
  refine ⟨by rw [hut]; simp, ?_, hsk.1, hsk.2⟩
  intro c t' e
  rw [hut] at e
  injection e with e1 _
  rw [← e1]; exact hse

/-! ### Pieces as rows of tokens -/
inductive Sc (sep : Int) : List UInt8 → Prop
  | nil : Sc sep []
  | cons (u v : List UInt8) : Tok sep u → Sc sep v → Sc sep (u ++ v)
theorem Sc.one {sep : Int} {u : List UInt8} (h : Tok sep u) : Sc sep u := by have := Sc.cons u [] h .nil; rwa [List.append_nil] at this
theorem Sc.app {sep : Int} {a b : List UInt8} (h : Sc sep a) (hb : Sc sep b) : Sc sep (a ++ b) := by
  induction h with
  | nil => exact hb
  | cons u v hu _ ih => rw [List.append_assoc]; exact .cons u _ hu ih
def tl (c : UInt8) (ts : List (List UInt8)) : List UInt8 := ts.flatMap fun t => c :: t
def pcs (off : Nat) : List (List UInt8) → List (Nat × List UInt8)
  | [] => []
  | t :: ts => (off + runL blankI t, Lib.trimS t blk) :: pcs (off + t.length + 1) ts
theorem cut_at (l : List UInt8) (a k : Nat) (h : a ≤ k) : l.drop a = (l.take k).drop a ++ l.drop k := by
  have : l.drop a = (l.take k ++ l.drop k).drop a := by rw [List.take_append_drop]
  rw [this]
  rcases Nat.lt_or_ge l.length k with h9 | h9
  · rw [List.drop_eq_nil_of_le (by omega : l.length ≤ k)]; simp
  · rw [List.drop_append_of_le_length (by simp; omega)]
theorem cut_two (l : List UInt8) (a k j : Nat) (h : a ≤ k) (h2 : k ≤ j) (h3 : j ≤ l.length) : (l.take j).drop a = (l.take k).drop a ++ (l.drop k).take (j - k) := by
  have e : l.take j = l.take k ++ (l.drop k).take (j - k) := by
    have := List.take_add (l := l) (i := k) (j := j - k)
    rwa [show k + (j - k) = j by omega] at this
  rw [e, List.drop_append_of_le_length (by simp; omega)]
theorem split_parts (s : ByteArray) (c : UInt8) (n : Nat) : ∀ (a k : Nat) (acc L : List (Nat × List UInt8)) (x : Nat), s.size - k ≤ n → a ≤ k → k ≤ s.size → Sc c.toNat ((s.data.toList.take k).drop a) →
    spR s.data.toList c.toNat n a k acc = (L, x, 0) → x = 0 ∧ ∃ t ts, s.data.toList.drop a = t ++ tl c ts ∧ (∀ u, u ∈ t :: ts → Sc c.toNat u) ∧ L = acc ++ pcs a (t :: ts) := by
  have hl := len_list s
  have fin : ∀ (n a k : Nat) (acc L : List (Nat × List UInt8)) (x : Nat), a ≤ k → k = s.size → Sc c.toNat ((s.data.toList.take k).drop a) →
      spR s.data.toList c.toNat n a k acc = (L, x, 0) → x = 0 ∧ ∃ t ts, s.data.toList.drop a = t ++ tl c ts ∧ (∀ u, u ∈ t :: ts → Sc c.toNat u) ∧ L = acc ++ pcs a (t :: ts) := by
    intro n a k acc L x hak hk hsc he
    rw [spR_end s _ n a k acc (by omega)] at he
    injection he with h1 h2
    injection h2 with h2 _
    have htk : s.data.toList.take k = s.data.toList := List.take_of_length_le (by omega)
    rw [htk] at hsc
    refine ⟨h2.symm, s.data.toList.drop a, [], by simp [tl], ?_, ?_⟩
    · intro u hu; simp at hu; rw [hu]; exact hsc
    · rw [← h1]
      have : s.data.toList.take s.size = s.data.toList := List.take_of_length_le (by omega)
      unfold pcOf pcs pcs
      rw [this]
  induction n with
  | zero => intro a k acc L x h1 h2 h3 hsc he; exact fin 0 a k acc L x h2 (by omega) hsc he
  | succ n ih =>
    intro a k acc L x h1 h2 h3 hsc he
    by_cases hlt : k < s.size
    · have hdk := drop_step s k hlt
      by_cases hse : (s[k].toNat : Int) = c.toNat
      · rw [spR_sep s _ n a k acc hlt hse] at he
        obtain ⟨hx, t, ts, g1, g2, g3⟩ := ih (k + 1) (k + 1) _ L x (by omega) (Nat.le_refl _) (by omega) (by rw [List.drop_eq_nil_of_le (by simp; omega)]; exact .nil) he
        refine ⟨hx, (s.data.toList.take k).drop a, t :: ts, ?_, ?_, ?_⟩
        · rw [cut_at _ a k h2, hdk, g1]
          have : s[k] = c := by rw [← UInt8.toNat_inj]; omega
          rw [this]; simp [tl]
        · intro u hu
          rcases List.mem_cons.1 hu with hu | hu
          · rw [hu]; exact hsc
          · exact g2 u hu
        · rw [g3]
          have hlen : ((s.data.toList.take k).drop a).length = k - a := by simp; omega
          conv => rhs; unfold pcs
          rw [hlen, show a + (k - a) + 1 = k + 1 by omega]
          unfold pcOf
          simp
      · by_cases h0 : (skR s.data.toList k).2 = 0
        · rw [spR_skip s _ n a k acc hlt hse h0] at he
          have hok := skR_ok s k hlt h0
          obtain ⟨j, hj⟩ : ∃ j, (skR s.data.toList k).1 = j := ⟨_, rfl⟩
          rw [hj] at hok he
          have htok := tok_of c.toNat s k j hlt hse (by rw [← hj, ← h0])
          exact ih a j acc L x (by omega) (by omega) hok.2 (by rw [cut_two _ a k j h2 (by omega) (by omega)]; exact hsc.app (.one htok)) he
        · rw [spR_err s _ n a k acc hlt hse h0] at he
          injection he with _ h9
          injection h9 with _ h9
          exact absurd h9 h0
    · exact fin (n + 1) a k acc L x h2 (by omega) hsc he
theorem parts_split (s : ByteArray) (c : UInt8) (n : Nat) : ∀ (a k : Nat) (v : List UInt8) (ts : List (List UInt8)) (acc : List (Nat × List UInt8)), s.size - k ≤ n → a ≤ k → k ≤ s.size → Sc c.toNat v → (∀ u, u ∈ ts → Sc c.toNat u) →
    s.data.toList.drop k = v ++ tl c ts → spR s.data.toList c.toNat n a k acc = (acc ++ pcs a (((s.data.toList.take k).drop a ++ v) :: ts), 0, 0) := by
  have hl := len_list s
  induction n with
  | zero =>
    intro a k v ts acc h1 h2 h3 hv hts hd
    rw [drop_end s k (by omega)] at hd
    obtain ⟨e1, e2⟩ := List.append_eq_nil_iff.1 hd.symm
    have hts0 : ts = [] := by cases ts with | nil => rfl | cons t ts => simp [tl] at e2
    subst e1 hts0
    rw [spR_end s _ 0 a k acc (by omega)]
    have hk : k = s.size := by omega
    unfold pcOf pcs pcs
    rw [hk]; simp
  | succ n ih =>
    intro a k v ts acc h1 h2 h3 hv hts hd
    cases hv with
    | nil =>
      cases ts with
      | nil =>
        have hk : k = s.size := by have := congrArg List.length hd; simp [tl] at this; omega
        rw [spR_end s _ _ a k acc (by omega)]
        unfold pcOf pcs pcs
        rw [hk]; simp
      | cons t ts =>
        have hlt : k < s.size := by have := congrArg List.length hd; simp [tl] at this; omega
        have hdk := drop_step s k hlt
        rw [hdk] at hd
        simp only [tl, List.flatMap_cons, List.nil_append, List.cons_append] at hd
        injection hd with hd1 hd2
        rw [spR_sep s _ n a k acc hlt (by rw [hd1]), ih (k + 1) (k + 1) t ts _ (by omega) (Nat.le_refl _) (by omega) (hts t (by simp)) (fun u hu => hts u (by simp [hu])) hd2]
        have hlen : ((s.data.toList.take k).drop a).length = k - a := by simp; omega
        have hz : (s.data.toList.take (k + 1)).drop (k + 1) = [] := List.drop_eq_nil_of_le (by simp; omega)
        rw [hz, List.nil_append, List.append_nil]
        conv => rhs; unfold pcs
        rw [hlen, show a + (k - a) + 1 = k + 1 by omega]
        unfold pcOf
        simp
    | cons u v' hu hv' =>
      obtain ⟨hne, hsep, htok, _⟩ := hu
      rw [List.append_assoc] at hd
      have hupos := List.length_pos_iff.2 hne
      have hlen := congrArg List.length hd
      simp only [List.length_append, List.length_drop] at hlen
      have hlt : k < s.size := by omega
      have hsk := htok s k _ hd
      have hdk := drop_step s k hlt
      have hse : ¬ (s[k].toNat : Int) = c.toNat := by
        obtain ⟨d, t, rfl⟩ := List.exists_cons_of_ne_nil hne
        rw [hdk, List.cons_append] at hd
        injection hd with hd1 _
        rw [hd1]; exact hsep d t rfl
      rw [spR_skip s _ n a k acc hlt hse (by rw [hsk]), hsk]
      have hd2 : s.data.toList.drop (k + u.length) = v' ++ tl c ts := by rw [← List.drop_drop, hd, List.drop_left' rfl]
      rw [ih a (k + u.length) v' ts acc (by omega) (by omega) (by omega) hv' hts hd2]
      have e : (s.data.toList.take (k + u.length)).drop a = (s.data.toList.take k).drop a ++ u := by
        rw [cut_two _ a k (k + u.length) h2 (by omega) (by omega), hd, Nat.add_sub_cancel_left, List.take_left' rfl]
      rw [e, List.append_assoc]

/-! ### Trimming keeps the tokens -/
theorem blank_tok (c : UInt8) (h : bb c = true) (s : ByteArray) (k : Nat) (y : List UInt8) (hd : s.data.toList.drop k = c :: y) : skR s.data.toList k = (k + 1, 0) := by
  have hlt : k < s.size := by
    rcases Nat.lt_or_ge k s.size with h9 | h9
    · exact h9
    · rw [drop_end s k h9] at hd; cases hd
  rw [drop_step s k hlt] at hd
  injection hd with hd1 _
  have hb : blankI (c.toNat : Int) = true := h
  unfold blankI at hb
  rw [Bool.or_eq_true, beq_iff_eq, beq_iff_eq] at hb
  rw [skR_at s k hlt, hd1, if_neg (by omega), if_neg (by omega), if_neg (by omega)]
theorem sc_left (sep : Int) (c : UInt8) (t : List UInt8) (hb : bb c = true) (h : Sc sep (c :: t)) : Sc sep t := by
  generalize hx : c :: t = x at h
  cases h with
  | nil => cases hx
  | cons u v hu hv =>
    obtain ⟨hne, _, htok, _⟩ := hu
    obtain ⟨d, u', rfl⟩ := List.exists_cons_of_ne_nil hne
    rw [List.cons_append] at hx
    injection hx with h1 h2
    subst h1
    have e1 := htok ⟨(c :: u').toArray⟩ 0 [] (by simp)
    have e2 := blank_tok c hb ⟨(c :: u').toArray⟩ 0 u' (by simp)
    rw [e1] at e2
    simp at e2
    subst e2
    rw [h2]; exact hv
theorem sc_right (sep : Int) (c : UInt8) (hb : bb c = true) : ∀ (x : List UInt8), Sc sep x → ∀ t, x = t ++ [c] → Sc sep t := by
  intro x h
  induction h with
  | nil => intro t ht; simp at ht
  | cons u v hu hv ih =>
    intro t ht
    by_cases hve : v = []
    · subst hve
      rw [List.append_nil] at ht
      rcases hu.2.2.2 with ⟨d, hd⟩ | ⟨w, d, hw, hd⟩
      · rw [ht] at hd
        have : t = [] := by
          cases t with
          | nil => rfl
          | cons a t => simp at hd
        rw [this]; exact .nil
      · rw [ht] at hw
        have := List.append_inj_right' hw rfl
        injection this with h9
        rw [h9] at hb; rw [hb] at hd; cases hd
    · obtain ⟨v', d, hvd⟩ : ∃ v' d, v = v' ++ [d] := ⟨_, _, (List.dropLast_concat_getLast hve).symm⟩
      rw [hvd, ← List.append_assoc] at ht
      obtain ⟨h1, h2⟩ := List.append_inj' ht rfl
      injection h2 with h2
      rw [← h1]
      exact .cons u v' hu (ih v' (by rw [hvd, h2]))
theorem sc_trim (sep : Int) (t : List UInt8) (h : Sc sep t) : Sc sep (Lib.trimS t blk) := by
  rw [trimS_eq]
  have h1 : ∀ (t : List UInt8), Sc sep t → Sc sep (t.dropWhile bb) := by
    intro t
    induction t with
    | nil => intro h; exact h
    | cons c t ih =>
      intro h
      rw [List.dropWhile_cons]
      cases hc : bb c
      · simpa using h
      · simpa using ih (sc_left sep c t hc h)
  have h2 : ∀ (t : List UInt8), Sc sep t → Sc sep (rd bb t) := by
    intro t
    refine snoc_ind (P := fun t => Sc sep t → Sc sep (rd bb t)) ?_ ?_ t
    · intro h; exact h
    · intro t c ih h
      rw [rd_snoc]
      cases hc : bb c
      · simpa using h
      · simpa using ih (sc_right sep c hc _ h t rfl)
  exact h2 _ (h1 t h)

/-! ### What the pieces are -/
theorem trim_trim (l : List UInt8) : Lib.trimS (Lib.trimS l blk) blk = Lib.trimS l blk := by
  rw [trimS_eq l]
  have hf : rd bb (l.dropWhile bb) = [] ∨ FNB (rd bb (l.dropWhile bb)) := by
    cases h : l.dropWhile bb with
    | nil => left; rfl
    | cons c t =>
      right
      have hc : bb c = false := by
        have : ∀ (l : List UInt8), l.dropWhile bb = c :: t → bb c = false := by
          intro l
          induction l with
          | nil => intro h; cases h
          | cons d u ih =>
            intro h
            rw [List.dropWhile_cons] at h
            cases hd : bb d
            · rw [hd] at h; simp at h; rw [← h.1]; exact hd
            · rw [hd, if_pos rfl] at h; exact ih h
        exact this l h
      rw [rd_cons, hc]
      split
      · exact ⟨c, [], rfl, hc⟩
      · exact ⟨c, rd bb t, rfl, hc⟩
  have hl : ∀ m : List UInt8, rd bb m = [] ∨ LNB (rd bb m) := by
    intro m
    refine snoc_ind (P := fun m => rd bb m = [] ∨ LNB (rd bb m)) ?_ ?_ m
    · left; rfl
    · intro t c ih
      rw [rd_snoc]
      cases hc : bb c
      · right; exact ⟨t, c, rfl, hc⟩
      · exact ih
  rcases hf with h | h
  · rw [h]; decide
  · rcases hl (l.dropWhile bb) with h2 | h2
    · rw [h2]; decide
    · exact trim_ends h h2
theorem rd_prefix (m : List UInt8) : ∃ z, m = rd bb m ++ z := by
  refine snoc_ind (P := fun m => ∃ z, m = rd bb m ++ z) ?_ ?_ m
  · exact ⟨[], rfl⟩
  · intro t c ih
    rw [rd_snoc]
    cases hc : bb c
    · exact ⟨[], by simp⟩
    · obtain ⟨z, hz⟩ := ih
      refine ⟨z ++ [c], ?_⟩
      simp only [if_true]
      rw [← List.append_assoc, ← hz]
theorem trim_part (t : List UInt8) : ∃ z, t.drop (runL blankI t) = Lib.trimS t blk ++ z := by
  rw [drop_run, trimS_eq]; exact rd_prefix _
/-- The pieces lie in the text one behind the other. -/
def Good (l : List UInt8) : Nat → List (Nat × List UInt8) → Prop
  | _, [] => True
  | last, p :: r => last ≤ p.1 ∧ p.1 + p.2.length ≤ l.length ∧ (l.drop p.1).take p.2.length = p.2 ∧ Lib.trimS p.2 blk = p.2 ∧ Good l (p.1 + p.2.length + 1) r
theorem pcs_good (l : List UInt8) (c : UInt8) : ∀ (ts : List (List UInt8)) (t : List UInt8) (off last : Nat), last ≤ off → off ≤ l.length → l.drop off = t ++ tl c ts → Good l last (pcs off (t :: ts)) := by
  have key : ∀ (t y : List UInt8) (off : Nat), off ≤ l.length → l.drop off = t ++ y → off + runL blankI t + (Lib.trimS t blk).length ≤ off + t.length ∧ off + t.length ≤ l.length ∧ (l.drop (off + runL blankI t)).take (Lib.trimS t blk).length = Lib.trimS t blk := by
    intro t y off ho hd
    obtain ⟨z, hz⟩ := trim_part t
    have hr := runL_le blankI t
    have hlen := congrArg List.length hd
    have hz2 := congrArg List.length hz
    simp only [List.length_append, List.length_drop] at hlen hz2
    refine ⟨by omega, by omega, ?_⟩
    rw [← List.drop_drop, hd, List.drop_append_of_le_length hr, hz, List.append_assoc, List.take_left' rfl]
  intro ts
  induction ts with
  | nil =>
    intro t off last h1 h2 hd
    obtain ⟨k1, k2, k3⟩ := key t _ off h2 hd
    unfold pcs pcs
    exact ⟨by dsimp only; omega, by dsimp only; omega, k3, trim_trim t, trivial⟩
  | cons t' ts ih =>
    intro t off last h1 h2 hd
    obtain ⟨k1, k2, k3⟩ := key t _ off h2 hd
    have hlen := congrArg List.length hd
    simp only [tl, List.flatMap_cons, List.length_append, List.length_drop, List.length_cons] at hlen
    have hd2 : l.drop (off + t.length + 1) = t' ++ tl c ts := by
      rw [← List.drop_drop, ← List.drop_drop, hd, List.drop_left' rfl]
      rfl
    unfold pcs
    exact ⟨by dsimp only; omega, by dsimp only; omega, k3, trim_trim t, ih t' _ _ (by dsimp only; omega) (by omega) hd2⟩
/-- The texts, joined. -/
def jn (c : UInt8) : List (List UInt8) → List UInt8
  | [] => []
  | y :: ys => y ++ tl c ys
theorem jn_snoc (c : UInt8) (ys : List (List UInt8)) (y : List UInt8) : jn c (ys ++ [y]) = if ys = [] then y else jn c ys ++ [c] ++ y := by
  cases ws : ys with
  | nil => simp [jn, tl]
  | cons z zs => simp [jn, tl]
theorem pcs_texts : ∀ (ts : List (List UInt8)) (off : Nat), (pcs off ts).map (·.2) = ts.map (fun t => Lib.trimS t blk) := by
  intro ts
  induction ts with
  | nil => intro off; rfl
  | cons t ts ih => intro off; unfold pcs; rw [List.map_cons, List.map_cons, ih]
theorem pcs_len : ∀ (ts : List (List UInt8)) (off : Nat), (pcs off ts).length = ts.length := by
  intro ts off
  have := congrArg List.length (pcs_texts ts off)
  simpa using this
/-- Split of a text without an error: the pieces lie in it; joined, they are divided into the same texts. -/
theorem split_join (s : ByteArray) (c : UInt8) (L : List (Nat × List UInt8)) (x : Nat) (hbad : sepBad c.toNat = false) (h : spF s.data.toList c.toNat = (L, x, 0)) :
    Good s.data.toList 0 L ∧ 0 < L.length ∧ ∀ (J : ByteArray), J.data.toList = jn c (L.map (·.2)) → ∃ M, spF J.data.toList c.toNat = (M, 0, 0) ∧ M.length = L.length ∧ M.map (·.2) = L.map (·.2) := by
  unfold spF at h
  rw [hbad] at h
  simp only [Bool.false_eq_true, if_false] at h
  have hl := len_list s
  obtain ⟨_, t, ts, g1, g2, g3⟩ := split_parts s c s.data.toList.length 0 0 [] L x (by omega) (Nat.le_refl _) (Nat.zero_le _) .nil h
  rw [List.nil_append] at g3
  refine ⟨?_, ?_, ?_⟩
  · rw [g3]; exact pcs_good _ c ts t 0 0 (Nat.le_refl _) (Nat.zero_le _) g1
  · rw [g3, pcs_len]; simp
  · intro J hJ
    have hlJ := len_list J
    rw [g3, pcs_texts, List.map_cons] at hJ
    have hp := parts_split J c J.data.toList.length 0 0 (Lib.trimS t blk) (ts.map fun t => Lib.trimS t blk) [] (by omega) (Nat.le_refl _) (Nat.zero_le _) (sc_trim _ _ (g2 t (by simp)))
      (fun u hu => by
        obtain ⟨t', ht', rfl⟩ := List.mem_map.1 hu
        exact sc_trim _ _ (g2 t' (by simp [ht'])))
      (by rw [List.drop_zero, hJ]; rfl)
    refine ⟨pcs 0 (Lib.trimS t blk :: ts.map fun t => Lib.trimS t blk), ?_, ?_, ?_⟩
    · unfold spF
      rw [hbad]
      simp only [Bool.false_eq_true, if_false]
      rw [hp]; rfl
    · rw [g3, pcs_len, pcs_len]; simp
    · rw [g3, pcs_texts, pcs_texts]
      simp [trim_trim]
end Lx
end Go.Proofs.YtjbjaofbdbkjaaaDoor
