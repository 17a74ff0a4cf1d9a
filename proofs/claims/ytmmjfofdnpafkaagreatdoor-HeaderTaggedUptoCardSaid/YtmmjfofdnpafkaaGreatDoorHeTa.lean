/- What the law HeaderTagged asks of plain texts: an address that is written stands without blanks at both ends, and a tag that is set is found. No program. -/
import Derived.Test.YtmmjfofdnpafkaaGreatDoorHeU
import Derived.Test.YtmmjfofdnpafkaaGreatDoorAdSt
import Derived.Test.YtmmjfofdnpafkaaGreatDoorM1
namespace Go.Proofs.YtmmjfofdnpafkaaGreatDoor
namespace Ad
open Go.RowKit Lx

theorem trS_self (l m n : List UInt8) (c d : UInt8) (h1 : l = c :: m) (h2 : l = n ++ [d]) (hc : bb c = false) (hd : bb d = false) : trS l = l := by
  show Lib.trimS l blk = l
  rw [trimS_eq]
  have e : l.dropWhile bb = l := by rw [h1, List.dropWhile_cons, hc]; rfl
  rw [e]
  unfold rd
  rw [h2, List.reverse_append, List.reverse_singleton, List.singleton_append, List.dropWhile_cons, hd]
  simp
def NEnd (t : List UInt8) : Prop := ∃ n d, t = n ++ [d] ∧ bb d = false
theorem NEnd.pre {t : List UInt8} (h : NEnd t) (a : List UInt8) : NEnd (a ++ t) := by
  obtain ⟨n, d, rfl, hd⟩ := h
  exact ⟨a ++ n, d, by simp, hd⟩
theorem tok_end (v : List UInt8) (h : tokB v = true) : NEnd v := by
  obtain ⟨h1, h2⟩ := (tokB_iff v).1 h
  rcases List.eq_nil_or_concat v with rfl | ⟨u, a, rfl⟩
  · exact absurd rfl h1
  · rw [List.concat_eq_append] at h2 ⊢
    exact ⟨u, a, rfl, tok_blank _ (h2 a (by simp))⟩
theorem host_end (v : List UInt8) (h : v.head? = some 91) (h2 : hostO v = some v) : NEnd v := by
  unfold hostO at h2
  rw [if_pos h] at h2
  cases v with
  | nil => cases h
  | cons c t =>
    rw [List.tail_cons] at h2
    split at h2
    · rename_i h3
      rcases List.eq_nil_or_concat t with rfl | ⟨u, a, rfl⟩
      · cases h3
      · rw [List.concat_eq_append] at h3 ⊢
        rw [List.getLast?_append, List.getLast?_singleton] at h3
        simp at h3
        subst h3
        exact ⟨c :: u, 93, rfl, by decide⟩
    · cases h2
theorem pv_end (v : List UInt8) : NEnd (pvL v) := by
  unfold pvL
  split
  · rename_i h
    rw [Bool.or_eq_true, Bool.and_eq_true, decide_eq_true_eq, decide_eq_true_eq] at h
    rcases h with h | h
    · exact tok_end v h
    · exact host_end v h.1 h.2
  · exact ⟨[34] ++ escL v, 34, rfl, by decide⟩
theorem pp_end (p : Prm) (h : ppB p = true) : NEnd (ppL p) := by
  unfold ppB at h
  simp only [Bool.and_eq_true] at h
  unfold ppL
  split
  · have := ((pv_end p.2.1).pre [61]).pre (59 :: p.1)
    exact this
  · rw [List.append_nil]
    exact (tok_end p.1 h.1.1.1).pre [59]
theorem ppF_all : ∀ (l acc : List Prm) (x : List UInt8), ppF l acc = some x → ∀ p ∈ l, ppB p = true := by
  intro l
  induction l with
  | nil => intro acc x _ p hp; cases hp
  | cons q t ih =>
    intro acc x h p hp
    obtain ⟨h1, _, T', h3, _⟩ := ppF_cons q t acc x h
    rcases List.mem_cons.1 hp with rfl | hp
    · exact h1
    · exact ih _ _ h3 p hp
theorem ppO_end (l : List Prm) (x : List UInt8) (h : ppO l = some x) : x = [] ∨ NEnd x := by
  have ha := ppF_all l [] x h
  obtain ⟨_, _, rfl⟩ := ppO_some l x h
  rcases List.eq_nil_or_concat l with rfl | ⟨u, a, rfl⟩
  · exact .inl rfl
  · rw [List.concat_eq_append] at ha ⊢
    rw [List.flatMap_append, List.flatMap_singleton]
    exact .inr ((pp_end a (ha a (by simp))).pre _)
theorem adr_trim (a : Adr) (t : List UInt8) (h : adrO a = some t) : trS t = t := by
  rw [adrO_eq] at h
  cases hu : printO a.uri with
  | none => rw [hu] at h; cases h
  | some u =>
    cases hp : ppO (srt a.params) with
    | none => rw [hu, hp] at h; cases h
    | some p =>
      rw [hu, hp] at h
      dsimp only at h
      split at h
      · cases h
      · injection h with h
        have he : NEnd t := by
          rw [← h]
          rcases ppO_end _ _ hp with rfl | he
          · exact ⟨dspL a.display ++ [60] ++ u, 62, by simp, by decide⟩
          · exact he.pre _
        have hs : ∃ c m, t = c :: m ∧ bb c = false := by
          rw [← h]
          unfold dspL
          split
          · exact ⟨60, u ++ 62 :: p, by simp, by decide⟩
          · exact ⟨34, escL a.display ++ 34 :: 32 :: 60 :: (u ++ 62 :: p), by simp, by decide⟩
        obtain ⟨n, d, h2, hd⟩ := he
        obtain ⟨c, m, h1, hc⟩ := hs
        exact trS_self t m n c d h1 h2 hc hd
theorem st_has (l : List Prm) (nm v : List UInt8) : ∃ p ∈ stL l nm v, lowL p.1 = lowL nm ∧ p.2.1 = v := by
  unfold stL
  rcases fndI_cases l nm with ⟨h, _⟩ | ⟨k, hk, h, h1, _⟩
  · rw [h, if_pos (by decide)]
    exact ⟨(lowL nm, v, true), by simp, lowL_idem nm, rfl⟩
  · rw [h, if_neg (by omega), Int.toNat_natCast]
    refine ⟨(l[k]!.1, v, true), ?_, by simpa using h1, rfl⟩
    exact List.mem_of_getElem? (i := k) (by rw [List.getElem?_set_self hk])
theorem names_one : ∀ (l : List Prm) (p q : Prm), Names l → p ∈ l → q ∈ l → p.1 = q.1 → p = q := by
  intro l
  induction l with
  | nil => intro p q _ hp; cases hp
  | cons x t ih =>
    intro p q hn hp hq he
    unfold Names at hn
    rw [List.map_cons, List.nodup_cons] at hn
    have hm : ∀ y, y ∈ t → y.1 ∈ t.map (·.1) := fun y hy => List.mem_map.2 ⟨y, hy, rfl⟩
    rcases List.mem_cons.1 hp with h1 | h1 <;> rcases List.mem_cons.1 hq with h2 | h2
    · rw [h1, h2]
    · have := hm q h2; rw [← he, h1] at this; exact absurd this hn.1
    · have := hm p h1; rw [he, h2] at this; exact absurd this hn.1
    · exact ih p q hn.2 h1 h2 he
theorem get_uni (q : List Prm) (nm : List UInt8) (p : Prm) (hn : Names q) (hl : ∀ p ∈ q, p.1 = lowL p.1) (hp : p ∈ q) (h1 : lowL p.1 = lowL nm) : getV q nm = p.2.1 ∧ getB q nm = true := by
  unfold getV getB
  rcases fndI_cases q nm with ⟨_, h⟩ | ⟨k, hk, h, h2, _⟩
  · obtain ⟨j, hj, he⟩ := List.getElem_of_mem hp
    have h3 := h j hj
    rw [getElem!_pos q j hj, he, h1] at h3
    simp at h3
  · rw [h, if_neg (by omega), Int.toNat_natCast]
    rw [getElem!_pos q k hk] at h2 ⊢
    have h3 : lowL q[k].1 = lowL nm := by simpa using h2
    have h4 := names_one q q[k] p hn (List.getElem_mem hk) hp (by rw [hl _ (List.getElem_mem hk), hl _ hp, h3, h1])
    rw [h4]
    exact ⟨rfl, by simp⟩
theorem adr_has (a : Adr) (t v nm : List UInt8) (h : adrO { a with params := stL a.params nm v } = some t) :
    getV (srt (stL a.params nm v)) nm = v ∧ getB (srt (stL a.params nm v)) nm = true := by
  rw [adrO_eq] at h
  dsimp only at h
  cases hu : printO a.uri with
  | none => rw [hu] at h; cases h
  | some u =>
    cases hp : ppO (srt (stL a.params nm v)) with
    | none => rw [hu, hp] at h; cases h
    | some x =>
      obtain ⟨_, hn, _⟩ := ppO_some _ _ hp
      have ha := ppF_all _ [] x hp
      obtain ⟨p, h1, h2, h3⟩ := st_has a.params nm v
      have h4 := get_uni (srt (stL a.params nm v)) nm p hn (fun q hq => by
        have h := ha q hq
        unfold ppB at h
        simp only [Bool.and_eq_true, decide_eq_true_eq] at h
        exact h.1.1.2) ((srt_perm _).mem_iff.2 h1) h2
      rw [h3] at h4
      exact h4
theorem NF.printed {n : Uri} (h : NF n) : printO n = some (textU n) := by unfold printO; rw [h.normal]; rfl
theorem tag_low (l : List Prm) : getV l [84, 65, 71] = getV l tagN ∧ getB l [84, 65, 71] = getB l tagN := by
  have e : lowL [84, 65, 71] = lowL tagN := by decide
  unfold getV getB fndI
  rw [e]
  exact ⟨rfl, rfl⟩
/-- What is read behind PrintAddress. -/
theorem tagged_ok (a : Adr) (u v t : List UInt8) (hu : printO a.uri = some u) (h : adrO { a with params := stL a.params tagN v } = some t) (hl : t.length ≤ 1024) :
    uriR t = (u, 0) ∧ parmR t [84, 65, 71] = (v, true) ∧ tagR t = v := by
  have hT := adr_trim _ _ h
  obtain ⟨n, h1, h2⟩ := adr_print _ _ h hl
  have hg := adr_has a t v tagN h
  dsimp only at h1 h2
  have hN := (normal_NF _ _ h1).printed
  have hU : u = textU n := by
    unfold printO at hu
    rw [h1] at hu
    exact (Option.some.inj hu).symm
  obtain ⟨i, hi⟩ : ∃ i, itmR t = i := ⟨_, rfl⟩
  unfold uriR parmR tagR parmP
  rw [hT, h2, hi]
  dsimp only
  rw [if_neg (by decide), if_pos rfl, hN, (tag_low _).1, (tag_low _).2, hg.1, hg.2, hU]
  exact ⟨rfl, rfl, rfl⟩
theorem restR_NF (l d : List UInt8) (a b c : Nat) (h : (restR l d a b c).2.2 = 0) : NF (restR l d a b c).1.uri := by
  unfold restR at h ⊢
  split at h
  · rename_i hx; exact absurd h hx
  · rename_i hx
    rw [if_neg hx]
    split at h
    · rename_i hy; exact absurd h hy
    · rename_i hy
      rw [if_neg hy]
      exact (parse_NF _ (by omega)).1
theorem angR_NF (l d : List UInt8) (k : Nat) (h : (angR l d k).2.2 = 0) : NF (angR l d k).1.uri := by
  unfold angR at h ⊢
  split at h
  · exact absurd h (show ¬ ((5 : Int) = 0) by decide)
  · rename_i hx
    rw [if_neg hx]
    exact restR_NF _ _ _ _ _ h
theorem adrR_NF (l : List UInt8) (h : (adrR l).2.2 = 0) : NF (adrR l).1.uri := by
  unfold adrR at h ⊢
  split at h
  · exact absurd h (show ¬ ((4 : Int) = 0) by decide)
  rename_i h1
  rw [if_neg h1]
  split at h
  · rename_i h2
    rw [if_pos h2]
    split at h
    · rename_i h3; exact absurd h h3
    rename_i h3
    rw [if_neg h3]
    split at h
    · exact absurd h (show ¬ ((5 : Int) = 0) by decide)
    rename_i h4
    rw [if_neg h4]
    exact angR_NF _ _ _ h
  rename_i h2
  rw [if_neg h2]
  split at h
  · rename_i h3
    rw [if_pos h3]
    split at h
    · rename_i h4; exact absurd h h4
    rename_i h4
    rw [if_neg h4]
    exact angR_NF _ _ _ h
  rename_i h3
  rw [if_neg h3]
  split at h
  · exact absurd h (show ¬ ((5 : Int) = 0) by decide)
  rename_i h4
  rw [if_neg h4]
  exact restR_NF _ _ _ _ _ h
/-- What is read at a value: its error, or an address with a URI that is printed. -/
theorem value_cases (l : List UInt8) : ((adrR (trS l)).2.2 ≠ 0 ∧ (adrR (trS l)).1 = nilA ∧ uriR l = ([], (adrR (trS l)).2.2) ∧ tagR l = []) ∨
    ((adrR (trS l)).2.2 = 0 ∧ ∃ u, printO (adrR (trS l)).1.uri = some u ∧ uriR l = (u, 0)) := by
  by_cases h : (adrR (trS l)).2.2 = 0
  · have hp := (adrR_NF _ h).printed
    refine .inr ⟨h, _, hp, ?_⟩
    unfold uriR
    rw [if_neg (by omega), hp]
    rfl
  · have hn := (adrR_ok (trS l)).1 h
    refine .inl ⟨h, hn, ?_, ?_⟩
    · unfold uriR; rw [if_pos h]
    · unfold tagR; rw [hn]; rfl
end Ad
end Go.Proofs.YtmmjfofdnpafkaaGreatDoor
