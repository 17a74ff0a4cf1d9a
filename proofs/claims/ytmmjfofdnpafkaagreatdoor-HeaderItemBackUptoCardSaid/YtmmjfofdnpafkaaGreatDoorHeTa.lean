/- What the law HeaderTagged asks of plain texts: an address that is written stands without blanks at both ends, and a tag that is set is found. No program. -/
import Derived.Test.YtmmjfofdnpafkaaGreatDoorHeR
import Derived.Test.YtmmjfofdnpafkaaGreatDoorAdTu
import Derived.Test.YtmmjfofdnpafkaaGreatDoorAdSo
import Derived.Test.YtmmjfofdnpafkaaGreatDoorAdRp
import Derived.Test.YtmmjfofdnpafkaaGreatDoorAdVb
import Derived.Test.YtmmjfofdnpafkaaGreatDoorM7
import Derived.Test.YtmmjfofdnpafkaaGreatDoorM11
import Derived.Test.YtmmjfofdnpafkaaGreatDoorAdSt
import Derived.Test.YtmmjfofdnpafkaaGreatDoorM1
namespace Go.Proofs.YtmmjfofdnpafkaaGreatDoor
namespace Ad
open Go.RowKit Lx

theorem trS_self (l m n : List UInt8) (c d : UInt8) (h1 : l = c :: m) (h2 : l = n ++ [d]) (hc : bb c = false) (hd : bb d = false) : trS l = l := by
  show Lib.trimS l blk = l
  rw [trimS_eq]
  have e : l.dropWhile bb = l := by rw [h1, List.dropWhile_cons, hc]; rfl
  rw [e]
  unfold rd
  rw [h2, List.reverse_append, List.reverse_singleton, List.singleton_append, List.dropWhile_cons, hd]
  simp
def NEnd (t : List UInt8) : Prop := ∃ n d, t = n ++ [d] ∧ bb d = false
theorem NEnd.pre {t : List UInt8} (h : NEnd t) (a : List UInt8) : NEnd (a ++ t) := by
  obtain ⟨n, d, rfl, hd⟩ := h
  exact ⟨a ++ n, d, by simp, hd⟩
theorem tok_end (v : List UInt8) (h : tokB v = true) : NEnd v := by
  obtain ⟨h1, h2⟩ := (tokB_iff v).1 h
  rcases List.eq_nil_or_concat v with rfl | ⟨u, a, rfl⟩
  · exact absurd rfl h1
  · rw [List.concat_eq_append] at h2 ⊢
    exact ⟨u, a, rfl, tok_blank _ (h2 a (by simp))⟩
theorem host_end (v : List UInt8) (h : v.head? = some 91) (h2 : hostO v = some v) : NEnd v := by
  unfold hostO at h2
  rw [if_pos h] at h2
  cases v with
  | nil => cases h
  | cons c t =>
    rw [List.tail_cons] at h2
    split at h2
    · rename_i h3
      rcases List.eq_nil_or_concat t with rfl | ⟨u, a, rfl⟩
      · cases h3
      · rw [List.concat_eq_append] at h3 ⊢
        rw [List.getLast?_append, List.getLast?_singleton] at h3
        simp at h3
        subst h3
        exact ⟨c :: u, 93, rfl, by decide⟩
    · cases h2
theorem pv_end (v : List UInt8) : NEnd (pvL v) := by
  unfold pvL
  split
  · rename_i h
    rw [Bool.or_eq_true, Bool.and_eq_true, decide_eq_true_eq, decide_eq_true_eq] at h
    rcases h with h | h
    · exact tok_end v h
    · exact host_end v h.1 h.2
  · exact ⟨[34] ++ escL v, 34, rfl, by decide⟩
theorem pp_end (p : Prm) (h : ppB p = true) : NEnd (ppL p) := by
  unfold ppB at h
  simp only [Bool.and_eq_true] at h
  unfold ppL
  split
  · have := ((pv_end p.2.1).pre [61]).pre (59 :: p.1)
    exact this
  · rw [List.append_nil]
    exact (tok_end p.1 h.1.1.1).pre [59]
theorem ppF_all : ∀ (l acc : List Prm) (x : List UInt8), ppF l acc = some x → ∀ p ∈ l, ppB p = true := by
  intro l
  induction l with
  | nil => intro acc x _ p hp; cases hp
  | cons q t ih =>
    intro acc x h p hp
    obtain ⟨h1, _, T', h3, _⟩ := ppF_cons q t acc x h
    rcases List.mem_cons.1 hp with rfl | hp
    · exact h1
    · exact ih _ _ h3 p hp
theorem ppO_end (l : List Prm) (x : List UInt8) (h : ppO l = some x) : x = [] ∨ NEnd x := by
  have ha := ppF_all l [] x h
  obtain ⟨_, _, rfl⟩ := ppO_some l x h
  rcases List.eq_nil_or_concat l with rfl | ⟨u, a, rfl⟩
  · exact .inl rfl
  · rw [List.concat_eq_append] at ha ⊢
    rw [List.flatMap_append, List.flatMap_singleton]
    exact .inr ((pp_end a (ha a (by simp))).pre _)
theorem NF.printed {n : Uri} (h : NF n) : printO n = some (textU n) := by unfold printO; rw [h.normal]; rfl
end Ad
end Go.Proofs.YtmmjfofdnpafkaaGreatDoor
