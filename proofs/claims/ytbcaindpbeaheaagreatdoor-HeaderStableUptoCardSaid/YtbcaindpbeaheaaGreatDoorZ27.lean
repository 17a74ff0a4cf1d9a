/- Texts of one set of library modules: LxRUSpec. -/
import Derived.Test.YtbcaindpbeaheaaGreatDoorZ24
import Derived.Test.YtbcaindpbeaheaaGreatDoorZ5
import Derived.Lib.IndexLaws
namespace Go.Proofs.YtbcaindpbeaheaaGreatDoor
namespace Lx
def rd (p : UInt8 → Bool) (l : List UInt8) : List UInt8 := (l.reverse.dropWhile p).reverse
theorem rd_nil (p : UInt8 → Bool) : rd p [] = [] := rfl
theorem rd_snoc (p : UInt8 → Bool) (l : List UInt8) (c : UInt8) : rd p (l ++ [c]) = if p c then rd p l else l ++ [c] := by
 unfold rd
 rw [List.reverse_append, List.reverse_singleton, List.singleton_append, List.dropWhile_cons]
 cases p c <;> simp
theorem rd_cons (p : UInt8 → Bool) (c : UInt8) (t : List UInt8) : rd p (c :: t) = if rd p t = [] then (if p c then [] else [c]) else c :: rd p t := by
 refine snoc_ind (P := fun t => rd p (c :: t) = if rd p t = [] then (if p c then [] else [c]) else c :: rd p t) ?_ ?_ t
 ·have := rd_snoc p [] c
  simp only [List.nil_append] at this
  rw [this, rd_nil]; simp
 ·intro t d ih
  rw [← List.cons_append, rd_snoc, rd_snoc, ih]
  cases p d <;> simp
theorem trim_swap (p : UInt8 → Bool) (l : List UInt8) : (rd p l).dropWhile p = rd p (l.dropWhile p) := by
 induction l with
 | nil => rfl
 | cons c t ih =>
   rw [rd_cons, List.dropWhile_cons]
   cases hc : p c
   ·simp only [Bool.false_eq_true, if_false]
    rw [rd_cons, hc]
    split
    ·simp [hc]
    ·rw [List.dropWhile_cons, hc]; simp
   ·simp only [if_true]
    rw [← ih]
    split
    ·rename_i h; rw [h]
    ·rw [List.dropWhile_cons, hc]; simp
theorem u8beq (c d : UInt8) : (c == d) = ((c.toNat : Int) == (d.toNat : Int)) := by
 rw [Bool.eq_iff_iff, beq_iff_eq, beq_iff_eq, ← UInt8.toNat_inj]; omega
theorem blk_contains (c : UInt8) : blk.contains c = blankI c.toNat := by
 have h1 : (c == 32) = ((c.toNat : Int) == 32) := u8beq c 32
 have h2 : (c == 9) = ((c.toNat : Int) == 9) := u8beq c 9
 simp only [blk, List.contains_cons, List.contains_nil, Bool.or_false]
 unfold blankI
 rw [← h1, ← h2]
def bb (c : UInt8) : Bool := blankI c.toNat
theorem trimS_eq (l : List UInt8) : Lib.trimS l blk = rd bb (l.dropWhile bb) := by
 have e : (blk.contains ·) = bb := by funext c; exact blk_contains c
 unfold Lib.trimS Lib.trimLeftS Lib.trimRightS
 rw [e]
 exact trim_swap bb l
theorem drop_run (l : List UInt8) : l.drop (runL blankI l) = l.dropWhile bb := by
 induction l with
 | nil => rfl
 | cons c t ih =>
   rw [List.dropWhile_cons]
   unfold runL
   show _ = if blankI c.toNat then _ else _
   cases h : blankI c.toNat
   ·simp
   ·simp [ih]
def endR (l : List UInt8) (i : Nat) : Nat × Int :=
 match l with
 | [] => (i, 6)
 | c :: t => if crlf.isPrefixOf (c :: t) then (i, 0) else if ctlI c.toNat && !(c :: t == [13]) then (i, 5) else endR t (i + 1)
theorem endR_nil (i : Nat) : endR [] i = (i, 6) := rfl
theorem endR_crlf (c : UInt8) (t : List UInt8) (i : Nat) (h : crlf.isPrefixOf (c :: t) = true) : endR (c :: t) i = (i, 0) := by unfold endR; rw [if_pos h]
theorem endR_bad (c : UInt8) (t : List UInt8) (i : Nat) (h : crlf.isPrefixOf (c :: t) = false) (h2 : (ctlI c.toNat && !(c :: t == [13])) = true) : endR (c :: t) i = (i, 5) := by
 unfold endR; rw [if_neg (by rw [h]; simp), if_pos h2]
theorem endR_next (c : UInt8) (t : List UInt8) (i : Nat) (h : crlf.isPrefixOf (c :: t) = false) (h2 : (ctlI c.toNat && !(c :: t == [13])) = false) : endR (c :: t) i = endR t (i + 1) := by
 conv => lhs; unfold endR
 rw [if_neg (by rw [h]; simp), if_neg (by rw [h2]; simp)]
theorem index_cons (c : UInt8) (t : List UInt8) : Lib.index (c :: t) crlf = if crlf.isPrefixOf (c :: t) then 0 else if Lib.index t crlf == -1 then -1 else Lib.index t crlf + 1 := rfl
theorem index_nil : Lib.index [] crlf = -1 := rfl
theorem crlf_two (c : UInt8) (t : List UInt8) (h : crlf.isPrefixOf (c :: t) = true) : ∃ u, c = 13 ∧ t = 10 :: u := by
 cases t with
 | nil => simp [crlf, List.isPrefixOf] at h
 | cons d u =>
   simp only [crlf, List.isPrefixOf, Bool.and_true, Bool.and_eq_true, beq_iff_eq] at h
   exact ⟨u, h.1.symm, by rw [h.2]⟩
theorem endR_zero : ∀ (l : List UInt8) (i j : Nat), endR l i = (j, 0) → i ≤ j ∧ j + 2 ≤ i + l.length ∧ Lib.index l crlf = ((j - i : Nat) : Int) ∧ stray l i = stray (l.drop (j + 2 - i)) (j + 2) := by
 intro l
 induction l with
 | nil => intro i j h; rw [endR_nil] at h; simp at h
 | cons c t ih =>
   intro i j h
   cases hp : crlf.isPrefixOf (c :: t)
   ·cases hc : (ctlI c.toNat && !(c :: t == [13]))
    ·rw [endR_next c t i hp hc] at h
     obtain ⟨h1, h2, h3, h4⟩ := ih _ _ h
     refine ⟨by omega, by simp only [List.length_cons]; omega, ?_, ?_⟩
     ·rw [index_cons, hp, h3]
      simp only [Bool.false_eq_true, if_false]
      rw [if_neg (by rw [beq_iff_eq]; omega)]; omega
     ·rw [stray_next c t i hp hc, h4]
      have : j + 2 - i = (j + 2 - (i + 1)) + 1 := by omega
      rw [this, List.drop_succ_cons]
    ·rw [endR_bad c t i hp hc] at h; simp at h
   ·rw [endR_crlf c t i hp] at h
    simp at h
    subst h
    obtain ⟨u, rfl, rfl⟩ := crlf_two c t hp
    refine ⟨by omega, by simp, ?_, ?_⟩
    ·rw [index_cons, hp]; simp
    ·rw [stray_crlf _ _ _ hp]
     have : i + 2 - i = 2 := by omega
     rw [this]; rfl
theorem suf_none : ∀ (l : List UInt8), Lib.index l crlf = -1 → Lib.hasSuffix l crlf = false := by
 intro l
 induction l with
 | nil => intro _; rfl
 | cons c t ih =>
   intro h
   rw [index_cons] at h
   cases hp : crlf.isPrefixOf (c :: t)
   ·rw [hp] at h
    simp only [Bool.false_eq_true, if_false] at h
    have ht : Lib.index t crlf = -1 := by
     by_cases h2 : Lib.index t crlf = -1
     ·exact h2
     ·rw [if_neg (by rw [beq_iff_eq]; exact h2)] at h
      have := Lib.index_ge t crlf
      omega
    have h3 := ih ht
    have h3' : ¬ crlf <:+ t := by
     intro hh
     rw [← List.isSuffixOf_iff_suffix] at hh
     unfold Lib.hasSuffix at h3
     rw [hh] at h3; cases h3
    rw [Bool.eq_false_iff]
    intro hs
    unfold Lib.hasSuffix at hs
    rw [List.isSuffixOf_iff_suffix] at hs
    rw [List.suffix_cons_iff] at hs
    rcases hs with hs | hs
    ·rw [Bool.eq_false_iff] at hp
     apply hp
     rw [List.isPrefixOf_iff_prefix, ← hs]
     exact List.prefix_refl _
    ·exact h3' hs
   ·rw [hp] at h; simp at h
theorem endR_six : ∀ (l : List UInt8) (i j : Nat), endR l i = (j, 6) → j = i + l.length ∧ stray l i = i + l.length ∧ Lib.index l crlf = -1 := by
 intro l
 induction l with
 | nil => intro i j h; rw [endR_nil] at h; simp at h; subst h; rw [stray_nil]; exact ⟨rfl, rfl, rfl⟩
 | cons c t ih =>
   intro i j h
   simp only [List.length_cons]
   cases hp : crlf.isPrefixOf (c :: t)
   ·cases hc : (ctlI c.toNat && !(c :: t == [13]))
    ·rw [endR_next c t i hp hc] at h
     obtain ⟨h1, h2, h3⟩ := ih _ _ h
     rw [stray_next c t i hp hc, h2]
     refine ⟨by omega, by omega, ?_⟩
     rw [index_cons, hp, h3]; rfl
    ·rw [endR_bad c t i hp hc] at h; simp at h
   ·rw [endR_crlf c t i hp] at h; simp at h
theorem suf_drop (a r : List UInt8) (h : r ≠ []) : Lib.hasSuffix (a ++ [13, 10] ++ r) crlf = Lib.hasSuffix r crlf := by
 unfold Lib.hasSuffix
 rw [Bool.eq_iff_iff, List.isSuffixOf_iff_suffix, List.isSuffixOf_iff_suffix]
 constructor
 ·intro hb
  match r, h with
  | [x], _ =>
    exfalso
    obtain ⟨b, hb⟩ := hb
    have h2 := congrArg List.reverse hb
    simp [crlf] at h2
  | x :: y :: t, _ =>
    exact List.suffix_of_suffix_length_le hb (List.suffix_append _ _) (by simp [crlf])
 ·rintro ⟨b, hb⟩
  exact ⟨a ++ [13, 10] ++ b, by rw [List.append_assoc, hb]⟩
end Lx
end Go.Proofs.YtbcaindpbeaheaaGreatDoor
