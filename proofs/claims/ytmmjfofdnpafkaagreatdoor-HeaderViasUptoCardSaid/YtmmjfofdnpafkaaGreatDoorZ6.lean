/- Texts of one set of library modules: M10, LxJSpec, LxLSpec, LxPcSpec. -/
import Derived.Test.YtmmjfofdnpafkaaGreatDoorZ1
import Derived.Lib.IndexMore
import Derived.Lib.SlTrimSet
import Derived.Lib.Strings
import Derived.Test.YtmmjfofdnpafkaaGreatDoorZ2
import Derived.RangeFuncNested
import Derived.RangeFuncBound
import Derived.RangeFuncCalls
import Derived.RangeFuncLeaves
import Derived.RangeFuncBox
import Derived.Shelf.Abstract
import Derived.Shelf.RegionOpen
import Derived.OwnWalkIn
import Derived.TacticsInMore
import Derived.LoopNIn
import Derived.LoopIn
import Derived.Shelf.Strings.SlTrimAscii
import Derived.Lib.IndexLaws
import Derived.Sort.CutIn
import Derived.ShutString
import Derived.Maps.AppendAt
namespace Go.Proofs.YtmmjfofdnpafkaaGreatDoor
namespace Lx
def crlf : List UInt8 := [13, 10]
def blk : List UInt8 := [32, 9]
def stray (l : List UInt8) (i : Nat) : Nat :=
 match l with
 | [] => i
 | c :: t =>
   if crlf.isPrefixOf (c :: t) then stray (t.drop 1) (i + 2)
   else if ctlI c.toNat && !(c :: t == [13]) then i else stray t (i + 1)
termination_by l.length
decreasing_by all_goals simp <;> omega
theorem stray_nil (i : Nat) : stray [] i = i := by rw [stray]
theorem stray_crlf (c : UInt8) (t : List UInt8) (i : Nat) (h : crlf.isPrefixOf (c :: t) = true) : stray (c :: t) i = stray (t.drop 1) (i + 2) := by rw [stray, if_pos h]
theorem stray_next (c : UInt8) (t : List UInt8) (i : Nat) (h : crlf.isPrefixOf (c :: t) = false) (h2 : (ctlI c.toNat && !(c :: t == [13])) = false) : stray (c :: t) i = stray t (i + 1) := by
 rw [stray, if_neg (by simp [h]), if_neg (by rw [h2]; simp)]
def physL (l : List UInt8) (i : Nat) : List (Nat × List UInt8) :=
 if l = [] then [] else (i, (Lib.cut l crlf).1) :: physL (l.drop ((Lib.cut l crlf).1.length + 2)) (i + ((Lib.cut l crlf).1.length + 2))
termination_by l.length
decreasing_by cases l <;> simp_all <;> omega
theorem physL_nil (i : Nat) : physL [] i = [] := by rw [physL]; simp
theorem physL_cons (l : List UInt8) (i : Nat) (h : l ≠ []) : physL l i = (i, (Lib.cut l crlf).1) :: physL (l.drop ((Lib.cut l crlf).1.length + 2)) (i + ((Lib.cut l crlf).1.length + 2)) := by
 rw [physL, if_neg h]
structure USt where
 ls : List (Nat × List UInt8)
 tx : List UInt8
def setLast (ls : List (Nat × List UInt8)) (tx : List UInt8) : List (Nat × List UInt8) := ls.dropLast ++ (match ls.getLast? with | some p => [(p.1, tx)] | none => [])
def endL (s : USt) : USt := if s.ls = [] then s else ⟨setLast s.ls s.tx, []⟩
def fresh (p : List UInt8) : Bool := match p with | [] => true | c :: _ => !blankI c.toNat
def addL (s : USt) (x : Nat × List UInt8) : USt := if fresh x.2 then ⟨(endL s).ls ++ [(x.1, [])], (endL s).tx⟩ else s
def join (tx p : List UInt8) : List UInt8 := (if tx ≠ [] ∧ p ≠ [] then tx ++ [32] else tx) ++ p
def stepU (s : USt) (x : Nat × List UInt8) : USt := ⟨(addL s x).ls, join (addL s x).tx (Lib.trimS x.2 blk)⟩
def foldU (xs : List (Nat × List UInt8)) : USt := xs.foldl stepU ⟨[], []⟩
theorem foldU_snoc (xs : List (Nat × List UInt8)) (x : Nat × List UInt8) : foldU (xs ++ [x]) = stepU (foldU xs) x := by simp [foldU]
def firstBlank (l : List UInt8) : Bool := match l with | [] => false | c :: _ => blankI c.toNat
def unfL (l : List UInt8) : List (Nat × List UInt8) :=
 if firstBlank l || decide (stray l 0 < l.length) || (!l.isEmpty && !Lib.hasSuffix l crlf) then [] else (endL (foldU (physL l 0))).ls
def unfAt (l : List UInt8) : Nat := if firstBlank l then 0 else if stray l 0 < l.length then stray l 0 else if !l.isEmpty && !Lib.hasSuffix l crlf then l.length else 0
def unfE (l : List UInt8) : Int := if firstBlank l then 5 else if stray l 0 < l.length then 5 else if !l.isEmpty && !Lib.hasSuffix l crlf then 6 else 0
end Lx
end Go.Proofs.YtmmjfofdnpafkaaGreatDoor
namespace Go.Proofs.YtmmjfofdnpafkaaGreatDoor
namespace Lx
open Go.RowKit Go.Shelf
attribute [local go_sem] Oper.semAt_some
def KpU (n₀ Bs : Nat) (A B : World) : Prop := Below n₀ A B ∧ B.heap[Bs]? = A.heap[Bs]?
theorem KpU.refl (n₀ Bs : Nat) (A : World) : KpU n₀ Bs A A := ⟨Below.refl _ _, rfl⟩
theorem KpU.trans {n₀ Bs : Nat} {A B C : World} (h : KpU n₀ Bs A B) (k : KpU n₀ Bs B C) : KpU n₀ Bs A C := ⟨h.1.trans k.1, k.2.trans h.2⟩
theorem KpU.put {n₀ Bs : Nat} {w : World} (hn : n₀ ≤ w.heap.size) (hb : Bs < w.heap.size) (W : World) (l : Nat) (o o' : Obj) (hl : w.heap.size ≤ l) (h : W.heap[l]? = some o) (hc : o.isCells = false) (hw : o.isWalk = false) : KpU n₀ Bs W (W.putObj l o') :=
 ⟨belowK_b hn W l o o' hl h hc hw, World.putObj_heap_other (by omega)⟩
abbrev PL := { x : Nat × List UInt8 // x.1 ≤ 4194304 ∧ x.2.length ≤ 2097152 }
def pcells (ls : List (Nat × List UInt8)) : List Value := ls.flatMap fun p => [.int .i64 (p.1 : Int), .string ⟨p.2.toArray⟩]
theorem pcells_length (ls : List (Nat × List UInt8)) : (pcells ls).length = ls.length * 2 := by
 induction ls with
 | nil => rfl
 | cons p t ih => simp [pcells] at ih ⊢; omega
theorem pcells_append (a b : List (Nat × List UInt8)) : pcells (a ++ b) = pcells a ++ pcells b := by simp [pcells]
end Lx
end Go.Proofs.YtmmjfofdnpafkaaGreatDoor
namespace Go.Proofs.YtmmjfofdnpafkaaGreatDoor
namespace Lx
open Go.RowKit Go.Shelf
attribute [local go_sem] Oper.semAt_some
theorem trim_set (s : ByteArray) (w : World) (hs : s.size ≤ 9223372036854775807) :
   Calls Tryz.prog 145 #[.string s, .string ⟨#[32, 9]⟩] w fun e w' => e = .returned (.string ⟨(Lib.trimS s.data.toList blk).toArray⟩) ∧ Below w.heap.size w w' :=
 Any.strings_Trim_laid Tryz.lays160 (by kernel_rfl) s ⟨#[32, 9]⟩ w hs (by decide) (ascii_of_all (by decide))
end Lx
end Go.Proofs.YtmmjfofdnpafkaaGreatDoor
namespace Go.Proofs.YtmmjfofdnpafkaaGreatDoor
namespace Lx
def rd (p : UInt8 → Bool) (l : List UInt8) : List UInt8 := (l.reverse.dropWhile p).reverse
theorem rd_nil (p : UInt8 → Bool) : rd p [] = [] := rfl
theorem rd_snoc (p : UInt8 → Bool) (l : List UInt8) (c : UInt8) : rd p (l ++ [c]) = if p c then rd p l else l ++ [c] := by
 unfold rd
 rw [List.reverse_append, List.reverse_singleton, List.singleton_append, List.dropWhile_cons]
 cases p c <;> simp
theorem rd_cons (p : UInt8 → Bool) (c : UInt8) (t : List UInt8) : rd p (c :: t) = if rd p t = [] then (if p c then [] else [c]) else c :: rd p t := by
 refine snoc_ind (P := fun t => rd p (c :: t) = if rd p t = [] then (if p c then [] else [c]) else c :: rd p t) ?_ ?_ t
 ·have := rd_snoc p [] c
  simp only [List.nil_append] at this
  rw [this, rd_nil]; simp
 ·intro t d ih
  rw [← List.cons_append, rd_snoc, rd_snoc, ih]
  cases p d <;> simp
theorem trim_swap (p : UInt8 → Bool) (l : List UInt8) : (rd p l).dropWhile p = rd p (l.dropWhile p) := by
 induction l with
 | nil => rfl
 | cons c t ih =>
   rw [rd_cons, List.dropWhile_cons]
   cases hc : p c
   ·simp only [Bool.false_eq_true, if_false]
    rw [rd_cons, hc]
    split
    ·simp [hc]
    ·rw [List.dropWhile_cons, hc]; simp
   ·simp only [if_true]
    rw [← ih]
    split
    ·rename_i h; rw [h]
    ·rw [List.dropWhile_cons, hc]; simp
theorem u8beq (c d : UInt8) : (c == d) = ((c.toNat : Int) == (d.toNat : Int)) := by
 rw [Bool.eq_iff_iff, beq_iff_eq, beq_iff_eq, ← UInt8.toNat_inj]; omega
theorem blk_contains (c : UInt8) : blk.contains c = blankI c.toNat := by
 have h1 : (c == 32) = ((c.toNat : Int) == 32) := u8beq c 32
 have h2 : (c == 9) = ((c.toNat : Int) == 9) := u8beq c 9
 simp only [blk, List.contains_cons, List.contains_nil, Bool.or_false]
 unfold blankI
 rw [← h1, ← h2]
def bb (c : UInt8) : Bool := blankI c.toNat
theorem trimS_eq (l : List UInt8) : Lib.trimS l blk = rd bb (l.dropWhile bb) := by
 have e : (blk.contains ·) = bb := by funext c; exact blk_contains c
 unfold Lib.trimS Lib.trimLeftS Lib.trimRightS
 rw [e]
 exact trim_swap bb l
theorem drop_run (l : List UInt8) : l.drop (runL blankI l) = l.dropWhile bb := by
 induction l with
 | nil => rfl
 | cons c t ih =>
   rw [List.dropWhile_cons]
   unfold runL
   show _ = if blankI c.toNat then _ else _
   cases h : blankI c.toNat
   ·simp
   ·simp [ih]
def endR (l : List UInt8) (i : Nat) : Nat × Int :=
 match l with
 | [] => (i, 6)
 | c :: t => if crlf.isPrefixOf (c :: t) then (i, 0) else if ctlI c.toNat && !(c :: t == [13]) then (i, 5) else endR t (i + 1)
theorem endR_nil (i : Nat) : endR [] i = (i, 6) := rfl
theorem endR_crlf (c : UInt8) (t : List UInt8) (i : Nat) (h : crlf.isPrefixOf (c :: t) = true) : endR (c :: t) i = (i, 0) := by unfold endR; rw [if_pos h]
theorem endR_bad (c : UInt8) (t : List UInt8) (i : Nat) (h : crlf.isPrefixOf (c :: t) = false) (h2 : (ctlI c.toNat && !(c :: t == [13])) = true) : endR (c :: t) i = (i, 5) := by
 unfold endR; rw [if_neg (by rw [h]; simp), if_pos h2]
theorem endR_next (c : UInt8) (t : List UInt8) (i : Nat) (h : crlf.isPrefixOf (c :: t) = false) (h2 : (ctlI c.toNat && !(c :: t == [13])) = false) : endR (c :: t) i = endR t (i + 1) := by
 conv => lhs; unfold endR
 rw [if_neg (by rw [h]; simp), if_neg (by rw [h2]; simp)]
theorem index_cons (c : UInt8) (t : List UInt8) : Lib.index (c :: t) crlf = if crlf.isPrefixOf (c :: t) then 0 else if Lib.index t crlf == -1 then -1 else Lib.index t crlf + 1 := rfl
theorem crlf_two (c : UInt8) (t : List UInt8) (h : crlf.isPrefixOf (c :: t) = true) : ∃ u, c = 13 ∧ t = 10 :: u := by
 cases t with
 | nil => simp [crlf, List.isPrefixOf] at h
 | cons d u =>
   simp only [crlf, List.isPrefixOf, Bool.and_true, Bool.and_eq_true, beq_iff_eq] at h
   exact ⟨u, h.1.symm, by rw [h.2]⟩
theorem endR_zero : ∀ (l : List UInt8) (i j : Nat), endR l i = (j, 0) → i ≤ j ∧ j + 2 ≤ i + l.length ∧ Lib.index l crlf = ((j - i : Nat) : Int) ∧ stray l i = stray (l.drop (j + 2 - i)) (j + 2) := by
 intro l
 induction l with
 | nil => intro i j h; rw [endR_nil] at h; simp at h
 | cons c t ih =>
   intro i j h
   cases hp : crlf.isPrefixOf (c :: t)
   ·cases hc : (ctlI c.toNat && !(c :: t == [13]))
    ·rw [endR_next c t i hp hc] at h
     obtain ⟨h1, h2, h3, h4⟩ := ih _ _ h
     refine ⟨by omega, by simp only [List.length_cons]; omega, ?_, ?_⟩
     ·rw [index_cons, hp, h3]
      simp only [Bool.false_eq_true, if_false]
      rw [if_neg (by rw [beq_iff_eq]; omega)]; omega
     ·rw [stray_next c t i hp hc, h4]
      have : j + 2 - i = (j + 2 - (i + 1)) + 1 := by omega
      rw [this, List.drop_succ_cons]
    ·rw [endR_bad c t i hp hc] at h; simp at h
   ·rw [endR_crlf c t i hp] at h
    simp at h
    subst h
    obtain ⟨u, rfl, rfl⟩ := crlf_two c t hp
    refine ⟨by omega, by simp, ?_, ?_⟩
    ·rw [index_cons, hp]; simp
    ·rw [stray_crlf _ _ _ hp]
     have : i + 2 - i = 2 := by omega
     rw [this]; rfl
theorem suf_none : ∀ (l : List UInt8), Lib.index l crlf = -1 → Lib.hasSuffix l crlf = false := by
 intro l
 induction l with
 | nil => intro _; rfl
 | cons c t ih =>
   intro h
   rw [index_cons] at h
   cases hp : crlf.isPrefixOf (c :: t)
   ·rw [hp] at h
    simp only [Bool.false_eq_true, if_false] at h
    have ht : Lib.index t crlf = -1 := by
     by_cases h2 : Lib.index t crlf = -1
     ·exact h2
     ·rw [if_neg (by rw [beq_iff_eq]; exact h2)] at h
      have := Lib.index_ge t crlf
      omega
    have h3 := ih ht
    have h3' : ¬ crlf <:+ t := by
     intro hh
     rw [← List.isSuffixOf_iff_suffix] at hh
     unfold Lib.hasSuffix at h3
     rw [hh] at h3; cases h3
    rw [Bool.eq_false_iff]
    intro hs
    unfold Lib.hasSuffix at hs
    rw [List.isSuffixOf_iff_suffix] at hs
    rw [List.suffix_cons_iff] at hs
    rcases hs with hs | hs
    ·rw [Bool.eq_false_iff] at hp
     apply hp
     rw [List.isPrefixOf_iff_prefix, ← hs]
     exact List.prefix_refl _
    ·exact h3' hs
   ·rw [hp] at h; simp at h
theorem endR_six : ∀ (l : List UInt8) (i j : Nat), endR l i = (j, 6) → j = i + l.length ∧ stray l i = i + l.length ∧ Lib.index l crlf = -1 := by
 intro l
 induction l with
 | nil => intro i j h; rw [endR_nil] at h; simp at h; subst h; rw [stray_nil]; exact ⟨rfl, rfl, rfl⟩
 | cons c t ih =>
   intro i j h
   simp only [List.length_cons]
   cases hp : crlf.isPrefixOf (c :: t)
   ·cases hc : (ctlI c.toNat && !(c :: t == [13]))
    ·rw [endR_next c t i hp hc] at h
     obtain ⟨h1, h2, h3⟩ := ih _ _ h
     rw [stray_next c t i hp hc, h2]
     refine ⟨by omega, by omega, ?_⟩
     rw [index_cons, hp, h3]; rfl
    ·rw [endR_bad c t i hp hc] at h; simp at h
   ·rw [endR_crlf c t i hp] at h; simp at h
theorem suf_drop (a r : List UInt8) (h : r ≠ []) : Lib.hasSuffix (a ++ [13, 10] ++ r) crlf = Lib.hasSuffix r crlf := by
 unfold Lib.hasSuffix
 rw [Bool.eq_iff_iff, List.isSuffixOf_iff_suffix, List.isSuffixOf_iff_suffix]
 constructor
 ·intro hb
  match r, h with
  | [x], _ =>
    exfalso
    obtain ⟨b, hb⟩ := hb
    have h2 := congrArg List.reverse hb
    simp [crlf] at h2
  | x :: y :: t, _ =>
    exact List.suffix_of_suffix_length_le hb (List.suffix_append _ _) (by simp [crlf])
 ·rintro ⟨b, hb⟩
  exact ⟨a ++ [13, 10] ++ b, by rw [List.append_assoc, hb]⟩
end Lx
end Go.Proofs.YtmmjfofdnpafkaaGreatDoor
namespace Go.Proofs.YtmmjfofdnpafkaaGreatDoor
namespace Lx
open Go.RowKit Go.Shelf
attribute [local go_sem] Oper.semAt_some
theorem setLast_length (ls : List (Nat × List UInt8)) (tx : List UInt8) : (setLast ls tx).length = ls.length := by
 unfold setLast
 cases h : ls.getLast? with
 | none => rw [List.getLast?_eq_none_iff] at h; simp [h]
 | some p =>
   have : ls ≠ [] := by intro e; subst e; simp at h
   have := List.length_pos_iff.2 this
   simp; omega
theorem endL_len (s : USt) : (endL s).ls.length = s.ls.length ∧ (endL s).tx.length ≤ s.tx.length := by
 unfold endL; split
 ·exact ⟨rfl, Nat.le_refl _⟩
 ·exact ⟨setLast_length _ _, by simp⟩
theorem trimS_le (l cs : List UInt8) : (Lib.trimS l cs).length ≤ l.length := by
 unfold Lib.trimS Lib.trimLeftS Lib.trimRightS
 have h1 := (List.dropWhile_sublist (l := (List.dropWhile (fun x => cs.contains x) l.reverse).reverse) (cs.contains ·)).length_le
 have h2 := (List.dropWhile_sublist (l := l.reverse) (cs.contains ·)).length_le
 simp at h1 h2 ⊢
 omega
theorem addL_len (s : USt) (x : Nat × List UInt8) : (addL s x).ls.length ≤ s.ls.length + 1 ∧ (addL s x).tx.length ≤ s.tx.length := by
 unfold addL
 have := endL_len s
 split
 ·simp; omega
 ·simp
theorem join_len (tx p : List UInt8) : (join tx p).length ≤ tx.length + 1 + p.length := by
 unfold join; split <;> simp <;> omega
theorem stepU_len (s : USt) (x : Nat × List UInt8) : (stepU s x).ls.length ≤ s.ls.length + 1 ∧ (stepU s x).tx.length ≤ s.tx.length + 1 + x.2.length := by
 unfold stepU
 have h1 := addL_len s x;have h2 := join_len (addL s x).tx (Lib.trimS x.2 blk);have h3 := trimS_le x.2 blk
 dsimp only at *
 omega
theorem infoPiece : (Tryz.prog.info? 110).map (fun i => (i.zero, i.size, i.bytes)) = some (some (.agg #[.int .i64 0, .string .empty]), 2, 24) := by kernel_rfl
theorem unf_ok (l : List UInt8) (h1 : firstBlank l = false) (h2 : stray l 0 = l.length) (h3 : (!l.isEmpty && !Lib.hasSuffix l crlf) = false) : unfL l = (endL (foldU (physL l 0))).ls ∧ unfAt l = 0 ∧ unfE l = 0 := by
 unfold unfL unfAt unfE
 rw [h1, h2, h3]
 simp
theorem keep_of_below {W W' : World} (h : Below W.heap.size W W') (ts : List TypeId) : KeepTy ts W W' := ⟨h.size, fun k _ hk _ => (h.block k (lt_of_some hk)).trans hk⟩
theorem cell_two_new (w : World) (x y : Value) (t : TypeId) : ∀ j u, [x, y][j]? = some u → (w.alloc (.cells #[x, y] t)).cell? ((⟨w.heap.size, 0, none⟩ : Addr).add j) = some u := by
 intro j u hj
 have hb : (w.alloc (.cells #[x, y] t)).heap[w.heap.size]? = some (.cells #[x, y] t (0, 0)) := World.alloc_heap_new w _
 match j, hj with
 | 0, hj => simp at hj; subst hj; exact (Lib.cell_of_heap hb _).trans rfl
 | 1, hj => simp at hj; subst hj; exact (Lib.cell_of_heap hb _).trans rfl
end Lx
end Go.Proofs.YtmmjfofdnpafkaaGreatDoor
namespace Go.Proofs.YtmmjfofdnpafkaaGreatDoor
namespace Lx
open Go.RowKit
def PcIn (w : World) (v : Value) (ls : List (Nat × List UInt8)) : Prop :=
 ∃ a c, v = .slice a ls.length c ∧ (ls ≠ [] → ∃ g, a = some ⟨g, 0, none⟩ ∧ ∀ j u, (pcells ls)[j]? = some u → w.cell? ⟨g, j, none⟩ = some u)
theorem pcells_pair (ls : List (Nat × List UInt8)) : ∀ (j : Nat) (x : Nat × List UInt8), ls[j]? = some x → (pcells ls)[j * 2]? = some (.int .i64 (x.1 : Int)) ∧ (pcells ls)[j * 2 + 1]? = some (.string ⟨x.2.toArray⟩) := by
 induction ls with
 | nil => intro j x h; simp at h
 | cons p t ih =>
   intro j x h
   have e : pcells (p :: t) = .int .i64 (p.1 : Int) :: .string ⟨p.2.toArray⟩ :: pcells t := by simp [pcells]
   cases j with
   | zero => simp at h; subst h; rw [e]; simp
   | succ j =>
     have h' := ih j x (by simpa using h)
     rw [e]
     have e2 : (j + 1) * 2 = j * 2 + 1 + 1 := by omega
     rw [e2]
     simpa using h'
theorem PcIn.of_row {w : World} {B : Nat} {v : Value} {ls : List (Nat × List UInt8)} (h : w.ownsRow B 110 2 v ls.length (pcells ls)) : PcIn w v ls := by
 rcases h.2 with ⟨rfl, h0⟩ | ⟨g, cap, cur, rfl, hB, hg, hr⟩
 ·refine ⟨none, 0, by rw [h0], fun hne => absurd (List.eq_nil_of_length_eq_zero h0) hne⟩
 ·refine ⟨_, _, rfl, fun _ => ⟨g, rfl, fun j u hu => ?_⟩⟩
  have hj : j < ls.length * 2 := by
   have := (List.getElem?_eq_some_iff.1 hu).1
   rw [pcells_length] at this; exact this
  rw [h.cellAt j hj]; exact hu
theorem PcIn.lt {w : World} {a : Option Addr} {n c : Nat} {ls : List (Nat × List UInt8)} (h : PcIn w (.slice a n c) ls) : n = ls.length := by
 obtain ⟨a', c', e, _⟩ := h
 injection e
theorem PcIn.at {w : World} {a : Option Addr} {n c : Nat} {ls : List (Nat × List UInt8)} (h : PcIn w (.slice a n c) ls) (k : Nat) (hk : k < ls.length) :
   ∃ g, a = some ⟨g, 0, none⟩ ∧ w.cell? ⟨g, k * 2, none⟩ = some (.int .i64 (ls[k].1 : Int)) ∧ w.cell? ⟨g, k * 2 + 1, none⟩ = some (.string ⟨ls[k].2.toArray⟩) := by
 obtain ⟨a', c', e, hc⟩ := h
 injection e with e1 e2 e3
 obtain ⟨g, hg, hall⟩ := hc (by intro hn; subst hn; simp at hk)
 have := pcells_pair ls k ls[k] (by simp [hk])
 exact ⟨g, e1.trans hg, hall _ _ this.1, hall _ _ this.2⟩
theorem cell_lt' {w : World} {a : Addr} {v : Value} (h : w.cell? a = some v) : a.block < w.heap.size := by
 rcases Nat.lt_or_ge a.block w.heap.size with h' | h'
 ·exact h'
 ·simp [World.cell?, Array.getElem?_eq_none h'] at h
theorem PcIn.below {w w' : World} {v : Value} {ls : List (Nat × List UInt8)} (h : PcIn w v ls) (hb : Below w.heap.size w w') : PcIn w' v ls := by
 obtain ⟨a, c, rfl, hc⟩ := h
 refine ⟨a, c, rfl, fun hne => ?_⟩
 obtain ⟨g, hg, hall⟩ := hc hne
 exact ⟨g, hg, fun j u hu => (hb.cell (p := ⟨g, j, none⟩) (cell_lt' (hall j u hu))).trans (hall j u hu)⟩
theorem PcIn.new (w : World) (ls : List (Nat × List UInt8)) (cs : Array Value) (hcs : cs.toList = pcells ls) : PcIn (w.alloc (.cells cs 110)) (.slice (some ⟨w.heap.size, 0, none⟩) ls.length ls.length) ls := by
 refine ⟨_, _, rfl, fun _ => ⟨_, rfl, fun j u hu => ?_⟩⟩
 have hb : (w.alloc (.cells cs 110)).heap[w.heap.size]? = some (.cells cs 110 (0, 0)) := World.alloc_heap_new w _
 rw [Lib.cell_of_heap hb, ← Array.getElem?_toList, hcs]
 exact hu
end Lx
end Go.Proofs.YtmmjfofdnpafkaaGreatDoor
namespace Go.Proofs.YtmmjfofdnpafkaaGreatDoor
namespace Lx
open Go.RowKit
end Lx
end Go.Proofs.YtmmjfofdnpafkaaGreatDoor
namespace Go.Proofs.YtmmjfofdnpafkaaGreatDoor
namespace Lx
open Go.RowKit
end Lx
end Go.Proofs.YtmmjfofdnpafkaaGreatDoor
namespace Go.Proofs.YtmmjfofdnpafkaaGreatDoor
namespace Lx
open Go.RowKit
theorem str_self (s : ByteArray) : s = ⟨s.data.toList.toArray⟩ := by cases s; simp
end Lx
end Go.Proofs.YtmmjfofdnpafkaaGreatDoor
namespace Go.Proofs.YtmmjfofdnpafkaaGreatDoor
namespace Lx
open Go.RowKit
set_option maxRecDepth 100000 in
set_option maxHeartbeats 1000000 in
theorem rtrim_any (s : ByteArray) (w : World) (hs : s.size ≤ 2147483648) :
   Calls Tryz.prog 76 #[.string s] w (Ret (.string ⟨(Lib.trimS s.data.toList blk).toArray⟩) w) := by
 have hb := bhd_le blankI s 0 (by omega)
 obtain ⟨r, hr⟩ : ∃ r, s.extract (bhd blankI s 0) s.size = r := ⟨_, rfl⟩
 have hrl : r.data.toList = s.data.toList.dropWhile bb := by
  rw [← hr, Lib.extract_data, List.take_of_length_le (by simp), ← drop_run]
  simp [bhd]
 have hrs : r.size ≤ 2147483648 := by rw [← hr]; simp; omega
 obtain ⟨k0, hk0⟩ : ∃ k0, bhd blankI s 0 = k0 := ⟨_, rfl⟩
 rw [hk0] at hb hr
 have HT := Lib.hid (by rw [trimS_eq, ← hrl] : Lib.trimS s.data.toList blk = rd bb r.data.toList)
 have Hr := Lib.hid hr;have Hk0 := Lib.hid hk0;clear hr hrl hk0
 go_enter Tryz.func76, Tryz.ntmps76
 go_wp2_with fail
 refine (rblanks_any s 0 _ (by unfold maxLen; omega)).mono ?_
 rintro e w' ⟨rfl, rfl⟩
 rw [bhd_zero, Hk0.out]
 go_wp2_with fail
 rw [Hr.out]
 go_loop [3] (fun i => ∃ n : Nat, n ≤ r.size ∧ i = .int .i64 n ∧ rd bb (r.data.toList.take n) = rd bb r.data.toList) (fun i => (intOf i).toNat)
 case atStart => exact ⟨r.size, Nat.le_refl _, congrArg (Value.int .i64) (by rw [← Hr.out]; simp), by rw [List.take_of_length_le (by rw [len_list]; exact Nat.le_refl _)]⟩
 case round =>
  obtain ⟨n, hn, rfl, he⟩ := hrel
  have He := Lib.hid he;clear he
  cases n with
  | zero =>
    have HF := Lib.hid (by rw [HT.out, ← He.out]; rfl : Lib.trimS s.data.toList blk = [])
    go_wp2_with fail
    go_ret
    exact ⟨by rw [HF.out]; rfl, rfl⟩
  | succ n =>
    have hts := take_snoc r n (by omega)
    have hlt : n < r.size := by omega
    have hi : ((n : Int) + 1 - 1) = (n : Int) := by omega
    cases hb : blankI r[n].toNat
    ·have HF := Lib.hid (by rw [HT.out, ← He.out, hts, rd_snoc, show bb r[n] = blankI r[n].toNat from rfl, hb]; simp : Lib.trimS s.data.toList blk = r.data.toList.take (n + 1))
     have Hb := Lib.hid hb;have Hi := Lib.hid hi;clear hb hts hi
     go_wp2_with fail
     refine (rblank_any _ _).mono ?_
     rintro e w' ⟨rfl, rfl⟩
     rw [Hb.out]
     go_wp2_with fail
     go_ret
     exact ⟨by rw [HF.out]; exact congrArg (fun x : ByteArray => Ending.returned (.string x)) (by rw [str_self (r.extract 0 (n + 1)), Lib.extract_data]; simp), rfl⟩
    ·have HN := Lib.hid (by rw [← He.out, hts, rd_snoc, show bb r[n] = blankI r[n].toNat from rfl, hb]; simp : rd bb (r.data.toList.take n) = rd bb r.data.toList)
     have Hb := Lib.hid hb;have Hi := Lib.hid hi;clear hb hts hi
     go_wp2_with fail
     refine (rblank_any _ _).mono ?_
     rintro e w' ⟨rfl, rfl⟩
     rw [Hb.out]
     go_wp2_with fail
     go_round
     case rel => exact ⟨n, by omega, by go_num, HN.out⟩
     case measure => simp [intOf]
def RInv (l : List UInt8) (k : Nat) (S : USt) : Prop :=
 k ≤ l.length ∧ (∃ pre, foldU pre = S ∧ pre ++ physL (l.drop k) k = physL l 0) ∧ stray l 0 = stray (l.drop k) k ∧ S.tx.length ≤ k ∧ S.ls.length ≤ k ∧ (0 < k → S.ls ≠ [] ∧ firstBlank l = false ∧ ∃ a, l.take k = a ++ [13, 10])
theorem RInv.start (l : List UInt8) : RInv l 0 ⟨[], []⟩ := ⟨Nat.zero_le _, ⟨[], rfl, rfl⟩, rfl, Nat.le_refl _, Nat.le_refl _, fun h => absurd h (Nat.lt_irrefl _)⟩
theorem RInv.done {l : List UInt8} {k : Nat} {S : USt} (h : RInv l k S) (hk : l.length ≤ k) : unfL l = (endL S).ls ∧ unfAt l = 0 ∧ unfE l = 0 := by
 obtain ⟨h1, ⟨pre, h2, h3⟩, h4, _, _, h6⟩ := h
 have hd : l.drop k = [] := List.drop_eq_nil_of_le hk
 rw [hd, physL_nil, List.append_nil] at h3
 rw [hd, stray_nil] at h4
 have hkl : k = l.length := by omega
 have hfb : firstBlank l = false := by
  rcases Nat.eq_zero_or_pos k with h0 | h0
  ·have : l = [] := List.eq_nil_of_length_eq_zero (by omega)
   rw [this]; rfl
  ·exact (h6 h0).2.1
 have hsf : (!l.isEmpty && !Lib.hasSuffix l crlf) = false := by
  rcases Nat.eq_zero_or_pos k with h0 | h0
  ·have : l = [] := List.eq_nil_of_length_eq_zero (by omega)
   rw [this]; rfl
  ·obtain ⟨a, ha⟩ := (h6 h0).2.2
   rw [List.take_of_length_le hk] at ha
   have : Lib.hasSuffix l crlf = true := by
    unfold Lib.hasSuffix
    rw [List.isSuffixOf_iff_suffix]
    exact ⟨a, ha.symm⟩
   rw [this]; simp
 obtain ⟨u1, u2, u3⟩ := unf_ok l hfb (by rw [h4, hkl]) hsf
 exact ⟨by rw [u1, ← h3, h2], u2, u3⟩
theorem RInv.six {l : List UInt8} {k j : Nat} {S : USt} (h : RInv l k S) (hf : k = 0 → firstBlank l = false) (hk : k < l.length) (he : endR (l.drop k) k = (j, 6)) : unfL l = [] ∧ unfAt l = j ∧ unfE l = 6 ∧ j = l.length := by
 obtain ⟨h1, _, h4, _, _, h6⟩ := h
 obtain ⟨e1, e2, e3⟩ := endR_six _ _ _ he
 rw [List.length_drop] at e1 e2
 have hfb : firstBlank l = false := by
  rcases Nat.eq_zero_or_pos k with h0 | h0
  ·exact hf h0
  ·exact (h6 h0).2.1
 have hs : stray l 0 = l.length := by rw [h4, e2]; omega
 have hne : l.drop k ≠ [] := by intro e; have := congrArg List.length e; simp at this; omega
 have hsf : Lib.hasSuffix l crlf = false := by
  rcases Nat.eq_zero_or_pos k with h0 | h0
  ·rw [h0] at e3; exact suf_none l e3
  ·obtain ⟨a, ha⟩ := (h6 h0).2.2
   have : l = a ++ [13, 10] ++ l.drop k := by rw [← ha, List.take_append_drop]
   rw [this, suf_drop _ _ hne]
   exact suf_none _ e3
 have hie : l.isEmpty = false := by cases l with | nil => simp at hk | cons => rfl
 refine ⟨?_, ?_, ?_, by omega⟩
 ·unfold unfL; rw [hfb, hs, hsf, hie]; simp
 ·unfold unfAt; rw [hfb, hs, hsf, hie]; simp; omega
 ·unfold unfE; rw [hfb, hs, hsf, hie]; simp
theorem row_cont (S : USt) (k : Nat) (p : List UInt8) (hf : fresh p = false) : stepU S (k, p) = ⟨S.ls, join S.tx (Lib.trimS p blk)⟩ := by
 have ha : addL S (k, p) = S := by simp [addL, hf]
 unfold stepU; rw [ha]
theorem RInv.step {l : List UInt8} {k j : Nat} {S : USt} (h : RInv l k S) (hf : k = 0 → firstBlank l = false) (hk : k < l.length) (he : endR (l.drop k) k = (j, 0)) :
   k ≤ j ∧ j + 2 ≤ l.length ∧ fresh ((l.drop k).take (j - k)) = (!blankI (l[k]'hk).toNat) ∧ RInv l (j + 2) (stepU S (k, (l.drop k).take (j - k))) := by
 obtain ⟨h1, ⟨pre, h2, h3⟩, h4, h5, h7, h6⟩ := h
 obtain ⟨e1, e2, e3, e4⟩ := endR_zero _ _ _ he
 rw [List.length_drop] at e2
 have hne : l.drop k ≠ [] := by intro e; have := congrArg List.length e; simp at this; omega
 have hcut : (Lib.cut (l.drop k) crlf).1 = (l.drop k).take (j - k) := by
  unfold Lib.cut; rw [e3, if_pos (by omega)]; simp
 obtain ⟨p, hp⟩ : ∃ p, (l.drop k).take (j - k) = p := ⟨_, rfl⟩
 have hpl : p.length = j - k := by rw [← hp]; simp; omega
 have hph : physL (l.drop k) k = (k, p) :: physL (l.drop (j + 2)) (j + 2) := by
  rw [physL_cons _ _ hne, hcut, hp, hpl, List.drop_drop]
  have : k + (j - k + 2) = j + 2 := by omega
  rw [this]
 have hd : l.drop k = l[k] :: l.drop (k + 1) := List.drop_eq_getElem_cons hk
 have hfr : fresh p = (!blankI (l[k]'hk).toNat) := by
  rcases Nat.eq_zero_or_pos (j - k) with h0 | h0
  ·have : p = [] := List.eq_nil_of_length_eq_zero (by omega)
   rw [this]
   have hpre : crlf.isPrefixOf (l.drop k) = true := by
    have := e3
    rw [hd, index_cons] at this
    rw [hd]
    by_cases hpp : crlf.isPrefixOf (l[k] :: l.drop (k + 1)) = true
    ·exact hpp
    ·rw [if_neg hpp] at this
     have hg := Lib.index_ge (l.drop (k + 1)) crlf
     split at this
     ·omega
     ·rename_i hq; rw [beq_iff_eq] at hq; omega
   rw [hd] at hpre
   obtain ⟨u, hu, _⟩ := crlf_two _ _ hpre
   rw [hu]; rfl
  ·rw [← hp, hd]
   obtain ⟨n, hn⟩ : ∃ n, j - k = n + 1 := ⟨j - k - 1, by omega⟩
   rw [hn]; rfl
 rw [hp]
 have hsl := stepU_len S (k, p)
 dsimp only at hsl
 have hfb : firstBlank l = false := by
  rcases Nat.eq_zero_or_pos k with h0 | h0
  ·exact hf h0
  ·exact (h6 h0).2.1
 refine ⟨e1, by omega, hfr, by omega, ⟨pre ++ [(k, p)], by rw [foldU_snoc, h2], ?_⟩, ?_, by omega, by omega, fun _ => ⟨?_, hfb, ?_⟩⟩
 ·rw [← h3, hph, List.append_assoc]; rfl
 ·rw [h4, e4, List.drop_drop]
  have : k + (j + 2 - k) = j + 2 := by omega
  rw [this]
 ·cases hfp : fresh p
  ·have hS : S.ls ≠ [] := by
     rcases Nat.eq_zero_or_pos k with h0 | h0
     ·exfalso
      have hb : blankI (l[k]'hk).toNat = true := by rw [hfp] at hfr; simpa using hfr.symm
      subst h0
      rw [List.drop_zero] at hd
      rw [hd] at hfb
      have : blankI (l[0]'hk).toNat = false := hfb
      rw [hb] at this; cases this
     ·exact (h6 h0).1
   rw [row_cont S k p hfp]; exact hS
  ·have ha : addL S (k, p) = ⟨(endL S).ls ++ [(k, [])], (endL S).tx⟩ := by simp [addL, hfp]
   unfold stepU; rw [ha]; simp
 ·have hjd : l.drop j = [13, 10] ++ l.drop (j + 2) := by
    have hlj : ∀ (m : List UInt8) (i x : Nat), endR m i = (x, 0) → crlf.isPrefixOf (m.drop (x - i)) = true := by
     intro m
     induction m with
     | nil => intro i x hx; rw [endR_nil] at hx; simp at hx
     | cons c t ih =>
       intro i x hx
       cases hpp : crlf.isPrefixOf (c :: t)
       ·cases hc : (ctlI c.toNat && !(c :: t == [13]))
        ·rw [endR_next c t i hpp hc] at hx
         have h9 := (endR_zero _ _ _ hx).1
         have : x - i = (x - (i + 1)) + 1 := by omega
         rw [this, List.drop_succ_cons]
         exact ih _ _ hx
        ·rw [endR_bad c t i hpp hc] at hx; simp at hx
       ·rw [endR_crlf c t i hpp] at hx
        simp at hx; subst hx; simpa using hpp
    have := hlj _ _ _ he
    rw [List.drop_drop, show k + (j - k) = j by omega] at this
    obtain ⟨u, hu⟩ := List.isPrefixOf_iff_prefix.1 this
    have h9 : l.drop (j + 2) = u := by rw [← List.drop_drop, ← hu]; rfl
    rw [h9]; exact hu.symm
  refine ⟨l.take j, ?_⟩
  rw [List.take_add, hjd]; simp
end Lx
end Go.Proofs.YtmmjfofdnpafkaaGreatDoor
namespace Go.Proofs.YtmmjfofdnpafkaaGreatDoor
namespace Lx
open Go.RowKit
def pcOf (l : List UInt8) (a b : Nat) : Nat × List UInt8 := (a + runL blankI ((l.take b).drop a), Lib.trimS ((l.take b).drop a) blk)
theorem sizePiece : (Tryz.prog.info? 110).map (·.size) = some 2 := by
 obtain ⟨i0, hi, hz0, hz1, hz2⟩ := info_parts infoPiece
 rw [hi, Option.map_some, hz1]
theorem trimRight_set (s : ByteArray) (w : World) (hs : s.size ≤ 9223372036854775807) :
   Calls Tryz.prog 251 #[.string s, .string ⟨#[32, 9]⟩] w fun e w' => e = .returned (.string ⟨(Lib.trimRightS s.data.toList blk).toArray⟩) ∧ Below w.heap.size w w' :=
 Any.strings_TrimRight_laid Tryz.lays162 (by kernel_rfl) s ⟨#[32, 9]⟩ w hs (by decide) (ascii_of_all (by decide))
theorem trim_of_left (l : List UInt8) : Lib.trimRightS (l.drop (runL blankI l)) blk = Lib.trimS l blk := by
 rw [drop_run, trimS_eq]
 have e : (blk.contains ·) = bb := by funext c; exact blk_contains c
 unfold Lib.trimRightS
 rw [e]; rfl
set_option maxRecDepth 100000 in
set_option maxHeartbeats 2000000 in
theorem piece_any (s : ByteArray) (a b : Nat) (w : World) (hs : s.size ≤ 2097152) (hab : a ≤ b) (hb : b ≤ s.size) :
   Calls Tryz.prog 165 #[.string s, .int .i64 a, .int .i64 b] w fun e w' => e = .returned (.agg #[.int .i64 (pcOf s.data.toList a b).1, .string ⟨(pcOf s.data.toList a b).2.toArray⟩]) ∧ Below w.heap.size w w' := by
 have hx : (s.extract 0 b).size = b := by simp; try omega
 obtain ⟨t, ht⟩ : ∃ t, s.extract 0 b = t := ⟨_, rfl⟩
 rw [ht] at hx
 have htl : t.data.toList = s.data.toList.take b := by rw [← ht, Lib.extract_data]; rfl
 have hrl := runL_le blankI ((s.data.toList.take b).drop a)
 simp only [List.length_drop, List.length_take, len_list] at hrl
 obtain ⟨n, hn⟩ : ∃ n, a + runL blankI ((s.data.toList.take b).drop a) = n := ⟨_, rfl⟩
 have hbz : bhd blankI t (min (a : Int).toNat t.size) = n := by
  rw [Int.toNat_natCast, Nat.min_eq_left (by omega)]
  unfold bhd
  rw [htl, hn]
 have hy : (s.extract n b).data.toList = ((s.data.toList.take b).drop a).drop (runL blankI ((s.data.toList.take b).drop a)) := by
  rw [Lib.extract_data, List.drop_drop, hn, List.drop_take]
 have hys : (s.extract n b).size ≤ 2097152 := by simp; omega
 obtain ⟨y, hyy⟩ : ∃ y, s.extract n b = y := ⟨_, rfl⟩
 rw [hyy] at hy hys
 have HP := Lib.hid (by unfold pcOf; rw [hn, ← trim_of_left, ← hy] : pcOf s.data.toList a b = (n, Lib.trimRightS y.data.toList blk))
 have Hbz := Lib.hid hbz;have Ht := Lib.hid ht;have Hy := Lib.hid hyy
 have hnb : n ≤ b := by omega
 clear ht htl hbz hyy hy hn
 rw [HP.out]
 go_enter Tryz.func165, Tryz.ntmps165
 go_wp2_with fail
 rw [Ht.out]
 refine (blanks_any t a _ (by unfold maxLen; omega)).mono ?_
 rintro e w' ⟨rfl, rfl⟩
 rw [Hbz.out]
 go_wp2_with fail
 rw [Hy.out]
 refine (trimRight_set y _ (by omega)).mono ?_
 rintro e w1 ⟨rfl, hB1⟩
 have hg := (hB1.block w.heap.size (by simp)).trans (World.alloc_heap_new w _)
 have hc0 := Lib.cell_of_heap hg 0;have hc1 := Lib.cell_of_heap hg 1
 have hf0 : w1.frozen? ⟨w.heap.size, 0, none⟩ = false := by simp [World.frozen?, hg]
 have hf1 : w1.frozen? ⟨w.heap.size, 1, none⟩ = false := by simp [World.frozen?, hg]
 have Hg := Lib.hid hg;clear hg
 simp at hc0 hc1
 go_wp2_with fail
 refine bodyPost_ret (results_cell_row rfl _ _ w.heap.size 110 #[.int .i64 n, .string ⟨(Lib.trimRightS y.data.toList blk).toArray⟩] (0, 0) _ rfl ?_ Tryz.underlying110 rfl sizePiece) rfl ?_
 ·have := Hg.out
  simp [World.setCell, Array.getElem?_modify, this]
 ·exact ⟨rfl, ((((Below.refl _ w).alloc (Nat.le_refl _) _).trans (hB1.mono (by simp))).setCell (Nat.le_refl _) _).setCell (Nat.le_refl _) _⟩
def skR (l : List UInt8) (k : Nat) : Nat × Int :=
 match l.drop k with
 | [] => (k, 6)
 | c :: t => if c.toNat = 34 then qEnd t (k + 1) else if c.toNat = 60 then (if Lib.indexByte (c :: t) 62 < 0 then (l.length, 6) else (k + (Lib.indexByte (c :: t) 62).toNat + 1, 0)) else if c.toNat = 62 then (k, 5) else (k + 1, 0)
theorem indexByte_lt (l : List UInt8) (c : UInt8) : Lib.indexByte l c < l.length ∧ -1 ≤ Lib.indexByte l c := by
 induction l with
 | nil => simp [Lib.indexByte]
 | cons d t ih =>
   unfold Lib.indexByte
   simp only [List.length_cons]
   split
   ·omega
   ·split <;> omega
theorem skR_at (s : ByteArray) (k : Nat) (h : k < s.size) : skR s.data.toList k = if s[k].toNat = 34 then qEnd (s.data.toList.drop (k + 1)) (k + 1) else if s[k].toNat = 60 then (if Lib.indexByte (s.data.toList.drop k) 62 < 0 then (s.size, 6) else (k + (Lib.indexByte (s.data.toList.drop k) 62).toNat + 1, 0)) else if s[k].toNat = 62 then (k, 5) else (k + 1, 0) := by
 unfold skR
 rw [drop_step s k h, len_list]
theorem skR_ok (s : ByteArray) (k : Nat) (h : k < s.size) (h2 : (skR s.data.toList k).2 = 0) : k < (skR s.data.toList k).1 ∧ (skR s.data.toList k).1 ≤ s.size := by
 rw [skR_at s k h] at h2 ⊢
 by_cases h34 : s[k].toNat = 34
 ·rw [if_pos h34] at h2 ⊢
  have := qEnd_part _ _ (k + 1) (qEnd (s.data.toList.drop (k + 1)) (k + 1)).1 (Nat.le_refl _) (by rw [← h2])
  rw [List.length_drop, len_list] at this
  omega
 ·rw [if_neg h34] at h2 ⊢
  by_cases h60 : s[k].toNat = 60
  ·rw [if_pos h60] at h2 ⊢
   have hi := (indexByte_lt (s.data.toList.drop k) 62).1
   rw [List.length_drop, len_list] at hi
   split at h2
   ·simp at h2
   ·rename_i hn
    rw [if_neg hn]
    dsimp only
    omega
  ·rw [if_neg h60] at h2 ⊢
   split at h2
   ·simp at h2
   ·rename_i hn
    rw [if_neg hn]
    dsimp only
    omega
theorem uq_at (s : ByteArray) (k : Nat) (h : k < s.size) (h34 : s[k].toNat = 34) : uqN s.data.toList k = (qEnd (s.data.toList.drop (k + 1)) (k + 1)).1 ∧ uqE s.data.toList k = (qEnd (s.data.toList.drop (k + 1)) (k + 1)).2 := by
 have ho : opE 34 s.data.toList k = 0 := by
  unfold opE
  rw [if_neg (by rw [len_list]; omega), Int.toNat_natCast, drop_step s k h]
  dsimp only
  rw [if_pos (by omega)]
 constructor
 ·unfold uqN; rw [if_neg (by rw [ho]; simp)]; rfl
 ·unfold uqE; rw [if_neg (by rw [ho]; simp)]; rfl
set_option maxRecDepth 100000 in
set_option maxHeartbeats 1000000 in
theorem skip_any (s : ByteArray) (k : Nat) (w : World) (hs : s.size ≤ 2097152) (hk : k < s.size) :
   Calls Tryz.prog 166 #[.string s, .int .i64 k] w (Ret (.tuple #[.int .i64 (skR s.data.toList k).1, .int .u8 (skR s.data.toList k).2]) w) := by
 have Hs := Lib.hid (skR_at s k hk)
 obtain ⟨R, hR⟩ : ∃ R, skR s.data.toList k = R := ⟨_, rfl⟩
 rw [hR] at Hs ⊢
 clear hR
 by_cases h34 : s[k].toNat = 34
 ·have HR := Lib.hid (by rw [Hs.out, if_pos h34] : R = qEnd (s.data.toList.drop (k + 1)) (k + 1))
  have Hu := Lib.hid (uq_at s k hk h34)
  have b34 : ((s[k].toNat : Int) == 34) = true := by simp; omega
  clear h34
  go_enter Tryz.func166, Tryz.ntmps166
  go_wp2_with fail
  refine (quotedEnd_any s k _ (by omega)).mono ?_
  rintro e w' ⟨rfl, rfl⟩
  rw [Hu.out.1, Hu.out.2, ← HR.out]
  go_wp2_with fail
  go_ret2
  exact ⟨rfl, rfl⟩
 ·have b34 : ((s[k].toNat : Int) == 34) = false := by simp; omega
  by_cases h60 : s[k].toNat = 60
  ·have b60 : ((s[k].toNat : Int) == 60) = true := by simp; omega
   obtain ⟨t, ht⟩ : ∃ t, s.extract k s.size = t := ⟨_, rfl⟩
   have htl : t.data.toList = s.data.toList.drop k := by rw [← ht, Lib.extract_data, List.take_of_length_le (by simp)]
   obtain ⟨x, hx⟩ : ∃ x, Lib.indexByte (s.data.toList.drop k) 62 = x := ⟨_, rfl⟩
   have hi := indexByte_lt (s.data.toList.drop k) 62
   rw [List.length_drop, len_list, hx] at hi
   have Hx := Lib.hid (by rw [htl]; exact hx : Lib.indexByte t.data.toList (62 : Int).toNat.toUInt8 = x)
   have HR := Lib.hid (by rw [Hs.out, if_neg h34, if_pos h60, hx] : R = if x < 0 then (s.size, 6) else (k + x.toNat + 1, 0))
   have Ht := Lib.hid ht;clear h34 h60 ht htl hx
   go_enter Tryz.func166, Tryz.ntmps166
   go_wp2_with fail
   rw [Ht.out]
   refine (Tryz.strings_IndexByte t 62 _).mono ?_
   rintro e w' ⟨rfl, hw⟩
   obtain rfl := hw.symm
   rw [Hx.out]
   by_cases hneg : x < 0
   ·have HR' := Lib.hid (by rw [HR.out, if_pos hneg] : R = (s.size, 6))
    go_wp2_with fail
    go_ret2
    exact ⟨by rw [HR'.out]; rfl, rfl⟩
   ·have HR' := Lib.hid (by rw [HR.out, if_neg hneg] : R = (k + x.toNat + 1, 0))
    have hx1 : 0 ≤ x := by omega
    have hx2 : x ≤ 2097152 := by omega
    go_wp2_with fail
    go_ret2
    exact ⟨by rw [HR'.out]; exact congrArg (fun y => Ending.returned (.tuple #[.int .i64 y, .int .u8 0])) (by omega), rfl⟩
  ·have b60 : ((s[k].toNat : Int) == 60) = false := by simp; omega
   by_cases h62 : s[k].toNat = 62
   ·have b62 : ((s[k].toNat : Int) == 62) = true := by simp; omega
    have HR' := Lib.hid (by rw [Hs.out, if_neg h34, if_neg h60, if_pos h62] : R = (k, 5))
    clear h34 h60 h62
    go_enter Tryz.func166, Tryz.ntmps166
    go_wp2_with fail
    go_ret2
    exact ⟨by rw [HR'.out]; rfl, rfl⟩
   ·have b62 : ((s[k].toNat : Int) == 62) = false := by simp; omega
    have HR' := Lib.hid (by rw [Hs.out, if_neg h34, if_neg h60, if_neg h62] : R = (k + 1, 0))
    clear h34 h60 h62
    go_enter Tryz.func166, Tryz.ntmps166
    go_wp2_with fail
    go_ret2
    exact ⟨by rw [HR'.out]; rfl, rfl⟩
end Lx
end Go.Proofs.YtmmjfofdnpafkaaGreatDoor
namespace Go.Proofs.YtmmjfofdnpafkaaGreatDoor
namespace Lx
abbrev SpRes := List (Nat × List UInt8) × Nat × Int
def spR (l : List UInt8) (sep : Int) : Nat → Nat → Nat → List (Nat × List UInt8) → SpRes
 | 0, a, _, acc => (acc ++ [pcOf l a l.length], 0, 0)
 | n + 1, a, k, acc => match l.drop k with
   | [] => (acc ++ [pcOf l a l.length], 0, 0)
   | c :: _ => if (c.toNat : Int) = sep then spR l sep n (k + 1) (k + 1) (acc ++ [pcOf l a k])
     else if (skR l k).2 = 0 then spR l sep n a (skR l k).1 acc else ([], (skR l k).1, (skR l k).2)
def sepBad (sep : Int) : Bool := blankI sep || sep == 34 || sep == 60 || sep == 62
def spF (l : List UInt8) (sep : Int) : SpRes := if sepBad sep then ([], 0, 2) else spR l sep l.length 0 0 []
theorem spR_end (s : ByteArray) (sep : Int) (n a k : Nat) (acc : List (Nat × List UInt8)) (h : s.size ≤ k) : spR s.data.toList sep n a k acc = (acc ++ [pcOf s.data.toList a s.size], 0, 0) := by
 cases n with
 | zero => unfold spR; rw [len_list]
 | succ n => unfold spR; rw [drop_end s k h, len_list]
theorem spR_sep (s : ByteArray) (sep : Int) (n a k : Nat) (acc : List (Nat × List UInt8)) (h : k < s.size) (h2 : (s[k].toNat : Int) = sep) : spR s.data.toList sep (n + 1) a k acc = spR s.data.toList sep n (k + 1) (k + 1) (acc ++ [pcOf s.data.toList a k]) := by
 conv => lhs; unfold spR
 rw [drop_step s k h]
 dsimp only
 rw [if_pos h2]
theorem spR_skip (s : ByteArray) (sep : Int) (n a k : Nat) (acc : List (Nat × List UInt8)) (h : k < s.size) (h2 : ¬ (s[k].toNat : Int) = sep) (h3 : (skR s.data.toList k).2 = 0) : spR s.data.toList sep (n + 1) a k acc = spR s.data.toList sep n a (skR s.data.toList k).1 acc := by
 conv => lhs; unfold spR
 rw [drop_step s k h]
 dsimp only
 rw [if_neg h2, if_pos h3]
theorem spR_err (s : ByteArray) (sep : Int) (n a k : Nat) (acc : List (Nat × List UInt8)) (h : k < s.size) (h2 : ¬ (s[k].toNat : Int) = sep) (h3 : ¬ (skR s.data.toList k).2 = 0) : spR s.data.toList sep (n + 1) a k acc = ([], (skR s.data.toList k).1, (skR s.data.toList k).2) := by
 conv => lhs; unfold spR
 rw [drop_step s k h]
 dsimp only
 rw [if_neg h2, if_neg h3]
theorem spR_len (l : List UInt8) (sep : Int) (n : Nat) : ∀ (a k : Nat) (acc : List (Nat × List UInt8)), (spR l sep n a k acc).1.length ≤ acc.length + n + 1 := by
 induction n with
 | zero => intro a k acc; unfold spR; simp
 | succ n ih =>
   intro a k acc
   unfold spR
   split
   ·simp
   ·split
    ·have := ih (k + 1) (k + 1) (acc ++ [pcOf l a k]); simp at this ⊢; omega
    ·split
     ·have := ih a (skR l k).1 acc; omega
     ·simp
end Lx
end Go.Proofs.YtmmjfofdnpafkaaGreatDoor
namespace Go.Proofs.YtmmjfofdnpafkaaGreatDoor
namespace Lx
open Go.RowKit
def SplPost (R : SpRes) (w : World) (e : Ending) (w' : World) : Prop :=
 ∃ v, e = .returned (.tuple #[v, .int .i64 (R.2.1 : Nat), .int .u8 R.2.2]) ∧ w'.ownsRow w.heap.size 110 2 v R.1.length (pcells R.1) ∧ Below w.heap.size w w'
set_option maxRecDepth 100000 in
set_option maxHeartbeats 4000000 in
theorem split_any (s : ByteArray) (sep : Int) (w : World) (hs : s.size ≤ 2097152) :
   Calls Tryz.prog 97 #[.string s, .int .u8 sep] w (SplPost (spF s.data.toList sep) w) := by
 obtain ⟨R, hR⟩ : ∃ R, spF s.data.toList sep = R := ⟨_, rfl⟩
 rw [hR]
 cases hb : blankI sep
 ·have Hb := Lib.hid hb
  by_cases hq : sep = 34 ∨ sep = 60 ∨ sep = 62
  ·have HR := Lib.hid (by rw [← hR]; unfold spF sepBad; rw [hb]; rcases hq with rfl | rfl | rfl <;> rfl : R = ([], 0, 2))
   clear hR hb
   rcases hq with rfl | rfl | rfl
   all_goals
    go_enter Tryz.func97, Tryz.ntmps97
    go_wp2_with fail
    refine (blank_any _ _).mono ?_
    rintro e w' ⟨rfl, rfl⟩
    rw [Hb.out]
    go_wp2_with fail
    go_ret3
    refine ⟨_, by rw [HR.out]; rfl, ?_, Below.refl _ _⟩
    rw [HR.out]; exact World.ownsRow_nil _ _ _ _
  ·have b1 : (sep == 34) = false := by rw [beq_eq_false_iff_ne]; omega
   have b2 : (sep == 60) = false := by rw [beq_eq_false_iff_ne]; omega
   have b3 : (sep == 62) = false := by rw [beq_eq_false_iff_ne]; omega
   have HR := Lib.hid (by rw [← hR]; unfold spF sepBad; rw [hb, b1, b2, b3]; simp : R = spR s.data.toList sep s.size 0 0 [])
   clear hR hb hq
   obtain ⟨i0, hi, hz0, hz1, hz2⟩ := info_parts infoPiece
   go_enter Tryz.func97, Tryz.ntmps97
   go_wp2_with fail
   refine (blank_any _ _).mono ?_
   rintro e w' ⟨rfl, rfl⟩
   rw [Hb.out]
   go_wp2_with fail
   go_loopw [7, 8, 9, 10, 11] (fun v f i _ _ wr => ∃ (a k n : Nat) (acc : List (Nat × List UInt8)), a ≤ k ∧ k ≤ s.size ∧ s.size - k ≤ n ∧ acc.length ≤ k ∧ f = .int .i64 a ∧ i = .int .i64 k ∧ spR s.data.toList sep n a k acc = R ∧ wr.ownsRow w.heap.size 110 2 v acc.length (pcells acc) ∧ Below w.heap.size w wr) (fun _ _ i _ _ _ => s.size - (intOf i).toNat)
   case atStart => exact ⟨0, 0, s.size, [], by omega, by omega, by omega, by simp, rfl, rfl, HR.out.symm, World.ownsRow_nil _ _ _ _, Below.refl _ _⟩
   case round =>
    obtain ⟨a, k, n, acc, hak, hk, hn, hal, rfl, rfl, hr, hown, hB⟩ := hrel
    have Hr := Lib.hid hr;have Ho := Lib.hid hown;have hsz := hB.size;clear hr hown
    by_cases hlt : k < s.size
    ·obtain ⟨n, rfl⟩ : ∃ m, n = m + 1 := ⟨n - 1, by omega⟩
     by_cases hse : (s[k].toNat : Int) = sep
     ·have hX := spR_sep s sep n a k acc hlt hse
      have HX := Lib.hid (hX.symm.trans Hr.out)
      have bs : ((s[k].toNat : Int) == sep) = true := by rw [beq_iff_eq]; exact hse
      clear hX hse
      obtain ⟨px, hpx⟩ : ∃ x, (pcOf s.data.toList a k).1 = x := ⟨_, rfl⟩
      obtain ⟨pt, hpt⟩ : ∃ x, (pcOf s.data.toList a k).2 = x := ⟨_, rfl⟩
      have Hpx := Lib.hid hpx;have Hpt := Lib.hid hpt
      have Hpc := Lib.hid (by rw [← hpx, ← hpt] : pcOf s.data.toList a k = (px, pt))
      clear hpx hpt
      go_wp2_with fail
      refine (piece_any s a k _ hs (by omega) (by omega)).mono ?_
      rintro e w2 ⟨rfl, hB2⟩
      rw [Hpx.out, Hpt.out]
      have hs2 := hB2.size
      have Hr2 := Lib.hid ((keep_of_below hB2 []).owns Ho.out (by simp))
      go_wp2_with (at_builtin; refine wpList_append_own _ rfl _ _ 106 rfl w.heap.size 110 i0 (.agg #[.int .i64 0, .string .empty]) 2 24 Tryz.underlying106 hi hz0 hz1 hz2 rfl (by decide) _ _ _ rfl (Hr2.out.alloc _) ⟨w2.heap.size, 0, none⟩ 1 1 [.int .i64 px, .string ⟨pt.toArray⟩] rfl rfl (cell_two_new _ _ _ _) (by simp [Value.oneCell']) ?c3 ?c4 ?c5 ?_)
      case c3 => unfold maxLen; omega
      case c4 => omega
      case c5 => simp; omega
      intro v' w3 hown' hgrow _
      have hB3 := ((hB.trans (hB2.mono (by omega))).alloc (by omega) (.cells #[.int .i64 px, .string ⟨pt.toArray⟩] 110)).grown hgrow (by simp; omega) (fun k' hk' => (Hr2.out.lt k' hk').1)
      have HO3 := Lib.hid (by rw [Hpc.out, pcells_append]; simpa [pcells] using hown' : w3.ownsRow w.heap.size 110 2 v' (acc ++ [pcOf s.data.toList a k]).length (pcells (acc ++ [pcOf s.data.toList a k])))
      clear hown' hgrow
      go_wp2_with fail
      go_roundw
      case rel => exact ⟨k + 1, k + 1, n, _, by omega, by omega, by omega, by simp; omega, by go_num, by go_num, HX.out, HO3.out, hB3⟩
      case measure => simp [intOf]; omega
     ·have bs : ((s[k].toNat : Int) == sep) = false := by rw [beq_eq_false_iff_ne]; exact hse
      by_cases h0 : (skR s.data.toList k).2 = 0
      ·have hX := spR_skip s sep n a k acc hlt hse h0
       have HX := Lib.hid (hX.symm.trans Hr.out);have hok := skR_ok s k hlt h0
       obtain ⟨j, hj⟩ : ∃ j, (skR s.data.toList k).1 = j := ⟨_, rfl⟩
       rw [hj] at hok
       have Hj := Lib.hid hj;have H0 := Lib.hid h0;clear hX h0 hj hse
       go_wp2_with fail
       refine (skip_any s k _ hs hlt).mono ?_
       rintro e w' ⟨rfl, rfl⟩
       rw [Hj.out, H0.out]
       go_wp2_with fail
       go_roundw
       case rel => exact ⟨a, j, n, acc, by omega, by omega, by omega, by omega, rfl, by go_num, by rw [← Hj.out]; exact HX.out, Ho.out, hB⟩
       case measure => simp [intOf]; omega
      ·have hX := spR_err s sep n a k acc hlt hse h0
       have HX := Lib.hid (Hr.out.symm.trans hX)
       obtain ⟨j, hj⟩ : ∃ j, (skR s.data.toList k).1 = j := ⟨_, rfl⟩
       obtain ⟨x, hx⟩ : ∃ j, (skR s.data.toList k).2 = j := ⟨_, rfl⟩
       rw [hx] at h0
       have hxb : (x != 0) = true := by simpa using h0
       have Hj := Lib.hid hj;have Hx := Lib.hid hx;clear hX h0 hj hx hse
       go_wp2_with fail
       refine (skip_any s k _ hs hlt).mono ?_
       rintro e w' ⟨rfl, rfl⟩
       rw [Hj.out, Hx.out]
       go_wp2_with fail
       go_ret3
       refine ⟨_, by rw [HX.out, Hj.out, Hx.out]; rfl, ?_, hB⟩
       rw [HX.out]; exact World.ownsRow_nil _ _ _ _
    ·have hX := spR_end s sep n a k acc (by omega)
     have HX := Lib.hid (Hr.out.symm.trans hX);clear hX
     obtain ⟨px, hpx⟩ : ∃ x, (pcOf s.data.toList a s.size).1 = x := ⟨_, rfl⟩
     obtain ⟨pt, hpt⟩ : ∃ x, (pcOf s.data.toList a s.size).2 = x := ⟨_, rfl⟩
     have Hpx := Lib.hid hpx;have Hpt := Lib.hid hpt
     have Hpc := Lib.hid (by rw [← hpx, ← hpt] : pcOf s.data.toList a s.size = (px, pt))
     clear hpx hpt
     go_wp2_with fail
     refine (piece_any s a s.size _ hs (by omega) (by omega)).mono ?_
     rintro e w2 ⟨rfl, hB2⟩
     rw [Hpx.out, Hpt.out]
     have hs2 := hB2.size
     have Hr2 := Lib.hid ((keep_of_below hB2 []).owns Ho.out (by simp))
     go_wp2_with (at_builtin; refine wpList_append_own _ rfl _ _ 106 rfl w.heap.size 110 i0 (.agg #[.int .i64 0, .string .empty]) 2 24 Tryz.underlying106 hi hz0 hz1 hz2 rfl (by decide) _ _ _ rfl (Hr2.out.alloc _) ⟨w2.heap.size, 0, none⟩ 1 1 [.int .i64 px, .string ⟨pt.toArray⟩] rfl rfl (cell_two_new _ _ _ _) (by simp [Value.oneCell']) ?c3 ?c4 ?c5 ?_)
     case c3 => unfold maxLen; omega
     case c4 => omega
     case c5 => simp; omega
     intro v' w3 hown' hgrow _
     have hB3 := ((hB.trans (hB2.mono (by omega))).alloc (by omega) (.cells #[.int .i64 px, .string ⟨pt.toArray⟩] 110)).grown hgrow (by simp; omega) (fun k' hk' => (Hr2.out.lt k' hk').1)
     have HO3 := Lib.hid (by rw [Hpc.out, pcells_append]; simpa [pcells] using hown' : w3.ownsRow w.heap.size 110 2 v' (acc ++ [pcOf s.data.toList a s.size]).length (pcells (acc ++ [pcOf s.data.toList a s.size])))
     clear hown' hgrow
     go_wp2_with fail
     go_ret3
     refine ⟨_, by rw [HX.out]; rfl, ?_, hB3⟩
     rw [HX.out]; exact HO3.out
 ·have HR := Lib.hid (by rw [← hR]; unfold spF sepBad; rw [hb]; rfl : R = ([], 0, 2))
  have Hb := Lib.hid hb;clear hR hb
  go_enter Tryz.func97, Tryz.ntmps97
  go_wp2_with fail
  refine (blank_any _ _).mono ?_
  rintro e w' ⟨rfl, rfl⟩
  rw [Hb.out]
  go_wp2_with fail
  go_ret3
  refine ⟨_, by rw [HR.out]; rfl, ?_, Below.refl _ _⟩
  rw [HR.out]; exact World.ownsRow_nil _ _ _ _
end Lx
end Go.Proofs.YtmmjfofdnpafkaaGreatDoor
namespace Go.Proofs.YtmmjfofdnpafkaaGreatDoor
namespace Lx
def Whole (A : List UInt8) : Prop := A = [] ∨ Lib.hasSuffix A crlf = true
def pre (P : List (Nat × List UInt8)) (S : USt) : USt := ⟨P ++ S.ls, S.tx⟩
end Lx
end Go.Proofs.YtmmjfofdnpafkaaGreatDoor
namespace Go.Proofs.YtmmjfofdnpafkaaGreatDoor
namespace Lx
def NoC (l : List UInt8) : Prop := ∀ c ∈ l, ctlI c.toNat = false
theorem NoC.tail {c : UInt8} {l : List UInt8} (h : NoC (c :: l)) : NoC l := fun d hd => h d (by simp [hd])
def LNB (l : List UInt8) : Prop := ∃ t c, l = t ++ [c] ∧ bb c = false
theorem LNB.drop {l : List UInt8} (h : LNB l) (k : Nat) (hk : k < l.length) : LNB (l.drop k) := by
 obtain ⟨t, c, rfl, hc⟩ := h
 simp at hk
 refine ⟨t.drop k, c, ?_, hc⟩
 rw [List.drop_append_of_le_length (by omega)]
end Lx
end Go.Proofs.YtmmjfofdnpafkaaGreatDoor
namespace Go.Proofs.YtmmjfofdnpafkaaGreatDoor
namespace Lx
def Tok (sep : Int) (u : List UInt8) : Prop :=
 u ≠ [] ∧ (∀ c t, u = c :: t → ¬ (c.toNat : Int) = sep) ∧ (∀ (s : ByteArray) (k : Nat) (y : List UInt8), s.data.toList.drop k = u ++ y → skR s.data.toList k = (k + u.length, 0)) ∧ ((∃ c, u = [c]) ∨ ∃ v d, u = v ++ [d] ∧ bb d = false)
inductive Sc (sep : Int) : List UInt8 → Prop
 | nil : Sc sep []
 | cons (u v : List UInt8) : Tok sep u → Sc sep v → Sc sep (u ++ v)
theorem Sc.one {sep : Int} {u : List UInt8} (h : Tok sep u) : Sc sep u := by have := Sc.cons u [] h .nil; rwa [List.append_nil] at this
def tl (c : UInt8) (ts : List (List UInt8)) : List UInt8 := ts.flatMap fun t => c :: t
def pcs (off : Nat) : List (List UInt8) → List (Nat × List UInt8)
 | [] => []
 | t :: ts => (off + runL blankI t, Lib.trimS t blk) :: pcs (off + t.length + 1) ts
def jn (c : UInt8) : List (List UInt8) → List UInt8
 | [] => []
 | y :: ys => y ++ tl c ys
theorem jn_snoc (c : UInt8) (ys : List (List UInt8)) (y : List UInt8) : jn c (ys ++ [y]) = if ys = [] then y else jn c ys ++ [c] ++ y := by
 cases ws : ys with
 | nil => simp [jn, tl]
 | cons z zs => simp [jn, tl]
theorem pcs_texts : ∀ (ts : List (List UInt8)) (off : Nat), (pcs off ts).map (·.2) = ts.map (fun t => Lib.trimS t blk) := by
 intro ts
 induction ts with
 | nil => intro off; rfl
 | cons t ts ih => intro off; unfold pcs; rw [List.map_cons, List.map_cons, ih]
theorem pcs_len : ∀ (ts : List (List UInt8)) (off : Nat), (pcs off ts).length = ts.length := by
 intro ts off
 have := congrArg List.length (pcs_texts ts off)
 simpa using this
end Lx
end Go.Proofs.YtmmjfofdnpafkaaGreatDoor
