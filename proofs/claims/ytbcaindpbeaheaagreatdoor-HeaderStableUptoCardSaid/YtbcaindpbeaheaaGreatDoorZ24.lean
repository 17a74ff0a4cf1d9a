/- Texts of one set of library modules: LxUSpec. -/
import Derived.Test.YtbcaindpbeaheaaGreatDoorZ1
import Derived.Lib.IndexMore
import Derived.Lib.SlTrimSet
import Derived.Lib.Strings
namespace Go.Proofs.YtbcaindpbeaheaaGreatDoor
namespace Lx
def crlf : List UInt8 := [13, 10]
def blk : List UInt8 := [32, 9]
def stray (l : List UInt8) (i : Nat) : Nat :=
 match l with
 | [] => i
 | c :: t =>
   if crlf.isPrefixOf (c :: t) then stray (t.drop 1) (i + 2)
   else if ctlI c.toNat && !(c :: t == [13]) then i else stray t (i + 1)
termination_by l.length
decreasing_by all_goals simp <;> omega
theorem stray_nil (i : Nat) : stray [] i = i := by rw [stray]
theorem stray_crlf (c : UInt8) (t : List UInt8) (i : Nat) (h : crlf.isPrefixOf (c :: t) = true) : stray (c :: t) i = stray (t.drop 1) (i + 2) := by rw [stray, if_pos h]
theorem stray_next (c : UInt8) (t : List UInt8) (i : Nat) (h : crlf.isPrefixOf (c :: t) = false) (h2 : (ctlI c.toNat && !(c :: t == [13])) = false) : stray (c :: t) i = stray t (i + 1) := by
 rw [stray, if_neg (by simp [h]), if_neg (by rw [h2]; simp)]
def physL (l : List UInt8) (i : Nat) : List (Nat × List UInt8) :=
 if l = [] then [] else (i, (Lib.cut l crlf).1) :: physL (l.drop ((Lib.cut l crlf).1.length + 2)) (i + ((Lib.cut l crlf).1.length + 2))
termination_by l.length
decreasing_by cases l <;> simp_all <;> omega
theorem physL_nil (i : Nat) : physL [] i = [] := by rw [physL]; simp
theorem physL_cons (l : List UInt8) (i : Nat) (h : l ≠ []) : physL l i = (i, (Lib.cut l crlf).1) :: physL (l.drop ((Lib.cut l crlf).1.length + 2)) (i + ((Lib.cut l crlf).1.length + 2)) := by
 rw [physL, if_neg h]
structure USt where
 ls : List (Nat × List UInt8)
 tx : List UInt8
def setLast (ls : List (Nat × List UInt8)) (tx : List UInt8) : List (Nat × List UInt8) := ls.dropLast ++ (match ls.getLast? with | some p => [(p.1, tx)] | none => [])
def endL (s : USt) : USt := if s.ls = [] then s else ⟨setLast s.ls s.tx, []⟩
def fresh (p : List UInt8) : Bool := match p with | [] => true | c :: _ => !blankI c.toNat
def addL (s : USt) (x : Nat × List UInt8) : USt := if fresh x.2 then ⟨(endL s).ls ++ [(x.1, [])], (endL s).tx⟩ else s
def join (tx p : List UInt8) : List UInt8 := (if tx ≠ [] ∧ p ≠ [] then tx ++ [32] else tx) ++ p
def stepU (s : USt) (x : Nat × List UInt8) : USt := ⟨(addL s x).ls, join (addL s x).tx (Lib.trimS x.2 blk)⟩
def foldU (xs : List (Nat × List UInt8)) : USt := xs.foldl stepU ⟨[], []⟩
theorem foldU_snoc (xs : List (Nat × List UInt8)) (x : Nat × List UInt8) : foldU (xs ++ [x]) = stepU (foldU xs) x := by simp [foldU]
def firstBlank (l : List UInt8) : Bool := match l with | [] => false | c :: _ => blankI c.toNat
def unfL (l : List UInt8) : List (Nat × List UInt8) :=
 if firstBlank l || decide (stray l 0 < l.length) || (!l.isEmpty && !Lib.hasSuffix l crlf) then [] else (endL (foldU (physL l 0))).ls
def unfAt (l : List UInt8) : Nat := if firstBlank l then 0 else if stray l 0 < l.length then stray l 0 else if !l.isEmpty && !Lib.hasSuffix l crlf then l.length else 0
def unfE (l : List UInt8) : Int := if firstBlank l then 5 else if stray l 0 < l.length then 5 else if !l.isEmpty && !Lib.hasSuffix l crlf then 6 else 0
end Lx
end Go.Proofs.YtbcaindpbeaheaaGreatDoor
