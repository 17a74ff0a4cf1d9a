/- Texts of one set of library modules: AdSpec, AdP3, AdP4, AdP2, AdP5, AdP6, AdP7, AdP8, AdP9, AdP10, AdP11, AdP12, AdP13. -/
import Derived.Test.YtbcaindpbeaheaaGreatDoorZ1
import Derived.Lib.Split
namespace Go.Proofs.YtbcaindpbeaheaaGreatDoor
namespace Ad
open Lx
abbrev Prm := List UInt8 × List UInt8 × Bool
def memB (l : List UInt8) (c : Int) : Bool := l.any fun b => (b.toNat : Int) == c
def everyL : List UInt8 := [45, 95, 46, 33, 126, 42, 39, 40, 41]
def clsL (k : Int) : List UInt8 := if k = 0 then [38, 61, 43, 36, 44, 59, 63, 47] else if k = 1 then [91, 93, 47, 58, 38, 43, 36] else if k = 2 then [91, 93, 47, 63, 58, 43, 36] else []
def inC (k c : Int) : Bool := letterI c || digitI c || memB everyL c || memB (clsL k) c
def hexV (c : Int) : Int := if digitI c then c - 48 else if 65 ≤ c ∧ c ≤ 70 then c - 55 else if 97 ≤ c ∧ c ≤ 102 then c - 87 else -1
def escV : List UInt8 → Int
 | a :: b :: c :: _ => if a.toNat = 37 ∧ 0 ≤ hexV b.toNat ∧ 0 ≤ hexV c.toNat then 16 * hexV b.toNat + hexV c.toNat else -1
 | _ => -1
def hexD (n : Nat) : UInt8 := if n < 10 then (48 + n).toUInt8 else (55 + n).toUInt8
def lowB (c : UInt8) : UInt8 := if 65 ≤ c.toNat ∧ c.toNat ≤ 90 then c + 32 else c
def lowL (l : List UInt8) : List UInt8 := l.map lowB
def escpB (k : Int) (c : UInt8) : List UInt8 := if inC k c.toNat then [c] else [37, hexD (c.toNat / 16), hexD (c.toNat % 16)]
def escpL (k : Int) (l : List UInt8) : List UInt8 := l.flatMap (escpB k)
def uneR : List UInt8 → List UInt8 × Nat
 | [] => ([], 0)
 | c :: t =>
   if c.toNat ≠ 37 then (c :: (uneR t).1, (uneR t).2 + 1) else
   match t with
   | a :: b :: r => if 0 ≤ hexV a.toNat ∧ 0 ≤ hexV b.toNat then ((16 * hexV a.toNat + hexV b.toNat).toNat.toUInt8 :: (uneR r).1, (uneR r).2 + 3) else ([], 0)
   | _ => ([], 0)
def unT (l : List UInt8) : List UInt8 := if (uneR l).2 = l.length then (uneR l).1 else []
def unN (l : List UInt8) : Nat := if (uneR l).2 = l.length then 0 else (uneR l).2
def unE (l : List UInt8) : Int := if (uneR l).2 = l.length then 0 else 5
def wrdR (k : Int) : List UInt8 → List UInt8 × Nat
 | [] => ([], 0)
 | c :: t =>
   if c.toNat ≠ 37 then (if inC k c.toNat then (c :: (wrdR k t).1, (wrdR k t).2 + 1) else ([], 0)) else
   match t with
   | a :: b :: r => if 0 ≤ hexV a.toNat ∧ 0 ≤ hexV b.toNat ∧ ctlI (16 * hexV a.toNat + hexV b.toNat) = false then ((16 * hexV a.toNat + hexV b.toNat).toNat.toUInt8 :: (wrdR k r).1, (wrdR k r).2 + 3) else ([], 0)
   | _ => ([], 0)
def pcs (c : UInt8) : List UInt8 → List (List UInt8)
 | [] => [[]]
 | d :: t => if d = c then [] :: pcs c t else ((d :: (pcs c t).headD []) :: (pcs c t).tail)
def joinL (c : UInt8) : List (List UInt8) → List UInt8
 | [] => []
 | [a] => a
 | a :: b :: r => a ++ c :: joinL c (b :: r)
def lblC (c : Int) : Bool := letterI c || digitI c || c == 45
def lblB (l : List UInt8) : Bool := decide (1 ≤ l.length) && decide (l.length ≤ 63) && decide (l.headD 0 ≠ 45) && decide (l.getLastD 0 ≠ 45) && l.all fun c => lblC c.toNat
def numB (l : List UInt8) : Bool := decide (1 ≤ l.length) && decide (l.length ≤ 3) && (decide (l.length ≤ 1) || decide (l.headD 0 ≠ 48)) && allD l && decide (valL l ≤ 255)
def wordC (c : Int) : Bool := letterI c || c == 45
def nameB (l : List UInt8) : Bool := decide (l.length ≤ 255) && (pcs 46 l).all lblB && l.any fun c => wordC c.toNat
def fourB (l : List UInt8) : Bool := decide ((pcs 46 l).length = 4) && (pcs 46 l).all numB
def hexC (c : Int) : Bool := decide (0 ≤ hexV c)
def grpB (l : List UInt8) : Bool := decide (1 ≤ l.length) && decide (l.length ≤ 4) && l.all fun c => hexC c.toNat
def stripZ : List UInt8 → List UInt8
 | [] => []
 | [c] => [c]
 | c :: d :: t => if c = 48 then stripZ (d :: t) else c :: d :: t
def grpN (l : List UInt8) : List UInt8 := lowL (stripZ l)
def grps (l : List UInt8) : Option (List (List UInt8)) := if l = [] then some [] else if (pcs 58 l).all grpB then some ((pcs 58 l).map grpN) else none
def cut2 : List UInt8 → Option (List UInt8 × List UInt8)
 | [] => none
 | [_] => none
 | a :: b :: t => if a = 58 ∧ b = 58 then some ([], t) else (cut2 (b :: t)).map fun p => (a :: p.1, p.2)
def six (l : List UInt8) : Option (List UInt8) :=
 match cut2 l with
 | some (a, b) =>
   match grps a, grps b with
   | some x, some y => if x.length + y.length < 8 then some (joinL 58 x ++ [58, 58] ++ joinL 58 y) else none
   | _, _ => none
 | none =>
   match grps l with
   | some x => if x.length = 8 then some (joinL 58 x) else none
   | none => none
def hostO (l : List UInt8) : Option (List UInt8) :=
 if l.head? = some 91 then
  (if l.tail.getLast? = some 93 then (six l.tail.dropLast).map fun x => [91] ++ x ++ [93] else none)
 else if nameB l then some (lowL l) else if fourB l then some l else none
def endP (p : Int → Bool) (l : List UInt8) (k : Nat) : Nat := k + runL (fun c => !p c) (l.drop k)
def slc (l : List UInt8) (a b : Nat) : List UInt8 := (l.take b).drop a
def tokE (l : List UInt8) (k : Nat) : Nat := k + runL tokI (l.drop k)
def blkE (l : List UInt8) (k : Nat) : Nat := k + runL blankI (l.drop k)
def atB (l : List UInt8) (k : Nat) : Int := match l[k]? with | some c => c.toNat | none => -1
def valR (l : List UInt8) (k : Nat) : List UInt8 × Nat × Int :=
 if atB l k = 34 then (uqT l k, (uqN l k).toNat, uqE l k)
 else if atB l k = 91 then
  (match hostO (slc l k (min (endP (· == 93) l k + 1) l.length)) with
   | some h => (h, min (endP (· == 93) l k + 1) l.length, 0)
   | none => ([], k, 5))
 else if tokE l k = k then ([], k, 5) else (slc l k (tokE l k), tokE l k, 0)
def room (acc : List Prm) (name : List UInt8) : Int := if acc.any (fun q => q.1 == name) then 7 else if acc.length = 16 then 4 else 0
def pmR (l : List UInt8) (k : Nat) : Prm × Nat × Int :=
 if tokE l k = k then (([], [], false), k, 5)
 else if atB l (blkE l (tokE l k)) = 61 then
  ((lowL (slc l k (tokE l k)), (valR l (blkE l (blkE l (tokE l k) + 1))).1, true), (valR l (blkE l (blkE l (tokE l k) + 1))).2)
 else ((lowL (slc l k (tokE l k)), [], false), blkE l (tokE l k), 0)
def parF : Nat → List UInt8 → Nat → List Prm → List Prm × Nat × Int
 | 0, _, _, acc => (acc, 0, 0)
 | n + 1, l, k, acc =>
   if l.length ≤ k then (acc, 0, 0)
   else if atB l k ≠ 59 then ([], k, 5)
   else if (pmR l (blkE l (k + 1))).2.2 ≠ 0 then ([], (pmR l (blkE l (k + 1))).2)
   else if room acc (pmR l (blkE l (k + 1))).1.1 ≠ 0 then ([], blkE l (k + 1), room acc (pmR l (blkE l (k + 1))).1.1)
   else parF n l (blkE l (pmR l (blkE l (k + 1))).2.1) (acc ++ [(pmR l (blkE l (k + 1))).1])
def parR (l : List UInt8) : List Prm × Nat × Int := parF (l.length + 1) l (blkE l 0) []
def prR (cls : Int) (l : List UInt8) (k to : Nat) : Prm × Nat × Int :=
 if (wrdR cls (slc l k (min (endP (· == 61) l k) to))).2 < min (endP (· == 61) l k) to - k then (([], [], false), k + (wrdR cls (slc l k (min (endP (· == 61) l k) to))).2, 5)
 else if (wrdR cls (slc l k (min (endP (· == 61) l k) to))).1 = [] then (([], [], false), k, 5)
 else if min (endP (· == 61) l k) to = to then (if cls = 2 then (([], [], false), to, 5) else ((lowL (wrdR cls (slc l k to)).1, [], false), to, 0))
 else if (wrdR cls (slc l (endP (· == 61) l k + 1) to)).2 < to - (endP (· == 61) l k + 1) then (([], [], false), endP (· == 61) l k + 1 + (wrdR cls (slc l (endP (· == 61) l k + 1) to)).2, 5)
 else if cls = 1 ∧ (wrdR cls (slc l (endP (· == 61) l k + 1) to)).1 = [] then (([], [], false), to, 5)
 else ((lowL (wrdR cls (slc l k (endP (· == 61) l k))).1, (wrdR cls (slc l (endP (· == 61) l k + 1) to)).1, true), to, 0)
def prsF (bg ends : Int → Bool) (cls : Int) : Nat → List UInt8 → Nat → List Prm → List Prm × Nat × Int
 | 0, _, k, acc => (acc, k, 0)
 | n + 1, l, k, acc =>
   if bg (atB l k) = false then (acc, k, 0)
   else if (prR cls l (k + 1) (endP ends l (k + 1))).2.2 ≠ 0 then ([], (prR cls l (k + 1) (endP ends l (k + 1))).2)
   else if room acc (prR cls l (k + 1) (endP ends l (k + 1))).1.1 ≠ 0 then ([], k + 1, room acc (prR cls l (k + 1) (endP ends l (k + 1))).1.1)
   else prsF bg ends cls n l (endP ends l (k + 1)) (acc ++ [(prR cls l (k + 1) (endP ends l (k + 1))).1])
def ltL : List UInt8 → List UInt8 → Bool
 | [], [] => false
 | [], _ :: _ => true
 | _ :: _, [] => false
 | a :: s, b :: t => if a.toNat < b.toNat then true else if b.toNat < a.toNat then false else ltL s t
def insE (x : Prm) (out : List Prm) : List Prm :=
 (out.reverse.dropWhile fun y => ltL x.1 y.1).reverse ++ x :: (out.reverse.takeWhile fun y => ltL x.1 y.1).reverse
def srt (l : List Prm) : List Prm := l.foldl (fun out x => insE x out) []
structure Uri where
 scheme : List UInt8
 user : List UInt8
 host : List UInt8
 port : Int
 params : List Prm
 heads : List Prm
def nilU : Uri := ⟨[], [], [], 0, [], []⟩
def sipL : List UInt8 := [115, 105, 112]
def sipsL : List UInt8 := [115, 105, 112, 115]
def telL : List UInt8 := [116, 101, 108]
def usrR (l : List UInt8) (k : Nat) : List UInt8 × Nat × Int :=
 if endP (· == 64) l k = l.length then ([], k, 0)
 else if (wrdR 0 (slc l k (endP (· == 64) l k))).2 < endP (· == 64) l k - k then ([], k + (wrdR 0 (slc l k (endP (· == 64) l k))).2, if atB l (k + (wrdR 0 (slc l k (endP (· == 64) l k))).2) = 58 then 15 else 5)
 else if (wrdR 0 (slc l k (endP (· == 64) l k))).1 = [] then ([], endP (· == 64) l k, 5)
 else ((wrdR 0 (slc l k (endP (· == 64) l k))).1, endP (· == 64) l k + 1, 0)
def hendC (c : Int) : Bool := c == 58 || (c == 59 || c == 63)
def semq (c : Int) : Bool := c == 59 || c == 63
def hstTo (l : List UInt8) (k : Nat) : Nat := if atB l k = 91 then min (endP (· == 93) l k + 1) l.length else endP hendC l k
def hstR (l : List UInt8) (k : Nat) : List UInt8 × Nat × Int :=
 match hostO (slc l k (hstTo l k)) with
 | some h => (h, hstTo l k, 0)
 | none => ([], k, 5)
def prtR (l : List UInt8) (k : Nat) : Int × Nat × Int :=
 if atB l k = 58 then
  (if numE (slc l (k + 1) (endP semq l (k + 1))) ≠ 0 then (0, k + 1, numE (slc l (k + 1) (endP semq l (k + 1))))
   else if numN (slc l (k + 1) (endP semq l (k + 1))) < 1 ∨ 65535 < numN (slc l (k + 1) (endP semq l (k + 1))) then (0, k + 1, 3)
   else (numN (slc l (k + 1) (endP semq l (k + 1))), endP semq l (k + 1), 0))
 else if k < endP semq l k then (0, k, 5) else (0, k, 0)
def sepC (c : Int) : Bool := c == 45 || (c == 46 || (c == 40 || c == 41))
def locC (c : Int) : Bool := c == 42 || c == 35
def telS (o : Bool) : List UInt8 → List UInt8 × Nat
 | [] => ([], 0)
 | c :: t => if digitI c.toNat || (o && locC c.toNat) then (c :: (telS o t).1, (telS o t).2 + 1) else if sepC c.toNat then ((telS o t).1, (telS o t).2 + 1) else ([], 0)
def telR (l : List UInt8) (k : Nat) : List UInt8 × Nat × Int :=
 if atB l k = 43 then
  (if (telS false (slc l (k + 1) (endP (· == 59) l k))).2 < endP (· == 59) l k - (k + 1) then ([], k + 1 + (telS false (slc l (k + 1) (endP (· == 59) l k))).2, 5)
   else if (telS false (slc l (k + 1) (endP (· == 59) l k))).1 = [] then ([], k, 5)
   else if 30 < (telS false (slc l (k + 1) (endP (· == 59) l k))).1.length then ([], k, 4)
   else (43 :: (telS false (slc l (k + 1) (endP (· == 59) l k))).1, endP (· == 59) l k, 0))
 else
  (if (telS true (slc l k (endP (· == 59) l k))).2 < endP (· == 59) l k - k then ([], k + (telS true (slc l k (endP (· == 59) l k))).2, 5)
   else if (telS true (slc l k (endP (· == 59) l k))).1 = [] then ([], k, 5)
   else if 30 < (telS true (slc l k (endP (· == 59) l k))).1.length then ([], k, 4)
   else ((telS true (slc l k (endP (· == 59) l k))).1, endP (· == 59) l k, 0))
def prmsR (ends : Int → Bool) (l : List UInt8) (k : Nat) : List Prm × Nat × Int := prsF (· == 59) ends 1 (l.length + 1) l k []
def headC (c : Int) : Bool := c == 63 || c == 38
def headsR (l : List UInt8) (k : Nat) : List Prm × Nat × Int := prsF headC (· == 38) 2 (l.length + 1) l k []
def sipR (s l : List UInt8) (k : Nat) : Uri × Nat × Int :=
 if (usrR l k).2.2 ≠ 0 then (nilU, (usrR l k).2)
 else if (hstR l (usrR l k).2.1).2.2 ≠ 0 then (nilU, (hstR l (usrR l k).2.1).2)
 else if (prtR l (hstR l (usrR l k).2.1).2.1).2.2 ≠ 0 then (nilU, (prtR l (hstR l (usrR l k).2.1).2.1).2)
 else if (prmsR semq l (prtR l (hstR l (usrR l k).2.1).2.1).2.1).2.2 ≠ 0 then (nilU, (prmsR semq l (prtR l (hstR l (usrR l k).2.1).2.1).2.1).2)
 else if (headsR l (prmsR semq l (prtR l (hstR l (usrR l k).2.1).2.1).2.1).2.1).2.2 ≠ 0 then (nilU, (headsR l (prmsR semq l (prtR l (hstR l (usrR l k).2.1).2.1).2.1).2.1).2)
 else (⟨s, (usrR l k).1, (hstR l (usrR l k).2.1).1, (prtR l (hstR l (usrR l k).2.1).2.1).1, srt (prmsR semq l (prtR l (hstR l (usrR l k).2.1).2.1).2.1).1, srt (headsR l (prmsR semq l (prtR l (hstR l (usrR l k).2.1).2.1).2.1).2.1).1⟩, 0, 0)
def telU (l : List UInt8) (k : Nat) : Uri × Nat × Int :=
 if (telR l k).2.2 ≠ 0 then (nilU, (telR l k).2)
 else if (prmsR (· == 59) l (telR l k).2.1).2.2 ≠ 0 then (nilU, (prmsR (· == 59) l (telR l k).2.1).2)
 else (⟨telL, (telR l k).1, [], 0, srt (prmsR (· == 59) l (telR l k).2.1).1, []⟩, 0, 0)
def parse (l : List UInt8) : Uri × Nat × Int :=
 if 1024 < l.length then (nilU, 1024, 4)
 else if endP (· == 58) l 0 = l.length then (nilU, l.length, 5)
 else if lowL (l.take (endP (· == 58) l 0)) = sipL ∨ lowL (l.take (endP (· == 58) l 0)) = sipsL then sipR (lowL (l.take (endP (· == 58) l 0))) l (endP (· == 58) l 0 + 1)
 else if lowL (l.take (endP (· == 58) l 0)) = telL then telU l (endP (· == 58) l 0 + 1)
 else (nilU, 0, 15)
def okP (cls : Int) (p : Prm) : Bool := decide (p.1 ≠ []) && !hasCtl p.1 && !hasCtl p.2.1 && (if cls = 2 then p.2.2 else p.2.2 == decide (p.2.1 ≠ []))
def nmF (cls : Int) : List Prm → List Prm → Option (List Prm)
 | [], acc => some acc
 | p :: t, acc => if okP cls p && decide (room acc (lowL p.1) = 0) then nmF cls t (acc ++ [(lowL p.1, p.2)]) else none
def isNum (s : List UInt8) : Bool := decide ((telR s 0).2.2 = 0) && decide ((telR s 0).1 = s)
def normal (u : Uri) : Option Uri :=
 match nmF 1 u.params [], nmF 2 u.heads [] with
 | some ps, some hs =>
   if lowL u.scheme = sipL ∨ lowL u.scheme = sipsL then
    (match hostO u.host with
     | some h => if 0 ≤ u.port ∧ u.port ≤ 65535 ∧ hasCtl u.user = false then some ⟨lowL u.scheme, u.user, h, u.port, srt ps, srt hs⟩ else none
     | none => none)
   else if lowL u.scheme = telL then
    (if isNum u.user = true ∧ u.host = [] ∧ u.port = 0 ∧ u.heads = [] then some ⟨telL, u.user, [], 0, srt ps, []⟩ else none)
   else none
 | _, _ => none
def decL (n : Nat) : List UInt8 := if n < 10 then [(48 + n).toUInt8] else decL (n / 10) ++ [(48 + n % 10).toUInt8]
termination_by n
decreasing_by omega
def prP (cls : Int) (p : Prm) : List UInt8 := escpL cls p.1 ++ (if p.2.2 then 61 :: escpL cls p.2.1 else [])
def wrt (first again : UInt8) (cls : Int) : List Prm → List UInt8
 | [] => []
 | p :: t => first :: prP cls p ++ wrt again again cls t
def textU (n : Uri) : List UInt8 :=
 if n.scheme = telL then [116, 101, 108, 58] ++ n.user ++ wrt 59 59 1 n.params
 else n.scheme ++ [58] ++ (if n.user = [] then [] else escpL 0 n.user ++ [64]) ++ n.host ++ (if n.port = 0 then [] else 58 :: decL n.port.toNat) ++ wrt 59 59 1 n.params ++ wrt 63 38 2 n.heads
def printO (u : Uri) : Option (List UInt8) := (normal u).map textU
def tokB (l : List UInt8) : Bool := decide (1 ≤ l.length) && l.all fun c => tokI c.toNat
def ppB (p : Prm) : Bool := tokB p.1 && decide (p.1 = lowL p.1) && !hasCtl p.2.1 && (p.2.2 || decide (p.2.1 = []))
def pvL (v : List UInt8) : List UInt8 := if tokB v || (decide (v.head? = some 91) && decide (hostO v = some v)) then v else [34] ++ escL v ++ [34]
def ppL (p : Prm) : List UInt8 := 59 :: p.1 ++ (if p.2.2 then 61 :: pvL p.2.1 else [])
def ppF : List Prm → List Prm → Option (List UInt8)
 | [], _ => some []
 | p :: t, acc => if ppB p && decide (room acc p.1 = 0) then (ppF t (acc ++ [p])).map fun x => ppL p ++ x else none
def ppO (l : List Prm) : Option (List UInt8) := ppF l []
structure Adr where
 display : List UInt8
 uri : Uri
 params : List Prm
def nilA : Adr := ⟨[], nilU, []⟩
def tksF : Nat → List UInt8 → Nat → Nat → List (List UInt8) → List (List UInt8) × Nat × Int
 | 0, _, k, _, acc => (acc, k, 0)
 | n + 1, l, k, to, acc => if to ≤ k then (acc, k, 0) else if tokE l k = k then ([], k, 5) else tksF n l (blkE l (tokE l k)) to (acc ++ [slc l k (tokE l k)])
def restR (l display : List UInt8) (a to b : Nat) : Adr × Nat × Int :=
 if (parse (slc l a to)).2.2 ≠ 0 then (nilA, a + (parse (slc l a to)).2.1, (parse (slc l a to)).2.2)
 else if (parF (l.length + 1) l (blkE l b) []).2.2 ≠ 0 then (nilA, (parF (l.length + 1) l (blkE l b) []).2)
 else (⟨display, (parse (slc l a to)).1, (parF (l.length + 1) l (blkE l b) []).1⟩, 0, 0)
def angR (l display : List UInt8) (k : Nat) : Adr × Nat × Int :=
 if endP (· == 62) l (k + 1) = l.length then (nilA, l.length, 5) else restR l display (k + 1) (endP (· == 62) l (k + 1)) (endP (· == 62) l (k + 1) + 1)
def bareC (c : Int) : Bool := c == 59 || (c == 32 || c == 9)
def queC (c : Int) : Bool := c == 63 || c == 44
def adrR (l : List UInt8) : Adr × Nat × Int :=
 if 1024 < l.length then (nilA, 1024, 4)
 else if atB l (blkE l 0) = 34 then
  (if uqE l (blkE l 0) ≠ 0 then (nilA, (uqN l (blkE l 0)).toNat, uqE l (blkE l 0))
   else if atB l (blkE l (uqN l (blkE l 0)).toNat) ≠ 60 then (nilA, blkE l (uqN l (blkE l 0)).toNat, 5)
   else angR l (uqT l (blkE l 0)) (blkE l (uqN l (blkE l 0)).toNat))
 else if endP (· == 60) l (blkE l 0) < l.length then
  (if (tksF (l.length + 1) l (blkE l 0) (endP (· == 60) l (blkE l 0)) []).2.2 ≠ 0 then (nilA, (tksF (l.length + 1) l (blkE l 0) (endP (· == 60) l (blkE l 0)) []).2)
   else angR l (joinL 32 (tksF (l.length + 1) l (blkE l 0) (endP (· == 60) l (blkE l 0)) []).1) (endP (· == 60) l (blkE l 0)))
 else if endP queC l (blkE l 0) < endP bareC l (blkE l 0) then (nilA, endP queC l (blkE l 0), 5)
 else restR l [] (blkE l 0) (endP bareC l (blkE l 0)) (endP bareC l (blkE l 0))
def adrO (a : Adr) : Option (List UInt8) :=
 match printO a.uri, ppO (srt a.params) with
 | some u, some p => if hasCtl a.display then none else some ((if a.display = [] then [] else [34] ++ escL a.display ++ [34, 32]) ++ [60] ++ u ++ [62] ++ p)
 | _, _ => none
end Ad
end Go.Proofs.YtbcaindpbeaheaaGreatDoor
namespace Go.Proofs.YtbcaindpbeaheaaGreatDoor
namespace Ad
open Lx
theorem inC_pct (k : Int) (h : inC k 37 = true) : False := by
 unfold inC clsL at h
 have e1 : letterI 37 = false := by decide
 have e2 : digitI 37 = false := by decide
 have e3 : memB everyL 37 = false := by decide
 rw [e1, e2, e3] at h
 simp only [Bool.or_self, Bool.false_or] at h
 split at h
 ·revert h; decide
 ·split at h
  ·revert h; decide
  ·split at h
   ·revert h; decide
   ·simp [memB] at h
theorem uneR_plain (c : UInt8) (t : List UInt8) (h : c.toNat ≠ 37) : uneR (c :: t) = (c :: (uneR t).1, (uneR t).2 + 1) := by rw [uneR.eq_def]; simp [h]
theorem uneR_esc (c a b : UInt8) (r : List UInt8) (h : c.toNat = 37) (ha : 0 ≤ hexV a.toNat) (hb : 0 ≤ hexV b.toNat) : uneR (c :: a :: b :: r) = ((16 * hexV a.toNat + hexV b.toNat).toNat.toUInt8 :: (uneR r).1, (uneR r).2 + 3) := by rw [uneR.eq_def]; simp [h, ha, hb]
theorem escV_def (c a b : UInt8) (r : List UInt8) : escV (c :: a :: b :: r) = if c.toNat = 37 ∧ 0 ≤ hexV a.toNat ∧ 0 ≤ hexV b.toNat then 16 * hexV a.toNat + hexV b.toNat else -1 := rfl
theorem uneR_bad (c : UInt8) (t : List UInt8) (h : c.toNat = 37) (h2 : escV (c :: t) < 0) : uneR (c :: t) = ([], 0) := by
 rw [uneR.eq_def]
 simp only [h, ne_eq, not_true_eq_false, if_false]
 match t with
 | [] => rfl
 | [_] => rfl
 | a :: b :: r =>
   dsimp only
   rw [if_neg]
   rintro ⟨h3, h4⟩
   rw [escV_def, if_pos ⟨h, h3, h4⟩] at h2
   omega
theorem wrdR_plain (k : Int) (c : UInt8) (t : List UInt8) (h : c.toNat ≠ 37) (h2 : inC k c.toNat = true) : wrdR k (c :: t) = (c :: (wrdR k t).1, (wrdR k t).2 + 1) := by rw [wrdR.eq_def]; simp [h, h2]
theorem wrdR_stop (k : Int) (c : UInt8) (t : List UInt8) (h : c.toNat ≠ 37) (h2 : inC k c.toNat = false) : wrdR k (c :: t) = ([], 0) := by rw [wrdR.eq_def]; simp [h, h2]
theorem escV_at (c a b : UInt8) (r : List UInt8) (h : c.toNat = 37) (ha : 0 ≤ hexV a.toNat) (hb : 0 ≤ hexV b.toNat) : escV (c :: a :: b :: r) = 16 * hexV a.toNat + hexV b.toNat := by
 rw [escV_def, if_pos ⟨h, ha, hb⟩]
theorem escV_inv (l : List UInt8) (h : 0 ≤ escV l) : ∃ c a b r, l = c :: a :: b :: r ∧ c.toNat = 37 ∧ 0 ≤ hexV a.toNat ∧ 0 ≤ hexV b.toNat ∧ escV l = 16 * hexV a.toNat + hexV b.toNat := by
 match l with
 | [] => simp [escV] at h
 | [_] => simp [escV] at h
 | [_, _] => simp [escV] at h
 | c :: a :: b :: r =>
   rw [escV_def] at h ⊢
   split at h
   ·rename_i hh; exact ⟨c, a, b, r, rfl, hh.1, hh.2.1, hh.2.2, by rw [if_pos hh]⟩
   ·omega
theorem hexV_bd (c : Int) : hexV c ≤ 15 ∧ -1 ≤ hexV c := by
 unfold hexV
 split
 ·rename_i h; simp [digitI] at h; omega
 ·split
  ·omega
  ·split <;> omega
theorem escV_bd (l : List UInt8) : escV l ≤ 255 := by
 rcases Int.lt_or_le (escV l) 0 with h | h
 ·omega
 ·obtain ⟨c, a, b, r, _, _, _, _, e⟩ := escV_inv l h
  have := hexV_bd a.toNat; have := hexV_bd b.toNat; omega
theorem wrdR_esc (k : Int) (c : UInt8) (t : List UInt8) (h2 : 0 ≤ escV (c :: t)) (h3 : ctlI (escV (c :: t)) = false) : wrdR k (c :: t) = ((escV (c :: t)).toNat.toUInt8 :: (wrdR k (t.drop 2)).1, (wrdR k (t.drop 2)).2 + 3) := by
 obtain ⟨c', a, b, r, e, h37, ha, hb, hv⟩ := escV_inv _ h2
 injection e with e1 e2
 subst e1; subst e2
 rw [hv] at h3 ⊢
 rw [wrdR.eq_def]
 simp [h37, ha, hb, h3]
theorem wrdR_bad (k : Int) (c : UInt8) (t : List UInt8) (h37 : c.toNat = 37) (h : escV (c :: t) < 0 ∨ ctlI (escV (c :: t)) = true) : wrdR k (c :: t) = ([], 0) := by
 rw [wrdR.eq_def]
 simp only [h37, ne_eq, not_true_eq_false, if_false]
 match t with
 | [] => rfl
 | [_] => rfl
 | a :: b :: r =>
   dsimp only
   rw [if_neg]
   rintro ⟨h3, h4, h5⟩
   rw [escV_at c a b r h37 h3 h4, h5] at h
   rcases h with h | h
   ·omega
   ·cases h
theorem wrdR_le (k : Int) (n : Nat) : ∀ l : List UInt8, l.length ≤ n → (wrdR k l).2 ≤ l.length := by
 induction n with
 | zero => intro l h; have : l = [] := List.eq_nil_of_length_eq_zero (by omega); subst this; simp [wrdR]
 | succ n ih =>
   intro l h
   cases l with
   | nil => simp [wrdR]
   | cons c t =>
     simp only [List.length_cons] at h ⊢
     by_cases h37 : c.toNat = 37
     ·by_cases hb : escV (c :: t) < 0 ∨ ctlI (escV (c :: t)) = true
      ·rw [wrdR_bad k c t h37 hb]; simp
      ·have hb2 : 0 ≤ escV (c :: t) ∧ ctlI (escV (c :: t)) = false := ⟨by omega, by simpa using fun h => hb (.inr h)⟩
       rw [wrdR_esc k c t hb2.1 hb2.2]
       obtain ⟨c', a, b, r, e, _⟩ := escV_inv _ hb2.1
       injection e with e1 e2
       have := ih (t.drop 2) (by simp; omega)
       rw [e2] at this ⊢
       simp at this ⊢; omega
     ·cases hi : inC k c.toNat
      ·rw [wrdR_stop k c t h37 hi]; simp
      ·rw [wrdR_plain k c t h37 hi]; have := ih t (by omega); simp; omega
theorem wrd_une (k : Int) (n : Nat) : ∀ l : List UInt8, l.length ≤ n → (wrdR k l).2 = l.length → uneR l = wrdR k l := by
 induction n with
 | zero => intro l h _; have : l = [] := List.eq_nil_of_length_eq_zero (by omega); subst this; simp [wrdR, uneR]
 | succ n ih =>
   intro l h he
   cases l with
   | nil => simp [wrdR, uneR]
   | cons c t =>
     simp only [List.length_cons] at h he
     by_cases h37 : c.toNat = 37
     ·by_cases hb : escV (c :: t) < 0 ∨ ctlI (escV (c :: t)) = true
      ·rw [wrdR_bad k c t h37 hb] at he; simp at he
      ·have hb2 : 0 ≤ escV (c :: t) ∧ ctlI (escV (c :: t)) = false := ⟨by omega, by simpa using fun h => hb (.inr h)⟩
       rw [wrdR_esc k c t hb2.1 hb2.2] at he ⊢
       obtain ⟨c', a, b, r, e, h37', ha, hb', hv⟩ := escV_inv _ hb2.1
       injection e with e1 e2
       subst e2; subst e1
       rw [uneR_esc c a b r h37 ha hb', hv]
       have hl := wrdR_le k r.length r (Nat.le_refl _)
       simp only [List.length_cons, List.drop_succ_cons, List.drop_zero] at h he ⊢
       rw [ih r (by omega) (by omega)]
     ·cases hi : inC k c.toNat
      ·rw [wrdR_stop k c t h37 hi] at he; simp at he
      ·rw [wrdR_plain k c t h37 hi] at he ⊢
       simp only at he
       rw [uneR_plain c t h37, ih t (by omega) (by omega)]
theorem hex_digits (c : UInt8) : 0 ≤ hexV (hexD (c.toNat / 16)).toNat ∧ 0 ≤ hexV (hexD (c.toNat % 16)).toNat ∧ 16 * hexV (hexD (c.toNat / 16)).toNat + hexV (hexD (c.toNat % 16)).toNat = c.toNat := by
 have key : ∀ n : Nat, n < 16 → hexV (hexD n).toNat = n := by
  intro n hn
  have : n = 0 ∨ n = 1 ∨ n = 2 ∨ n = 3 ∨ n = 4 ∨ n = 5 ∨ n = 6 ∨ n = 7 ∨ n = 8 ∨ n = 9 ∨ n = 10 ∨ n = 11 ∨ n = 12 ∨ n = 13 ∨ n = 14 ∨ n = 15 := by omega
  rcases this with h | h | h | h | h | h | h | h | h | h | h | h | h | h | h | h <;> subst h <;> decide
 have hc := c.toNat_lt
 rw [key _ (by omega), key _ (by omega)]
 omega
theorem wrdR_escp (k : Int) (l : List UInt8) (hc : hasCtl l = false) : wrdR k (escpL k l) = (l, (escpL k l).length) := by
 induction l with
 | nil => rfl
 | cons c t ih =>
   have e : escpL k (c :: t) = escpB k c ++ escpL k t := by simp [escpL]
   rw [e]
   simp only [hasCtl, List.any_cons, Bool.or_eq_false_iff] at hc
   have ih := ih hc.2
   unfold escpB
   cases hi : inC k c.toNat
   ·simp only [Bool.false_eq_true, if_false, List.cons_append, List.nil_append]
    obtain ⟨h1, h2, h3⟩ := hex_digits c
    have hv := escV_at 37 _ _ (escpL k t) rfl h1 h2
    rw [h3] at hv
    rw [wrdR_esc k 37 _ (by rw [hv]; omega) (by rw [hv]; exact hc.1), hv]
    simp [ih]
   ·simp only [if_true, List.cons_append, List.nil_append]
    have h37 : c.toNat ≠ 37 := fun h => by rw [h] at hi; exact inC_pct k hi
    rw [wrdR_plain k c _ h37 hi, ih]
    simp
theorem inC_hex (k : Int) (n : Nat) (h : n < 16) : inC k (hexD n).toNat = true := by
 have : n = 0 ∨ n = 1 ∨ n = 2 ∨ n = 3 ∨ n = 4 ∨ n = 5 ∨ n = 6 ∨ n = 7 ∨ n = 8 ∨ n = 9 ∨ n = 10 ∨ n = 11 ∨ n = 12 ∨ n = 13 ∨ n = 14 ∨ n = 15 := by omega
 unfold inC
 rcases this with h | h | h | h | h | h | h | h | h | h | h | h | h | h | h | h <;> subst h <;> simp [hexD, letterI, digitI]
theorem escp_in (k : Int) (l : List UInt8) : ∀ c ∈ escpL k l, inC k c.toNat = true ∨ c = 37 := by
 intro c hc
 simp only [escpL, List.mem_flatMap] at hc
 obtain ⟨d, _, hd⟩ := hc
 unfold escpB at hd
 have hb := d.toNat_lt
 cases hi : inC k d.toNat
 ·rw [hi] at hd
  simp only [Bool.false_eq_true, if_false, List.mem_cons, List.not_mem_nil, or_false] at hd
  rcases hd with rfl | rfl | rfl
  ·exact .inr rfl
  ·exact .inl (inC_hex k _ (by omega))
  ·exact .inl (inC_hex k _ (by omega))
 ·rw [hi] at hd
  simp only [if_true, List.mem_cons, List.not_mem_nil, or_false] at hd
  subst hd; exact .inl hi
theorem escp_len (k : Int) (l : List UInt8) : l.length ≤ (escpL k l).length ∧ (escpL k l).length ≤ 3 * l.length := by
 induction l with
 | nil => simp [escpL]
 | cons c t ih =>
   have e : escpL k (c :: t) = escpB k c ++ escpL k t := by simp [escpL]
   have : 1 ≤ (escpB k c).length ∧ (escpB k c).length ≤ 3 := by unfold escpB; split <;> simp
   rw [e]; simp only [List.length_append, List.length_cons]; omega
end Ad
end Go.Proofs.YtbcaindpbeaheaaGreatDoor
namespace Go.Proofs.YtbcaindpbeaheaaGreatDoor
namespace Ad
open Lx
theorem pcs_none (c : UInt8) (l : List UInt8) (h : c ∉ l) : pcs c l = [l] := by
 induction l with
 | nil => rfl
 | cons d t ih =>
   rw [List.mem_cons, not_or] at h
   rw [pcs, if_neg (fun e => h.1 e.symm), ih h.2]; rfl
theorem pcs_app (c : UInt8) (a t : List UInt8) (h : c ∉ a) : pcs c (a ++ c :: t) = a :: pcs c t := by
 induction a with
 | nil => rw [List.nil_append, pcs, if_pos rfl]
 | cons d r ih =>
   rw [List.mem_cons, not_or] at h
   rw [List.cons_append, pcs, if_neg (fun e => h.1 e.symm), ih h.2]; rfl
theorem pcs_join (c : UInt8) : ∀ xs : List (List UInt8), xs ≠ [] → (∀ x ∈ xs, c ∉ x) → pcs c (joinL c xs) = xs := by
 intro xs
 induction xs with
 | nil => intro h; exact absurd rfl h
 | cons a r ih =>
   intro _ h
   cases r with
   | nil => exact pcs_none c a (h a (List.mem_cons_self ..))
   | cons b r =>
     rw [joinL, pcs_app c a _ (h a (List.mem_cons_self ..)), ih (by simp) (fun x hx => h x (List.mem_cons_of_mem _ hx))]
theorem pcs_cons (c : UInt8) (l : List UInt8) : ∃ a r, pcs c l = a :: r := by
 cases h : pcs c l with
 | nil => cases l with
   | nil => simp [pcs] at h
   | cons d t => rw [pcs] at h; split at h <;> simp at h
 | cons a r => exact ⟨a, r, rfl⟩
theorem join_pcs (c : UInt8) (l : List UInt8) : joinL c (pcs c l) = l := by
 induction l with
 | nil => rfl
 | cons d t ih =>
   obtain ⟨a, r, e⟩ := pcs_cons c t
   rw [pcs]
   split
   ·rename_i h; subst h
    rw [e] at ih ⊢
    rw [joinL, ih]; rfl
   ·rw [e] at ih ⊢
    rw [List.headD_cons, List.tail_cons]
    cases r with
    | nil => simp only [joinL] at ih ⊢; rw [ih]
    | cons b r => simp only [joinL] at ih ⊢; rw [List.cons_append, ih]
theorem lowB_nat (c : UInt8) : (lowB c).toNat = if 65 ≤ c.toNat ∧ c.toNat ≤ 90 then c.toNat + 32 else c.toNat := by
 unfold lowB
 split
 ·rw [UInt8.toNat_add]; have := c.toNat_lt; rename_i h
  have e : (32 : UInt8).toNat = 32 := rfl
  rw [e]; omega
 ·rfl
theorem lowB_idem (c : UInt8) : lowB (lowB c) = lowB c := by
 rw [← UInt8.toNat_inj]
 have h1 := lowB_nat c;have h2 := lowB_nat (lowB c)
 rw [h1] at h2
 rw [h2, h1]
 split
 ·rw [if_neg (by omega)]
 ·rfl
theorem lowL_idem (l : List UInt8) : lowL (lowL l) = lowL l := by
 unfold lowL; rw [List.map_map]; congr 1; funext c; exact lowB_idem c
theorem lowL_len (l : List UInt8) : (lowL l).length = l.length := by simp [lowL]
theorem lowB_iff (c d : UInt8) (h : ¬ (65 ≤ d.toNat ∧ d.toNat ≤ 90) ∧ ¬ (97 ≤ d.toNat ∧ d.toNat ≤ 122)) : lowB c = d ↔ c = d := by
 rw [← UInt8.toNat_inj, ← UInt8.toNat_inj, lowB_nat]
 split <;> omega
theorem pcs_low (d : UInt8) (h : ¬ (65 ≤ d.toNat ∧ d.toNat ≤ 90) ∧ ¬ (97 ≤ d.toNat ∧ d.toNat ≤ 122)) (l : List UInt8) : pcs d (lowL l) = (pcs d l).map lowL := by
 induction l with
 | nil => rfl
 | cons c t ih =>
   have e : lowL (c :: t) = lowB c :: lowL t := rfl
   obtain ⟨a, r, he⟩ := pcs_cons d t
   rw [e, pcs, pcs, ih, he]
   by_cases hc : c = d
   ·rw [if_pos hc, if_pos ((lowB_iff c d h).2 hc)]; rfl
   ·rw [if_neg hc, if_neg (fun hh => hc ((lowB_iff c d h).1 hh))]; rfl
theorem letterI_low (c : UInt8) : letterI (lowB c).toNat = letterI c.toNat := by
 rw [Bool.eq_iff_iff]
 have h1 := lowB_nat c
 simp only [letterI, Bool.or_eq_true, Bool.and_eq_true, decide_eq_true_eq]
 split at h1 <;> omega
theorem digitI_low (c : UInt8) : digitI (lowB c).toNat = digitI c.toNat := by
 rw [Bool.eq_iff_iff]
 have h1 := lowB_nat c
 simp only [digitI, Bool.and_eq_true, decide_eq_true_eq]
 split at h1 <;> omega
theorem ctlI_low (c : UInt8) : ctlI (lowB c).toNat = ctlI c.toNat := by
 have h1 := lowB_nat c;have hc := c.toNat_lt
 rw [Bool.eq_iff_iff]
 simp only [ctlI, Bool.or_eq_true, Bool.and_eq_true, decide_eq_true_eq, bne_iff_ne, ne_eq, beq_iff_eq]
 split at h1 <;> omega
theorem beq_low (c : UInt8) (k : Int) (h : ¬ (65 ≤ k ∧ k ≤ 90) ∧ ¬ (97 ≤ k ∧ k ≤ 122)) : (((lowB c).toNat : Int) == k) = ((c.toNat : Int) == k) := by
 rw [Bool.eq_iff_iff, beq_iff_eq, beq_iff_eq]
 have h1 := lowB_nat c
 split at h1 <;> omega
theorem lblC_low (c : UInt8) : lblC (lowB c).toNat = lblC c.toNat := by
 unfold lblC; rw [letterI_low, digitI_low, beq_low c 45 (by omega)]
theorem wordC_low (c : UInt8) : wordC (lowB c).toNat = wordC c.toNat := by
 unfold wordC; rw [letterI_low, beq_low c 45 (by omega)]
theorem hexV_low (c : UInt8) : hexV (lowB c).toNat = hexV c.toNat := by
 have h1 := lowB_nat c
 unfold hexV
 rw [digitI_low]
 have hd : digitI c.toNat = true ↔ (48 ≤ (c.toNat : Int) ∧ (c.toNat : Int) ≤ 57) := by simp [digitI]
 cases hh : digitI c.toNat
 ·rw [hh] at hd
  simp only [Bool.false_eq_true, if_false]
  split at h1
  ·rename_i h2
   rw [h1]
   by_cases h3 : c.toNat ≤ 70
   ·rw [if_neg (by omega), if_pos (by omega), if_pos (by omega)]; omega
   ·rw [if_neg (by omega), if_neg (by omega), if_neg (by omega), if_neg (by omega)]
  ·rw [h1]
 ·rw [hh] at hd
  have := hd.1 rfl
  simp only [if_true]
  split at h1 <;> omega
theorem all_low (p : Int → Bool) (hp : ∀ c : UInt8, p (lowB c).toNat = p c.toNat) (l : List UInt8) : ((lowL l).all fun c => p c.toNat) = l.all fun c => p c.toNat := by
 unfold lowL; rw [List.all_map]; congr 1; funext c; exact hp c
theorem any_low (p : Int → Bool) (hp : ∀ c : UInt8, p (lowB c).toNat = p c.toNat) (l : List UInt8) : ((lowL l).any fun c => p c.toNat) = l.any fun c => p c.toNat := by
 unfold lowL; rw [List.any_map]; congr 1; funext c; exact hp c
theorem headD_low (l : List UInt8) (d k : UInt8) (h : ¬ (65 ≤ k.toNat ∧ k.toNat ≤ 90) ∧ ¬ (97 ≤ k.toNat ∧ k.toNat ≤ 122)) : ((lowL l).headD d = k) ↔ (l.headD d = k) := by
 cases l with
 | nil => exact Iff.rfl
 | cons c t => exact lowB_iff c k h
theorem getLastD_low (l : List UInt8) (d k : UInt8) (h : ¬ (65 ≤ k.toNat ∧ k.toNat ≤ 90) ∧ ¬ (97 ≤ k.toNat ∧ k.toNat ≤ 122)) : ((lowL l).getLastD d = k) ↔ (l.getLastD d = k) := by
 cases l with
 | nil => exact Iff.rfl
 | cons c t =>
   have e : (lowL (c :: t)).getLastD d = lowB ((c :: t).getLastD d) := by
    unfold lowL
    rw [List.getLastD_eq_getLast?, List.getLastD_eq_getLast?, List.getLast?_map]
    cases h : (c :: t).getLast? with
    | none => simp at h
    | some x => rfl
   rw [e]; exact lowB_iff _ k h
theorem lblB_low (l : List UInt8) : lblB (lowL l) = lblB l := by
 unfold lblB
 rw [all_low lblC lblC_low, lowL_len]
 have e1 := headD_low l 0 45 (by decide)
 have e2 := getLastD_low l 0 45 (by decide)
 congr 1
 rw [Bool.eq_iff_iff]; simp only [Bool.and_eq_true, decide_eq_true_eq, ne_eq, e1, e2]
theorem nameB_low (l : List UInt8) : nameB (lowL l) = nameB l := by
 unfold nameB
 rw [any_low wordC wordC_low, lowL_len, pcs_low 46 (by decide), List.all_map]
 congr 2
 congr 1
 funext x
 exact lblB_low x
theorem stripZ_mem (l : List UInt8) : ∀ c ∈ stripZ l, c ∈ l := by
 induction l with
 | nil => intro c h; exact h
 | cons a t ih =>
   cases t with
   | nil => intro c h; exact h
   | cons b r =>
     intro c h
     rw [stripZ] at h
     split at h
     ·exact List.mem_cons_of_mem _ (ih c h)
     ·exact h
theorem stripZ_ne (l : List UInt8) (h : l ≠ []) : stripZ l ≠ [] := by
 induction l with
 | nil => exact h
 | cons a t ih =>
   cases t with
   | nil => simp [stripZ]
   | cons b r => rw [stripZ]; split; exact ih (by simp); simp
theorem stripZ_len (l : List UInt8) : (stripZ l).length ≤ l.length := by
 induction l with
 | nil => simp [stripZ]
 | cons a t ih =>
   cases t with
   | nil => simp [stripZ]
   | cons b r => rw [stripZ]; split; exact Nat.le_succ_of_le ih; simp
theorem stripZ_idem (l : List UInt8) : stripZ (stripZ l) = stripZ l := by
 induction l with
 | nil => rfl
 | cons a t ih =>
   cases t with
   | nil => rfl
   | cons b r =>
     rw [stripZ]
     split
     ·exact ih
     ·rename_i h; rw [stripZ, if_neg h]
theorem stripZ_low (l : List UInt8) : stripZ (lowL l) = lowL (stripZ l) := by
 induction l with
 | nil => rfl
 | cons a t ih =>
   cases t with
   | nil => rfl
   | cons b r =>
     have e : lowL (a :: b :: r) = lowB a :: lowB b :: lowL r := rfl
     have e2 : lowL (b :: r) = lowB b :: lowL r := rfl
     rw [e, stripZ, stripZ]
     by_cases h : a = 48
     ·rw [if_pos h, if_pos ((lowB_iff a 48 (by decide)).2 h), ← e2, ih]
     ·rw [if_neg h, if_neg (fun hh => h ((lowB_iff a 48 (by decide)).1 hh))]; rfl
theorem grpN_idem (l : List UInt8) : grpN (grpN l) = grpN l := by
 unfold grpN; rw [stripZ_low, stripZ_idem, lowL_idem]
theorem hexC_low (c : UInt8) : hexC (lowB c).toNat = hexC c.toNat := by unfold hexC; rw [hexV_low]
theorem grpB_grpN (l : List UInt8) (h : grpB l = true) : grpB (grpN l) = true := by
 unfold grpB at h ⊢
 unfold grpN
 rw [all_low hexC hexC_low, lowL_len]
 simp only [Bool.and_eq_true, decide_eq_true_eq] at h ⊢
 have h1 := stripZ_len l
 have h2 := stripZ_ne l (fun e => by rw [e] at h; simp at h)
 refine ⟨⟨List.length_pos_iff.2 h2, by omega⟩, ?_⟩
 rw [List.all_eq_true] at h ⊢
 intro c hc; exact h.2 c (stripZ_mem l c hc)
theorem grpB_no (l : List UInt8) (h : grpB l = true) (c : UInt8) (hc : hexC c.toNat = false) : c ∉ l := by
 intro hm
 unfold grpB at h
 simp only [Bool.and_eq_true, List.all_eq_true] at h
 have := h.2 c hm
 rw [hc] at this; cases this
theorem grpB_ne (l : List UInt8) (h : grpB l = true) : l ≠ [] := by rintro rfl; simp [grpB] at h
theorem grps_some (l : List UInt8) (x : List (List UInt8)) (h : grps l = some x) : ∀ g ∈ x, grpB g = true ∧ grpN g = g := by
 unfold grps at h
 split at h
 ·cases h; simp
 ·split at h
  ·rename_i ha
   cases h
   intro g hg
   rw [List.mem_map] at hg
   obtain ⟨y, hy, rfl⟩ := hg
   exact ⟨grpB_grpN y (List.all_eq_true.1 ha y hy), grpN_idem y⟩
  ·cases h
theorem joinL_ne (c : UInt8) (x : List (List UInt8)) (h : x ≠ []) (h2 : ∀ g ∈ x, g ≠ []) : joinL c x ≠ [] := by
 match x with
 | [] => exact absurd rfl h
 | [a] => exact h2 a (List.mem_cons_self ..)
 | a :: b :: r => rw [joinL]; simp
theorem grps_join (x : List (List UInt8)) (h : ∀ g ∈ x, grpB g = true ∧ grpN g = g) : grps (joinL 58 x) = some x := by
 by_cases hx : x = []
 ·subst hx; rfl
 ·have h58 : ∀ g ∈ x, (58 : UInt8) ∉ g := fun g hg => grpB_no g (h g hg).1 58 (by decide)
  unfold grps
  rw [if_neg (joinL_ne 58 x hx (fun g hg => grpB_ne g (h g hg).1)), pcs_join 58 x hx h58, if_pos (List.all_eq_true.2 (fun g hg => (h g hg).1))]
  congr 1
  conv => rhs; rw [← List.map_id x]
  exact List.map_congr_left (fun g hg => (h g hg).2)
theorem cut2_app (a b : List UInt8) (h : (pcs 58 a).tail.all (fun g => decide (g ≠ [])) = true) : cut2 (a ++ [58, 58] ++ b) = some (a, b) := by
 induction a with
 | nil => simp [cut2]
 | cons d t ih =>
   cases t with
   | nil =>
     have hd : d ≠ 58 := by rintro rfl; simp [pcs] at h
     simp only [List.cons_append, List.nil_append]
     rw [cut2, if_neg (fun e => hd e.1)]
     simp [cut2]
   | cons e r =>
     have hx : ¬ (d = 58 ∧ e = 58) := by rintro ⟨rfl, rfl⟩; simp [pcs] at h
     have ht : (pcs 58 (e :: r)).tail.all (fun g => decide (g ≠ [])) = true := by
      obtain ⟨x, y, he⟩ := pcs_cons 58 (e :: r)
      rw [pcs] at h
      split at h
      ·rw [List.tail_cons, he, List.all_cons, Bool.and_eq_true] at h
       rw [he]; exact h.2
      ·exact h
     have := ih ht
     simp only [List.cons_append] at this ⊢
     rw [cut2, if_neg hx, this]; rfl
theorem cut2_none (a : List UInt8) (h : (pcs 58 a).tail.all (fun g => decide (g ≠ [])) = true) : cut2 a = none := by
 induction a with
 | nil => rfl
 | cons d t ih =>
   cases t with
   | nil => rfl
   | cons e r =>
     have hx : ¬ (d = 58 ∧ e = 58) := by rintro ⟨rfl, rfl⟩; simp [pcs] at h
     have ht : (pcs 58 (e :: r)).tail.all (fun g => decide (g ≠ [])) = true := by
      obtain ⟨x, y, he⟩ := pcs_cons 58 (e :: r)
      rw [pcs] at h
      split at h
      ·rw [List.tail_cons, he, List.all_cons, Bool.and_eq_true] at h
       rw [he]; exact h.2
      ·exact h
     rw [cut2, if_neg hx, ih ht]; rfl
theorem join_tail (x : List (List UInt8)) (h : ∀ g ∈ x, grpB g = true ∧ grpN g = g) : (pcs 58 (joinL 58 x)).tail.all (fun g => decide (g ≠ [])) = true := by
 by_cases hx : x = []
 ·subst hx; rfl
 ·have h58 : ∀ g ∈ x, (58 : UInt8) ∉ g := fun g hg => grpB_no g (h g hg).1 58 (by decide)
  rw [pcs_join 58 x hx h58, List.all_eq_true]
  intro g hg
  simpa using grpB_ne g (h g (List.mem_of_mem_tail hg)).1
theorem six_idem (l y : List UInt8) (h : six l = some y) : six y = some y := by
 unfold six at h
 split at h
 ·split at h
  ·rename_i a b hc x z hx hz
   split at h
   ·rename_i hl
    cases h
    have hX := grps_some _ _ hx;have hZ := grps_some _ _ hz
    unfold six
    rw [cut2_app _ _ (join_tail x hX)]
    dsimp only
    rw [grps_join x hX, grps_join z hZ]
    dsimp only
    rw [if_pos hl]
   ·cases h
  ·cases h
 ·split at h
  ·rename_i x hx
   split at h
   ·rename_i hl
    cases h
    have hX := grps_some _ _ hx
    unfold six
    rw [cut2_none _ (join_tail x hX)]
    dsimp only
    rw [grps_join x hX]
    dsimp only
    rw [if_pos hl]
   ·cases h
  ·cases h
theorem host_brack (y : List UInt8) (h : six y = some y) : hostO ([91] ++ y ++ [93]) = some ([91] ++ y ++ [93]) := by
 unfold hostO
 have e1 : ([91] ++ y ++ [93] : List UInt8).head? = some 91 := by simp
 have e2 : ([91] ++ y ++ [93] : List UInt8).tail = y ++ [93] := by simp
 rw [if_pos e1, e2, if_pos (by simp), List.dropLast_concat, h]
 rfl
theorem hostO_idem (l h : List UInt8) (hh : hostO l = some h) : hostO h = some h := by
 unfold hostO at hh
 split at hh
 ·split at hh
  ·rw [Option.map_eq_some_iff] at hh
   obtain ⟨y, hy, rfl⟩ := hh
   exact host_brack y (six_idem _ _ hy)
  ·cases hh
 ·rename_i h91
  split at hh
  ·rename_i hn
   cases hh
   unfold hostO
   rw [if_neg ?_, nameB_low, if_pos hn, lowL_idem]
   intro hx
   apply h91
   cases l with
   | nil => simp [lowL] at hx
   | cons c t => simp only [lowL, List.map_cons, List.head?_cons, Option.some.injEq] at hx ⊢; exact (lowB_iff c 91 (by decide)).1 hx
  ·rename_i hn
   split at hh
   ·rename_i hf
    cases hh
    unfold hostO
    rw [if_neg h91, if_neg hn, if_pos hf]
   ·cases hh
end Ad
end Go.Proofs.YtbcaindpbeaheaaGreatDoor
namespace Go.Proofs.YtbcaindpbeaheaaGreatDoor
namespace Ad
open Lx
theorem ltL_irrefl (a : List UInt8) : ltL a a = false := by
 induction a with
 | nil => rfl
 | cons c t ih => simp [ltL, ih]
theorem ltL_trans (a : List UInt8) : ∀ b c, ltL a b = true → ltL b c = true → ltL a c = true := by
 induction a with
 | nil => intro b c h1 h2; cases b <;> cases c <;> simp_all [ltL]
 | cons x s ih =>
   intro b c h1 h2
   cases b with
   | nil => simp [ltL] at h1
   | cons y t =>
     cases c with
     | nil => simp [ltL] at h2
     | cons z u =>
       simp only [ltL] at h1 h2 ⊢
       by_cases hxy : x.toNat < y.toNat
       ·by_cases hyz : y.toNat < z.toNat
        ·rw [if_pos (by omega)]
        ·rw [if_neg hyz] at h2
         split at h2
         ·cases h2
         ·rw [if_pos (by omega)]
       ·rw [if_neg hxy] at h1
        split at h1
        ·cases h1
        ·by_cases hyz : y.toNat < z.toNat
         ·rw [if_pos (by omega)]
         ·rw [if_neg hyz] at h2
          split at h2
          ·cases h2
          ·rw [if_neg (by omega), if_neg (by omega)]
           exact ih t u h1 h2
theorem ltL_total (a : List UInt8) : ∀ b, ltL a b = false → ltL b a = false → a = b := by
 induction a with
 | nil => intro b h1 h2; cases b <;> simp_all [ltL]
 | cons x s ih =>
   intro b h1 h2
   cases b with
   | nil => simp [ltL] at h2
   | cons y t =>
     simp only [ltL] at h1 h2
     split at h1
     ·cases h1
     ·rename_i h3
      rw [if_neg h3] at h2
      split at h1
      ·rename_i h4; rw [if_pos h4] at h2; cases h2
      ·rename_i h4
       rw [if_neg h4] at h2
       have : x.toNat = y.toNat := by omega
       rw [UInt8.toNat_inj.1 this, ih t h1 h2]
theorem ltL_asymm (a b : List UInt8) (h : ltL a b = true) : ltL b a = false := by
 cases hb : ltL b a
 ·rfl
 ·have := ltL_trans a b a h hb; rw [ltL_irrefl] at this; cases this
theorem le_trans' (a b c : List UInt8) (h1 : ltL b a = false) (h2 : ltL c b = false) : ltL c a = false := by
 cases h : ltL c a
 ·rfl
 ·by_cases hab : ltL a b = true
  ·have := ltL_trans c a b h hab; rw [this] at h2; cases h2
  ·have := ltL_total a b (by simpa using hab) h1; subst this; rw [h] at h2; cases h2
def Srtd (l : List Prm) : Prop := l.Pairwise fun a b => ltL b.1 a.1 = false
theorem insE_perm (x : Prm) (out : List Prm) : (insE x out).Perm (x :: out) := by
 unfold insE
 refine List.perm_middle.trans (.cons x ?_)
 rw [← List.reverse_append, List.takeWhile_append_dropWhile, List.reverse_reverse]
theorem srt_go_perm (l : List Prm) : ∀ out, (l.foldl (fun out x => insE x out) out).Perm (l ++ out) := by
 induction l with
 | nil => intro out; exact .refl _
 | cons x t ih =>
   intro out
   refine (ih (insE x out)).trans ?_
   refine ((insE_perm x out).append_left t).trans ?_
   exact List.perm_middle
theorem srt_perm (l : List Prm) : (srt l).Perm l := by
 have := srt_go_perm l []
 rwa [List.append_nil] at this
theorem insE_srtd (x : Prm) (out : List Prm) (h : Srtd out) : Srtd (insE x out) := by
 unfold insE
 have hs : (out.reverse.dropWhile fun y => ltL x.1 y.1).reverse ++ (out.reverse.takeWhile fun y => ltL x.1 y.1).reverse = out := by
  rw [← List.reverse_append, List.takeWhile_append_dropWhile, List.reverse_reverse]
 have hgt : ∀ y ∈ (out.reverse.takeWhile fun y => ltL x.1 y.1).reverse, ltL x.1 y.1 = true := by
  intro y hy
  rw [List.mem_reverse] at hy
  exact List.all_eq_true.1 (List.all_takeWhile (p := fun y : Prm => ltL x.1 y.1) (l := out.reverse)) y hy
 have hle : ∀ y ∈ (out.reverse.dropWhile fun y => ltL x.1 y.1).reverse, ltL x.1 y.1 = false := by
  intro y hy
  cases hd : (out.reverse.dropWhile fun y => ltL x.1 y.1) with
  | nil => rw [hd] at hy; cases hy
  | cons z r =>
    have hz : ltL x.1 z.1 = false := by
     have h0 : (out.reverse.dropWhile fun y => ltL x.1 y.1) ≠ [] := by rw [hd]; simp
     have := List.head_dropWhile_not (fun y : Prm => ltL x.1 y.1) h0
     simp only [hd, List.head_cons] at this
     exact this
    rw [hd, List.mem_reverse] at hy
    rcases List.mem_cons.1 hy with rfl | hy'
    ·exact hz
    ·have hp : (out.reverse).Pairwise fun a b => ltL a.1 b.1 = false := by
       rw [List.pairwise_reverse]; exact h
     have hsub : (z :: r).Pairwise fun a b : Prm => ltL a.1 b.1 = false := by
      rw [← hd]; exact hp.sublist (List.dropWhile_sublist _)
     have := (List.pairwise_cons.1 hsub).1 y hy'
     exact le_trans' y.1 z.1 x.1 this hz
 unfold Srtd at h ⊢
 rw [← hs, List.pairwise_append] at h
 rw [List.pairwise_append, List.pairwise_cons]
 refine ⟨h.1, ⟨fun y hy => ltL_asymm _ _ (hgt y hy), h.2.1⟩, ?_⟩
 intro a ha b hb
 rcases List.mem_cons.1 hb with rfl | hb
 ·exact hle a ha
 ·exact h.2.2 a ha b hb
theorem srt_srtd (l : List Prm) : Srtd (srt l) := by
 have : ∀ (l out : List Prm), Srtd out → Srtd (l.foldl (fun out x => insE x out) out) := by
  intro l
  induction l with
  | nil => intro out h; exact h
  | cons x t ih => intro out h; exact ih _ (insE_srtd x out h)
 exact this l [] List.Pairwise.nil
def Names (l : List Prm) : Prop := (l.map (·.1)).Nodup
theorem Names.perm {a b : List Prm} (h : Names a) (p : a.Perm b) : Names b := (p.map _).nodup_iff.1 h
theorem srtd_unique : ∀ (a b : List Prm), a.Perm b → Srtd a → Srtd b → Names a → a = b := by
 intro a
 induction a with
 | nil => intro b p _ _ _; exact (List.nil_perm.1 p).symm
 | cons x s ih =>
   intro b p ha hb hn
   cases b with
   | nil => exact absurd (List.perm_nil.1 p) (by simp)
   | cons y t =>
     have hxy : x = y := by
      have hx : x ∈ y :: t := p.mem_iff.1 (List.mem_cons_self ..)
      have hy : y ∈ x :: s := p.mem_iff.2 (List.mem_cons_self ..)
      rcases List.mem_cons.1 hx with h | hx
      ·exact h
      rcases List.mem_cons.1 hy with h | hy
      ·exact h.symm
      have h1 := (List.pairwise_cons.1 ha).1 y hy;have h2 := (List.pairwise_cons.1 hb).1 x hx;have he := ltL_total x.1 y.1 h2 h1
      unfold Names at hn
      rw [List.map_cons, List.nodup_cons] at hn
      exact absurd (by rw [he]; exact List.mem_map_of_mem hy) hn.1
     subst hxy
     rw [ih t (List.Perm.cons_inv p) (List.pairwise_cons.1 ha).2 (List.pairwise_cons.1 hb).2 (by unfold Names at hn ⊢; rw [List.map_cons, List.nodup_cons] at hn; exact hn.2)]
theorem srt_of (a b : List Prm) (p : a.Perm b) (ha : Srtd a) (hn : Names b) : a = srt b :=
 srtd_unique a (srt b) (p.trans (srt_perm b).symm) ha (srt_srtd b) (hn.perm p.symm)
theorem srt_self (a : List Prm) (ha : Srtd a) (hn : Names a) : srt a = a := (srt_of a a (.refl _) ha hn).symm
end Ad
end Go.Proofs.YtbcaindpbeaheaaGreatDoor
namespace Go.Proofs.YtbcaindpbeaheaaGreatDoor
namespace Ad
open Lx
theorem runL_app (p : Int → Bool) (a b : List UInt8) (h : ∀ c ∈ a, p c.toNat = true) : runL p (a ++ b) = a.length + runL p b := by
 induction a with
 | nil => simp
 | cons c t ih =>
   rw [List.cons_append, runL, if_pos (h c (List.mem_cons_self ..)), ih (fun d hd => h d (List.mem_cons_of_mem _ hd))]
   simp; omega
def Starts (p : Int → Bool) (b : List UInt8) : Prop := b = [] ∨ ∃ c t, b = c :: t ∧ p c.toNat = true
theorem runL_stop (p : Int → Bool) (b : List UInt8) (h : Starts p b) : runL (fun c => !p c) b = 0 := by
 rcases h with rfl | ⟨c, t, rfl, hc⟩
 ·rfl
 ·rw [runL, hc]; rfl
theorem endP_app (p : Int → Bool) (pre a b : List UInt8) (h : ∀ c ∈ a, p c.toNat = false) (hb : Starts p b) : endP p (pre ++ (a ++ b)) pre.length = pre.length + a.length := by
 unfold endP
 rw [List.drop_left, runL_app _ a b (fun c hc => by rw [h c hc]; rfl), runL_stop p b hb]; omega
theorem slc_app (pre a b : List UInt8) : slc (pre ++ (a ++ b)) pre.length (pre.length + a.length) = a := by
 unfold slc
 rw [List.take_append, List.take_of_length_le (by omega), List.drop_left]
 have : pre.length + a.length - pre.length = a.length := by omega
 rw [this, List.take_left]
theorem atB_app (pre : List UInt8) (c : UInt8) (t : List UInt8) : atB (pre ++ c :: t) pre.length = c.toNat := by
 unfold atB; rw [List.getElem?_append_right (Nat.le_refl _), Nat.sub_self]; rfl
theorem atB_end (l : List UInt8) (k : Nat) (h : l.length ≤ k) : atB l k = -1 := by
 unfold atB; rw [List.getElem?_eq_none h]
theorem atB_nil (pre : List UInt8) : atB (pre ++ []) pre.length = -1 := atB_end _ _ (by simp)
theorem endP_ge (p : Int → Bool) (l : List UInt8) (k : Nat) : k ≤ endP p l k := by unfold endP; omega
theorem endP_le (p : Int → Bool) (l : List UInt8) (k : Nat) (h : k ≤ l.length) : endP p l k ≤ l.length := by
 unfold endP
 have := runL_le (fun c => !p c) (l.drop k)
 rw [List.length_drop] at this; omega
theorem endP_at (p : Int → Bool) (l : List UInt8) (k : Nat) (h : endP p l k < l.length) : p (atB l (endP p l k)) = true := by
 have key : ∀ t : List UInt8, runL (fun c => !p c) t < t.length → ∃ c, t[runL (fun c => !p c) t]? = some c ∧ p c.toNat = true := by
  intro t
  induction t with
  | nil => intro h; simp [runL] at h
  | cons c t ih =>
    intro h
    rw [runL] at h ⊢
    cases hc : p c.toNat
    ·rw [hc] at h
     simp only [Bool.not_false, if_true, List.length_cons] at h ⊢
     obtain ⟨d, hd, hp⟩ := ih (by omega)
     exact ⟨d, by simpa using hd, hp⟩
    ·exact ⟨c, by simp, hc⟩
 have hk : k ≤ l.length := by
  rcases Nat.lt_or_ge l.length k with h2 | h2
  ·have := endP_ge p l k; omega
  ·exact h2
 unfold endP at h ⊢
 obtain ⟨c, h1, h2⟩ := key (l.drop k) (by rw [List.length_drop]; omega)
 rw [List.getElem?_drop] at h1
 unfold atB
 rw [h1]; exact h2
theorem slc_len (l : List UInt8) (a b : Nat) (h : b ≤ l.length) : (slc l a b).length = b - a := by
 unfold slc; simp; omega
theorem room_iff (acc : List Prm) (nm : List UInt8) : room acc nm = 0 ↔ nm ∉ acc.map (·.1) ∧ acc.length ≠ 16 := by
 unfold room
 split
 ·rename_i h
  rw [List.any_eq_true] at h
  obtain ⟨q, hq, he⟩ := h
  rw [beq_iff_eq] at he
  simp only [show ¬ ((7 : Int) = 0) by decide, false_iff, not_and]
  intro h; exact absurd (by rw [← he]; exact List.mem_map_of_mem hq) h
 ·rename_i h
  have h1 : nm ∉ acc.map (·.1) := by
   intro hm
   rw [List.mem_map] at hm
   obtain ⟨q, hq, he⟩ := hm
   exact h (List.any_eq_true.2 ⟨q, hq, by rw [he]; exact beq_self_eq_true nm⟩)
  split
  ·rename_i h2; simp [h2]
  ·rename_i h2; simp only [true_iff]; exact ⟨h1, h2⟩
theorem names_snoc (acc : List Prm) (p : Prm) (h : Names acc) (hp : p.1 ∉ acc.map (·.1)) : Names (acc ++ [p]) := by
 unfold Names at h ⊢
 rw [List.map_append, List.nodup_append]
 refine ⟨h, by simp, ?_⟩
 intro a ha b hb
 simp at hb; subst hb
 exact fun e => hp (e ▸ ha)
structure PL (cls : Int) (l : List Prm) : Prop where
 ok : ∀ p ∈ l, okP cls p = true
 low : ∀ p ∈ l, lowL p.1 = p.1
 names : Names l
 len : l.length ≤ 16
theorem PL.nil (cls : Int) : PL cls [] := ⟨by simp, by simp, List.Pairwise.nil, by simp⟩
theorem PL.perm {cls : Int} {a b : List Prm} (h : PL cls a) (p : a.Perm b) : PL cls b :=
 ⟨fun q hq => h.ok q (p.mem_iff.2 hq), fun q hq => h.low q (p.mem_iff.2 hq), h.names.perm p, by rw [← p.length_eq]; exact h.len⟩
theorem PL.srt {cls : Int} {a : List Prm} (h : PL cls a) : PL cls (srt a) := h.perm (srt_perm a).symm
theorem PL.snoc {cls : Int} {a : List Prm} (h : PL cls a) (p : Prm) (ho : okP cls p = true) (hl : lowL p.1 = p.1) (hr : room a p.1 = 0) : PL cls (a ++ [p]) := by
 rw [room_iff] at hr
 refine ⟨?_, ?_, names_snoc a p h.names hr.1, ?_⟩
 ·intro q hq; rcases List.mem_append.1 hq with hq | hq
  ·exact h.ok q hq
  ·simp at hq; subst hq; exact ho
 ·intro q hq; rcases List.mem_append.1 hq with hq | hq
  ·exact h.low q hq
  ·simp at hq; subst hq; exact hl
 ·have := h.len; simp; omega
theorem hasCtl_low (l : List UInt8) : hasCtl (lowL l) = hasCtl l := any_low ctlI ctlI_low l
theorem okP_low (cls : Int) (p : Prm) : okP cls (lowL p.1, p.2) = okP cls p := by
 unfold okP
 rw [hasCtl_low]
 have : (lowL p.1 ≠ []) ↔ (p.1 ≠ []) := by unfold lowL; rw [ne_eq, List.map_eq_nil_iff]
 simp only [this]
theorem nmF_PL (cls : Int) : ∀ (l acc r : List Prm), PL cls acc → nmF cls l acc = some r → PL cls r ∧ r = acc ++ l.map fun p => (lowL p.1, p.2) := by
 intro l
 induction l with
 | nil => intro acc r h e; rw [nmF] at e; cases e; exact ⟨h, by simp⟩
 | cons p t ih =>
   intro acc r h e
   rw [nmF] at e
   split at e
   ·rename_i hc
    rw [Bool.and_eq_true, decide_eq_true_eq] at hc
    have := ih _ r (h.snoc (lowL p.1, p.2) (by rw [okP_low]; exact hc.1) (lowL_idem _) hc.2) e
    exact ⟨this.1, by rw [this.2]; simp⟩
   ·cases e
theorem nmF_of (cls : Int) : ∀ (l acc : List Prm), (∀ p ∈ l, okP cls p = true) → (∀ p ∈ l, lowL p.1 = p.1) → Names (acc ++ l) → (acc ++ l).length ≤ 16 → nmF cls l acc = some (acc ++ l) := by
 intro l
 induction l with
 | nil => intro acc _ _ _ _; rw [nmF, List.append_nil]
 | cons p t ih =>
   intro acc h1 h2 h3 h4
   have hr : room acc (lowL p.1) = 0 := by
    rw [h2 p (List.mem_cons_self ..), room_iff]
    unfold Names at h3
    rw [List.map_append, List.map_cons, List.nodup_append] at h3
    refine ⟨fun hm => h3.2.2 _ hm _ (List.mem_cons_self ..) rfl, ?_⟩
    simp at h4; omega
   rw [nmF, if_pos (by rw [h1 p (List.mem_cons_self ..), hr]; rfl)]
   have e : acc ++ p :: t = acc ++ [(lowL p.1, p.2)] ++ t := by rw [h2 p (List.mem_cons_self ..)]; simp
   rw [e]
   refine ih _ (fun q hq => h1 q (List.mem_cons_of_mem _ hq)) (fun q hq => h2 q (List.mem_cons_of_mem _ hq)) (by rw [← e]; exact h3) (by rw [← e]; exact h4)
theorem PL.nm {cls : Int} {l : List Prm} (h : PL cls l) : nmF cls l [] = some l := by
 have := nmF_of cls l [] h.ok h.low h.names h.len
 simpa using this
structure NF (n : Uri) : Prop where
 params : PL 1 n.params
 psort : Srtd n.params
 heads : PL 2 n.heads
 hsort : Srtd n.heads
 kind : ((n.scheme = sipL ∨ n.scheme = sipsL) ∧ hostO n.host = some n.host ∧ 0 ≤ n.port ∧ n.port ≤ 65535 ∧ hasCtl n.user = false) ∨ (n.scheme = telL ∧ isNum n.user = true ∧ n.host = [] ∧ n.port = 0 ∧ n.heads = [])
theorem normal_NF (u n : Uri) (h : normal u = some n) : NF n := by
 unfold normal at h
 split at h
 ·rename_i ps hs hp hh
  have hP := (nmF_PL 1 _ _ _ (PL.nil 1) hp).1;have hH := nmF_PL 2 _ _ _ (PL.nil 2) hh
  split at h
  ·rename_i hk
   split at h
   ·rename_i x hx
    split at h
    ·rename_i hc
     cases h
     exact ⟨hP.srt, srt_srtd _, hH.1.srt, srt_srtd _, .inl ⟨hk, hostO_idem _ _ hx, hc⟩⟩
    ·cases h
   ·cases h
  ·split at h
   ·split at h
    ·rename_i hk hc
     cases h
     exact ⟨hP.srt, srt_srtd _, PL.nil 2, List.Pairwise.nil, .inr ⟨rfl, hc.1, rfl, rfl, rfl⟩⟩
    ·cases h
   ·cases h
 ·cases h
theorem low_sip : lowL sipL = sipL := by decide
theorem low_sips : lowL sipsL = sipsL := by decide
theorem low_tel : lowL telL = telL := by decide
theorem NF.normal {n : Uri} (h : NF n) : normal n = some n := by
 unfold Ad.normal
 rw [h.params.nm, h.heads.nm]
 dsimp only
 rw [srt_self _ h.psort h.params.names, srt_self _ h.hsort h.heads.names]
 rcases h.kind with ⟨hk, hh, h0, h1, hc⟩ | ⟨hk, hn, hh, hp, hd⟩
 ·have e : lowL n.scheme = n.scheme := by rcases hk with e | e <;> rw [e] <;> first | exact low_sip | exact low_sips
  rw [e, if_pos hk, hh]
  dsimp only
  rw [if_pos ⟨h0, h1, hc⟩]
 ·rw [hk, low_tel, if_neg (by decide), if_pos rfl, if_pos ⟨hn, hh, hp, hd⟩]
  cases n; simp_all
end Ad
end Go.Proofs.YtbcaindpbeaheaaGreatDoor
namespace Go.Proofs.YtbcaindpbeaheaaGreatDoor
namespace Ad
open Lx
theorem escp_no (k : Int) (l : List UInt8) (d : UInt8) (h : inC k d.toNat = false) (h37 : d ≠ 37) : ∀ c ∈ escpL k l, c ≠ d := by
 intro c hc e
 subst e
 rcases escp_in k l c hc with h1 | h1
 ·rw [h] at h1; cases h1
 ·exact h37 h1
theorem beq_no (c d : UInt8) (h : c ≠ d) : ((c.toNat : Int) == (d.toNat : Int)) = false := by
 rw [beq_eq_false_iff_ne]; intro e; exact h (UInt8.toNat_inj.1 (by omega))
theorem okP_iff (cls : Int) (p : Prm) : okP cls p = true ↔ p.1 ≠ [] ∧ hasCtl p.1 = false ∧ hasCtl p.2.1 = false ∧ (if cls = 2 then p.2.2 else p.2.2 == decide (p.2.1 ≠ [])) = true := by
 unfold okP; simp [and_assoc]
theorem prR_print (cls : Int) (hcls : cls = 1 ∨ cls = 2) (pre suf : List UInt8) (p : Prm) (ho : okP cls p = true) (hl : lowL p.1 = p.1) :
   prR cls (pre ++ (prP cls p ++ suf)) pre.length (pre.length + (prP cls p).length) = (p, pre.length + (prP cls p).length, 0) := by
 obtain ⟨h1, h2, h3, h4⟩ := (okP_iff cls p).1 ho
 have h61 : inC cls (61 : UInt8).toNat = false := by rcases hcls with rfl | rfl <;> decide
 have hn61 : ∀ l, ∀ c ∈ escpL cls l, ((c.toNat : Int) == 61) = false := fun l c hc => beq_no c 61 (escp_no cls l 61 h61 (by decide) c hc)
 obtain ⟨nm, v, has⟩ := p
 dsimp only at h1 h2 h3 h4 hl
 cases has
 ·-- no value
  have hp : prP cls (nm, v, false) = escpL cls nm := by simp [prP]
  rw [hp]
  have hE : min (endP (· == 61) (pre ++ (escpL cls nm ++ suf)) pre.length) (pre.length + (escpL cls nm).length) = pre.length + (escpL cls nm).length := by
   have : pre.length + (escpL cls nm).length ≤ endP (· == 61) (pre ++ (escpL cls nm ++ suf)) pre.length := by
    unfold endP
    rw [List.drop_left, runL_app _ _ _ (fun c hc => by dsimp only; rw [hn61 nm c hc]; rfl)]; omega
   omega
  unfold prR
  rw [hE, slc_app, wrdR_escp cls nm h2]
  have hc2 : cls ≠ 2 := by rintro rfl; simp at h4
  have hv : v = [] := by rw [if_neg hc2] at h4; simpa using h4
  rw [if_neg (by dsimp only; omega), if_neg h1, if_pos rfl, if_neg hc2]
  dsimp only
  rw [hl, hv]
 ·have hp : prP cls (nm, v, true) = escpL cls nm ++ 61 :: escpL cls v := by simp [prP]
  rw [hp]
  have e1 : pre ++ (escpL cls nm ++ 61 :: escpL cls v ++ suf) = pre ++ (escpL cls nm ++ (61 :: escpL cls v ++ suf)) := by simp
  have hE : endP (· == 61) (pre ++ (escpL cls nm ++ 61 :: escpL cls v ++ suf)) pre.length = pre.length + (escpL cls nm).length := by
   rw [e1]
   exact endP_app _ _ _ _ (hn61 nm) (.inr ⟨61, escpL cls v ++ suf, rfl, rfl⟩)
  have hlen : (escpL cls nm ++ 61 :: escpL cls v).length = (escpL cls nm).length + 1 + (escpL cls v).length := by simp; omega
  have hM : min (pre.length + (escpL cls nm).length) (pre.length + (escpL cls nm ++ 61 :: escpL cls v).length) = pre.length + (escpL cls nm).length := by omega
  have hs1 : slc (pre ++ (escpL cls nm ++ 61 :: escpL cls v ++ suf)) pre.length (pre.length + (escpL cls nm).length) = escpL cls nm := by rw [e1, slc_app]
  have hs2 : slc (pre ++ (escpL cls nm ++ 61 :: escpL cls v ++ suf)) (pre.length + (escpL cls nm).length + 1) (pre.length + (escpL cls nm ++ 61 :: escpL cls v).length) = escpL cls v := by
   have e2 : pre ++ (escpL cls nm ++ 61 :: escpL cls v ++ suf) = (pre ++ escpL cls nm ++ [61]) ++ (escpL cls v ++ suf) := by simp
   have l1 : pre.length + (escpL cls nm).length + 1 = (pre ++ escpL cls nm ++ [61]).length := by simp; omega
   have l2 : pre.length + (escpL cls nm ++ 61 :: escpL cls v).length = (pre ++ escpL cls nm ++ [61]).length + (escpL cls v).length := by simp; omega
   rw [e2, l1, l2, slc_app]
  unfold prR
  rw [hE, hM, hs1, hs2, wrdR_escp cls nm h2, wrdR_escp cls v h3]
  rw [if_neg (by dsimp only; omega), if_neg h1, if_neg (by omega), if_neg (by dsimp only; omega)]
  rw [if_neg ?_]
  ·dsimp only; rw [hl]
  ·rintro ⟨rfl, hv⟩
   dsimp only at hv
   rw [if_neg (by decide), hv] at h4
   cases h4
theorem prP_no (cls : Int) (p : Prm) (d : UInt8) (h : inC cls d.toNat = false) (h37 : d ≠ 37) (h61 : d ≠ 61) : ∀ c ∈ prP cls p, c ≠ d := by
 intro c hc e
 subst e
 unfold prP at hc
 rcases List.mem_append.1 hc with hc | hc
 ·exact escp_no cls _ c h h37 c hc rfl
 ·split at hc
  ·rcases List.mem_cons.1 hc with hc | hc
   ·exact h61 hc
   ·exact escp_no cls _ c h h37 c hc rfl
  ·cases hc
theorem prsF_print (bg ends : Int → Bool) (cls : Int) (hcls : cls = 1 ∨ cls = 2) (a : UInt8)
   (hends : ∀ p : Prm, ∀ c ∈ prP cls p, ends c.toNat = false) (hba : bg a.toNat = true) (hea : ends a.toNat = true) (suf : List UInt8) (hsb : bg (atB suf 0) = false) (hse : Starts ends suf) :
   ∀ (l : List Prm) (n : Nat) (f : UInt8) (pre : List UInt8) (acc : List Prm), bg f.toNat = true → (∀ p ∈ l, okP cls p = true) → (∀ p ∈ l, lowL p.1 = p.1) → Names (acc ++ l) → (acc ++ l).length ≤ 16 → l.length < n →
    prsF bg ends cls n (pre ++ (wrt f a cls l ++ suf)) pre.length acc = (acc ++ l, pre.length + (wrt f a cls l).length, 0) := by
 intro l
 induction l with
 | nil =>
   intro n f pre acc _ _ _ _ _ hn
   cases n with
   | zero => omega
   | succ n =>
     have : bg (atB (pre ++ ([] ++ suf)) pre.length) = false := by
      rw [List.nil_append]
      have : atB (pre ++ suf) pre.length = atB suf 0 := by
       unfold atB; rw [List.getElem?_append_right (Nat.le_refl _), Nat.sub_self]
      rw [this]; exact hsb
     rw [prsF]
     unfold wrt
     rw [if_pos this, List.append_nil]; rfl
 | cons p t ih =>
   intro n f pre acc hf h1 h2 h3 h4 hn
   cases n with
   | zero => omega
   | succ n =>
     have ew : wrt f a cls (p :: t) = f :: prP cls p ++ wrt a a cls t := rfl
     have e1 : pre ++ (wrt f a cls (p :: t) ++ suf) = (pre ++ [f]) ++ (prP cls p ++ (wrt a a cls t ++ suf)) := by rw [ew]; simp
     have l1 : pre.length + 1 = (pre ++ [f]).length := by simp
     have hat : atB (pre ++ (wrt f a cls (p :: t) ++ suf)) pre.length = f.toNat := by
      rw [ew]; exact atB_app pre f _
     have hst : Starts ends (wrt a a cls t ++ suf) := by
      cases t with
      | nil => exact hse
      | cons q r => exact .inr ⟨a, _, rfl, hea⟩
     have hE : endP ends ((pre ++ [f]) ++ (prP cls p ++ (wrt a a cls t ++ suf))) (pre ++ [f]).length = (pre ++ [f]).length + (prP cls p).length := endP_app _ _ _ _ (hends p) hst
     have hr : room acc p.1 = 0 := by
      rw [room_iff]
      unfold Names at h3
      rw [List.map_append, List.map_cons, List.nodup_append] at h3
      refine ⟨fun hm => h3.2.2 _ hm _ (List.mem_cons_self ..) rfl, ?_⟩
      simp at h4; omega
     have hpr := prR_print cls hcls (pre ++ [f]) (wrt a a cls t ++ suf) p (h1 p (List.mem_cons_self ..)) (h2 p (List.mem_cons_self ..))
     rw [prsF, hat, if_neg (by rw [hf]; simp), l1, e1, hE, hpr]
     dsimp only
     rw [if_neg (by simp), if_neg (by rw [hr]; simp)]
     have e2 : (pre ++ [f]) ++ (prP cls p ++ (wrt a a cls t ++ suf)) = (pre ++ [f] ++ prP cls p) ++ (wrt a a cls t ++ suf) := by simp
     have l2 : (pre ++ [f]).length + (prP cls p).length = (pre ++ [f] ++ prP cls p).length := by simp; omega
     rw [e2, l2]
     have e3 : acc ++ p :: t = acc ++ [p] ++ t := by simp
     rw [ih n a (pre ++ [f] ++ prP cls p) (acc ++ [p]) hba (fun q hq => h1 q (List.mem_cons_of_mem _ hq)) (fun q hq => h2 q (List.mem_cons_of_mem _ hq)) (by rw [← e3]; exact h3) (by rw [← e3]; exact h4) (by simp at hn; omega)]
     rw [← e3, ew]
     simp
     omega
theorem wrt_len (f a : UInt8) (cls : Int) (l : List Prm) : l.length ≤ (wrt f a cls l).length := by
 induction l generalizing f with
 | nil => simp
 | cons p t ih => have := ih a; simp [wrt]; omega
end Ad
end Go.Proofs.YtbcaindpbeaheaaGreatDoor
namespace Go.Proofs.YtbcaindpbeaheaaGreatDoor
namespace Ad
open Lx
theorem decL_one (n : Nat) (h : n < 10) : decL n = [(48 + n).toUInt8] := by rw [decL, if_pos h]
theorem decL_more (n : Nat) (h : ¬ n < 10) : decL n = decL (n / 10) ++ [(48 + n % 10).toUInt8] := by rw [decL, if_neg h]
theorem dec_nat (d : Nat) (h : d < 10) : ((48 + d).toUInt8).toNat = 48 + d := by
 simp [Nat.toUInt8]; omega
theorem decL_spec (k : Nat) : ∀ n, n ≤ k → allD (decL n) = true ∧ valL (decL n) = n ∧ 1 ≤ (decL n).length ∧ (∀ e, 1 ≤ e → n < 10 ^ e → (decL n).length ≤ e) := by
 induction k with
 | zero => intro n h; obtain rfl : n = 0 := by omega
           rw [decL_one 0 (by omega)]; exact ⟨by decide, by decide, by decide, fun e he _ => by simpa using he⟩
 | succ k ih =>
   intro n h
   by_cases h9 : n < 10
   ·rw [decL_one n h9]
    have hd := dec_nat n h9
    refine ⟨?_, ?_, by simp, fun e he _ => by simpa using he⟩
    ·simp only [allD, List.all_cons, List.all_nil, Bool.and_true, digitI, Bool.and_eq_true, decide_eq_true_eq]; omega
    ·simp only [valL, List.foldl_cons, List.foldl_nil]; omega
   ·rw [decL_more n h9]
    obtain ⟨a, b, c, d⟩ := ih (n / 10) (by omega)
    have hd := dec_nat (n % 10) (by omega)
    refine ⟨?_, ?_, by simp, ?_⟩
    ·rw [allD_snoc, a]; simp only [Bool.true_and, digitI, Bool.and_eq_true, decide_eq_true_eq]; omega
    ·rw [valL_snoc, b]; omega
    ·intro e he hlt
     obtain ⟨e', rfl⟩ : ∃ e', e = e' + 1 := ⟨e - 1, by omega⟩
     have h10 : n / 10 < 10 ^ e' := by rw [Nat.pow_succ] at hlt; omega
     have he' : 1 ≤ e' := by
      rcases Nat.eq_zero_or_pos e' with h0 | h0
      ·subst h0; simp at h10; omega
      ·exact h0
     have := d e' he' h10
     simp; omega
theorem dec_num (n : Nat) (h : n ≤ 65535) : numE (decL n) = 0 ∧ numN (decL n) = n := by
 obtain ⟨a, b, c, d⟩ := decL_spec n n (Nat.le_refl _)
 have := d 5 (by omega) (by omega)
 have := num_ok (decL n) c (by omega) a (by rw [b]; omega)
 exact ⟨this.2, by rw [this.1, b]⟩
theorem allD_no (l : List UInt8) (h : allD l = true) (d : UInt8) (hd : digitI d.toNat = false) : ∀ c ∈ l, c ≠ d := by
 intro c hc e
 subst e
 have := List.all_eq_true.1 h c hc
 rw [hd] at this; cases this
theorem endP_none (p : Int → Bool) (pre a : List UInt8) (h : ∀ c ∈ a, p c.toNat = false) : endP p (pre ++ a) pre.length = (pre ++ a).length := by
 have := endP_app p pre a [] h (.inl rfl)
 rw [List.append_nil] at this
 rw [this]; simp
theorem join_chars (c : UInt8) (x : List (List UInt8)) (P : UInt8 → Prop) (hc : P c) (h : ∀ g ∈ x, ∀ d ∈ g, P d) : ∀ d ∈ joinL c x, P d := by
 induction x with
 | nil => intro d hd; cases hd
 | cons a r ih =>
   cases r with
   | nil => exact h a (List.mem_cons_self ..)
   | cons b r =>
     intro d hd
     rw [joinL] at hd
     rcases List.mem_append.1 hd with hd | hd
     ·exact h a (List.mem_cons_self ..) d hd
     ·rcases List.mem_cons.1 hd with rfl | hd
      ·exact hc
      ·exact ih (fun g hg => h g (List.mem_cons_of_mem _ hg)) d hd
def GC (d : UInt8) : Prop := hexC d.toNat = true ∨ d = 58
theorem grp_chars (x : List (List UInt8)) (h : ∀ g ∈ x, grpB g = true ∧ grpN g = g) : ∀ d ∈ joinL 58 x, GC d :=
 join_chars 58 x GC (.inr rfl) (fun g hg d hd => .inl (by
  have := (h g hg).1
  unfold grpB at this
  simp only [Bool.and_eq_true, List.all_eq_true] at this
  exact this.2 d hd))
theorem six_chars (l y : List UInt8) (h : six l = some y) : ∀ d ∈ y, GC d := by
 unfold six at h
 split at h
 ·split at h
  ·rename_i a b hc x z hx hz
   split at h
   ·cases h
    intro d hd
    rcases List.mem_append.1 hd with hd | hd
    ·rcases List.mem_append.1 hd with hd | hd
     ·exact grp_chars x (grps_some _ _ hx) d hd
     ·simp at hd; exact .inr hd
    ·exact grp_chars z (grps_some _ _ hz) d hd
   ·cases h
  ·cases h
 ·split at h
  ·rename_i x hx
   split at h
   ·cases h; exact grp_chars x (grps_some _ _ hx)
   ·cases h
  ·cases h
theorem host_kinds (h : List UInt8) (hh : hostO h = some h) : (∃ y, h = [91] ++ y ++ [93] ∧ ∀ d ∈ y, GC d) ∨ (h ≠ [] ∧ h.head? ≠ some 91 ∧ ∀ d ∈ h, lblC d.toNat = true ∨ d = 46) := by
 have name : ∀ l : List UInt8, (pcs 46 l).all lblB = true → l ≠ [] ∧ ∀ d ∈ l, lblC d.toNat = true ∨ d = 46 := by
  intro l ha
  constructor
  ·rintro rfl; simp [pcs, lblB] at ha
  ·have hj := join_pcs 46 l
   rw [← hj]
   refine join_chars 46 (pcs 46 l) (fun d => lblC d.toNat = true ∨ d = 46) (.inr rfl) (fun g hg d hd => .inl ?_)
   have := List.all_eq_true.1 ha g hg
   unfold lblB at this
   simp only [Bool.and_eq_true, List.all_eq_true] at this
   exact this.2 d hd
 unfold hostO at hh
 split at hh
 ·split at hh
  ·rw [Option.map_eq_some_iff] at hh
   obtain ⟨y, hy, e⟩ := hh
   exact .inl ⟨y, e.symm, six_chars _ _ hy⟩
  ·cases hh
 ·rename_i h91
  split at hh
  ·rename_i hn
   unfold nameB at hn
   simp only [Bool.and_eq_true] at hn
   have := name h hn.1.2
   exact .inr ⟨this.1, h91, this.2⟩
  ·split at hh
   ·rename_i hf
    unfold fourB at hf
    simp only [Bool.and_eq_true, decide_eq_true_eq] at hf
    refine .inr ⟨?_, h91, ?_⟩
    ·rintro rfl; simp [pcs] at hf
    ·have hj := join_pcs 46 h
     rw [← hj]
     refine join_chars 46 (pcs 46 h) (fun d => lblC d.toNat = true ∨ d = 46) (.inr rfl) (fun g hg d hd => .inl ?_)
     have := List.all_eq_true.1 hf.2 g hg
     unfold numB at this
     simp only [Bool.and_eq_true, allD, List.all_eq_true] at this
     unfold lblC; rw [this.1.2 d hd]; simp
   ·cases hh
theorem GC_no (d : UInt8) (h : GC d) (k : UInt8) (hk : hexC k.toNat = false) (h58 : k ≠ 58) : d ≠ k := by
 rintro rfl
 rcases h with h | h
 ·rw [hk] at h; cases h
 ·exact h58 h
theorem LC_no (d : UInt8) (h : lblC d.toNat = true ∨ d = 46) (k : UInt8) (hk : lblC k.toNat = false) (h46 : k ≠ 46) : d ≠ k := by
 rintro rfl
 rcases h with h | h
 ·rw [hk] at h; cases h
 ·exact h46 h
theorem host_no (h : List UInt8) (hh : hostO h = some h) : ∀ d ∈ h, d ≠ 64 := by
 intro d hd
 rcases host_kinds h hh with ⟨y, rfl, hy⟩ | ⟨_, _, hy⟩
 ·simp only [List.mem_append, List.mem_cons, List.not_mem_nil, or_false] at hd
  rcases hd with (rfl | hd) | rfl
  ·decide
  ·exact GC_no d (hy d hd) 64 (by decide) (by decide)
  ·decide
 ·exact LC_no d (hy d hd) 64 (by decide) (by decide)
theorem hstR_print (pre h suf : List UInt8) (hh : hostO h = some h) (hs : Starts hendC suf) : hstR (pre ++ (h ++ suf)) pre.length = (h, pre.length + h.length, 0) := by
 have key : hstTo (pre ++ (h ++ suf)) pre.length = pre.length + h.length := by
  unfold hstTo
  rcases host_kinds h hh with ⟨y, rfl, hy⟩ | ⟨hne, h91, hy⟩
  ·have e : pre ++ ([91] ++ y ++ [93] ++ suf) = pre ++ 91 :: (y ++ 93 :: suf) := by simp
   rw [e, atB_app, if_pos (by decide)]
   have e2 : pre ++ 91 :: (y ++ 93 :: suf) = pre ++ ((91 :: y) ++ 93 :: suf) := by simp
   have hE : endP (· == 93) (pre ++ 91 :: (y ++ 93 :: suf)) pre.length = pre.length + (91 :: y).length := by
    rw [e2]
    refine endP_app _ _ _ _ ?_ (.inr ⟨93, suf, rfl, rfl⟩)
    intro c hc
    refine beq_no c 93 ?_
    rcases List.mem_cons.1 hc with rfl | hc
    ·decide
    ·exact GC_no c (hy c hc) 93 (by decide) (by decide)
   rw [hE]; simp; omega
  ·cases h with
   | nil => exact absurd rfl hne
   | cons c t =>
     have hc : (c.toNat : Int) ≠ 91 := by
      intro e; apply h91
      have : c = 91 := by rw [← UInt8.toNat_inj]; exact Int.ofNat.inj e
      rw [this]; rfl
     have e : pre ++ (c :: t ++ suf) = pre ++ c :: (t ++ suf) := rfl
     rw [e, atB_app, if_neg hc]
     refine endP_app hendC pre (c :: t) suf ?_ hs
     intro d hd
     have h1 := LC_no d (hy d hd)
     unfold hendC
     have a1 := beq_no d 58 (h1 58 (by decide) (by decide))
     have a2 := beq_no d 59 (h1 59 (by decide) (by decide))
     have a3 := beq_no d 63 (h1 63 (by decide) (by decide))
     simp only [show ((58 : UInt8).toNat : Int) = 58 from rfl, show ((59 : UInt8).toNat : Int) = 59 from rfl, show ((63 : UInt8).toNat : Int) = 63 from rfl] at a1 a2 a3
     rw [a1, a2, a3]; rfl
 unfold hstR
 rw [key, slc_app, hh]
theorem telS_le (o : Bool) (l : List UInt8) : (telS o l).1.length ≤ (telS o l).2 ∧ (telS o l).2 ≤ l.length := by
 induction l with
 | nil => simp [telS]
 | cons c t ih =>
   rw [telS]
   split
   ·simp; omega
   ·split
    ·simp; omega
    ·simp
theorem telS_full (o : Bool) (l : List UInt8) (h : (telS o l).1.length = l.length) : telS o l = (l, l.length) ∧ ∀ c ∈ l, (digitI c.toNat || (o && locC c.toNat)) = true := by
 induction l with
 | nil => simp [telS]
 | cons c t ih =>
   rw [telS] at h ⊢
   have hle := telS_le o t
   split at h
   ·rename_i hc
    simp only [List.length_cons, Nat.add_right_cancel_iff] at h
    obtain ⟨h1, h2⟩ := ih h
    rw [if_pos hc, h1]
    refine ⟨rfl, ?_⟩
    intro d hd
    rcases List.mem_cons.1 hd with rfl | hd
    ·exact hc
    ·exact h2 d hd
   ·split at h
    ·simp at h; omega
    ·simp at h
def NumK (s : List UInt8) : Prop := (∃ t, s = 43 :: t ∧ t ≠ [] ∧ t.length ≤ 30 ∧ telS false t = (t, t.length) ∧ ∀ c ∈ t, digitI c.toNat = true) ∨ (atB s 0 ≠ 43 ∧ s ≠ [] ∧ s.length ≤ 30 ∧ telS true s = (s, s.length) ∧ ∀ c ∈ s, (digitI c.toNat || locC c.toNat) = true)
theorem slc_le (l : List UInt8) (a b : Nat) : (slc l a b).length ≤ b - a := by unfold slc; simp; omega
theorem slc_full (l : List UInt8) (a b : Nat) (h : l.length ≤ b) : slc l a b = l.drop a := by unfold slc; rw [List.take_of_length_le h]
theorem num_kinds (s : List UInt8) (h : isNum s = true) : NumK s := by
 unfold isNum at h
 simp only [Bool.and_eq_true, decide_eq_true_eq] at h
 obtain ⟨h0, h1⟩ := h
 unfold telR at h0 h1
 have hb : endP (· == 59) s 0 ≤ s.length := endP_le _ _ _ (Nat.zero_le _)
 by_cases h43 : atB s 0 = 43
 ·rw [if_pos h43] at h0 h1
  split at h0
  ·simp at h0
  ·rename_i ha; rw [if_neg ha] at h1
   split at h0
   ·simp at h0
   ·rename_i hb'; rw [if_neg hb'] at h1
    split at h0
    ·simp at h0
    ·rename_i hc; rw [if_neg hc] at h1
     dsimp only at h1
     left
     have hle := telS_le false (slc s (0 + 1) (endP (· == 59) s 0))
     have hsl := slc_le s (0 + 1) (endP (· == 59) s 0)
     have hlen : (telS false (slc s (0 + 1) (endP (· == 59) s 0))).1.length + 1 = s.length := by have := congrArg List.length h1; rwa [List.length_cons] at this
     have hpos := List.length_pos_iff.2 hb'
     have hto : endP (· == 59) s 0 = s.length := by omega
     rw [hto, slc_full s _ _ (Nat.le_refl _)] at h1 hle hb' hc hlen
     have hd : (s.drop (0 + 1)).length = s.length - 1 := by simp
     obtain ⟨f1, f2⟩ := telS_full false (s.drop (0 + 1)) (by omega)
     refine ⟨s.drop (0 + 1), ?_, ?_, ?_, f1, fun c hc => by simpa using f2 c hc⟩
     ·rw [f1] at h1; exact h1.symm
     ·rw [f1] at hb'; exact hb'
     ·rw [f1] at hc; dsimp only at hc; omega
 ·rw [if_neg h43] at h0 h1
  split at h0
  ·simp at h0
  ·rename_i ha; rw [if_neg ha] at h1
   split at h0
   ·simp at h0
   ·rename_i hb'; rw [if_neg hb'] at h1
    split at h0
    ·simp at h0
    ·rename_i hc; rw [if_neg hc] at h1
     dsimp only at h1
     right
     have hle := telS_le true (slc s 0 (endP (· == 59) s 0))
     have hsl := slc_le s 0 (endP (· == 59) s 0)
     have hlen : (telS true (slc s 0 (endP (· == 59) s 0))).1.length = s.length := by rw [h1]
     have hto : endP (· == 59) s 0 = s.length := by omega
     rw [hto, slc_full s _ _ (Nat.le_refl _), List.drop_zero] at h1 hle hb' hc hlen
     obtain ⟨f1, f2⟩ := telS_full true s (by omega)
     refine ⟨h43, ?_, ?_, f1, fun c hc => by simpa using f2 c hc⟩
     ·rw [h1] at hb'; exact hb'
     ·rw [h1] at hc; omega
theorem telR_print (pre s suf : List UInt8) (h : NumK s) (hs : Starts (· == 59) suf) : telR (pre ++ (s ++ suf)) pre.length = (s, pre.length + s.length, 0) := by
 have d59 : ∀ c : UInt8, (digitI c.toNat || locC c.toNat) = true → ((c.toNat : Int) == 59) = false := by
  intro c hc
  refine beq_no c 59 ?_
  rintro rfl; revert hc; decide
 rcases h with ⟨t, rfl, hne, hl, hS, hd⟩ | ⟨h43, hne, hl, hS, hd⟩
 ·have hE : endP (· == 59) (pre ++ (43 :: t ++ suf)) pre.length = pre.length + (43 :: t).length := by
    refine endP_app _ _ _ _ ?_ hs
    intro c hc
    rcases List.mem_cons.1 hc with rfl | hc
    ·decide
    ·exact d59 c (by rw [hd c hc]; rfl)
  have e : pre ++ (43 :: t ++ suf) = pre ++ 43 :: (t ++ suf) := rfl
  have hslc : slc (pre ++ (43 :: t ++ suf)) (pre.length + 1) (pre.length + (43 :: t).length) = t := by
   have e2 : pre ++ (43 :: t ++ suf) = (pre ++ [43]) ++ (t ++ suf) := by simp
   have l1 : pre.length + 1 = (pre ++ [43]).length := by simp
   have l2 : pre.length + (43 :: t).length = (pre ++ [43]).length + t.length := by simp; omega
   rw [e2, l2, l1, slc_app]
  unfold telR
  rw [hE, hslc, e, atB_app, if_pos (by decide), hS]
  rw [if_neg (by simp; omega), if_neg hne, if_neg (by dsimp only; omega)]
 ·have hE : endP (· == 59) (pre ++ (s ++ suf)) pre.length = pre.length + s.length :=
    endP_app _ _ _ _ (fun c hc => d59 c (hd c hc)) hs
  have hat : atB (pre ++ (s ++ suf)) pre.length ≠ 43 := by
   cases s with
   | nil => exact absurd rfl hne
   | cons c t => rw [show pre ++ (c :: t ++ suf) = pre ++ c :: (t ++ suf) from rfl, atB_app]; exact h43
  unfold telR
  rw [hE, slc_app, if_neg hat, hS]
  rw [if_neg (by simp), if_neg hne, if_neg (by dsimp only; omega)]
end Ad
end Go.Proofs.YtbcaindpbeaheaaGreatDoor
namespace Go.Proofs.YtbcaindpbeaheaaGreatDoor
namespace Ad
open Lx
theorem wrt_no (f a : UInt8) (cls : Int) (l : List Prm) (d : UInt8) (h : inC cls d.toNat = false) (h37 : d ≠ 37) (h61 : d ≠ 61) (hf : d ≠ f) (ha : d ≠ a) : ∀ c ∈ wrt f a cls l, c ≠ d := by
 induction l generalizing f with
 | nil => intro c hc; cases hc
 | cons p t ih =>
   intro c hc
   have ew : wrt f a cls (p :: t) = f :: (prP cls p ++ wrt a a cls t) := rfl
   rw [ew] at hc
   rcases List.mem_cons.1 hc with rfl | hc
   ·exact fun e => hf e.symm
   ·rcases List.mem_append.1 hc with hc | hc
    ·exact prP_no cls p d h h37 h61 c hc
    ·exact ih a ha c hc
theorem wrt_starts (p : Int → Bool) (f a : UInt8) (cls : Int) (l : List Prm) (suf : List UInt8) (hf : p f.toNat = true) (hs : Starts p suf) : Starts p (wrt f a cls l ++ suf) := by
 cases l with
 | nil => exact hs
 | cons q t => exact .inr ⟨f, _, rfl, hf⟩
def tailU (n : Uri) : List UInt8 := wrt 59 59 1 n.params ++ (wrt 63 38 2 n.heads ++ [])
def portU (n : Uri) : List UInt8 := if n.port = 0 then [] else 58 :: decL n.port.toNat
def userU (n : Uri) : List UInt8 := if n.user = [] then [] else escpL 0 n.user ++ [64]
theorem tail_starts (n : Uri) : Starts semq (tailU n) := wrt_starts semq 59 59 1 _ _ rfl (wrt_starts semq 63 38 2 _ _ rfl (.inl rfl))
theorem port_starts (n : Uri) : Starts hendC (portU n ++ tailU n) := by
 unfold portU
 split
 ·rcases tail_starts n with h | ⟨c, t, h, hc⟩
  ·exact .inl h
  ·exact .inr ⟨c, t, h, by unfold hendC; unfold semq at hc; rw [hc]; simp⟩
 ·exact .inr ⟨58, _, rfl, rfl⟩
theorem tail_no64 (n : Uri) : ∀ c ∈ tailU n, c ≠ 64 := by
 intro c hc
 unfold tailU at hc
 rcases List.mem_append.1 hc with hc | hc
 ·exact wrt_no 59 59 1 _ 64 (by decide) (by decide) (by decide) (by decide) (by decide) c hc
 ·rw [List.append_nil] at hc
  exact wrt_no 63 38 2 _ 64 (by decide) (by decide) (by decide) (by decide) (by decide) c hc
theorem port_no64 (n : Uri) : ∀ c ∈ portU n, c ≠ 64 := by
 intro c hc
 unfold portU at hc
 split at hc
 ·cases hc
 ·rcases List.mem_cons.1 hc with rfl | hc
  ·decide
  ·exact allD_no _ (decL_spec _ _ (Nat.le_refl _)).1 64 (by decide) c hc
theorem usrR_print (pre : List UInt8) (n : Uri) (h : hostO n.host = some n.host) (hc : hasCtl n.user = false) :
   usrR (pre ++ (userU n ++ (n.host ++ (portU n ++ tailU n)))) pre.length = (n.user, pre.length + (userU n).length, 0) := by
 have hno : ∀ c ∈ n.host ++ (portU n ++ tailU n), ((c.toNat : Int) == 64) = false := by
  intro c hm
  refine beq_no c 64 ?_
  rcases List.mem_append.1 hm with hm | hm
  ·exact host_no _ h c hm
  ·rcases List.mem_append.1 hm with hm | hm
   ·exact port_no64 n c hm
   ·exact tail_no64 n c hm
 by_cases hu : n.user = []
 ·have e : userU n = [] := by unfold userU; rw [if_pos hu]
  rw [e, List.nil_append]
  unfold usrR
  rw [if_pos (endP_none _ _ _ hno), hu]; rfl
 ·have e : userU n = escpL 0 n.user ++ [64] := by unfold userU; rw [if_neg hu]
  generalize n.host ++ (portU n ++ tailU n) = R
  rw [e]
  have e2 : pre ++ (escpL 0 n.user ++ [64] ++ R) = pre ++ (escpL 0 n.user ++ (64 :: R)) := by simp
  rw [e2]
  have hE : endP (· == 64) (pre ++ (escpL 0 n.user ++ (64 :: R))) pre.length = pre.length + (escpL 0 n.user).length :=
   endP_app _ _ _ _ (fun c hm => beq_no c 64 (escp_no 0 _ 64 (by decide) (by decide) c hm)) (.inr ⟨64, R, rfl, rfl⟩)
  unfold usrR
  rw [hE, slc_app, wrdR_escp 0 _ hc]
  rw [if_neg (by simp), if_neg (by dsimp only; omega), if_neg hu]
  simp; omega
theorem prtR_print (pre : List UInt8) (n : Uri) (h0 : 0 ≤ n.port) (h1 : n.port ≤ 65535) : prtR (pre ++ (portU n ++ tailU n)) pre.length = (n.port, pre.length + (portU n).length, 0) := by
 have hT := tail_starts n
 generalize tailU n = T at hT
 by_cases hp : n.port = 0
 ·have e : portU n = [] := by unfold portU; rw [if_pos hp]
  rw [e, List.nil_append]
  have hE : endP semq (pre ++ T) pre.length = pre.length := endP_app semq pre [] T (fun c hc => by cases hc) hT
  have hat : atB (pre ++ T) pre.length ≠ 58 := by
   rcases hT with rfl | ⟨c, t, rfl, hc⟩
   ·rw [atB_nil]; decide
   ·rw [atB_app]; intro e; rw [e] at hc; exact absurd hc (by decide)
  unfold prtR
  rw [if_neg hat, hE, if_neg (by omega), hp]; rfl
 ·obtain ⟨k, hk⟩ : ∃ k : Nat, n.port = k := ⟨n.port.toNat, by omega⟩
  have e : portU n = 58 :: decL k := by unfold portU; rw [if_neg hp, hk, Int.toNat_natCast]
  rw [e]
  obtain ⟨d1, d2⟩ := dec_num k (by omega)
  have e2 : pre ++ (58 :: decL k ++ T) = pre ++ 58 :: (decL k ++ T) := rfl
  have e3 : pre ++ (58 :: decL k ++ T) = (pre ++ [58]) ++ (decL k ++ T) := by simp
  have l1 : pre.length + 1 = (pre ++ [58]).length := by simp
  have hE : endP semq (pre ++ (58 :: decL k ++ T)) (pre.length + 1) = (pre ++ [58]).length + (decL k).length := by
   rw [e3, l1]
   refine endP_app _ _ _ _ ?_ hT
   intro c hm
   have hd := allD_no _ (decL_spec k k (Nat.le_refl _)).1
   have a1 := beq_no c 59 (hd 59 (by decide) c hm)
   have a2 := beq_no c 63 (hd 63 (by decide) c hm)
   simp only [show ((59 : UInt8).toNat : Int) = 59 from rfl, show ((63 : UInt8).toNat : Int) = 63 from rfl] at a1 a2
   unfold semq; rw [a1, a2]; rfl
  have hS : slc (pre ++ (58 :: decL k ++ T)) (pre.length + 1) ((pre ++ [58]).length + (decL k).length) = decL k := by rw [e3, l1, slc_app]
  unfold prtR
  rw [hE, hS, e2, atB_app, if_pos (by decide), d1, d2, if_neg (by simp), if_neg (by omega), hk]
  simp; omega
theorem semq_no (p : Prm) : ∀ c ∈ prP 1 p, semq c.toNat = false := by
 intro c hc
 have a1 := beq_no c 59 (prP_no 1 p 59 (by decide) (by decide) (by decide) c hc)
 have a2 := beq_no c 63 (prP_no 1 p 63 (by decide) (by decide) (by decide) c hc)
 simp only [show ((59 : UInt8).toNat : Int) = 59 from rfl, show ((63 : UInt8).toNat : Int) = 63 from rfl] at a1 a2
 unfold semq; rw [a1, a2]; rfl
theorem atB_first (suf : List UInt8) (p : Int → Bool) (h : ∀ c t, suf = c :: t → p c.toNat = false) (h0 : p (-1) = false) : p (atB suf 0) = false := by
 cases suf with
 | nil => exact h0
 | cons c t => exact h c t rfl
theorem sip_print (s pre : List UInt8) (n : Uri) (hs : n.scheme = s) (hp : PL 1 n.params) (hps : Srtd n.params) (hh : PL 2 n.heads) (hhs : Srtd n.heads) (h : hostO n.host = some n.host) (h0 : 0 ≤ n.port) (h1 : n.port ≤ 65535) (hc : hasCtl n.user = false) :
   sipR s (pre ++ (userU n ++ (n.host ++ (portU n ++ tailU n)))) pre.length = (n, 0, 0) := by
 obtain ⟨l, hl⟩ : ∃ l, pre ++ (userU n ++ (n.host ++ (portU n ++ tailU n))) = l := ⟨_, rfl⟩
 have hU := usrR_print pre n h hc
 have e1 : pre ++ (userU n ++ (n.host ++ (portU n ++ tailU n))) = (pre ++ userU n) ++ (n.host ++ (portU n ++ tailU n)) := by simp
 have hH := hstR_print (pre ++ userU n) n.host _ h (port_starts n)
 rw [← e1] at hH
 have e2 : pre ++ (userU n ++ (n.host ++ (portU n ++ tailU n))) = (pre ++ userU n ++ n.host) ++ (portU n ++ tailU n) := by simp
 have hPt := prtR_print (pre ++ userU n ++ n.host) n h0 h1
 rw [← e2] at hPt
 have e3 : pre ++ (userU n ++ (n.host ++ (portU n ++ tailU n))) = (pre ++ userU n ++ n.host ++ portU n) ++ (wrt 59 59 1 n.params ++ (wrt 63 38 2 n.heads ++ [])) := by simp [tailU]
 have hLen : (pre ++ userU n ++ n.host ++ portU n).length + (wrt 59 59 1 n.params).length + (wrt 63 38 2 n.heads).length = l.length := by rw [← hl, e3]; simp; omega
 have hPs : prmsR semq l (pre ++ userU n ++ n.host ++ portU n).length = (n.params, (pre ++ userU n ++ n.host ++ portU n).length + (wrt 59 59 1 n.params).length, 0) := by
  unfold prmsR
  conv => lhs; rw [← hl, e3]
  have hw := wrt_len 59 59 1 n.params
  refine prsF_print (· == 59) semq 1 (.inl rfl) 59 semq_no rfl rfl _ (atB_first _ (· == 59) ?_ rfl) (wrt_starts semq 63 38 2 _ _ rfl (.inl rfl)) n.params _ 59 _ [] rfl hp.ok hp.low hp.names hp.len (by rw [← e3, hl]; omega)
  intro c t he
  cases hhd : n.heads with
  | nil => rw [hhd] at he; cases he
  | cons q r => rw [hhd] at he; injection he with he _; rw [← he]; rfl
 have e4 : pre ++ (userU n ++ (n.host ++ (portU n ++ tailU n))) = (pre ++ userU n ++ n.host ++ portU n ++ wrt 59 59 1 n.params) ++ (wrt 63 38 2 n.heads ++ []) := by simp [tailU]
 have hHs : headsR l (pre ++ userU n ++ n.host ++ portU n ++ wrt 59 59 1 n.params).length = (n.heads, (pre ++ userU n ++ n.host ++ portU n ++ wrt 59 59 1 n.params).length + (wrt 63 38 2 n.heads).length, 0) := by
  unfold headsR
  conv => lhs; rw [← hl, e4]
  have hw := wrt_len 63 38 2 n.heads
  refine prsF_print headC (· == 38) 2 (.inr rfl) 38 ?_ rfl rfl [] rfl (.inl rfl) n.heads _ 63 _ [] rfl hh.ok hh.low hh.names hh.len (by rw [← e4, hl]; omega)
  intro p c hm
  exact beq_no c 38 (prP_no 2 p 38 (by decide) (by decide) (by decide) c hm)
 have l2 : pre.length + (userU n).length = (pre ++ userU n).length := by simp
 have l3 : (pre ++ userU n).length + n.host.length = (pre ++ userU n ++ n.host).length := by simp; omega
 have l4 : (pre ++ userU n ++ n.host).length + (portU n).length = (pre ++ userU n ++ n.host ++ portU n).length := by simp; omega
 have l5 : (pre ++ userU n ++ n.host ++ portU n).length + (wrt 59 59 1 n.params).length = (pre ++ userU n ++ n.host ++ portU n ++ wrt 59 59 1 n.params).length := by simp; omega
 rw [hl] at hU hH hPt ⊢
 rw [l2] at hU
 rw [l3] at hH
 rw [l4] at hPt
 rw [l5] at hPs
 unfold sipR
 rw [hU]
 dsimp only
 rw [hH]
 dsimp only
 rw [hPt]
 dsimp only
 rw [hPs]
 dsimp only
 rw [hHs]
 dsimp only
 rw [srt_self _ hps hp.names, srt_self _ hhs hh.names]
 simp only [ne_eq, not_true_eq_false, if_false]
 rw [← hs]
theorem tel_print (pre : List UInt8) (n : Uri) (hs : n.scheme = telL) (hp : PL 1 n.params) (hps : Srtd n.params) (hn : isNum n.user = true) (hh : n.host = []) (hpt : n.port = 0) (hhd : n.heads = []) :
   telU (pre ++ (n.user ++ (wrt 59 59 1 n.params ++ []))) pre.length = (n, 0, 0) := by
 obtain ⟨l, hl⟩ : ∃ l, pre ++ (n.user ++ (wrt 59 59 1 n.params ++ [])) = l := ⟨_, rfl⟩
 have hT := telR_print pre n.user (wrt 59 59 1 n.params ++ []) (num_kinds _ hn) (wrt_starts _ 59 59 1 _ _ rfl (.inl rfl))
 have e1 : pre ++ (n.user ++ (wrt 59 59 1 n.params ++ [])) = (pre ++ n.user) ++ (wrt 59 59 1 n.params ++ []) := by simp
 have hLen : (pre ++ n.user).length + (wrt 59 59 1 n.params).length = l.length := by rw [← hl]; simp; omega
 have hPs : prmsR (· == 59) l (pre ++ n.user).length = (n.params, (pre ++ n.user).length + (wrt 59 59 1 n.params).length, 0) := by
  unfold prmsR
  conv => lhs; rw [← hl, e1]
  have hw := wrt_len 59 59 1 n.params
  refine prsF_print (· == 59) (· == 59) 1 (.inl rfl) 59 ?_ rfl rfl [] rfl (.inl rfl) n.params _ 59 _ [] rfl hp.ok hp.low hp.names hp.len (by rw [← e1, hl]; omega)
  intro p c hm
  exact beq_no c 59 (prP_no 1 p 59 (by decide) (by decide) (by decide) c hm)
 have l2 : pre.length + n.user.length = (pre ++ n.user).length := by simp
 rw [hl] at hT ⊢
 rw [l2] at hT
 unfold telU
 rw [hT]
 dsimp only
 rw [hPs]
 dsimp only
 rw [srt_self _ hps hp.names]
 simp only [ne_eq, not_true_eq_false, if_false]
 cases n with
 | mk a b c d e f =>
   dsimp only at hs hh hpt hhd ⊢
   rw [hs, hh, hpt, hhd]
theorem parse_text (n : Uri) (h : NF n) (hl : (textU n).length ≤ 1024) : parse (textU n) = (n, 0, 0) := by
 rcases h.kind with ⟨hk, hh, h0, h1, hc⟩ | ⟨hk, hn, hh, hp, hd⟩
 ·have hne : n.scheme ≠ telL := by rcases hk with e | e <;> rw [e] <;> decide
  have e : textU n = n.scheme ++ [58] ++ (userU n ++ (n.host ++ (portU n ++ tailU n))) := by
   unfold textU userU portU tailU; rw [if_neg hne]; simp
  have e2 : textU n = [] ++ (n.scheme ++ (58 :: (userU n ++ (n.host ++ (portU n ++ tailU n))))) := by rw [e]; simp
  have hE : endP (· == 58) (textU n) 0 = n.scheme.length := by
   rw [e2]
   have := endP_app (· == 58) [] n.scheme (58 :: (userU n ++ (n.host ++ (portU n ++ tailU n)))) (by rcases hk with e | e <;> rw [e] <;> decide) (.inr ⟨58, _, rfl, rfl⟩)
   simpa using this
  have hT : (textU n).take n.scheme.length = n.scheme := by rw [e2, List.nil_append, List.take_left]
  have hL : n.scheme.length < (textU n).length := by rw [e2]; simp
  have hlow : lowL n.scheme = n.scheme := by rcases hk with e | e <;> rw [e] <;> first | exact low_sip | exact low_sips
  unfold parse
  rw [if_neg (by omega), hE, if_neg (by omega), hT, hlow, if_pos hk]
  have l1 : n.scheme.length + 1 = (n.scheme ++ [58]).length := by simp
  rw [e, l1]
  exact sip_print n.scheme _ n rfl h.params h.psort h.heads h.hsort hh h0 h1 hc
 ·have e : textU n = [116, 101, 108, 58] ++ (n.user ++ (wrt 59 59 1 n.params ++ [])) := by
    unfold textU; rw [if_pos hk]; simp
  have hE : endP (· == 58) (textU n) 0 = 3 := by
   rw [e]
   have := endP_app (· == 58) [] [116, 101, 108] (58 :: (n.user ++ (wrt 59 59 1 n.params ++ []))) (by decide) (.inr ⟨58, _, rfl, rfl⟩)
   simpa using this
  have hT : (textU n).take 3 = telL := by rw [e]; rfl
  have hL : 3 < (textU n).length := by rw [e]; simp
  unfold parse
  rw [if_neg (by omega), hE, if_neg (by omega), hT, low_tel, if_neg (by decide), if_pos rfl]
  rw [e]
  exact tel_print [116, 101, 108, 58] n hk h.params h.psort hn hh hp hd
end Ad
end Go.Proofs.YtbcaindpbeaheaaGreatDoor
namespace Go.Proofs.YtbcaindpbeaheaaGreatDoor
namespace Ad
open Lx
theorem memB_iff (l : List UInt8) (c : UInt8) : memB l c.toNat = true ↔ c ∈ l := by
 unfold memB
 rw [List.any_eq_true]
 constructor
 ·rintro ⟨b, hb, he⟩
  rw [beq_iff_eq] at he
  have : b = c := UInt8.toNat_inj.1 (by omega)
  rwa [← this]
 ·intro h; exact ⟨c, h, beq_self_eq_true _⟩
theorem inC_ctl (k : Int) (c : UInt8) (h : inC k c.toNat = true) : ctlI c.toNat = false := by
 unfold inC at h
 rw [Bool.or_eq_true, Bool.or_eq_true, Bool.or_eq_true] at h
 rcases h with ((h | h) | h) | h
 ·simp only [letterI, Bool.or_eq_true, Bool.and_eq_true, decide_eq_true_eq] at h
  rw [Bool.eq_false_iff]; intro hc
  simp only [ctlI, Bool.or_eq_true, Bool.and_eq_true, decide_eq_true_eq, bne_iff_ne, ne_eq, beq_iff_eq] at hc
  omega
 ·simp only [digitI, Bool.and_eq_true, decide_eq_true_eq] at h
  rw [Bool.eq_false_iff]; intro hc
  simp only [ctlI, Bool.or_eq_true, Bool.and_eq_true, decide_eq_true_eq, bne_iff_ne, ne_eq, beq_iff_eq] at hc
  omega
 ·rw [memB_iff] at h
  revert h c
  decide
 ·rw [memB_iff] at h
  unfold clsL at h
  split at h
  ·revert h c; decide
  ·split at h
   ·revert h c; decide
   ·split at h
    ·revert h c; decide
    ·cases h
theorem u8_of (x : Int) (h0 : 0 ≤ x) (h1 : x ≤ 255) : ((x.toNat.toUInt8).toNat : Int) = x := by
 simp [Nat.toUInt8]; omega
theorem wrdR_ctl (k : Int) (n : Nat) : ∀ l : List UInt8, l.length ≤ n → hasCtl (wrdR k l).1 = false := by
 induction n with
 | zero => intro l h; have : l = [] := List.eq_nil_of_length_eq_zero (by omega); subst this; rfl
 | succ n ih =>
   intro l h
   cases l with
   | nil => rfl
   | cons c t =>
     simp only [List.length_cons] at h
     by_cases h37 : c.toNat = 37
     ·by_cases hb : escV (c :: t) < 0 ∨ ctlI (escV (c :: t)) = true
      ·rw [wrdR_bad k c t h37 hb]; rfl
      ·have hb2 : 0 ≤ escV (c :: t) ∧ ctlI (escV (c :: t)) = false := ⟨by omega, by simpa using fun h => hb (.inr h)⟩
       rw [wrdR_esc k c t hb2.1 hb2.2]
       have := ih (t.drop 2) (by simp; omega)
       unfold hasCtl at this ⊢
       rw [List.any_cons, this, u8_of _ hb2.1 (escV_bd _), hb2.2]; rfl
     ·cases hi : inC k c.toNat
      ·rw [wrdR_stop k c t h37 hi]; rfl
      ·rw [wrdR_plain k c t h37 hi]
       have := ih t (by omega)
       unfold hasCtl at this ⊢
       rw [List.any_cons, this, inC_ctl k c hi]; rfl
theorem wrd_ctl (k : Int) (l : List UInt8) : hasCtl (wrdR k l).1 = false := wrdR_ctl k l.length l (Nat.le_refl _)
theorem prR_ok (cls : Int) (hcls : cls = 1 ∨ cls = 2) (l : List UInt8) (k to : Nat) (h : (prR cls l k to).2.2 = 0) : okP cls (prR cls l k to).1 = true ∧ lowL (prR cls l k to).1.1 = (prR cls l k to).1.1 := by
 unfold prR at h ⊢
 split at h
 ·simp at h
 ·rename_i h1; rw [if_neg h1]
  split at h
  ·simp at h
  ·rename_i h2; rw [if_neg h2]
   split at h
   ·rename_i h3; rw [if_pos h3]
    split at h
    ·simp at h
    ·rename_i h4; rw [if_neg h4]
     rw [h3] at h2
     dsimp only
     refine ⟨?_, lowL_idem _⟩
     rw [okP_iff]
     refine ⟨by unfold lowL; rw [ne_eq, List.map_eq_nil_iff]; exact h2, by rw [hasCtl_low]; exact wrd_ctl _ _, rfl, ?_⟩
     dsimp only; rw [if_neg h4]; rfl
   ·rename_i h3; rw [if_neg h3]
    split at h
    ·simp at h
    ·rename_i h4; rw [if_neg h4]
     split at h
     ·simp at h
     ·rename_i h5; rw [if_neg h5]
      have hm : min (endP (· == 61) l k) to = endP (· == 61) l k := by omega
      rw [hm] at h2
      dsimp only
      refine ⟨?_, lowL_idem _⟩
      rw [okP_iff]
      refine ⟨by unfold lowL; rw [ne_eq, List.map_eq_nil_iff]; exact h2, by rw [hasCtl_low]; exact wrd_ctl _ _, wrd_ctl _ _, ?_⟩
      dsimp only
      rcases hcls with rfl | rfl
      ·rw [if_neg (by decide)]
       have : (wrdR 1 (slc l (endP (· == 61) l k + 1) to)).1 ≠ [] := fun e => h5 ⟨rfl, e⟩
       simp [this]
      ·rfl
theorem prsF_ok (bg ends : Int → Bool) (cls : Int) (hcls : cls = 1 ∨ cls = 2) (l : List UInt8) : ∀ (n k : Nat) (acc : List Prm), PL cls acc → (prsF bg ends cls n l k acc).2.2 = 0 → PL cls (prsF bg ends cls n l k acc).1 := by
 intro n
 induction n with
 | zero => intro k acc h _; exact h
 | succ n ih =>
   intro k acc h he
   rw [prsF] at he ⊢
   split at he
   ·rename_i h1; rw [if_pos h1]; exact h
   ·rename_i h1; rw [if_neg h1]
    split at he
    ·rename_i h2; exact absurd he h2
    ·rename_i h2; rw [if_neg h2]
     split at he
     ·rename_i h3; exact absurd he h3
     ·rename_i h3; rw [if_neg h3]
      have hp := prR_ok cls hcls l (k + 1) (endP ends l (k + 1)) (by simpa using h2)
      exact ih _ _ (h.snoc _ hp.1 hp.2 (by simpa using h3)) he
theorem telS_in (o : Bool) (l : List UInt8) : ∀ c ∈ (telS o l).1, (digitI c.toNat || (o && locC c.toNat)) = true := by
 induction l with
 | nil => intro c h; cases h
 | cons d t ih =>
   intro c h
   rw [telS] at h
   split at h
   ·rename_i hd
    rcases List.mem_cons.1 h with rfl | h
    ·exact hd
    ·exact ih c h
   ·split at h
    ·exact ih c h
    ·cases h
theorem telS_self (o : Bool) (l : List UInt8) (h : ∀ c ∈ l, (digitI c.toNat || (o && locC c.toNat)) = true) : telS o l = (l, l.length) := by
 induction l with
 | nil => rfl
 | cons d t ih => rw [telS, if_pos (h d (List.mem_cons_self ..)), ih (fun c hc => h c (List.mem_cons_of_mem _ hc))]; rfl
theorem isNum_of (s : List UInt8) (h : NumK s) : isNum s = true := by
 have := telR_print [] s [] h (.inl rfl)
 simp only [List.nil_append, List.append_nil, List.length_nil] at this
 unfold isNum; rw [this]; simp
theorem telR_ok (l : List UInt8) (k : Nat) (h : (telR l k).2.2 = 0) : NumK (telR l k).1 := by
 unfold telR at h ⊢
 split at h
 ·rename_i h43; rw [if_pos h43]
  split at h
  ·simp at h
  ·rename_i h1; rw [if_neg h1]
   split at h
   ·simp at h
   ·rename_i h2; rw [if_neg h2]
    split at h
    ·simp at h
    ·rename_i h3; rw [if_neg h3]
     have hin := telS_in false (slc l (k + 1) (endP (· == 59) l k))
     exact .inl ⟨_, rfl, h2, by omega, telS_self false _ hin, fun c hc => by simpa using hin c hc⟩
 ·rename_i h43; rw [if_neg h43]
  split at h
  ·simp at h
  ·rename_i h1; rw [if_neg h1]
   split at h
   ·simp at h
   ·rename_i h2; rw [if_neg h2]
    split at h
    ·simp at h
    ·rename_i h3; rw [if_neg h3]
     have hin := telS_in true (slc l k (endP (· == 59) l k))
     dsimp only
     refine .inr ⟨?_, h2, by omega, telS_self true _ hin, fun c hc => by simpa using hin c hc⟩
     cases ht : (telS true (slc l k (endP (· == 59) l k))).1 with
     | nil => exact absurd ht h2
     | cons c t =>
       rw [ht] at hin
       have := hin c (List.mem_cons_self ..)
       intro e
       have e2 : (c.toNat : Int) = 43 := e
       rw [e2] at this
       revert this; decide
theorem numN_lo (l : List UInt8) : 0 ≤ numN l := by
 unfold numN
 split
 ·omega
 ·rename_i h
  have := valL_bd l (by simp only [not_or] at h; simpa using h.2.2.1)
  omega
theorem prtR_ok (l : List UInt8) (k : Nat) : 0 ≤ (prtR l k).1 ∧ (prtR l k).1 ≤ 65535 := by
 unfold prtR
 split
 ·split
  ·simp
  ·split
   ·simp
   ·dsimp only; omega
 ·split <;> simp
theorem usrR_ok (l : List UInt8) (k : Nat) : hasCtl (usrR l k).1 = false := by
 unfold usrR
 split
 ·rfl
 ·split
  ·rfl
  ·split
   ·rfl
   ·exact wrd_ctl _ _
theorem hstR_ok (l : List UInt8) (k : Nat) (h : (hstR l k).2.2 = 0) : hostO (hstR l k).1 = some (hstR l k).1 := by
 unfold hstR at h ⊢
 cases hh : hostO (slc l k (hstTo l k)) with
 | none => rw [hh] at h; simp at h
 | some x => exact hostO_idem _ _ hh
theorem parse_NF (l : List UInt8) (h : (parse l).2.2 = 0) : NF (parse l).1 ∧ (parse l).2.1 = 0 := by
 unfold parse at h ⊢
 split at h
 ·simp at h
 ·rename_i h1; rw [if_neg h1]
  split at h
  ·simp at h
  ·rename_i h2; rw [if_neg h2]
   split at h
   ·rename_i hk; rw [if_pos hk]
    unfold sipR at h ⊢
    split at h
    ·rename_i e; exact absurd h e
    ·rename_i e1; rw [if_neg e1]
     split at h
     ·rename_i e; exact absurd h e
     ·rename_i e2; rw [if_neg e2]
      split at h
      ·rename_i e; exact absurd h e
      ·rename_i e3; rw [if_neg e3]
       split at h
       ·rename_i e; exact absurd h e
       ·rename_i e4; rw [if_neg e4]
        split at h
        ·rename_i e; exact absurd h e
        ·rename_i e5; rw [if_neg e5]
         have hp := prsF_ok (· == 59) semq 1 (.inl rfl) l _ _ [] (PL.nil 1) (Decidable.not_not.1 e4)
         have hh := prsF_ok headC (· == 38) 2 (.inr rfl) l _ _ [] (PL.nil 2) (Decidable.not_not.1 e5)
         have hpt := prtR_ok l (hstR l (usrR l (endP (· == 58) l 0 + 1)).2.1).2.1
         exact ⟨⟨hp.srt, srt_srtd _, hh.srt, srt_srtd _, .inl ⟨hk, hstR_ok _ _ (by simpa using e2), hpt.1, hpt.2, usrR_ok _ _⟩⟩, rfl⟩
   ·rename_i hk; rw [if_neg hk]
    split at h
    ·rename_i ht; rw [if_pos ht]
     unfold telU at h ⊢
     split at h
     ·rename_i e; exact absurd h e
     ·rename_i e1; rw [if_neg e1]
      split at h
      ·rename_i e; exact absurd h e
      ·rename_i e2; rw [if_neg e2]
       have hp := prsF_ok (· == 59) (· == 59) 1 (.inl rfl) l _ _ [] (PL.nil 1) (Decidable.not_not.1 e2)
       exact ⟨⟨hp.srt, srt_srtd _, PL.nil 2, List.Pairwise.nil, .inr ⟨rfl, isNum_of _ (telR_ok _ _ (by simpa using e1)), rfl, rfl, rfl⟩⟩, rfl⟩
    ·simp at h
end Ad
end Go.Proofs.YtbcaindpbeaheaaGreatDoor
namespace Go.Proofs.YtbcaindpbeaheaaGreatDoor
namespace Ad
open Lx
theorem wrd_le (k : Int) (l : List UInt8) : (wrdR k l).2 ≤ l.length := wrdR_le k l.length l (Nat.le_refl _)
theorem atB_lt (l : List UInt8) (k : Nat) (h : atB l k ≠ -1) : k < l.length := by
 rcases Nat.lt_or_ge k l.length with h2 | h2
 ·exact h2
 ·exact absurd (atB_end l k h2) h
theorem usrR_at (l : List UInt8) (k : Nat) (hk : k ≤ l.length) : (usrR l k).2.1 ≤ l.length := by
 have h1 := endP_le (· == 64) l k hk
 have h2 := wrd_le 0 (slc l k (endP (· == 64) l k))
 have h3 := slc_le l k (endP (· == 64) l k)
 have h4 := endP_ge (· == 64) l k
 unfold usrR
 split
 ·exact hk
 ·split
  ·dsimp only; omega
  ·split
   ·exact h1
   ·dsimp only; omega
theorem hstTo_le (l : List UInt8) (k : Nat) (hk : k ≤ l.length) : hstTo l k ≤ l.length := by
 have h1 := endP_le hendC l k hk
 unfold hstTo
 split <;> omega
theorem hstR_at (l : List UInt8) (k : Nat) (hk : k ≤ l.length) : (hstR l k).2.1 ≤ l.length := by
 have := hstTo_le l k hk
 unfold hstR
 split
 ·exact this
 ·exact hk
theorem prtR_at (l : List UInt8) (k : Nat) (hk : k ≤ l.length) : (prtR l k).2.1 ≤ l.length := by
 unfold prtR
 split
 ·rename_i h
  have h0 := atB_lt l k (by rw [h]; decide)
  have h1 := endP_le semq l (k + 1) h0
  split
  ·exact h0
  ·split
   ·exact h0
   ·exact h1
 ·split <;> exact hk
theorem prR_at (cls : Int) (l : List UInt8) (k to : Nat) (hk : k ≤ to) : (prR cls l k to).2.1 ≤ to := by
 have h1 := wrd_le cls (slc l k (min (endP (· == 61) l k) to))
 have h2 := slc_le l k (min (endP (· == 61) l k) to)
 have h3 := wrd_le cls (slc l (endP (· == 61) l k + 1) to)
 have h4 := slc_le l (endP (· == 61) l k + 1) to
 have h5 := endP_ge (· == 61) l k
 unfold prR
 split
 ·dsimp only; omega
 ·split
  ·exact hk
  ·split
   ·split <;> exact Nat.le_refl _
   ·split
    ·dsimp only; omega
    ·split <;> exact Nat.le_refl _
theorem prsF_at (bg ends : Int → Bool) (cls : Int) (l : List UInt8) (hbg : bg (-1) = false) : ∀ (n k : Nat) (acc : List Prm), k ≤ l.length → (prsF bg ends cls n l k acc).2.1 ≤ l.length := by
 intro n
 induction n with
 | zero => intro k acc hk; exact hk
 | succ n ih =>
   intro k acc hk
   rw [prsF]
   split
   ·exact hk
   ·rename_i h1
    have h0 : k < l.length := atB_lt l k (fun e => h1 (by rw [e]; exact hbg))
    have h2 := endP_le ends l (k + 1) h0
    have h3 := prR_at cls l (k + 1) (endP ends l (k + 1)) (endP_ge _ _ _)
    split
    ·dsimp only; omega
    ·split
     ·exact h0
     ·exact ih _ _ h2
theorem telR_at (l : List UInt8) (k : Nat) (hk : k ≤ l.length) : (telR l k).2.1 ≤ l.length := by
 have h1 := endP_le (· == 59) l k hk
 have h2 := (telS_le false (slc l (k + 1) (endP (· == 59) l k))).2
 have h3 := (telS_le true (slc l k (endP (· == 59) l k))).2
 have h4 := slc_le l (k + 1) (endP (· == 59) l k)
 have h5 := slc_le l k (endP (· == 59) l k)
 have h6 := endP_ge (· == 59) l k
 unfold telR
 split
 ·split
  ·dsimp only; omega
  ·split
   ·exact hk
   ·split
    ·exact hk
    ·exact h1
 ·split
  ·dsimp only; omega
  ·split
   ·exact hk
   ·split
    ·exact hk
    ·exact h1
theorem parse_at (l : List UInt8) : (parse l).2.1 ≤ l.length ∧ ((parse l).2.2 ≠ 0 → (parse l).1 = nilU) := by
 unfold parse
 split
 ·exact ⟨by dsimp only; omega, fun _ => rfl⟩
 ·split
  ·exact ⟨Nat.le_refl _, fun _ => rfl⟩
  ·rename_i h0
   have hc := endP_le (· == 58) l 0 (Nat.zero_le _)
   have hk : endP (· == 58) l 0 + 1 ≤ l.length := by omega
   split
   ·unfold sipR
    have a1 := usrR_at l _ hk;have a2 := hstR_at l _ a1;have a3 := prtR_at l _ a2
    have a4 := prsF_at (· == 59) semq 1 l rfl (l.length + 1) _ [] a3
    have a5 := prsF_at headC (· == 38) 2 l rfl (l.length + 1) _ [] a4
    split
    ·exact ⟨a1, fun _ => rfl⟩
    ·split
     ·exact ⟨a2, fun _ => rfl⟩
     ·split
      ·exact ⟨a3, fun _ => rfl⟩
      ·split
       ·exact ⟨a4, fun _ => rfl⟩
       ·split
        ·exact ⟨a5, fun _ => rfl⟩
        ·exact ⟨Nat.zero_le _, fun h => absurd rfl h⟩
   ·split
    ·unfold telU
     have a1 := telR_at l _ hk
     have a4 := prsF_at (· == 59) (· == 59) 1 l rfl (l.length + 1) _ [] a1
     split
     ·exact ⟨a1, fun _ => rfl⟩
     ·split
      ·exact ⟨a4, fun _ => rfl⟩
      ·exact ⟨Nat.zero_le _, fun h => absurd rfl h⟩
    ·exact ⟨Nat.zero_le _, fun _ => rfl⟩
end Ad
end Go.Proofs.YtbcaindpbeaheaaGreatDoor
namespace Go.Proofs.YtbcaindpbeaheaaGreatDoor
namespace Ad
open Lx
def upB (c : UInt8) : UInt8 := if 97 ≤ c.toNat ∧ c.toNat ≤ 122 then c - 32 else c
def upL (l : List UInt8) : List UInt8 := l.map upB
def turnL (l : List Prm) : List Prm := (l.map fun p => (upL p.1, p.2)).reverse
theorem low_up (c : UInt8) : lowB (upB c) = lowB c := by
 apply UInt8.toNat_inj.1
 rw [lowB_nat, lowB_nat]
 unfold upB
 split
 ·rename_i h
  have : (c - 32).toNat = c.toNat - 32 := by rw [UInt8.toNat_sub_of_le]; rfl; exact UInt8.le_iff_toNat_le.2 (by show 32 ≤ c.toNat; omega)
  rw [this]
  split <;> split <;> omega
 ·rfl
theorem lowL_up (l : List UInt8) : lowL (upL l) = lowL l := by unfold lowL upL; rw [List.map_map]; exact List.map_congr_left fun c _ => low_up c
theorem nmF_gen (cls : Int) : ∀ (l acc : List Prm), (∀ p ∈ l, okP cls p = true) → Names (acc ++ l.map fun p => (lowL p.1, p.2)) → (acc ++ l).length ≤ 16 → nmF cls l acc = some (acc ++ l.map fun p => (lowL p.1, p.2)) := by
 intro l
 induction l with
 | nil => intro acc _ _ _; rw [nmF, List.map_nil, List.append_nil]
 | cons p t ih =>
   intro acc h1 h3 h4
   have hr : room acc (lowL p.1) = 0 := by
    rw [room_iff]
    unfold Names at h3
    rw [List.map_append, List.map_cons, List.map_cons, List.nodup_append] at h3
    refine ⟨fun hm => h3.2.2 _ hm _ (List.mem_cons_self ..) rfl, ?_⟩
    simp at h4; omega
   rw [nmF, if_pos (by rw [h1 p (List.mem_cons_self ..), hr]; rfl)]
   have e : acc ++ (p :: t).map (fun p => (lowL p.1, p.2)) = acc ++ [(lowL p.1, p.2)] ++ t.map fun p => (lowL p.1, p.2) := by simp
   rw [e]
   refine ih _ (fun q hq => h1 q (List.mem_cons_of_mem _ hq)) (by rw [← e]; exact h3) (by simp at h4 ⊢; omega)
theorem turn_low (l : List Prm) (h : ∀ p ∈ l, lowL p.1 = p.1) : ((turnL l).map fun p => (lowL p.1, p.2)) = l.reverse := by
 unfold turnL
 rw [List.map_reverse, List.map_map]
 congr 1
 conv => rhs; rw [← List.map_id l]
 apply List.map_congr_left
 intro p hp
 show (lowL (upL p.1), p.2) = p
 rw [lowL_up, h p hp]
theorem PL.turn {cls : Int} {l : List Prm} (h : PL cls l) : nmF cls (turnL l) [] = some l.reverse := by
 have e := turn_low l h.low
 have := nmF_gen cls (turnL l) [] ?_ (by rw [List.nil_append, e]; exact h.names.perm (List.reverse_perm l).symm) (by unfold turnL; simpa using h.len)
 ·rw [this, e]; rfl
 ·intro p hp
  unfold turnL at hp
  rw [List.mem_reverse, List.mem_map] at hp
  obtain ⟨q, hq, rfl⟩ := hp
  rw [← okP_low, show lowL (upL q.1, q.2).1 = q.1 from by rw [show (upL q.1, q.2).1 = upL q.1 from rfl, lowL_up, h.low q hq]]
  exact h.ok q hq
theorem srt_rev (l : List Prm) (hs : Srtd l) (hn : Names l) : srt l.reverse = l := (srt_of l l.reverse (List.reverse_perm l).symm hs (hn.perm (List.reverse_perm l).symm)).symm
def turnU (n : Uri) : Uri := ⟨n.scheme, n.user, n.host, n.port, turnL n.params, turnL n.heads⟩
theorem NF.turned {n : Uri} (h : NF n) : Ad.normal (turnU n) = some n := by
 unfold Ad.normal turnU
 dsimp only
 rw [h.params.turn, h.heads.turn]
 dsimp only
 rw [srt_rev _ h.psort h.params.names, srt_rev _ h.hsort h.heads.names]
 rcases h.kind with ⟨hk, hh, h0, h1, hc⟩ | ⟨hk, hn, hh, hp, hd⟩
 ·have hlow : lowL n.scheme = n.scheme := by rcases hk with e | e <;> rw [e] <;> first | exact low_sip | exact low_sips
  rw [hlow, if_pos hk, hh]
  dsimp only
  rw [if_pos ⟨h0, h1, hc⟩]
 ·have hlow : lowL n.scheme = n.scheme := by rw [hk]; exact low_tel
  have hne : ¬ (n.scheme = sipL ∨ n.scheme = sipsL) := by rw [hk]; decide
  rw [hlow, if_neg hne, if_pos hk, if_pos ⟨hn, hh, hp, by rw [hd]; rfl⟩]
  cases n
  dsimp only at *
  subst hk hh hp hd
  rfl
theorem runL_mem (p : Int → Bool) (l : List UInt8) (i : Nat) (hi : i < runL p l) : ∃ c, l[i]? = some c ∧ p c.toNat = true := by
 induction l generalizing i with
 | nil => simp [runL] at hi
 | cons c t ih =>
   rw [runL] at hi
   split at hi
   ·rename_i hc
    cases i with
    | zero => exact ⟨c, rfl, hc⟩
    | succ i => exact ih i (by omega)
   ·omega
theorem runL_before (p : Int → Bool) (l : List UInt8) (k te : Nat) (h : k ≤ te) (hp : p (atB l te) = false) (ht : te < l.length) : k + runL p (l.drop k) ≤ te := by
 refine Nat.le_of_not_lt fun hlt => ?_
 obtain ⟨c, hc, hpc⟩ := runL_mem p (l.drop k) (te - k) (by omega)
 rw [List.getElem?_drop, show k + (te - k) = te by omega] at hc
 unfold atB at hp
 rw [hc] at hp
 rw [hpc] at hp
 cases hp
theorem tksF_to (l : List UInt8) (te : Nat) (h60 : atB l te = 60) (ht : te < l.length) : ∀ (n k : Nat) (acc : List (List UInt8)), k ≤ te → te - k < n → (tksF n l k te acc).2.2 = 0 → (tksF n l k te acc).2.1 = te := by
 intro n
 induction n with
 | zero => intro k acc hk hn; omega
 | succ n ih =>
   intro k acc hk hn h
   rw [tksF] at h ⊢
   split at h
   ·rename_i h1; rw [if_pos h1]; dsimp only; omega
   ·rename_i h1
    rw [if_neg h1]
    split at h
    ·cases h
    ·rename_i h2
     rw [if_neg h2]
     have b1 : tokE l k ≤ te := runL_before tokI l k te hk (by rw [h60]; decide) ht
     have b2 : blkE l (tokE l k) ≤ te := runL_before blankI l _ te b1 (by rw [h60]; decide) ht
     have b3 : k ≤ tokE l k := by unfold tokE; omega
     have b4 : tokE l k ≤ blkE l (tokE l k) := by unfold blkE; omega
     exact ih _ _ b2 (by omega) h
end Ad
end Go.Proofs.YtbcaindpbeaheaaGreatDoor
namespace Go.Proofs.YtbcaindpbeaheaaGreatDoor
namespace Ad
open Lx
theorem decL_chars (n : Nat) : ∀ c ∈ decL n, digitI c.toNat = true := by
 have := (decL_spec n n (Nat.le_refl _)).1
 unfold allD at this
 intro c hc
 exact List.all_eq_true.1 this c hc
theorem decL_ne (n : Nat) : decL n ≠ [] := by
 have := (decL_spec n n (Nat.le_refl _)).2.2.1
 intro e; rw [e] at this; simp at this
end Ad
end Go.Proofs.YtbcaindpbeaheaaGreatDoor
namespace Go.Proofs.YtbcaindpbeaheaaGreatDoor
namespace Ad
open Lx
theorem esc_of_ctl (c : UInt8) (h2 : c.toNat = 34 ∨ c.toNat = 92) : escI c.toNat = true := by
 rcases h2 with h2 | h2 <;> rw [h2] <;> decide
theorem escL_cons (c : UInt8) (t : List UInt8) : escL (c :: t) = (if c.toNat = 34 ∨ c.toNat = 92 then [92, c] else [c]) ++ escL t := by simp [escL]
theorem round_spec (b : List UInt8) : ∀ (l : List UInt8) (i : Nat), hasCtl l = false → qEnd (escL l ++ [34] ++ b) i = (i + (escL l).length + 1, 0) ∧ qText (escL l ++ [34] ++ b) = l ∧ l.length ≤ (escL l).length := by
 intro l
 induction l with
 | nil =>
   intro i _
   have : escL [] ++ [34] ++ b = 34 :: b := by simp [escL]
   rw [this, qEnd_quote _ _ _ (by decide), qText_quote _ _ (by decide)]
   simp [escL]
 | cons c t ih =>
   intro i h
   simp only [hasCtl, List.any_cons, Bool.or_eq_false_iff] at h
   have hc := h.1
   have ht : hasCtl t = false := h.2
   rw [escL_cons]
   by_cases hq : c.toNat = 34 ∨ c.toNat = 92
   ·rw [if_pos hq]
    obtain ⟨i1, i2, i3⟩ := ih (i + 2) ht
    have e : [92, c] ++ escL t ++ [34] ++ b = 92 :: c :: (escL t ++ [34] ++ b) := by simp
    have hs : stepS (92 :: c :: (escL t ++ [34] ++ b)) i = (i + 2, 0) := stepS_two _ _ _ _ (by decide) (by decide) (esc_of_ctl c hq)
    rw [e, qEnd_step _ _ _ (by decide) (by rw [hs]), qText_two _ _ _ (by decide), hs]
    have : i + 2 - i = 2 := by omega
    simp only [this, List.drop_succ_cons, List.drop_zero]
    rw [i1, i2]
    refine ⟨by simp; omega, rfl, by simp; omega⟩
   ·rw [if_neg hq]
    obtain ⟨i1, i2, i3⟩ := ih (i + 1) ht
    have e : [c] ++ escL t ++ [34] ++ b = c :: (escL t ++ [34] ++ b) := by simp
    have hs : stepS (c :: (escL t ++ [34] ++ b)) i = (i + 1, 0) := stepS_one _ _ _ hc (by omega)
    rw [e, qEnd_step _ _ _ (by omega) (by rw [hs]), qText_one _ _ (by omega) (by omega), hs]
    have : i + 1 - i = 1 := by omega
    simp only [this, List.drop_succ_cons, List.drop_zero]
    rw [i1, i2]
    refine ⟨by simp; omega, rfl, by simp; omega⟩
theorem round_uq (a l b : List UInt8) (h : hasCtl l = false) :
   uqT (a ++ quT l ++ b) a.length = l ∧ uqN (a ++ quT l ++ b) a.length = ((a.length + (quT l).length : Nat) : Int) ∧ uqE (a ++ quT l ++ b) a.length = 0 ∧ l.length + 2 ≤ (quT l).length := by
 have hq : quT l = [34] ++ escL l ++ [34] := by unfold quT; rw [h]; simp
 have hd0 : (a ++ quT l ++ b).drop a.length = 34 :: (escL l ++ [34] ++ b) := by rw [hq]; simp
 have hd1 : (a ++ quT l ++ b).drop (a.length + 1) = escL l ++ [34] ++ b := by rw [← List.drop_drop, hd0]; simp
 have ho : opE 34 (a ++ quT l ++ b) a.length = 0 := by
  unfold opE
  rw [if_neg (by rw [hq]; simp; omega), Int.toNat_natCast, hd0]; rfl
 obtain ⟨r1, r2, r3⟩ := round_spec b l (a.length + 1) h
 have hr : uqR (a ++ quT l ++ b) a.length = (a.length + 1 + (escL l).length + 1, 0) := by
  unfold uqR; rw [Int.toNat_natCast, hd1, r1]
 refine ⟨?_, ?_, ?_, by rw [hq]; simp; omega⟩
 ·unfold uqT; rw [if_neg (by rw [ho, hr]; simp), Int.toNat_natCast, hd1, r2]
 ·unfold uqN; rw [if_neg (by rw [ho]; simp), hr, hq]; simp; omega
 ·unfold uqE; rw [if_neg (by rw [ho]; simp), hr]
theorem runL_stop0 (p : Int → Bool) (b : List UInt8) (h : Starts (fun c => !p c) b) : runL p b = 0 := by
 rcases h with rfl | ⟨c, t, rfl, hc⟩
 ·rfl
 ·rw [runL, if_neg]; simpa using hc
theorem tokE_app (pre a b : List UInt8) (h : ∀ c ∈ a, tokI c.toNat = true) (hb : Starts (fun c => !tokI c) b) : tokE (pre ++ (a ++ b)) pre.length = pre.length + a.length := by
 unfold tokE; rw [List.drop_left, runL_app _ _ _ h, runL_stop0 _ _ hb]; omega
theorem blkE_stay (pre b : List UInt8) (hb : Starts (fun c => !blankI c) b) : blkE (pre ++ b) pre.length = pre.length := by
 unfold blkE; rw [List.drop_left, runL_stop0 _ _ hb]; omega
theorem Starts.of {p q : Int → Bool} {b : List UInt8} (h : Starts p b) (hq : ∀ c, p c = true → q c = true) : Starts q b := by
 rcases h with rfl | ⟨c, t, rfl, hc⟩
 ·exact .inl rfl
 ·exact .inr ⟨c, t, rfl, hq _ hc⟩
theorem s59_tok (b : List UInt8) (h : Starts (· == 59) b) : Starts (fun c => !tokI c) b := h.of fun c hc => by rw [beq_iff_eq] at hc; subst hc; decide
theorem s59_blk (b : List UInt8) (h : Starts (· == 59) b) : Starts (fun c => !blankI c) b := h.of fun c hc => by rw [beq_iff_eq] at hc; subst hc; decide
theorem tokB_iff (l : List UInt8) : tokB l = true ↔ l ≠ [] ∧ ∀ c ∈ l, tokI c.toNat = true := by
 unfold tokB
 rw [Bool.and_eq_true, decide_eq_true_eq, List.all_eq_true]
 constructor
 ·rintro ⟨h1, h2⟩; exact ⟨by rintro rfl; simp at h1, h2⟩
 ·rintro ⟨h1, h2⟩; exact ⟨by cases l with | nil => exact absurd rfl h1 | cons => simp, h2⟩
theorem tok_blank (c : Int) (h : tokI c = true) : blankI c = false := by
 by_cases h1 : c = 32
 ·subst h1; exact absurd h (by decide)
 ·by_cases h2 : c = 9
  ·subst h2; exact absurd h (by decide)
  ·unfold blankI; rw [beq_eq_false_iff_ne.2 h1, beq_eq_false_iff_ne.2 h2]; rfl
theorem valR_print (pre v suf : List UInt8) (hc : hasCtl v = false) (hs : Starts (· == 59) suf) : valR (pre ++ (pvL v ++ suf)) pre.length = (v, pre.length + (pvL v).length, 0) := by
 by_cases ht : tokB v = true
 ·have e : pvL v = v := by unfold pvL; rw [ht, Bool.true_or, if_pos rfl]
  obtain ⟨h1, h2⟩ := (tokB_iff v).1 ht
  rw [e]
  have hE := tokE_app pre v suf h2 (s59_tok suf hs)
  have hS : slc (pre ++ (v ++ suf)) pre.length (pre.length + v.length) = v := slc_app pre v suf
  have hl : 1 ≤ v.length := by cases v with | nil => exact absurd rfl h1 | cons => simp
  have hat : atB (pre ++ (v ++ suf)) pre.length ≠ 34 ∧ atB (pre ++ (v ++ suf)) pre.length ≠ 91 := by
   cases v with
   | nil => exact absurd rfl h1
   | cons c t =>
     have := h2 c (List.mem_cons_self ..)
     rw [List.cons_append, atB_app]
     constructor
     ·intro e; rw [e] at this; exact absurd this (by decide)
     ·intro e; rw [e] at this; exact absurd this (by decide)
  unfold valR
  rw [if_neg hat.1, if_neg hat.2, hE, if_neg (by omega), hS]
 ·by_cases hb : v.head? = some 91 ∧ hostO v = some v
  ·have e : pvL v = v := by unfold pvL; rw [if_pos]; rw [decide_eq_true hb.1, decide_eq_true hb.2]; simp
   rw [e]
   rcases host_kinds v hb.2 with ⟨y, hy, hg⟩ | ⟨_, h2, _⟩
   ·have hl1 : v = 91 :: (y ++ [93]) := by rw [hy]; simp
    have hat : atB (pre ++ (v ++ suf)) pre.length = 91 := by rw [hl1, List.cons_append, atB_app]; rfl
    have hE : endP (· == 93) (pre ++ (v ++ suf)) pre.length = pre.length + (91 :: y).length := by
     have e2 : v ++ suf = (91 :: y) ++ (93 :: suf) := by rw [hl1]; simp
     rw [e2]
     refine endP_app (· == 93) pre (91 :: y) (93 :: suf) ?_ (.inr ⟨93, suf, rfl, rfl⟩)
     intro c hm
     refine beq_no c 93 ?_
     rcases List.mem_cons.1 hm with rfl | hm
     ·decide
     ·exact GC_no c (hg c hm) 93 (by decide) (by decide)
    have hv : v.length = y.length + 2 := by rw [hl1]; simp
    have hm : min (endP (· == 93) (pre ++ (v ++ suf)) pre.length + 1) (pre ++ (v ++ suf)).length = pre.length + v.length := by rw [hE]; simp; omega
    unfold valR
    rw [if_neg (by rw [hat]; decide), if_pos hat, hm, slc_app, hb.2]
   ·exact absurd hb.1 h2
  ·have e : pvL v = quT v := by
     unfold pvL quT
     rw [if_neg, if_neg (by rw [hc]; decide)]
     rw [Bool.or_eq_true, Bool.and_eq_true, decide_eq_true_eq, decide_eq_true_eq]
     rintro (h | h)
     ·exact ht h
     ·exact hb h
   rw [e]
   obtain ⟨r1, r2, r3, r4⟩ := round_uq pre v suf hc
   rw [List.append_assoc] at r1 r2 r3
   have hq : quT v = 34 :: (escL v ++ [34]) := by unfold quT; rw [if_neg (by rw [hc]; decide)]; simp
   have hat : atB (pre ++ (quT v ++ suf)) pre.length = 34 := by rw [hq, List.cons_append, atB_app]; rfl
   unfold valR
   rw [if_pos hat, r1, r2, r3, Int.toNat_natCast]
theorem pv_starts (v suf : List UInt8) : Starts (fun c => !blankI c) (pvL v ++ suf) ∧ pvL v ≠ [] := by
 unfold pvL
 split
 ·rename_i h
  rw [Bool.or_eq_true, Bool.and_eq_true, decide_eq_true_eq, decide_eq_true_eq] at h
  rcases h with h | h
  ·obtain ⟨h1, h2⟩ := (tokB_iff v).1 h
   cases v with
   | nil => exact absurd rfl h1
   | cons c t => exact ⟨.inr ⟨c, _, rfl, by dsimp only; rw [tok_blank _ (h2 c (List.mem_cons_self ..))]; rfl⟩, by simp⟩
  ·cases v with
   | nil => simp at h
   | cons c t =>
     have : c = 91 := by simpa using h.1
     subst this
     exact ⟨.inr ⟨91, _, rfl, by decide⟩, by simp⟩
 ·exact ⟨.inr ⟨34, _, rfl, by decide⟩, by simp⟩
def ppBody (p : Prm) : List UInt8 := p.1 ++ (if p.2.2 then 61 :: pvL p.2.1 else [])
theorem ppL_body (p : Prm) : ppL p = 59 :: ppBody p := rfl
theorem pmR_print (pre suf : List UInt8) (p : Prm) (hp : ppB p = true) (hs : Starts (· == 59) suf) : pmR (pre ++ (ppBody p ++ suf)) pre.length = (p, pre.length + (ppBody p).length, 0) := by
 obtain ⟨nm, v, has⟩ := p
 unfold ppB at hp
 simp only [Bool.and_eq_true, decide_eq_true_eq, Bool.not_eq_true', Bool.or_eq_true] at hp
 obtain ⟨⟨⟨h1, h2⟩, h3⟩, h4⟩ := hp
 obtain ⟨t1, t2⟩ := (tokB_iff nm).1 h1
 have hl : 1 ≤ nm.length := by cases nm with | nil => exact absurd rfl t1 | cons => simp
 cases has
 ·have e : ppBody (nm, v, false) = nm := by unfold ppBody; simp
  have hv : v = [] := by rcases h4 with h | h; exact absurd h (by decide); exact h
  have hE := tokE_app pre nm suf t2 (s59_tok suf hs)
  have hB : blkE (pre ++ (nm ++ suf)) (pre.length + nm.length) = pre.length + nm.length := by
   have := blkE_stay (pre ++ nm) suf (s59_blk suf hs)
   rw [List.append_assoc, List.length_append] at this
   exact this
  have hA : atB (pre ++ (nm ++ suf)) (pre.length + nm.length) ≠ 61 := by
   rw [← List.append_assoc, ← List.length_append]
   rcases hs with rfl | ⟨c, t, rfl, hc⟩
   ·rw [atB_nil]; decide
   ·rw [atB_app]; intro e; rw [e] at hc; exact absurd hc (by decide)
  have hS : slc (pre ++ (nm ++ suf)) pre.length (pre.length + nm.length) = nm := slc_app pre nm suf
  unfold pmR
  rw [e, hE, if_neg (by omega), hB, if_neg hA, hS, ← h2, hv]
 ·have e : ppBody (nm, v, true) = nm ++ 61 :: pvL v := by unfold ppBody; simp
  have e2 : pre ++ (nm ++ 61 :: pvL v ++ suf) = pre ++ (nm ++ (61 :: (pvL v ++ suf))) := by simp
  have e3 : pre ++ (nm ++ 61 :: pvL v ++ suf) = (pre ++ nm) ++ (61 :: (pvL v ++ suf)) := by simp
  have e4 : pre ++ (nm ++ 61 :: pvL v ++ suf) = (pre ++ nm ++ [61]) ++ (pvL v ++ suf) := by simp
  rw [e]
  have hE : tokE (pre ++ (nm ++ 61 :: pvL v ++ suf)) pre.length = pre.length + nm.length := by
   rw [e2]; exact tokE_app pre nm _ t2 (.inr ⟨61, _, rfl, by decide⟩)
  have hB : blkE (pre ++ (nm ++ 61 :: pvL v ++ suf)) (pre.length + nm.length) = pre.length + nm.length := by
   rw [e3, ← List.length_append]; exact blkE_stay _ _ (.inr ⟨61, _, rfl, by decide⟩)
  have hA : atB (pre ++ (nm ++ 61 :: pvL v ++ suf)) (pre.length + nm.length) = 61 := by
   rw [e3, ← List.length_append, atB_app]; rfl
  have l1 : pre.length + nm.length + 1 = (pre ++ nm ++ [61]).length := by simp; omega
  have hB2 : blkE (pre ++ (nm ++ 61 :: pvL v ++ suf)) (pre.length + nm.length + 1) = pre.length + nm.length + 1 := by
   rw [e4, l1]; exact blkE_stay _ _ (pv_starts v suf).1
  have hV : valR (pre ++ (nm ++ 61 :: pvL v ++ suf)) (pre.length + nm.length + 1) = (v, pre.length + nm.length + 1 + (pvL v).length, 0) := by
   rw [e4, l1]; exact valR_print _ v suf h3 hs
  have hS : slc (pre ++ (nm ++ 61 :: pvL v ++ suf)) pre.length (pre.length + nm.length) = nm := by rw [e2]; exact slc_app pre nm _
  unfold pmR
  rw [hE, if_neg (by omega), hB, if_pos hA, hB2, hV, hS, ← h2]
  simp; omega
theorem ppF_cons (p : Prm) (t acc : List Prm) (T : List UInt8) (h : ppF (p :: t) acc = some T) : ppB p = true ∧ room acc p.1 = 0 ∧ ∃ T', ppF t (acc ++ [p]) = some T' ∧ T = ppL p ++ T' := by
 rw [ppF] at h
 split at h
 ·rename_i hc
  rw [Bool.and_eq_true, decide_eq_true_eq] at hc
  cases h2 : ppF t (acc ++ [p]) with
  | none => rw [h2] at h; cases h
  | some T' => rw [h2] at h; cases h; exact ⟨hc.1, hc.2, T', rfl, rfl⟩
 ·cases h
theorem ppF_starts (l acc : List Prm) (T : List UInt8) (h : ppF l acc = some T) : Starts (· == 59) T := by
 cases l with
 | nil => rw [ppF] at h; cases h; exact .inl rfl
 | cons p t =>
   obtain ⟨_, _, T', _, rfl⟩ := ppF_cons p t acc T h
   exact .inr ⟨59, _, rfl, rfl⟩
theorem parF_print : ∀ (l acc : List Prm) (T pre : List UInt8) (n : Nat), ppF l acc = some T → T.length < n → parF n (pre ++ T) pre.length acc = (acc ++ l, 0, 0) := by
 intro l
 induction l with
 | nil =>
   intro acc T pre n h hn
   rw [ppF] at h; cases h
   obtain ⟨n, rfl⟩ : ∃ m, n = m + 1 := ⟨n - 1, by omega⟩
   rw [parF, if_pos (by simp), List.append_nil]
 | cons p t ih =>
   intro acc T pre n h hn
   obtain ⟨h1, h2, T', h3, rfl⟩ := ppF_cons p t acc T h
   obtain ⟨n, rfl⟩ : ∃ m, n = m + 1 := ⟨n - 1, by omega⟩
   have hs := ppF_starts t _ T' h3
   rw [ppL_body] at hn ⊢
   have hA : atB (pre ++ (59 :: ppBody p ++ T')) pre.length = 59 := by rw [List.cons_append, atB_app]; rfl
   have e1 : pre ++ (59 :: ppBody p ++ T') = (pre ++ [59]) ++ (ppBody p ++ T') := by simp
   have l1 : pre.length + 1 = (pre ++ [59]).length := by simp
   have hB : blkE (pre ++ (59 :: ppBody p ++ T')) (pre.length + 1) = pre.length + 1 := by
    rw [e1, l1]
    refine blkE_stay _ _ ?_
    unfold ppB at h1
    simp only [Bool.and_eq_true] at h1
    obtain ⟨t1, t2⟩ := (tokB_iff p.1).1 h1.1.1.1
    unfold ppBody
    cases hn : p.1 with
    | nil => exact absurd hn t1
    | cons c r => exact .inr ⟨c, _, rfl, by dsimp only; rw [tok_blank _ (t2 c (by rw [hn]; exact List.mem_cons_self ..))]; rfl⟩
   have hM : pmR (pre ++ (59 :: ppBody p ++ T')) (pre.length + 1) = (p, pre.length + 1 + (ppBody p).length, 0) := by
    rw [e1, l1]; exact pmR_print _ T' p h1 hs
   have e2 : pre ++ (59 :: ppBody p ++ T') = (pre ++ 59 :: ppBody p) ++ T' := by simp
   have l2 : pre.length + 1 + (ppBody p).length = (pre ++ 59 :: ppBody p).length := by simp; omega
   have hB2 : blkE (pre ++ (59 :: ppBody p ++ T')) (pre.length + 1 + (ppBody p).length) = pre.length + 1 + (ppBody p).length := by
    rw [e2, l2]; exact blkE_stay _ _ (s59_blk _ hs)
   rw [parF, if_neg (by simp), hA, if_neg (by decide), hB, hM]
   dsimp only
   rw [if_neg (by decide), h2, if_neg (by decide), hB2, e2, l2, ih (acc ++ [p]) T' _ n h3 (by simp at hn; omega)]
   simp
theorem parR_print (l : List Prm) (T : List UInt8) (h : ppO l = some T) : parR T = (l, 0, 0) := by
 have hs := ppF_starts l [] T h
 have hB : blkE T 0 = 0 := blkE_stay [] T (s59_blk T hs)
 unfold parR
 rw [hB]
 exact parF_print l [] T [] _ h (by omega)
theorem scheme_no62 (s : List UInt8) (h : s = sipL ∨ s = sipsL ∨ s = telL) : ∀ c ∈ s, c ≠ 62 := by
 rcases h with rfl | rfl | rfl <;> decide
theorem host_no62 (h : List UInt8) (hh : hostO h = some h) : ∀ d ∈ h, d ≠ 62 := by
 rcases host_kinds h hh with ⟨y, rfl, hg⟩ | ⟨_, _, hl⟩
 ·intro d hd
  simp only [List.mem_append, List.mem_singleton] at hd
  rcases hd with (rfl | hd) | rfl
  ·decide
  ·exact GC_no d (hg d hd) 62 (by decide) (by decide)
  ·decide
 ·intro d hd; exact LC_no d (hl d hd) 62 (by decide) (by decide)
theorem num_no62 (s : List UInt8) (h : NumK s) : ∀ c ∈ s, c ≠ 62 := by
 rcases h with ⟨t, rfl, _, _, _, hd⟩ | ⟨_, _, _, _, hd⟩
 ·intro c hc
  rcases List.mem_cons.1 hc with rfl | hc
  ·decide
  ·intro e; subst e; exact absurd (hd _ hc) (by decide)
 ·intro c hc e; subst e; exact absurd (hd _ hc) (by decide)
theorem text_no62 (n : Uri) (h : NF n) : ∀ c ∈ textU n, c ≠ 62 := by
 rcases h.kind with ⟨hk, hh, h0, h1, hc⟩ | ⟨hk, hn, hh, hp, hd⟩
 ·have hne : n.scheme ≠ telL := by rcases hk with e | e <;> rw [e] <;> decide
  intro c hm
  unfold textU at hm
  rw [if_neg hne] at hm
  simp only [List.mem_append] at hm
  rcases hm with (((((hm | hm) | hm) | hm) | hm) | hm) | hm
  ·exact scheme_no62 n.scheme (by rcases hk with e | e; exact .inl e; exact .inr (.inl e)) c hm
  ·rw [List.mem_singleton.1 hm]; decide
  ·split at hm
   ·cases hm
   ·rcases List.mem_append.1 hm with hm | hm
    ·exact escp_no 0 _ 62 (by decide) (by decide) c hm
    ·rw [List.mem_singleton.1 hm]; decide
  ·exact host_no62 _ hh c hm
  ·split at hm
   ·cases hm
   ·rcases List.mem_cons.1 hm with rfl | hm
    ·decide
    ·exact allD_no _ (decL_spec _ _ (Nat.le_refl _)).1 62 (by decide) c hm
  ·exact wrt_no 59 59 1 _ 62 (by decide) (by decide) (by decide) (by decide) (by decide) c hm
  ·exact wrt_no 63 38 2 _ 62 (by decide) (by decide) (by decide) (by decide) (by decide) c hm
 ·intro c hm
  unfold textU at hm
  rw [if_pos hk] at hm
  simp only [List.mem_append] at hm
  rcases hm with (hm | hm) | hm
  ·revert hm c; decide
  ·exact num_no62 _ (num_kinds _ hn) c hm
  ·exact wrt_no 59 59 1 _ 62 (by decide) (by decide) (by decide) (by decide) (by decide) c hm
theorem angR_print (pre d : List UInt8) (n : Uri) (ps : List Prm) (T : List UInt8) (hn : NF n) (hp : ppO ps = some T) (hl : (textU n).length ≤ 1024) :
   angR (pre ++ (60 :: (textU n ++ (62 :: T)))) d pre.length = (⟨d, n, ps⟩, 0, 0) := by
 have e1 : pre ++ (60 :: (textU n ++ (62 :: T))) = (pre ++ [60]) ++ (textU n ++ (62 :: T)) := by simp
 have l1 : pre.length + 1 = (pre ++ [60]).length := by simp
 have hE : endP (· == 62) (pre ++ (60 :: (textU n ++ (62 :: T)))) (pre.length + 1) = pre.length + 1 + (textU n).length := by
  rw [e1, l1]
  exact endP_app (· == 62) _ (textU n) (62 :: T) (fun c hm => beq_no c 62 (text_no62 n hn c hm)) (.inr ⟨62, T, rfl, rfl⟩)
 have hS : slc (pre ++ (60 :: (textU n ++ (62 :: T)))) (pre.length + 1) (pre.length + 1 + (textU n).length) = textU n := by
  rw [e1, l1]; exact slc_app _ _ _
 have e2 : pre ++ (60 :: (textU n ++ (62 :: T))) = (pre ++ 60 :: textU n ++ [62]) ++ T := by simp
 have l2 : pre.length + 1 + (textU n).length + 1 = (pre ++ 60 :: textU n ++ [62]).length := by simp; omega
 have hs := ppF_starts ps [] T hp
 have hB : blkE (pre ++ (60 :: (textU n ++ (62 :: T)))) (pre.length + 1 + (textU n).length + 1) = pre.length + 1 + (textU n).length + 1 := by
  rw [e2, l2]; exact blkE_stay _ _ (s59_blk _ hs)
 have hF : parF ((pre ++ (60 :: (textU n ++ (62 :: T)))).length + 1) (pre ++ (60 :: (textU n ++ (62 :: T)))) (pre.length + 1 + (textU n).length + 1) [] = (ps, 0, 0) := by
  have := parF_print ps [] T (pre ++ 60 :: textU n ++ [62]) ((pre ++ (60 :: (textU n ++ (62 :: T)))).length + 1) hp (by rw [e2]; simp; omega)
  rw [← e2, ← l2] at this
  exact this
 unfold angR
 rw [hE, if_neg (by rw [e2]; simp; omega)]
 unfold restR
 rw [hS, hB, hF, parse_text n hn hl]
 simp
theorem adr_print (a : Adr) (t : List UInt8) (h : adrO a = some t) (hl : t.length ≤ 1024) : ∃ n, normal a.uri = some n ∧ adrR t = (⟨a.display, n, srt a.params⟩, 0, 0) := by
 unfold adrO printO at h
 cases hn : normal a.uri with
 | none => rw [hn] at h; cases h
 | some n =>
   rw [hn] at h
   cases hp : ppO (srt a.params) with
   | none => rw [hp] at h; cases h
   | some T =>
     rw [hp] at h
     simp only [Option.map_some] at h
     split at h
     ·cases h
     ·rename_i hc
      have hc' : hasCtl a.display = false := by simpa using hc
      have hN := normal_NF _ _ hn
      refine ⟨n, rfl, ?_⟩
      by_cases hd : a.display = []
      ·rw [if_pos hd] at h
       injection h with h
       have ht : t = [] ++ (60 :: (textU n ++ (62 :: T))) := by rw [← h]; simp
       have htl : (textU n).length ≤ 1024 := by rw [ht] at hl; simp at hl; omega
       have hA := angR_print [] [] n (srt a.params) T hN hp htl
       rw [← ht] at hA
       have hB : blkE t 0 = 0 := by rw [ht]; exact blkE_stay [] _ (.inr ⟨60, _, rfl, by decide⟩)
       have hE : endP (· == 60) t 0 = 0 := by rw [ht]; exact endP_app (· == 60) [] [] _ (by simp) (.inr ⟨60, _, rfl, rfl⟩)
       have hat : atB t 0 = 60 := by rw [ht]; rfl
       have hlt : 0 < t.length := by rw [ht]; simp
       unfold adrR
       rw [if_neg (by omega), hB, hat, if_neg (by decide), hE, if_pos hlt, tksF, if_pos (Nat.le_refl _)]
       dsimp only
       rw [if_neg (by decide), hd]
       exact hA
      ·rw [if_neg hd] at h
       injection h with h
       have hq : quT a.display = [34] ++ escL a.display ++ [34] := by unfold quT; rw [if_neg (by rw [hc']; decide)]
       have ht : t = [] ++ quT a.display ++ (32 :: 60 :: (textU n ++ (62 :: T))) := by rw [← h, hq]; simp
       have ht2 : t = (quT a.display ++ [32]) ++ (60 :: (textU n ++ (62 :: T))) := by rw [ht]; simp
       have htl : (textU n).length ≤ 1024 := by rw [ht2] at hl; simp at hl; omega
       have hA := angR_print (quT a.display ++ [32]) a.display n (srt a.params) T hN hp htl
       rw [← ht2] at hA
       obtain ⟨r1, r2, r3, r4⟩ := round_uq [] a.display (32 :: 60 :: (textU n ++ (62 :: T))) hc'
       rw [← ht] at r1 r2 r3
       have hB : blkE t 0 = 0 := by rw [ht, hq]; exact blkE_stay [] _ (.inr ⟨34, _, rfl, by decide⟩)
       have hat : atB t 0 = 34 := by rw [ht, hq]; rfl
       have hB2 : blkE t (quT a.display).length = (quT a.display ++ [32]).length := by
        have e3 : t = quT a.display ++ (32 :: 60 :: (textU n ++ (62 :: T))) := by rw [ht]; simp
        unfold blkE
        rw [e3, List.drop_left]
        have : runL blankI (32 :: 60 :: (textU n ++ (62 :: T))) = 1 := by rw [runL, if_pos (by decide), runL, if_neg (by decide)]
        rw [this]; simp
       have hat2 : atB t (quT a.display ++ [32]).length = 60 := by rw [ht2, atB_app]; rfl
       have r1' : uqT t ((0 : Nat) : Int) = a.display := r1
       have r2' : uqN t ((0 : Nat) : Int) = (((quT a.display).length : Nat) : Int) := by have := r2; simpa using this
       have r3' : uqE t ((0 : Nat) : Int) = 0 := r3
       unfold adrR
       rw [if_neg (by omega), hB, if_pos hat, r3', if_neg (by decide), r2', Int.toNat_natCast, hB2, hat2, if_neg (by decide), r1']
       exact hA
end Ad
end Go.Proofs.YtbcaindpbeaheaaGreatDoor
