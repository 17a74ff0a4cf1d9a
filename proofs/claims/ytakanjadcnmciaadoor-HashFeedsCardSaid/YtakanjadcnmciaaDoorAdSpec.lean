/- The plain specifications of the layer address: functions on lists of bytes, with no program in them. No conditions. -/
import Derived.Test.YtakanjadcnmciaaDoorLxQSpec
import Derived.Lib.Split
namespace Go.Proofs.YtakanjadcnmciaaDoor
namespace Ad
open Lx

/-- A parameter: its name, its value, and whether it has one. -/
abbrev Prm := List UInt8 × List UInt8 × Bool

def memB (l : List UInt8) (c : Int) : Bool := l.any fun b => (b.toNat : Int) == c
def everyL : List UInt8 := [45, 95, 46, 33, 126, 42, 39, 40, 41]
def clsL (k : Int) : List UInt8 := if k = 0 then [38, 61, 43, 36, 44, 59, 63, 47] else if k = 1 then [91, 93, 47, 58, 38, 43, 36] else if k = 2 then [91, 93, 47, 63, 58, 43, 36] else []
def inC (k c : Int) : Bool := letterI c || digitI c || memB everyL c || memB (clsL k) c
def hexV (c : Int) : Int := if digitI c then c - 48 else if 65 ≤ c ∧ c ≤ 70 then c - 55 else if 97 ≤ c ∧ c ≤ 102 then c - 87 else -1
/-- The byte that the escape at the front stands for; -1: there is none. -/
def escV : List UInt8 → Int
  | a :: b :: c :: _ => if a.toNat = 37 ∧ 0 ≤ hexV b.toNat ∧ 0 ≤ hexV c.toNat then 16 * hexV b.toNat + hexV c.toNat else -1
  | _ => -1
def hexD (n : Nat) : UInt8 := if n < 10 then (48 + n).toUInt8 else (55 + n).toUInt8
def lowB (c : UInt8) : UInt8 := if 65 ≤ c.toNat ∧ c.toNat ≤ 90 then c + 32 else c
def lowL (l : List UInt8) : List UInt8 := l.map lowB
def escpB (k : Int) (c : UInt8) : List UInt8 := if inC k c.toNat then [c] else [37, hexD (c.toNat / 16), hexD (c.toNat % 16)]
def escpL (k : Int) (l : List UInt8) : List UInt8 := l.flatMap (escpB k)

/-- The content up to the first percent sign that begins no escape, and how many bytes it takes. -/
def uneR : List UInt8 → List UInt8 × Nat
  | [] => ([], 0)
  | c :: t =>
    if c.toNat ≠ 37 then (c :: (uneR t).1, (uneR t).2 + 1) else
    match t with
    | a :: b :: r => if 0 ≤ hexV a.toNat ∧ 0 ≤ hexV b.toNat then ((16 * hexV a.toNat + hexV b.toNat).toNat.toUInt8 :: (uneR r).1, (uneR r).2 + 3) else ([], 0)
    | _ => ([], 0)
def unT (l : List UInt8) : List UInt8 := if (uneR l).2 = l.length then (uneR l).1 else []
def unN (l : List UInt8) : Nat := if (uneR l).2 = l.length then 0 else (uneR l).2
def unE (l : List UInt8) : Int := if (uneR l).2 = l.length then 0 else 5
/-- The content of a text of a class up to the first byte that does not belong to it, and how many bytes it takes. -/
def wrdR (k : Int) : List UInt8 → List UInt8 × Nat
  | [] => ([], 0)
  | c :: t =>
    if c.toNat ≠ 37 then (if inC k c.toNat then (c :: (wrdR k t).1, (wrdR k t).2 + 1) else ([], 0)) else
    match t with
    | a :: b :: r => if 0 ≤ hexV a.toNat ∧ 0 ≤ hexV b.toNat ∧ ctlI (16 * hexV a.toNat + hexV b.toNat) = false then ((16 * hexV a.toNat + hexV b.toNat).toNat.toUInt8 :: (wrdR k r).1, (wrdR k r).2 + 3) else ([], 0)
    | _ => ([], 0)

/-- A text divided at a byte. -/
def pcs (c : UInt8) : List UInt8 → List (List UInt8)
  | [] => [[]]
  | d :: t => if d = c then [] :: pcs c t else ((d :: (pcs c t).headD []) :: (pcs c t).tail)
/-- Texts with a byte between them. -/
def joinL (c : UInt8) : List (List UInt8) → List UInt8
  | [] => []
  | [a] => a
  | a :: b :: r => a ++ c :: joinL c (b :: r)

def lblC (c : Int) : Bool := letterI c || digitI c || c == 45
def lblB (l : List UInt8) : Bool := decide (1 ≤ l.length) && decide (l.length ≤ 63) && decide (l.headD 0 ≠ 45) && decide (l.getLastD 0 ≠ 45) && l.all fun c => lblC c.toNat
def numB (l : List UInt8) : Bool := decide (1 ≤ l.length) && decide (l.length ≤ 3) && (decide (l.length ≤ 1) || decide (l.headD 0 ≠ 48)) && allD l && decide (valL l ≤ 255)
def wordC (c : Int) : Bool := letterI c || c == 45
def nameB (l : List UInt8) : Bool := decide (l.length ≤ 255) && (pcs 46 l).all lblB && l.any fun c => wordC c.toNat
def fourB (l : List UInt8) : Bool := decide ((pcs 46 l).length = 4) && (pcs 46 l).all numB
def hexC (c : Int) : Bool := decide (0 ≤ hexV c)
def grpB (l : List UInt8) : Bool := decide (1 ≤ l.length) && decide (l.length ≤ 4) && l.all fun c => hexC c.toNat
/-- Without the zeros at the front, but for the last byte. -/
def stripZ : List UInt8 → List UInt8
  | [] => []
  | [c] => [c]
  | c :: d :: t => if c = 48 then stripZ (d :: t) else c :: d :: t
def grpN (l : List UInt8) : List UInt8 := lowL (stripZ l)
def grps (l : List UInt8) : Option (List (List UInt8)) := if l = [] then some [] else if (pcs 58 l).all grpB then some ((pcs 58 l).map grpN) else none
/-- The two sides of the first two colons in succession. -/
def cut2 : List UInt8 → Option (List UInt8 × List UInt8)
  | [] => none
  | [_] => none
  | a :: b :: t => if a = 58 ∧ b = 58 then some ([], t) else (cut2 (b :: t)).map fun p => (a :: p.1, p.2)
def six (l : List UInt8) : Option (List UInt8) :=
  match cut2 l with
  | some (a, b) =>
    match grps a, grps b with
    | some x, some y => if x.length + y.length < 8 then some (joinL 58 x ++ [58, 58] ++ joinL 58 y) else none
    | _, _ => none
  | none =>
    match grps l with
    | some x => if x.length = 8 then some (joinL 58 x) else none
    | none => none
/-- The normal form of a host. -/
def hostO (l : List UInt8) : Option (List UInt8) :=
  if l.head? = some 91 then
    (if l.tail.getLast? = some 93 then (six l.tail.dropLast).map fun x => [91] ++ x ++ [93] else none)
  else if nameB l then some (lowL l) else if fourB l then some l else none

/-- The offset of the first byte from k on that is one of p, or the end. -/
def endP (p : Int → Bool) (l : List UInt8) (k : Nat) : Nat := k + runL (fun c => !p c) (l.drop k)
def slc (l : List UInt8) (a b : Nat) : List UInt8 := (l.take b).drop a
def tokE (l : List UInt8) (k : Nat) : Nat := k + runL tokI (l.drop k)
def blkE (l : List UInt8) (k : Nat) : Nat := k + runL blankI (l.drop k)
/-- The byte at an offset; -1 at the end. -/
def atB (l : List UInt8) (k : Nat) : Int := match l[k]? with | some c => c.toNat | none => -1

/-- The value of a parameter at an offset: its content, the offset behind it or that of an error, the error. -/
def valR (l : List UInt8) (k : Nat) : List UInt8 × Nat × Int :=
  if atB l k = 34 then (uqT l k, (uqN l k).toNat, uqE l k)
  else if atB l k = 91 then
    (match hostO (slc l k (min (endP (· == 93) l k + 1) l.length)) with
     | some h => (h, min (endP (· == 93) l k + 1) l.length, 0)
     | none => ([], k, 5))
  else if tokE l k = k then ([], k, 5) else (slc l k (tokE l k), tokE l k, 0)
def room (acc : List Prm) (name : List UInt8) : Int := if acc.any (fun q => q.1 == name) then 7 else if acc.length = 16 then 4 else 0
/-- One parameter of a list at an offset: the parameter, the offset behind it or that of an error, the error. -/
def pmR (l : List UInt8) (k : Nat) : Prm × Nat × Int :=
  if tokE l k = k then (([], [], false), k, 5)
  else if atB l (blkE l (tokE l k)) = 61 then
    ((lowL (slc l k (tokE l k)), (valR l (blkE l (blkE l (tokE l k) + 1))).1, true), (valR l (blkE l (blkE l (tokE l k) + 1))).2)
  else ((lowL (slc l k (tokE l k)), [], false), blkE l (tokE l k), 0)
/-- A parameter list from an offset on, behind blanks. -/
def parF : Nat → List UInt8 → Nat → List Prm → List Prm × Nat × Int
  | 0, _, _, acc => (acc, 0, 0)
  | n + 1, l, k, acc =>
    if l.length ≤ k then (acc, 0, 0)
    else if atB l k ≠ 59 then ([], k, 5)
    else if (pmR l (blkE l (k + 1))).2.2 ≠ 0 then ([], (pmR l (blkE l (k + 1))).2)
    else if room acc (pmR l (blkE l (k + 1))).1.1 ≠ 0 then ([], blkE l (k + 1), room acc (pmR l (blkE l (k + 1))).1.1)
    else parF n l (blkE l (pmR l (blkE l (k + 1))).2.1) (acc ++ [(pmR l (blkE l (k + 1))).1])
def parR (l : List UInt8) : List Prm × Nat × Int := parF (l.length + 1) l (blkE l 0) []

/-- A parameter or head of a URI between two offsets. -/
def prR (cls : Int) (l : List UInt8) (k to : Nat) : Prm × Nat × Int :=
  if (wrdR cls (slc l k (min (endP (· == 61) l k) to))).2 < min (endP (· == 61) l k) to - k then (([], [], false), k + (wrdR cls (slc l k (min (endP (· == 61) l k) to))).2, 5)
  else if (wrdR cls (slc l k (min (endP (· == 61) l k) to))).1 = [] then (([], [], false), k, 5)
  else if min (endP (· == 61) l k) to = to then (if cls = 2 then (([], [], false), to, 5) else ((lowL (wrdR cls (slc l k to)).1, [], false), to, 0))
  else if (wrdR cls (slc l (endP (· == 61) l k + 1) to)).2 < to - (endP (· == 61) l k + 1) then (([], [], false), endP (· == 61) l k + 1 + (wrdR cls (slc l (endP (· == 61) l k + 1) to)).2, 5)
  else if cls = 1 ∧ (wrdR cls (slc l (endP (· == 61) l k + 1) to)).1 = [] then (([], [], false), to, 5)
  else ((lowL (wrdR cls (slc l k (endP (· == 61) l k))).1, (wrdR cls (slc l (endP (· == 61) l k + 1) to)).1, true), to, 0)
/-- Parameters or heads from an offset on. -/
def prsF (bg ends : Int → Bool) (cls : Int) : Nat → List UInt8 → Nat → List Prm → List Prm × Nat × Int
  | 0, _, k, acc => (acc, k, 0)
  | n + 1, l, k, acc =>
    if bg (atB l k) = false then (acc, k, 0)
    else if (prR cls l (k + 1) (endP ends l (k + 1))).2.2 ≠ 0 then ([], (prR cls l (k + 1) (endP ends l (k + 1))).2)
    else if room acc (prR cls l (k + 1) (endP ends l (k + 1))).1.1 ≠ 0 then ([], k + 1, room acc (prR cls l (k + 1) (endP ends l (k + 1))).1.1)
    else prsF bg ends cls n l (endP ends l (k + 1)) (acc ++ [(prR cls l (k + 1) (endP ends l (k + 1))).1])

/-! ### sorting -/
/-- Is the first text less than the second, byte by byte? -/
def ltL : List UInt8 → List UInt8 → Bool
  | [], [] => false
  | [], _ :: _ => true
  | _ :: _, [] => false
  | a :: s, b :: t => if a.toNat < b.toNat then true else if b.toNat < a.toNat then false else ltL s t
/-- Put behind the last one that is not greater. -/
def insE (x : Prm) (out : List Prm) : List Prm :=
  (out.reverse.dropWhile fun y => ltL x.1 y.1).reverse ++ x :: (out.reverse.takeWhile fun y => ltL x.1 y.1).reverse
def srt (l : List Prm) : List Prm := l.foldl (fun out x => insE x out) []

/-! ### URIs -/
structure Uri where
  scheme : List UInt8
  user : List UInt8
  host : List UInt8
  port : Int
  params : List Prm
  heads : List Prm
def nilU : Uri := ⟨[], [], [], 0, [], []⟩
def sipL : List UInt8 := [115, 105, 112]
def sipsL : List UInt8 := [115, 105, 112, 115]
def telL : List UInt8 := [116, 101, 108]

def usrR (l : List UInt8) (k : Nat) : List UInt8 × Nat × Int :=
  if endP (· == 64) l k = l.length then ([], k, 0)
  else if (wrdR 0 (slc l k (endP (· == 64) l k))).2 < endP (· == 64) l k - k then ([], k + (wrdR 0 (slc l k (endP (· == 64) l k))).2, if atB l (k + (wrdR 0 (slc l k (endP (· == 64) l k))).2) = 58 then 15 else 5)
  else if (wrdR 0 (slc l k (endP (· == 64) l k))).1 = [] then ([], endP (· == 64) l k, 5)
  else ((wrdR 0 (slc l k (endP (· == 64) l k))).1, endP (· == 64) l k + 1, 0)
def hendC (c : Int) : Bool := c == 58 || (c == 59 || c == 63)
def semq (c : Int) : Bool := c == 59 || c == 63
def hstTo (l : List UInt8) (k : Nat) : Nat := if atB l k = 91 then min (endP (· == 93) l k + 1) l.length else endP hendC l k
def hstR (l : List UInt8) (k : Nat) : List UInt8 × Nat × Int :=
  match hostO (slc l k (hstTo l k)) with
  | some h => (h, hstTo l k, 0)
  | none => ([], k, 5)
def prtR (l : List UInt8) (k : Nat) : Int × Nat × Int :=
  if atB l k = 58 then
    (if numE (slc l (k + 1) (endP semq l (k + 1))) ≠ 0 then (0, k + 1, numE (slc l (k + 1) (endP semq l (k + 1))))
     else if numN (slc l (k + 1) (endP semq l (k + 1))) < 1 ∨ 65535 < numN (slc l (k + 1) (endP semq l (k + 1))) then (0, k + 1, 3)
     else (numN (slc l (k + 1) (endP semq l (k + 1))), endP semq l (k + 1), 0))
  else if k < endP semq l k then (0, k, 5) else (0, k, 0)
def sepC (c : Int) : Bool := c == 45 || (c == 46 || (c == 40 || c == 41))
def locC (c : Int) : Bool := c == 42 || c == 35
/-- What is kept of a number, and how many bytes may stand there. -/
def telS (o : Bool) : List UInt8 → List UInt8 × Nat
  | [] => ([], 0)
  | c :: t => if digitI c.toNat || (o && locC c.toNat) then (c :: (telS o t).1, (telS o t).2 + 1) else if sepC c.toNat then ((telS o t).1, (telS o t).2 + 1) else ([], 0)
def telR (l : List UInt8) (k : Nat) : List UInt8 × Nat × Int :=
  if atB l k = 43 then
    (if (telS false (slc l (k + 1) (endP (· == 59) l k))).2 < endP (· == 59) l k - (k + 1) then ([], k + 1 + (telS false (slc l (k + 1) (endP (· == 59) l k))).2, 5)
     else if (telS false (slc l (k + 1) (endP (· == 59) l k))).1 = [] then ([], k, 5)
     else if 30 < (telS false (slc l (k + 1) (endP (· == 59) l k))).1.length then ([], k, 4)
     else (43 :: (telS false (slc l (k + 1) (endP (· == 59) l k))).1, endP (· == 59) l k, 0))
  else
    (if (telS true (slc l k (endP (· == 59) l k))).2 < endP (· == 59) l k - k then ([], k + (telS true (slc l k (endP (· == 59) l k))).2, 5)
     else if (telS true (slc l k (endP (· == 59) l k))).1 = [] then ([], k, 5)
     else if 30 < (telS true (slc l k (endP (· == 59) l k))).1.length then ([], k, 4)
     else ((telS true (slc l k (endP (· == 59) l k))).1, endP (· == 59) l k, 0))
def prmsR (ends : Int → Bool) (l : List UInt8) (k : Nat) : List Prm × Nat × Int := prsF (· == 59) ends 1 (l.length + 1) l k []
def headC (c : Int) : Bool := c == 63 || c == 38
def headsR (l : List UInt8) (k : Nat) : List Prm × Nat × Int := prsF headC (· == 38) 2 (l.length + 1) l k []
/-- The rest of a sip address behind the scheme. -/
def sipR (s l : List UInt8) (k : Nat) : Uri × Nat × Int :=
  if (usrR l k).2.2 ≠ 0 then (nilU, (usrR l k).2)
  else if (hstR l (usrR l k).2.1).2.2 ≠ 0 then (nilU, (hstR l (usrR l k).2.1).2)
  else if (prtR l (hstR l (usrR l k).2.1).2.1).2.2 ≠ 0 then (nilU, (prtR l (hstR l (usrR l k).2.1).2.1).2)
  else if (prmsR semq l (prtR l (hstR l (usrR l k).2.1).2.1).2.1).2.2 ≠ 0 then (nilU, (prmsR semq l (prtR l (hstR l (usrR l k).2.1).2.1).2.1).2)
  else if (headsR l (prmsR semq l (prtR l (hstR l (usrR l k).2.1).2.1).2.1).2.1).2.2 ≠ 0 then (nilU, (headsR l (prmsR semq l (prtR l (hstR l (usrR l k).2.1).2.1).2.1).2.1).2)
  else (⟨s, (usrR l k).1, (hstR l (usrR l k).2.1).1, (prtR l (hstR l (usrR l k).2.1).2.1).1, srt (prmsR semq l (prtR l (hstR l (usrR l k).2.1).2.1).2.1).1, srt (headsR l (prmsR semq l (prtR l (hstR l (usrR l k).2.1).2.1).2.1).2.1).1⟩, 0, 0)
def telU (l : List UInt8) (k : Nat) : Uri × Nat × Int :=
  if (telR l k).2.2 ≠ 0 then (nilU, (telR l k).2)
  else if (prmsR (· == 59) l (telR l k).2.1).2.2 ≠ 0 then (nilU, (prmsR (· == 59) l (telR l k).2.1).2)
  else (⟨telL, (telR l k).1, [], 0, srt (prmsR (· == 59) l (telR l k).2.1).1, []⟩, 0, 0)
/-- Parse: the URI, the offset of an error, the error. -/
def parse (l : List UInt8) : Uri × Nat × Int :=
  if 1024 < l.length then (nilU, 1024, 4)
  else if endP (· == 58) l 0 = l.length then (nilU, l.length, 5)
  else if lowL (l.take (endP (· == 58) l 0)) = sipL ∨ lowL (l.take (endP (· == 58) l 0)) = sipsL then sipR (lowL (l.take (endP (· == 58) l 0))) l (endP (· == 58) l 0 + 1)
  else if lowL (l.take (endP (· == 58) l 0)) = telL then telU l (endP (· == 58) l 0 + 1)
  else (nilU, 0, 15)

/-! ### normal forms -/
def okP (cls : Int) (p : Prm) : Bool := decide (p.1 ≠ []) && !hasCtl p.1 && !hasCtl p.2.1 && (if cls = 2 then p.2.2 else p.2.2 == decide (p.2.1 ≠ []))
def nmF (cls : Int) : List Prm → List Prm → Option (List Prm)
  | [], acc => some acc
  | p :: t, acc => if okP cls p && decide (room acc (lowL p.1) = 0) then nmF cls t (acc ++ [(lowL p.1, p.2)]) else none
def isNum (s : List UInt8) : Bool := decide ((telR s 0).2.2 = 0) && decide ((telR s 0).1 = s)
def normal (u : Uri) : Option Uri :=
  match nmF 1 u.params [], nmF 2 u.heads [] with
  | some ps, some hs =>
    if lowL u.scheme = sipL ∨ lowL u.scheme = sipsL then
      (match hostO u.host with
       | some h => if 0 ≤ u.port ∧ u.port ≤ 65535 ∧ hasCtl u.user = false then some ⟨lowL u.scheme, u.user, h, u.port, srt ps, srt hs⟩ else none
       | none => none)
    else if lowL u.scheme = telL then
      (if isNum u.user = true ∧ u.host = [] ∧ u.port = 0 ∧ u.heads = [] then some ⟨telL, u.user, [], 0, srt ps, []⟩ else none)
    else none
  | _, _ => none
def decL (n : Nat) : List UInt8 := if n < 10 then [(48 + n).toUInt8] else decL (n / 10) ++ [(48 + n % 10).toUInt8]
termination_by n
decreasing_by omega
def prP (cls : Int) (p : Prm) : List UInt8 := escpL cls p.1 ++ (if p.2.2 then 61 :: escpL cls p.2.1 else [])
def wrt (first again : UInt8) (cls : Int) : List Prm → List UInt8
  | [] => []
  | p :: t => first :: prP cls p ++ wrt again again cls t
/-- The text of a normal form. -/
def textU (n : Uri) : List UInt8 :=
  if n.scheme = telL then [116, 101, 108, 58] ++ n.user ++ wrt 59 59 1 n.params
  else n.scheme ++ [58] ++ (if n.user = [] then [] else escpL 0 n.user ++ [64]) ++ n.host ++ (if n.port = 0 then [] else 58 :: decL n.port.toNat) ++ wrt 59 59 1 n.params ++ wrt 63 38 2 n.heads
def printO (u : Uri) : Option (List UInt8) := (normal u).map textU

/-! ### parameter lists -/
def tokB (l : List UInt8) : Bool := decide (1 ≤ l.length) && l.all fun c => tokI c.toNat
def ppB (p : Prm) : Bool := tokB p.1 && decide (p.1 = lowL p.1) && !hasCtl p.2.1 && (p.2.2 || decide (p.2.1 = []))
def pvL (v : List UInt8) : List UInt8 := if tokB v || (decide (v.head? = some 91) && decide (hostO v = some v)) then v else [34] ++ escL v ++ [34]
def ppL (p : Prm) : List UInt8 := 59 :: p.1 ++ (if p.2.2 then 61 :: pvL p.2.1 else [])
def ppF : List Prm → List Prm → Option (List UInt8)
  | [], _ => some []
  | p :: t, acc => if ppB p && decide (room acc p.1 = 0) then (ppF t (acc ++ [p])).map fun x => ppL p ++ x else none
def ppO (l : List Prm) : Option (List UInt8) := ppF l []
/-- The index of the first parameter of a name. -/
def fndP (l : List Prm) (name : List UInt8) : Nat := l.findIdx fun p => lowL p.1 == lowL name

/-! ### addresses -/
structure Adr where
  display : List UInt8
  uri : Uri
  params : List Prm
def nilA : Adr := ⟨[], nilU, []⟩
/-- The tokens between two offsets, or the offset of an error. -/
def tksF : Nat → List UInt8 → Nat → Nat → List (List UInt8) → List (List UInt8) × Nat × Int
  | 0, _, k, _, acc => (acc, k, 0)
  | n + 1, l, k, to, acc => if to ≤ k then (acc, k, 0) else if tokE l k = k then ([], k, 5) else tksF n l (blkE l (tokE l k)) to (acc ++ [slc l k (tokE l k)])
def restR (l display : List UInt8) (a to b : Nat) : Adr × Nat × Int :=
  if (parse (slc l a to)).2.2 ≠ 0 then (nilA, a + (parse (slc l a to)).2.1, (parse (slc l a to)).2.2)
  else if (parF (l.length + 1) l (blkE l b) []).2.2 ≠ 0 then (nilA, (parF (l.length + 1) l (blkE l b) []).2)
  else (⟨display, (parse (slc l a to)).1, (parF (l.length + 1) l (blkE l b) []).1⟩, 0, 0)
/-- Behind the angle bracket at an offset. -/
def angR (l display : List UInt8) (k : Nat) : Adr × Nat × Int :=
  if endP (· == 62) l (k + 1) = l.length then (nilA, l.length, 5) else restR l display (k + 1) (endP (· == 62) l (k + 1)) (endP (· == 62) l (k + 1) + 1)
def bareC (c : Int) : Bool := c == 59 || (c == 32 || c == 9)
def queC (c : Int) : Bool := c == 63 || c == 44
def adrR (l : List UInt8) : Adr × Nat × Int :=
  if 1024 < l.length then (nilA, 1024, 4)
  else if atB l (blkE l 0) = 34 then
    (if uqE l (blkE l 0) ≠ 0 then (nilA, (uqN l (blkE l 0)).toNat, uqE l (blkE l 0))
     else if atB l (blkE l (uqN l (blkE l 0)).toNat) ≠ 60 then (nilA, blkE l (uqN l (blkE l 0)).toNat, 5)
     else angR l (uqT l (blkE l 0)) (blkE l (uqN l (blkE l 0)).toNat))
  else if endP (· == 60) l (blkE l 0) < l.length then
    (if (tksF (l.length + 1) l (blkE l 0) (endP (· == 60) l (blkE l 0)) []).2.2 ≠ 0 then (nilA, (tksF (l.length + 1) l (blkE l 0) (endP (· == 60) l (blkE l 0)) []).2)
     else angR l (joinL 32 (tksF (l.length + 1) l (blkE l 0) (endP (· == 60) l (blkE l 0)) []).1) (endP (· == 60) l (blkE l 0)))
  else if endP queC l (blkE l 0) < endP bareC l (blkE l 0) then (nilA, endP queC l (blkE l 0), 5)
  else restR l [] (blkE l 0) (endP bareC l (blkE l 0)) (endP bareC l (blkE l 0))
/-- PrintAddress. -/
def adrO (a : Adr) : Option (List UInt8) :=
  match printO a.uri, ppO (srt a.params) with
  | some u, some p => if hasCtl a.display then none else some ((if a.display = [] then [] else [34] ++ escL a.display ++ [34, 32]) ++ [60] ++ u ++ [62] ++ p)
  | _, _ => none
end Ad
end Go.Proofs.YtakanjadcnmciaaDoor
