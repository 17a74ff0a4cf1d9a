/- Texts of one set of library modules: AdRg, AdRi, AdRj, AdRl, AdRm, AdRo, AdWb, AdRp, AdTu, AdSo, AdPw, AdPx, AdVa, AdVb, AdWc, AdVt, AdWd, AdWf, AdVh. -/
import Derived.Test.YtmmjfofdnpafkaaGreatDoorZ6
import Derived.Test.YtmmjfofdnpafkaaGreatDoorZ2
import Derived.StillTailTactics
import Derived.Sort.CutIn
import Derived.Deep.RegionHeldLaw
import Derived.Deep.AppendLies
import Derived.Test.YtmmjfofdnpafkaaGreatDoorZ1
import Derived.Laws.IdiomStrings
import Derived.Deep.LoopGhost
import Derived.Test.YtmmjfofdnpafkaaGreatDoorZ4
import Derived.Laws.ResultCell
import Derived.Test.YtmmjfofdnpafkaaGreatDoorZ5
namespace Go.Proofs.YtmmjfofdnpafkaaGreatDoor
namespace Ad
open Go.RowKit Lx
def lwAt (s : ByteArray) (j i : Nat) (h : i < s.size) : Int := if i < j then (lowB s[i]).toNat else s[i].toNat
theorem lwAt_zero (s : ByteArray) (i : Nat) (h : i < s.size) : lwAt s 0 i h = s[i].toNat := by unfold lwAt; rw [if_neg (by omega)]
theorem lwAt_at (s : ByteArray) (i : Nat) (h : i < s.size) : lwAt s i i h = s[i].toNat := by unfold lwAt; rw [if_neg (by omega)]
theorem lwAt_next (s : ByteArray) (j i : Nat) (h : i < s.size) (hn : i ≠ j) : lwAt s (j + 1) i h = lwAt s j i h := by
 unfold lwAt
 by_cases hl : i < j
 ·rw [if_pos hl, if_pos (by omega)]
 ·rw [if_neg hl, if_neg (by omega)]
theorem lwAt_new (s : ByteArray) (j : Nat) (h : j < s.size) : lwAt s (j + 1) j h = (lowB s[j]).toNat := by unfold lwAt; rw [if_pos (by omega)]
theorem lwAt_end (s : ByteArray) (j i : Nat) (h : i < s.size) (hj : s.size ≤ j) : lwAt s j i h = (lowB s[i]).toNat := by unfold lwAt; rw [if_pos (by omega)]
structure LwR (s : ByteArray) (B j : Nat) (w : World) : Prop where
 cell : ∀ i (h : i < s.size), w.cell? ⟨B, i, none⟩ = some (.int .u8 (lwAt s j i h))
 soft : ∀ i, i < s.size → w.frozen? ⟨B, i, none⟩ = false
theorem LwR.skip {s : ByteArray} {B j : Nat} {w : World} (h : LwR s B j w) (hj : j < s.size) (he : (lowB s[j]).toNat = s[j].toNat) : LwR s B (j + 1) w := by
 refine ⟨fun i hi => ?_, h.soft⟩
 by_cases hij : i = j
 ·subst hij
  rw [lwAt_new, he, ← lwAt_at s i hi]; exact h.cell i hi
 ·rw [lwAt_next s j i hi hij]; exact h.cell i hi
theorem LwR.put {s : ByteArray} {B j : Nat} {w : World} (h : LwR s B j w) (hj : j < s.size) (x : Int) (he : ((lowB s[j]).toNat : Int) = x) : LwR s B (j + 1) (w.setCell ⟨B, j, none⟩ (.int .u8 x)) := by
 refine ⟨fun i hi => ?_, fun i hi => by rw [World.frozen?_setCell]; exact h.soft i hi⟩
 by_cases hij : i = j
 ·subst hij
  rw [lwAt_new, he]; exact World.cell?_setCell_same _ _ _ (h.cell i hi)
 ·rw [lwAt_next s j i hi hij]; exact (World.cell?_setCell_other _ _ _ _ (by intro e; injection e with _ e2; exact hij e2.symm)).trans (h.cell i hi)
theorem LwR.start (s : ByteArray) (cap : Nat) (w : World) : LwR s w.heap.size 0 (w.alloc (.cells (bytesRow s cap) 5 ((bytesRow s cap).size, (bytesRow s cap).size + 1))) := by
 have hsz : ∀ i, i < s.size → i < (bytesRow s cap).size := fun i hi => by unfold bytesRow; simp; omega
 refine ⟨fun i hi => ?_, fun i hi => ?_⟩
 ·rw [World.cell?_alloc_mark, bytesRow_at s cap i hi, lwAt_zero]; rfl
 ·rw [World.frozen?_alloc_mark, decide_eq_false (by have := hsz i hi; omega)]; rfl
theorem LwR.back {s : ByteArray} {B j cap : Nat} {w : World} (h : LwR s B j w) (hj : s.size ≤ j) : (convert 118 9 (.slice (some ⟨B, 0, none⟩) s.size cap)).run Tryz.prog w = .ok (.string ⟨(lowL s.data.toList).toArray⟩) w := by
 have hl : s.size = (lowL s.data.toList).length := by rw [lowL_len, len_list]
 have := run_convert_bytes_back (P := Tryz.prog) w 118 9 5 ⟨B, 0, none⟩ cap (lowL s.data.toList) Tryz.underlying118 Tryz.underlying5 Tryz.underlying9 (fun i hi => by
  have hi2 : i < s.size := by omega
  have hadd : (⟨B, 0, none⟩ : Addr).add i = ⟨B, i, none⟩ := by unfold Addr.add; split <;> simp_all
  rw [hadd, h.cell i hi2, lwAt_end s j i hi2 hj]
  simp [lowL]
  rfl)
 rw [← hl] at this
 exact this
def GpP (l : List UInt8) (w : World) (e : Ending) (w' : World) : Prop := e = .returned (.tuple #[.string ⟨(if grpB l then grpN l else []).toArray⟩, .bool (grpB l)]) ∧ Below w.heap.size w w'
theorem GpP.no {l : List UInt8} {w w' : World} (h : grpB l = false) (hB : Below w.heap.size w w') : GpP l w (.returned (.tuple #[.string ⟨#[]⟩, .bool false])) w' := by
 unfold GpP; rw [h]; exact ⟨rfl, hB⟩
end Ad
end Go.Proofs.YtmmjfofdnpafkaaGreatDoor
namespace Go.Proofs.YtmmjfofdnpafkaaGreatDoor
namespace Ad
open Go.RowKit Lx
theorem Txs.below {w w' : World} {g : Nat} {xs : List (List UInt8)} (h : Txs w g xs) (hg : g < w.heap.size) (hB : Below w.heap.size w w') : Txs w' g xs := fun j x hx => (hB.cell (p := ⟨g, j, none⟩) hg).trans (h j x hx)
def GsP (l : List UInt8) (w : World) (e : Ending) (w' : World) : Prop :=
 e = .returned (.tuple #[.string (Txt (joinL 58 ((grps l).getD []))), .int .i64 ((grps l).getD []).length, .bool (grps l).isSome]) ∧ Below w.heap.size w w'
theorem GsP.no {l : List UInt8} {w w' : World} (h : grps l = none) (hB : Below w.heap.size w w') : GsP l w (.returned (.tuple #[.string ⟨#[]⟩, .int .i64 0, .bool false])) w' := by
 unfold GsP; rw [h]; exact ⟨rfl, hB⟩
end Ad
end Go.Proofs.YtmmjfofdnpafkaaGreatDoor
namespace Go.Proofs.YtmmjfofdnpafkaaGreatDoor
namespace Ad
open Go.RowKit Lx
def SxP (l : List UInt8) (w : World) (e : Ending) (w' : World) : Prop :=
 ∃ (a : ByteArray) (b : Bool), e = .returned (.tuple #[.string a, .bool b]) ∧ b = (six l).isSome ∧ (∀ x, six l = some x → a = Txt x) ∧ Below w.heap.size w w'
theorem SxP.no {l : List UInt8} {w w' : World} (a : ByteArray) (h : six l = none) (hB : Below w.heap.size w w') : SxP l w (.returned (.tuple #[.string a, .bool false])) w' :=
 ⟨a, false, rfl, by rw [h]; rfl, fun x hx => (by rw [h] at hx; cases hx), hB⟩
end Ad
end Go.Proofs.YtmmjfofdnpafkaaGreatDoor
namespace Go.Proofs.YtmmjfofdnpafkaaGreatDoor
namespace Ad
open Go.RowKit Lx
theorem HoP.no {l : List UInt8} {w w' : World} (h : hostO l = none) (hB : Below w.heap.size w w') : HoP (hostO l) w (.returned (.tuple #[.string ⟨#[]⟩, .bool false])) w' := by
 unfold HoP; rw [h]; exact ⟨rfl, hB⟩
end Ad
end Go.Proofs.YtmmjfofdnpafkaaGreatDoor
namespace Go.Proofs.YtmmjfofdnpafkaaGreatDoor
namespace Ad
open Go.RowKit Lx
def NoF (l : List Prm) (nm : List UInt8) (j : Nat) : Prop := ∀ m, m < j → (lowL l[m]!.1 == lowL nm) = false
theorem NoF.succ {l : List Prm} {nm : List UInt8} {j : Nat} (h : NoF l nm j) (h2 : (lowL l[j]!.1 == lowL nm) = false) : NoF l nm (j + 1) := fun m hm => by
 rcases Nat.lt_or_ge m j with h3 | h3
 ·exact h m h3
 ·have : m = j := by omega
  rw [this]; exact h2
def roomL (l : List Prm) (nm : List UInt8) : Int := if 0 ≤ fndI l nm then 7 else if 16 ≤ l.length then 4 else 0
theorem roomL_eq (l : List Prm) (nm : List UInt8) (h1 : ∀ q ∈ l, lowL q.1 = q.1) (h2 : lowL nm = nm) (h3 : l.length ≤ 16) : roomL l nm = room l nm := by
 have key : (0 ≤ fndI l nm) ↔ (l.any (fun q => q.1 == nm) = true) := by
  rcases fndI_cases l nm with ⟨hI, hno⟩ | ⟨k, hk, hI, hyes, _⟩
  ·rw [hI]
   constructor
   ·intro h; omega
   ·intro h
    obtain ⟨q, hq, he⟩ := List.any_eq_true.1 h
    obtain ⟨j, hj, rfl⟩ := List.mem_iff_getElem.1 hq
    have := hno j hj
    rw [getElem!_pos l j hj, h1 _ hq, h2, he] at this
    cases this
  ·rw [hI]
   constructor
   ·intro _
    rw [getElem!_pos l k hk, h1 _ (List.getElem_mem hk), h2] at hyes
    exact List.any_eq_true.2 ⟨_, List.getElem_mem hk, hyes⟩
   ·intro _; omega
 unfold roomL room
 by_cases h : 0 ≤ fndI l nm
 ·rw [if_pos h, if_pos (key.1 h)]
 ·rw [if_neg h, if_neg (fun h4 => h (key.2 h4))]
  by_cases h5 : l.length = 16
  ·rw [if_pos (by omega), if_pos h5]
  ·rw [if_neg (by omega), if_neg h5]
def NoC (s : ByteArray) (k : Nat) : Prop := ((s.data.toList.take k).any fun c => ctlI c.toNat) = false
end Ad
end Go.Proofs.YtmmjfofdnpafkaaGreatDoor
namespace Go.Proofs.YtmmjfofdnpafkaaGreatDoor
namespace Ad
open Go.RowKit Lx
theorem pmR_none (l : List UInt8) (k : Nat) (h : tokE l k = k) : pmR l k = (([], [], false), k, 5) := by unfold pmR; rw [if_pos h]
theorem pmR_bare (l : List UInt8) (k : Nat) (h : tokE l k ≠ k) (h2 : atB l (blkE l (tokE l k)) ≠ 61) : pmR l k = ((lowL (slc l k (tokE l k)), [], false), blkE l (tokE l k), 0) := by unfold pmR; rw [if_neg h, if_neg h2]
theorem pmR_val (l : List UInt8) (k : Nat) (h : tokE l k ≠ k) (h2 : atB l (blkE l (tokE l k)) = 61) : pmR l k = ((lowL (slc l k (tokE l k)), (valR l (blkE l (blkE l (tokE l k) + 1))).1, true), (valR l (blkE l (blkE l (tokE l k) + 1))).2) := by unfold pmR; rw [if_neg h, if_pos h2]
structure AccL (acc : List Prm) : Prop where
 len : acc.length ≤ 16
 low : ∀ q ∈ acc, lowL q.1 = q.1
 sz : SzP acc
theorem AccL.nil : AccL [] := ⟨by simp, (fun q hq => nomatch hq), (fun q hq => nomatch hq)⟩
theorem AccL.snoc {acc : List Prm} (h : AccL acc) {q : Prm} (h1 : lowL q.1 = q.1) (h2 : q.1.length ≤ 2097152) (h3 : q.2.1.length ≤ 2097152) (h4 : acc.length ≤ 15) : AccL (acc ++ [q]) :=
 ⟨by rw [List.length_append, List.length_singleton]; omega, fun p hp => by
  rcases List.mem_append.1 hp with h5 | h5
  ·exact h.low p h5
  ·rw [List.mem_singleton.1 h5]; exact h1, fun p hp => by
  rcases List.mem_append.1 hp with h5 | h5
  ·exact h.sz p h5
  ·rw [List.mem_singleton.1 h5]; exact ⟨h2, h3⟩⟩
theorem AccL.room {acc : List Prm} (h : AccL acc) (nm : List UInt8) (h1 : lowL nm = nm) : roomL acc nm = Ad.room acc nm := roomL_eq acc nm h.low h1 h.len
theorem qText_len : ∀ (l : List UInt8), (qText l).length ≤ l.length := by
 intro l
 induction hn : l.length using Nat.strongRecOn generalizing l with
 | _ n ih =>
   cases l with
   | nil => rw [qText.eq_def]; simp
   | cons c t =>
     by_cases h1 : c.toNat = 34
     ·rw [qText_quote c t h1]; simp
     ·by_cases h2 : c.toNat = 92
      ·cases t with
       | nil => rw [qText.eq_def]; simp [h1, h2]
       | cons d u =>
         rw [qText_two c d u h2]
         have := ih u.length (by simp at hn; omega) u rfl
         simp at hn ⊢; omega
      ·rw [qText_one c t h1 h2]
       have := ih t.length (by simp at hn; omega) t rfl
       simp at hn ⊢; omega
theorem unq_len (l : List UInt8) (k : Int) : (uqT l k).length ≤ l.length := by
 unfold uqT
 split
 ·simp
 ·have := qText_len (l.drop (k.toNat + 1))
  rw [List.length_drop] at this; omega
theorem valR_len (l : List UInt8) (k : Nat) : (valR l k).1.length ≤ l.length + 86 := by
 unfold valR
 split
 ·have := unq_len l k; dsimp only; omega
 ·split
  ·cases ho : hostO (slc l k (min (endP (· == 93) l k + 1) l.length)) with
   | none => simp
   | some h => have h1 := hostO_len _ _ ho; have h2 := slc_lel l k (min (endP (· == 93) l k + 1) l.length); dsimp only; omega
  ·split
   ·simp
   ·have := slc_lel l k (tokE l k); dsimp only; omega
end Ad
end Go.Proofs.YtmmjfofdnpafkaaGreatDoor
namespace Go.Proofs.YtmmjfofdnpafkaaGreatDoor
namespace Ad
open Lx
theorem opE_at (l : List UInt8) (k : Nat) (h : atB l k = 34) : opE 34 l (k : Int) = 0 := by
 have hk := atB_lt l k (by rw [h]; decide)
 have e : l.drop k = l[k] :: l.drop (k + 1) := (List.drop_eq_getElem_cons hk)
 unfold opE
 rw [if_neg (by omega), Int.toNat_natCast, e]
 dsimp only
 unfold atB at h
 rw [List.getElem?_eq_getElem hk] at h
 exact if_pos h
end Ad
end Go.Proofs.YtmmjfofdnpafkaaGreatDoor
namespace Go.Proofs.YtmmjfofdnpafkaaGreatDoor
namespace Ad
open Go.RowKit Lx
def LowN (l : List Prm) (j : Nat) : Prop := ∀ q ∈ l.take j, lowL q.1 = q.1
theorem LowN.succ {l : List Prm} {j : Nat} (h : LowN l j) (hj : j < l.length) (h2 : lowL l[j]!.1 = l[j]!.1) : LowN l (j + 1) := fun q hq => by
 rw [List.take_succ_eq_append_getElem hj] at hq
 rcases List.mem_append.1 hq with h3 | h3
 ·exact h q h3
 ·rw [List.mem_singleton.1 h3, ← getElem!_pos l j hj]; exact h2
end Ad
end Go.Proofs.YtmmjfofdnpafkaaGreatDoor
namespace Go.Proofs.YtmmjfofdnpafkaaGreatDoor
namespace Ad
open Go.RowKit Lx
theorem upL_len (l : List UInt8) : (upL l).length = l.length := by simp [upL]
def upAt (s : ByteArray) (j i : Nat) (h : i < s.size) : Int := if i < j then (upB s[i]).toNat else s[i].toNat
theorem upAt_zero (s : ByteArray) (i : Nat) (h : i < s.size) : upAt s 0 i h = s[i].toNat := by unfold upAt; rw [if_neg (by omega)]
theorem upAt_at (s : ByteArray) (i : Nat) (h : i < s.size) : upAt s i i h = s[i].toNat := by unfold upAt; rw [if_neg (by omega)]
theorem upAt_next (s : ByteArray) (j i : Nat) (h : i < s.size) (hn : i ≠ j) : upAt s (j + 1) i h = upAt s j i h := by
 unfold upAt
 by_cases hl : i < j
 ·rw [if_pos hl, if_pos (by omega)]
 ·rw [if_neg hl, if_neg (by omega)]
theorem upAt_new (s : ByteArray) (j : Nat) (h : j < s.size) : upAt s (j + 1) j h = (upB s[j]).toNat := by unfold upAt; rw [if_pos (by omega)]
theorem upAt_end (s : ByteArray) (j i : Nat) (h : i < s.size) (hj : s.size ≤ j) : upAt s j i h = (upB s[i]).toNat := by unfold upAt; rw [if_pos (by omega)]
structure UpR (s : ByteArray) (B j : Nat) (w : World) : Prop where
 cell : ∀ i (h : i < s.size), w.cell? ⟨B, i, none⟩ = some (.int .u8 (upAt s j i h))
 soft : ∀ i, i < s.size → w.frozen? ⟨B, i, none⟩ = false
theorem UpR.skip {s : ByteArray} {B j : Nat} {w : World} (h : UpR s B j w) (hj : j < s.size) (he : (upB s[j]).toNat = s[j].toNat) : UpR s B (j + 1) w := by
 refine ⟨fun i hi => ?_, h.soft⟩
 by_cases hij : i = j
 ·subst hij
  rw [upAt_new, he, ← upAt_at s i hi]; exact h.cell i hi
 ·rw [upAt_next s j i hi hij]; exact h.cell i hi
theorem UpR.put {s : ByteArray} {B j : Nat} {w : World} (h : UpR s B j w) (hj : j < s.size) (x : Int) (he : ((upB s[j]).toNat : Int) = x) : UpR s B (j + 1) (w.setCell ⟨B, j, none⟩ (.int .u8 x)) := by
 refine ⟨fun i hi => ?_, fun i hi => by rw [World.frozen?_setCell]; exact h.soft i hi⟩
 by_cases hij : i = j
 ·subst hij
  rw [upAt_new, he]; exact World.cell?_setCell_same _ _ _ (h.cell i hi)
 ·rw [upAt_next s j i hi hij]; exact (World.cell?_setCell_other _ _ _ _ (by intro e; injection e with _ e2; exact hij e2.symm)).trans (h.cell i hi)
theorem UpR.start (s : ByteArray) (cap : Nat) (w : World) : UpR s w.heap.size 0 (w.alloc (.cells (bytesRow s cap) 5 ((bytesRow s cap).size, (bytesRow s cap).size + 1))) := by
 have hsz : ∀ i, i < s.size → i < (bytesRow s cap).size := fun i hi => by unfold bytesRow; simp; omega
 refine ⟨fun i hi => ?_, fun i hi => ?_⟩
 ·rw [World.cell?_alloc_mark, bytesRow_at s cap i hi, upAt_zero]; rfl
 ·rw [World.frozen?_alloc_mark, decide_eq_false (by have := hsz i hi; omega)]; rfl
theorem UpR.back {s : ByteArray} {B j cap : Nat} {w : World} (h : UpR s B j w) (hj : s.size ≤ j) : (convert 118 9 (.slice (some ⟨B, 0, none⟩) s.size cap)).run Tryz.prog w = .ok (.string ⟨(upL s.data.toList).toArray⟩) w := by
 have hl : s.size = (upL s.data.toList).length := by rw [upL_len, len_list]
 have := run_convert_bytes_back (P := Tryz.prog) w 118 9 5 ⟨B, 0, none⟩ cap (upL s.data.toList) Tryz.underlying118 Tryz.underlying5 Tryz.underlying9 (fun i hi => by
  have hi2 : i < s.size := by omega
  have hadd : (⟨B, 0, none⟩ : Addr).add i = ⟨B, i, none⟩ := by unfold Addr.add; split <;> simp_all
  rw [hadd, h.cell i hi2, upAt_end s j i hi2 hj]
  simp [upL]
  rfl)
 rw [← hl] at this
 exact this
end Ad
end Go.Proofs.YtmmjfofdnpafkaaGreatDoor
namespace Go.Proofs.YtmmjfofdnpafkaaGreatDoor
namespace Ad
open Go.RowKit Lx
theorem PmIn.drop {B : Nat} {w : World} {b o n c : Nat} {l : List Prm} (hb : b < B) (hn : l.length = n) (hc : n ≤ c) (hcell : ∀ (i : Nat) (u : Value), (pcl l)[i]? = some u → w.cell? ⟨b, o + i, none⟩ = some u) (k : Nat) (hk : k ≤ n) : PmIn B w (.slice (some ⟨b, o + k * 3, none⟩) (n - k) (c - k)) (l.drop k) := by
 refine ⟨n - k, c - k, by rw [List.length_drop]; omega, by omega, .inr ⟨b, o + k * 3, rfl, hb, fun i u hu => ?_⟩⟩
 have e : pcl l = pcl (l.take k) ++ pcl (l.drop k) := by rw [← pcl_app, List.take_append_drop]
 have hl : (pcl (l.take k)).length = k * 3 := by rw [pcl_len, List.length_take, Nat.min_eq_left (by omega)]
 have := hcell (k * 3 + i) u (by rw [e, List.getElem?_append_right (by omega), hl]; rw [show k * 3 + i - k * 3 = i from by omega]; exact hu)
 rwa [← Nat.add_assoc] at this
end Ad
end Go.Proofs.YtmmjfofdnpafkaaGreatDoor
namespace Go.Proofs.YtmmjfofdnpafkaaGreatDoor
namespace Ad
open Lx
theorem ppF_some : ∀ (l acc : List Prm) (x : List UInt8), ppF l acc = some x → acc.length ≤ 16 → Names acc → (acc ++ l).length ≤ 16 ∧ Names (acc ++ l) ∧ x = l.flatMap ppL := by
 intro l
 induction l with
 | nil => intro acc x h h1 h2; rw [ppF] at h; cases h; simp only [List.append_nil]; exact ⟨h1, h2, rfl⟩
 | cons p t ih =>
   intro acc x h h1 h2
   rw [ppF] at h
   split at h
   ·rename_i hc
    simp only [Bool.and_eq_true, decide_eq_true_eq] at hc
    have hr := (room_iff acc p.1).1 hc.2
    cases hx : ppF t (acc ++ [p]) with
    | none => rw [hx] at h; cases h
    | some y =>
      rw [hx] at h
      simp only [Option.map_some, Option.some.injEq] at h
      have := ih (acc ++ [p]) y hx (by rw [List.length_append, List.length_singleton]; have := hr.2; omega) (names_snoc acc p h2 hr.1)
      rw [List.append_assoc, List.singleton_append] at this
      exact ⟨this.1, this.2.1, by rw [← h, this.2.2]; rfl⟩
   ·cases h
theorem ppO_some (l : List Prm) (x : List UInt8) (h : ppO l = some x) : l.length ≤ 16 ∧ Names l ∧ x = l.flatMap ppL := by
 have := ppF_some l [] x h (by simp) (by unfold Names; simp)
 simpa using this
theorem ppO_dup (l : List Prm) (h : ¬ Names l) : ppO l = none := by
 cases hx : ppO l with
 | none => rfl
 | some x => exact absurd (ppO_some l x hx).2.1 h
theorem ppO_sort (l l' : List Prm) (hp : l'.Perm l) (hs : Srtd l') : ppO l' = ppO (srt l) := by
 by_cases hn : Names l
 ·rw [srt_of l' l hp hs hn]
 ·rw [ppO_dup l' (fun h => hn (h.perm hp)), ppO_dup (srt l) (fun h => hn (h.perm (srt_perm l)))]
theorem flat_len (l : List Prm) (h : SzP l) : (l.flatMap ppL).length ≤ l.length * 6291460 := by
 induction l with
 | nil => simp
 | cons p t ih =>
   have h1 := ppL_len p (h p (List.mem_cons_self ..))
   have h2 := ih (fun q hq => h q (List.mem_cons_of_mem _ hq))
   rw [List.flatMap_cons, List.length_append, List.length_cons]; omega
theorem ppO_len (l : List Prm) (h : SzP l) (x : List UInt8) (hx : ppO l = some x) : x.length ≤ 16 * 6291460 := by
 obtain ⟨h1, _, h3⟩ := ppO_some l x hx
 rw [h3]
 exact Nat.le_trans (flat_len l h) (Nat.mul_le_mul_right _ h1)
theorem textU_len (n : Uri) (h : SzN n) (hk : n.scheme = telL → n.heads = []) : (textU n).length ≤ 1073741824 := by
 rw [text_eq n hk]
 have h1 := h.scheme; have h2 := h.user; have h3 := h.host
 have h4 := wrt_len2 59 59 1 n.params h.ps
 have h5 := wrt_len2 63 38 2 n.heads h.hs
 have h6 := plc_len n.user n.host n.port h.port0 h.port1
 have h7 := h.params; have h8 := h.heads
 simp only [List.length_append, List.length_singleton]
 split <;> omega
theorem printO_len (u : Uri) (hz : SzU u) (hh : u.host.length ≤ 1048576) (x : List UInt8) (hx : printO u = some x) : x.length ≤ 1073741824 := by
 unfold printO at hx
 cases hn : normal u with
 | none => rw [hn] at hx; cases hx
 | some n =>
   rw [hn] at hx
   simp only [Option.map_some, Option.some.injEq] at hx
   rw [← hx]
   exact textU_len n (normal_sz u n hz hh hn) (normal_tel u n hn)
def dspL (d : List UInt8) : List UInt8 := if d = [] then [] else [34] ++ escL d ++ [34, 32]
theorem adrO_eq (a : Adr) : adrO a = match printO a.uri, ppO (srt a.params) with
   | some u, some p => if hasCtl a.display then none else some (dspL a.display ++ [60] ++ u ++ [62] ++ p)
   | _, _ => none := rfl
end Ad
end Go.Proofs.YtmmjfofdnpafkaaGreatDoor
namespace Go.Proofs.YtmmjfofdnpafkaaGreatDoor
namespace Ad
open Go.RowKit Lx
structure SzA (a : Adr) : Prop where
 display : a.display.length ≤ 1048576
 uri : SzU a.uri
 host : a.uri.host.length ≤ 1048576
 params : a.params.length ≤ 2097152
 ps : SzP a.params
theorem sz_one (c : UInt8) : (⟨#[c]⟩ : ByteArray).size = 1 := rfl
def PrK (o : Option (List UInt8)) (w : World) (e : Ending) (w' : World) : Prop :=
 e = .returned (.tuple #[.string (Txt (o.getD [])), .int .u8 (if o.isSome then 0 else 2)]) ∧ Kp [] w w'
theorem PrP.toK {o : Option (List UInt8)} {w w' : World} {e : Ending} (h : PrP o w e w') : PrK o w e w' := ⟨h.1, (Kp.refl [] w).below h.2⟩
theorem PrK.none {o : Option (List UInt8)} {w w' : World} (h : o = none) (k : Kp [] w w') : PrK o w (.returned (.tuple #[.string ⟨#[]⟩, .int .u8 2])) w' := by
 unfold PrK; rw [h]; exact ⟨rfl, k⟩
theorem PrK.some {o : Option (List UInt8)} {t : List UInt8} {s : ByteArray} {w w' : World} (h : o = some t) (hs : s = Txt t) (k : Kp [] w w') : PrK o w (.returned (.tuple #[.string s, .int .u8 0])) w' := by
 unfold PrK; rw [h, hs]; exact ⟨rfl, k⟩
set_option maxRecDepth 100000 in
set_option maxHeartbeats 8000000 in
theorem printAddress_any (B : Nat) (v : Value) (a : Adr) (w : World) (hA : AdIn B w v a) (hB : B ≤ w.heap.size) (hz : SzA a) (E : Env w) :
   Calls Tryz.prog 17 #[v] w (PrK (adrO a) w) := by
 obtain ⟨vp, vh, vq, rfl, hp, hh, hq⟩ := hA
 obtain ⟨A1, C1, rfl⟩ := hp.form
 obtain ⟨A2, C2, rfl⟩ := hh.form
 obtain ⟨A3, C3, rfl⟩ := hq.form
 have HZ := Lib.hid hz
 have hd := hz.display
 have k1 := hz.params
 obtain ⟨wA, hwA⟩ : ∃ wz_, w.alloc (.cells #[.string (Txt a.display), .string (Txt a.uri.scheme), .string (Txt a.uri.user), .string (Txt a.uri.host), .int .i64 a.uri.port, .slice A1 a.uri.params.length C1, .slice A2 a.uri.heads.length C2, .slice A3 a.params.length C3] 26) = wz_ := ⟨_, rfl⟩
 have hX := ABox.new (hp.more hB) (hh.more hB) (hq.more hB)
 rw [hwA] at hX
 have hK : Kp [] w wA := by rw [← hwA]; exact (Kp.refl [] w).alloc _
 have KA := Lib.hid hK
 have EA := Lib.hid (E.kp hK (by simp))
 have XA := Lib.hid hX
 obtain ⟨R, hR⟩ : ∃ r, adrO a = r := ⟨_, rfl⟩
 have HR := Lib.hid ((adrO_eq a).symm.trans hR)
 rw [hR]
 obtain ⟨on, hon⟩ : ∃ o, printO a.uri = o := ⟨_, rfl⟩
 have HL := Lib.hid (fun x (h : printO a.uri = some x) => printO_len a.uri hz.uri hz.host x h)
 have Hon := Lib.hid hon
 have HPr := Lib.hid (fun (B : Nat) (v : Value) (w : World) (hU : UriIn B w v a.uri) (hB : B ≤ w.heap.size) (E : Env w) => (Print_any B v a.uri w hU hB hz.uri hz.host E).mono fun _ _ h => h.toK)
 rw [hon] at HPr
 have s64 : (9 : Nat) ≤ 9 := Nat.le_refl _
 clear hX hK hp hh hq hz E hR hon
 obtain ⟨a1, c1, a2, c2, a3, c3, hc, hi, hq⟩ := XA.out.in
 have b0 := hc 0
 have b1 := hc 1
 have b2 := hc 2
 have b3 := hc 3
 have b4 := hc 4
 have b5 := hc 5
 have b6 := hc 6
 have In := Lib.hid hi
 clear hc hi hq
 go_enter Tryz.func17, Tryz.ntmps17
 go_wp2_with fail
 refine (HPr.out _ _ _ In.out (Nat.le_refl _) EA.out).mono ?_
 rintro e w1 ⟨rfl, hK1⟩
 have K1 := Lib.hid (KA.out.trans hK1)
 have E1 := Lib.hid (EA.out.kp hK1 (by simp))
 have X1 := Lib.hid (XA.out.kpn hK1)
 clear hK1 b0 b1 b2 b3 b4 b5 b6 In
 cases on with
 | none =>
   have HN := Lib.hid (by rw [← HR.out, Hon.out] : R = none)
   simp only [Option.getD_none, Option.isSome_none, Bool.false_eq_true, if_false]
   go_wp2_with fail
   go_ret2
   exact PrK.none HN.out K1.out
 | some u =>
   have hul := HL.out u Hon.out
   simp only [Option.getD_some, Option.isSome_some, if_true]
   obtain ⟨a1, c1, a2, c2, a3, c3, hc, hi, hq⟩ := X1.out.in
   have b0 := hc 0
   have b7 := hc 7
   have Pq := Lib.hid hq
   clear hc hi hq
   obtain ⟨cc, hcc⟩ : ∃ x, hasCtl a.display = x := ⟨_, rfl⟩
   have HCt := Lib.hid (fun wz => ctlK a.display cc hcc (by omega) wz)
   have Hcc := Lib.hid hcc
   clear hcc
   cases cc with
   | true =>
     have HN := Lib.hid (by rw [← HR.out, Hon.out]; cases ppO (srt a.params) with | none => rfl | some p => exact if_pos Hcc.out : R = none)
     go_wp2_with fail
     refine (HCt.out _).mono ?_
     rintro e w2 ⟨rfl, hK2⟩
     have K2 := Lib.hid (K1.out.trans hK2)
     clear hK2 b0 b7
     go_wp2_with fail
     go_ret2
     exact PrK.none HN.out K2.out
   | false =>
     go_wp2_with fail
     refine (HCt.out _).mono ?_
     rintro e w2 ⟨rfl, hK2⟩
     have K2 := Lib.hid (K1.out.trans hK2)
     have E2 := Lib.hid (E1.out.kp hK2 (by simp))
     have X2 := Lib.hid (X1.out.kpn hK2)
     clear hK2 b0 b7 Pq
     obtain ⟨a1, c1, a2, c2, a3, c3, hc, hi, hq⟩ := X2.out.in
     have b7 := hc 7
     have Pq := Lib.hid hq
     clear hc hi hq
     go_wp2_with fail
     refine (sorted_any _ _ a.params _ Pq.out (Nat.le_refl _) (by omega)).mono ?_
     rintro e w3 ⟨v3, l3, rfl, hP3, hPe, hSo, hK3⟩
     have K3 := Lib.hid (K2.out.trans hK3)
     have E3 := Lib.hid (E2.out.kp hK3 (by simp))
     have X3 := Lib.hid (X2.out.kpn hK3)
     have P3 := Lib.hid hP3
     obtain ⟨A9, C9, rfl⟩ := hP3.form
     have hl3 : l3.length ≤ 2097152 := by rw [hPe.length_eq]; exact k1
     have HS3 := Lib.hid (show SzP l3 from fun p hp => HZ.out.ps p (hPe.mem_iff.1 hp))
     have HSo := Lib.hid (ppO_sort a.params l3 hPe hSo)
     obtain ⟨po, hpo⟩ : ∃ o, ppO (srt a.params) = o := ⟨_, rfl⟩
     have HPo := Lib.hid (HSo.out.trans hpo)
     have HQo := Lib.hid hpo
     clear hK3 hP3 hPe hSo hpo b7 Pq
     go_wp2_with fail
     refine (printParams_any _ _ l3 _ P3.out (Nat.le_refl _) HS3.out hl3 E3.out).mono ?_
     rintro e w4 ⟨rfl, hB4⟩
     rw [HPo.out]
     have K4 := Lib.hid (K3.out.below hB4)
     have X4 := Lib.hid (X3.out.kpn ((Kp.refl [] w3).below hB4))
     clear hB4
     cases po with
     | none =>
       have HN := Lib.hid (by rw [← HR.out, Hon.out, HQo.out] : R = none)
       simp only [Option.getD_none, Option.isSome_none, Bool.false_eq_true, if_false]
       go_wp2_with fail
       go_ret2
       exact PrK.none HN.out K4.out
     | some p =>
       have hpl := ppO_len l3 HS3.out p HPo.out
       have HY := Lib.hid (by rw [← HR.out, Hon.out, HQo.out]; exact if_neg (by rw [Hcc.out]; decide) : R = some (dspL a.display ++ [60] ++ u ++ [62] ++ p))
       simp only [Option.getD_some, Option.isSome_some, if_true]
       obtain ⟨a1, c1, a2, c2, a3, c3, hc, hi, hq⟩ := X4.out.in
       have b0 := hc 0
       clear hc hi hq
       have su : (Txt u).size ≤ 1073741824 := by rw [txt_size]; exact hul
       have sp : (Txt p).size ≤ 100663360 := by rw [txt_size]; exact hpl
       by_cases hde : a.display = []
       ·have be : ((Txt a.display).toList == ([] : List UInt8)) = true := by rw [hde]; decide +kernel
        have HD := Lib.hid (by unfold dspL; rw [if_pos hde] : dspL a.display = [])
        have s1 : ((⟨#[]⟩ : ByteArray) ++ (⟨#[60]⟩ : ByteArray)).size ≤ 1 := by decide
        have s2 : ((⟨#[]⟩ : ByteArray) ++ (⟨#[60]⟩ : ByteArray) ++ Txt u).size ≤ 1073741825 := by rw [ByteArray.size_append]; omega
        have s3 : ((⟨#[]⟩ : ByteArray) ++ (⟨#[60]⟩ : ByteArray) ++ Txt u ++ (⟨#[62]⟩ : ByteArray)).size ≤ 1073741826 := by rw [ByteArray.size_append]; have := sz_one 62; omega
        have Hcat := Lib.hid ((congrArg (fun z => z ++ Txt u ++ (⟨#[62]⟩ : ByteArray) ++ Txt p) (cat_txt [] [60])).trans ((congrArg (fun z => z ++ (⟨#[62]⟩ : ByteArray) ++ Txt p) (cat_txt _ u)).trans ((congrArg (fun z => z ++ Txt p) (cat_txt _ [62])).trans (cat_txt _ p))) : (⟨#[]⟩ : ByteArray) ++ (⟨#[60]⟩ : ByteArray) ++ Txt u ++ (⟨#[62]⟩ : ByteArray) ++ Txt p = Txt ([] ++ [60] ++ u ++ [62] ++ p))
        have HY2 := Lib.hid (by rw [HY.out, HD.out] : R = some ([] ++ [60] ++ u ++ [62] ++ p))
        clear hde
        go_wp2_with fail
        go_ret2
        exact PrK.some HY2.out Hcat.out K4.out
       ·have be : ((Txt a.display).toList == ([] : List UInt8)) = false := emp_no _ hde
        have hq : quT a.display = [34] ++ escL a.display ++ [34] := by unfold quT; rw [if_neg (by rw [Hcc.out]; decide)]
        have HD := Lib.hid (by unfold dspL; rw [if_neg hde, hq]; simp : dspL a.display = quT a.display ++ [32])
        obtain ⟨Q, hQ⟩ : ∃ x, quT a.display = x := ⟨_, rfl⟩
        have sq : (Txt Q).size ≤ 2097154 := by rw [txt_size, ← hQ, hq]; have := escL_len a.display; simp only [List.length_append, List.length_cons, List.length_nil]; omega
        have HQt := fun wz => Lx.quote_any (Txt a.display) wz (by rw [txt_size]; omega)
        rw [txt_list, hQ] at HQt
        have HQt := Lib.hid HQt
        rw [hQ] at HD
        have s0 : (Txt Q ++ (⟨#[32]⟩ : ByteArray)).size ≤ 2097155 := by rw [ByteArray.size_append]; have := sz_one 32; omega
        have s1 : (Txt Q ++ (⟨#[32]⟩ : ByteArray) ++ (⟨#[60]⟩ : ByteArray)).size ≤ 2097156 := by rw [ByteArray.size_append]; have := sz_one 60; omega
        have s2 : (Txt Q ++ (⟨#[32]⟩ : ByteArray) ++ (⟨#[60]⟩ : ByteArray) ++ Txt u).size ≤ 1075838980 := by rw [ByteArray.size_append]; omega
        have s3 : (Txt Q ++ (⟨#[32]⟩ : ByteArray) ++ (⟨#[60]⟩ : ByteArray) ++ Txt u ++ (⟨#[62]⟩ : ByteArray)).size ≤ 1075838981 := by rw [ByteArray.size_append]; have := sz_one 62; omega
        have Hcat := Lib.hid ((congrArg (fun z => z ++ (⟨#[60]⟩ : ByteArray) ++ Txt u ++ (⟨#[62]⟩ : ByteArray) ++ Txt p) (cat_txt Q [32])).trans ((congrArg (fun z => z ++ Txt u ++ (⟨#[62]⟩ : ByteArray) ++ Txt p) (cat_txt _ [60])).trans ((congrArg (fun z => z ++ (⟨#[62]⟩ : ByteArray) ++ Txt p) (cat_txt _ u)).trans ((congrArg (fun z => z ++ Txt p) (cat_txt _ [62])).trans (cat_txt _ p)))) : Txt Q ++ (⟨#[32]⟩ : ByteArray) ++ (⟨#[60]⟩ : ByteArray) ++ Txt u ++ (⟨#[62]⟩ : ByteArray) ++ Txt p = Txt (Q ++ [32] ++ [60] ++ u ++ [62] ++ p))
        have HY2 := Lib.hid (by rw [HY.out, HD.out] : R = some (Q ++ [32] ++ [60] ++ u ++ [62] ++ p))
        clear hde hq hQ
        go_wp2_with fail
        refine (HQt.out _).mono ?_
        rintro e w5 ⟨rfl, hB5⟩
        have K5 := Lib.hid (K4.out.below hB5)
        clear hB5 b0
        rw [show (⟨Q.toArray⟩ : ByteArray) = Txt Q from rfl]
        go_wp2_with fail
        go_ret2
        exact PrK.some HY2.out Hcat.out K5.out
end Ad
end Go.Proofs.YtmmjfofdnpafkaaGreatDoor
namespace Go.Proofs.YtmmjfofdnpafkaaGreatDoor
namespace Ad
open Go.RowKit Lx
def Rdr (b : Nat) (s : ByteArray) (i p : Nat) (e : Int) (w : World) : Prop := Blk w b 260 #[.string s, .int .i64 i, .int .i64 p, .int .u8 e]
section
variable {b i p : Nat} {s : ByteArray} {e : Int} {w w' : World} {X : List Nat}
theorem Rdr.lt (h : Rdr b s i p e w) : b < w.heap.size := Blk.lt h
theorem Rdr.c0 (h : Rdr b s i p e w) : w.cell? ⟨b, 0, none⟩ = some (.string s) := Blk.cell h 0
theorem Rdr.c1 (h : Rdr b s i p e w) : w.cell? ⟨b, 1, none⟩ = some (.int .i64 i) := Blk.cell h 1
theorem Rdr.c2 (h : Rdr b s i p e w) : w.cell? ⟨b, 2, none⟩ = some (.int .i64 p) := Blk.cell h 2
theorem Rdr.c3 (h : Rdr b s i p e w) : w.cell? ⟨b, 3, none⟩ = some (.int .u8 e) := Blk.cell h 3
theorem Rdr.fr (h : Rdr b s i p e w) (k : Nat) : w.frozen? ⟨b, k, none⟩ = false := Blk.frozen h k
theorem Rdr.kp (h : Rdr b s i p e w) (k : Kp X w w') (hb : b ∉ X) : Rdr b s i p e w' := Blk.kp h k hb
end
def IsP (x : Bool) (w : World) (e : Ending) (w' : World) : Prop := e = .returned (.bool x) ∧ ∃ n, w' = w.drewN n
theorem IsP.k {x : Bool} {w w' : World} {e : Ending} (h : IsP x w e w') : BoK x w e w' := ⟨h.1, by obtain ⟨n, hn⟩ := h.2; rw [hn]; exact (Kp.refl [] w).drewN n⟩
end Ad
end Go.Proofs.YtmmjfofdnpafkaaGreatDoor
namespace Go.Proofs.YtmmjfofdnpafkaaGreatDoor
namespace Ad
open Go.RowKit Lx
def RdT (b : Nat) (s : ByteArray) (r : List UInt8 × Nat × Int) (w : World) (e : Ending) (w' : World) : Prop :=
 ∃ t i', e = .returned (.string t) ∧ i' ≤ s.size ∧ Rdr b s i' (if r.2.2 = 0 then 0 else r.2.1) r.2.2 w' ∧ Kp [b] w w' ∧ (r.2.2 = 0 → t = Txt r.1 ∧ i' = r.2.1)
end Ad
end Go.Proofs.YtmmjfofdnpafkaaGreatDoor
namespace Go.Proofs.YtmmjfofdnpafkaaGreatDoor
namespace Ad
open Go.RowKit Lx
theorem results_four {fn : Func} {t u v x : Tmp} (h : fn.results = #[.tmp t, .tmp u, .tmp v, .tmp x]) (tmps : Array Value) (P : Program) (w : World) :
   (results fn tmps).run P w = .ok (.tuple #[tmps.getD t undef, tmps.getD u undef, tmps.getD v undef, tmps.getD x undef]) w := by
 simp [results, h]
end Ad
end Go.Proofs.YtmmjfofdnpafkaaGreatDoor
namespace Go.Proofs.YtmmjfofdnpafkaaGreatDoor
namespace Ad
open Go.RowKit Lx
def RdA (b : Nat) (s : ByteArray) (r : List UInt8 × Nat × Int) (p : Nat) (x : Int) (w : World) (en : Ending) (w' : World) : Prop :=
 ∃ t i' P X, en = .returned (.string t) ∧ i' ≤ s.size ∧ Rdr b s i' P X w' ∧ Kp [b] w w' ∧ (X = 0 → P = 0) ∧ (x ≠ 0 → P = p ∧ X = x) ∧ (x = 0 → (r.2.2 ≠ 0 → P = r.2.1 ∧ X = r.2.2) ∧ (r.2.2 = 0 → X = 0 ∧ t = Txt r.1 ∧ i' = r.2.1))
theorem RdT.all {b : Nat} {s : ByteArray} {r : List UInt8 × Nat × Int} {w w' : World} {en : Ending} (h : RdT b s r w en w') : RdA b s r 0 0 w en w' := by
 obtain ⟨t, i', he, hi, hR, hK, h0⟩ := h
 refine ⟨t, i', _, _, he, hi, hR, hK, fun h => by rw [if_pos h], fun h => absurd rfl h, fun _ => ⟨fun h => ⟨by rw [if_neg h], rfl⟩, fun h => ⟨h, h0 h⟩⟩⟩
theorem Urb.far {bu : Nat} {S U H P vp vh : Value} {w : World} (h : Urb w bu S U H P vp vh) {p : Addr} (hp : bu ≠ p.block) (u : Value) : Urb (w.setCell p u) bu S U H P vp vh := Blk.far h hp u
theorem Rdr.far {b i q : Nat} {s : ByteArray} {e : Int} {w : World} (h : Rdr b s i q e w) {p : Addr} (hp : b ≠ p.block) (u : Value) : Rdr b s i q e (w.setCell p u) := Blk.far h hp u
end Ad
end Go.Proofs.YtmmjfofdnpafkaaGreatDoor
namespace Go.Proofs.YtmmjfofdnpafkaaGreatDoor
namespace Ad
open Go.RowKit Lx
theorem tokE_len (l : List UInt8) (k : Nat) (hk : k ≤ l.length) : tokE l k ≤ l.length := by
 have := runL_le tokI (l.drop k)
 rw [List.length_drop] at this
 unfold tokE; omega
theorem blkE_len (l : List UInt8) (k : Nat) (hk : k ≤ l.length) : blkE l k ≤ l.length := by
 have := runL_le blankI (l.drop k)
 rw [List.length_drop] at this
 unfold blkE; omega
end Ad
end Go.Proofs.YtmmjfofdnpafkaaGreatDoor
namespace Go.Proofs.YtmmjfofdnpafkaaGreatDoor
namespace Ad
open Go.RowKit Lx
theorem parF_len (l : List UInt8) : ∀ (n k : Nat) (acc : List Prm), acc.length ≤ 16 → (parF n l k acc).1.length ≤ 16 := by
 intro n
 induction n with
 | zero => intro k acc h; exact h
 | succ n ih =>
   intro k acc h
   rcases Nat.lt_or_ge k l.length with hk | hk
   ·by_cases h59 : atB l k = 59
    ·by_cases h3 : (pmR l (blkE l (k + 1))).2.2 = 0
     ·by_cases h4 : room acc (pmR l (blkE l (k + 1))).1.1 = 0
      ·rw [parF_step n l k acc hk h59 h3 h4]
       refine ih _ _ ?_
       rw [List.length_append, List.length_singleton]
       have : acc.length ≠ 16 := by
        intro h16
        unfold room at h4
        by_cases hany : (acc.any fun q => q.1 == (pmR l (blkE l (k + 1))).1.1) = true
        ·rw [if_pos hany] at h4; exact absurd h4 (by decide)
        ·rw [if_neg hany, if_pos h16] at h4; exact absurd h4 (by decide)
       omega
      ·rw [parF_err3 n l k acc hk h59 h3 h4]; exact Nat.zero_le _
     ·rw [parF_err2 n l k acc hk h59 h3]; exact Nat.zero_le _
    ·rw [parF_err1 n l k acc hk h59]; exact Nat.zero_le _
   ·rw [parF_end n l k acc hk]; exact h
end Ad
end Go.Proofs.YtmmjfofdnpafkaaGreatDoor
namespace Go.Proofs.YtmmjfofdnpafkaaGreatDoor
namespace Ad
open Go.RowKit Lx
theorem decL_lt (n : Nat) (h : n < 10) : decL n = [(48 + n).toUInt8] := by rw [decL, if_pos h]
theorem decL_ge (n : Nat) (h : ¬ n < 10) : decL n = decL (n / 10) ++ [(48 + n % 10).toUInt8] := by rw [decL, if_neg h]
theorem decL_len (n : Nat) : n ≤ 65535 → (decL n).length ≤ 20 := by
 have key : ∀ k n : Nat, n < 10 ^ k → (decL n).length ≤ k + 1 := by
  intro k
  induction k with
  | zero => intro n h; rw [decL_lt n (by omega)]; simp
  | succ k ih =>
    intro n h
    by_cases h10 : n < 10
    ·rw [decL_lt n h10]; simp
    ·rw [decL_ge n h10, List.length_append]
     have := ih (n / 10) (by rw [Nat.pow_succ] at h; omega)
     simp; omega
 intro h
 have := key 5 n (by omega)
 omega
end Ad
end Go.Proofs.YtmmjfofdnpafkaaGreatDoor
