/- Texts of one set of library modules: AdRg, HeA, AdRi, AdRj, AdRl, AdRm, HeB, HeC, AdRo, AdWb, AdRp, AdTu, AdSo, AdPw, AdPx, AdVa, AdWc, AdVt, AdWd, AdWf, AdVh. -/
import Derived.Test.YtbcaindpbeaheaaGreatDoorZ19
import Derived.Test.YtbcaindpbeaheaaGreatDoorZ7
import Derived.Test.YtbcaindpbeaheaaGreatDoorZ5
import Derived.Lib.BufferRead
import Derived.Laws.IdiomStrings
import Derived.Maps.AppendAt
import Derived.StillTailTactics
import Derived.Sort.CutIn
import Derived.Deep.RegionHeldLaw
import Derived.Deep.AppendLies
import Derived.Test.YtbcaindpbeaheaaGreatDoorZ2
import Derived.Test.YtbcaindpbeaheaaGreatDoorZ17
import Derived.Deep.LoopGhost
import Derived.Test.YtbcaindpbeaheaaGreatDoorZ8
import Derived.Laws.Rows
import Derived.Test.YtbcaindpbeaheaaGreatDoorZ14
import Derived.Laws.ResultCell
namespace Go.Proofs.YtbcaindpbeaheaaGreatDoor
namespace Ad
open Go.RowKit Lx
def lwAt (s : ByteArray) (j i : Nat) (h : i < s.size) : Int := if i < j then (lowB s[i]).toNat else s[i].toNat
theorem lwAt_zero (s : ByteArray) (i : Nat) (h : i < s.size) : lwAt s 0 i h = s[i].toNat := by unfold lwAt; rw [if_neg (by omega)]
theorem lwAt_at (s : ByteArray) (i : Nat) (h : i < s.size) : lwAt s i i h = s[i].toNat := by unfold lwAt; rw [if_neg (by omega)]
theorem lwAt_next (s : ByteArray) (j i : Nat) (h : i < s.size) (hn : i ≠ j) : lwAt s (j + 1) i h = lwAt s j i h := by
 unfold lwAt
 by_cases hl : i < j
 ·rw [if_pos hl, if_pos (by omega)]
 ·rw [if_neg hl, if_neg (by omega)]
theorem lwAt_new (s : ByteArray) (j : Nat) (h : j < s.size) : lwAt s (j + 1) j h = (lowB s[j]).toNat := by unfold lwAt; rw [if_pos (by omega)]
theorem lwAt_end (s : ByteArray) (j i : Nat) (h : i < s.size) (hj : s.size ≤ j) : lwAt s j i h = (lowB s[i]).toNat := by unfold lwAt; rw [if_pos (by omega)]
structure LwR (s : ByteArray) (B j : Nat) (w : World) : Prop where
 cell : ∀ i (h : i < s.size), w.cell? ⟨B, i, none⟩ = some (.int .u8 (lwAt s j i h))
 soft : ∀ i, i < s.size → w.frozen? ⟨B, i, none⟩ = false
theorem LwR.skip {s : ByteArray} {B j : Nat} {w : World} (h : LwR s B j w) (hj : j < s.size) (he : (lowB s[j]).toNat = s[j].toNat) : LwR s B (j + 1) w := by
 refine ⟨fun i hi => ?_, h.soft⟩
 by_cases hij : i = j
 ·subst hij
  rw [lwAt_new, he, ← lwAt_at s i hi]; exact h.cell i hi
 ·rw [lwAt_next s j i hi hij]; exact h.cell i hi
theorem LwR.put {s : ByteArray} {B j : Nat} {w : World} (h : LwR s B j w) (hj : j < s.size) (x : Int) (he : ((lowB s[j]).toNat : Int) = x) : LwR s B (j + 1) (w.setCell ⟨B, j, none⟩ (.int .u8 x)) := by
 refine ⟨fun i hi => ?_, fun i hi => by rw [World.frozen?_setCell]; exact h.soft i hi⟩
 by_cases hij : i = j
 ·subst hij
  rw [lwAt_new, he]; exact World.cell?_setCell_same _ _ _ (h.cell i hi)
 ·rw [lwAt_next s j i hi hij]; exact (World.cell?_setCell_other _ _ _ _ (by intro e; injection e with _ e2; exact hij e2.symm)).trans (h.cell i hi)
theorem LwR.start (s : ByteArray) (cap : Nat) (w : World) : LwR s w.heap.size 0 (w.alloc (.cells (bytesRow s cap) 5 ((bytesRow s cap).size, (bytesRow s cap).size + 1))) := by
 have hsz : ∀ i, i < s.size → i < (bytesRow s cap).size := fun i hi => by unfold bytesRow; simp; omega
 refine ⟨fun i hi => ?_, fun i hi => ?_⟩
 ·rw [World.cell?_alloc_mark, bytesRow_at s cap i hi, lwAt_zero]; rfl
 ·rw [World.frozen?_alloc_mark, decide_eq_false (by have := hsz i hi; omega)]; rfl
theorem LwR.back {s : ByteArray} {B j cap : Nat} {w : World} (h : LwR s B j w) (hj : s.size ≤ j) : (convert 72 9 (.slice (some ⟨B, 0, none⟩) s.size cap)).run Tryz.prog w = .ok (.string ⟨(lowL s.data.toList).toArray⟩) w := by
 have hl : s.size = (lowL s.data.toList).length := by rw [lowL_len, len_list]
 have := run_convert_bytes_back (P := Tryz.prog) w 72 9 5 ⟨B, 0, none⟩ cap (lowL s.data.toList) Tryz.underlying72 Tryz.underlying5 Tryz.underlying9 (fun i hi => by
  have hi2 : i < s.size := by omega
  have hadd : (⟨B, 0, none⟩ : Addr).add i = ⟨B, i, none⟩ := by unfold Addr.add; split <;> simp_all
  rw [hadd, h.cell i hi2, lwAt_end s j i hi2 hj]
  simp [lowL]
  rfl)
 rw [← hl] at this
 exact this
def GpP (l : List UInt8) (w : World) (e : Ending) (w' : World) : Prop := e = .returned (.tuple #[.string ⟨(if grpB l then grpN l else []).toArray⟩, .bool (grpB l)]) ∧ Below w.heap.size w w'
theorem GpP.no {l : List UInt8} {w w' : World} (h : grpB l = false) (hB : Below w.heap.size w w') : GpP l w (.returned (.tuple #[.string ⟨#[]⟩, .bool false])) w' := by
 unfold GpP; rw [h]; exact ⟨rfl, hB⟩
end Ad
end Go.Proofs.YtbcaindpbeaheaaGreatDoor
namespace Go.Proofs.YtbcaindpbeaheaaGreatDoor
namespace Ad
open Go.RowKit Lx
def uprB (c : UInt8) : UInt8 := if 97 ≤ c.toNat ∧ c.toNat ≤ 122 then c - 32 else c
def uprL (l : List UInt8) : List UInt8 := l.map uprB
def capF : Bool → List UInt8 → List UInt8
 | _, [] => []
 | b, c :: t => (if b then uprB c else c) :: capF ((((if b then uprB c else c).toNat : Int)) == 45) t
theorem capF_len : ∀ (l : List UInt8) (b : Bool), (capF b l).length = l.length := by
 intro l
 induction l with
 | nil => intro b; rfl
 | cons c t ih => intro b; simp [capF, ih]
theorem uprB_nat (c : UInt8) : (uprB c).toNat = if 97 ≤ c.toNat ∧ c.toNat ≤ 122 then c.toNat - 32 else c.toNat := by
 unfold uprB
 have := c.toNat_lt
 split
 ·rw [UInt8.toNat_sub]; simp; omega
 ·rfl
set_option maxRecDepth 100000 in
set_option maxHeartbeats 1000000 in
theorem hlower_any (c : UInt8) (w : World) : Calls Tryz.prog 15 #[.int .u8 (c.toNat : Int)] w (Ret (.int .u8 ((lowB c).toNat : Int)) w) := by
 have hn := lowB_nat c;have hlt := c.toNat_lt
 obtain ⟨n, hc⟩ : ∃ n, c.toNat = n := ⟨_, rfl⟩
 rw [hc] at hn hlt ⊢
 obtain ⟨m, hm⟩ : ∃ m, (lowB c).toNat = m := ⟨_, rfl⟩
 rw [hm] at hn ⊢
 clear hc hm
 by_cases hu : 65 ≤ n ∧ n ≤ 90
 ·rw [if_pos hu] at hn
  obtain ⟨u1, u2⟩ := hu
  have i1 : IntKind.u8.wrap ((n : Int) - 65) = (n : Int) - 65 := IntWalk.u8_in _ (by omega)
  have i2 : IntKind.u8.wrap ((n : Int) - 65 + 97) = (n : Int) - 65 + 97 := IntWalk.u8_in _ (by omega)
  have Hn := Lib.hid (by omega : (n : Int) - 65 + 97 = (m : Int))
  clear hn
  go_enter Tryz.func15, Tryz.ntmps15
  go_wp2_with fail
  go_ret
  exact ⟨ret_int Hn.out, rfl⟩
 ·rw [if_neg hu] at hn
  have Hn := Lib.hid (by omega : (n : Int) = (m : Int))
  by_cases u1 : 65 ≤ n
  ·have u2 : ¬ n ≤ 90 := fun h => hu ⟨u1, h⟩
   clear hn hu
   go_enter Tryz.func15, Tryz.ntmps15
   go_wp2_with fail
   go_ret
   exact ⟨ret_int Hn.out, rfl⟩
  ·clear hn hu
   go_enter Tryz.func15, Tryz.ntmps15
   go_wp2_with fail
   go_ret
   exact ⟨ret_int Hn.out, rfl⟩
set_option maxRecDepth 100000 in
set_option maxHeartbeats 1000000 in
theorem hupper_any (c : UInt8) (w : World) : Calls Tryz.prog 42 #[.int .u8 (c.toNat : Int)] w (Ret (.int .u8 ((uprB c).toNat : Int)) w) := by
 have hn := uprB_nat c;have hlt := c.toNat_lt
 obtain ⟨n, hc⟩ : ∃ n, c.toNat = n := ⟨_, rfl⟩
 rw [hc] at hn hlt ⊢
 obtain ⟨m, hm⟩ : ∃ m, (uprB c).toNat = m := ⟨_, rfl⟩
 rw [hm] at hn ⊢
 clear hc hm
 by_cases hu : 97 ≤ n ∧ n ≤ 122
 ·rw [if_pos hu] at hn
  obtain ⟨u1, u2⟩ := hu
  have i1 : IntKind.u8.wrap ((n : Int) - 97) = (n : Int) - 97 := IntWalk.u8_in _ (by omega)
  have i2 : IntKind.u8.wrap ((n : Int) - 97 + 65) = (n : Int) - 97 + 65 := IntWalk.u8_in _ (by omega)
  have Hn := Lib.hid (by omega : (n : Int) - 97 + 65 = (m : Int))
  clear hn
  go_enter Tryz.func42, Tryz.ntmps42
  go_wp2_with fail
  go_ret
  exact ⟨ret_int Hn.out, rfl⟩
 ·rw [if_neg hu] at hn
  have Hn := Lib.hid (by omega : (n : Int) = (m : Int))
  by_cases u1 : 97 ≤ n
  ·have u2 : ¬ n ≤ 122 := fun h => hu ⟨u1, h⟩
   clear hn hu
   go_enter Tryz.func42, Tryz.ntmps42
   go_wp2_with fail
   go_ret
   exact ⟨ret_int Hn.out, rfl⟩
  ·clear hn hu
   go_enter Tryz.func42, Tryz.ntmps42
   go_wp2_with fail
   go_ret
   exact ⟨ret_int Hn.out, rfl⟩
set_option maxRecDepth 100000 in
set_option maxHeartbeats 1000000 in
theorem hcap1_any (c : UInt8) (g : Nat) (b : Bool) (w : World) (hc : w.cell? ⟨g, 0, none⟩ = some (.bool b)) (hf : w.frozen? ⟨g, 0, none⟩ = false) :
   Calls Tryz.prog 41 #[.int .u8 (c.toNat : Int), .pointer (some ⟨g, 0, none⟩)] w (fun e w' => e = .returned (.int .u8 ((if b then uprB c else c).toNat : Int)) ∧ w' = w.setCell ⟨g, 0, none⟩ (.bool ((((if b then uprB c else c).toNat : Int)) == 45))) := by
 cases b
 ·rw [if_neg (by decide)]
  go_enter Tryz.func41, Tryz.ntmps41
  go_wp2_with fail
  go_ret
  exact ⟨rfl, rfl⟩
 ·rw [if_pos rfl]
  go_enter Tryz.func41, Tryz.ntmps41
  go_wp2_with fail
  refine (hupper_any c _).mono ?_
  rintro e w2 ⟨rfl, hw⟩
  obtain rfl := hw
  go_wp2_with fail
  go_ret
  exact ⟨rfl, rfl⟩
def mpAt (s : ByteArray) (T : List UInt8) (j i : Nat) (h : i < s.size) : Int := if i < j then (T.getD i 0).toNat else s[i].toNat
theorem mpAt_at (s : ByteArray) (T : List UInt8) (i : Nat) (h : i < s.size) : mpAt s T i i h = s[i].toNat := by unfold mpAt; rw [if_neg (by omega)]
theorem mpAt_next (s : ByteArray) (T : List UInt8) (j i : Nat) (h : i < s.size) (hn : i ≠ j) : mpAt s T (j + 1) i h = mpAt s T j i h := by
 unfold mpAt
 by_cases hl : i < j
 ·rw [if_pos hl, if_pos (by omega)]
 ·rw [if_neg hl, if_neg (by omega)]
theorem mpAt_new (s : ByteArray) (T : List UInt8) (j : Nat) (h : j < s.size) : mpAt s T (j + 1) j h = (T.getD j 0).toNat := by unfold mpAt; rw [if_pos (by omega)]
structure MpR (s : ByteArray) (T : List UInt8) (B j : Nat) (w : World) : Prop where
 cell : ∀ i (h : i < s.size), w.cell? ⟨B, i, none⟩ = some (.int .u8 (mpAt s T j i h))
 soft : ∀ i, i < s.size → w.frozen? ⟨B, i, none⟩ = false
theorem MpR.put {s : ByteArray} {T : List UInt8} {B j : Nat} {w : World} (h : MpR s T B j w) (hj : j < s.size) (x : Int) (he : ((T.getD j 0).toNat : Int) = x) : MpR s T B (j + 1) (w.setCell ⟨B, j, none⟩ (.int .u8 x)) := by
 refine ⟨fun i hi => ?_, fun i hi => by rw [World.frozen?_setCell]; exact h.soft i hi⟩
 by_cases hij : i = j
 ·subst hij
  rw [mpAt_new, he]; exact World.cell?_setCell_same _ _ _ (h.cell i hi)
 ·rw [mpAt_next s T j i hi hij]; exact (World.cell?_setCell_other _ _ _ _ (by intro e; injection e with _ e2; exact hij e2.symm)).trans (h.cell i hi)
theorem MpR.far {s : ByteArray} {T : List UInt8} {B j : Nat} {w : World} (h : MpR s T B j w) {p : Addr} (hp : p.block ≠ B) (u : Value) : MpR s T B j (w.setCell p u) :=
 ⟨fun i hi => (World.cell?_setCell_other _ _ _ _ (by intro e; rw [e] at hp; exact hp rfl)).trans (h.cell i hi), fun i hi => by rw [World.frozen?_setCell]; exact h.soft i hi⟩
theorem MpR.start (s : ByteArray) (T : List UInt8) (cap : Nat) (w : World) : MpR s T w.heap.size 0 (w.alloc (.cells (bytesRow s cap) 5 ((bytesRow s cap).size, (bytesRow s cap).size + 1))) := by
 have hsz : ∀ i, i < s.size → i < (bytesRow s cap).size := fun i hi => by unfold bytesRow; simp; omega
 refine ⟨fun i hi => ?_, fun i hi => ?_⟩
 ·rw [World.cell?_alloc_mark, bytesRow_at s cap i hi]; unfold mpAt; rw [if_neg (by omega)]; rfl
 ·rw [World.frozen?_alloc_mark, decide_eq_false (by have := hsz i hi; omega)]; rfl
theorem MpR.back {s : ByteArray} {T : List UInt8} {B j cap : Nat} {w : World} (h : MpR s T B j w) (hj : s.size ≤ j) (hT : T.length = s.size) : (convert 72 9 (.slice (some ⟨B, 0, none⟩) s.size cap)).run Tryz.prog w = .ok (.string ⟨T.toArray⟩) w := by
 have := run_convert_bytes_back (P := Tryz.prog) w 72 9 5 ⟨B, 0, none⟩ cap T Tryz.underlying72 Tryz.underlying5 Tryz.underlying9 (fun i hi => by
  have hi2 : i < s.size := by omega
  have hadd : (⟨B, 0, none⟩ : Addr).add i = ⟨B, i, none⟩ := by unfold Addr.add; split <;> simp_all
  rw [hadd, h.cell i hi2]
  unfold mpAt
  rw [if_pos (by omega), List.getD_eq_getElem?_getD, List.getElem?_eq_getElem hi]
  rfl)
 rw [hT] at this
 exact this
theorem map_getD (f : UInt8 → UInt8) (s : ByteArray) (j : Nat) (h : j < s.size) : (s.data.toList.map f).getD j 0 = f s[j] := by
 rw [List.getD_eq_getElem?_getD, List.getElem?_map, List.getElem?_eq_getElem (by rw [len_list]; exact h)]
 rfl
set_option maxRecDepth 100000 in
set_option maxHeartbeats 4000000 in
theorem each_low (s : ByteArray) (w : World) (hs : s.size ≤ 1099511627776) :
   Calls Tryz.prog 14 #[.string s, .func (.func 15) #[] #[]] w (RetNew (lowL s.data.toList) w) := by
 have hconv := run_bytes_of_string (P := Tryz.prog) w 9 72 5 s Tryz.underlying9 Tryz.underlying72 Tryz.underlying5
 obtain ⟨cap, hcap⟩ : ∃ cap, grownCap w s.size 0 5 = cap := ⟨_, rfl⟩
 obtain ⟨T, hT⟩ : ∃ T, lowL s.data.toList = T := ⟨_, rfl⟩
 have hTl : T.length = s.size := by rw [← hT]; unfold lowL; rw [List.length_map, len_list]
 have HTg := Lib.hid (fun (j : Nat) (h : j < s.size) => (by rw [← hT]; exact map_getD lowB s j h : T.getD j 0 = lowB s[j]))
 have HTl := Lib.hid hTl;have HS := Lib.hid (MpR.start s T cap w)
 rw [hT]
 rw [hcap] at hconv
 obtain ⟨C, hC⟩ : ∃ C, bytesRow s cap = C := ⟨_, rfl⟩
 rw [hC] at hconv
 have HS := Lib.hid (by have := HS.out; rw [hC] at this; exact this : MpR s T w.heap.size 0 (w.alloc (.cells C 5 (C.size, C.size + 1))))
 clear hcap hC hT hTl
 go_enter Tryz.func14, Tryz.ntmps14
 go_wp2_with fail
 go_loopw [12] (fun i wr => ∃ j : Nat, j ≤ s.size ∧ i = .int .i64 j ∧ MpR s T w.heap.size j wr ∧ Below w.heap.size w wr) (fun i _ => s.size - (intOf i).toNat)
 case atStart => exact ⟨0, by omega, rfl, ⟨HS.out.cell, HS.out.soft⟩, ((Below.refl _ w).alloc (Nat.le_refl _) _).drew⟩
 case round =>
  obtain ⟨j, hj, rfl, hL, hB⟩ := hrel
  have HL := Lib.hid hL;clear hL;have hsz := hB.size
  by_cases hlt : j < s.size
  ·have hcj := HL.out.cell j hlt
   rw [mpAt_at] at hcj
   have hfj := HL.out.soft j hlt
   have Hn := Lib.hid (congrArg (fun z : UInt8 => (z.toNat : Int)) (HTg.out j hlt))
   have HCa := Lib.hid (fun wz => hlower_any s[j] wz)
   go_wp2_with fail
   refine (HCa.out _).mono ?_
   rintro e w2 ⟨rfl, hw⟩
   obtain rfl := hw
   go_wp2_with fail
   go_roundw
   case rel => exact ⟨j + 1, by omega, by go_num, HL.out.put hlt _ Hn.out, hB.setCell (by simp) _⟩
   case measure => simp [intOf]; omega
  ·have hbk := HL.out.back (cap := cap) (by omega) HTl.out
   go_wp2_with fail
   go_ret
   exact ⟨rfl, hB⟩
set_option maxRecDepth 100000 in
set_option maxHeartbeats 4000000 in
theorem each_up (s : ByteArray) (w : World) (hs : s.size ≤ 1099511627776) :
   Calls Tryz.prog 14 #[.string s, .func (.func 42) #[] #[]] w (RetNew (uprL s.data.toList) w) := by
 have hconv := run_bytes_of_string (P := Tryz.prog) w 9 72 5 s Tryz.underlying9 Tryz.underlying72 Tryz.underlying5
 obtain ⟨cap, hcap⟩ : ∃ cap, grownCap w s.size 0 5 = cap := ⟨_, rfl⟩
 obtain ⟨T, hT⟩ : ∃ T, uprL s.data.toList = T := ⟨_, rfl⟩
 have hTl : T.length = s.size := by rw [← hT]; unfold uprL; rw [List.length_map, len_list]
 have HTg := Lib.hid (fun (j : Nat) (h : j < s.size) => (by rw [← hT]; exact map_getD uprB s j h : T.getD j 0 = uprB s[j]))
 have HTl := Lib.hid hTl;have HS := Lib.hid (MpR.start s T cap w)
 rw [hT]
 rw [hcap] at hconv
 obtain ⟨C, hC⟩ : ∃ C, bytesRow s cap = C := ⟨_, rfl⟩
 rw [hC] at hconv
 have HS := Lib.hid (by have := HS.out; rw [hC] at this; exact this : MpR s T w.heap.size 0 (w.alloc (.cells C 5 (C.size, C.size + 1))))
 clear hcap hC hT hTl
 go_enter Tryz.func14, Tryz.ntmps14
 go_wp2_with fail
 go_loopw [12] (fun i wr => ∃ j : Nat, j ≤ s.size ∧ i = .int .i64 j ∧ MpR s T w.heap.size j wr ∧ Below w.heap.size w wr) (fun i _ => s.size - (intOf i).toNat)
 case atStart => exact ⟨0, by omega, rfl, ⟨HS.out.cell, HS.out.soft⟩, ((Below.refl _ w).alloc (Nat.le_refl _) _).drew⟩
 case round =>
  obtain ⟨j, hj, rfl, hL, hB⟩ := hrel
  have HL := Lib.hid hL;clear hL;have hsz := hB.size
  by_cases hlt : j < s.size
  ·have hcj := HL.out.cell j hlt
   rw [mpAt_at] at hcj
   have hfj := HL.out.soft j hlt
   have Hn := Lib.hid (congrArg (fun z : UInt8 => (z.toNat : Int)) (HTg.out j hlt))
   have HCa := Lib.hid (fun wz => hupper_any s[j] wz)
   go_wp2_with fail
   refine (HCa.out _).mono ?_
   rintro e w2 ⟨rfl, hw⟩
   obtain rfl := hw
   go_wp2_with fail
   go_roundw
   case rel => exact ⟨j + 1, by omega, by go_num, HL.out.put hlt _ Hn.out, hB.setCell (by simp) _⟩
   case measure => simp [intOf]; omega
  ·have hbk := HL.out.back (cap := cap) (by omega) HTl.out
   go_wp2_with fail
   go_ret
   exact ⟨rfl, hB⟩
theorem capF_step (b : Bool) (s : ByteArray) (T : List UInt8) (j : Nat) (h : j < s.size) (hT : T.drop j = capF b (s.data.toList.drop j)) :
   T.getD j 0 = (if b then uprB s[j] else s[j]) ∧ T.drop (j + 1) = capF ((((if b then uprB s[j] else s[j]).toNat : Int)) == 45) (s.data.toList.drop (j + 1)) := by
 rw [drop_step s j h, capF] at hT
 have h1 : T[j]? = some (if b then uprB s[j] else s[j]) := by
  have := congrArg (·[0]?) hT
  simpa using this
 refine ⟨by rw [List.getD_eq_getElem?_getD, h1]; rfl, ?_⟩
 have := congrArg (·.drop 1) hT
 simpa [List.drop_drop] using this
set_option maxRecDepth 100000 in
set_option maxHeartbeats 4000000 in
theorem each_cap (s : ByteArray) (b0 : Bool) (g : Nat) (w : World) (hs : s.size ≤ 1099511627776) (hg : g < w.heap.size) (hc : w.cell? ⟨g, 0, none⟩ = some (.bool b0)) (hf : w.frozen? ⟨g, 0, none⟩ = false) :
   Calls Tryz.prog 14 #[.string s, .func (.func 41) #[] #[.pointer (some ⟨g, 0, none⟩)]] w (fun e w' => e = .returned (.string (Txt (capF b0 s.data.toList))) ∧ Kp [g] w w') := by
 have hconv := run_bytes_of_string (P := Tryz.prog) w 9 72 5 s Tryz.underlying9 Tryz.underlying72 Tryz.underlying5
 obtain ⟨cap, hcap⟩ : ∃ cap, grownCap w s.size 0 5 = cap := ⟨_, rfl⟩
 obtain ⟨T, hT⟩ : ∃ T, capF b0 s.data.toList = T := ⟨_, rfl⟩
 have hTl : T.length = s.size := by rw [← hT, capF_len, len_list]
 have HT0 := Lib.hid (show T.drop 0 = capF b0 (s.data.toList.drop 0) from by rw [List.drop_zero, List.drop_zero]; exact hT.symm)
 have HTl := Lib.hid hTl;have HS := Lib.hid (MpR.start s T cap w)
 rw [hT]
 rw [hcap] at hconv
 obtain ⟨C, hC⟩ : ∃ C, bytesRow s cap = C := ⟨_, rfl⟩
 rw [hC] at hconv
 have HS := Lib.hid (by have := HS.out; rw [hC] at this; exact this : MpR s T w.heap.size 0 (w.alloc (.cells C 5 (C.size, C.size + 1))))
 have HC0 := Lib.hid ((World.cell?_alloc_lt w (.cells C 5 (C.size, C.size + 1)) ⟨g, 0, none⟩ hg).trans hc)
 have HF0 := Lib.hid (show (w.alloc (.cells C 5 (C.size, C.size + 1))).frozen? ⟨g, 0, none⟩ = false from by
  have := Below.heap_alloc w (.cells C 5 (C.size, C.size + 1)) g hg
  unfold World.frozen? at hf ⊢
  dsimp only at hf ⊢
  rw [this]; exact hf)
 clear hcap hC hT hTl hc hf
 go_enter Tryz.func14, Tryz.ntmps14
 go_wp2_with fail
 go_loopw [12] (fun i wr => ∃ (j : Nat) (b : Bool), j ≤ s.size ∧ i = .int .i64 j ∧ MpR s T w.heap.size j wr ∧ Kp [g] w wr ∧ wr.cell? ⟨g, 0, none⟩ = some (.bool b) ∧ wr.frozen? ⟨g, 0, none⟩ = false ∧ T.drop j = capF b (s.data.toList.drop j)) (fun i _ => s.size - (intOf i).toNat)
 case atStart => exact ⟨0, b0, by omega, rfl, ⟨HS.out.cell, HS.out.soft⟩, ((Kp.refl _ w).alloc _).drew, HC0.out, HF0.out, HT0.out⟩
 case round =>
  obtain ⟨j, b, hj, rfl, hL, hK, hgc, hgf, hTj⟩ := hrel
  have HL := Lib.hid hL;have HK := Lib.hid hK;have HTj := Lib.hid hTj;have Hgc := Lib.hid hgc;have Hgf := Lib.hid hgf;have hsz := hK.size;clear hL hTj hK hgc hgf
  by_cases hlt : j < s.size
  ·have hcj := HL.out.cell j hlt
   rw [mpAt_at] at hcj
   obtain ⟨st1, st2⟩ := capF_step b s T j hlt HTj.out
   obtain ⟨y, hy⟩ : ∃ y, (if b then uprB s[j] else s[j]) = y := ⟨_, rfl⟩
   have HCa := Lib.hid (by have h := hcap1_any s[j] g b wr Hgc.out Hgf.out; rw [hy] at h; exact h)
   rw [hy] at st1 st2
   have Hn := Lib.hid (congrArg (fun z : UInt8 => (z.toNat : Int)) st1)
   have Hst := Lib.hid st2
   have hgB : g ≠ w.heap.size := by omega
   clear st1 st2 hy
   obtain ⟨w2, hw2⟩ : ∃ x, wr.setCell ⟨g, 0, none⟩ (.bool (((y.toNat : Int)) == 45)) = x := ⟨_, rfl⟩
   have L2 := Lib.hid (show MpR s T w.heap.size j w2 from by rw [← hw2]; exact HL.out.far (p := ⟨g, 0, none⟩) hgB _)
   have K2 := Lib.hid (show Kp [g] w w2 from by rw [← hw2]; exact HK.out.setCell (p := ⟨g, 0, none⟩) (.inl (by simp)) _)
   have G2 := Lib.hid (show w2.cell? ⟨g, 0, none⟩ = some (.bool (((y.toNat : Int)) == 45)) from by rw [← hw2]; exact World.cell?_setCell_same _ _ _ Hgc.out)
   have F2 := Lib.hid (show w2.frozen? ⟨g, 0, none⟩ = false from by rw [← hw2, World.frozen?_setCell]; exact Hgf.out)
   have hHC := HCa.out
   rw [hw2] at hHC
   have HC2 := Lib.hid hHC;clear hHC hw2 HCa;have hfj := L2.out.soft j hlt
   go_wp2_with fail
   refine HC2.out.mono ?_
   rintro e w3 ⟨rfl, rfl⟩
   have hcj2 := L2.out.cell j hlt
   rw [mpAt_at] at hcj2
   go_wp2_with fail
   go_roundw
   case rel => exact ⟨j + 1, _, by omega, by go_num, L2.out.put hlt _ Hn.out, K2.out.setCell (p := ⟨w.heap.size, j, none⟩) (.inr (Nat.le_refl _)) _, (World.cell?_setCell_other _ _ _ _ (by intro e; injection e with e1; exact hgB e1.symm)).trans G2.out, by rw [World.frozen?_setCell]; exact F2.out, Hst.out⟩
   case measure => simp [intOf]; omega
  ·have hbk := HL.out.back (cap := cap) (by omega) HTl.out
   go_wp2_with fail
   go_ret
   exact ⟨rfl, HK.out⟩
set_option maxRecDepth 100000 in
set_option maxHeartbeats 1000000 in
theorem hcapitalized_any (s : ByteArray) (w : World) (hs : s.size ≤ 1099511627776) :
   Calls Tryz.prog 16 #[.string s] w (TxK (capF true s.data.toList) w) := by
 obtain ⟨g, hg⟩ : ∃ x, w.heap.size = x := ⟨_, rfl⟩
 obtain ⟨w1, hw1⟩ : ∃ x, w.alloc (.cells #[.bool true] 4) = x := ⟨_, rfl⟩
 have b1 : Blk w1 g 4 #[.bool true] := by rw [← hw1, ← hg]; exact Blk.new w _ _
 have K1 := Lib.hid (show Kp [] w w1 from by rw [← hw1]; exact (Kp.refl _ _).alloc _)
 have HE := Lib.hid (each_cap s true g w1 hs b1.lt (b1.cell 0) (b1.frozen 0))
 have hgw : w.heap.size ≤ g := by omega
 clear b1
 go_enter Tryz.func16, Tryz.ntmps16
 go_wp2_with fail
 refine HE.out.mono ?_
 rintro e w2 ⟨rfl, hK2⟩
 go_wp2_with fail
 go_ret
 exact ⟨rfl, K1.out.to_ hK2 (by intro y hy; right; rw [List.mem_singleton.1 hy]; exact hgw)⟩
end Ad
end Go.Proofs.YtbcaindpbeaheaaGreatDoor
namespace Go.Proofs.YtbcaindpbeaheaaGreatDoor
namespace Ad
open Go.RowKit Lx
theorem Txs.below {w w' : World} {g : Nat} {xs : List (List UInt8)} (h : Txs w g xs) (hg : g < w.heap.size) (hB : Below w.heap.size w w') : Txs w' g xs := fun j x hx => (hB.cell (p := ⟨g, j, none⟩) hg).trans (h j x hx)
def GsP (l : List UInt8) (w : World) (e : Ending) (w' : World) : Prop :=
 e = .returned (.tuple #[.string (Txt (joinL 58 ((grps l).getD []))), .int .i64 ((grps l).getD []).length, .bool (grps l).isSome]) ∧ Below w.heap.size w w'
theorem GsP.no {l : List UInt8} {w w' : World} (h : grps l = none) (hB : Below w.heap.size w w') : GsP l w (.returned (.tuple #[.string ⟨#[]⟩, .int .i64 0, .bool false])) w' := by
 unfold GsP; rw [h]; exact ⟨rfl, hB⟩
end Ad
end Go.Proofs.YtbcaindpbeaheaaGreatDoor
namespace Go.Proofs.YtbcaindpbeaheaaGreatDoor
namespace Ad
open Go.RowKit Lx
def SxP (l : List UInt8) (w : World) (e : Ending) (w' : World) : Prop :=
 ∃ (a : ByteArray) (b : Bool), e = .returned (.tuple #[.string a, .bool b]) ∧ b = (six l).isSome ∧ (∀ x, six l = some x → a = Txt x) ∧ Below w.heap.size w w'
theorem SxP.no {l : List UInt8} {w w' : World} (a : ByteArray) (h : six l = none) (hB : Below w.heap.size w w') : SxP l w (.returned (.tuple #[.string a, .bool false])) w' :=
 ⟨a, false, rfl, by rw [h]; rfl, fun x hx => (by rw [h] at hx; cases hx), hB⟩
end Ad
end Go.Proofs.YtbcaindpbeaheaaGreatDoor
namespace Go.Proofs.YtbcaindpbeaheaaGreatDoor
namespace Ad
open Go.RowKit Lx
theorem HoP.no {l : List UInt8} {w w' : World} (h : hostO l = none) (hB : Below w.heap.size w w') : HoP (hostO l) w (.returned (.tuple #[.string ⟨#[]⟩, .bool false])) w' := by
 unfold HoP; rw [h]; exact ⟨rfl, hB⟩
end Ad
end Go.Proofs.YtbcaindpbeaheaaGreatDoor
namespace Go.Proofs.YtbcaindpbeaheaaGreatDoor
namespace Ad
open Go.RowKit Lx
def NoF (l : List Prm) (nm : List UInt8) (j : Nat) : Prop := ∀ m, m < j → (lowL l[m]!.1 == lowL nm) = false
theorem NoF.succ {l : List Prm} {nm : List UInt8} {j : Nat} (h : NoF l nm j) (h2 : (lowL l[j]!.1 == lowL nm) = false) : NoF l nm (j + 1) := fun m hm => by
 rcases Nat.lt_or_ge m j with h3 | h3
 ·exact h m h3
 ·have : m = j := by omega
  rw [this]; exact h2
def roomL (l : List Prm) (nm : List UInt8) : Int := if 0 ≤ fndI l nm then 7 else if 16 ≤ l.length then 4 else 0
theorem roomL_eq (l : List Prm) (nm : List UInt8) (h1 : ∀ q ∈ l, lowL q.1 = q.1) (h2 : lowL nm = nm) (h3 : l.length ≤ 16) : roomL l nm = room l nm := by
 have key : (0 ≤ fndI l nm) ↔ (l.any (fun q => q.1 == nm) = true) := by
  rcases fndI_cases l nm with ⟨hI, hno⟩ | ⟨k, hk, hI, hyes, _⟩
  ·rw [hI]
   constructor
   ·intro h; omega
   ·intro h
    obtain ⟨q, hq, he⟩ := List.any_eq_true.1 h
    obtain ⟨j, hj, rfl⟩ := List.mem_iff_getElem.1 hq
    have := hno j hj
    rw [getElem!_pos l j hj, h1 _ hq, h2, he] at this
    cases this
  ·rw [hI]
   constructor
   ·intro _
    rw [getElem!_pos l k hk, h1 _ (List.getElem_mem hk), h2] at hyes
    exact List.any_eq_true.2 ⟨_, List.getElem_mem hk, hyes⟩
   ·intro _; omega
 unfold roomL room
 by_cases h : 0 ≤ fndI l nm
 ·rw [if_pos h, if_pos (key.1 h)]
 ·rw [if_neg h, if_neg (fun h4 => h (key.2 h4))]
  by_cases h5 : l.length = 16
  ·rw [if_pos (by omega), if_pos h5]
  ·rw [if_neg (by omega), if_neg h5]
def NoC (s : ByteArray) (k : Nat) : Prop := ((s.data.toList.take k).any fun c => ctlI c.toNat) = false
end Ad
end Go.Proofs.YtbcaindpbeaheaaGreatDoor
namespace Go.Proofs.YtbcaindpbeaheaaGreatDoor
namespace Ad
open Go.RowKit Lx
theorem run_index_rows {P : Program} (w : World) (xt elem : TypeId) (len size : Nat) (cs : Array Value) (j : Nat) (hu : P.underlying xt = some (.array len elem)) (hs : ∀ w, (sizeOf elem).run P w = .ok size w) (ha : ∀ w, (isAgg elem).run P w = .ok true w) (hj : j < len) :
   (Instr.index xt (.agg cs) (.int .i64 (j : Int))).run P w = .ok (.agg (cs.extract (j * size) (j * size + size))) w := by
 have h1 : (0 : Int) ≤ (j : Int) ∧ (j : Int) < (len : Int) := ⟨by omega, by omega⟩
 unfold Instr.index part
 simp [asIntOf, run_underlying hu, hs, ha, h1, Sem.run_bind, Result.andThen, hj]
theorem run_index_one {P : Program} (w : World) (xt elem : TypeId) (len : Nat) (cs : Array Value) (j : Nat) (v : Value) (hu : P.underlying xt = some (.array len elem)) (hs : ∀ w, (sizeOf elem).run P w = .ok 1 w) (ha : ∀ w, (isAgg elem).run P w = .ok false w) (hj : j < len) (hv : cs[j]? = some v) :
   (Instr.index xt (.agg cs) (.int .i64 (j : Int))).run P w = .ok v w := by
 have h1 : (0 : Int) ≤ (j : Int) ∧ (j : Int) < (len : Int) := ⟨by omega, by omega⟩
 unfold Instr.index part
 simp [asIntOf, run_underlying hu, hs, ha, h1, Sem.run_bind, Result.andThen, hj, hv]
def shortL : List (List UInt8 × List UInt8) := [([98], [82, 101, 102, 101, 114, 114, 101, 100, 45, 66, 121]), ([99], [67, 111, 110, 116, 101, 110, 116, 45, 84, 121, 112, 101]), ([101], [67, 111, 110, 116, 101, 110, 116, 45, 69, 110, 99, 111, 100, 105, 110, 103]), ([102], [70, 114, 111, 109]), ([105], [67, 97, 108, 108, 45, 73, 68]), ([107], [83, 117, 112, 112, 111, 114, 116, 101, 100]), ([108], [67, 111, 110, 116, 101, 110, 116, 45, 76, 101, 110, 103, 116, 104]), ([109], [67, 111, 110, 116, 97, 99, 116]), ([111], [69, 118, 101, 110, 116]), ([114], [82, 101, 102, 101, 114, 45, 84, 111]), ([115], [83, 117, 98, 106, 101, 99, 116]), ([116], [84, 111]), ([117], [65, 108, 108, 111, 119, 45, 69, 118, 101, 110, 116, 115]), ([118], [86, 105, 97]), ([120], [83, 101, 115, 115, 105, 111, 110, 45, 69, 120, 112, 105, 114, 101, 115])]
def specL : List (List UInt8) := [[67, 97, 108, 108, 45, 73, 68], [67, 83, 101, 113], [77, 73, 77, 69, 45, 86, 101, 114, 115, 105, 111, 110], [77, 105, 110, 45, 83, 69], [82, 65, 99, 107], [82, 83, 101, 113], [87, 87, 87, 45, 65, 117, 116, 104, 101, 110, 116, 105, 99, 97, 116, 101]]
def kindL : List (List UInt8 × Int × Bool) := [([70, 114, 111, 109], 1, false), ([84, 111], 1, false), ([67, 111, 110, 116, 97, 99, 116], 1, true), ([82, 111, 117, 116, 101], 1, true), ([82, 101, 99, 111, 114, 100, 45, 82, 111, 117, 116, 101], 1, true), ([80, 97, 116, 104], 1, true), ([83, 101, 114, 118, 105, 99, 101, 45, 82, 111, 117, 116, 101], 1, true), ([82, 101, 102, 101, 114, 45, 84, 111], 1, false), ([82, 101, 102, 101, 114, 114, 101, 100, 45, 66, 121], 1, false), ([82, 101, 112, 108, 121, 45, 84, 111], 1, false), ([86, 105, 97], 2, true), ([67, 83, 101, 113], 3, false), ([82, 65, 99, 107], 4, false), ([67, 111, 110, 116, 101, 110, 116, 45, 76, 101, 110, 103, 116, 104], 5, false), ([69, 120, 112, 105, 114, 101, 115], 5, false), ([77, 97, 120, 45, 70, 111, 114, 119, 97, 114, 100, 115], 5, false), ([77, 105, 110, 45, 69, 120, 112, 105, 114, 101, 115], 5, false), ([82, 83, 101, 113], 5, false), ([67, 111, 110, 116, 101, 110, 116, 45, 68, 105, 115, 112, 111, 115, 105, 116, 105, 111, 110], 6, false), ([67, 111, 110, 116, 101, 110, 116, 45, 84, 121, 112, 101], 6, false), ([69, 118, 101, 110, 116], 6, false), ([77, 105, 110, 45, 83, 69], 6, false), ([83, 101, 115, 115, 105, 111, 110, 45, 69, 120, 112, 105, 114, 101, 115], 6, false), ([83, 117, 98, 115, 99, 114, 105, 112, 116, 105, 111, 110, 45, 83, 116, 97, 116, 101], 6, false), ([65, 99, 99, 101, 112, 116], 7, true), ([65, 108, 108, 111, 119], 7, true), ([65, 108, 108, 111, 119, 45, 69, 118, 101, 110, 116, 115], 7, true), ([80, 114, 111, 120, 121, 45, 82, 101, 113, 117, 105, 114, 101], 7, true), ([82, 101, 113, 117, 105, 114, 101], 7, true), ([83, 117, 112, 112, 111, 114, 116, 101, 100], 7, true), ([85, 110, 115, 117, 112, 112, 111, 114, 116, 101, 100], 7, true)]
def canS (R : Option (List UInt8)) (low : List UInt8) : List UInt8 := match R with | some z => z | none => capF true low
def canO (R : Option (List UInt8 × List UInt8)) (S : Option (List UInt8)) (low : List UInt8) : List UInt8 := match R with | some p => p.2 | none => canS S low
def canN (l : List UInt8) : List UInt8 := canO (shortL.find? (fun p => p.1 == lowL l)) (specL.find? (fun z => lowL z == lowL l)) (lowL l)
def canB (l : List UInt8) : Bool := tokB l && decide (l.length ≤ 64)
def canR (l : List UInt8) : List UInt8 × Int := if canB l then (canN l, 0) else ([], 5)
def kindO (R : Option (List UInt8 × Int × Bool)) : Int × Bool := match R with | some p => p.2 | none => (0, false)
def kindR (l : List UInt8) : Int × Bool := kindO (kindL.find? (fun p => p.1 == l))
def kindCells : Array Value := #[.string ⟨#[70, 114, 111, 109]⟩, .int .u8 1, .bool false, .string ⟨#[84, 111]⟩, .int .u8 1, .bool false, .string ⟨#[67, 111, 110, 116, 97, 99, 116]⟩, .int .u8 1, .bool true, .string ⟨#[82, 111, 117, 116, 101]⟩, .int .u8 1, .bool true, .string ⟨#[82, 101, 99, 111, 114, 100, 45, 82, 111, 117, 116, 101]⟩, .int .u8 1, .bool true, .string ⟨#[80, 97, 116, 104]⟩, .int .u8 1, .bool true, .string ⟨#[83, 101, 114, 118, 105, 99, 101, 45, 82, 111, 117, 116, 101]⟩, .int .u8 1, .bool true, .string ⟨#[82, 101, 102, 101, 114, 45, 84, 111]⟩, .int .u8 1, .bool false, .string ⟨#[82, 101, 102, 101, 114, 114, 101, 100, 45, 66, 121]⟩, .int .u8 1, .bool false, .string ⟨#[82, 101, 112, 108, 121, 45, 84, 111]⟩, .int .u8 1, .bool false, .string ⟨#[86, 105, 97]⟩, .int .u8 2, .bool true, .string ⟨#[67, 83, 101, 113]⟩, .int .u8 3, .bool false, .string ⟨#[82, 65, 99, 107]⟩, .int .u8 4, .bool false, .string ⟨#[67, 111, 110, 116, 101, 110, 116, 45, 76, 101, 110, 103, 116, 104]⟩, .int .u8 5, .bool false, .string ⟨#[69, 120, 112, 105, 114, 101, 115]⟩, .int .u8 5, .bool false, .string ⟨#[77, 97, 120, 45, 70, 111, 114, 119, 97, 114, 100, 115]⟩, .int .u8 5, .bool false, .string ⟨#[77, 105, 110, 45, 69, 120, 112, 105, 114, 101, 115]⟩, .int .u8 5, .bool false, .string ⟨#[82, 83, 101, 113]⟩, .int .u8 5, .bool false, .string ⟨#[67, 111, 110, 116, 101, 110, 116, 45, 68, 105, 115, 112, 111, 115, 105, 116, 105, 111, 110]⟩, .int .u8 6, .bool false, .string ⟨#[67, 111, 110, 116, 101, 110, 116, 45, 84, 121, 112, 101]⟩, .int .u8 6, .bool false, .string ⟨#[69, 118, 101, 110, 116]⟩, .int .u8 6, .bool false, .string ⟨#[77, 105, 110, 45, 83, 69]⟩, .int .u8 6, .bool false, .string ⟨#[83, 101, 115, 115, 105, 111, 110, 45, 69, 120, 112, 105, 114, 101, 115]⟩, .int .u8 6, .bool false, .string ⟨#[83, 117, 98, 115, 99, 114, 105, 112, 116, 105, 111, 110, 45, 83, 116, 97, 116, 101]⟩, .int .u8 6, .bool false, .string ⟨#[65, 99, 99, 101, 112, 116]⟩, .int .u8 7, .bool true, .string ⟨#[65, 108, 108, 111, 119]⟩, .int .u8 7, .bool true, .string ⟨#[65, 108, 108, 111, 119, 45, 69, 118, 101, 110, 116, 115]⟩, .int .u8 7, .bool true, .string ⟨#[80, 114, 111, 120, 121, 45, 82, 101, 113, 117, 105, 114, 101]⟩, .int .u8 7, .bool true, .string ⟨#[82, 101, 113, 117, 105, 114, 101]⟩, .int .u8 7, .bool true, .string ⟨#[83, 117, 112, 112, 111, 114, 116, 101, 100]⟩, .int .u8 7, .bool true, .string ⟨#[85, 110, 115, 117, 112, 112, 111, 114, 116, 101, 100]⟩, .int .u8 7, .bool true]
def shortCells : Array Value := #[.string ⟨#[98]⟩, .string ⟨#[82, 101, 102, 101, 114, 114, 101, 100, 45, 66, 121]⟩, .string ⟨#[99]⟩, .string ⟨#[67, 111, 110, 116, 101, 110, 116, 45, 84, 121, 112, 101]⟩, .string ⟨#[101]⟩, .string ⟨#[67, 111, 110, 116, 101, 110, 116, 45, 69, 110, 99, 111, 100, 105, 110, 103]⟩, .string ⟨#[102]⟩, .string ⟨#[70, 114, 111, 109]⟩, .string ⟨#[105]⟩, .string ⟨#[67, 97, 108, 108, 45, 73, 68]⟩, .string ⟨#[107]⟩, .string ⟨#[83, 117, 112, 112, 111, 114, 116, 101, 100]⟩, .string ⟨#[108]⟩, .string ⟨#[67, 111, 110, 116, 101, 110, 116, 45, 76, 101, 110, 103, 116, 104]⟩, .string ⟨#[109]⟩, .string ⟨#[67, 111, 110, 116, 97, 99, 116]⟩, .string ⟨#[111]⟩, .string ⟨#[69, 118, 101, 110, 116]⟩, .string ⟨#[114]⟩, .string ⟨#[82, 101, 102, 101, 114, 45, 84, 111]⟩, .string ⟨#[115]⟩, .string ⟨#[83, 117, 98, 106, 101, 99, 116]⟩, .string ⟨#[116]⟩, .string ⟨#[84, 111]⟩, .string ⟨#[117]⟩, .string ⟨#[65, 108, 108, 111, 119, 45, 69, 118, 101, 110, 116, 115]⟩, .string ⟨#[118]⟩, .string ⟨#[86, 105, 97]⟩, .string ⟨#[120]⟩, .string ⟨#[83, 101, 115, 115, 105, 111, 110, 45, 69, 120, 112, 105, 114, 101, 115]⟩]
def specCells : Array Value := #[.string ⟨#[67, 97, 108, 108, 45, 73, 68]⟩, .string ⟨#[67, 83, 101, 113]⟩, .string ⟨#[77, 73, 77, 69, 45, 86, 101, 114, 115, 105, 111, 110]⟩, .string ⟨#[77, 105, 110, 45, 83, 69]⟩, .string ⟨#[82, 65, 99, 107]⟩, .string ⟨#[82, 83, 101, 113]⟩, .string ⟨#[87, 87, 87, 45, 65, 117, 116, 104, 101, 110, 116, 105, 99, 97, 116, 101]⟩]
theorem kind_at : ∀ j, j < 31 → ∃ n k m, kindL[j]? = some (n, k, m) ∧ kindCells.extract (j * 3) (j * 3 + 3) = #[.string (Txt n), .int .u8 k, .bool m]
 | 0, _ => ⟨_, _, _, rfl, rfl⟩
 | 1, _ => ⟨_, _, _, rfl, rfl⟩
 | 2, _ => ⟨_, _, _, rfl, rfl⟩
 | 3, _ => ⟨_, _, _, rfl, rfl⟩
 | 4, _ => ⟨_, _, _, rfl, rfl⟩
 | 5, _ => ⟨_, _, _, rfl, rfl⟩
 | 6, _ => ⟨_, _, _, rfl, rfl⟩
 | 7, _ => ⟨_, _, _, rfl, rfl⟩
 | 8, _ => ⟨_, _, _, rfl, rfl⟩
 | 9, _ => ⟨_, _, _, rfl, rfl⟩
 | 10, _ => ⟨_, _, _, rfl, rfl⟩
 | 11, _ => ⟨_, _, _, rfl, rfl⟩
 | 12, _ => ⟨_, _, _, rfl, rfl⟩
 | 13, _ => ⟨_, _, _, rfl, rfl⟩
 | 14, _ => ⟨_, _, _, rfl, rfl⟩
 | 15, _ => ⟨_, _, _, rfl, rfl⟩
 | 16, _ => ⟨_, _, _, rfl, rfl⟩
 | 17, _ => ⟨_, _, _, rfl, rfl⟩
 | 18, _ => ⟨_, _, _, rfl, rfl⟩
 | 19, _ => ⟨_, _, _, rfl, rfl⟩
 | 20, _ => ⟨_, _, _, rfl, rfl⟩
 | 21, _ => ⟨_, _, _, rfl, rfl⟩
 | 22, _ => ⟨_, _, _, rfl, rfl⟩
 | 23, _ => ⟨_, _, _, rfl, rfl⟩
 | 24, _ => ⟨_, _, _, rfl, rfl⟩
 | 25, _ => ⟨_, _, _, rfl, rfl⟩
 | 26, _ => ⟨_, _, _, rfl, rfl⟩
 | 27, _ => ⟨_, _, _, rfl, rfl⟩
 | 28, _ => ⟨_, _, _, rfl, rfl⟩
 | 29, _ => ⟨_, _, _, rfl, rfl⟩
 | 30, _ => ⟨_, _, _, rfl, rfl⟩
 | n + 31, h => absurd h (by omega)
theorem short_at : ∀ j, j < 15 → ∃ a b, shortL[j]? = some (a, b) ∧ shortCells.extract (j * 2) (j * 2 + 2) = #[.string (Txt a), .string (Txt b)]
 | 0, _ => ⟨_, _, rfl, rfl⟩
 | 1, _ => ⟨_, _, rfl, rfl⟩
 | 2, _ => ⟨_, _, rfl, rfl⟩
 | 3, _ => ⟨_, _, rfl, rfl⟩
 | 4, _ => ⟨_, _, rfl, rfl⟩
 | 5, _ => ⟨_, _, rfl, rfl⟩
 | 6, _ => ⟨_, _, rfl, rfl⟩
 | 7, _ => ⟨_, _, rfl, rfl⟩
 | 8, _ => ⟨_, _, rfl, rfl⟩
 | 9, _ => ⟨_, _, rfl, rfl⟩
 | 10, _ => ⟨_, _, rfl, rfl⟩
 | 11, _ => ⟨_, _, rfl, rfl⟩
 | 12, _ => ⟨_, _, rfl, rfl⟩
 | 13, _ => ⟨_, _, rfl, rfl⟩
 | 14, _ => ⟨_, _, rfl, rfl⟩
 | n + 15, h => absurd h (by omega)
theorem spec_at : ∀ j, j < 7 → ∃ a, specL[j]? = some a ∧ specCells[j]? = some (.string (Txt a)) ∧ a.length ≤ 20
 | 0, _ => ⟨_, rfl, rfl, by decide⟩
 | 1, _ => ⟨_, rfl, rfl, by decide⟩
 | 2, _ => ⟨_, rfl, rfl, by decide⟩
 | 3, _ => ⟨_, rfl, rfl, by decide⟩
 | 4, _ => ⟨_, rfl, rfl, by decide⟩
 | 5, _ => ⟨_, rfl, rfl, by decide⟩
 | 6, _ => ⟨_, rfl, rfl, by decide⟩
 | n + 7, h => absurd h (by omega)
theorem find_step {α : Type} (p : α → Bool) (l : List α) (j : Nat) (x : α) (h : l[j]? = some x) : (l.drop j).find? p = if p x then some x else (l.drop (j + 1)).find? p := by
 obtain ⟨hj, hx⟩ := List.getElem?_eq_some_iff.1 h
 rw [List.drop_eq_getElem_cons hj, hx, List.find?_cons]
 cases p x <;> rfl
structure HEnv (w : World) : Prop where
 env : Env w
 kd : ∃ t fr, w.heap[(2 : Nat)]? = some (.cells kindCells t fr)
 sh : ∃ t fr, w.heap[(0 : Nat)]? = some (.cells shortCells t fr)
 sp : ∃ t fr, w.heap[(1 : Nat)]? = some (.cells specCells t fr)
theorem HEnv.kp {X : List Nat} {w w' : World} (h : HEnv w) (k : Kp X w w') (hX : ∀ x ∈ X, 7 ≤ x) : HEnv w' := by
 have hn : ∀ i, i < 7 → i ∉ X := fun i hi hm => by have := hX i hm; omega
 have hb : ∀ g, g < 7 → w'.heap[g]? = w.heap[g]? := fun g hg => k.block g (Nat.lt_of_lt_of_le hg h.env.sz) (hn g hg)
 exact ⟨h.env.kp k hX, by rw [hb _ (by decide)]; exact h.kd, by rw [hb _ (by decide)]; exact h.sh, by rw [hb _ (by decide)]; exact h.sp⟩
theorem txt_eq_iff (a b : List UInt8) : ((Txt a).toList == (Txt b).toList) = (a == b) := by rw [Lib.toList_data, Lib.toList_data]; rfl
def KiP (r : Int × Bool) (w : World) (e : Ending) (w' : World) : Prop := e = .returned (.tuple #[.int .u8 r.1, .bool r.2]) ∧ Kp [] w w'
set_option maxRecDepth 100000 in
set_option maxHeartbeats 4000000 in
theorem kindOf_any (l : List UInt8) (w : World) (H : HEnv w) :
   Calls Tryz.prog 7 #[.string (Txt l)] w (KiP (kindR l) w) := by
 obtain ⟨t, fr, hg⟩ := H.kd
 obtain ⟨R, hR⟩ : ∃ R, kindL.find? (fun p => p.1 == l) = R := ⟨_, rfl⟩
 have HV := Lib.hid (by unfold kindR; rw [hR] : kindR l = kindO R)
 have HR := Lib.hid hR;have Hg := Lib.hid hg;clear H hR hg
 obtain ⟨C, hC⟩ : ∃ C, kindCells = C := ⟨_, rfl⟩
 have HC := Lib.hid hC
 have hsz : (Tryz.prog.info? 51).map (·.size) = some C.size := by rw [← hC]; kernel_rfl
 rw [hC] at Hg
 clear hC
 go_enter Tryz.func7, Tryz.ntmps7
 go_wp2_with fail
 refine wp_load_row _ _ rfl 2 rfl t C fr _ Hg.out Tryz.underlying51 rfl hsz ?_
 go_wp2_with fail
 go_loopw [7] (fun i wr => ∃ j : Nat, j ≤ 31 ∧ i = .int .i64 j ∧ (kindL.drop j).find? (fun p => p.1 == l) = R ∧ Kp [] w wr) (fun i _ => 31 - (intOf i).toNat)
 case atStart => exact ⟨0, by omega, rfl, by rw [List.drop_zero]; exact HR.out, Kp.refl _ _⟩
 case round =>
  obtain ⟨j, hj, rfl, hf, hK⟩ := hrel
  have Hf := Lib.hid hf;have HK := Lib.hid hK;clear hf hK
  by_cases hlt : j < 31
  ·obtain ⟨n, k, m, hx, hex⟩ := kind_at j hlt
   rw [HC.out] at hex
   have hix := (by have h := run_index_rows (P := Tryz.prog) wr _ _ 31 3 C j Tryz.underlying51 Tryz.sizeOf50 Tryz.isAgg50 hlt; rw [hex] at h; exact h)
   have hst := find_step (fun p : List UInt8 × Int × Bool => p.1 == l) kindL j _ hx
   rw [Hf.out] at hst
   dsimp only at hst
   obtain ⟨w2, hw2⟩ : ∃ x, wr.alloc (.cells #[.string (Txt n), .int .u8 k, .bool m] 50) = x := ⟨_, rfl⟩
   obtain ⟨g, hgg⟩ : ∃ x, wr.heap.size = x := ⟨_, rfl⟩
   have B2 := Lib.hid (show Blk w2 g 50 #[.string (Txt n), .int .u8 k, .bool m] from by rw [← hw2, ← hgg]; exact Blk.new wr _ _)
   have K2 := Lib.hid (show Kp [] w w2 from by rw [← hw2]; exact HK.out.alloc _)
   have c0 := B2.out.cell 0;have c1 := B2.out.cell 1;have c2 := B2.out.cell 2;clear hex hx
   cases hb : (n == l)
   ·have bE : ((Txt n).toList == (Txt l).toList) = false := (txt_eq_iff n l).trans hb
    rw [hb, if_neg (by decide)] at hst
    have Hst := Lib.hid hst.symm;clear hst hb
    go_wp2_with fail
    go_roundw
    case rel => exact ⟨j + 1, by omega, by go_num, Hst.out, K2.out⟩
    case measure => simp [intOf]; omega
   ·have bE : ((Txt n).toList == (Txt l).toList) = true := (txt_eq_iff n l).trans hb
    rw [hb, if_pos rfl] at hst
    have HF := Lib.hid (by rw [HV.out, hst]; rfl : kindR l = (k, m))
    clear hst hb
    go_upto_region 5 with fail
    go_quiet (fail)
    go_wp2_with fail
    go_ret2
    unfold KiP
    rw [HF.out]
    exact ⟨rfl, K2.out.drewN _⟩
  ·have HF := Lib.hid (by
     have h := Hf.out
     rw [show j = 31 from by omega] at h
     rw [HV.out, ← h]; rfl : kindR l = (0, false))
   go_wp2_with fail
   go_ret2
   unfold KiP
   rw [HF.out]
   exact ⟨rfl, HK.out⟩
end Ad
end Go.Proofs.YtbcaindpbeaheaaGreatDoor
namespace Go.Proofs.YtbcaindpbeaheaaGreatDoor
namespace Ad
open Go.RowKit Lx
def TxE (r : List UInt8 × Int) (w : World) (e : Ending) (w' : World) : Prop := e = .returned (.tuple #[.string (Txt r.1), .int .u8 r.2]) ∧ Kp [] w w'
theorem lowL_length (l : List UInt8) : (lowL l).length = l.length := by unfold lowL; simp
set_option maxRecDepth 100000 in
set_option maxHeartbeats 8000000 in
theorem canon_any (s : ByteArray) (w : World) (hs : s.size ≤ 2097152) (H : HEnv w) :
   Calls Tryz.prog 6 #[.string s] w (TxE (canR s.data.toList) w) := by
 have HTok := Lib.hid (fun wz => (by have h := token_any s wz (by unfold maxLen; omega); rw [tokenB_eq] at h; exact h : Calls Tryz.prog 13 #[.string s] wz (Ret (.bool (tokB s.data.toList)) wz)))
 have hlen := len_list s
 cases hT : tokB s.data.toList
 ·have HF := Lib.hid (by unfold canR canB; rw [hT]; rfl : canR s.data.toList = ([], 5))
  rw [hT] at HTok
  clear hT hlen
  go_enter Tryz.func6, Tryz.ntmps6
  go_wp2_with fail
  refine (HTok.out _).mono ?_
  rintro e w1 ⟨rfl, hw⟩
  obtain rfl := hw
  go_wp2_with fail
  go_ret2
  unfold TxE
  rw [HF.out]
  exact ⟨rfl, Kp.refl _ _⟩
 rw [hT] at HTok
 by_cases h64 : s.size ≤ 64
 case neg =>
  have HF := Lib.hid (by unfold canR canB; rw [hT, hlen, decide_eq_false h64]; rfl : canR s.data.toList = ([], 5))
  have b64 : (64 : Int) < (s.size : Int) := by omega
  clear hT hlen h64
  go_enter Tryz.func6, Tryz.ntmps6
  go_wp2_with fail
  refine (HTok.out _).mono ?_
  rintro e w1 ⟨rfl, hw⟩
  obtain rfl := hw
  go_wp2_with fail
  go_ret2
  unfold TxE
  rw [HF.out]
  exact ⟨rfl, Kp.refl _ _⟩
 have b64 : ¬ (64 : Int) < (s.size : Int) := by omega
 obtain ⟨L, hL⟩ : ∃ L, lowL s.data.toList = L := ⟨_, rfl⟩
 have hLl : L.length = s.size := by rw [← hL, lowL_length, hlen]
 obtain ⟨R, hR⟩ : ∃ R, shortL.find? (fun p => p.1 == L) = R := ⟨_, rfl⟩
 obtain ⟨S, hS⟩ : ∃ S, specL.find? (fun z => lowL z == L) = S := ⟨_, rfl⟩
 have HV := Lib.hid (by unfold canR canB; rw [hT, hlen, decide_eq_true h64]; unfold canN; rw [hL, hR, hS]; rfl : canR s.data.toList = (canO R S L, 0))
 have HR := Lib.hid hR;have HS := Lib.hid hS
 have HLo := Lib.hid (fun wz => (by have h := each_low s wz (by omega); rw [hL] at h; exact h : Calls Tryz.prog 14 #[.string s, .func (.func 15) #[] #[]] wz (RetNew L wz)))
 have HCa := Lib.hid (fun wz => (by have h := hcapitalized_any (Txt L) wz (by rw [txt_size]; omega); rw [txt_list] at h; exact h : Calls Tryz.prog 16 #[.string (Txt L)] wz (TxK (capF true L) wz)))
 have HSp := Lib.hid (fun (z : List UInt8) wz (hz : z.length ≤ 20) => (by have h := each_low (Txt z) wz (by rw [txt_size]; omega); rw [txt_list] at h; exact h : Calls Tryz.prog 14 #[.string (Txt z), .func (.func 15) #[] #[]] wz (RetNew (lowL z) wz)))
 have H0 := Lib.hid H
 obtain ⟨C, hC⟩ : ∃ C, shortCells = C := ⟨_, rfl⟩
 have HC := Lib.hid hC
 have hszC : (Tryz.prog.info? 47).map (·.size) = some C.size := by rw [← hC]; kernel_rfl
 obtain ⟨D, hD⟩ : ∃ D, specCells = D := ⟨_, rfl⟩
 have HD := Lib.hid hD
 have hszD : (Tryz.prog.info? 48).map (·.size) = some D.size := by rw [← hD]; kernel_rfl
 have HszC := Lib.hid hszC;have HszD := Lib.hid hszD;clear hT h64 hL hR hS hlen hC hD H hszC hszD hLl
 go_enter Tryz.func6, Tryz.ntmps6
 go_wp2_with fail
 refine (HTok.out _).mono ?_
 rintro e w1 ⟨rfl, hw⟩
 obtain rfl := hw
 go_wp2_with fail
 refine (HLo.out _).mono ?_
 rintro e w2 ⟨rfl, hB2⟩
 have K2 := Lib.hid ((Kp.refl [] w).below hB2)
 rw [show (⟨L.toArray⟩ : ByteArray) = Txt L from rfl]
 obtain ⟨tC, fC, hgC⟩ := (H0.out.kp K2.out (by simp)).sh
 rw [HC.out] at hgC
 clear hB2
 go_wp2_with (refine wpList_load_row rfl 47 (.global 0) rfl 0 rfl tC C fC _ hgC Tryz.underlying47 rfl HszC.out ?_)
 go_loopw [20] (fun i wr => ∃ j : Nat, j ≤ 15 ∧ i = .int .i64 j ∧ (shortL.drop j).find? (fun p => p.1 == L) = R ∧ Kp [] w wr) (fun i _ => 15 - (intOf i).toNat)
 case atStart => exact ⟨0, by omega, rfl, by rw [List.drop_zero]; exact HR.out, K2.out⟩
 case round =>
  obtain ⟨j, hj, rfl, hf, hK⟩ := hrel
  have Hf := Lib.hid hf;have HK := Lib.hid hK;clear hf hK
  by_cases hlt : j < 15
  ·obtain ⟨n, z, hx, hex⟩ := short_at j hlt
   rw [HC.out] at hex
   have hix := (by have h := run_index_rows (P := Tryz.prog) wr _ _ 15 2 C j Tryz.underlying47 Tryz.sizeOf46 Tryz.isAgg46 hlt; rw [hex] at h; exact h)
   have hst := find_step (fun p : List UInt8 × List UInt8 => p.1 == L) shortL j _ hx
   rw [Hf.out] at hst
   dsimp only at hst
   obtain ⟨w3, hw3⟩ : ∃ x, wr.alloc (.cells #[.string (Txt n), .string (Txt z)] 46) = x := ⟨_, rfl⟩
   obtain ⟨g, hgg⟩ : ∃ x, wr.heap.size = x := ⟨_, rfl⟩
   have B3 := Lib.hid (show Blk w3 g 46 #[.string (Txt n), .string (Txt z)] from by rw [← hw3, ← hgg]; exact Blk.new wr _ _)
   have K3 := Lib.hid (show Kp [] w w3 from by rw [← hw3]; exact HK.out.alloc _)
   have c0 := B3.out.cell 0;have c1 := B3.out.cell 1;clear hex hx
   cases hb : (n == L)
   ·have bE : ((Txt n).toList == (Txt L).toList) = false := (txt_eq_iff n L).trans hb
    rw [hb, if_neg (by decide)] at hst
    have Hst := Lib.hid hst.symm;clear hst hb
    go_wp2_with fail
    go_roundw
    case rel => exact ⟨j + 1, by omega, by go_num, Hst.out, K3.out⟩
    case measure => simp [intOf]; omega
   ·have bE : ((Txt n).toList == (Txt L).toList) = true := (txt_eq_iff n L).trans hb
    rw [hb, if_pos rfl] at hst
    have HF := Lib.hid (by rw [HV.out, hst]; rfl : canR s.data.toList = (z, 0))
    clear hst hb
    go_wp2_with fail
    go_ret2
    unfold TxE
    rw [HF.out]
    exact ⟨rfl, K3.out⟩
  ·have HRn := Lib.hid (by
     have h := Hf.out
     rw [show j = 15 from by omega] at h
     exact h.symm : R = none)
   have HV2 := Lib.hid (by rw [HV.out, HRn.out]; rfl : canR s.data.toList = (canS S L, 0))
   obtain ⟨tD, fD, hgD⟩ := (H0.out.kp HK.out (by simp)).sp
   rw [HD.out] at hgD
   go_wp2_with (refine wpList_load_row rfl 48 (.global 1) rfl 1 rfl tD D fD _ hgD Tryz.underlying48 rfl HszD.out ?_)
   clear hgD
   go_loopw [31] (fun i ws => ∃ k : Nat, k ≤ 7 ∧ i = .int .i64 k ∧ (specL.drop k).find? (fun z => lowL z == L) = S ∧ Kp [] w ws) (fun i _ => 7 - (intOf i).toNat)
   case atStart => exact ⟨0, by omega, rfl, by rw [List.drop_zero]; exact HS.out, HK.out⟩
   case round =>
    obtain ⟨k, hk, rfl, hf2, hK2⟩ := hrel
    have Hf2 := Lib.hid hf2;have HK2 := Lib.hid hK2;clear hf2 hK2
    by_cases hlt2 : k < 7
    ·obtain ⟨z, hx, hex, hzl⟩ := spec_at k hlt2
     rw [HD.out] at hex
     have hix := run_index_one (P := Tryz.prog) wr _ _ 7 D k _ Tryz.underlying48 Tryz.sizeOf9 Tryz.isAgg9 hlt2 hex
     have hst := find_step (fun z : List UInt8 => lowL z == L) specL k _ hx
     rw [Hf2.out] at hst
     try dsimp only at hst
     have HSz := Lib.hid (fun wz => HSp.out z wz hzl)
     clear hex hx
     cases hb : (lowL z == L)
     ·have bE : ((Txt (lowL z)).toList == (Txt L).toList) = false := (txt_eq_iff (lowL z) L).trans hb
      rw [hb, if_neg (by decide)] at hst
      have Hst := Lib.hid hst.symm;clear hst hb
      go_wp2_with fail
      refine (HSz.out _).mono ?_
      rintro e w4 ⟨rfl, hB4⟩
      have K4 := Lib.hid (HK2.out.below hB4)
      rw [show (⟨(lowL z).toArray⟩ : ByteArray) = Txt (lowL z) from rfl]
      clear hB4
      go_wp2_with fail
      go_roundw
      case rel => exact ⟨k + 1, by omega, by go_num, Hst.out, K4.out⟩
      case measure => simp [intOf]; omega
     ·have bE : ((Txt (lowL z)).toList == (Txt L).toList) = true := (txt_eq_iff (lowL z) L).trans hb
      rw [hb, if_pos rfl] at hst
      have HF := Lib.hid (by rw [HV2.out, hst]; rfl : canR s.data.toList = (z, 0))
      clear hst hb
      go_wp2_with fail
      refine (HSz.out _).mono ?_
      rintro e w4 ⟨rfl, hB4⟩
      have K4 := Lib.hid (HK2.out.below hB4)
      rw [show (⟨(lowL z).toArray⟩ : ByteArray) = Txt (lowL z) from rfl]
      clear hB4
      go_wp2_with fail
      go_ret2
      unfold TxE
      rw [HF.out]
      exact ⟨rfl, K4.out⟩
    ·have HF := Lib.hid (by
       have h := Hf2.out
       rw [show k = 7 from by omega] at h
       rw [HV2.out, ← h]; rfl : canR s.data.toList = (capF true L, 0))
     go_wp2_with fail
     refine (HCa.out _).mono ?_
     rintro e w4 ⟨rfl, hK4⟩
     have K4 := Lib.hid (HK2.out.trans hK4);clear hK4
     go_wp2_with fail
     go_ret2
     unfold TxE
     rw [HF.out]
     exact ⟨rfl, K4.out⟩
end Ad
end Go.Proofs.YtbcaindpbeaheaaGreatDoor
namespace Go.Proofs.YtbcaindpbeaheaaGreatDoor
namespace Ad
open Go.RowKit Lx
theorem pmR_none (l : List UInt8) (k : Nat) (h : tokE l k = k) : pmR l k = (([], [], false), k, 5) := by unfold pmR; rw [if_pos h]
theorem pmR_bare (l : List UInt8) (k : Nat) (h : tokE l k ≠ k) (h2 : atB l (blkE l (tokE l k)) ≠ 61) : pmR l k = ((lowL (slc l k (tokE l k)), [], false), blkE l (tokE l k), 0) := by unfold pmR; rw [if_neg h, if_neg h2]
theorem pmR_val (l : List UInt8) (k : Nat) (h : tokE l k ≠ k) (h2 : atB l (blkE l (tokE l k)) = 61) : pmR l k = ((lowL (slc l k (tokE l k)), (valR l (blkE l (blkE l (tokE l k) + 1))).1, true), (valR l (blkE l (blkE l (tokE l k) + 1))).2) := by unfold pmR; rw [if_neg h, if_pos h2]
structure AccL (acc : List Prm) : Prop where
 len : acc.length ≤ 16
 low : ∀ q ∈ acc, lowL q.1 = q.1
 sz : SzP acc
theorem AccL.nil : AccL [] := ⟨by simp, (fun q hq => nomatch hq), (fun q hq => nomatch hq)⟩
theorem AccL.snoc {acc : List Prm} (h : AccL acc) {q : Prm} (h1 : lowL q.1 = q.1) (h2 : q.1.length ≤ 2097152) (h3 : q.2.1.length ≤ 2097152) (h4 : acc.length ≤ 15) : AccL (acc ++ [q]) :=
 ⟨by rw [List.length_append, List.length_singleton]; omega, fun p hp => by
  rcases List.mem_append.1 hp with h5 | h5
  ·exact h.low p h5
  ·rw [List.mem_singleton.1 h5]; exact h1, fun p hp => by
  rcases List.mem_append.1 hp with h5 | h5
  ·exact h.sz p h5
  ·rw [List.mem_singleton.1 h5]; exact ⟨h2, h3⟩⟩
theorem AccL.room {acc : List Prm} (h : AccL acc) (nm : List UInt8) (h1 : lowL nm = nm) : roomL acc nm = Ad.room acc nm := roomL_eq acc nm h.low h1 h.len
theorem qText_len : ∀ (l : List UInt8), (qText l).length ≤ l.length := by
 intro l
 induction hn : l.length using Nat.strongRecOn generalizing l with
 | _ n ih =>
   cases l with
   | nil => rw [qText.eq_def]; simp
   | cons c t =>
     by_cases h1 : c.toNat = 34
     ·rw [qText_quote c t h1]; simp
     ·by_cases h2 : c.toNat = 92
      ·cases t with
       | nil => rw [qText.eq_def]; simp [h1, h2]
       | cons d u =>
         rw [qText_two c d u h2]
         have := ih u.length (by simp at hn; omega) u rfl
         simp at hn ⊢; omega
      ·rw [qText_one c t h1 h2]
       have := ih t.length (by simp at hn; omega) t rfl
       simp at hn ⊢; omega
theorem unq_len (l : List UInt8) (k : Int) : (uqT l k).length ≤ l.length := by
 unfold uqT
 split
 ·simp
 ·have := qText_len (l.drop (k.toNat + 1))
  rw [List.length_drop] at this; omega
theorem valR_len (l : List UInt8) (k : Nat) : (valR l k).1.length ≤ l.length + 86 := by
 unfold valR
 split
 ·have := unq_len l k; dsimp only; omega
 ·split
  ·cases ho : hostO (slc l k (min (endP (· == 93) l k + 1) l.length)) with
   | none => simp
   | some h => have h1 := hostO_len _ _ ho; have h2 := slc_lel l k (min (endP (· == 93) l k + 1) l.length); dsimp only; omega
  ·split
   ·simp
   ·have := slc_lel l k (tokE l k); dsimp only; omega
end Ad
end Go.Proofs.YtbcaindpbeaheaaGreatDoor
namespace Go.Proofs.YtbcaindpbeaheaaGreatDoor
namespace Ad
open Lx
theorem opE_at (l : List UInt8) (k : Nat) (h : atB l k = 34) : opE 34 l (k : Int) = 0 := by
 have hk := atB_lt l k (by rw [h]; decide)
 have e : l.drop k = l[k] :: l.drop (k + 1) := (List.drop_eq_getElem_cons hk)
 unfold opE
 rw [if_neg (by omega), Int.toNat_natCast, e]
 dsimp only
 unfold atB at h
 rw [List.getElem?_eq_getElem hk] at h
 exact if_pos h
end Ad
end Go.Proofs.YtbcaindpbeaheaaGreatDoor
namespace Go.Proofs.YtbcaindpbeaheaaGreatDoor
namespace Ad
open Go.RowKit Lx
def LowN (l : List Prm) (j : Nat) : Prop := ∀ q ∈ l.take j, lowL q.1 = q.1
theorem LowN.succ {l : List Prm} {j : Nat} (h : LowN l j) (hj : j < l.length) (h2 : lowL l[j]!.1 = l[j]!.1) : LowN l (j + 1) := fun q hq => by
 rw [List.take_succ_eq_append_getElem hj] at hq
 rcases List.mem_append.1 hq with h3 | h3
 ·exact h q h3
 ·rw [List.mem_singleton.1 h3, ← getElem!_pos l j hj]; exact h2
end Ad
end Go.Proofs.YtbcaindpbeaheaaGreatDoor
namespace Go.Proofs.YtbcaindpbeaheaaGreatDoor
namespace Ad
open Go.RowKit Lx
theorem upL_len (l : List UInt8) : (upL l).length = l.length := by simp [upL]
def upAt (s : ByteArray) (j i : Nat) (h : i < s.size) : Int := if i < j then (upB s[i]).toNat else s[i].toNat
theorem upAt_zero (s : ByteArray) (i : Nat) (h : i < s.size) : upAt s 0 i h = s[i].toNat := by unfold upAt; rw [if_neg (by omega)]
theorem upAt_at (s : ByteArray) (i : Nat) (h : i < s.size) : upAt s i i h = s[i].toNat := by unfold upAt; rw [if_neg (by omega)]
theorem upAt_next (s : ByteArray) (j i : Nat) (h : i < s.size) (hn : i ≠ j) : upAt s (j + 1) i h = upAt s j i h := by
 unfold upAt
 by_cases hl : i < j
 ·rw [if_pos hl, if_pos (by omega)]
 ·rw [if_neg hl, if_neg (by omega)]
theorem upAt_new (s : ByteArray) (j : Nat) (h : j < s.size) : upAt s (j + 1) j h = (upB s[j]).toNat := by unfold upAt; rw [if_pos (by omega)]
theorem upAt_end (s : ByteArray) (j i : Nat) (h : i < s.size) (hj : s.size ≤ j) : upAt s j i h = (upB s[i]).toNat := by unfold upAt; rw [if_pos (by omega)]
structure UpR (s : ByteArray) (B j : Nat) (w : World) : Prop where
 cell : ∀ i (h : i < s.size), w.cell? ⟨B, i, none⟩ = some (.int .u8 (upAt s j i h))
 soft : ∀ i, i < s.size → w.frozen? ⟨B, i, none⟩ = false
theorem UpR.skip {s : ByteArray} {B j : Nat} {w : World} (h : UpR s B j w) (hj : j < s.size) (he : (upB s[j]).toNat = s[j].toNat) : UpR s B (j + 1) w := by
 refine ⟨fun i hi => ?_, h.soft⟩
 by_cases hij : i = j
 ·subst hij
  rw [upAt_new, he, ← upAt_at s i hi]; exact h.cell i hi
 ·rw [upAt_next s j i hi hij]; exact h.cell i hi
theorem UpR.put {s : ByteArray} {B j : Nat} {w : World} (h : UpR s B j w) (hj : j < s.size) (x : Int) (he : ((upB s[j]).toNat : Int) = x) : UpR s B (j + 1) (w.setCell ⟨B, j, none⟩ (.int .u8 x)) := by
 refine ⟨fun i hi => ?_, fun i hi => by rw [World.frozen?_setCell]; exact h.soft i hi⟩
 by_cases hij : i = j
 ·subst hij
  rw [upAt_new, he]; exact World.cell?_setCell_same _ _ _ (h.cell i hi)
 ·rw [upAt_next s j i hi hij]; exact (World.cell?_setCell_other _ _ _ _ (by intro e; injection e with _ e2; exact hij e2.symm)).trans (h.cell i hi)
theorem UpR.start (s : ByteArray) (cap : Nat) (w : World) : UpR s w.heap.size 0 (w.alloc (.cells (bytesRow s cap) 5 ((bytesRow s cap).size, (bytesRow s cap).size + 1))) := by
 have hsz : ∀ i, i < s.size → i < (bytesRow s cap).size := fun i hi => by unfold bytesRow; simp; omega
 refine ⟨fun i hi => ?_, fun i hi => ?_⟩
 ·rw [World.cell?_alloc_mark, bytesRow_at s cap i hi, upAt_zero]; rfl
 ·rw [World.frozen?_alloc_mark, decide_eq_false (by have := hsz i hi; omega)]; rfl
theorem UpR.back {s : ByteArray} {B j cap : Nat} {w : World} (h : UpR s B j w) (hj : s.size ≤ j) : (convert 72 9 (.slice (some ⟨B, 0, none⟩) s.size cap)).run Tryz.prog w = .ok (.string ⟨(upL s.data.toList).toArray⟩) w := by
 have hl : s.size = (upL s.data.toList).length := by rw [upL_len, len_list]
 have := run_convert_bytes_back (P := Tryz.prog) w 72 9 5 ⟨B, 0, none⟩ cap (upL s.data.toList) Tryz.underlying72 Tryz.underlying5 Tryz.underlying9 (fun i hi => by
  have hi2 : i < s.size := by omega
  have hadd : (⟨B, 0, none⟩ : Addr).add i = ⟨B, i, none⟩ := by unfold Addr.add; split <;> simp_all
  rw [hadd, h.cell i hi2, upAt_end s j i hi2 hj]
  simp [upL]
  rfl)
 rw [← hl] at this
 exact this
end Ad
end Go.Proofs.YtbcaindpbeaheaaGreatDoor
namespace Go.Proofs.YtbcaindpbeaheaaGreatDoor
namespace Ad
open Go.RowKit Lx
theorem PmIn.drop {B : Nat} {w : World} {b o n c : Nat} {l : List Prm} (hb : b < B) (hn : l.length = n) (hc : n ≤ c) (hcell : ∀ (i : Nat) (u : Value), (pcl l)[i]? = some u → w.cell? ⟨b, o + i, none⟩ = some u) (k : Nat) (hk : k ≤ n) : PmIn B w (.slice (some ⟨b, o + k * 3, none⟩) (n - k) (c - k)) (l.drop k) := by
 refine ⟨n - k, c - k, by rw [List.length_drop]; omega, by omega, .inr ⟨b, o + k * 3, rfl, hb, fun i u hu => ?_⟩⟩
 have e : pcl l = pcl (l.take k) ++ pcl (l.drop k) := by rw [← pcl_app, List.take_append_drop]
 have hl : (pcl (l.take k)).length = k * 3 := by rw [pcl_len, List.length_take, Nat.min_eq_left (by omega)]
 have := hcell (k * 3 + i) u (by rw [e, List.getElem?_append_right (by omega), hl]; rw [show k * 3 + i - k * 3 = i from by omega]; exact hu)
 rwa [← Nat.add_assoc] at this
end Ad
end Go.Proofs.YtbcaindpbeaheaaGreatDoor
namespace Go.Proofs.YtbcaindpbeaheaaGreatDoor
namespace Ad
open Lx
theorem ppF_some : ∀ (l acc : List Prm) (x : List UInt8), ppF l acc = some x → acc.length ≤ 16 → Names acc → (acc ++ l).length ≤ 16 ∧ Names (acc ++ l) ∧ x = l.flatMap ppL := by
 intro l
 induction l with
 | nil => intro acc x h h1 h2; rw [ppF] at h; cases h; simp only [List.append_nil]; exact ⟨h1, h2, rfl⟩
 | cons p t ih =>
   intro acc x h h1 h2
   rw [ppF] at h
   split at h
   ·rename_i hc
    simp only [Bool.and_eq_true, decide_eq_true_eq] at hc
    have hr := (room_iff acc p.1).1 hc.2
    cases hx : ppF t (acc ++ [p]) with
    | none => rw [hx] at h; cases h
    | some y =>
      rw [hx] at h
      simp only [Option.map_some, Option.some.injEq] at h
      have := ih (acc ++ [p]) y hx (by rw [List.length_append, List.length_singleton]; have := hr.2; omega) (names_snoc acc p h2 hr.1)
      rw [List.append_assoc, List.singleton_append] at this
      exact ⟨this.1, this.2.1, by rw [← h, this.2.2]; rfl⟩
   ·cases h
theorem ppO_some (l : List Prm) (x : List UInt8) (h : ppO l = some x) : l.length ≤ 16 ∧ Names l ∧ x = l.flatMap ppL := by
 have := ppF_some l [] x h (by simp) (by unfold Names; simp)
 simpa using this
theorem ppO_dup (l : List Prm) (h : ¬ Names l) : ppO l = none := by
 cases hx : ppO l with
 | none => rfl
 | some x => exact absurd (ppO_some l x hx).2.1 h
theorem ppO_sort (l l' : List Prm) (hp : l'.Perm l) (hs : Srtd l') : ppO l' = ppO (srt l) := by
 by_cases hn : Names l
 ·rw [srt_of l' l hp hs hn]
 ·rw [ppO_dup l' (fun h => hn (h.perm hp)), ppO_dup (srt l) (fun h => hn (h.perm (srt_perm l)))]
theorem flat_len (l : List Prm) (h : SzP l) : (l.flatMap ppL).length ≤ l.length * 6291460 := by
 induction l with
 | nil => simp
 | cons p t ih =>
   have h1 := ppL_len p (h p (List.mem_cons_self ..))
   have h2 := ih (fun q hq => h q (List.mem_cons_of_mem _ hq))
   rw [List.flatMap_cons, List.length_append, List.length_cons]; omega
theorem ppO_len (l : List Prm) (h : SzP l) (x : List UInt8) (hx : ppO l = some x) : x.length ≤ 16 * 6291460 := by
 obtain ⟨h1, _, h3⟩ := ppO_some l x hx
 rw [h3]
 exact Nat.le_trans (flat_len l h) (Nat.mul_le_mul_right _ h1)
theorem textU_len (n : Uri) (h : SzN n) (hk : n.scheme = telL → n.heads = []) : (textU n).length ≤ 1073741824 := by
 rw [text_eq n hk]
 have h1 := h.scheme; have h2 := h.user; have h3 := h.host
 have h4 := wrt_len2 59 59 1 n.params h.ps;have h5 := wrt_len2 63 38 2 n.heads h.hs;have h6 := plc_len n.user n.host n.port h.port0 h.port1
 have h7 := h.params; have h8 := h.heads
 simp only [List.length_append, List.length_singleton]
 split <;> omega
theorem printO_len (u : Uri) (hz : SzU u) (hh : u.host.length ≤ 1048576) (x : List UInt8) (hx : printO u = some x) : x.length ≤ 1073741824 := by
 unfold printO at hx
 cases hn : normal u with
 | none => rw [hn] at hx; cases hx
 | some n =>
   rw [hn] at hx
   simp only [Option.map_some, Option.some.injEq] at hx
   rw [← hx]
   exact textU_len n (normal_sz u n hz hh hn) (normal_tel u n hn)
def dspL (d : List UInt8) : List UInt8 := if d = [] then [] else [34] ++ escL d ++ [34, 32]
theorem adrO_eq (a : Adr) : adrO a = match printO a.uri, ppO (srt a.params) with
   | some u, some p => if hasCtl a.display then none else some (dspL a.display ++ [60] ++ u ++ [62] ++ p)
   | _, _ => none := rfl
end Ad
end Go.Proofs.YtbcaindpbeaheaaGreatDoor
namespace Go.Proofs.YtbcaindpbeaheaaGreatDoor
namespace Ad
open Go.RowKit Lx
structure SzA (a : Adr) : Prop where
 display : a.display.length ≤ 1048576
 uri : SzU a.uri
 host : a.uri.host.length ≤ 1048576
 params : a.params.length ≤ 2097152
 ps : SzP a.params
theorem sz_one (c : UInt8) : (⟨#[c]⟩ : ByteArray).size = 1 := rfl
def PrK (o : Option (List UInt8)) (w : World) (e : Ending) (w' : World) : Prop :=
 e = .returned (.tuple #[.string (Txt (o.getD [])), .int .u8 (if o.isSome then 0 else 2)]) ∧ Kp [] w w'
theorem PrP.toK {o : Option (List UInt8)} {w w' : World} {e : Ending} (h : PrP o w e w') : PrK o w e w' := ⟨h.1, (Kp.refl [] w).below h.2⟩
theorem PrK.none {o : Option (List UInt8)} {w w' : World} (h : o = none) (k : Kp [] w w') : PrK o w (.returned (.tuple #[.string ⟨#[]⟩, .int .u8 2])) w' := by
 unfold PrK; rw [h]; exact ⟨rfl, k⟩
theorem PrK.some {o : Option (List UInt8)} {t : List UInt8} {s : ByteArray} {w w' : World} (h : o = some t) (hs : s = Txt t) (k : Kp [] w w') : PrK o w (.returned (.tuple #[.string s, .int .u8 0])) w' := by
 unfold PrK; rw [h, hs]; exact ⟨rfl, k⟩
set_option maxRecDepth 100000 in
set_option maxHeartbeats 8000000 in
theorem printAddress_any (B : Nat) (v : Value) (a : Adr) (w : World) (hA : AdIn B w v a) (hB : B ≤ w.heap.size) (hz : SzA a) (E : Env w) :
   Calls Tryz.prog 19 #[v] w (PrK (adrO a) w) := by
 obtain ⟨vp, vh, vq, rfl, hp, hh, hq⟩ := hA
 obtain ⟨A1, C1, rfl⟩ := hp.form
 obtain ⟨A2, C2, rfl⟩ := hh.form
 obtain ⟨A3, C3, rfl⟩ := hq.form
 have HZ := Lib.hid hz;have hd := hz.display;have k1 := hz.params
 obtain ⟨wA, hwA⟩ : ∃ wz_, w.alloc (.cells #[.string (Txt a.display), .string (Txt a.uri.scheme), .string (Txt a.uri.user), .string (Txt a.uri.host), .int .i64 a.uri.port, .slice A1 a.uri.params.length C1, .slice A2 a.uri.heads.length C2, .slice A3 a.params.length C3] 56) = wz_ := ⟨_, rfl⟩
 have hX := ABox.new (hp.more hB) (hh.more hB) (hq.more hB)
 rw [hwA] at hX
 have hK : Kp [] w wA := by rw [← hwA]; exact (Kp.refl [] w).alloc _
 have KA := Lib.hid hK
 have EA := Lib.hid (E.kp hK (by simp))
 have XA := Lib.hid hX
 obtain ⟨R, hR⟩ : ∃ r, adrO a = r := ⟨_, rfl⟩
 have HR := Lib.hid ((adrO_eq a).symm.trans hR)
 rw [hR]
 obtain ⟨on, hon⟩ : ∃ o, printO a.uri = o := ⟨_, rfl⟩
 have HL := Lib.hid (fun x (h : printO a.uri = some x) => printO_len a.uri hz.uri hz.host x h)
 have Hon := Lib.hid hon
 have HPr := Lib.hid (fun (B : Nat) (v : Value) (w : World) (hU : UriIn B w v a.uri) (hB : B ≤ w.heap.size) (E : Env w) => (Print_any B v a.uri w hU hB hz.uri hz.host E).mono fun _ _ h => h.toK)
 rw [hon] at HPr
 have s64 : (9 : Nat) ≤ 9 := Nat.le_refl _
 clear hX hK hp hh hq hz E hR hon
 obtain ⟨a1, c1, a2, c2, a3, c3, hc, hi, hq⟩ := XA.out.in
 have b0 := hc 0;have b1 := hc 1;have b2 := hc 2;have b3 := hc 3;have b4 := hc 4;have b5 := hc 5;have b6 := hc 6;have In := Lib.hid hi;clear hc hi hq
 go_enter Tryz.func19, Tryz.ntmps19
 go_wp2_with fail
 refine (HPr.out _ _ _ In.out (Nat.le_refl _) EA.out).mono ?_
 rintro e w1 ⟨rfl, hK1⟩
 have K1 := Lib.hid (KA.out.trans hK1)
 have E1 := Lib.hid (EA.out.kp hK1 (by simp))
 have X1 := Lib.hid (XA.out.kpn hK1);clear hK1 b0 b1 b2 b3 b4 b5 b6 In
 cases on with
 | none =>
   have HN := Lib.hid (by rw [← HR.out, Hon.out] : R = none)
   simp only [Option.getD_none, Option.isSome_none, Bool.false_eq_true, if_false]
   go_wp2_with fail
   go_ret2
   exact PrK.none HN.out K1.out
 | some u =>
   have hul := HL.out u Hon.out
   simp only [Option.getD_some, Option.isSome_some, if_true]
   obtain ⟨a1, c1, a2, c2, a3, c3, hc, hi, hq⟩ := X1.out.in
   have b0 := hc 0;have b7 := hc 7;have Pq := Lib.hid hq;clear hc hi hq
   obtain ⟨cc, hcc⟩ : ∃ x, hasCtl a.display = x := ⟨_, rfl⟩
   have HCt := Lib.hid (fun wz => ctlK a.display cc hcc (by omega) wz)
   have Hcc := Lib.hid hcc;clear hcc
   cases cc with
   | true =>
     have HN := Lib.hid (by rw [← HR.out, Hon.out]; cases ppO (srt a.params) with | none => rfl | some p => exact if_pos Hcc.out : R = none)
     go_wp2_with fail
     refine (HCt.out _).mono ?_
     rintro e w2 ⟨rfl, hK2⟩
     have K2 := Lib.hid (K1.out.trans hK2);clear hK2 b0 b7
     go_wp2_with fail
     go_ret2
     exact PrK.none HN.out K2.out
   | false =>
     go_wp2_with fail
     refine (HCt.out _).mono ?_
     rintro e w2 ⟨rfl, hK2⟩
     have K2 := Lib.hid (K1.out.trans hK2)
     have E2 := Lib.hid (E1.out.kp hK2 (by simp))
     have X2 := Lib.hid (X1.out.kpn hK2);clear hK2 b0 b7 Pq
     obtain ⟨a1, c1, a2, c2, a3, c3, hc, hi, hq⟩ := X2.out.in
     have b7 := hc 7;have Pq := Lib.hid hq;clear hc hi hq
     go_wp2_with fail
     refine (sorted_any _ _ a.params _ Pq.out (Nat.le_refl _) (by omega)).mono ?_
     rintro e w3 ⟨v3, l3, rfl, hP3, hPe, hSo, hK3⟩
     have K3 := Lib.hid (K2.out.trans hK3)
     have E3 := Lib.hid (E2.out.kp hK3 (by simp))
     have X3 := Lib.hid (X2.out.kpn hK3);have P3 := Lib.hid hP3
     obtain ⟨A9, C9, rfl⟩ := hP3.form
     have hl3 : l3.length ≤ 2097152 := by rw [hPe.length_eq]; exact k1
     have HS3 := Lib.hid (show SzP l3 from fun p hp => HZ.out.ps p (hPe.mem_iff.1 hp))
     have HSo := Lib.hid (ppO_sort a.params l3 hPe hSo)
     obtain ⟨po, hpo⟩ : ∃ o, ppO (srt a.params) = o := ⟨_, rfl⟩
     have HPo := Lib.hid (HSo.out.trans hpo);have HQo := Lib.hid hpo;clear hK3 hP3 hPe hSo hpo b7 Pq
     go_wp2_with fail
     refine (printParams_any _ _ l3 _ P3.out (Nat.le_refl _) HS3.out hl3 E3.out).mono ?_
     rintro e w4 ⟨rfl, hB4⟩
     rw [HPo.out]
     have K4 := Lib.hid (K3.out.below hB4)
     have X4 := Lib.hid (X3.out.kpn ((Kp.refl [] w3).below hB4))
     clear hB4
     cases po with
     | none =>
       have HN := Lib.hid (by rw [← HR.out, Hon.out, HQo.out] : R = none)
       simp only [Option.getD_none, Option.isSome_none, Bool.false_eq_true, if_false]
       go_wp2_with fail
       go_ret2
       exact PrK.none HN.out K4.out
     | some p =>
       have hpl := ppO_len l3 HS3.out p HPo.out
       have HY := Lib.hid (by rw [← HR.out, Hon.out, HQo.out]; exact if_neg (by rw [Hcc.out]; decide) : R = some (dspL a.display ++ [60] ++ u ++ [62] ++ p))
       simp only [Option.getD_some, Option.isSome_some, if_true]
       obtain ⟨a1, c1, a2, c2, a3, c3, hc, hi, hq⟩ := X4.out.in
       have b0 := hc 0;clear hc hi hq
       have su : (Txt u).size ≤ 1073741824 := by rw [txt_size]; exact hul
       have sp : (Txt p).size ≤ 100663360 := by rw [txt_size]; exact hpl
       by_cases hde : a.display = []
       ·have be : ((Txt a.display).toList == ([] : List UInt8)) = true := by rw [hde]; decide +kernel
        have HD := Lib.hid (by unfold dspL; rw [if_pos hde] : dspL a.display = [])
        have s1 : ((⟨#[]⟩ : ByteArray) ++ (⟨#[60]⟩ : ByteArray)).size ≤ 1 := by decide
        have s2 : ((⟨#[]⟩ : ByteArray) ++ (⟨#[60]⟩ : ByteArray) ++ Txt u).size ≤ 1073741825 := by rw [ByteArray.size_append]; omega
        have s3 : ((⟨#[]⟩ : ByteArray) ++ (⟨#[60]⟩ : ByteArray) ++ Txt u ++ (⟨#[62]⟩ : ByteArray)).size ≤ 1073741826 := by rw [ByteArray.size_append]; have := sz_one 62; omega
        have Hcat := Lib.hid ((congrArg (fun z => z ++ Txt u ++ (⟨#[62]⟩ : ByteArray) ++ Txt p) (cat_txt [] [60])).trans ((congrArg (fun z => z ++ (⟨#[62]⟩ : ByteArray) ++ Txt p) (cat_txt _ u)).trans ((congrArg (fun z => z ++ Txt p) (cat_txt _ [62])).trans (cat_txt _ p))) : (⟨#[]⟩ : ByteArray) ++ (⟨#[60]⟩ : ByteArray) ++ Txt u ++ (⟨#[62]⟩ : ByteArray) ++ Txt p = Txt ([] ++ [60] ++ u ++ [62] ++ p))
        have HY2 := Lib.hid (by rw [HY.out, HD.out] : R = some ([] ++ [60] ++ u ++ [62] ++ p))
        clear hde
        go_wp2_with fail
        go_ret2
        exact PrK.some HY2.out Hcat.out K4.out
       ·have be : ((Txt a.display).toList == ([] : List UInt8)) = false := emp_no _ hde
        have hq : quT a.display = [34] ++ escL a.display ++ [34] := by unfold quT; rw [if_neg (by rw [Hcc.out]; decide)]
        have HD := Lib.hid (by unfold dspL; rw [if_neg hde, hq]; simp : dspL a.display = quT a.display ++ [32])
        obtain ⟨Q, hQ⟩ : ∃ x, quT a.display = x := ⟨_, rfl⟩
        have sq : (Txt Q).size ≤ 2097154 := by rw [txt_size, ← hQ, hq]; have := escL_len a.display; simp only [List.length_append, List.length_cons, List.length_nil]; omega
        have HQt := fun wz => Lx.quote_any (Txt a.display) wz (by rw [txt_size]; omega)
        rw [txt_list, hQ] at HQt
        have HQt := Lib.hid HQt
        rw [hQ] at HD
        have s0 : (Txt Q ++ (⟨#[32]⟩ : ByteArray)).size ≤ 2097155 := by rw [ByteArray.size_append]; have := sz_one 32; omega
        have s1 : (Txt Q ++ (⟨#[32]⟩ : ByteArray) ++ (⟨#[60]⟩ : ByteArray)).size ≤ 2097156 := by rw [ByteArray.size_append]; have := sz_one 60; omega
        have s2 : (Txt Q ++ (⟨#[32]⟩ : ByteArray) ++ (⟨#[60]⟩ : ByteArray) ++ Txt u).size ≤ 1075838980 := by rw [ByteArray.size_append]; omega
        have s3 : (Txt Q ++ (⟨#[32]⟩ : ByteArray) ++ (⟨#[60]⟩ : ByteArray) ++ Txt u ++ (⟨#[62]⟩ : ByteArray)).size ≤ 1075838981 := by rw [ByteArray.size_append]; have := sz_one 62; omega
        have Hcat := Lib.hid ((congrArg (fun z => z ++ (⟨#[60]⟩ : ByteArray) ++ Txt u ++ (⟨#[62]⟩ : ByteArray) ++ Txt p) (cat_txt Q [32])).trans ((congrArg (fun z => z ++ Txt u ++ (⟨#[62]⟩ : ByteArray) ++ Txt p) (cat_txt _ [60])).trans ((congrArg (fun z => z ++ (⟨#[62]⟩ : ByteArray) ++ Txt p) (cat_txt _ u)).trans ((congrArg (fun z => z ++ Txt p) (cat_txt _ [62])).trans (cat_txt _ p)))) : Txt Q ++ (⟨#[32]⟩ : ByteArray) ++ (⟨#[60]⟩ : ByteArray) ++ Txt u ++ (⟨#[62]⟩ : ByteArray) ++ Txt p = Txt (Q ++ [32] ++ [60] ++ u ++ [62] ++ p))
        have HY2 := Lib.hid (by rw [HY.out, HD.out] : R = some (Q ++ [32] ++ [60] ++ u ++ [62] ++ p))
        clear hde hq hQ
        go_wp2_with fail
        refine (HQt.out _).mono ?_
        rintro e w5 ⟨rfl, hB5⟩
        have K5 := Lib.hid (K4.out.below hB5);clear hB5 b0
        rw [show (⟨Q.toArray⟩ : ByteArray) = Txt Q from rfl]
        go_wp2_with fail
        go_ret2
        exact PrK.some HY2.out Hcat.out K5.out
end Ad
end Go.Proofs.YtbcaindpbeaheaaGreatDoor
namespace Go.Proofs.YtbcaindpbeaheaaGreatDoor
namespace Ad
open Go.RowKit Lx
section
variable {b i p : Nat} {s : ByteArray} {e : Int} {w w' : World} {X : List Nat}
end
def IsP (x : Bool) (w : World) (e : Ending) (w' : World) : Prop := e = .returned (.bool x) ∧ ∃ n, w' = w.drewN n
theorem IsP.k {x : Bool} {w w' : World} {e : Ending} (h : IsP x w e w') : BoK x w e w' := ⟨h.1, by obtain ⟨n, hn⟩ := h.2; rw [hn]; exact (Kp.refl [] w).drewN n⟩
end Ad
end Go.Proofs.YtbcaindpbeaheaaGreatDoor
namespace Go.Proofs.YtbcaindpbeaheaaGreatDoor
namespace Ad
open Go.RowKit Lx
theorem results_four {fn : Func} {t u v x : Tmp} (h : fn.results = #[.tmp t, .tmp u, .tmp v, .tmp x]) (tmps : Array Value) (P : Program) (w : World) :
   (results fn tmps).run P w = .ok (.tuple #[tmps.getD t undef, tmps.getD u undef, tmps.getD v undef, tmps.getD x undef]) w := by
 simp [results, h]
end Ad
end Go.Proofs.YtbcaindpbeaheaaGreatDoor
namespace Go.Proofs.YtbcaindpbeaheaaGreatDoor
namespace Ad
open Go.RowKit Lx
theorem Urb.far {bu : Nat} {S U H P vp vh : Value} {w : World} (h : Urb w bu S U H P vp vh) {p : Addr} (hp : bu ≠ p.block) (u : Value) : Urb (w.setCell p u) bu S U H P vp vh := Blk.far h hp u
end Ad
end Go.Proofs.YtbcaindpbeaheaaGreatDoor
namespace Go.Proofs.YtbcaindpbeaheaaGreatDoor
namespace Ad
open Go.RowKit Lx
theorem tokE_len (l : List UInt8) (k : Nat) (hk : k ≤ l.length) : tokE l k ≤ l.length := by
 have := runL_le tokI (l.drop k)
 rw [List.length_drop] at this
 unfold tokE; omega
theorem blkE_len (l : List UInt8) (k : Nat) (hk : k ≤ l.length) : blkE l k ≤ l.length := by
 have := runL_le blankI (l.drop k)
 rw [List.length_drop] at this
 unfold blkE; omega
end Ad
end Go.Proofs.YtbcaindpbeaheaaGreatDoor
namespace Go.Proofs.YtbcaindpbeaheaaGreatDoor
namespace Ad
open Go.RowKit Lx
theorem parF_len (l : List UInt8) : ∀ (n k : Nat) (acc : List Prm), acc.length ≤ 16 → (parF n l k acc).1.length ≤ 16 := by
 intro n
 induction n with
 | zero => intro k acc h; exact h
 | succ n ih =>
   intro k acc h
   rcases Nat.lt_or_ge k l.length with hk | hk
   ·by_cases h59 : atB l k = 59
    ·by_cases h3 : (pmR l (blkE l (k + 1))).2.2 = 0
     ·by_cases h4 : room acc (pmR l (blkE l (k + 1))).1.1 = 0
      ·rw [parF_step n l k acc hk h59 h3 h4]
       refine ih _ _ ?_
       rw [List.length_append, List.length_singleton]
       have : acc.length ≠ 16 := by
        intro h16
        unfold room at h4
        by_cases hany : (acc.any fun q => q.1 == (pmR l (blkE l (k + 1))).1.1) = true
        ·rw [if_pos hany] at h4; exact absurd h4 (by decide)
        ·rw [if_neg hany, if_pos h16] at h4; exact absurd h4 (by decide)
       omega
      ·rw [parF_err3 n l k acc hk h59 h3 h4]; exact Nat.zero_le _
     ·rw [parF_err2 n l k acc hk h59 h3]; exact Nat.zero_le _
    ·rw [parF_err1 n l k acc hk h59]; exact Nat.zero_le _
   ·rw [parF_end n l k acc hk]; exact h
end Ad
end Go.Proofs.YtbcaindpbeaheaaGreatDoor
namespace Go.Proofs.YtbcaindpbeaheaaGreatDoor
namespace Ad
open Go.RowKit Lx
theorem decL_lt (n : Nat) (h : n < 10) : decL n = [(48 + n).toUInt8] := by rw [decL, if_pos h]
theorem decL_ge (n : Nat) (h : ¬ n < 10) : decL n = decL (n / 10) ++ [(48 + n % 10).toUInt8] := by rw [decL, if_neg h]
theorem decL_len (n : Nat) : n ≤ 65535 → (decL n).length ≤ 20 := by
 have key : ∀ k n : Nat, n < 10 ^ k → (decL n).length ≤ k + 1 := by
  intro k
  induction k with
  | zero => intro n h; rw [decL_lt n (by omega)]; simp
  | succ k ih =>
    intro n h
    by_cases h10 : n < 10
    ·rw [decL_lt n h10]; simp
    ·rw [decL_ge n h10, List.length_append]
     have := ih (n / 10) (by rw [Nat.pow_succ] at h; omega)
     simp; omega
 intro h
 have := key 5 n (by omega)
 omega
end Ad
end Go.Proofs.YtbcaindpbeaheaaGreatDoor
