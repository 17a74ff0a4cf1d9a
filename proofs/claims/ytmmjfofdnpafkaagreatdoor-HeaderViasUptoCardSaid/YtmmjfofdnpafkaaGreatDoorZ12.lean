/- Texts of one set of library modules: M11, M12, M13, HeR, HeS, HeZf, HeTa, HeTc. -/
import Derived.Test.YtmmjfofdnpafkaaGreatDoorZ11
import Derived.Test.YtmmjfofdnpafkaaGreatDoorZ9
import Derived.Test.YtmmjfofdnpafkaaGreatDoorZ10
import Derived.Test.YtmmjfofdnpafkaaGreatDoorZ3
import Derived.Laws.Rows
import Derived.Test.YtmmjfofdnpafkaaGreatDoorZ4
import Derived.Lib.IndexAny
import Derived.Laws.Runes
import Derived.Laws.RangeAny
import Derived.Laws.RangeString
import Derived.Lib.OthersKept
import Derived.Test.YtmmjfofdnpafkaaGreatDoorZ6
import Derived.Test.YtmmjfofdnpafkaaGreatDoorZ1
namespace Go.Proofs.YtmmjfofdnpafkaaGreatDoor
namespace Ad
open Go.RowKit Lx
def uprB (c : UInt8) : UInt8 := if 97 ≤ c.toNat ∧ c.toNat ≤ 122 then c - 32 else c
def uprL (l : List UInt8) : List UInt8 := l.map uprB
def capF : Bool → List UInt8 → List UInt8
 | _, [] => []
 | b, c :: t => (if b then uprB c else c) :: capF ((((if b then uprB c else c).toNat : Int)) == 45) t
theorem capF_len : ∀ (l : List UInt8) (b : Bool), (capF b l).length = l.length := by
 intro l
 induction l with
 | nil => intro b; rfl
 | cons c t ih => intro b; simp [capF, ih]
theorem uprB_nat (c : UInt8) : (uprB c).toNat = if 97 ≤ c.toNat ∧ c.toNat ≤ 122 then c.toNat - 32 else c.toNat := by
 unfold uprB
 have := c.toNat_lt
 split
 ·rw [UInt8.toNat_sub]; simp; omega
 ·rfl
set_option maxRecDepth 100000 in
set_option maxHeartbeats 1000000 in
theorem hlower_any (c : UInt8) (w : World) : Calls Tryz.prog 117 #[.int .u8 (c.toNat : Int)] w (Ret (.int .u8 ((lowB c).toNat : Int)) w) := by
 have hn := lowB_nat c;have hlt := c.toNat_lt
 obtain ⟨n, hc⟩ : ∃ n, c.toNat = n := ⟨_, rfl⟩
 rw [hc] at hn hlt ⊢
 obtain ⟨m, hm⟩ : ∃ m, (lowB c).toNat = m := ⟨_, rfl⟩
 rw [hm] at hn ⊢
 clear hc hm
 by_cases hu : 65 ≤ n ∧ n ≤ 90
 ·rw [if_pos hu] at hn
  obtain ⟨u1, u2⟩ := hu
  have i1 : IntKind.u8.wrap ((n : Int) - 65) = (n : Int) - 65 := IntWalk.u8_in _ (by omega)
  have i2 : IntKind.u8.wrap ((n : Int) - 65 + 97) = (n : Int) - 65 + 97 := IntWalk.u8_in _ (by omega)
  have Hn := Lib.hid (by omega : (n : Int) - 65 + 97 = (m : Int))
  clear hn
  go_enter Tryz.func117, Tryz.ntmps117
  go_wp2_with fail
  go_ret
  exact ⟨ret_int Hn.out, rfl⟩
 ·rw [if_neg hu] at hn
  have Hn := Lib.hid (by omega : (n : Int) = (m : Int))
  by_cases u1 : 65 ≤ n
  ·have u2 : ¬ n ≤ 90 := fun h => hu ⟨u1, h⟩
   clear hn hu
   go_enter Tryz.func117, Tryz.ntmps117
   go_wp2_with fail
   go_ret
   exact ⟨ret_int Hn.out, rfl⟩
  ·clear hn hu
   go_enter Tryz.func117, Tryz.ntmps117
   go_wp2_with fail
   go_ret
   exact ⟨ret_int Hn.out, rfl⟩
set_option maxRecDepth 100000 in
set_option maxHeartbeats 1000000 in
theorem hupper_any (c : UInt8) (w : World) : Calls Tryz.prog 90 #[.int .u8 (c.toNat : Int)] w (Ret (.int .u8 ((uprB c).toNat : Int)) w) := by
 have hn := uprB_nat c;have hlt := c.toNat_lt
 obtain ⟨n, hc⟩ : ∃ n, c.toNat = n := ⟨_, rfl⟩
 rw [hc] at hn hlt ⊢
 obtain ⟨m, hm⟩ : ∃ m, (uprB c).toNat = m := ⟨_, rfl⟩
 rw [hm] at hn ⊢
 clear hc hm
 by_cases hu : 97 ≤ n ∧ n ≤ 122
 ·rw [if_pos hu] at hn
  obtain ⟨u1, u2⟩ := hu
  have i1 : IntKind.u8.wrap ((n : Int) - 97) = (n : Int) - 97 := IntWalk.u8_in _ (by omega)
  have i2 : IntKind.u8.wrap ((n : Int) - 97 + 65) = (n : Int) - 97 + 65 := IntWalk.u8_in _ (by omega)
  have Hn := Lib.hid (by omega : (n : Int) - 97 + 65 = (m : Int))
  clear hn
  go_enter Tryz.func90, Tryz.ntmps90
  go_wp2_with fail
  go_ret
  exact ⟨ret_int Hn.out, rfl⟩
 ·rw [if_neg hu] at hn
  have Hn := Lib.hid (by omega : (n : Int) = (m : Int))
  by_cases u1 : 97 ≤ n
  ·have u2 : ¬ n ≤ 122 := fun h => hu ⟨u1, h⟩
   clear hn hu
   go_enter Tryz.func90, Tryz.ntmps90
   go_wp2_with fail
   go_ret
   exact ⟨ret_int Hn.out, rfl⟩
  ·clear hn hu
   go_enter Tryz.func90, Tryz.ntmps90
   go_wp2_with fail
   go_ret
   exact ⟨ret_int Hn.out, rfl⟩
set_option maxRecDepth 100000 in
set_option maxHeartbeats 1000000 in
theorem hcap1_any (c : UInt8) (g : Nat) (b : Bool) (w : World) (hc : w.cell? ⟨g, 0, none⟩ = some (.bool b)) (hf : w.frozen? ⟨g, 0, none⟩ = false) :
   Calls Tryz.prog 198 #[.int .u8 (c.toNat : Int), .pointer (some ⟨g, 0, none⟩)] w (fun e w' => e = .returned (.int .u8 ((if b then uprB c else c).toNat : Int)) ∧ w' = w.setCell ⟨g, 0, none⟩ (.bool ((((if b then uprB c else c).toNat : Int)) == 45))) := by
 cases b
 ·rw [if_neg (by decide)]
  go_enter Tryz.func198, Tryz.ntmps198
  go_wp2_with fail
  go_ret
  exact ⟨rfl, rfl⟩
 ·rw [if_pos rfl]
  go_enter Tryz.func198, Tryz.ntmps198
  go_wp2_with fail
  refine (hupper_any c _).mono ?_
  rintro e w2 ⟨rfl, hw⟩
  obtain rfl := hw
  go_wp2_with fail
  go_ret
  exact ⟨rfl, rfl⟩
def mpAt (s : ByteArray) (T : List UInt8) (j i : Nat) (h : i < s.size) : Int := if i < j then (T.getD i 0).toNat else s[i].toNat
theorem mpAt_at (s : ByteArray) (T : List UInt8) (i : Nat) (h : i < s.size) : mpAt s T i i h = s[i].toNat := by unfold mpAt; rw [if_neg (by omega)]
theorem mpAt_next (s : ByteArray) (T : List UInt8) (j i : Nat) (h : i < s.size) (hn : i ≠ j) : mpAt s T (j + 1) i h = mpAt s T j i h := by
 unfold mpAt
 by_cases hl : i < j
 ·rw [if_pos hl, if_pos (by omega)]
 ·rw [if_neg hl, if_neg (by omega)]
theorem mpAt_new (s : ByteArray) (T : List UInt8) (j : Nat) (h : j < s.size) : mpAt s T (j + 1) j h = (T.getD j 0).toNat := by unfold mpAt; rw [if_pos (by omega)]
structure MpR (s : ByteArray) (T : List UInt8) (B j : Nat) (w : World) : Prop where
 cell : ∀ i (h : i < s.size), w.cell? ⟨B, i, none⟩ = some (.int .u8 (mpAt s T j i h))
 soft : ∀ i, i < s.size → w.frozen? ⟨B, i, none⟩ = false
theorem MpR.put {s : ByteArray} {T : List UInt8} {B j : Nat} {w : World} (h : MpR s T B j w) (hj : j < s.size) (x : Int) (he : ((T.getD j 0).toNat : Int) = x) : MpR s T B (j + 1) (w.setCell ⟨B, j, none⟩ (.int .u8 x)) := by
 refine ⟨fun i hi => ?_, fun i hi => by rw [World.frozen?_setCell]; exact h.soft i hi⟩
 by_cases hij : i = j
 ·subst hij
  rw [mpAt_new, he]; exact World.cell?_setCell_same _ _ _ (h.cell i hi)
 ·rw [mpAt_next s T j i hi hij]; exact (World.cell?_setCell_other _ _ _ _ (by intro e; injection e with _ e2; exact hij e2.symm)).trans (h.cell i hi)
theorem MpR.far {s : ByteArray} {T : List UInt8} {B j : Nat} {w : World} (h : MpR s T B j w) {p : Addr} (hp : p.block ≠ B) (u : Value) : MpR s T B j (w.setCell p u) :=
 ⟨fun i hi => (World.cell?_setCell_other _ _ _ _ (by intro e; rw [e] at hp; exact hp rfl)).trans (h.cell i hi), fun i hi => by rw [World.frozen?_setCell]; exact h.soft i hi⟩
theorem MpR.start (s : ByteArray) (T : List UInt8) (cap : Nat) (w : World) : MpR s T w.heap.size 0 (w.alloc (.cells (bytesRow s cap) 5 ((bytesRow s cap).size, (bytesRow s cap).size + 1))) := by
 have hsz : ∀ i, i < s.size → i < (bytesRow s cap).size := fun i hi => by unfold bytesRow; simp; omega
 refine ⟨fun i hi => ?_, fun i hi => ?_⟩
 ·rw [World.cell?_alloc_mark, bytesRow_at s cap i hi]; unfold mpAt; rw [if_neg (by omega)]; rfl
 ·rw [World.frozen?_alloc_mark, decide_eq_false (by have := hsz i hi; omega)]; rfl
theorem MpR.back {s : ByteArray} {T : List UInt8} {B j cap : Nat} {w : World} (h : MpR s T B j w) (hj : s.size ≤ j) (hT : T.length = s.size) : (convert 118 9 (.slice (some ⟨B, 0, none⟩) s.size cap)).run Tryz.prog w = .ok (.string ⟨T.toArray⟩) w := by
 have := run_convert_bytes_back (P := Tryz.prog) w 118 9 5 ⟨B, 0, none⟩ cap T Tryz.underlying118 Tryz.underlying5 Tryz.underlying9 (fun i hi => by
  have hi2 : i < s.size := by omega
  have hadd : (⟨B, 0, none⟩ : Addr).add i = ⟨B, i, none⟩ := by unfold Addr.add; split <;> simp_all
  rw [hadd, h.cell i hi2]
  unfold mpAt
  rw [if_pos (by omega), List.getD_eq_getElem?_getD, List.getElem?_eq_getElem hi]
  rfl)
 rw [hT] at this
 exact this
theorem map_getD (f : UInt8 → UInt8) (s : ByteArray) (j : Nat) (h : j < s.size) : (s.data.toList.map f).getD j 0 = f s[j] := by
 rw [List.getD_eq_getElem?_getD, List.getElem?_map, List.getElem?_eq_getElem (by rw [len_list]; exact h)]
 rfl
set_option maxRecDepth 100000 in
set_option maxHeartbeats 4000000 in
theorem each_low (s : ByteArray) (w : World) (hs : s.size ≤ 1099511627776) :
   Calls Tryz.prog 89 #[.string s, .func (.func 117) #[] #[]] w (RetNew (lowL s.data.toList) w) := by
 have hconv := run_bytes_of_string (P := Tryz.prog) w 9 118 5 s Tryz.underlying9 Tryz.underlying118 Tryz.underlying5
 obtain ⟨cap, hcap⟩ : ∃ cap, grownCap w s.size 0 5 = cap := ⟨_, rfl⟩
 obtain ⟨T, hT⟩ : ∃ T, lowL s.data.toList = T := ⟨_, rfl⟩
 have hTl : T.length = s.size := by rw [← hT]; unfold lowL; rw [List.length_map, len_list]
 have HTg := Lib.hid (fun (j : Nat) (h : j < s.size) => (by rw [← hT]; exact map_getD lowB s j h : T.getD j 0 = lowB s[j]))
 have HTl := Lib.hid hTl;have HS := Lib.hid (MpR.start s T cap w)
 rw [hT]
 rw [hcap] at hconv
 obtain ⟨C, hC⟩ : ∃ C, bytesRow s cap = C := ⟨_, rfl⟩
 rw [hC] at hconv
 have HS := Lib.hid (by have := HS.out; rw [hC] at this; exact this : MpR s T w.heap.size 0 (w.alloc (.cells C 5 (C.size, C.size + 1))))
 clear hcap hC hT hTl
 go_enter Tryz.func89, Tryz.ntmps89
 go_wp2_with fail
 go_loopw [12] (fun i wr => ∃ j : Nat, j ≤ s.size ∧ i = .int .i64 j ∧ MpR s T w.heap.size j wr ∧ Below w.heap.size w wr) (fun i _ => s.size - (intOf i).toNat)
 case atStart => exact ⟨0, by omega, rfl, ⟨HS.out.cell, HS.out.soft⟩, ((Below.refl _ w).alloc (Nat.le_refl _) _).drew⟩
 case round =>
  obtain ⟨j, hj, rfl, hL, hB⟩ := hrel
  have HL := Lib.hid hL;clear hL;have hsz := hB.size
  by_cases hlt : j < s.size
  ·have hcj := HL.out.cell j hlt
   rw [mpAt_at] at hcj
   have hfj := HL.out.soft j hlt
   have Hn := Lib.hid (congrArg (fun z : UInt8 => (z.toNat : Int)) (HTg.out j hlt))
   have HCa := Lib.hid (fun wz => hlower_any s[j] wz)
   go_wp2_with fail
   refine (HCa.out _).mono ?_
   rintro e w2 ⟨rfl, hw⟩
   obtain rfl := hw
   go_wp2_with fail
   go_roundw
   case rel => exact ⟨j + 1, by omega, by go_num, HL.out.put hlt _ Hn.out, hB.setCell (by simp) _⟩
   case measure => simp [intOf]; omega
  ·have hbk := HL.out.back (cap := cap) (by omega) HTl.out
   go_wp2_with fail
   go_ret
   exact ⟨rfl, hB⟩
set_option maxRecDepth 100000 in
set_option maxHeartbeats 4000000 in
theorem each_up (s : ByteArray) (w : World) (hs : s.size ≤ 1099511627776) :
   Calls Tryz.prog 89 #[.string s, .func (.func 90) #[] #[]] w (RetNew (uprL s.data.toList) w) := by
 have hconv := run_bytes_of_string (P := Tryz.prog) w 9 118 5 s Tryz.underlying9 Tryz.underlying118 Tryz.underlying5
 obtain ⟨cap, hcap⟩ : ∃ cap, grownCap w s.size 0 5 = cap := ⟨_, rfl⟩
 obtain ⟨T, hT⟩ : ∃ T, uprL s.data.toList = T := ⟨_, rfl⟩
 have hTl : T.length = s.size := by rw [← hT]; unfold uprL; rw [List.length_map, len_list]
 have HTg := Lib.hid (fun (j : Nat) (h : j < s.size) => (by rw [← hT]; exact map_getD uprB s j h : T.getD j 0 = uprB s[j]))
 have HTl := Lib.hid hTl;have HS := Lib.hid (MpR.start s T cap w)
 rw [hT]
 rw [hcap] at hconv
 obtain ⟨C, hC⟩ : ∃ C, bytesRow s cap = C := ⟨_, rfl⟩
 rw [hC] at hconv
 have HS := Lib.hid (by have := HS.out; rw [hC] at this; exact this : MpR s T w.heap.size 0 (w.alloc (.cells C 5 (C.size, C.size + 1))))
 clear hcap hC hT hTl
 go_enter Tryz.func89, Tryz.ntmps89
 go_wp2_with fail
 go_loopw [12] (fun i wr => ∃ j : Nat, j ≤ s.size ∧ i = .int .i64 j ∧ MpR s T w.heap.size j wr ∧ Below w.heap.size w wr) (fun i _ => s.size - (intOf i).toNat)
 case atStart => exact ⟨0, by omega, rfl, ⟨HS.out.cell, HS.out.soft⟩, ((Below.refl _ w).alloc (Nat.le_refl _) _).drew⟩
 case round =>
  obtain ⟨j, hj, rfl, hL, hB⟩ := hrel
  have HL := Lib.hid hL;clear hL;have hsz := hB.size
  by_cases hlt : j < s.size
  ·have hcj := HL.out.cell j hlt
   rw [mpAt_at] at hcj
   have hfj := HL.out.soft j hlt
   have Hn := Lib.hid (congrArg (fun z : UInt8 => (z.toNat : Int)) (HTg.out j hlt))
   have HCa := Lib.hid (fun wz => hupper_any s[j] wz)
   go_wp2_with fail
   refine (HCa.out _).mono ?_
   rintro e w2 ⟨rfl, hw⟩
   obtain rfl := hw
   go_wp2_with fail
   go_roundw
   case rel => exact ⟨j + 1, by omega, by go_num, HL.out.put hlt _ Hn.out, hB.setCell (by simp) _⟩
   case measure => simp [intOf]; omega
  ·have hbk := HL.out.back (cap := cap) (by omega) HTl.out
   go_wp2_with fail
   go_ret
   exact ⟨rfl, hB⟩
theorem capF_step (b : Bool) (s : ByteArray) (T : List UInt8) (j : Nat) (h : j < s.size) (hT : T.drop j = capF b (s.data.toList.drop j)) :
   T.getD j 0 = (if b then uprB s[j] else s[j]) ∧ T.drop (j + 1) = capF ((((if b then uprB s[j] else s[j]).toNat : Int)) == 45) (s.data.toList.drop (j + 1)) := by
 rw [drop_step s j h, capF] at hT
 have h1 : T[j]? = some (if b then uprB s[j] else s[j]) := by
  have := congrArg (·[0]?) hT
  simpa using this
 refine ⟨by rw [List.getD_eq_getElem?_getD, h1]; rfl, ?_⟩
 have := congrArg (·.drop 1) hT
 simpa [List.drop_drop] using this
set_option maxRecDepth 100000 in
set_option maxHeartbeats 4000000 in
theorem each_cap (s : ByteArray) (b0 : Bool) (g : Nat) (w : World) (hs : s.size ≤ 1099511627776) (hg : g < w.heap.size) (hc : w.cell? ⟨g, 0, none⟩ = some (.bool b0)) (hf : w.frozen? ⟨g, 0, none⟩ = false) :
   Calls Tryz.prog 89 #[.string s, .func (.func 198) #[] #[.pointer (some ⟨g, 0, none⟩)]] w (fun e w' => e = .returned (.string (Txt (capF b0 s.data.toList))) ∧ Kp [g] w w') := by
 have hconv := run_bytes_of_string (P := Tryz.prog) w 9 118 5 s Tryz.underlying9 Tryz.underlying118 Tryz.underlying5
 obtain ⟨cap, hcap⟩ : ∃ cap, grownCap w s.size 0 5 = cap := ⟨_, rfl⟩
 obtain ⟨T, hT⟩ : ∃ T, capF b0 s.data.toList = T := ⟨_, rfl⟩
 have hTl : T.length = s.size := by rw [← hT, capF_len, len_list]
 have HT0 := Lib.hid (show T.drop 0 = capF b0 (s.data.toList.drop 0) from by rw [List.drop_zero, List.drop_zero]; exact hT.symm)
 have HTl := Lib.hid hTl;have HS := Lib.hid (MpR.start s T cap w)
 rw [hT]
 rw [hcap] at hconv
 obtain ⟨C, hC⟩ : ∃ C, bytesRow s cap = C := ⟨_, rfl⟩
 rw [hC] at hconv
 have HS := Lib.hid (by have := HS.out; rw [hC] at this; exact this : MpR s T w.heap.size 0 (w.alloc (.cells C 5 (C.size, C.size + 1))))
 have HC0 := Lib.hid ((World.cell?_alloc_lt w (.cells C 5 (C.size, C.size + 1)) ⟨g, 0, none⟩ hg).trans hc)
 have HF0 := Lib.hid (show (w.alloc (.cells C 5 (C.size, C.size + 1))).frozen? ⟨g, 0, none⟩ = false from by
  have := Below.heap_alloc w (.cells C 5 (C.size, C.size + 1)) g hg
  unfold World.frozen? at hf ⊢
  dsimp only at hf ⊢
  rw [this]; exact hf)
 clear hcap hC hT hTl hc hf
 go_enter Tryz.func89, Tryz.ntmps89
 go_wp2_with fail
 go_loopw [12] (fun i wr => ∃ (j : Nat) (b : Bool), j ≤ s.size ∧ i = .int .i64 j ∧ MpR s T w.heap.size j wr ∧ Kp [g] w wr ∧ wr.cell? ⟨g, 0, none⟩ = some (.bool b) ∧ wr.frozen? ⟨g, 0, none⟩ = false ∧ T.drop j = capF b (s.data.toList.drop j)) (fun i _ => s.size - (intOf i).toNat)
 case atStart => exact ⟨0, b0, by omega, rfl, ⟨HS.out.cell, HS.out.soft⟩, ((Kp.refl _ w).alloc _).drew, HC0.out, HF0.out, HT0.out⟩
 case round =>
  obtain ⟨j, b, hj, rfl, hL, hK, hgc, hgf, hTj⟩ := hrel
  have HL := Lib.hid hL;have HK := Lib.hid hK;have HTj := Lib.hid hTj;have Hgc := Lib.hid hgc;have Hgf := Lib.hid hgf;have hsz := hK.size;clear hL hTj hK hgc hgf
  by_cases hlt : j < s.size
  ·have hcj := HL.out.cell j hlt
   rw [mpAt_at] at hcj
   obtain ⟨st1, st2⟩ := capF_step b s T j hlt HTj.out
   obtain ⟨y, hy⟩ : ∃ y, (if b then uprB s[j] else s[j]) = y := ⟨_, rfl⟩
   have HCa := Lib.hid (by have h := hcap1_any s[j] g b wr Hgc.out Hgf.out; rw [hy] at h; exact h)
   rw [hy] at st1 st2
   have Hn := Lib.hid (congrArg (fun z : UInt8 => (z.toNat : Int)) st1)
   have Hst := Lib.hid st2
   have hgB : g ≠ w.heap.size := by omega
   clear st1 st2 hy
   obtain ⟨w2, hw2⟩ : ∃ x, wr.setCell ⟨g, 0, none⟩ (.bool (((y.toNat : Int)) == 45)) = x := ⟨_, rfl⟩
   have L2 := Lib.hid (show MpR s T w.heap.size j w2 from by rw [← hw2]; exact HL.out.far (p := ⟨g, 0, none⟩) hgB _)
   have K2 := Lib.hid (show Kp [g] w w2 from by rw [← hw2]; exact HK.out.setCell (p := ⟨g, 0, none⟩) (.inl (by simp)) _)
   have G2 := Lib.hid (show w2.cell? ⟨g, 0, none⟩ = some (.bool (((y.toNat : Int)) == 45)) from by rw [← hw2]; exact World.cell?_setCell_same _ _ _ Hgc.out)
   have F2 := Lib.hid (show w2.frozen? ⟨g, 0, none⟩ = false from by rw [← hw2, World.frozen?_setCell]; exact Hgf.out)
   have hHC := HCa.out
   rw [hw2] at hHC
   have HC2 := Lib.hid hHC;clear hHC hw2 HCa;have hfj := L2.out.soft j hlt
   go_wp2_with fail
   refine HC2.out.mono ?_
   rintro e w3 ⟨rfl, rfl⟩
   have hcj2 := L2.out.cell j hlt
   rw [mpAt_at] at hcj2
   go_wp2_with fail
   go_roundw
   case rel => exact ⟨j + 1, _, by omega, by go_num, L2.out.put hlt _ Hn.out, K2.out.setCell (p := ⟨w.heap.size, j, none⟩) (.inr (Nat.le_refl _)) _, (World.cell?_setCell_other _ _ _ _ (by intro e; injection e with e1; exact hgB e1.symm)).trans G2.out, by rw [World.frozen?_setCell]; exact F2.out, Hst.out⟩
   case measure => simp [intOf]; omega
  ·have hbk := HL.out.back (cap := cap) (by omega) HTl.out
   go_wp2_with fail
   go_ret
   exact ⟨rfl, HK.out⟩
set_option maxRecDepth 100000 in
set_option maxHeartbeats 1000000 in
theorem hcapitalized_any (s : ByteArray) (w : World) (hs : s.size ≤ 1099511627776) :
   Calls Tryz.prog 118 #[.string s] w (TxK (capF true s.data.toList) w) := by
 obtain ⟨g, hg⟩ : ∃ x, w.heap.size = x := ⟨_, rfl⟩
 obtain ⟨w1, hw1⟩ : ∃ x, w.alloc (.cells #[.bool true] 4) = x := ⟨_, rfl⟩
 have b1 : Blk w1 g 4 #[.bool true] := by rw [← hw1, ← hg]; exact Blk.new w _ _
 have K1 := Lib.hid (show Kp [] w w1 from by rw [← hw1]; exact (Kp.refl _ _).alloc _)
 have HE := Lib.hid (each_cap s true g w1 hs b1.lt (b1.cell 0) (b1.frozen 0))
 have hgw : w.heap.size ≤ g := by omega
 clear b1
 go_enter Tryz.func118, Tryz.ntmps118
 go_wp2_with fail
 refine HE.out.mono ?_
 rintro e w2 ⟨rfl, hK2⟩
 go_wp2_with fail
 go_ret
 exact ⟨rfl, K1.out.to_ hK2 (by intro y hy; right; rw [List.mem_singleton.1 hy]; exact hgw)⟩
end Ad
end Go.Proofs.YtmmjfofdnpafkaaGreatDoor
namespace Go.Proofs.YtmmjfofdnpafkaaGreatDoor
namespace Ad
open Go.RowKit Lx
theorem run_index_rows {P : Program} (w : World) (xt elem : TypeId) (len size : Nat) (cs : Array Value) (j : Nat) (hu : P.underlying xt = some (.array len elem)) (hs : ∀ w, (sizeOf elem).run P w = .ok size w) (ha : ∀ w, (isAgg elem).run P w = .ok true w) (hj : j < len) :
   (Instr.index xt (.agg cs) (.int .i64 (j : Int))).run P w = .ok (.agg (cs.extract (j * size) (j * size + size))) w := by
 have h1 : (0 : Int) ≤ (j : Int) ∧ (j : Int) < (len : Int) := ⟨by omega, by omega⟩
 unfold Instr.index part
 simp [asIntOf, run_underlying hu, hs, ha, h1, Sem.run_bind, Result.andThen, hj]
theorem run_index_one {P : Program} (w : World) (xt elem : TypeId) (len : Nat) (cs : Array Value) (j : Nat) (v : Value) (hu : P.underlying xt = some (.array len elem)) (hs : ∀ w, (sizeOf elem).run P w = .ok 1 w) (ha : ∀ w, (isAgg elem).run P w = .ok false w) (hj : j < len) (hv : cs[j]? = some v) :
   (Instr.index xt (.agg cs) (.int .i64 (j : Int))).run P w = .ok v w := by
 have h1 : (0 : Int) ≤ (j : Int) ∧ (j : Int) < (len : Int) := ⟨by omega, by omega⟩
 unfold Instr.index part
 simp [asIntOf, run_underlying hu, hs, ha, h1, Sem.run_bind, Result.andThen, hj, hv]
def shortL : List (List UInt8 × List UInt8) := [([98], [82, 101, 102, 101, 114, 114, 101, 100, 45, 66, 121]), ([99], [67, 111, 110, 116, 101, 110, 116, 45, 84, 121, 112, 101]), ([101], [67, 111, 110, 116, 101, 110, 116, 45, 69, 110, 99, 111, 100, 105, 110, 103]), ([102], [70, 114, 111, 109]), ([105], [67, 97, 108, 108, 45, 73, 68]), ([107], [83, 117, 112, 112, 111, 114, 116, 101, 100]), ([108], [67, 111, 110, 116, 101, 110, 116, 45, 76, 101, 110, 103, 116, 104]), ([109], [67, 111, 110, 116, 97, 99, 116]), ([111], [69, 118, 101, 110, 116]), ([114], [82, 101, 102, 101, 114, 45, 84, 111]), ([115], [83, 117, 98, 106, 101, 99, 116]), ([116], [84, 111]), ([117], [65, 108, 108, 111, 119, 45, 69, 118, 101, 110, 116, 115]), ([118], [86, 105, 97]), ([120], [83, 101, 115, 115, 105, 111, 110, 45, 69, 120, 112, 105, 114, 101, 115])]
def specL : List (List UInt8) := [[67, 97, 108, 108, 45, 73, 68], [67, 83, 101, 113], [77, 73, 77, 69, 45, 86, 101, 114, 115, 105, 111, 110], [77, 105, 110, 45, 83, 69], [82, 65, 99, 107], [82, 83, 101, 113], [87, 87, 87, 45, 65, 117, 116, 104, 101, 110, 116, 105, 99, 97, 116, 101]]
def kindL : List (List UInt8 × Int × Bool) := [([70, 114, 111, 109], 1, false), ([84, 111], 1, false), ([67, 111, 110, 116, 97, 99, 116], 1, true), ([82, 111, 117, 116, 101], 1, true), ([82, 101, 99, 111, 114, 100, 45, 82, 111, 117, 116, 101], 1, true), ([80, 97, 116, 104], 1, true), ([83, 101, 114, 118, 105, 99, 101, 45, 82, 111, 117, 116, 101], 1, true), ([82, 101, 102, 101, 114, 45, 84, 111], 1, false), ([82, 101, 102, 101, 114, 114, 101, 100, 45, 66, 121], 1, false), ([82, 101, 112, 108, 121, 45, 84, 111], 1, false), ([86, 105, 97], 2, true), ([67, 83, 101, 113], 3, false), ([82, 65, 99, 107], 4, false), ([67, 111, 110, 116, 101, 110, 116, 45, 76, 101, 110, 103, 116, 104], 5, false), ([69, 120, 112, 105, 114, 101, 115], 5, false), ([77, 97, 120, 45, 70, 111, 114, 119, 97, 114, 100, 115], 5, false), ([77, 105, 110, 45, 69, 120, 112, 105, 114, 101, 115], 5, false), ([82, 83, 101, 113], 5, false), ([67, 111, 110, 116, 101, 110, 116, 45, 68, 105, 115, 112, 111, 115, 105, 116, 105, 111, 110], 6, false), ([67, 111, 110, 116, 101, 110, 116, 45, 84, 121, 112, 101], 6, false), ([69, 118, 101, 110, 116], 6, false), ([77, 105, 110, 45, 83, 69], 6, false), ([83, 101, 115, 115, 105, 111, 110, 45, 69, 120, 112, 105, 114, 101, 115], 6, false), ([83, 117, 98, 115, 99, 114, 105, 112, 116, 105, 111, 110, 45, 83, 116, 97, 116, 101], 6, false), ([65, 99, 99, 101, 112, 116], 7, true), ([65, 108, 108, 111, 119], 7, true), ([65, 108, 108, 111, 119, 45, 69, 118, 101, 110, 116, 115], 7, true), ([80, 114, 111, 120, 121, 45, 82, 101, 113, 117, 105, 114, 101], 7, true), ([82, 101, 113, 117, 105, 114, 101], 7, true), ([83, 117, 112, 112, 111, 114, 116, 101, 100], 7, true), ([85, 110, 115, 117, 112, 112, 111, 114, 116, 101, 100], 7, true)]
def canS (R : Option (List UInt8)) (low : List UInt8) : List UInt8 := match R with | some z => z | none => capF true low
def canO (R : Option (List UInt8 × List UInt8)) (S : Option (List UInt8)) (low : List UInt8) : List UInt8 := match R with | some p => p.2 | none => canS S low
def canN (l : List UInt8) : List UInt8 := canO (shortL.find? (fun p => p.1 == lowL l)) (specL.find? (fun z => lowL z == lowL l)) (lowL l)
def canB (l : List UInt8) : Bool := tokB l && decide (l.length ≤ 64)
def canR (l : List UInt8) : List UInt8 × Int := if canB l then (canN l, 0) else ([], 5)
def kindO (R : Option (List UInt8 × Int × Bool)) : Int × Bool := match R with | some p => p.2 | none => (0, false)
def kindR (l : List UInt8) : Int × Bool := kindO (kindL.find? (fun p => p.1 == l))
def kindCells : Array Value := #[.string ⟨#[70, 114, 111, 109]⟩, .int .u8 1, .bool false, .string ⟨#[84, 111]⟩, .int .u8 1, .bool false, .string ⟨#[67, 111, 110, 116, 97, 99, 116]⟩, .int .u8 1, .bool true, .string ⟨#[82, 111, 117, 116, 101]⟩, .int .u8 1, .bool true, .string ⟨#[82, 101, 99, 111, 114, 100, 45, 82, 111, 117, 116, 101]⟩, .int .u8 1, .bool true, .string ⟨#[80, 97, 116, 104]⟩, .int .u8 1, .bool true, .string ⟨#[83, 101, 114, 118, 105, 99, 101, 45, 82, 111, 117, 116, 101]⟩, .int .u8 1, .bool true, .string ⟨#[82, 101, 102, 101, 114, 45, 84, 111]⟩, .int .u8 1, .bool false, .string ⟨#[82, 101, 102, 101, 114, 114, 101, 100, 45, 66, 121]⟩, .int .u8 1, .bool false, .string ⟨#[82, 101, 112, 108, 121, 45, 84, 111]⟩, .int .u8 1, .bool false, .string ⟨#[86, 105, 97]⟩, .int .u8 2, .bool true, .string ⟨#[67, 83, 101, 113]⟩, .int .u8 3, .bool false, .string ⟨#[82, 65, 99, 107]⟩, .int .u8 4, .bool false, .string ⟨#[67, 111, 110, 116, 101, 110, 116, 45, 76, 101, 110, 103, 116, 104]⟩, .int .u8 5, .bool false, .string ⟨#[69, 120, 112, 105, 114, 101, 115]⟩, .int .u8 5, .bool false, .string ⟨#[77, 97, 120, 45, 70, 111, 114, 119, 97, 114, 100, 115]⟩, .int .u8 5, .bool false, .string ⟨#[77, 105, 110, 45, 69, 120, 112, 105, 114, 101, 115]⟩, .int .u8 5, .bool false, .string ⟨#[82, 83, 101, 113]⟩, .int .u8 5, .bool false, .string ⟨#[67, 111, 110, 116, 101, 110, 116, 45, 68, 105, 115, 112, 111, 115, 105, 116, 105, 111, 110]⟩, .int .u8 6, .bool false, .string ⟨#[67, 111, 110, 116, 101, 110, 116, 45, 84, 121, 112, 101]⟩, .int .u8 6, .bool false, .string ⟨#[69, 118, 101, 110, 116]⟩, .int .u8 6, .bool false, .string ⟨#[77, 105, 110, 45, 83, 69]⟩, .int .u8 6, .bool false, .string ⟨#[83, 101, 115, 115, 105, 111, 110, 45, 69, 120, 112, 105, 114, 101, 115]⟩, .int .u8 6, .bool false, .string ⟨#[83, 117, 98, 115, 99, 114, 105, 112, 116, 105, 111, 110, 45, 83, 116, 97, 116, 101]⟩, .int .u8 6, .bool false, .string ⟨#[65, 99, 99, 101, 112, 116]⟩, .int .u8 7, .bool true, .string ⟨#[65, 108, 108, 111, 119]⟩, .int .u8 7, .bool true, .string ⟨#[65, 108, 108, 111, 119, 45, 69, 118, 101, 110, 116, 115]⟩, .int .u8 7, .bool true, .string ⟨#[80, 114, 111, 120, 121, 45, 82, 101, 113, 117, 105, 114, 101]⟩, .int .u8 7, .bool true, .string ⟨#[82, 101, 113, 117, 105, 114, 101]⟩, .int .u8 7, .bool true, .string ⟨#[83, 117, 112, 112, 111, 114, 116, 101, 100]⟩, .int .u8 7, .bool true, .string ⟨#[85, 110, 115, 117, 112, 112, 111, 114, 116, 101, 100]⟩, .int .u8 7, .bool true]
def shortCells : Array Value := #[.string ⟨#[98]⟩, .string ⟨#[82, 101, 102, 101, 114, 114, 101, 100, 45, 66, 121]⟩, .string ⟨#[99]⟩, .string ⟨#[67, 111, 110, 116, 101, 110, 116, 45, 84, 121, 112, 101]⟩, .string ⟨#[101]⟩, .string ⟨#[67, 111, 110, 116, 101, 110, 116, 45, 69, 110, 99, 111, 100, 105, 110, 103]⟩, .string ⟨#[102]⟩, .string ⟨#[70, 114, 111, 109]⟩, .string ⟨#[105]⟩, .string ⟨#[67, 97, 108, 108, 45, 73, 68]⟩, .string ⟨#[107]⟩, .string ⟨#[83, 117, 112, 112, 111, 114, 116, 101, 100]⟩, .string ⟨#[108]⟩, .string ⟨#[67, 111, 110, 116, 101, 110, 116, 45, 76, 101, 110, 103, 116, 104]⟩, .string ⟨#[109]⟩, .string ⟨#[67, 111, 110, 116, 97, 99, 116]⟩, .string ⟨#[111]⟩, .string ⟨#[69, 118, 101, 110, 116]⟩, .string ⟨#[114]⟩, .string ⟨#[82, 101, 102, 101, 114, 45, 84, 111]⟩, .string ⟨#[115]⟩, .string ⟨#[83, 117, 98, 106, 101, 99, 116]⟩, .string ⟨#[116]⟩, .string ⟨#[84, 111]⟩, .string ⟨#[117]⟩, .string ⟨#[65, 108, 108, 111, 119, 45, 69, 118, 101, 110, 116, 115]⟩, .string ⟨#[118]⟩, .string ⟨#[86, 105, 97]⟩, .string ⟨#[120]⟩, .string ⟨#[83, 101, 115, 115, 105, 111, 110, 45, 69, 120, 112, 105, 114, 101, 115]⟩]
def specCells : Array Value := #[.string ⟨#[67, 97, 108, 108, 45, 73, 68]⟩, .string ⟨#[67, 83, 101, 113]⟩, .string ⟨#[77, 73, 77, 69, 45, 86, 101, 114, 115, 105, 111, 110]⟩, .string ⟨#[77, 105, 110, 45, 83, 69]⟩, .string ⟨#[82, 65, 99, 107]⟩, .string ⟨#[82, 83, 101, 113]⟩, .string ⟨#[87, 87, 87, 45, 65, 117, 116, 104, 101, 110, 116, 105, 99, 97, 116, 101]⟩]
theorem kind_at : ∀ j, j < 31 → ∃ n k m, kindL[j]? = some (n, k, m) ∧ kindCells.extract (j * 3) (j * 3 + 3) = #[.string (Txt n), .int .u8 k, .bool m]
 | 0, _ => ⟨_, _, _, rfl, rfl⟩
 | 1, _ => ⟨_, _, _, rfl, rfl⟩
 | 2, _ => ⟨_, _, _, rfl, rfl⟩
 | 3, _ => ⟨_, _, _, rfl, rfl⟩
 | 4, _ => ⟨_, _, _, rfl, rfl⟩
 | 5, _ => ⟨_, _, _, rfl, rfl⟩
 | 6, _ => ⟨_, _, _, rfl, rfl⟩
 | 7, _ => ⟨_, _, _, rfl, rfl⟩
 | 8, _ => ⟨_, _, _, rfl, rfl⟩
 | 9, _ => ⟨_, _, _, rfl, rfl⟩
 | 10, _ => ⟨_, _, _, rfl, rfl⟩
 | 11, _ => ⟨_, _, _, rfl, rfl⟩
 | 12, _ => ⟨_, _, _, rfl, rfl⟩
 | 13, _ => ⟨_, _, _, rfl, rfl⟩
 | 14, _ => ⟨_, _, _, rfl, rfl⟩
 | 15, _ => ⟨_, _, _, rfl, rfl⟩
 | 16, _ => ⟨_, _, _, rfl, rfl⟩
 | 17, _ => ⟨_, _, _, rfl, rfl⟩
 | 18, _ => ⟨_, _, _, rfl, rfl⟩
 | 19, _ => ⟨_, _, _, rfl, rfl⟩
 | 20, _ => ⟨_, _, _, rfl, rfl⟩
 | 21, _ => ⟨_, _, _, rfl, rfl⟩
 | 22, _ => ⟨_, _, _, rfl, rfl⟩
 | 23, _ => ⟨_, _, _, rfl, rfl⟩
 | 24, _ => ⟨_, _, _, rfl, rfl⟩
 | 25, _ => ⟨_, _, _, rfl, rfl⟩
 | 26, _ => ⟨_, _, _, rfl, rfl⟩
 | 27, _ => ⟨_, _, _, rfl, rfl⟩
 | 28, _ => ⟨_, _, _, rfl, rfl⟩
 | 29, _ => ⟨_, _, _, rfl, rfl⟩
 | 30, _ => ⟨_, _, _, rfl, rfl⟩
 | n + 31, h => absurd h (by omega)
theorem short_at : ∀ j, j < 15 → ∃ a b, shortL[j]? = some (a, b) ∧ shortCells.extract (j * 2) (j * 2 + 2) = #[.string (Txt a), .string (Txt b)]
 | 0, _ => ⟨_, _, rfl, rfl⟩
 | 1, _ => ⟨_, _, rfl, rfl⟩
 | 2, _ => ⟨_, _, rfl, rfl⟩
 | 3, _ => ⟨_, _, rfl, rfl⟩
 | 4, _ => ⟨_, _, rfl, rfl⟩
 | 5, _ => ⟨_, _, rfl, rfl⟩
 | 6, _ => ⟨_, _, rfl, rfl⟩
 | 7, _ => ⟨_, _, rfl, rfl⟩
 | 8, _ => ⟨_, _, rfl, rfl⟩
 | 9, _ => ⟨_, _, rfl, rfl⟩
 | 10, _ => ⟨_, _, rfl, rfl⟩
 | 11, _ => ⟨_, _, rfl, rfl⟩
 | 12, _ => ⟨_, _, rfl, rfl⟩
 | 13, _ => ⟨_, _, rfl, rfl⟩
 | 14, _ => ⟨_, _, rfl, rfl⟩
 | n + 15, h => absurd h (by omega)
theorem spec_at : ∀ j, j < 7 → ∃ a, specL[j]? = some a ∧ specCells[j]? = some (.string (Txt a)) ∧ a.length ≤ 20
 | 0, _ => ⟨_, rfl, rfl, by decide⟩
 | 1, _ => ⟨_, rfl, rfl, by decide⟩
 | 2, _ => ⟨_, rfl, rfl, by decide⟩
 | 3, _ => ⟨_, rfl, rfl, by decide⟩
 | 4, _ => ⟨_, rfl, rfl, by decide⟩
 | 5, _ => ⟨_, rfl, rfl, by decide⟩
 | 6, _ => ⟨_, rfl, rfl, by decide⟩
 | n + 7, h => absurd h (by omega)
theorem find_step {α : Type} (p : α → Bool) (l : List α) (j : Nat) (x : α) (h : l[j]? = some x) : (l.drop j).find? p = if p x then some x else (l.drop (j + 1)).find? p := by
 obtain ⟨hj, hx⟩ := List.getElem?_eq_some_iff.1 h
 rw [List.drop_eq_getElem_cons hj, hx, List.find?_cons]
 cases p x <;> rfl
structure HEnv (w : World) : Prop where
 env : Env w
 kd : ∃ t fr, w.heap[(2 : Nat)]? = some (.cells kindCells t fr)
 sh : ∃ t fr, w.heap[(0 : Nat)]? = some (.cells shortCells t fr)
 sp : ∃ t fr, w.heap[(1 : Nat)]? = some (.cells specCells t fr)
theorem HEnv.kp {X : List Nat} {w w' : World} (h : HEnv w) (k : Kp X w w') (hX : ∀ x ∈ X, 7 ≤ x) : HEnv w' := by
 have hn : ∀ i, i < 7 → i ∉ X := fun i hi hm => by have := hX i hm; omega
 have hb : ∀ g, g < 7 → w'.heap[g]? = w.heap[g]? := fun g hg => k.block g (Nat.lt_of_lt_of_le hg h.env.sz) (hn g hg)
 exact ⟨h.env.kp k hX, by rw [hb _ (by decide)]; exact h.kd, by rw [hb _ (by decide)]; exact h.sh, by rw [hb _ (by decide)]; exact h.sp⟩
theorem txt_eq_iff (a b : List UInt8) : ((Txt a).toList == (Txt b).toList) = (a == b) := by rw [Lib.toList_data, Lib.toList_data]; rfl
def KiP (r : Int × Bool) (w : World) (e : Ending) (w' : World) : Prop := e = .returned (.tuple #[.int .u8 r.1, .bool r.2]) ∧ Kp [] w w'
set_option maxRecDepth 100000 in
set_option maxHeartbeats 4000000 in
theorem kindOf_any (l : List UInt8) (w : World) (H : HEnv w) :
   Calls Tryz.prog 105 #[.string (Txt l)] w (KiP (kindR l) w) := by
 obtain ⟨t, fr, hg⟩ := H.kd
 obtain ⟨R, hR⟩ : ∃ R, kindL.find? (fun p => p.1 == l) = R := ⟨_, rfl⟩
 have HV := Lib.hid (by unfold kindR; rw [hR] : kindR l = kindO R)
 have HR := Lib.hid hR;have Hg := Lib.hid hg;clear H hR hg
 obtain ⟨C, hC⟩ : ∃ C, kindCells = C := ⟨_, rfl⟩
 have HC := Lib.hid hC
 have hsz : (Tryz.prog.info? 175).map (·.size) = some C.size := by rw [← hC]; kernel_rfl
 rw [hC] at Hg
 clear hC
 go_enter Tryz.func105, Tryz.ntmps105
 go_wp2_with fail
 refine wp_load_row _ _ rfl 2 rfl t C fr _ Hg.out Tryz.underlying175 rfl hsz ?_
 go_wp2_with fail
 go_loopw [7] (fun i wr => ∃ j : Nat, j ≤ 31 ∧ i = .int .i64 j ∧ (kindL.drop j).find? (fun p => p.1 == l) = R ∧ Kp [] w wr) (fun i _ => 31 - (intOf i).toNat)
 case atStart => exact ⟨0, by omega, rfl, by rw [List.drop_zero]; exact HR.out, Kp.refl _ _⟩
 case round =>
  obtain ⟨j, hj, rfl, hf, hK⟩ := hrel
  have Hf := Lib.hid hf;have HK := Lib.hid hK;clear hf hK
  by_cases hlt : j < 31
  ·obtain ⟨n, k, m, hx, hex⟩ := kind_at j hlt
   rw [HC.out] at hex
   have hix := (by have h := run_index_rows (P := Tryz.prog) wr _ _ 31 3 C j Tryz.underlying175 Tryz.sizeOf174 Tryz.isAgg174 hlt; rw [hex] at h; exact h)
   have hst := find_step (fun p : List UInt8 × Int × Bool => p.1 == l) kindL j _ hx
   rw [Hf.out] at hst
   dsimp only at hst
   obtain ⟨w2, hw2⟩ : ∃ x, wr.alloc (.cells #[.string (Txt n), .int .u8 k, .bool m] 174) = x := ⟨_, rfl⟩
   obtain ⟨g, hgg⟩ : ∃ x, wr.heap.size = x := ⟨_, rfl⟩
   have B2 := Lib.hid (show Blk w2 g 174 #[.string (Txt n), .int .u8 k, .bool m] from by rw [← hw2, ← hgg]; exact Blk.new wr _ _)
   have K2 := Lib.hid (show Kp [] w w2 from by rw [← hw2]; exact HK.out.alloc _)
   have c0 := B2.out.cell 0;have c1 := B2.out.cell 1;have c2 := B2.out.cell 2;clear hex hx
   cases hb : (n == l)
   ·have bE : ((Txt n).toList == (Txt l).toList) = false := (txt_eq_iff n l).trans hb
    rw [hb, if_neg (by decide)] at hst
    have Hst := Lib.hid hst.symm;clear hst hb
    go_wp2_with fail
    go_roundw
    case rel => exact ⟨j + 1, by omega, by go_num, Hst.out, K2.out⟩
    case measure => simp [intOf]; omega
   ·have bE : ((Txt n).toList == (Txt l).toList) = true := (txt_eq_iff n l).trans hb
    rw [hb, if_pos rfl] at hst
    have HF := Lib.hid (by rw [HV.out, hst]; rfl : kindR l = (k, m))
    clear hst hb
    go_upto_region 5 with fail
    go_quiet (fail)
    go_wp2_with fail
    go_ret2
    unfold KiP
    rw [HF.out]
    exact ⟨rfl, K2.out.drewN _⟩
  ·have HF := Lib.hid (by
     have h := Hf.out
     rw [show j = 31 from by omega] at h
     rw [HV.out, ← h]; rfl : kindR l = (0, false))
   go_wp2_with fail
   go_ret2
   unfold KiP
   rw [HF.out]
   exact ⟨rfl, HK.out⟩
end Ad
end Go.Proofs.YtmmjfofdnpafkaaGreatDoor
namespace Go.Proofs.YtmmjfofdnpafkaaGreatDoor
namespace Ad
open Go.RowKit Lx
def TxE (r : List UInt8 × Int) (w : World) (e : Ending) (w' : World) : Prop := e = .returned (.tuple #[.string (Txt r.1), .int .u8 r.2]) ∧ Kp [] w w'
theorem lowL_length (l : List UInt8) : (lowL l).length = l.length := by unfold lowL; simp
set_option maxRecDepth 100000 in
set_option maxHeartbeats 8000000 in
theorem canon_any (s : ByteArray) (w : World) (hs : s.size ≤ 2097152) (H : HEnv w) :
   Calls Tryz.prog 58 #[.string s] w (TxE (canR s.data.toList) w) := by
 have HTok := Lib.hid (fun wz => (by have h := token_any s wz (by unfold maxLen; omega); rw [tokenB_eq] at h; exact h : Calls Tryz.prog 85 #[.string s] wz (Ret (.bool (tokB s.data.toList)) wz)))
 have hlen := len_list s
 cases hT : tokB s.data.toList
 ·have HF := Lib.hid (by unfold canR canB; rw [hT]; rfl : canR s.data.toList = ([], 5))
  rw [hT] at HTok
  clear hT hlen
  go_enter Tryz.func58, Tryz.ntmps58
  go_wp2_with fail
  refine (HTok.out _).mono ?_
  rintro e w1 ⟨rfl, hw⟩
  obtain rfl := hw
  go_wp2_with fail
  go_ret2
  unfold TxE
  rw [HF.out]
  exact ⟨rfl, Kp.refl _ _⟩
 rw [hT] at HTok
 by_cases h64 : s.size ≤ 64
 case neg =>
  have HF := Lib.hid (by unfold canR canB; rw [hT, hlen, decide_eq_false h64]; rfl : canR s.data.toList = ([], 5))
  have b64 : (64 : Int) < (s.size : Int) := by omega
  clear hT hlen h64
  go_enter Tryz.func58, Tryz.ntmps58
  go_wp2_with fail
  refine (HTok.out _).mono ?_
  rintro e w1 ⟨rfl, hw⟩
  obtain rfl := hw
  go_wp2_with fail
  go_ret2
  unfold TxE
  rw [HF.out]
  exact ⟨rfl, Kp.refl _ _⟩
 have b64 : ¬ (64 : Int) < (s.size : Int) := by omega
 obtain ⟨L, hL⟩ : ∃ L, lowL s.data.toList = L := ⟨_, rfl⟩
 have hLl : L.length = s.size := by rw [← hL, lowL_length, hlen]
 obtain ⟨R, hR⟩ : ∃ R, shortL.find? (fun p => p.1 == L) = R := ⟨_, rfl⟩
 obtain ⟨S, hS⟩ : ∃ S, specL.find? (fun z => lowL z == L) = S := ⟨_, rfl⟩
 have HV := Lib.hid (by unfold canR canB; rw [hT, hlen, decide_eq_true h64]; unfold canN; rw [hL, hR, hS]; rfl : canR s.data.toList = (canO R S L, 0))
 have HR := Lib.hid hR;have HS := Lib.hid hS
 have HLo := Lib.hid (fun wz => (by have h := each_low s wz (by omega); rw [hL] at h; exact h : Calls Tryz.prog 89 #[.string s, .func (.func 117) #[] #[]] wz (RetNew L wz)))
 have HCa := Lib.hid (fun wz => (by have h := hcapitalized_any (Txt L) wz (by rw [txt_size]; omega); rw [txt_list] at h; exact h : Calls Tryz.prog 118 #[.string (Txt L)] wz (TxK (capF true L) wz)))
 have HSp := Lib.hid (fun (z : List UInt8) wz (hz : z.length ≤ 20) => (by have h := each_low (Txt z) wz (by rw [txt_size]; omega); rw [txt_list] at h; exact h : Calls Tryz.prog 89 #[.string (Txt z), .func (.func 117) #[] #[]] wz (RetNew (lowL z) wz)))
 have H0 := Lib.hid H
 obtain ⟨C, hC⟩ : ∃ C, shortCells = C := ⟨_, rfl⟩
 have HC := Lib.hid hC
 have hszC : (Tryz.prog.info? 121).map (·.size) = some C.size := by rw [← hC]; kernel_rfl
 obtain ⟨D, hD⟩ : ∃ D, specCells = D := ⟨_, rfl⟩
 have HD := Lib.hid hD
 have hszD : (Tryz.prog.info? 122).map (·.size) = some D.size := by rw [← hD]; kernel_rfl
 have HszC := Lib.hid hszC;have HszD := Lib.hid hszD;clear hT h64 hL hR hS hlen hC hD H hszC hszD hLl
 go_enter Tryz.func58, Tryz.ntmps58
 go_wp2_with fail
 refine (HTok.out _).mono ?_
 rintro e w1 ⟨rfl, hw⟩
 obtain rfl := hw
 go_wp2_with fail
 refine (HLo.out _).mono ?_
 rintro e w2 ⟨rfl, hB2⟩
 have K2 := Lib.hid ((Kp.refl [] w).below hB2)
 rw [show (⟨L.toArray⟩ : ByteArray) = Txt L from rfl]
 obtain ⟨tC, fC, hgC⟩ := (H0.out.kp K2.out (by simp)).sh
 rw [HC.out] at hgC
 clear hB2
 go_wp2_with (refine wpList_load_row rfl 121 (.global 0) rfl 0 rfl tC C fC _ hgC Tryz.underlying121 rfl HszC.out ?_)
 go_loopw [20] (fun i wr => ∃ j : Nat, j ≤ 15 ∧ i = .int .i64 j ∧ (shortL.drop j).find? (fun p => p.1 == L) = R ∧ Kp [] w wr) (fun i _ => 15 - (intOf i).toNat)
 case atStart => exact ⟨0, by omega, rfl, by rw [List.drop_zero]; exact HR.out, K2.out⟩
 case round =>
  obtain ⟨j, hj, rfl, hf, hK⟩ := hrel
  have Hf := Lib.hid hf;have HK := Lib.hid hK;clear hf hK
  by_cases hlt : j < 15
  ·obtain ⟨n, z, hx, hex⟩ := short_at j hlt
   rw [HC.out] at hex
   have hix := (by have h := run_index_rows (P := Tryz.prog) wr _ _ 15 2 C j Tryz.underlying121 Tryz.sizeOf120 Tryz.isAgg120 hlt; rw [hex] at h; exact h)
   have hst := find_step (fun p : List UInt8 × List UInt8 => p.1 == L) shortL j _ hx
   rw [Hf.out] at hst
   dsimp only at hst
   obtain ⟨w3, hw3⟩ : ∃ x, wr.alloc (.cells #[.string (Txt n), .string (Txt z)] 120) = x := ⟨_, rfl⟩
   obtain ⟨g, hgg⟩ : ∃ x, wr.heap.size = x := ⟨_, rfl⟩
   have B3 := Lib.hid (show Blk w3 g 120 #[.string (Txt n), .string (Txt z)] from by rw [← hw3, ← hgg]; exact Blk.new wr _ _)
   have K3 := Lib.hid (show Kp [] w w3 from by rw [← hw3]; exact HK.out.alloc _)
   have c0 := B3.out.cell 0;have c1 := B3.out.cell 1;clear hex hx
   cases hb : (n == L)
   ·have bE : ((Txt n).toList == (Txt L).toList) = false := (txt_eq_iff n L).trans hb
    rw [hb, if_neg (by decide)] at hst
    have Hst := Lib.hid hst.symm;clear hst hb
    go_wp2_with fail
    go_roundw
    case rel => exact ⟨j + 1, by omega, by go_num, Hst.out, K3.out⟩
    case measure => simp [intOf]; omega
   ·have bE : ((Txt n).toList == (Txt L).toList) = true := (txt_eq_iff n L).trans hb
    rw [hb, if_pos rfl] at hst
    have HF := Lib.hid (by rw [HV.out, hst]; rfl : canR s.data.toList = (z, 0))
    clear hst hb
    go_wp2_with fail
    go_ret2
    unfold TxE
    rw [HF.out]
    exact ⟨rfl, K3.out⟩
  ·have HRn := Lib.hid (by
     have h := Hf.out
     rw [show j = 15 from by omega] at h
     exact h.symm : R = none)
   have HV2 := Lib.hid (by rw [HV.out, HRn.out]; rfl : canR s.data.toList = (canS S L, 0))
   obtain ⟨tD, fD, hgD⟩ := (H0.out.kp HK.out (by simp)).sp
   rw [HD.out] at hgD
   go_wp2_with (refine wpList_load_row rfl 122 (.global 1) rfl 1 rfl tD D fD _ hgD Tryz.underlying122 rfl HszD.out ?_)
   clear hgD
   go_loopw [31] (fun i ws => ∃ k : Nat, k ≤ 7 ∧ i = .int .i64 k ∧ (specL.drop k).find? (fun z => lowL z == L) = S ∧ Kp [] w ws) (fun i _ => 7 - (intOf i).toNat)
   case atStart => exact ⟨0, by omega, rfl, by rw [List.drop_zero]; exact HS.out, HK.out⟩
   case round =>
    obtain ⟨k, hk, rfl, hf2, hK2⟩ := hrel
    have Hf2 := Lib.hid hf2;have HK2 := Lib.hid hK2;clear hf2 hK2
    by_cases hlt2 : k < 7
    ·obtain ⟨z, hx, hex, hzl⟩ := spec_at k hlt2
     rw [HD.out] at hex
     have hix := run_index_one (P := Tryz.prog) wr _ _ 7 D k _ Tryz.underlying122 Tryz.sizeOf9 Tryz.isAgg9 hlt2 hex
     have hst := find_step (fun z : List UInt8 => lowL z == L) specL k _ hx
     rw [Hf2.out] at hst
     try dsimp only at hst
     have HSz := Lib.hid (fun wz => HSp.out z wz hzl)
     clear hex hx
     cases hb : (lowL z == L)
     ·have bE : ((Txt (lowL z)).toList == (Txt L).toList) = false := (txt_eq_iff (lowL z) L).trans hb
      rw [hb, if_neg (by decide)] at hst
      have Hst := Lib.hid hst.symm;clear hst hb
      go_wp2_with fail
      refine (HSz.out _).mono ?_
      rintro e w4 ⟨rfl, hB4⟩
      have K4 := Lib.hid (HK2.out.below hB4)
      rw [show (⟨(lowL z).toArray⟩ : ByteArray) = Txt (lowL z) from rfl]
      clear hB4
      go_wp2_with fail
      go_roundw
      case rel => exact ⟨k + 1, by omega, by go_num, Hst.out, K4.out⟩
      case measure => simp [intOf]; omega
     ·have bE : ((Txt (lowL z)).toList == (Txt L).toList) = true := (txt_eq_iff (lowL z) L).trans hb
      rw [hb, if_pos rfl] at hst
      have HF := Lib.hid (by rw [HV2.out, hst]; rfl : canR s.data.toList = (z, 0))
      clear hst hb
      go_wp2_with fail
      refine (HSz.out _).mono ?_
      rintro e w4 ⟨rfl, hB4⟩
      have K4 := Lib.hid (HK2.out.below hB4)
      rw [show (⟨(lowL z).toArray⟩ : ByteArray) = Txt (lowL z) from rfl]
      clear hB4
      go_wp2_with fail
      go_ret2
      unfold TxE
      rw [HF.out]
      exact ⟨rfl, K4.out⟩
    ·have HF := Lib.hid (by
       have h := Hf2.out
       rw [show k = 7 from by omega] at h
       rw [HV2.out, ← h]; rfl : canR s.data.toList = (capF true L, 0))
     go_wp2_with fail
     refine (HCa.out _).mono ?_
     rintro e w4 ⟨rfl, hK4⟩
     have K4 := Lib.hid (HK2.out.trans hK4);clear hK4
     go_wp2_with fail
     go_ret2
     unfold TxE
     rw [HF.out]
     exact ⟨rfl, K4.out⟩
end Ad
end Go.Proofs.YtmmjfofdnpafkaaGreatDoor
namespace Go.Proofs.YtmmjfofdnpafkaaGreatDoor
namespace Ad
open Go.RowKit Lx
theorem Kp.iter (w : World) (s : ByteArray) (i : Nat) : Kp [] w (w.iter s i) := (Kp.refl [] w).alloc _
theorem byte_none (l : List UInt8) (c : UInt8) (h : ∀ b ∈ l, b ≠ c) : Lib.indexByte l c = -1 := by
 induction l with
 | nil => rfl
 | cons b t ih =>
   have hb := h b (by simp)
   have := ih (fun d hd => h d (by simp [hd]))
   unfold Lib.indexByte
   simp [hb, this]
set_option maxRecDepth 1000000 in
set_option maxHeartbeats 4000000 in
theorem irune_err (s : ByteArray) (w : World) (hac : ∀ (j : Nat) b, s.data.toList[j]? = some b → b.toNat < 128) :
   Calls Tryz.prog 238 #[.string s, .int .i32 65533] w (fun e w' => e = .returned (.int .i64 (-1)) ∧ Kp [] w w') := by
 have HA := Lib.hid hac;clear hac
 go_enter Tryz.func238, Tryz.ntmps238
 go_wp2_with fail
 go_loopg [5, 6] s.size (fun g _ _ wx => ∃ i : Nat, i + g = s.size ∧ wx = w.iter s i)
 case atStart => exact ⟨0, by omega, rfl⟩
 case round =>
  obtain ⟨i, hig, rfl⟩ := hrel
  cases gk with
  | zero =>
    obtain rfl : i = s.size := by omega
    have hnx := run_next_end (P := Tryz.prog) w s s.size
    go_wp2_with fail
    go_ret
    exact ⟨rfl, Kp.iter _ _ _⟩
  | succ g =>
    have hi : i < s.size := by omega
    have hx128 : (s[i]'hi).toNat < 128 := HA.out i (s[i]'hi) (Lib.data_getElem? s i hi)
    have hnx := fun ty => run_next_ascii (P := Tryz.prog) w s i ty hi hx128
    obtain ⟨x, hx⟩ : ∃ x, (s[i]'hi).toNat = x := ⟨_, rfl⟩
    rw [hx] at hnx hx128
    have bx : ((x : Int) == 65533) = false := by rw [beq_eq_false_iff_ne]; omega
    clear hx
    go_wp2_with fail
    go_roundg g
    case measure => omega
    case rel => exact ⟨i + 1, by omega, rfl⟩
set_option maxRecDepth 1000000 in
set_option maxHeartbeats 4000000 in
theorem irune_high (s : ByteArray) (r : Int) (w : World) (hs : s.size ≤ 100) (hac : ∀ (j : Nat) b, s.data.toList[j]? = some b → b.toNat < 128) (h128 : 128 ≤ r) (hne : r ≠ 65533) (hv : Lib.validRune r = true) :
   Calls Tryz.prog 238 #[.string s, .int .i32 r] w (fun e w' => e = .returned (.int .i64 (-1)) ∧ Kp [] w w') := by
 have hv2 : Utf8.valid r = true := by rw [validRune_eq]; exact hv
 obtain ⟨n2, n4, hlast⟩ := encode_facts r hv2 h128
 obtain ⟨E, hE⟩ : ∃ E, Utf8.encode r = E := ⟨_, rfl⟩
 rw [hE] at n2 n4 hlast
 have HV := Lib.hid (fun wz => (by have h := Tryz.utf8_ValidRune r wz; rw [hv] at h; exact h : Calls Tryz.prog 299 #[.int .i32 r] wz fun e w' => e = .returned (.bool true) ∧ w' = wz))
 have hconv := fun wz => run_convert_int_string (P := Tryz.prog) wz 21 9 .i32 r (by rw [Tryz.underlying21]; rfl) Tryz.underlying9
 rw [hE] at hconv
 have b1 : ¬ r < 128 := by omega
 have b2 : (0 : Int) ≤ r := by omega
 have b3 : (r == 65533) = false := beq_eq_false_iff_ne.2 hne
 obtain ⟨m, hm⟩ : ∃ m, E.size - 1 = m := ⟨_, rfl⟩
 have hmE : m < E.size := by omega
 have hl2 : 128 ≤ (E[m]'hmE).toNat := by subst hm; exact hlast hmE
 have i0 : wrap64 ((E.size : Int) - 1) = (m : Int) := by unfold wrap64; omega
 have m3 : (m : Int) ≤ 3 := by omega
 have HA := Lib.hid hac;clear hac hv hv2 hE hne hlast hm h128 n4
 by_cases hms : m < s.size
 case neg =>
  have b4 : ¬ (m : Int) < (s.size : Int) := by omega
  clear hl2 hms
  go_enter Tryz.func238, Tryz.ntmps238
  go_wp2_with fail
  refine (HV.out _).mono ?_
  rintro e w1 ⟨rfl, hw⟩
  obtain rfl := hw.symm
  go_wp2_with fail
  go_step3
  go_wp2_with fail
  refine wp_loop_rounds 1 ?_
  rw [rounds_succ]
  go_wp2_with fail
  rw [Exit.noGoto_ret]
  go_ret
  exact ⟨rfl, Kp.refl _ _⟩
 case pos =>
  have b4 : (m : Int) < (s.size : Int) := by omega
  have ha : (s[m]'hms).toNat < 128 := HA.out m (s[m]'hms) (Lib.data_getElem? s m hms)
  have hne : ((s[m]'hms).toNat == (E[m]'hmE).toNat) = false := by rw [beq_eq_false_iff_ne]; omega
  have hneI : (((s[m]'hms).toNat : Int) == ((E[m]'hmE).toNat : Int)) = false := by rw [beq_eq_false_iff_ne]; omega
  obtain ⟨q, hq⟩ : ∃ q, m + 1 = q := ⟨_, rfl⟩
  have i2 : IntKind.i64.wrap ((m : Int) + 1) = (q : Int) := (IntWalk.i64_in _ (by omega)).trans (by omega)
  have bm1 : (q : Int) ≤ (s.size : Int) := by omega
  clear hq
  obtain ⟨X, hX⟩ : ∃ X, s.extract q s.size = X := ⟨_, rfl⟩
  obtain ⟨c, hc⟩ : ∃ c, E[m]'hmE = c := ⟨_, rfl⟩
  rw [hc] at hneI hne
  have HIB := Lib.hid (fun wz => (by
   have h := Tryz.strings_IndexByte X (c.toNat : Int) wz
   rw [show ((c.toNat : Int)).toNat.toUInt8 = c by simp, byte_none _ _ (fun b hb => by
    rw [← hX, slc_data, slc_full _ _ _ (by rw [len_list]; exact Nat.le_refl _)] at hb
    have hb2 := List.mem_of_mem_drop hb
    obtain ⟨j, hj⟩ := List.mem_iff_getElem?.1 hb2
    have h1 := HA.out j b hj
    intro he
    rw [he, ← hc] at h1
    omega)] at h
   exact h : Calls Tryz.prog 193 #[.string X, .int .u8 (c.toNat : Int)] wz fun e w' => e = .returned (.int .i64 (-1)) ∧ w' = wz))
  go_enter Tryz.func238, Tryz.ntmps238
  go_wp2_with fail
  refine (HV.out _).mono ?_
  rintro e w1 ⟨rfl, hw⟩
  obtain rfl := hw.symm
  go_wp2_with fail
  go_step3
  go_wp2_with fail
  refine wp_loop_rounds 1 ?_
  rw [rounds_succ]
  go_wp2_with fail
  go_step3
  go_upto_region 6 with fail
  go_quiet (fail)
  obtain ⟨w2, hw2⟩ : ∃ w2, w.drewN nq = w2 := ⟨_, rfl⟩
  have K2 := Lib.hid (show Kp [] w w2 from by rw [← hw2]; exact (Kp.refl [] w).drewN _)
  rw [hw2]
  clear hw2
  go_upto_region 7 with fail
  go_quiet ((go_at_call 193; exact Calls.quiet_of_same (HIB.out _)))
  go_wp2_with fail
  simp only [Exit.noGoto_ret, Exit.inBlock, Exit.then]
  go_ret
  exact ⟨rfl, K2.out.drewN _⟩
end Ad
end Go.Proofs.YtmmjfofdnpafkaaGreatDoor
namespace Go.Proofs.YtmmjfofdnpafkaaGreatDoor
namespace Ad
open Go.RowKit Lx
theorem vr_of (r : Int) (h : Utf8.valid r = true) : Lib.validRune r = true := by
 have := validRune_eq r
 rw [h] at this
 exact this.symm
theorem decode_hi (s : ByteArray) (pos : Nat) (h : pos < s.size) (ha : 128 ≤ (s[pos]'h).toNat) :
   ((Utf8.decode s pos).1 = 65533 ∨ Lib.validRune (Utf8.decode s pos).1 = true) ∧ pos + (Utf8.decode s pos).2 ≤ s.size ∧ ∀ k, pos < k → k < pos + (Utf8.decode s pos).2 → 128 ≤ (s.get! k).toNat := by
 have hn : ¬ (s[pos]'h).toNat < 128 := by omega
 have hb : (s[pos]'h).toNat < 256 := (s[pos]'h).toNat_lt
 simp only [Utf8.decode, get_at s pos h, hn, if_false]
 split
 ·rename_i h2
  simp only [Bool.and_eq_true, decide_eq_true_eq, beq_iff_eq] at h2
  split
  ·refine ⟨.inr ?_, by dsimp only; omega, fun k h1 h3 => ?_⟩
   ·refine vr_of _ ?_; simp [Utf8.valid]; omega
   ·obtain rfl : k = pos + 1 := by dsimp only at h3; omega
    omega
  ·exact ⟨.inl rfl, by dsimp only; omega, fun k h1 h2 => by dsimp only at h2; omega⟩
 ·split
  ·rename_i h2
   simp only [Bool.and_eq_true, decide_eq_true_eq, beq_iff_eq] at h2
   split
   ·rename_i h3
    simp only [Bool.and_eq_true, decide_eq_true_eq] at h3
    refine ⟨.inr ?_, by dsimp only; omega, fun k h1 h4 => ?_⟩
    ·exact vr_of _ h3.2
    ·rcases (by dsimp only at h4; omega : k = pos + 1 ∨ k = pos + 2) with rfl | rfl <;> omega
   ·exact ⟨.inl rfl, by dsimp only; omega, fun k h1 h2 => by dsimp only at h2; omega⟩
  ·split
   ·rename_i h2
    simp only [Bool.and_eq_true, decide_eq_true_eq, beq_iff_eq] at h2
    split
    ·rename_i h3
     simp only [Bool.and_eq_true, decide_eq_true_eq] at h3
     refine ⟨.inr ?_, by dsimp only; omega, fun k h1 h4 => ?_⟩
     ·exact vr_of _ h3.2
     ·rcases (by dsimp only at h4; omega : k = pos + 1 ∨ k = pos + 2 ∨ k = pos + 3) with rfl | rfl | rfl <;> omega
    ·exact ⟨.inl rfl, by dsimp only; omega, fun k h1 h2 => by dsimp only at h2; omega⟩
   ·exact ⟨.inl rfl, by dsimp only; omega, fun k h1 h2 => by dsimp only at h2; omega⟩
theorem Kp.iterAt {X : List Nat} {a w : World} (h : Kp X a w) (k : Nat) (hk : a.heap.size ≤ k) (s : ByteArray) (pos : Nat) : Kp X a (w.iterAt k s pos) := by
 refine ⟨h.os, h.tape, h.output, ?_, fun i hi hx => ?_⟩
 ·show _ ≤ (w.heap.setIfInBounds k _).size
  rw [Array.size_setIfInBounds]; exact h.size
 ·show (w.heap.setIfInBounds k _)[i]? = _
  rw [Array.getElem?_setIfInBounds_ne (by omega)]; exact h.block i hi hx
theorem iterAt_at (w : World) (k : Nat) (s : ByteArray) (i pos : Nat) (h : w.heap[k]? = some (.stringIter s i)) : (w.iterAt k s pos).heap[k]? = some (.stringIter s pos) := by
 show (w.heap.setIfInBounds k _)[k]? = _
 rw [Array.getElem?_setIfInBounds_self]
 rw [if_pos (lt_of_some h)]
theorem no_high {s : ByteArray} {ch : List UInt8} {i d : Nat} (hno : Lib.NoAny s.data.toList ch i) (hch : ∀ (j : Nat) b, ch[j]? = some b → b.toNat < 128) (h : ∀ k, i ≤ k → k < i + d → 128 ≤ (s.get! k).toNat) (hd : i + d ≤ s.size) : Lib.NoAny s.data.toList ch (i + d) := by
 intro j b hj hb
 by_cases hji : j < i
 ·exact hno j b hji hb
 ·have hjs : j < s.size := by omega
  have h1 := h j (by omega) hj
  have h2 : s.get! j = s[j] := by have := get_at s j hjs; rwa [Nat.add_zero] at this
  have h3 : s.data.toList[j]? = some s[j] := Lib.data_getElem? s j hjs
  rw [h3] at hb
  obtain rfl := Option.some.inj hb
  cases hc : ch.contains s[j]
  ·rfl
  ·have hm : s[j] ∈ ch := by simpa using hc
   obtain ⟨k, hk⟩ := List.mem_iff_getElem?.1 hm
   have := hch k _ hk
   rw [h2] at h1
   omega
set_option maxRecDepth 1000000 in
set_option maxHeartbeats 8000000 in
theorem index_short (s chars : ByteArray) (w : World) (h8 : s.size ≤ 8) (h2 : 2 ≤ chars.size) (hcs : chars.size ≤ 100) (hac : ∀ (j : Nat) b, chars.data.toList[j]? = some b → b.toNat < 128) :
   Calls Tryz.prog 146 #[.string s, .string chars] w (InK (Lib.indexAny s.data.toList chars.data.toList) w) := by
 have hemp : chars.toList.isEmpty = false := by
  rw [Lib.toList_data]
  cases h : chars.data.toList with
  | nil => have := Lib.size_eq chars; rw [h, List.length_nil] at this; omega
  | cons _ _ => rfl
 have hn1 : ((chars.size : Int) == 1) = false := beq_eq_false_iff_ne.2 (by omega)
 have h8z : decide ((8 : Int) < (s.size : Int)) = false := decide_eq_false (by omega)
 have HSh := Lib.hid (fun wz => (by have h := Tryz.strings_shouldUseASCIISet (s.size : Int) wz; rw [h8z] at h; exact h : Calls Tryz.prog 239 #[.int .i64 (s.size : Int)] wz fun e w' => e = .returned (.bool false) ∧ w' = wz))
 have HA := Lib.hid hac;have H2 := Lib.hid h2;have Hcs := Lib.hid hcs
 have h8' : (s.size : Int) ≤ 8 := by omega
 obtain ⟨B, hB⟩ : ∃ B, w.heap.size = B := ⟨_, rfl⟩
 have HB := Lib.hid hB;clear hac h2 hcs h8z
 go_enter Tryz.func146, Tryz.ntmps146
 go_wp2_with fail
 refine (HSh.out _).mono ?_
 rintro e w1 ⟨rfl, hw⟩
 obtain rfl := hw.symm
 go_wp2_with fail
 go_loopg [9, 10] s.size (fun g _ _ wx => ∃ i : Nat, i + g = s.size ∧ wx.heap[B]? = some (.stringIter s i) ∧ Kp [] w wx ∧ Lib.NoAny s.data.toList chars.data.toList i)
 case atStart => exact ⟨0, by omega, by rw [← hB]; exact World.iter_heap w s 0, Kp.iter _ _ _, Lib.NoAny.zero _ _⟩
 case round =>
  obtain ⟨i, hig, hit, hK, hno⟩ := hrel
  have HN := Lib.hid hno;have HK := Lib.hid hK;have Hit := Lib.hid hit;clear hno hK
  by_cases hi : i < s.size
  case neg =>
   have hnx := fun ty => Lib.run_next_end_at (P := Tryz.prog) wr B s i ty hit hi
   have HF := Lib.hid (Lib.indexAny_none (by have h := HN.out; rw [show i = s.size by omega] at h; rw [← Lib.size_eq]; exact h) : Lib.indexAny s.data.toList chars.data.toList = -1)
   clear hit
   go_wp2_with fail
   go_ret
   rw [HF.out]
   exact ⟨rfl, HK.out⟩
  case pos =>
   obtain ⟨x, hx⟩ : ∃ x : UInt8, s[i]'hi = x := ⟨_, rfl⟩
   have Hx := Lib.hid (by rw [← hx]; exact Lib.data_getElem? s i hi : s.data.toList[i]? = some x)
   have hBw : w.heap.size ≤ B := by omega
   by_cases hx128 : x.toNat < 128
   ·have hnx := fun ty => Lib.run_next_ascii_at (P := Tryz.prog) wr B s i ty hit hi (by rw [hx]; exact hx128)
    rw [hx] at hnx
    obtain ⟨w2, hw2⟩ : ∃ w2, wr.iterAt B s (i + 1) = w2 := ⟨_, rfl⟩
    rw [hw2] at hnx
    have K2 := Lib.hid (show Kp [] w w2 from by rw [← hw2]; exact HK.out.iterAt B hBw s _)
    have I2 := Lib.hid (show w2.heap[B]? = some (.stringIter s (i + 1)) from by rw [← hw2]; exact iterAt_at wr B s i _ hit)
    have HIR := Lib.hid (fun wz => (by have h := Tryz.strings_IndexRune_ascii chars (x.toNat : Int) wz (by omega) (by omega); rw [show ((x.toNat : Int)).toNat.toUInt8 = x by simp] at h; exact h : Calls Tryz.prog 238 #[.string chars, .int .i32 (x.toNat : Int)] wz fun e w' => e = .returned (.int .i64 (Lib.indexByte chars.data.toList x)) ∧ w' = wz))
    have hcon := Lib.contains_iff_indexByte chars.data.toList x
    obtain ⟨z, hz⟩ : ∃ z, Lib.indexByte chars.data.toList x = z := ⟨_, rfl⟩
    rw [hz] at HIR hcon
    clear hit hw2 hz hx
    cases hin : chars.data.toList.contains x
    ·rw [hin] at hcon
     have hlt : ¬ ((0 : Int) ≤ z) := of_decide_eq_false hcon.symm
     clear hcon
     go_wp2_with fail
     refine (HIR.out _).mono ?_
     rintro e w3 ⟨rfl, hw⟩
     obtain rfl := hw.symm
     go_wp2_with fail
     go_roundg (s.size - (i + 1))
     case measure => omega
     case rel => exact ⟨i + 1, by omega, I2.out, K2.out, HN.out.succ Hx.out hin⟩
    ·rw [hin] at hcon
     have hge : (0 : Int) ≤ z := of_decide_eq_true hcon.symm
     have HF := Lib.hid (Lib.indexAny_hit HN.out Hx.out hin : Lib.indexAny s.data.toList chars.data.toList = i)
     clear hcon
     go_wp2_with fail
     refine (HIR.out _).mono ?_
     rintro e w3 ⟨rfl, hw⟩
     obtain rfl := hw.symm
     go_wp2_with fail
     go_ret
     rw [HF.out]
     exact ⟨rfl, K2.out⟩
   ·have hd := decode_high s i hi (by rw [hx]; omega)
    obtain ⟨hd1, hd2, hd3⟩ := decode_hi s i hi (by rw [hx]; omega)
    have hnx := fun ty => Lib.run_next_any_at (P := Tryz.prog) wr B s i ty hit hi
    obtain ⟨r, d, hrd⟩ : ∃ r d, Utf8.decode s i = (r, d) := ⟨_, _, rfl⟩
    rw [hrd] at hd hd1 hd2 hd3 hnx
    dsimp only at hd hd1 hd2 hd3 hnx
    have hno2 : Lib.NoAny s.data.toList chars.data.toList (i + d) := no_high HN.out HA.out (fun k h1 h3 => by
     rcases Nat.eq_or_lt_of_le h1 with h4 | h4
     ·rw [← h4]
      have h2 : s.get! i = s[i] := by have := get_at s i hi; rwa [Nat.add_zero] at this
      rw [h2, hx]; omega
     ·exact hd3 k h4 h3) hd2
    have HN2 := Lib.hid hno2
    have HIR := Lib.hid (fun wz => (by
     by_cases hr : r = 65533
     ·rw [hr]; exact irune_err chars wz HA.out
     ·exact irune_high chars (r : Int) wz Hcs.out HA.out (by omega) (by omega) (by rcases hd1 with h | h; exact absurd h hr; exact h) : Calls Tryz.prog 238 #[.string chars, .int .i32 (r : Int)] wz fun e w' => e = .returned (.int .i64 (-1)) ∧ Kp [] wz w'))
    obtain ⟨w2, hw2⟩ : ∃ w2, wr.iterAt B s (i + d) = w2 := ⟨_, rfl⟩
    rw [hw2] at hnx
    have K2 := Lib.hid (show Kp [] w w2 from by rw [← hw2]; exact HK.out.iterAt B hBw s _)
    have I2 := Lib.hid (show w2.heap[B]? = some (.stringIter s (i + d)) from by rw [← hw2]; exact iterAt_at wr B s i _ hit)
    have Hd := Lib.hid hd.2;have Hd2 := Lib.hid hd2;clear hit hw2 hx hd hd1 hd2 hd3 hno2 hrd
    go_wp2_with fail
    refine (HIR.out _).mono ?_
    rintro e w3 ⟨rfl, hK3⟩
    have K3 := Lib.hid (K2.out.trans hK3)
    have I3 := Lib.hid ((hK3.block B (lt_of_some I2.out) (by simp)).trans I2.out)
    clear hK3
    go_wp2_with fail
    go_roundg (s.size - (i + d))
    case measure => have := Hd.out; have := Hd2.out; omega
    case rel => exact ⟨i + d, by have := Hd2.out; omega, I3.out, K3.out, HN2.out⟩
end Ad
end Go.Proofs.YtmmjfofdnpafkaaGreatDoor
namespace Go.Proofs.YtmmjfofdnpafkaaGreatDoor
namespace Ad
open Go.RowKit Lx
def trS (l : List UInt8) : List UInt8 := Lib.trimS l blk
theorem rd_len (p : UInt8 → Bool) (l : List UInt8) : (rd p l).length ≤ l.length := by
 unfold rd
 have := (List.dropWhile_suffix (l := l.reverse) p).length_le
 simpa using this
theorem trS_len (l : List UInt8) : (trS l).length ≤ l.length := by
 unfold trS
 rw [trimS_eq]
 have h1 := rd_len bb (l.dropWhile bb)
 have h2 := (List.dropWhile_suffix (l := l) bb).length_le
 omega
set_option maxRecDepth 100000 in
set_option maxHeartbeats 1000000 in
theorem trimmed_big (s : ByteArray) (w : World) (hs : s.size ≤ 4194304) :
   Calls Tryz.prog 72 #[.string s] w (TxK (trS s.data.toList) w) := by
 have HT := Lib.hid (fun wz => trim_set s wz (by omega))
 go_enter Tryz.func72, Tryz.ntmps72
 go_wp2_with fail
 refine (HT.out _).mono ?_
 rintro e w1 ⟨rfl, hB⟩
 have K1 := Lib.hid ((Kp.refl [] w).below hB)
 clear hB
 go_wp2_with fail
 go_ret
 exact ⟨rfl, K1.out⟩
theorem trimmed_any (s : ByteArray) (w : World) (hs : s.size ≤ 2097152) :
   Calls Tryz.prog 72 #[.string s] w (TxK (trS s.data.toList) w) := trimmed_big s w (by omega)
theorem mem_contains (ch : List UInt8) (b : UInt8) : ch.contains b = memB ch b.toNat := by
 unfold memB
 rw [List.contains_eq_any_beq]
 congr 1
 funext c
 rw [Bool.eq_iff_iff]
 simp only [beq_iff_eq]
 constructor
 ·intro h; rw [h]
 ·intro h
  exact (UInt8.toNat_inj.1 (by omega)).symm
theorem indexAny_endP (ch : List UInt8) : ∀ l : List UInt8, Lib.indexAny l ch = if endP (memB ch) l 0 < l.length then (endP (memB ch) l 0 : Int) else -1 := by
 intro l
 unfold endP
 rw [List.drop_zero, Nat.zero_add]
 induction l with
 | nil => rfl
 | cons b t ih =>
   have hr : runL (fun c => !memB ch c) (b :: t) = if memB ch b.toNat then 0 else runL (fun c => !memB ch c) t + 1 := by
    rw [runL]; cases memB ch b.toNat <;> rfl
   rw [hr, Lib.indexAny, mem_contains, List.length_cons]
   cases hb : memB ch b.toNat
   ·simp only [Bool.false_eq_true, if_false]
    rw [ih]
    clear ih hr hb
    generalize runL (fun c => !memB ch c) t = n
    by_cases h : n < t.length
    ·have e : ((n : Int) == -1) = false := by rw [beq_eq_false_iff_ne]; omega
     simp [h, e]
    ·simp [h]
   ·simp
theorem zero_ascii : ∀ w, (zeroValue 221).run Tryz.prog w = .ok (.agg (Array.replicate 256 (.bool false))) w :=
 (zero_of_info (P := Tryz.prog) (t := 221) (n := 256) (by kernel_rfl)).1
theorem indexAny_any (s ends : ByteArray) (w : World) (hs : s.size ≤ 4194304) (he : ends.size ≤ 100) (h2 : 2 ≤ ends.size) (hac : ∀ (j : Nat) b, ends.data.toList[j]? = some b → b.toNat < 128) :
   Calls Tryz.prog 146 #[.string s, .string ends] w (InK (Lib.indexAny s.data.toList ends.data.toList) w) := by
 by_cases h8 : 8 < s.size
 ·refine (Tryz.strings_IndexAny_long zero_ascii s ends w h2 h8 (by omega) (by omega) hac).mono ?_
  rintro e w' ⟨rfl, rfl⟩
  exact ⟨rfl, ((Kp.refl [] w).alloc _).alloc _⟩
 ·exact index_short s ends w (by omega) h2 he hac
def Tx2 (a b : List UInt8) (w : World) (e : Ending) (w' : World) : Prop := e = .returned (.tuple #[.string (Txt a), .string (Txt b)]) ∧ Kp [] w w'
set_option maxRecDepth 100000 in
set_option maxHeartbeats 2000000 in
theorem cutBefore_big (p : Int → Bool) (s ends : ByteArray) (w : World) (hs : s.size ≤ 4194304) (he : ends.size ≤ 100) (h2 : 2 ≤ ends.size) (hac : ∀ (j : Nat) b, ends.data.toList[j]? = some b → b.toNat < 128) (hp : ∀ c : Int, memB ends.data.toList c = p c) :
   Calls Tryz.prog 73 #[.string s, .string ends] w (Tx2 (s.data.toList.take (endP p s.data.toList 0)) (s.data.toList.drop (endP p s.data.toList 0)) w) := by
 have hfun : memB ends.data.toList = p := funext hp
 obtain ⟨k, hk⟩ : ∃ k, endP p s.data.toList 0 = k := ⟨_, rfl⟩
 have lk : k ≤ s.size := by rw [← hk, ← len_list]; exact endP_le _ _ _ (Nat.zero_le _)
 have HI := Lib.hid (fun wz => (by have h := indexAny_any s ends wz hs he h2 hac; rw [indexAny_endP, hfun, hk, len_list] at h; exact h : Calls Tryz.prog 146 #[.string s, .string ends] wz (InK (if k < s.size then (k : Int) else -1) wz)))
 have H1 := Lib.hid (take_slc s k)
 have H2 := Lib.hid (by rw [slc_txt, slc_full _ _ _ (by rw [len_list]; exact Nat.le_refl _)] : s.extract k s.size = Txt (s.data.toList.drop k))
 rw [hk]
 clear hk hfun hac hp
 have hk64 : (k : Int) ≤ (s.size : Int) := by omega
 by_cases hks : k < s.size
 ·rw [if_pos hks] at HI
  go_enter Tryz.func73, Tryz.ntmps73
  go_wp2_with fail
  refine (HI.out _).mono ?_
  rintro e w1 ⟨rfl, hK1⟩
  have K1 := Lib.hid hK1;clear hK1
  go_upto_region 4 with fail
  go_quiet (fail)
  go_wp2_with fail
  go_ret2
  unfold Tx2
  rw [← H1.out, ← H2.out]
  exact ⟨rfl, K1.out.drewN _⟩
 ·rw [if_neg hks] at HI
  have hke : k = s.size := by omega
  subst hke
  have e1 : s.extract 0 s.size = s := by simp
  have e2 : s.extract s.size s.size = ByteArray.empty := by simp
  have E1 := Lib.hid e1;have E2 := Lib.hid e2;clear hks e1 e2
  go_enter Tryz.func73, Tryz.ntmps73
  go_wp2_with fail
  refine (HI.out _).mono ?_
  rintro e w1 ⟨rfl, hK1⟩
  have K1 := Lib.hid hK1;clear hK1
  go_upto_region 4 with fail
  go_quiet (fail)
  go_wp2_with fail
  go_ret2
  unfold Tx2
  rw [← H1.out, ← H2.out, E1.out, E2.out]
  exact ⟨rfl, K1.out.drewN _⟩
theorem cutBefore_any (p : Int → Bool) (s ends : ByteArray) (w : World) (hs : s.size ≤ 2097152) (he : ends.size ≤ 100) (h2 : 2 ≤ ends.size) (hac : ∀ (j : Nat) b, ends.data.toList[j]? = some b → b.toNat < 128) (hp : ∀ c : Int, memB ends.data.toList c = p c) :
   Calls Tryz.prog 73 #[.string s, .string ends] w (Tx2 (s.data.toList.take (endP p s.data.toList 0)) (s.data.toList.drop (endP p s.data.toList 0)) w) := cutBefore_big p s ends w (by omega) he h2 hac hp
theorem mem_blank (c : Int) : memB (ByteArray.mk #[32, 9]).data.toList c = blankI c := by
 unfold memB blankI
 simp only [List.any_cons, List.any_nil, Bool.or_false]
 have e : ∀ n : Nat, ((n : Int) == c) = (c == (n : Int)) := fun n => by rw [Bool.eq_iff_iff]; simp only [beq_iff_eq]; exact eq_comm
 rw [show (((32 : UInt8).toNat : Int)) = 32 from rfl, show (((9 : UInt8).toNat : Int)) = 9 from rfl]
 rw [show ((32 : Int) == c) = (c == 32) from e 32, show ((9 : Int) == c) = (c == 9) from e 9]
def leadR (l : List UInt8) : Int × List UInt8 × Int :=
 (numN ((trS l).take (endP blankI (trS l) 0)), trS ((trS l).drop (endP blankI (trS l) 0)), numE ((trS l).take (endP blankI (trS l) 0)))
def LeP (r : Int × List UInt8 × Int) (w : World) (e : Ending) (w' : World) : Prop := e = .returned (.tuple #[.int .i64 r.1, .string (Txt r.2.1), .int .u8 r.2.2]) ∧ Kp [] w w'
set_option maxRecDepth 100000 in
set_option maxHeartbeats 2000000 in
theorem leading_any (s : ByteArray) (w : World) (hs : s.size ≤ 2097152) :
   Calls Tryz.prog 93 #[.string s] w (LeP (leadR s.data.toList) w) := by
 obtain ⟨t, ht⟩ : ∃ t, trS s.data.toList = t := ⟨_, rfl⟩
 have htl : t.length ≤ 2097152 := by rw [← ht]; have := trS_len s.data.toList; rw [len_list] at this; omega
 obtain ⟨k, hk⟩ : ∃ k, endP blankI t 0 = k := ⟨_, rfl⟩
 have HT := Lib.hid (fun wz => (by have h := trimmed_any s wz hs; rw [ht] at h; exact h : Calls Tryz.prog 72 #[.string s] wz (TxK t wz)))
 have HC := Lib.hid (fun wz => (by have h := cutBefore_any blankI (Txt t) ⟨#[32, 9]⟩ wz (by rw [txt_size]; exact htl) (by decide) (by decide) (ascii_of_all (by decide)) mem_blank; rw [txt_list, hk] at h; exact h : Calls Tryz.prog 73 #[.string (Txt t), .string ⟨#[32, 9]⟩] wz (Tx2 (t.take k) (t.drop k) wz)))
 have HN := Lib.hid (fun wz => (by have h := number_q (Txt (t.take k)) wz (by rw [txt_size, List.length_take]; omega); rw [txt_list] at h; exact h))
 have HR := Lib.hid (fun wz => (by have h := trimmed_any (Txt (t.drop k)) wz (by rw [txt_size, List.length_drop]; omega); rw [txt_list] at h; exact h : Calls Tryz.prog 72 #[.string (Txt (t.drop k))] wz (TxK (trS (t.drop k)) wz)))
 have HV := Lib.hid (by unfold leadR; rw [ht, hk] : leadR s.data.toList = (numN (t.take k), trS (t.drop k), numE (t.take k)))
 clear ht hk htl
 go_enter Tryz.func93, Tryz.ntmps93
 go_wp2_with fail
 refine (HT.out _).mono ?_
 rintro e w1 ⟨rfl, hK1⟩
 have K1 := Lib.hid hK1;clear hK1
 go_wp2_with fail
 refine (HC.out _).mono ?_
 rintro e w2 ⟨rfl, hK2⟩
 have K2 := Lib.hid (K1.out.trans hK2);clear hK2
 go_wp2_with fail
 refine (HN.out _).mono ?_
 rintro e w3 ⟨rfl, hw3⟩
 obtain rfl := hw3.symm
 go_wp2_with fail
 refine (HR.out _).mono ?_
 rintro e w4 ⟨rfl, hK4⟩
 have K4 := Lib.hid (K2.out.trans hK4);clear hK4
 go_wp2_with fail
 go_ret3
 unfold LeP
 rw [HV.out]
 exact ⟨rfl, K4.out⟩
def cseqR (l : List UInt8) : Int × List UInt8 × Int :=
 if (leadR l).2.2 ≠ 0 then (0, [], (leadR l).2.2) else if tokB (leadR l).2.1 then ((leadR l).1, (leadR l).2.1, 0) else (0, [], 5)
theorem lead_len (l : List UInt8) : (leadR l).2.1.length ≤ l.length := by
 unfold leadR
 have h1 := trS_len ((trS l).drop (endP blankI (trS l) 0));have h2 := trS_len l
 rw [List.length_drop] at h1
 dsimp only; omega
set_option maxRecDepth 100000 in
set_option maxHeartbeats 2000000 in
theorem cseq_any (s : ByteArray) (w : World) (hs : s.size ≤ 2097152) :
   Calls Tryz.prog 25 #[.string s] w (LeP (cseqR s.data.toList) w) := by
 have hll := lead_len s.data.toList
 rw [len_list] at hll
 have HL := Lib.hid (fun wz => leading_any s wz hs)
 obtain ⟨n, m, x, hr⟩ : ∃ a b c, leadR s.data.toList = (a, b, c) := ⟨_, _, _, rfl⟩
 rw [hr] at HL hll
 have HV := Lib.hid (by unfold cseqR; rw [hr] : cseqR s.data.toList = if x ≠ 0 then (0, [], x) else if tokB m then (n, m, 0) else (0, [], 5))
 dsimp only at hll
 have HTk := Lib.hid (fun wz => tok_n m wz (by omega))
 clear hr hll
 by_cases hx : x = 0
 ·have HV1 := Lib.hid (HV.out.trans (if_neg (fun h => h hx)))
  have bx : (x == 0) = true := by rw [hx]; rfl
  have bx2 : (x != 0) = false := by rw [hx]; rfl
  clear hx
  cases ht : tokB m
  ·have HF := Lib.hid (by rw [HV1.out, ht]; rfl : cseqR s.data.toList = (0, [], 5))
   rw [ht] at HTk
   clear ht
   go_enter Tryz.func25, Tryz.ntmps25
   go_wp2_with fail
   refine (HL.out _).mono ?_
   rintro e w1 ⟨rfl, hK1⟩
   have K1 := Lib.hid hK1;clear hK1
   go_wp2_with fail
   refine (HTk.out _).mono ?_
   rintro e w2 ⟨rfl, hw2⟩
   obtain rfl := hw2
   go_wp2_with fail
   go_ret3
   unfold LeP
   rw [HF.out]
   exact ⟨rfl, K1.out⟩
  ·have HF := Lib.hid (by rw [HV1.out, ht]; rfl : cseqR s.data.toList = (n, m, 0))
   rw [ht] at HTk
   clear ht
   go_enter Tryz.func25, Tryz.ntmps25
   go_wp2_with fail
   refine (HL.out _).mono ?_
   rintro e w1 ⟨rfl, hK1⟩
   have K1 := Lib.hid hK1;clear hK1
   go_wp2_with fail
   refine (HTk.out _).mono ?_
   rintro e w2 ⟨rfl, hw2⟩
   obtain rfl := hw2
   go_wp2_with fail
   go_ret3
   unfold LeP
   rw [HF.out]
   exact ⟨rfl, K1.out⟩
 ·have HF := Lib.hid (HV.out.trans (if_pos hx))
  have bx : (x == 0) = false := by rw [beq_eq_false_iff_ne]; exact hx
  have bx2 : (x != 0) = true := by rw [bne_iff_ne]; exact hx
  clear hx
  go_enter Tryz.func25, Tryz.ntmps25
  go_wp2_with fail
  refine (HL.out _).mono ?_
  rintro e w1 ⟨rfl, hK1⟩
  have K1 := Lib.hid hK1;clear hK1
  go_wp2_with fail
  go_ret3
  unfold LeP
  rw [HF.out]
  exact ⟨rfl, K1.out⟩
end Ad
end Go.Proofs.YtmmjfofdnpafkaaGreatDoor
namespace Go.Proofs.YtmmjfofdnpafkaaGreatDoor
namespace Ad
open Go.RowKit Lx
def listR (l : List UInt8) : List (List UInt8) × Int :=
 if (spF l 44).2.2 ≠ 0 then ([], (spF l 44).2.2) else if (spF l 44).1.any (fun p => decide (p.2 = [])) then ([], 5) else ((spF l 44).1.map (·.2), 0)
def LtP (r : List (List UInt8) × Int) (w : World) (e : Ending) (w' : World) : Prop := ∃ v, e = .returned (.tuple #[v, .int .u8 r.2]) ∧ w'.ownsRow w.heap.size 9 1 v r.1.length (tkc r.1) ∧ Kp [] w w'
theorem spF_len2 (l : List UInt8) (sep : Int) : (spF l sep).1.length ≤ l.length + 1 := by
 unfold spF
 split
 ·simp
 ·have := spR_len l sep l.length 0 0 []; simpa using this
theorem own_nil (w : World) (b : Nat) : w.ownsRow b 9 1 (.slice none 0 0) ([] : List (List UInt8)).length (tkc []) := World.ownsRow_nil w b 9 1
theorem own_base {w : World} {a b : Nat} {e : TypeId} {size : Nat} {v : Value} {n : Nat} {xs : List Value} (h : w.ownsRow a e size v n xs) (hb : b ≤ a) : w.ownsRow b e size v n xs := by
 rcases h.2 with h2 | ⟨g, cap, cur, h3, h4, h5⟩
 ·exact ⟨h.1, .inl h2⟩
 ·exact ⟨h.1, .inr ⟨g, cap, cur, h3, Nat.le_trans hb h4, h5⟩⟩
theorem take_next {α : Type} (l : List α) (j : Nat) (x : α) (h : l[j]? = some x) : l.take (j + 1) = l.take j ++ [x] := by
 rw [List.take_add_one, h]; rfl
set_option maxRecDepth 100000 in
set_option maxHeartbeats 8000000 in
theorem list_any (s : ByteArray) (w : World) (hs : s.size ≤ 1048576) :
   Calls Tryz.prog 31 #[.string s] w (LtP (listR s.data.toList) w) := by
 have HSp := Lib.hid (Lx.split_any s 44 w (by omega))
 obtain ⟨ps, n, x, hr⟩ : ∃ a b c, spF s.data.toList 44 = (a, b, c) := ⟨_, _, _, rfl⟩
 have hpl := spF_len2 s.data.toList 44
 rw [hr] at HSp hpl
 rw [len_list] at hpl
 have HV := Lib.hid (by unfold listR; rw [hr] : listR s.data.toList = if x ≠ 0 then ([], x) else if ps.any (fun p => decide (p.2 = [])) then ([], 5) else (ps.map (·.2), 0))
 obtain ⟨i0, hi, hz0, hz1, hz2⟩ := info_parts infoStr
 dsimp only at hpl
 clear hr
 by_cases hx : x = 0
 case neg =>
  have bx : (x != 0) = true := by rw [bne_iff_ne]; exact hx
  have HF := Lib.hid (HV.out.trans (if_pos hx));clear hx
  go_enter Tryz.func31, Tryz.ntmps31
  go_wp2_with fail
  refine HSp.out.mono ?_
  rintro e w1 ⟨v, rfl, hown, hB⟩
  have K1 := Lib.hid ((Kp.refl [] w).below hB)
  clear hown hB
  go_wp2_with fail
  go_ret2
  unfold LtP
  rw [HF.out]
  exact ⟨_, rfl, own_nil _ _, K1.out⟩
 have bx : (x != 0) = false := by rw [hx]; rfl
 have HV1 := Lib.hid (HV.out.trans (if_neg (fun h => h hx)))
 clear hx
 go_enter Tryz.func31, Tryz.ntmps31
 go_wp2_with fail
 refine HSp.out.mono ?_
 rintro e w1 ⟨v, rfl, hown, hB⟩
 have K1 := Lib.hid ((Kp.refl [] w).below hB)
 dsimp only at hown
 have hrow := PcIn.of_row hown
 obtain ⟨a, c, rfl, hcel⟩ := hrow
 have Hcel := Lib.hid hcel;have hown2 := hown;have HOwn := Lib.hid hown;have hsz1 := hB.size;clear hown hown2 hB hcel
 go_wp2_with fail
 go_loopw [7, 21] (fun out i wr => ∃ (j : Nat) (acc : List (List UInt8)) (vA : Option Addr) (vC : Nat), j ≤ ps.length ∧ i = .int .i64 j ∧ out = .slice vA acc.length vC ∧ acc = (ps.take j).map (·.2) ∧ (ps.take j).any (fun p => decide (p.2 = [])) = false ∧ wr.ownsRow w1.heap.size 9 1 (.slice vA acc.length vC) acc.length (tkc acc) ∧ Kp [] w1 wr) (fun _ i _ => ps.length - (intOf i).toNat)
 case atStart => exact ⟨0, [], none, 0, by omega, rfl, rfl, by simp, by simp, by simpa [tkc] using World.ownsRow_nil w1 w1.heap.size 9 1, Kp.refl _ _⟩
 case round =>
  obtain ⟨j, acc, vA, vC, hj, rfl, rfl, hacc, hany, hown, hK⟩ := hrel
  obtain ⟨w2, rfl⟩ : ∃ w2, w2 = wr := ⟨_, rfl⟩
  have hal : acc.length = j := by rw [hacc, List.length_map, List.length_take]; omega
  have Hacc := Lib.hid hacc;have Hany := Lib.hid hany;have Ho := Lib.hid hown;have HK := Lib.hid hK;have hsz2 := hK.size
  have hal2 : acc.length ≤ j := by omega
  clear hacc hany hown hK hal
  by_cases hlt : j < ps.length
  ·obtain ⟨⟨o, y⟩, hy⟩ : ∃ p, ps[j]? = some p := ⟨ps[j], List.getElem?_eq_getElem hlt⟩
   have hne : ps ≠ [] := by intro h; rw [h] at hlt; simp at hlt
   obtain ⟨g, ha, hcell⟩ := Hcel.out hne
   have hgl : g < w1.heap.size := by
    have := HOwn.out.lt g (by rw [ha]; rfl)
    exact this.2
   obtain ⟨p1, p2⟩ := pcells_pair ps j _ hy
   have c0 : w2.cell? ⟨g, j * 2, none⟩ = some (.int .i64 (o : Int)) := (HK.out.cell (p := ⟨g, j * 2, none⟩) hgl (by simp)).trans (hcell _ _ p1)
   have c1 : w2.cell? ⟨g, j * 2 + 1, none⟩ = some (.string (Txt y)) := (HK.out.cell (p := ⟨g, j * 2 + 1, none⟩) hgl (by simp)).trans (hcell _ _ p2)
   have Htk := Lib.hid (take_next ps j _ hy)
   have Hmem := Lib.hid (List.mem_of_getElem? hy)
   subst ha
   obtain ⟨w3, hw3⟩ : ∃ x, w2.alloc (.cells #[.int .i64 (o : Int), .string (Txt y)] 110) = x := ⟨_, rfl⟩
   obtain ⟨b, hbb⟩ : ∃ x, w2.heap.size = x := ⟨_, rfl⟩
   have B3 := Lib.hid (show Blk w3 b 110 #[.int .i64 (o : Int), .string (Txt y)] from by rw [← hw3, ← hbb]; exact Blk.new w2 _ _)
   have hKa : Kp [] w2 w3 := by rw [← hw3]; exact (Kp.refl _ _).alloc _
   have K3 := Lib.hid (HK.out.trans hKa)
   have O3 := Lib.hid (own_kp1 Ho.out hKa (by simp))
   have e1 := B3.out.cell 1;have hsz3 := K3.out.size;clear hy hne hcell p1 p2 hKa
   cases hE : decide (y = [])
   ·have bE : ((Txt y).toList == ([] : List UInt8)) = false := (emp_D _).trans hE
    have HAn := Lib.hid (by rw [Htk.out, List.any_append, Hany.out]; simpa using hE : (ps.take (j + 1)).any (fun p => decide (p.2 = [])) = false)
    clear hE
    go_wp2_with (at_builtin; refine wpList_append_own _ rfl _ _ 45 rfl w1.heap.size 9 i0 (.string .empty) 1 16 Tryz.underlying45 hi hz0 hz1 hz2 rfl (by decide) _ _ _ rfl (O3.out.alloc _) ⟨w3.heap.size, 0, none⟩ 1 1 [.string (Txt y)] rfl rfl ?c2 (by simp [Value.oneCell']) ?c3 ?c4 ?c5 ?_)
    case c2 =>
     intro i u hu
     match i, hu with
     | 0, hu => simp at hu; subst hu; simp [Addr.add]
    case c3 => unfold maxLen; omega
    case c4 => omega
    case c5 => simp; omega
    intro v' w7 hown' hgrow _
    have K7 := Lib.hid ((K3.out.alloc (.cells #[.string (Txt y)] 9)).grown hgrow (fun g hg => .inr (O3.out.lt g hg).1))
    have HO7 := (by simpa [tkc] using hown' : w7.ownsRow w1.heap.size 9 1 v' (acc ++ [y]).length (tkc (acc ++ [y])))
    obtain ⟨vA', vC', rfl⟩ : ∃ p c, v' = .slice p (acc ++ [y]).length c := by
     rcases HO7.2 with ⟨hv, hz⟩ | ⟨g, cap, cur, hv, _⟩
     ·exact ⟨none, 0, by rw [hv, hz]⟩
     ·exact ⟨_, cap, hv⟩
    have HO7 := Lib.hid HO7;clear hown' hgrow
    go_wp2_with fail
    go_roundw
    case rel => exact ⟨j + 1, acc ++ [y], vA', vC', by omega, by go_num, rfl, by rw [Htk.out, List.map_append, ← Hacc.out]; rfl, HAn.out, HO7.out, K7.out⟩
    case measure => simp [intOf]; omega
   ·have bE : ((Txt y).toList == ([] : List UInt8)) = true := (emp_D _).trans hE
    have HF := Lib.hid (by rw [HV1.out, if_pos (List.any_eq_true.2 ⟨_, Hmem.out, hE⟩)] : listR s.data.toList = ([], 5))
    clear hE
    go_wp2_with fail
    go_ret2
    unfold LtP
    rw [HF.out]
    exact ⟨_, rfl, own_nil _ _, K1.out.trans K3.out⟩
  ·have hje : j = ps.length := by omega
   have HF := Lib.hid (by
    have h := Hany.out
    rw [hje, List.take_length] at h
    rw [HV1.out, h, if_neg (by decide)] : listR s.data.toList = (ps.map (·.2), 0))
   have HA := Lib.hid (by rw [Hacc.out, hje, List.take_length] : acc = ps.map (·.2))
   have HSt := Lib.hid (own_base Ho.out hsz1);clear hje
   go_wp2_with fail
   go_ret2
   unfold LtP
   rw [HF.out, ← HA.out]
   exact ⟨_, rfl, HSt.out, K1.out.trans HK.out⟩
def AdE (r : Adr × Int) (w : World) (e : Ending) (w' : World) : Prop := ∃ v, e = .returned (.tuple #[v, .int .u8 r.2]) ∧ AdIn w'.heap.size w' v r.1 ∧ Kp [] w w'
set_option maxRecDepth 100000 in
set_option maxHeartbeats 4000000 in
theorem haddress_any (s : ByteArray) (w : World) (hs : s.size ≤ 2097152) (E : Env w) :
   Calls Tryz.prog 34 #[.string s] w (AdE ((adrR (trS s.data.toList)).1, (adrR (trS s.data.toList)).2.2) w) := by
 obtain ⟨t, ht⟩ : ∃ t, trS s.data.toList = t := ⟨_, rfl⟩
 have htl : t.length ≤ 2097152 := by rw [← ht]; have := trS_len s.data.toList; rw [len_list] at this; omega
 rw [ht]
 obtain ⟨a, n, x, hr⟩ : ∃ a' b' c', adrR t = (a', b', c') := ⟨_, _, _, rfl⟩
 obtain ⟨w0, hw0⟩ : ∃ x, w.alloc (.cells zA 26) = x := ⟨_, rfl⟩
 have K0 := Lib.hid (show Kp [] w w0 from by rw [← hw0]; exact (Kp.refl _ _).alloc _)
 have Z0 := Lib.hid (show Zab w0 w.heap.size from by rw [← hw0]; exact Blk.new w 26 _)
 have E0 := Lib.hid (E.kp K0.out (by simp))
 have HT := Lib.hid (by have h := trimmed_any s w0 hs; rw [ht] at h; exact h : Calls Tryz.prog 72 #[.string s] w0 (TxK t w0))
 have HP := Lib.hid (fun wz (hE : Env wz) => (by have h := ParseAddress_any (Txt t) wz (by rw [txt_size]; exact htl) hE; rw [txt_list, hr] at h; exact h : Calls Tryz.prog 61 #[.string (Txt t)] wz (AdrP (a, n, x) wz)))
 rw [hr]
 dsimp only
 clear ht hr E
 go_enter Tryz.func34, Tryz.ntmps34
 go_wp2_with fail
 refine HT.out.mono ?_
 rintro e w1 ⟨rfl, hK1⟩
 have K1 := Lib.hid (K0.out.trans hK1)
 have Z1 := Lib.hid (show Zab w1 w.heap.size from Z0.out.kp hK1 (by simp))
 have E1 := Lib.hid (E0.out.kp hK1 (by simp))
 clear hK1
 go_wp2_with fail
 refine (HP.out _ E1.out).mono ?_
 rintro e w2 ⟨v, rfl, hv, hB2⟩
 have hK2 := (Kp.refl [] w1).below hB2
 have K2 := Lib.hid (K1.out.trans hK2)
 have Z2 := Lib.hid (show Zab w2 w.heap.size from Z1.out.kp hK2 (by simp))
 have Hv := hv
 obtain ⟨vp, vh, vq, rfl, h1, h2, h3⟩ := hv
 obtain ⟨A1, C1, rfl⟩ := h1.form
 obtain ⟨A2, C2, rfl⟩ := h2.form
 obtain ⟨A3, C3, rfl⟩ := h3.form
 clear h1 h2 h3 hB2 hK2
 dsimp only at Hv ⊢
 obtain ⟨D, hD⟩ : ∃ S, Txt a.display = S := ⟨_, rfl⟩
 obtain ⟨S, hS⟩ : ∃ S, Txt a.uri.scheme = S := ⟨_, rfl⟩
 obtain ⟨U, hU⟩ : ∃ S, Txt a.uri.user = S := ⟨_, rfl⟩
 obtain ⟨H, hH⟩ : ∃ S, Txt a.uri.host = S := ⟨_, rfl⟩
 obtain ⟨P, hP⟩ : ∃ S, a.uri.port = S := ⟨_, rfl⟩
 obtain ⟨n1, hn1⟩ : ∃ S, a.uri.params.length = S := ⟨_, rfl⟩
 obtain ⟨n2, hn2⟩ : ∃ S, a.uri.heads.length = S := ⟨_, rfl⟩
 obtain ⟨n3, hn3⟩ : ∃ S, a.params.length = S := ⟨_, rfl⟩
 rw [hD, hS, hU, hH, hP, hn1, hn2, hn3] at Hv ⊢
 clear hD hS hU hH hP hn1 hn2 hn3
 obtain ⟨g, hg⟩ : ∃ x, w2.heap.size = x := ⟨_, rfl⟩
 obtain ⟨w3, hw3⟩ : ∃ x, w2.alloc (.cells #[.string D, .string S, .string U, .string H, .int .i64 P, .slice A1 n1 C1, .slice A2 n2 C2, .slice A3 n3 C3] 26) = x := ⟨_, rfl⟩
 have hKa : Kp [] w2 w3 := by rw [← hw3]; exact (Kp.refl _ _).alloc _
 have K3 := Lib.hid (K2.out.trans hKa)
 have Z3 := Lib.hid (show Zab w3 w.heap.size from Z2.out.kp hKa (by simp))
 have B3 := Lib.hid (show Blk w3 g 26 #[.string D, .string S, .string U, .string H, .int .i64 P, .slice A1 n1 C1, .slice A2 n2 C2, .slice A3 n3 C3] from by rw [← hw3, ← hg]; exact Blk.new w2 _ _)
 have V3 := Lib.hid (Hv.kpn hKa);clear Hv hKa
 go_upto_region 2 with fail
 try rw [hw3]
 have u0 := B3.out.cell 0;have u1 := B3.out.cell 1;have u2 := B3.out.cell 2;have u3 := B3.out.cell 3;have u4 := B3.out.cell 4;have u5 := B3.out.cell 5;have u6 := B3.out.cell 6;have u7 := B3.out.cell 7;have d0 := Z3.out.cell 0;have d1 := Z3.out.cell 1;have d2 := Z3.out.cell 2;have d3 := Z3.out.cell 3;have d4 := Z3.out.cell 4;have d5 := Z3.out.cell 5;have d6 := Z3.out.cell 6;have d7 := Z3.out.cell 7;have g0 := Z3.out.frozen 0;have g1 := Z3.out.frozen 1;have g2 := Z3.out.frozen 2;have g3 := Z3.out.frozen 3;have g4 := Z3.out.frozen 4;have g5 := Z3.out.frozen 5;have g6 := Z3.out.frozen 6;have g7 := Z3.out.frozen 7
 go_wp2_with fail
 refine bodyPost_ret (results_two rfl _ _ w.heap.size 26 _ (0, 0) _ rfl (blk8 Z3.out _ _ _ _ _ _ _ _) Tryz.underlying26 rfl infoAdr) rfl ?_
 have hk8 := kp8 (Kp.refl [w.heap.size] w3) (g := w.heap.size) (.inl (by simp)) (.string D) (.string S) (.string U) (.string H) (.int .i64 P) (.slice A1 n1 C1) (.slice A2 n2 C2) (.slice A3 n3 C3)
 exact ⟨_, rfl, V3.out.grow hk8 (by intro y hy; rw [List.mem_singleton.1 hy]; exact Z3.out.nob), kp8 K3.out (.inr (Nat.le_refl _)) _ _ _ _ _ _ _ _⟩
end Ad
end Go.Proofs.YtmmjfofdnpafkaaGreatDoor
namespace Go.Proofs.YtmmjfofdnpafkaaGreatDoor
namespace Ad
open Go.RowKit Lx
theorem pmR_sz (l : List UInt8) (k : Nat) : (pmR l k).1.1.length ≤ l.length + 86 ∧ (pmR l k).1.2.1.length ≤ l.length + 86 := by
 by_cases hz : tokE l k = k
 ·rw [pmR_none _ _ hz]; exact ⟨Nat.zero_le _, Nat.zero_le _⟩
 ·have h1 : (lowL (slc l k (tokE l k))).length ≤ l.length := by rw [lowL_length]; exact slc_lel _ _ _
  by_cases h61 : atB l (blkE l (tokE l k)) = 61
  ·rw [pmR_val _ _ hz h61]; exact ⟨by dsimp only; omega, valR_len _ _⟩
  ·rw [pmR_bare _ _ hz h61]; exact ⟨by dsimp only; omega, Nat.zero_le _⟩
theorem parF_sz (l : List UInt8) : ∀ (n k : Nat) (acc : List Prm), SzL (l.length + 86) acc → SzL (l.length + 86) (parF n l k acc).1 := by
 intro n
 induction n with
 | zero => intro k acc h; exact h
 | succ n ih =>
   intro k acc h
   rcases Nat.lt_or_ge k l.length with hk | hk
   ·by_cases h59 : atB l k = 59
    ·by_cases h3 : (pmR l (blkE l (k + 1))).2.2 = 0
     ·by_cases h4 : room acc (pmR l (blkE l (k + 1))).1.1 = 0
      ·rw [parF_step n l k acc hk h59 h3 h4]
       refine ih _ _ ?_
       intro p hp
       rcases List.mem_append.1 hp with h5 | h5
       ·exact h p h5
       ·rw [List.mem_singleton.1 h5]; exact pmR_sz _ _
      ·rw [parF_err3 n l k acc hk h59 h3 h4]; exact fun p hp => by cases hp
     ·rw [parF_err2 n l k acc hk h59 h3]; exact fun p hp => by cases hp
    ·rw [parF_err1 n l k acc hk h59]; exact fun p hp => by cases hp
   ·rw [parF_end n l k acc hk]; exact h
structure MdA (m : Nat) (a : Adr) : Prop where
 d : a.display.length ≤ m
 u : SzU a.uri ∧ a.uri.host.length ≤ 1048576
 p : SzL (m + 86) a.params
 n : a.params.length ≤ 16
theorem szU_nil : SzU nilU := ⟨Nat.zero_le _, Nat.zero_le _, Nat.zero_le _, Nat.zero_le _, Nat.zero_le _, (fun p hp => by cases hp), (fun p hp => by cases hp)⟩
theorem mdA_nil (m : Nat) : MdA m nilA := ⟨Nat.zero_le _, ⟨szU_nil, Nat.zero_le _⟩, (fun p hp => by cases hp), Nat.zero_le _⟩
theorem parse_md (l : List UInt8) : SzU (parse l).1 ∧ (parse l).1.host.length ≤ 1048576 := by
 by_cases hx : (parse l).2.2 = 0
 ·exact (parse_sz l hx).szU (by have := parse_short l hx; omega)
 ·rw [(parse_at l).2 hx]; exact ⟨szU_nil, Nat.zero_le _⟩
theorem restR_md (l d : List UInt8) (a b c m : Nat) (hd : d.length ≤ m) (hl : l.length ≤ m) : MdA m (restR l d a b c).1 := by
 unfold restR
 split
 ·exact mdA_nil m
 ·split
  ·exact mdA_nil m
  ·exact ⟨hd, parse_md _, fun p hp => by have := parF_sz l (l.length + 1) (blkE l c) [] (fun p hp => by cases hp) p hp; exact ⟨by have := this.1; omega, by have := this.2; omega⟩, parF_len _ _ _ _ (Nat.zero_le _)⟩
theorem angR_md (l d : List UInt8) (k m : Nat) (hd : d.length ≤ m) (hl : l.length ≤ m) : MdA m (angR l d k).1 := by
 unfold angR
 split
 ·exact mdA_nil m
 ·exact restR_md _ _ _ _ _ _ hd hl
theorem tksF_sum (l : List UInt8) (te : Nat) : ∀ (n k : Nat) (acc : List (List UInt8)), k ≤ l.length → (acc.map List.length).sum ≤ k → acc.length ≤ k → ((tksF n l k te acc).1.map List.length).sum ≤ l.length ∧ (tksF n l k te acc).1.length ≤ l.length := by
 intro n
 induction n with
 | zero => intro k acc hk h1 h2; unfold tksF; exact ⟨by dsimp only; omega, by dsimp only; omega⟩
 | succ n ih =>
   intro k acc hk h1 h2
   by_cases h : te ≤ k
   ·rw [tksF_end n l k te acc h]; exact ⟨by dsimp only; omega, by dsimp only; omega⟩
   ·by_cases ht : tokE l k = k
    ·rw [tksF_bad n l k te acc (by omega) ht]; exact ⟨Nat.zero_le _, Nat.zero_le _⟩
    ·rw [tksF_step n l k te acc (by omega) ht]
     have e1 := tokE_len l k hk;have e2 := blkE_len l _ e1
     have e3 : k ≤ tokE l k := by unfold tokE; omega
     have e4 : tokE l k ≤ blkE l (tokE l k) := by unfold blkE; omega
     refine ih _ _ e2 ?_ ?_
     ·rw [List.map_append, List.sum_append]
      have := slc_le l k (tokE l k)
      simp only [List.map_cons, List.map_nil, List.sum_cons, List.sum_nil]
      omega
     ·rw [List.length_append, List.length_singleton]; omega
theorem adrR_md (l : List UInt8) (hl : l.length ≤ 1024) : MdA 4096 (adrR l).1 := by
 have hb := blkE_len l 0 (Nat.zero_le _)
 unfold adrR
 split
 ·exact mdA_nil _
 ·split
  ·split
   ·exact mdA_nil _
   ·split
    ·exact mdA_nil _
    ·exact angR_md _ _ _ _ (by have := unq_len l (blkE l 0); omega) (by omega)
  ·split
   ·split
    ·exact mdA_nil _
    ·refine angR_md _ _ _ _ ?_ (by omega)
     have h := tksF_sum l (endP (· == 60) l (blkE l 0)) (l.length + 1) (blkE l 0) [] hb (by simp) (by simp)
     have := joinL_acc 32 _ _ h.1
     omega
   ·split
    ·exact mdA_nil _
    ·exact restR_md _ _ _ _ _ _ (Nat.zero_le _) (by omega)
theorem adrR_md2 (l : List UInt8) : MdA 4096 (adrR l).1 := by
 by_cases hl : 1024 < l.length
 ·unfold adrR; rw [if_pos hl]; exact mdA_nil _
 ·exact adrR_md l (by omega)
def tidA (l : List UInt8) : List UInt8 × Int :=
 if (adrR (trS l)).2.2 ≠ 0 then ([], (adrR (trS l)).2.2) else ((adrO (adrR (trS l)).1).getD [], if (adrO (adrR (trS l)).1).isSome then 0 else 2)
set_option maxRecDepth 100000 in
set_option maxHeartbeats 4000000 in
theorem rewrA_any (s : ByteArray) (w : World) (hs : s.size ≤ 2097152) (E : Env w) :
   Calls Tryz.prog 177 #[.string s, .func (.func 34) #[] #[], .func (.func 17) #[] #[]] w (TxE (tidA s.data.toList) w) := by
 obtain ⟨a, n, x, hr⟩ : ∃ a' b' c', adrR (trS s.data.toList) = (a', b', c') := ⟨_, _, _, rfl⟩
 have hmd := adrR_md2 (trS s.data.toList);have HA := Lib.hid (haddress_any s w hs E)
 rw [hr] at hmd HA
 have HV := Lib.hid (by unfold tidA; rw [hr] : tidA s.data.toList = if x ≠ 0 then ([], x) else ((adrO a).getD [], if (adrO a).isSome then 0 else 2))
 dsimp only at hmd HA
 have hza : SzA a := ⟨by have := hmd.d; omega, hmd.u.1, hmd.u.2, by have := hmd.n; omega, fun p hp => by have := hmd.p p hp; exact ⟨by have := this.1; omega, by have := this.2; omega⟩⟩
 have HZ := Lib.hid hza;have HE := Lib.hid E;clear hr hmd E hza
 by_cases hx : x = 0
 ·have bx : (x != 0) = false := by rw [hx]; rfl
  have HF := Lib.hid (HV.out.trans (if_neg (fun h => h hx)))
  clear hx
  go_enter Tryz.func177, Tryz.ntmps177
  go_wp2_with fail
  refine HA.out.mono ?_
  rintro e w2 ⟨v, rfl, hv, hK2⟩
  have K2 := Lib.hid hK2;have Hv := hv
  obtain ⟨vp, vh, vq, rfl, h1, h2, h3⟩ := hv
  obtain ⟨A1, C1, rfl⟩ := h1.form
  obtain ⟨A2, C2, rfl⟩ := h2.form
  obtain ⟨A3, C3, rfl⟩ := h3.form
  clear h1 h2 h3 hK2
  dsimp only at Hv ⊢
  obtain ⟨D, hD⟩ : ∃ S, Txt a.display = S := ⟨_, rfl⟩
  obtain ⟨S, hS⟩ : ∃ S, Txt a.uri.scheme = S := ⟨_, rfl⟩
  obtain ⟨U, hU⟩ : ∃ S, Txt a.uri.user = S := ⟨_, rfl⟩
  obtain ⟨H, hH⟩ : ∃ S, Txt a.uri.host = S := ⟨_, rfl⟩
  obtain ⟨P, hP⟩ : ∃ S, a.uri.port = S := ⟨_, rfl⟩
  obtain ⟨n1, hn1⟩ : ∃ S, a.uri.params.length = S := ⟨_, rfl⟩
  obtain ⟨n2, hn2⟩ : ∃ S, a.uri.heads.length = S := ⟨_, rfl⟩
  obtain ⟨n3, hn3⟩ : ∃ S, a.params.length = S := ⟨_, rfl⟩
  rw [hD, hS, hU, hH, hP, hn1, hn2, hn3] at Hv ⊢
  clear hD hS hU hH hP hn1 hn2 hn3
  obtain ⟨g, hg⟩ : ∃ x, w2.heap.size = x := ⟨_, rfl⟩
  obtain ⟨w3, hw3⟩ : ∃ x, w2.alloc (.cells #[.string D, .string S, .string U, .string H, .int .i64 P, .slice A1 n1 C1, .slice A2 n2 C2, .slice A3 n3 C3] 26) = x := ⟨_, rfl⟩
  have hKa : Kp [] w2 w3 := by rw [← hw3]; exact (Kp.refl _ _).alloc _
  have K3 := Lib.hid (K2.out.trans hKa)
  have B3 := Lib.hid (show Blk w3 g 26 #[.string D, .string S, .string U, .string H, .int .i64 P, .slice A1 n1 C1, .slice A2 n2 C2, .slice A3 n3 C3] from by rw [← hw3, ← hg]; exact Blk.new w2 _ _)
  have V3 := Lib.hid (Hv.kpn hKa);clear Hv hKa
  have hP := printAddress_any w3.heap.size _ a w3 V3.out (Nat.le_refl _) HZ.out (HE.out.kp K3.out (by simp))
  unfold PrK at hP
  obtain ⟨pt, hpt⟩ : ∃ z, (adrO a).getD [] = z := ⟨_, rfl⟩
  obtain ⟨pe, hpe⟩ : ∃ z : Int, (if (adrO a).isSome then 0 else 2) = z := ⟨_, rfl⟩
  have hF := HF.out
  rw [hpt, hpe] at hP hF
  have HP := Lib.hid hP;have HF2 := Lib.hid hF;clear hP hF hpt hpe HF
  go_upto_region 4 with fail
  try rw [hw3]
  have u0 := B3.out.cell 0;have u1 := B3.out.cell 1;have u2 := B3.out.cell 2;have u3 := B3.out.cell 3;have u4 := B3.out.cell 4;have u5 := B3.out.cell 5;have u6 := B3.out.cell 6;have u7 := B3.out.cell 7
  go_wp2_with fail
  refine HP.out.mono ?_
  rintro e w4 ⟨rfl, hK4⟩
  have K4 := Lib.hid (K3.out.trans hK4);clear hK4
  go_wp2_with fail
  go_ret2
  unfold TxE
  rw [HF2.out]
  exact ⟨rfl, K4.out⟩
 ·have bx : (x != 0) = true := by rw [bne_iff_ne]; exact hx
  have HF := Lib.hid (HV.out.trans (if_pos hx));clear hx
  go_enter Tryz.func177, Tryz.ntmps177
  go_wp2_with fail
  refine HA.out.mono ?_
  rintro e w2 ⟨v, rfl, hv, hK2⟩
  have K2 := Lib.hid hK2;have Hv := hv
  obtain ⟨vp, vh, vq, rfl, h1, h2, h3⟩ := hv
  obtain ⟨A1, C1, rfl⟩ := h1.form
  obtain ⟨A2, C2, rfl⟩ := h2.form
  obtain ⟨A3, C3, rfl⟩ := h3.form
  clear h1 h2 h3 hK2
  dsimp only at Hv ⊢
  obtain ⟨D, hD⟩ : ∃ S, Txt a.display = S := ⟨_, rfl⟩
  obtain ⟨S, hS⟩ : ∃ S, Txt a.uri.scheme = S := ⟨_, rfl⟩
  obtain ⟨U, hU⟩ : ∃ S, Txt a.uri.user = S := ⟨_, rfl⟩
  obtain ⟨H, hH⟩ : ∃ S, Txt a.uri.host = S := ⟨_, rfl⟩
  obtain ⟨P, hP⟩ : ∃ S, a.uri.port = S := ⟨_, rfl⟩
  obtain ⟨n1, hn1⟩ : ∃ S, a.uri.params.length = S := ⟨_, rfl⟩
  obtain ⟨n2, hn2⟩ : ∃ S, a.uri.heads.length = S := ⟨_, rfl⟩
  obtain ⟨n3, hn3⟩ : ∃ S, a.params.length = S := ⟨_, rfl⟩
  rw [hD, hS, hU, hH, hP, hn1, hn2, hn3] at Hv ⊢
  clear hD hS hU hH hP hn1 hn2 hn3
  obtain ⟨g, hg⟩ : ∃ x, w2.heap.size = x := ⟨_, rfl⟩
  obtain ⟨w3, hw3⟩ : ∃ x, w2.alloc (.cells #[.string D, .string S, .string U, .string H, .int .i64 P, .slice A1 n1 C1, .slice A2 n2 C2, .slice A3 n3 C3] 26) = x := ⟨_, rfl⟩
  have hKa : Kp [] w2 w3 := by rw [← hw3]; exact (Kp.refl _ _).alloc _
  have K3 := Lib.hid (K2.out.trans hKa)
  have B3 := Lib.hid (show Blk w3 g 26 #[.string D, .string S, .string U, .string H, .int .i64 P, .slice A1 n1 C1, .slice A2 n2 C2, .slice A3 n3 C3] from by rw [← hw3, ← hg]; exact Blk.new w2 _ _)
  have V3 := Lib.hid (Hv.kpn hKa);clear Hv hKa
  go_upto_region 3 with fail
  try rw [hw3]
  go_wp2_with fail
  go_ret2
  unfold TxE
  rw [HF.out]
  exact ⟨rfl, K3.out⟩
set_option maxRecDepth 100000 in
set_option maxHeartbeats 4000000 in
theorem tidyOne_adr (s : ByteArray) (w : World) (hs : s.size ≤ 2097152) (E : Env w) :
   Calls Tryz.prog 106 #[.int .u8 1, .string s] w (TxE (tidA s.data.toList) w) := by
 have HR := Lib.hid (rewrA_any s w hs E)
 obtain ⟨t, x, hr⟩ : ∃ a b, tidA s.data.toList = (a, b) := ⟨_, _, rfl⟩
 rw [hr] at HR ⊢
 clear hr E
 go_enter Tryz.func106, Tryz.ntmps106
 go_wp2_with fail
 refine HR.out.mono ?_
 rintro e w2 ⟨rfl, hK2⟩
 have K2 := Lib.hid hK2;clear hK2
 go_wp2_with fail
 go_ret2
 exact ⟨rfl, K2.out⟩
end Ad
end Go.Proofs.YtmmjfofdnpafkaaGreatDoor
namespace Go.Proofs.YtmmjfofdnpafkaaGreatDoor
namespace Ad
open Go.RowKit Lx
def tidM (star : Bool) (f : List UInt8 → List UInt8 × Int) : List (List UInt8) → List (List UInt8) × Int
 | [] => ([], 0)
 | x :: t => if (star && x == [42]) = true then (x :: (tidM star f t).1, (tidM star f t).2)
   else if (f x).2 ≠ 0 then ([], (f x).2) else ((f x).1 :: (tidM star f t).1, (tidM star f t).2)
def tidJ (T : List (List UInt8) × Int) : List UInt8 × Int := if T.2 ≠ 0 then ([], T.2) else (Lib.join T.1 [44, 32], 0)
def conN : List UInt8 := [67, 111, 110, 116, 97, 99, 116]
theorem tkc_set (ys : List (List UInt8)) (x y : List UInt8) (zs : List (List UInt8)) : (tkc (ys ++ x :: zs)).set ys.length (.string (Txt y)) = tkc (ys ++ y :: zs) := by
 unfold tkc
 rw [List.map_append, List.map_append, List.set_append_right _ _ (by simp)]
 simp
set_option maxRecDepth 100000 in
set_option maxHeartbeats 8000000 in
theorem tidy_many (nm s : ByteArray) (cn : List UInt8) (xs : List (List UInt8)) (k : Int) (f : List UInt8 → List UInt8 × Int) (w : World) (hn : nm.size ≤ 2097152) (hs : s.size ≤ 1048576) (H : HEnv w)
   (hcan : canR nm.data.toList = (cn, 0)) (hk : kindR cn = (k, true)) (hl : listR s.data.toList = (xs, 0)) (hne : xs ≠ []) (hxn : xs.length ≤ 2097152) (hx : ∀ y ∈ xs, y.length ≤ 2097000)
   (HT : ∀ y wz, y.length ≤ 2097000 → HEnv wz → Calls Tryz.prog 106 #[.int .u8 k, .string (Txt y)] wz (TxE (f y) wz))
   (hj : (Lib.join (tidM (cn == conN) f xs).1 [44, 32]).length ≤ 140737488355328) :
   Calls Tryz.prog 50 #[.string nm, .string s] w (TxE (tidJ (tidM (cn == conN) f xs)) w) := by
 have HCa := Lib.hid (by have h := canon_any nm w hn H; rw [hcan] at h; exact h)
 have HKi := Lib.hid (fun wz (h : HEnv wz) => (by have h := kindOf_any cn wz h; rw [hk] at h; exact h))
 have HLi := Lib.hid (fun wz => (by have h := list_any s wz hs; rw [hl] at h; exact h))
 obtain ⟨star, hstar⟩ : ∃ b, (cn == conN) = b := ⟨_, rfl⟩
 have bC : ((Txt cn).toList == [67, 111, 110, 116, 97, 99, 116]) = star := by
  have := txt_eq_iff cn conN
  rw [hstar] at this
  rw [← this, Lib.toList_data, Lib.toList_data]; rfl
 rw [hstar] at hj ⊢
 obtain ⟨T, hT⟩ : ∃ T, tidM star f xs = T := ⟨_, rfl⟩
 rw [hT] at hj ⊢
 have HTe := Lib.hid hT;have HTo := Lib.hid HT;have H0 := Lib.hid H;have Hx := Lib.hid hx;have Hne := Lib.hid hne;have Hj := Lib.hid hj;clear hcan hk hl hstar hT HT H hx hne hj
 go_enter Tryz.func50, Tryz.ntmps50
 go_wp2_with fail
 refine HCa.out.mono ?_
 rintro e w1 ⟨rfl, hK1⟩
 have K1 := Lib.hid hK1;clear hK1
 go_wp2_with fail
 refine (HKi.out _ (H0.out.kp K1.out (by simp))).mono ?_
 rintro e w2 ⟨rfl, hK2⟩
 have K2 := Lib.hid (K1.out.trans hK2);clear hK2
 go_wp2_with fail
 refine (HLi.out _).mono ?_
 rintro e w3 ⟨v, rfl, hown, hK3⟩
 have K3 := Lib.hid (K2.out.trans hK3);have hsz2 := K2.out.size
 dsimp only at hown
 have hown := own_base hown hsz2
 obtain ⟨g, c, rfl⟩ : ∃ g c, v = .slice (some ⟨g, 0, none⟩) xs.length c := by
  rcases hown.2 with ⟨_, h0⟩ | ⟨g, cap, cur, hv, _⟩
  ·exact absurd (List.eq_nil_of_length_eq_zero h0) Hne.out
  ·exact ⟨g, cap, hv⟩
 have hgw := (hown.lt g rfl).1;have hgl3 := (hown.lt g rfl).2;have Hown := Lib.hid hown
 have hcap : xs.length ≤ c := by
  rcases hown.2 with ⟨h0, _⟩ | ⟨g2, cap, cur, hv, _, _, hnc, _⟩
  ·cases h0
  ·injection hv with _ _ hv; omega
 clear hown hK3
 go_wp2_with fail
 go_loopw [43] (fun i wr => ∃ (j : Nat) (ys : List (List UInt8)), j ≤ xs.length ∧ i = .int .i64 j ∧ ys.length = j ∧ wr.ownsRow w.heap.size 9 1 (.slice (some ⟨g, 0, none⟩) xs.length c) xs.length (tkc (ys ++ xs.drop j)) ∧ Kp [] w wr ∧ w3.heap.size ≤ wr.heap.size ∧ T.2 = (tidM star f (xs.drop j)).2 ∧ (T.2 = 0 → T.1 = ys ++ (tidM star f (xs.drop j)).1)) (fun i _ => xs.length - (intOf i).toNat)
 case atStart => exact ⟨0, [], by omega, rfl, rfl, by simpa using Hown.out, K3.out, Nat.le_refl _, by rw [List.drop_zero, HTe.out], fun _ => by rw [List.drop_zero, HTe.out]; rfl⟩
 case round =>
  obtain ⟨j, ys, hj, rfl, hyl, hown, hK, hsz, hT2, hT1⟩ := hrel
  obtain ⟨w4, rfl⟩ : ∃ w4, w4 = wr := ⟨_, rfl⟩
  have Ho := Lib.hid hown;have HK := Lib.hid hK;have HT2 := Lib.hid hT2;have HT1 := Lib.hid hT1;have Hyl := Lib.hid hyl;clear hown hK hT2 hT1 hyl
  by_cases hlt : j < xs.length
  ·obtain ⟨x, hxj⟩ : ∃ x, xs[j]? = some x := ⟨xs[j], List.getElem?_eq_getElem hlt⟩
   have hdr : xs.drop j = x :: xs.drop (j + 1) := by
    obtain ⟨h1, h2⟩ := List.getElem?_eq_some_iff.1 hxj
    rw [← h2]; exact List.drop_eq_getElem_cons h1
   have Hdr := Lib.hid hdr
   have hxl := Hx.out x (List.mem_of_getElem? hxj)
   have c0 : w4.cell? ⟨g, j, none⟩ = some (.string (Txt x)) := by
    rw [Ho.out.cellAt j (by omega), hdr]
    unfold tkc
    rw [List.getElem?_map, List.getElem?_append_right (by have := Hyl.out; omega), Hyl.out]
    simp
   clear hdr hxj
   cases hst : (star && x == [42])
   case true =>
    have b1 : star = true := by cases star <;> simp_all
    have b2 : ((Txt x).toList == [42]) = true := by
     have h := hst
     rw [b1, Bool.true_and] at h
     have := txt_eq_iff x [42]
     rw [h] at this
     rw [← this, Lib.toList_data, Lib.toList_data]; rfl
    have HM := Lib.hid (by rw [Hdr.out, tidM, if_pos hst] : tidM star f (xs.drop j) = (x :: (tidM star f (xs.drop (j + 1))).1, (tidM star f (xs.drop (j + 1))).2))
    have b1' := b1
    rw [b1'] at bC
    clear hst b1 b1'
    go_wp2_with fail
    go_roundw
    case rel => exact ⟨j + 1, ys ++ [x], by omega, by go_num, by rw [List.length_append, Hyl.out]; rfl, by have h := Ho.out; rw [Hdr.out] at h; simpa using h, HK.out, hsz, by rw [HT2.out, HM.out], fun h => by rw [HT1.out h, HM.out]; simp⟩
    case measure => simp [intOf]; omega
   case false =>
    obtain ⟨y, ex, hfy⟩ : ∃ a b, f x = (a, b) := ⟨_, _, rfl⟩
    have HTx := Lib.hid (by have h := HTo.out x w4 (by omega) (H0.out.kp HK.out (by simp)); rw [hfy] at h; exact h : Calls Tryz.prog 106 #[.int .u8 k, .string (Txt x)] w4 (TxE (y, ex) w4))
    have HM := Lib.hid (by rw [Hdr.out, tidM, if_neg (by rw [hst]; decide), hfy] : tidM star f (xs.drop j) = if ex ≠ 0 then ([], ex) else (y :: (tidM star f (xs.drop (j + 1))).1, (tidM star f (xs.drop (j + 1))).2))
    have hb : star = false ∨ (star = true ∧ ((Txt x).toList == [42]) = false) := by
     cases hs2 : star
     ·exact .inl rfl
     ·right
      refine ⟨rfl, ?_⟩
      rw [hs2, Bool.true_and] at hst
      have := txt_eq_iff x [42]
      rw [hst] at this
      rw [← this, Lib.toList_data, Lib.toList_data]; rfl
    clear hst hfy
    rcases hb with hs2 | ⟨hs2, b2⟩
    all_goals
     rw [hs2] at bC
     clear hs2
     go_wp2_with fail
     refine HTx.out.mono ?_
     rintro e w5 ⟨rfl, hK5⟩
     have K5 := Lib.hid (HK.out.trans hK5)
     have O5 := Lib.hid (own_kp1 Ho.out hK5 (by simp))
     have hsz5 := hK5.size
     have c5 : w5.cell? ⟨g, j, none⟩ = some (.string (Txt x)) := (hK5.cell (p := ⟨g, j, none⟩) (by show g < _; omega) (by simp)).trans c0
     have f5 := O5.out.frozenAt j
     obtain ⟨w6, hw6⟩ : ∃ z, w5.setCell ⟨g, j, none⟩ (.string (Txt y)) = z := ⟨_, rfl⟩
     have O6 := Lib.hid (by
      have h := (O5.out.stored j (.string (Txt y))).1
      rw [hw6, Hdr.out] at h
      have hs3 := tkc_set ys x y (xs.drop (j + 1))
      rw [Hyl.out] at hs3
      rw [hs3] at h
      exact h : w6.ownsRow w.heap.size 9 1 (.slice (some ⟨g, 0, none⟩) xs.length c) xs.length (tkc (ys ++ y :: xs.drop (j + 1))))
     have K6 := Lib.hid (show Kp [] w w6 from by rw [← hw6]; exact K5.out.setCell (p := ⟨g, j, none⟩) (.inr hgw) _)
     have hsz6 : w5.heap.size ≤ w6.heap.size := by rw [← hw6]; simp [World.setCell]
     clear hK5 c0
     go_upto_region 15 with fail
     try rw [hw6]
     clear c5 f5 hw6
     by_cases hex : ex = 0
     ·have bx : (ex != 0) = false := by rw [hex]; rfl
      have HM2 := Lib.hid (HM.out.trans (if_neg (fun h => h hex)))
      clear hex
      go_wp2_with fail
      go_roundw
      case rel => exact ⟨j + 1, ys ++ [y], by omega, by go_num, by rw [List.length_append, Hyl.out]; rfl, by simpa using O6.out, K6.out, by omega, by rw [HT2.out, HM2.out], fun h => by rw [HT1.out h, HM2.out]; simp⟩
      case measure => simp [intOf]; omega
     ·have bx : (ex != 0) = true := by rw [bne_iff_ne]; exact hex
      have HF := Lib.hid (by
       have h := HT2.out
       rw [HM.out, if_pos hex] at h
       unfold tidJ
       rw [if_pos (by rw [h]; exact hex), h] : tidJ T = ([], ex))
      clear hex
      go_wp2_with fail
      go_ret2
      unfold TxE
      rw [HF.out]
      exact ⟨rfl, K6.out⟩
  ·have hje : j = xs.length := by omega
   have hTe : T.2 = 0 := by rw [HT2.out, hje, List.drop_length]; rfl
   have hT1 : T.1 = ys := by rw [HT1.out hTe, hje, List.drop_length]; simp [tidM]
   have HF := Lib.hid (by unfold tidJ; rw [if_neg (fun h => h hTe), hT1] : tidJ T = (Lib.join ys [44, 32], 0))
   have hyl2 : ys.length = xs.length := by rw [Hyl.out]; exact hje
   have hown : w4.ownsRow w.heap.size 9 1 (.slice (some ⟨g, 0, none⟩) xs.length c) xs.length (tkc ys) := by
    have h := Ho.out
    rw [hje, List.drop_length, List.append_nil] at h
    exact h
   have hjl := Hj.out
   rw [hT1] at hjl
   have HJo := Lib.hid (by
    have h := Tryz.strings_Join g 0 c (ys.map Txt) ⟨#[44, 32]⟩ w4 (fun i z hz => by
     rw [Nat.zero_add]
     have hi : i < xs.length := by
      have := (List.getElem?_eq_some_iff.1 hz).1
      rw [List.length_map] at this; omega
     rw [hown.cellAt i (by omega)]
     unfold tkc
     rw [List.getElem?_map] at hz ⊢
     cases hq : ys[i]? with
     | none => rw [hq] at hz; cases hz
     | some q => rw [hq] at hz; simp only [Option.map_some, Option.some.injEq] at hz ⊢; rw [hz]) (by omega) (by rw [List.length_map]; omega) (by rw [List.length_map]; omega) (by
     rw [List.map_map, show ((fun b : ByteArray => b.data.toList) ∘ Txt) = id from by funext z; exact txt_list z, List.map_id]; exact hjl)
    rw [List.map_map, show ((fun b : ByteArray => b.data.toList) ∘ Txt) = id from by funext z; exact txt_list z, List.map_id, List.length_map, hyl2] at h
    exact h : Calls Tryz.prog 107 #[.slice (some ⟨g, 0, none⟩) xs.length c, .string ⟨#[44, 32]⟩] w4 fun e w' => e = .returned (.string ⟨(Lib.join ys [44, 32]).toArray⟩) ∧ Below w4.heap.size w4 w')
   clear hje hTe hT1 hyl2 hown hjl
   go_wp2_with fail
   refine HJo.out.mono ?_
   rintro e w5 ⟨rfl, hB5⟩
   have K5 := Lib.hid (HK.out.below hB5);clear hB5
   go_wp2_with fail
   go_ret2
   unfold TxE
   rw [HF.out]
   exact ⟨rfl, K5.out⟩
end Ad
end Go.Proofs.YtmmjfofdnpafkaaGreatDoor
namespace Go.Proofs.YtmmjfofdnpafkaaGreatDoor
namespace Ad
open Go.RowKit Lx
def protoL : List UInt8 := [83, 73, 80, 47, 50, 46, 48, 47]
def cutV (v : List UInt8) : List UInt8 × List UInt8 × Bool :=
 if (decide (tokE v 0 = 0) || decide (blkE v (tokE v 0) = tokE v 0)) = true then ([], [], false) else (uprL (v.take (tokE v 0)), v.drop (blkE v (tokE v 0)), true)
def cutT (l : List UInt8) : List UInt8 × List UInt8 × Bool :=
 if (decide (8 ≤ l.length) && (uprL (l.take 8) == protoL)) = true then cutV (l.drop 8) else ([], [], false)
def T3P (r : List UInt8 × List UInt8 × Bool) (w : World) (e : Ending) (w' : World) : Prop := e = .returned (.tuple #[.string (Txt r.1), .string (Txt r.2.1), .bool r.2.2]) ∧ Kp [] w w'
theorem tokEnd_c (s : ByteArray) (k : Nat) (w : World) (hs : s.size ≤ 4194304) (hk : k ≤ s.size) : Calls Tryz.prog 100 #[.string s, .int .i64 k] w (Ret (.int .i64 (tokE s.data.toList k : Nat)) w) := by
 have := Lx.tokenEnd_any s k w (by unfold maxLen; omega)
 rwa [tokE_bhd s k hk] at this
theorem blanks_c (s : ByteArray) (k : Nat) (w : World) (hs : s.size ≤ 4194304) (hk : k ≤ s.size) : Calls Tryz.prog 144 #[.string s, .int .i64 k] w (Ret (.int .i64 (blkE s.data.toList k : Nat)) w) := by
 have := Lx.blanks_any s k w (by unfold maxLen; omega)
 rwa [blkE_bhd s k hk] at this
set_option maxRecDepth 100000 in
set_option maxHeartbeats 4000000 in
theorem cutTransport_big (s : ByteArray) (w : World) (hs : s.size ≤ 4194304) :
   Calls Tryz.prog 71 #[.string s] w (T3P (cutT s.data.toList) w) := by
 have hlen := len_list s
 by_cases h8 : 8 ≤ s.size
 case neg =>
  have HF := Lib.hid (by unfold cutT; rw [hlen, decide_eq_false h8]; rfl : cutT s.data.toList = ([], [], false))
  have b8 : (s.size : Int) < 8 := by omega
  clear h8 hlen
  go_enter Tryz.func71, Tryz.ntmps71
  go_wp2_with fail
  go_ret3
  unfold T3P
  rw [HF.out]
  exact ⟨rfl, Kp.refl _ _⟩
 have b8 : ¬ (s.size : Int) < 8 := by omega
 have b8' : (8 : Int) ≤ (s.size : Int) := by omega
 have H1 := Lib.hid (by rw [take_slc] : s.extract 0 8 = Txt (s.data.toList.take 8))
 have hv : s.extract 8 s.size = Txt (s.data.toList.drop 8) := by rw [slc_txt, slc_full _ _ _ (by rw [hlen]; exact Nat.le_refl _)]
 obtain ⟨v, hvv⟩ : ∃ v, s.data.toList.drop 8 = v := ⟨_, rfl⟩
 have hvl : v.length ≤ 4194296 := by rw [← hvv, List.length_drop, hlen]; omega
 rw [hvv] at hv
 have H2 := Lib.hid hv
 obtain ⟨q, hq⟩ : ∃ q, s.data.toList.take 8 = q := ⟨_, rfl⟩
 have hql : q.length ≤ 8 := by rw [← hq, List.length_take]; omega
 have HU := Lib.hid (fun wz => (by have h := each_up (Txt q) wz (by rw [txt_size]; omega); rw [txt_list] at h; exact h : Calls Tryz.prog 89 #[.string (Txt q), .func (.func 90) #[] #[]] wz (RetNew (uprL q) wz)))
 rw [hq] at H1
 obtain ⟨B, hB⟩ : ∃ B, (uprL q == protoL) = B := ⟨_, rfl⟩
 have bB : (uprL q == [83, 73, 80, 47, 50, 46, 48, 47]) = B := hB
 have HV0 := Lib.hid (by unfold cutT; rw [hlen, decide_eq_true h8, hq, hB, hvv, Bool.true_and] : cutT s.data.toList = if B = true then cutV v else ([], [], false))
 clear hq hB hvv hv h8 hql
 cases B
 case false =>
  have HF := Lib.hid (by rw [HV0.out]; rfl : cutT s.data.toList = ([], [], false))
  go_enter Tryz.func71, Tryz.ntmps71
  go_wp2_with fail
  rw [H1.out]
  refine (HU.out _).mono ?_
  rintro e w1 ⟨rfl, hB1⟩
  have K1 := Lib.hid ((Kp.refl [] w).below hB1)
  clear hB1
  go_wp2_with fail
  go_ret3
  unfold T3P
  rw [HF.out]
  exact ⟨rfl, K1.out⟩
 case true =>
  have HV1 := Lib.hid (by rw [HV0.out]; rfl : cutT s.data.toList = cutV v)
  obtain ⟨te, hte⟩ : ∃ te, tokE v 0 = te := ⟨_, rfl⟩
  obtain ⟨f, hf⟩ : ∃ f, blkE v te = f := ⟨_, rfl⟩
  have htl : te ≤ v.length := by rw [← hte]; exact tokE_len v 0 (Nat.zero_le _)
  have hfl : f ≤ v.length := by rw [← hf]; exact blkE_len v te htl
  have HTE := Lib.hid (fun wz => (by have h := tokEnd_c (Txt v) 0 wz (by rw [txt_size]; omega) (Nat.zero_le _); rw [txt_list, hte] at h; exact h : Calls Tryz.prog 100 #[.string (Txt v), .int .i64 0] wz (Ret (.int .i64 (te : Int)) wz)))
  have HBE := Lib.hid (fun wz => (by have h := blanks_c (Txt v) te wz (by rw [txt_size]; omega) (by rw [txt_size]; exact htl); rw [txt_list, hf] at h; exact h : Calls Tryz.prog 144 #[.string (Txt v), .int .i64 (te : Int)] wz (Ret (.int .i64 (f : Int)) wz)))
  have HV2 := Lib.hid (by rw [HV1.out]; unfold cutV; rw [hte, hf] : cutT s.data.toList = if (decide (te = 0) || decide (f = te)) = true then ([], [], false) else (uprL (v.take te), v.drop f, true))
  have H3 := Lib.hid (by have h := take_slc (Txt v) te; rw [txt_list] at h; exact h : (Txt v).extract 0 te = Txt (v.take te))
  have hsz : (Txt v).size = v.length := txt_size v
  have H4 := Lib.hid (by rw [slc_txt, txt_list, slc_full _ _ _ (by rw [txt_size]; exact Nat.le_refl _)] : (Txt v).extract f (Txt v).size = Txt (v.drop f))
  have HU2 := Lib.hid (fun wz => (by have h := each_up (Txt (v.take te)) wz (by rw [txt_size, List.length_take]; omega); rw [txt_list] at h; exact h : Calls Tryz.prog 89 #[.string (Txt (v.take te)), .func (.func 90) #[] #[]] wz (RetNew (uprL (v.take te)) wz)))
  have b1 : (te : Int) ≤ ((Txt v).size : Int) := by omega
  have b2 : (f : Int) ≤ ((Txt v).size : Int) := by omega
  obtain ⟨X, hX⟩ : ∃ X, Txt v = X := ⟨_, rfl⟩
  rw [hX] at H2 HTE HBE H3 H4 b1 b2
  clear hX hsz htl hfl hte hf hvl
  by_cases h0 : te = 0
  ·have HF := Lib.hid (by rw [HV2.out, decide_eq_true h0]; rfl : cutT s.data.toList = ([], [], false))
   have c0 : ((te : Int) == 0) = true := by rw [h0]; rfl
   clear h0
   go_enter Tryz.func71, Tryz.ntmps71
   go_wp2_with fail
   rw [H1.out]
   refine (HU.out _).mono ?_
   rintro e w1 ⟨rfl, hB1⟩
   have K1 := Lib.hid ((Kp.refl [] w).below hB1)
   clear hB1
   go_wp2_with fail
   rw [H2.out]
   refine (HTE.out _).mono ?_
   rintro e w2 ⟨rfl, hw⟩
   obtain rfl := hw
   go_wp2_with fail
   refine (HBE.out _).mono ?_
   rintro e w2 ⟨rfl, hw⟩
   obtain rfl := hw
   go_wp2_with fail
   go_ret3
   unfold T3P
   rw [HF.out]
   exact ⟨rfl, K1.out⟩
  by_cases h1 : f = te
  ·have HF := Lib.hid (by rw [HV2.out, decide_eq_false h0, decide_eq_true h1]; rfl : cutT s.data.toList = ([], [], false))
   have c0 : ((te : Int) == 0) = false := by rw [beq_eq_false_iff_ne]; omega
   have c1 : ((f : Int) == (te : Int)) = true := by rw [h1]; exact beq_self_eq_true _
   clear h0 h1
   go_enter Tryz.func71, Tryz.ntmps71
   go_wp2_with fail
   rw [H1.out]
   refine (HU.out _).mono ?_
   rintro e w1 ⟨rfl, hB1⟩
   have K1 := Lib.hid ((Kp.refl [] w).below hB1)
   clear hB1
   go_wp2_with fail
   rw [H2.out]
   refine (HTE.out _).mono ?_
   rintro e w2 ⟨rfl, hw⟩
   obtain rfl := hw
   go_wp2_with fail
   refine (HBE.out _).mono ?_
   rintro e w2 ⟨rfl, hw⟩
   obtain rfl := hw
   go_wp2_with fail
   go_ret3
   unfold T3P
   rw [HF.out]
   exact ⟨rfl, K1.out⟩
  ·have HF := Lib.hid (by rw [HV2.out, decide_eq_false h0, decide_eq_false h1]; rfl : cutT s.data.toList = (uprL (v.take te), v.drop f, true))
   have c0 : ((te : Int) == 0) = false := by rw [beq_eq_false_iff_ne]; omega
   have c1 : ((f : Int) == (te : Int)) = false := by rw [beq_eq_false_iff_ne]; omega
   clear h0 h1
   go_enter Tryz.func71, Tryz.ntmps71
   go_wp2_with fail
   rw [H1.out]
   refine (HU.out _).mono ?_
   rintro e w1 ⟨rfl, hB1⟩
   have K1 := Lib.hid ((Kp.refl [] w).below hB1)
   clear hB1
   go_wp2_with fail
   rw [H2.out]
   refine (HTE.out _).mono ?_
   rintro e w2 ⟨rfl, hw⟩
   obtain rfl := hw
   go_wp2_with fail
   refine (HBE.out _).mono ?_
   rintro e w2 ⟨rfl, hw⟩
   obtain rfl := hw
   go_upto_region 8 with fail
   go_region_with ((go_at_call 89; rw [H3.out]; refine (HU2.out _).mono ?_; rintro e w3 ⟨rfl, hB3⟩; have K3 := Lib.hid (K1.out.drew.below hB3); clear hB3))
   all_goals
    go_wp2_with fail
    go_ret3
    unfold T3P
    rw [HF.out, ← H4.out]
    exact ⟨rfl, K3.out⟩
def hasP (l : List UInt8) : Bool := decide (Lib.lastIndexByte (Txt l) 93 < Lib.lastIndexByte (Txt l) 58)
def colP (l : List UInt8) : Nat := (Lib.lastIndexByte (Txt l) 58).toNat
def nameP (l : List UInt8) : List UInt8 := if hasP l = true then l.take (colP l) else l
def plN (h : List UInt8) (N X : Int) : List UInt8 × Int × Int := if X ≠ 0 then ([], 0, X) else if N < 1 ∨ 65535 < N then ([], 0, 3) else (h, N, 0)
def plO (l : List UInt8) (o : Option (List UInt8)) : List UInt8 × Int × Int :=
 match o with
 | none => ([], 0, 5)
 | some h => if hasP l = true then plN h (numN (l.drop (colP l + 1))) (numE (l.drop (colP l + 1))) else (h, 0, 0)
def plR (l : List UInt8) : List UInt8 × Int × Int := plO l (hostO (nameP l))
def PlP (r : List UInt8 × Int × Int) (w : World) (e : Ending) (w' : World) : Prop := e = .returned (.tuple #[.string (Txt r.1), .int .i64 r.2.1, .int .u8 r.2.2]) ∧ Kp [] w w'
set_option maxRecDepth 100000 in
set_option maxHeartbeats 4000000 in
theorem readPlace_any (s : ByteArray) (w : World) (hs : s.size ≤ 2097152) (E : Env w) :
   Calls Tryz.prog 74 #[.string s] w (PlP (plR s.data.toList) w) := by
 have HLa := Lib.hid (fun (c : Int) wz => (Tryz.strings_LastIndexByte s c (by omega) wz : Calls Tryz.prog 147 #[.string s, .int .u8 c] wz fun e w' => e = .returned (.int .i64 (Lib.lastIndexByte s c)) ∧ w' = wz))
 have HE := Lib.hid E;have hlen := len_list s;have hsp := Lib.lastIndexByte_spec s 58;have hsp2 := Lib.lastIndexByte_spec s 93
 have hh : hasP s.data.toList = decide (Lib.lastIndexByte s 93 < Lib.lastIndexByte s 58) := by unfold hasP; rw [txt_self]
 have hcc : colP s.data.toList = (Lib.lastIndexByte s 58).toNat := by unfold colP; rw [txt_self]
 have HC := Lib.hid (HLa.out 58);have HD := Lib.hid (HLa.out 93)
 obtain ⟨C, hC⟩ : ∃ C, Lib.lastIndexByte s 58 = C := ⟨_, rfl⟩
 obtain ⟨D, hD⟩ : ∃ D, Lib.lastIndexByte s 93 = D := ⟨_, rfl⟩
 have bD : -1 ≤ D := by rcases hsp2 with ⟨h, _⟩ | ⟨i, _, h, _⟩ <;> omega
 have bC : -1 ≤ C ∧ C < s.size := by rcases hsp with ⟨h, _⟩ | ⟨i, _, h, _⟩ <;> omega
 rw [hC, hD] at hh
 rw [hC] at hcc
 rw [hC] at HC
 rw [hD] at HD
 clear hC hD hsp hsp2 E HLa
 by_cases hp : D < C
 case neg =>
  have bdc := decide_eq_false hp
  rw [bdc] at hh
  clear hp
  have hn : nameP s.data.toList = s.data.toList := by unfold nameP; rw [hh]; rfl
  have HHo := Lib.hid (fun wz (h : Env wz) => Host_any s wz hs h)
  have HV := Lib.hid (by unfold plR plO; rw [hn, hh]; rfl : plR s.data.toList = match hostO s.data.toList with | none => ([], 0, 5) | some h => (h, 0, 0))
  clear hh hcc hn bD bC hlen
  cases ho : hostO s.data.toList with
  | none =>
    rw [ho] at HHo HV
    have HF := Lib.hid HV.out;clear ho HV
    go_enter Tryz.func74, Tryz.ntmps74
    go_wp2_with fail
    refine (HC.out _).mono ?_
    rintro e w1 ⟨rfl, hw⟩
    obtain rfl := hw.symm
    go_wp2_with fail
    refine (HD.out _).mono ?_
    rintro e w1 ⟨rfl, hw⟩
    obtain rfl := hw.symm
    go_wp2_with fail
    refine (HHo.out _ HE.out).mono ?_
    rintro e w1 ⟨rfl, hB1⟩
    have K1 := Lib.hid ((Kp.refl [] _).below hB1)
    clear hB1
    dsimp only [Option.getD, Option.isSome]
    go_wp2_with fail
    go_ret3
    unfold PlP
    rw [HF.out]
    exact ⟨rfl, K1.out⟩
  | some h =>
    rw [ho] at HHo HV
    have HF := Lib.hid HV.out;clear ho HV
    go_enter Tryz.func74, Tryz.ntmps74
    go_wp2_with fail
    refine (HC.out _).mono ?_
    rintro e w1 ⟨rfl, hw⟩
    obtain rfl := hw.symm
    go_wp2_with fail
    refine (HD.out _).mono ?_
    rintro e w1 ⟨rfl, hw⟩
    obtain rfl := hw.symm
    go_wp2_with fail
    refine (HHo.out _ HE.out).mono ?_
    rintro e w1 ⟨rfl, hB1⟩
    have K1 := Lib.hid ((Kp.refl [] _).below hB1)
    clear hB1
    dsimp only [Option.getD, Option.isSome]
    go_wp2_with fail
    go_ret3
    unfold PlP
    rw [HF.out]
    exact ⟨rfl, K1.out⟩
 case pos =>
  rw [decide_eq_true hp] at hh
  obtain ⟨k, rfl⟩ : ∃ k : Nat, C = (k : Int) := ⟨C.toNat, by omega⟩
  rw [Int.toNat_natCast] at hcc
  have hks : k < s.size := by omega
  have hn : nameP s.data.toList = s.data.toList.take k := by unfold nameP; rw [hh, hcc]; rfl
  have H1 := Lib.hid (take_slc s k)
  have hsl : s.extract (k + 1) s.size = Txt (s.data.toList.drop (k + 1)) := by rw [slc_txt, slc_full _ _ _ (by rw [hlen]; exact Nat.le_refl _)]
  obtain ⟨m, hm⟩ : ∃ m, k + 1 = m := ⟨_, rfl⟩
  have hmc : (k : Int) + 1 = (m : Int) := by omega
  have bm : (m : Int) ≤ (s.size : Int) := by omega
  have bk : (k : Int) ≤ (s.size : Int) := by omega
  rw [hm] at hsl
  have H2 := Lib.hid hsl
  obtain ⟨q, hq⟩ : ∃ q, s.data.toList.take k = q := ⟨_, rfl⟩
  obtain ⟨t, ht⟩ : ∃ t, s.data.toList.drop m = t := ⟨_, rfl⟩
  have hql : q.length ≤ 2097152 := by rw [← hq, List.length_take]; omega
  have htl : t.length ≤ 2097152 := by rw [← ht, List.length_drop]; omega
  rw [hq] at H1 hn
  rw [ht] at H2
  have HHo := Lib.hid (fun wz (h : Env wz) => (by have h := Host_any (Txt q) wz (by rw [txt_size]; exact hql) h; rw [txt_list] at h; exact h : Calls Tryz.prog 52 #[.string (Txt q)] wz (HoP (hostO q) wz)))
  have HNu := Lib.hid (fun wz => (by have h := number_q (Txt t) wz (by rw [txt_size]; exact htl); rw [txt_list] at h; exact h : Calls Tryz.prog 95 #[.string (Txt t)] wz fun e w' => e = .returned (.tuple #[.int .i64 (numN t), .int .u8 (numE t)]) ∧ w' = wz))
  have hdr : s.data.toList.drop (colP s.data.toList + 1) = t := by rw [hcc, hm, ht]
  have HV := Lib.hid (by unfold plR plO; rw [hn, hh, hdr]; rfl : plR s.data.toList = match hostO q with | none => ([], 0, 5) | some h => plN h (numN t) (numE t))
  obtain ⟨N, hN⟩ : ∃ N, numN t = N := ⟨_, rfl⟩
  obtain ⟨X, hX⟩ : ∃ X, numE t = X := ⟨_, rfl⟩
  rw [hN, hX] at HNu HV
  clear hN hX hdr hql htl hq ht hsl hm hn hh hcc hks bD bC hlen
  cases ho : hostO q with
  | none =>
    rw [ho] at HHo HV
    have HF := Lib.hid HV.out;clear ho HV
    go_enter Tryz.func74, Tryz.ntmps74
    go_wp2_with fail
    refine (HC.out _).mono ?_
    rintro e w1 ⟨rfl, hw⟩
    obtain rfl := hw.symm
    go_wp2_with fail
    refine (HD.out _).mono ?_
    rintro e w1 ⟨rfl, hw⟩
    obtain rfl := hw.symm
    go_wp2_with fail
    rw [H1.out]
    refine (HHo.out _ HE.out).mono ?_
    rintro e w1 ⟨rfl, hB1⟩
    have K1 := Lib.hid ((Kp.refl [] _).below hB1)
    clear hB1
    dsimp only [Option.getD, Option.isSome]
    go_wp2_with fail
    go_ret3
    unfold PlP
    rw [HF.out]
    exact ⟨rfl, K1.out⟩
  | some h =>
    rw [ho] at HHo HV
    have HV2 := Lib.hid (HV.out : plR s.data.toList = plN h N X)
    clear ho HV
    have hb : ((X == 0) = false ∧ (X != 0) = true ∧ plN h N X = ([], 0, X)) ∨ ((X == 0) = true ∧ (X != 0) = false ∧ ((N < 1 ∧ plN h N X = ([], 0, 3)) ∨ (¬ N < 1 ∧ 65535 < N ∧ plN h N X = ([], 0, 3)) ∨ (¬ N < 1 ∧ ¬ 65535 < N ∧ plN h N X = (h, N, 0)))) := by
     unfold plN
     by_cases hx : X = 0
     ·right
      subst hx
      refine ⟨rfl, rfl, ?_⟩
      by_cases h1 : N < 1
      ·exact .inl ⟨h1, by rw [if_neg (by simp), if_pos (.inl h1)]⟩
      ·by_cases h2 : 65535 < N
       ·exact .inr (.inl ⟨h1, h2, by rw [if_neg (by simp), if_pos (.inr h2)]⟩)
       ·exact .inr (.inr ⟨h1, h2, by rw [if_neg (by simp), if_neg (by omega)]⟩)
     ·exact .inl ⟨beq_eq_false_iff_ne.2 hx, bne_iff_ne.2 hx, if_pos hx⟩
    rcases hb with ⟨x1, x2, hr⟩ | ⟨x1, x2, ⟨n1, hr⟩ | ⟨n1, n2, hr⟩ | ⟨n1, n2, hr⟩⟩
    all_goals
     have HF := Lib.hid (HV2.out.trans hr);clear hr
     go_enter Tryz.func74, Tryz.ntmps74
     go_wp2_with fail
     refine (HC.out _).mono ?_
     rintro e w1 ⟨rfl, hw⟩
     obtain rfl := hw.symm
     go_wp2_with fail
     refine (HD.out _).mono ?_
     rintro e w1 ⟨rfl, hw⟩
     obtain rfl := hw.symm
     go_wp2_with fail
     rw [H1.out]
     refine (HHo.out _ HE.out).mono ?_
     rintro e w1 ⟨rfl, hB1⟩
     have K1 := Lib.hid ((Kp.refl [] _).below hB1)
     clear hB1
     dsimp only [Option.getD, Option.isSome]
     go_wp2_with fail
     rw [H2.out]
     refine (HNu.out _).mono ?_
     rintro e w2 ⟨rfl, hw⟩
     obtain rfl := hw.symm
     go_wp2_with fail
     go_ret3
     unfold PlP
     rw [HF.out]
     exact ⟨rfl, K1.out⟩
end Ad
end Go.Proofs.YtmmjfofdnpafkaaGreatDoor
namespace Go.Proofs.YtmmjfofdnpafkaaGreatDoor
namespace Ad
open Go.RowKit Lx
structure Vi where
 tr : List UInt8
 host : List UInt8
 port : Int
 br : List UInt8
 pm : List Prm
deriving DecidableEq
def nilV : Vi := ⟨[], [], 0, [], []⟩
def brN : List UInt8 := [98, 114, 97, 110, 99, 104]
def viP (tr h : List UInt8) (p : Int) (r : List Prm × Nat × Int) : Vi × Int := if r.2.2 ≠ 0 then (nilV, r.2.2) else (⟨tr, h, p, getV r.1 brN, r.1⟩, 0)
def viH (tr ls : List UInt8) (h : List UInt8 × Int × Int) : Vi × Int := if h.2.2 ≠ 0 then (nilV, h.2.2) else viP tr h.1 h.2.1 (parR ls)
def endV (c : Int) : Bool := c == 59 || (c == 32 || c == 9)
def viT (c : List UInt8 × List UInt8 × Bool) : Vi × Int := if c.2.2 = true then viH c.1 (c.2.1.drop (endP endV c.2.1 0)) (plR (c.2.1.take (endP endV c.2.1 0))) else (nilV, 5)
def viaR (l : List UInt8) : Vi × Int := viT (cutT (trS l))
def ViE (r : Vi × Int) (w : World) (e : Ending) (w' : World) : Prop := ∃ v, e = .returned (.tuple #[.agg #[.string (Txt r.1.tr), .string (Txt r.1.host), .int .i64 r.1.port, .string (Txt r.1.br), v], .int .u8 r.2]) ∧ PmIn w'.heap.size w' v r.1.pm ∧ Kp [] w w'
def Zvb (w : World) (g : Nat) : Prop := Blk w g 33 #[.string ⟨#[]⟩, .string ⟨#[]⟩, .int .i64 0, .string ⟨#[]⟩, .slice none 0 0]
theorem Zvb.nob {w : World} {g : Nat} (h : Zvb w g) : NoB w g := by
 intro i t hc
 rw [Blk.cell h i] at hc
 match i, hc with
 | 0, hc => simp at hc
 | 1, hc => simp at hc
 | 2, hc => simp at hc
 | 3, hc => simp at hc
 | 4, hc => simp at hc
 | i + 5, hc => simp at hc
theorem Zvb.kp {X : List Nat} {w w' : World} {g : Nat} (h : Zvb w g) (k : Kp X w w') (hg : g ∉ X) : Zvb w' g := Blk.kp h k hg
theorem infoVia : (Tryz.prog.info? 33).map (·.size) = some 5 := by kernel_rfl
theorem blk5 {w : World} {g : Nat} {c0 c1 c2 c3 c4 : Value} (h : Blk w g 33 #[c0, c1, c2, c3, c4]) (x0 x1 x2 x3 x4 : Value) :
   Blk (((((w.setCell ⟨g, 0, none⟩ x0).setCell ⟨g, 1, none⟩ x1).setCell ⟨g, 2, none⟩ x2).setCell ⟨g, 3, none⟩ x3).setCell ⟨g, 4, none⟩ x4) g 33 #[x0, x1, x2, x3, x4] :=
 ((((h.set_ 0 x0).set_ 1 x1).set_ 2 x2).set_ 3 x3).set_ 4 x4
theorem kp5 {X : List Nat} {a w : World} (h : Kp X a w) {g : Nat} (hg : g ∈ X ∨ a.heap.size ≤ g) (x0 x1 x2 x3 x4 : Value) :
   Kp X a (((((w.setCell ⟨g, 0, none⟩ x0).setCell ⟨g, 1, none⟩ x1).setCell ⟨g, 2, none⟩ x2).setCell ⟨g, 3, none⟩ x3).setCell ⟨g, 4, none⟩ x4) :=
 ((((h.setCell (p := ⟨g, 0, none⟩) hg x0).setCell (p := ⟨g, 1, none⟩) hg x1).setCell (p := ⟨g, 2, none⟩) hg x2).setCell (p := ⟨g, 3, none⟩) hg x3).setCell (p := ⟨g, 4, none⟩) hg x4
theorem via_fin (g : Nat) (w wx : World) (r : Vi × Int) (T H B : ByteArray) (p x : Int) (A : Option Addr) (n c : Nat) (hT : Txt r.1.tr = T) (hH : Txt r.1.host = H) (hp : r.1.port = p) (hB : Txt r.1.br = B) (hx : r.2 = x) (hP : PmIn wx.heap.size wx (.slice A n c) r.1.pm) (K : Kp [] w wx) (hg : w.heap.size ≤ g) (Z : Zvb wx g) :
   ViE r w (.returned (.tuple #[.agg #[.string T, .string H, .int .i64 p, .string B, .slice A n c], .int .u8 x])) (((((wx.setCell ⟨g, 0, none⟩ (.string T)).setCell ⟨g, 1, none⟩ (.string H)).setCell ⟨g, 2, none⟩ (.int .i64 p)).setCell ⟨g, 3, none⟩ (.string B)).setCell ⟨g, 4, none⟩ (.slice A n c)) := by
 subst hT hH hp hB hx
 exact ⟨_, rfl, hP.grow (kp5 (Kp.refl [g] wx) (g := g) (.inl (by simp)) _ _ _ _ _) (by intro y hy; rw [List.mem_singleton.1 hy]; exact Z.nob), kp5 K (.inr hg) _ _ _ _ _⟩
theorem cutT_len (l : List UInt8) : (cutT l).2.1.length ≤ l.length := by
 unfold cutT
 split
 ·unfold cutV
  split
  ·exact Nat.zero_le _
  ·dsimp only; rw [List.length_drop, List.length_drop]; omega
 ·exact Nat.zero_le _
theorem mem_endV (c : Int) : memB (ByteArray.mk #[59, 32, 9]).data.toList c = endV c := by
 unfold memB endV
 simp only [List.any_cons, List.any_nil, Bool.or_false]
 have e : ∀ n : Nat, ((n : Int) == c) = (c == (n : Int)) := fun n => by rw [Bool.eq_iff_iff]; simp only [beq_iff_eq]; exact eq_comm
 rw [show (((59 : UInt8).toNat : Int)) = 59 from rfl, show (((32 : UInt8).toNat : Int)) = 32 from rfl, show (((9 : UInt8).toNat : Int)) = 9 from rfl]
 rw [show ((59 : Int) == c) = (c == 59) from e 59, show ((32 : Int) == c) = (c == 32) from e 32, show ((9 : Int) == c) = (c == 9) from e 9]
set_option maxRecDepth 100000 in
set_option maxHeartbeats 4000000 in
theorem via_big (s : ByteArray) (w : World) (hs : s.size ≤ 4194304) (h1 : ((cutT (trS s.data.toList)).2.1.take (endP endV (cutT (trS s.data.toList)).2.1 0)).length ≤ 2097152) (h2 : ((cutT (trS s.data.toList)).2.1.drop (endP endV (cutT (trS s.data.toList)).2.1 0)).length ≤ 2097152)
   (h3 : SzP (parR ((cutT (trS s.data.toList)).2.1.drop (endP endV (cutT (trS s.data.toList)).2.1 0))).1) (E : Env w) :
   Calls Tryz.prog 20 #[.string s] w (ViE (viaR s.data.toList) w) := by
 obtain ⟨t, ht⟩ : ∃ t, trS s.data.toList = t := ⟨_, rfl⟩
 rw [ht] at h1 h2 h3
 have htl : t.length ≤ 4194304 := by rw [← ht]; have := trS_len s.data.toList; rw [len_list] at this; omega
 have hcl := cutT_len t
 obtain ⟨tr, rs, ok, hc⟩ : ∃ a b c, cutT t = (a, b, c) := ⟨_, _, _, rfl⟩
 rw [hc] at h1 h2 h3
 dsimp only at h1 h2 h3
 have hcu := fun wz => cutTransport_big (Txt t) wz (by rw [txt_size]; omega)
 rw [txt_list, hc] at hcu
 have HCu := Lib.hid hcu
 rw [hc] at hcl
 dsimp only at hcl
 obtain ⟨k, hk⟩ : ∃ k, endP endV rs 0 = k := ⟨_, rfl⟩
 rw [hk] at h1 h2 h3
 have hcb := fun wz => cutBefore_big endV (Txt rs) ⟨#[59, 32, 9]⟩ wz (by rw [txt_size]; omega) (by decide) (by decide) (ascii_of_all (by decide)) mem_endV
 rw [txt_list, hk] at hcb
 have HCb := Lib.hid hcb
 have HT := Lib.hid (fun wz => (by have h := trimmed_big s wz (by omega); rw [ht] at h; exact h : Calls Tryz.prog 72 #[.string s] wz (TxK t wz)))
 obtain ⟨q, hq⟩ : ∃ q, rs.take k = q := ⟨_, rfl⟩
 obtain ⟨ls, hls⟩ : ∃ q, rs.drop k = q := ⟨_, rfl⟩
 rw [hq] at h1
 rw [hls] at h2 h3
 have hql : q.length ≤ 2097152 := h1
 have hll : ls.length ≤ 2097152 := h2
 obtain ⟨h, p, x, hpl⟩ : ∃ a b c, plR q = (a, b, c) := ⟨_, _, _, rfl⟩
 have hpp := fun wz (hE : Env wz) => readPlace_any (Txt q) wz (by rw [txt_size]; omega) hE
 rw [txt_list, hpl] at hpp
 have HPl := Lib.hid hpp
 obtain ⟨pm, off, y, hpa⟩ : ∃ a b c, parR ls = (a, b, c) := ⟨_, _, _, rfl⟩
 have hsz : SzP pm := by rw [hpa] at h3; exact h3
 clear h1 h2 h3
 have hpar := fun wz (hE : Env wz) => Params_any (Txt ls) wz (by rw [txt_size]; omega) hE
 rw [txt_list, hpa] at hpar
 have HPa := Lib.hid hpar
 have HV := Lib.hid (by unfold viaR; rw [ht, hc]; unfold viT; rw [hk, hq, hls, hpl]; unfold viH; rw [hpa]; unfold viP; rfl : viaR s.data.toList = if ok = true then (if x ≠ 0 then (nilV, x) else if y ≠ 0 then (nilV, y) else (⟨tr, h, p, getV pm brN, pm⟩, 0)) else (nilV, 5))
 have Hsz := Lib.hid hsz;have HE := Lib.hid E
 obtain ⟨w0, hw0⟩ : ∃ x, w.alloc (.cells #[.string ⟨#[]⟩, .string ⟨#[]⟩, .int .i64 0, .string ⟨#[]⟩, .slice none 0 0] 33) = x := ⟨_, rfl⟩
 have K0 := Lib.hid (show Kp [] w w0 from by rw [← hw0]; exact (Kp.refl _ _).alloc _)
 have Z0 := Lib.hid (show Zvb w0 w.heap.size from by rw [← hw0]; exact Blk.new w 33 _)
 rw [hq, hls] at HCb
 clear hcl hc ht hcu hcb hk hq hls hql hll hpl hpp hpa hpar hsz E htl
 go_enter Tryz.func20, Tryz.ntmps20
 go_wp2_with fail
 refine (HT.out _).mono ?_
 rintro e w1 ⟨rfl, hK1⟩
 have K1 := Lib.hid (K0.out.trans hK1)
 have Z1 := Lib.hid (show Zvb w1 w.heap.size from Z0.out.kp hK1 (by simp))
 clear hK1
 go_wp2_with fail
 refine (HCu.out _).mono ?_
 rintro e w2 ⟨rfl, hK2⟩
 have K2 := Lib.hid (K1.out.trans hK2)
 have Z2 := Lib.hid (show Zvb w2 w.heap.size from Z1.out.kp hK2 (by simp))
 clear hK2
 dsimp only
 cases ok
 case false =>
  have HF := Lib.hid (HV.out.trans (if_neg (by decide)))
  have d0 := Z2.out.cell 0;have d1 := Z2.out.cell 1;have d2 := Z2.out.cell 2;have d3 := Z2.out.cell 3;have d4 := Z2.out.cell 4;have g0 := Z2.out.frozen 0;have g1 := Z2.out.frozen 1;have g2 := Z2.out.frozen 2;have g3 := Z2.out.frozen 3;have g4 := Z2.out.frozen 4
  go_wp2_with fail
  refine bodyPost_ret (results_two rfl _ _ w.heap.size 33 _ (0, 0) _ rfl (blk5 Z2.out _ _ _ _ _) Tryz.underlying33 rfl infoVia) rfl ?_
  rw [HF.out]
  exact via_fin w.heap.size w _ _ _ _ _ _ _ _ _ _ rfl rfl rfl rfl rfl (PmIn.nil _ _) K2.out (Nat.le_refl _) Z2.out
 case true =>
  have HV1 := Lib.hid (HV.out.trans (if_pos rfl))
  go_wp2_with fail
  refine (HCb.out _).mono ?_
  rintro e w3 ⟨rfl, hK3⟩
  have K3 := Lib.hid (K2.out.trans hK3)
  have Z3 := Lib.hid (show Zvb w3 w.heap.size from Z2.out.kp hK3 (by simp))
  clear hK3
  go_wp2_with fail
  refine (HPl.out _ (HE.out.kp K3.out (by simp))).mono ?_
  rintro e w4 ⟨rfl, hK4⟩
  have K4 := Lib.hid (K3.out.trans hK4)
  have Z4 := Lib.hid (show Zvb w4 w.heap.size from Z3.out.kp hK4 (by simp))
  clear hK4
  dsimp only
  by_cases hx : x = 0
  case neg =>
   have HF := Lib.hid (HV1.out.trans (if_pos hx))
   have bx : (x != 0) = true := by rw [bne_iff_ne]; exact hx
   clear hx;have d0 := Z4.out.cell 0;have d1 := Z4.out.cell 1;have d2 := Z4.out.cell 2;have d3 := Z4.out.cell 3;have d4 := Z4.out.cell 4;have g0 := Z4.out.frozen 0;have g1 := Z4.out.frozen 1;have g2 := Z4.out.frozen 2;have g3 := Z4.out.frozen 3;have g4 := Z4.out.frozen 4
   go_wp2_with fail
   refine bodyPost_ret (results_two rfl _ _ w.heap.size 33 _ (0, 0) _ rfl (blk5 Z4.out _ _ _ _ _) Tryz.underlying33 rfl infoVia) rfl ?_
   rw [HF.out]
   exact via_fin w.heap.size w _ _ _ _ _ _ _ _ _ _ rfl rfl rfl rfl rfl (PmIn.nil _ _) K4.out (Nat.le_refl _) Z4.out
  case pos =>
   have HV2 := Lib.hid (HV1.out.trans (if_neg (fun h => h hx)))
   have bx : (x != 0) = false := by rw [hx]; rfl
   clear hx
   go_wp2_with fail
   refine (HPa.out _ (HE.out.kp K4.out (by simp))).mono ?_
   rintro e w5 ⟨v, rfl, hP5, hB5, hl5⟩
   have hK5 := (Kp.refl [] w4).below hB5
   have K5 := Lib.hid (K4.out.trans hK5)
   have Z5 := Lib.hid (show Zvb w5 w.heap.size from Z4.out.kp hK5 (by simp))
   dsimp only at hP5 hl5 ⊢
   obtain ⟨A, c, rfl⟩ := hP5.form
   have HGe := Lib.hid (get_any w5.heap.size (.slice A pm.length c) pm brN w5 hP5 (Nat.le_refl _) Hsz.out (by omega) (by decide))
   obtain ⟨n, hn⟩ : ∃ n, pm.length = n := ⟨_, rfl⟩
   rw [hn] at hP5 HGe ⊢
   have P5 := Lib.hid hP5;clear hK5 hB5 hP5 hl5 hn
   by_cases hy : y = 0
   case neg =>
    have HF := Lib.hid (HV2.out.trans (if_pos hy))
    have by_ : (y != 0) = true := by rw [bne_iff_ne]; exact hy
    clear hy;have d0 := Z5.out.cell 0;have d1 := Z5.out.cell 1;have d2 := Z5.out.cell 2;have d3 := Z5.out.cell 3;have d4 := Z5.out.cell 4;have g0 := Z5.out.frozen 0;have g1 := Z5.out.frozen 1;have g2 := Z5.out.frozen 2;have g3 := Z5.out.frozen 3;have g4 := Z5.out.frozen 4
    go_wp2_with fail
    refine bodyPost_ret (results_two rfl _ _ w.heap.size 33 _ (0, 0) _ rfl (blk5 Z5.out _ _ _ _ _) Tryz.underlying33 rfl infoVia) rfl ?_
    rw [HF.out]
    exact via_fin w.heap.size w _ _ _ _ _ _ _ _ _ _ rfl rfl rfl rfl rfl (PmIn.nil _ _) K5.out (Nat.le_refl _) Z5.out
   case pos =>
    have HF := Lib.hid (HV2.out.trans (if_neg (fun h => h hy)))
    have by_ : (y != 0) = false := by rw [hy]; rfl
    clear hy
    go_wp2_with fail
    refine HGe.out.mono ?_
    rintro e w6 ⟨rfl, hK6⟩
    have K6 := Lib.hid (K5.out.trans hK6)
    have Z6 := Lib.hid (show Zvb w6 w.heap.size from Z5.out.kp hK6 (by simp))
    have P6 := Lib.hid (P5.out.grow hK6 (by intro y hy; cases hy))
    clear hK6;have d0 := Z6.out.cell 0;have d1 := Z6.out.cell 1;have d2 := Z6.out.cell 2;have d3 := Z6.out.cell 3;have d4 := Z6.out.cell 4;have g0 := Z6.out.frozen 0;have g1 := Z6.out.frozen 1;have g2 := Z6.out.frozen 2;have g3 := Z6.out.frozen 3;have g4 := Z6.out.frozen 4
    go_wp2_with fail
    refine bodyPost_ret (results_two rfl _ _ w.heap.size 33 _ (0, 0) _ rfl (blk5 Z6.out _ _ _ _ _) Tryz.underlying33 rfl infoVia) rfl ?_
    rw [HF.out]
    exact via_fin w.heap.size w _ _ _ _ _ _ _ _ _ _ rfl rfl rfl rfl rfl (P6.out) K6.out (Nat.le_refl _) Z6.out
set_option maxRecDepth 100000 in
theorem via_any (s : ByteArray) (w : World) (hs : s.size ≤ 1048576) (E : Env w) :
   Calls Tryz.prog 20 #[.string s] w (ViE (viaR s.data.toList) w) := by
 have h1 := trS_len s.data.toList;have h2 := cutT_len (trS s.data.toList)
 rw [len_list] at h1
 refine via_big s w (by omega) (by rw [List.length_take]; omega) (by rw [List.length_drop]; omega) ?_ E
 obtain ⟨ls, hls⟩ : ∃ q, (cutT (trS s.data.toList)).2.1.drop (endP endV (cutT (trS s.data.toList)).2.1 0) = q := ⟨_, rfl⟩
 have hll : ls.length ≤ 1048576 := by rw [← hls, List.length_drop]; omega
 rw [hls]
 intro z hz
 have := parF_sz ls (ls.length + 1) (blkE ls 0) [] (fun p hp => by cases hp) z hz
 omega
end Ad
end Go.Proofs.YtmmjfofdnpafkaaGreatDoor
namespace Go.Proofs.YtmmjfofdnpafkaaGreatDoor
namespace Ad
open Go.RowKit Lx
def hw1 : ByteArray := ⟨#[67, 65, 76, 76, 45, 105, 100]⟩
def hw2 : ByteArray := ⟨#[66, 111, 98, 60, 115, 105, 112, 58, 97, 64, 66, 62, 32, 44, 32, 60, 115, 105, 112, 58, 99, 59, 100, 62]⟩
def hw3 : ByteArray := ⟨#[115, 105, 112, 47, 50, 46, 48, 47, 117, 100, 112, 32, 104, 58, 53, 48, 54, 48, 59, 98, 114, 97, 110, 99, 104, 61, 122, 57]⟩
def hw4 : ByteArray := ⟨#[48, 48, 55, 32, 73, 78, 86, 73, 84, 69]⟩
def hx2 : List (List UInt8) := [[66, 111, 98, 60, 115, 105, 112, 58, 97, 64, 66, 62], [60, 115, 105, 112, 58, 99, 59, 100, 62]]
def ht2 : List UInt8 := [34, 66, 111, 98, 34, 32, 60, 115, 105, 112, 58, 97, 64, 98, 62, 44, 32, 60, 115, 105, 112, 58, 99, 59, 100, 62]
def hv3 : Vi := ⟨[85, 68, 80], [104], 5060, [122, 57], [([98, 114, 97, 110, 99, 104], [122, 57], true)]⟩
theorem hw1_is : canR hw1.data.toList = ([67, 97, 108, 108, 45, 73, 68], 0) := by decide +kernel
theorem hw2_can : canR (ByteArray.mk #[109]).data.toList = (conN, 0) := by decide +kernel
theorem hw2_kind : kindR conN = (1, true) := by decide +kernel
theorem hw2_list : listR hw2.data.toList = (hx2, 0) := by decide +kernel
theorem hw2_tidy : tidM (conN == conN) tidA hx2 = ([[34, 66, 111, 98, 34, 32, 60, 115, 105, 112, 58, 97, 64, 98, 62], [60, 115, 105, 112, 58, 99, 59, 100, 62]], 0) := by decide +kernel
theorem hw3_is : viaR hw3.data.toList = (hv3, 0) := by decide +kernel
theorem hw4_is : cseqR hw4.data.toList = (7, [73, 78, 86, 73, 84, 69], 0) := by decide +kernel
theorem txtl (l : List UInt8) : (Txt l).toList = l := by rw [Lib.toList_data, txt_list]
set_option maxRecDepth 100000 in
set_option maxHeartbeats 4000000 in
theorem hawake_any (w : World) (H : HEnv w) : Calls Tryz.prog 19 #[] w (BoK true w) := by
 have HC1 := Lib.hid (fun wz (hz : HEnv wz) => (by have h := canon_any hw1 wz (by decide) hz; rw [hw1_is] at h; exact h : Calls Tryz.prog 58 #[.string ⟨#[67, 65, 76, 76, 45, 105, 100]⟩] wz (TxE ([67, 97, 108, 108, 45, 73, 68], 0) wz)))
 have HC2 := Lib.hid (fun wz (hz : HEnv wz) => (by
  have h := tidy_many ⟨#[109]⟩ hw2 conN hx2 1 tidA wz (by decide) (by decide) hz hw2_can hw2_kind hw2_list (by decide) (by decide) (by decide)
   (fun y wy hy hE => by have h := tidyOne_adr (Txt y) wy (by rw [txt_size]; omega) hE.env; rw [txt_list] at h; exact h) (by rw [hw2_tidy]; decide)
  rw [hw2_tidy] at h
  rw [show tidJ ([[34, 66, 111, 98, 34, 32, 60, 115, 105, 112, 58, 97, 64, 98, 62], [60, 115, 105, 112, 58, 99, 59, 100, 62]], 0) = (ht2, 0) by decide +kernel] at h
  exact h : Calls Tryz.prog 50 #[.string ⟨#[109]⟩, .string ⟨#[66, 111, 98, 60, 115, 105, 112, 58, 97, 64, 66, 62, 32, 44, 32, 60, 115, 105, 112, 58, 99, 59, 100, 62]⟩] wz (TxE (ht2, 0) wz)))
 have HC3 := Lib.hid (fun wz (hz : HEnv wz) => (by have h := via_any hw3 wz (by decide) hz.env; rw [hw3_is] at h; exact h : Calls Tryz.prog 20 #[.string ⟨#[115, 105, 112, 47, 50, 46, 48, 47, 117, 100, 112, 32, 104, 58, 53, 48, 54, 48, 59, 98, 114, 97, 110, 99, 104, 61, 122, 57]⟩] wz (ViE (hv3, 0) wz)))
 have HC4 := Lib.hid (fun wz => (by have h := cseq_any hw4 wz (by decide); rw [hw4_is] at h; exact h : Calls Tryz.prog 25 #[.string ⟨#[48, 48, 55, 32, 73, 78, 86, 73, 84, 69]⟩] wz (LeP (7, [73, 78, 86, 73, 84, 69], 0) wz)))
 have Ht2 := Lib.hid (by rfl : ht2 = [34, 66, 111, 98, 34, 32, 60, 115, 105, 112, 58, 97, 64, 98, 62, 44, 32, 60, 115, 105, 112, 58, 99, 59, 100, 62])
 have HE := Lib.hid H;clear H
 go_enter Tryz.func19, Tryz.ntmps19
 go_wp2_with fail
 refine (HC1.out _ HE.out).mono ?_
 rintro e w1 ⟨rfl, hK1⟩
 have K1 := Lib.hid hK1;clear hK1
 dsimp only
 go_wp2_with fail
 refine (HC2.out _ (HE.out.kp K1.out (by simp))).mono ?_
 rintro e w2 ⟨rfl, hK2⟩
 have K2 := Lib.hid (K1.out.trans hK2);clear hK2
 dsimp only
 rw [Ht2.out]
 go_wp2_with fail
 refine (HC3.out _ (HE.out.kp K2.out (by simp))).mono ?_
 rintro e w3 ⟨v, rfl, hP, hK3⟩
 have K3 := Lib.hid (K2.out.trans hK3)
 obtain ⟨A, c, rfl⟩ := hP.form
 dsimp only [hv3]
 rw [show ([([98, 114, 97, 110, 99, 104], [122, 57], true)] : List Prm).length = 1 from rfl]
 obtain ⟨g, hg⟩ : ∃ x, w3.heap.size = x := ⟨_, rfl⟩
 obtain ⟨w4, hw4⟩ : ∃ x, w3.alloc (.cells #[.string (Txt [85, 68, 80]), .string (Txt [104]), .int .i64 5060, .string (Txt [122, 57]), .slice A 1 c] 33) = x := ⟨_, rfl⟩
 have hKa : Kp [] w3 w4 := by rw [← hw4]; exact (Kp.refl _ _).alloc _
 have K4 := Lib.hid (K3.out.trans hKa)
 have B4 := Lib.hid (show Blk w4 g 33 #[.string (Txt [85, 68, 80]), .string (Txt [104]), .int .i64 5060, .string (Txt [122, 57]), .slice A 1 c] from by rw [← hw4, ← hg]; exact Blk.new w3 _ _)
 clear hKa hP hK3
 go_upto_region 4 with fail
 try rw [hw4]
 go_wp2_with fail
 refine (HC4.out _).mono ?_
 rintro e w5 ⟨rfl, hK5⟩
 have K5 := Lib.hid (K4.out.trans hK5)
 have B5 := Lib.hid (B4.out.kp hK5 (by simp))
 clear hK5 hw4
 dsimp only
 have u0 := B5.out.cell 0;have u1 := B5.out.cell 1;have u2 := B5.out.cell 2;have u3 := B5.out.cell 3;have u4 := B5.out.cell 4
 have t1 := txtl [67, 97, 108, 108, 45, 73, 68]
 have t2 := txtl [34, 66, 111, 98, 34, 32, 60, 115, 105, 112, 58, 97, 64, 98, 62, 44, 32, 60, 115, 105, 112, 58, 99, 59, 100, 62]
 have t3 := txtl [85, 68, 80]
 have t4 := txtl [104]
 have t5 := txtl [122, 57]
 have t6 := txtl [73, 78, 86, 73, 84, 69]
 go_wp2_with fail
 go_ret
 exact ⟨rfl, K5.out⟩
end Ad
end Go.Proofs.YtmmjfofdnpafkaaGreatDoor
namespace Go.Proofs.YtmmjfofdnpafkaaGreatDoor
namespace Ad
open Go.RowKit Lx
def Zib (w : World) (g : Nat) : Prop := Blk w g 59 #[.string ⟨#[]⟩, .slice none 0 0]
theorem Zib.nob {w : World} {g : Nat} (h : Zib w g) : NoB w g := by
 intro i t hc
 rw [Blk.cell h i] at hc
 match i, hc with
 | 0, hc => simp at hc
 | 1, hc => simp at hc
 | i + 2, hc => simp at hc
theorem Zib.kp {X : List Nat} {w w' : World} {g : Nat} (h : Zib w g) (k : Kp X w w') (hg : g ∉ X) : Zib w' g := Blk.kp h k hg
end Ad
end Go.Proofs.YtmmjfofdnpafkaaGreatDoor
namespace Go.Proofs.YtmmjfofdnpafkaaGreatDoor
namespace Ad
open Go.RowKit Lx
theorem rtrim_k (s : ByteArray) (t : List UInt8) (w : World) (hs : s.size ≤ 2097152) (ht : trS s.data.toList = t) : Calls Tryz.prog 76 #[.string s] w (TxK t w) :=
 (rtrim_any s w (by omega)).mono fun e w' h => ⟨by rw [← ht]; exact h.1, by rw [← h.2]; exact Kp.refl _ _⟩
end Ad
end Go.Proofs.YtmmjfofdnpafkaaGreatDoor
namespace Go.Proofs.YtmmjfofdnpafkaaGreatDoor
namespace Ad
open Go.RowKit Lx
theorem itoa_k (n : Int) (h0 : 0 ≤ n) (h1 : n ≤ 9223372036854775807) (w : World) (E : Env w) : Calls Tryz.prog 88 #[.int .i64 n] w (TxK (Lib.itoa n) w) :=
 (Tryz.strconv_Itoa n (by omega) h1 w E.tab).mono fun e w' h => by
   obtain ⟨rfl, q, os, hw⟩ := h
   exact ⟨rfl, by rw [hw]; exact (Kp.drewN (Kp.refl [] w) q).trans (kp_grow _ os)⟩
end Ad
end Go.Proofs.YtmmjfofdnpafkaaGreatDoor
namespace Go.Proofs.YtmmjfofdnpafkaaGreatDoor
namespace Ad
open Go.RowKit Lx
def NEnd (t : List UInt8) : Prop := ∃ n d, t = n ++ [d] ∧ bb d = false
theorem NEnd.pre {t : List UInt8} (h : NEnd t) (a : List UInt8) : NEnd (a ++ t) := by
 obtain ⟨n, d, rfl, hd⟩ := h
 exact ⟨a ++ n, d, by simp, hd⟩
theorem NF.printed {n : Uri} (h : NF n) : printO n = some (textU n) := by unfold printO; rw [h.normal]; rfl
end Ad
end Go.Proofs.YtmmjfofdnpafkaaGreatDoor
namespace Go.Proofs.YtmmjfofdnpafkaaGreatDoor
namespace Ad
open Go.RowKit Lx
def spc (k : Nat) : List UInt8 := List.replicate k 32
def item (k n : Nat) : List UInt8 := spc k ++ (decL n ++ spc k)
end Ad
end Go.Proofs.YtmmjfofdnpafkaaGreatDoor
