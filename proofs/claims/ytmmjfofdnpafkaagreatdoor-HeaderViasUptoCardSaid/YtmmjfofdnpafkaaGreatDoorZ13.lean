/- Texts of one set of library modules: HePi, HePv, HeVd, HeVf, HeVg. -/
import Derived.Test.YtmmjfofdnpafkaaGreatDoorZ8
import Derived.Test.YtmmjfofdnpafkaaGreatDoorZ12
import Derived.Test.YtmmjfofdnpafkaaGreatDoorZ11
import Derived.Test.YtmmjfofdnpafkaaGreatDoorZ14
import Derived.Test.YtmmjfofdnpafkaaGreatDoorZ10
import Derived.Test.YtmmjfofdnpafkaaGreatDoorZ3
namespace Go.Proofs.YtmmjfofdnpafkaaGreatDoor
namespace Ad
open Go.RowKit Lx
theorem szP_perm {l l' : List Prm} (h : SzP l) (p : l'.Perm l) : SzP l' := fun q hq => h q (p.mem_iff.1 hq)
end Ad
end Go.Proofs.YtmmjfofdnpafkaaGreatDoor
namespace Go.Proofs.YtmmjfofdnpafkaaGreatDoor
namespace Ad
open Go.RowKit Lx
def porL (po : Int) : List UInt8 := if po = 0 then [] else 58 :: Lib.itoa po
def pviO (t h b : List UInt8) (po : Int) (l : List Prm) : Option (List UInt8) :=
 match hostO h with
 | some ho => if tokB t = true ∧ 0 ≤ po ∧ po ≤ 65535 then (match ppO (srt (vps l b)) with | some p => some (protoL ++ uprL t ++ [32] ++ ho ++ porL po ++ p) | none => none) else none
 | none => none
theorem pvi_host {t h b : List UInt8} {po : Int} {l : List Prm} (hh : hostO h = none) : pviO t h b po l = none := by unfold pviO; rw [hh]
theorem pvi_bad {t h b : List UInt8} {po : Int} {l : List Prm} (hc : ¬ (tokB t = true ∧ 0 ≤ po ∧ po ≤ 65535)) : pviO t h b po l = none := by
 unfold pviO
 split
 ·rw [if_neg hc]
 ·rfl
theorem pvi_list {t h b : List UInt8} {po : Int} {l : List Prm} (hp : ppO (srt (vps l b)) = none) : pviO t h b po l = none := by
 unfold pviO
 split
 ·split
  ·rw [hp]
  ·rfl
 ·rfl
theorem pvi_some {t h b : List UInt8} {po : Int} {l : List Prm} {ho p : List UInt8} (hh : hostO h = some ho) (hc : tokB t = true ∧ 0 ≤ po ∧ po ≤ 65535) (hp : ppO (srt (vps l b)) = some p) : pviO t h b po l = some (protoL ++ uprL t ++ [32] ++ ho ++ porL po ++ p) := by
 unfold pviO
 rw [hh]
 dsimp only
 rw [if_pos hc, hp]
theorem vps_len (l : List Prm) (b : List UInt8) : (vps l b).length ≤ l.length + 1 := by
 unfold vps
 have := nbr_len l
 rw [List.length_append]
 split <;> simp <;> omega
theorem vps_sz (l : List Prm) (b : List UInt8) (h : SzP l) (hb : b.length ≤ 2097152) : SzP (vps l b) := by
 intro p hp
 unfold vps at hp
 rcases List.mem_append.1 hp with hp | hp
 ·exact h p (List.mem_filter.1 hp).1
 ·split at hp
  ·cases hp
  ·rw [List.mem_singleton.1 hp]; exact ⟨by simp [brnN], hb⟩
theorem dec_eq : ∀ n : Nat, Lib.decDigits n = decL n := by
 intro n
 induction n using Nat.strongRecOn with
 | _ n ih =>
   by_cases h : n < 10
   ·rw [Lib.decDigits, dif_pos h, decL_lt n h]
   ·rw [Lib.decDigits, dif_neg h, decL_ge n h, ih (n / 10) (by omega)]
theorem itoa_dec (po : Int) (h : 0 ≤ po) : Lib.itoa po = decL po.toNat := by
 unfold Lib.itoa
 rw [if_neg (by omega), dec_eq]
theorem cat5 (a b c d e f : List UInt8) : Txt a ++ Txt b ++ Txt c ++ Txt d ++ Txt e ++ Txt f = Txt (a ++ b ++ c ++ d ++ e ++ f) := by simp only [cat_txt]
set_option maxRecDepth 100000 in
set_option maxHeartbeats 1000000 in
theorem viaParams_any (T H B : ByteArray) (po : Int) (A : Option Addr) (n c : Nat) (w : World) : Calls Tryz.prog 87 #[.agg #[.string T, .string H, .int .i64 po, .string B, .slice A n c]] w fun e w' =>
   e = .returned (.func (.func 160) #[] #[.pointer (some ⟨w.heap.size, 0, none⟩)]) ∧ w' = w.alloc (.cells #[.string T, .string H, .int .i64 po, .string B, .slice A n c] 33) := by
 go_enter Tryz.func87, Tryz.ntmps87
 go_wp2_with fail
 go_ret
 exact ⟨rfl, rfl⟩
set_option maxRecDepth 100000 in
set_option maxHeartbeats 8000000 in
theorem printVia_any (B : Nat) (t h b : List UInt8) (po : Int) (A : Option Addr) (c : Nat) (l : List Prm) (w : World) (hP : PmIn B w (.slice A l.length c) l) (hB : B ≤ w.heap.size) (ht : t.length ≤ 1048576) (hh : h.length ≤ 2097152) (hb : b.length ≤ 1048576) (hz : SzP l) (hl : l.length ≤ 1048577) (hp0 : -9223372036854775808 ≤ po) (hp1 : po ≤ 9223372036854775807) (E : Env w) :
   Calls Tryz.prog 22 #[.agg #[.string (Txt t), .string (Txt h), .int .i64 po, .string (Txt b), .slice A l.length c]] w (PrK (pviO t h b po l) w) := by
 obtain ⟨w0, hw0⟩ : ∃ x, w.alloc (.cells #[.string (Txt t), .string (Txt h), .int .i64 po, .string (Txt b), .slice A l.length c] 33) = x := ⟨_, rfl⟩
 have B0 := Lib.hid (show Blk w0 w.heap.size 33 #[.string (Txt t), .string (Txt h), .int .i64 po, .string (Txt b), .slice A l.length c] from by rw [← hw0]; exact Blk.new w _ _)
 have k0 : Kp [] w w0 := by rw [← hw0]; exact (Kp.refl _ _).alloc _
 have K0 := Lib.hid k0
 have P0 := Lib.hid ((hP.kp k0 hB (by simp)).more (Nat.le_trans hB k0.size))
 have HZ := Lib.hid (vps_sz l b hz (by omega))
 have HVl := Lib.hid (vps_len l b);have HE := Lib.hid E
 have HH := Lib.hid (by have h := Host_any (Txt h) w0 (by rw [txt_size]; omega) (E.kp k0 (by simp)); rw [txt_list] at h; exact h)
 obtain ⟨T, hT⟩ : ∃ T, tokB t = T := ⟨_, rfl⟩
 have HTk := Lib.hid (fun wz => tokK t T hT (by omega) wz)
 have HTb := Lib.hid hT;clear k0 hP hz E hT
 go_enter Tryz.func22, Tryz.ntmps22
 have a1 := B0.out.cell 1
 go_wp2_with fail
 refine HH.out.mono ?_
 rintro e w1 ⟨rfl, hB1⟩
 have hK1 := (Kp.refl [] w0).below hB1
 have K1 := Lib.hid (K0.out.trans hK1)
 have B1 := Lib.hid (B0.out.kp hK1 (by simp))
 have P1 := Lib.hid (P0.out.grow hK1 (by intro y hy; cases hy))
 clear hB1 hK1 a1 HH;have a0 := B1.out.cell 0;have a2 := B1.out.cell 2
 obtain ⟨o, ho⟩ : ∃ o, hostO h = o := ⟨_, rfl⟩
 rw [ho]
 cases o with
 | none =>
   have HR := Lib.hid (pvi_host (t := t) (b := b) (po := po) (l := l) ho)
   clear ho
   simp only [Option.getD_none, Option.isSome_none]
   go_wp2_with fail
   go_ret2
   exact PrK.none HR.out K1.out
 | some x =>
   have hol := hostO_len h x ho;have HHo := Lib.hid ho;clear ho
   simp only [Option.getD_some, Option.isSome_some]
   cases T
   ·have HR := Lib.hid (pvi_bad (t := t) (h := h) (b := b) (po := po) (l := l) (by rw [HTb.out]; simp))
    go_wp2_with fail
    refine (HTk.out _).mono ?_
    rintro e w2 ⟨rfl, hK2⟩
    have K2 := Lib.hid (K1.out.trans hK2);clear hK2 a0 a2
    go_wp2_with fail
    go_ret2
    exact PrK.none HR.out K2.out
   ·go_wp2_with fail
    refine (HTk.out _).mono ?_
    rintro e w2 ⟨rfl, hK2⟩
    have K2 := Lib.hid (K1.out.trans hK2)
    have B2 := Lib.hid (B1.out.kp hK2 (by simp))
    have P2 := Lib.hid (P1.out.grow hK2 (by intro y hy; cases hy))
    clear hK2 a0 a2;have a2 := B2.out.cell 2
    by_cases hlo : po < 0
    ·have HR := Lib.hid (pvi_bad (t := t) (h := h) (b := b) (po := po) (l := l) (by omega))
     go_wp2_with fail
     go_ret2
     exact PrK.none HR.out K2.out
    by_cases hhi : 65535 < po
    ·have HR := Lib.hid (pvi_bad (t := t) (h := h) (b := b) (po := po) (l := l) (by omega))
     go_wp2_with fail
     go_ret2
     exact PrK.none HR.out K2.out
    have HC := Lib.hid (show tokB t = true ∧ 0 ≤ po ∧ po ≤ 65535 from ⟨HTb.out, by omega, by omega⟩)
    have a0 := B2.out.cell 0;have a1 := B2.out.cell 1;have a3 := B2.out.cell 3;have a4 := B2.out.cell 4
    obtain ⟨w3, hw3⟩ : ∃ x, w2.alloc (.cells #[.string (Txt t), .string (Txt h), .int .i64 po, .string (Txt b), .slice A l.length c] 33) = x := ⟨_, rfl⟩
    have k3 : Kp [] w2 w3 := by rw [← hw3]; exact (Kp.refl _ _).alloc _
    have y3 : Blk w3 w2.heap.size 33 #[.string (Txt t), .string (Txt h), .int .i64 po, .string (Txt b), .slice A l.length c] := by rw [← hw3]; exact Blk.new w2 _ _
    have hP3 := P2.out.kp k3 (Nat.le_refl _) (by simp)
    have HV := Lib.hid (by have h := viaParams_any (Txt t) (Txt h) (Txt b) po A l.length c w2; rw [hw3] at h; exact h)
    have hvl := HVl.out
    have HS := Lib.hid (hsorted_any 160 #[.pointer (some ⟨w2.heap.size, 0, none⟩)] (vps l b) (by omega) w3
     (enters_of Tryz.func160 (by kernel_rfl) rfl)
     (vpars_stops w2.heap.size w3.heap.size w2.heap.size _ l b (by omega) (by omega) w3 y3.lt (Nat.le_refl _) (by simpa using y3.cell 3) (by simpa using y3.cell 4) hP3 k3.size))
    have K3 := Lib.hid (K2.out.trans k3)
    have B3 := Lib.hid (B2.out.kp k3 (by simp))
    clear k3 y3 hP3 hw3
    go_wp2_with fail
    refine HV.out.mono ?_
    rintro e wx ⟨rfl, rfl⟩
    clear a0 a1 a2 a3 a4
    go_wp2_with fail
    refine HS.out.mono ?_
    rintro e w4 ⟨v4, l', rfl, h1, h2, h3, h4⟩
    obtain ⟨A4, c4, rfl⟩ := h1.form
    have hll : l'.length ≤ 2097152 := by rw [h2.length_eq]; omega
    have HO := Lib.hid (ppO_sort (vps l b) l' h2 h3);have Z4 := Lib.hid (szP_perm HZ.out h2);have P4 := Lib.hid h1
    have B4 := Lib.hid (B3.out.kp h4 (by simp))
    have K4 := Lib.hid (K3.out.trans h4);clear h1 h2 h3 h4 hvl
    go_wp2_with fail
    refine (printParams_any _ _ l' _ P4.out (Nat.le_refl _) Z4.out hll (HE.out.kp K4.out (by simp))).mono ?_
    rintro e w5 ⟨rfl, hB5⟩
    have hK5 := (Kp.refl [] w4).below hB5
    have K5 := Lib.hid (K4.out.trans hK5)
    have B5 := Lib.hid (B4.out.kp hK5 (by simp))
    clear hB5 hK5
    rw [HO.out]
    have a0 := B5.out.cell 0;have a2 := B5.out.cell 2
    obtain ⟨q, hq⟩ : ∃ q, ppO (srt (vps l b)) = q := ⟨_, rfl⟩
    rw [hq]
    cases q with
    | none =>
      have HR := Lib.hid (pvi_list (t := t) (h := h) (po := po) hq)
      clear hq
      simp only [Option.getD_none, Option.isSome_none, Bool.false_eq_true, if_false]
      go_wp2_with fail
      go_ret2
      exact PrK.none HR.out K5.out
    | some p =>
      have HR := Lib.hid (pvi_some HHo.out HC.out hq);have hpl := ppO_len (srt (vps l b)) (szP_perm HZ.out (srt_perm _)) p hq
      have HU := Lib.hid (fun wz => (by have h := each_up (Txt t) wz (by rw [txt_size]; omega); rw [txt_list] at h; exact h : Calls Tryz.prog 89 #[.string (Txt t), .func (.func 90) #[] #[]] wz (RetNew (uprL t) wz)))
      clear hq
      simp only [Option.getD_some, Option.isSome_some, if_true]
      have s0 : (uprL t).length ≤ 1048576 := by simpa [uprL] using ht
      have s1 : (Txt (uprL t)).size ≤ 1048576 := by rw [txt_size]; simpa [uprL] using ht
      have s2 : (Txt x).size ≤ 2097300 := by rw [txt_size]; omega
      have s3 : (Txt p).size ≤ 16 * 6291460 := by rw [txt_size]; exact hpl
      by_cases hz0 : po = 0
      ·have HPo := Lib.hid (by unfold porL; rw [if_pos hz0] : porL po = [])
       subst hz0
       go_wp2_with fail
       refine (HU.out _).mono ?_
       rintro e w6 ⟨rfl, hB6⟩
       have K6 := Lib.hid (K5.out.below hB6);clear hB6 a0 a2
       go_wp2_with fail
       go_ret2
       refine PrK.some HR.out ?_ K6.out
       rw [HPo.out]
       exact cat5 protoL (uprL t) [32] x [] p
      ·have HPo := Lib.hid (by unfold porL; rw [if_neg hz0] : porL po = 58 :: Lib.itoa po)
       have HI := Lib.hid (fun wz (h : Env wz) => itoa_k po (by omega) (by omega) wz h)
       have s4 : (Txt (Lib.itoa po)).size ≤ 21 := by rw [txt_size]; rw [itoa_dec po (by omega)]; exact Nat.le_trans (decL_len _ (by omega)) (by omega)
       have hz1 : (po == (0 : Int)) = false := beq_eq_false_iff_ne.2 hz0
       go_wp2_with fail
       refine (HI.out _ (HE.out.kp K5.out (by simp))).mono ?_
       rintro e w6 ⟨rfl, hK6⟩
       have K6 := Lib.hid (K5.out.trans hK6)
       have B6 := Lib.hid (B5.out.kp hK6 (by simp))
       clear hK6 a0 a2;have a0 := B6.out.cell 0
       go_wp2_with fail
       refine (HU.out _).mono ?_
       rintro e w7 ⟨rfl, hB7⟩
       have K7 := Lib.hid (K6.out.below hB7);clear hB7 a0
       go_wp2_with fail
       go_ret2
       refine PrK.some HR.out ?_ K7.out
       rw [HPo.out]
       exact (congrArg (fun z => Txt protoL ++ Txt (uprL t) ++ Txt [32] ++ Txt x ++ z ++ Txt p) (cat_txt [58] (Lib.itoa po))).trans (cat5 protoL (uprL t) [32] x (58 :: Lib.itoa po) p)
end Ad
end Go.Proofs.YtmmjfofdnpafkaaGreatDoor
namespace Go.Proofs.YtmmjfofdnpafkaaGreatDoor
namespace Ad
open Go.RowKit Lx
theorem uprL_len (l : List UInt8) : (uprL l).length = l.length := by simp [uprL]
def vpAt (s : ByteArray) (j i : Nat) (h : i < s.size) : Int := if i < j then (uprB s[i]).toNat else s[i].toNat
theorem vpAt_zero (s : ByteArray) (i : Nat) (h : i < s.size) : vpAt s 0 i h = s[i].toNat := by unfold vpAt; rw [if_neg (by omega)]
theorem vpAt_at (s : ByteArray) (i : Nat) (h : i < s.size) : vpAt s i i h = s[i].toNat := by unfold vpAt; rw [if_neg (by omega)]
theorem vpAt_next (s : ByteArray) (j i : Nat) (h : i < s.size) (hn : i ≠ j) : vpAt s (j + 1) i h = vpAt s j i h := by
 unfold vpAt
 by_cases hl : i < j
 ·rw [if_pos hl, if_pos (by omega)]
 ·rw [if_neg hl, if_neg (by omega)]
theorem vpAt_new (s : ByteArray) (j : Nat) (h : j < s.size) : vpAt s (j + 1) j h = (uprB s[j]).toNat := by unfold vpAt; rw [if_pos (by omega)]
theorem vpAt_end (s : ByteArray) (j i : Nat) (h : i < s.size) (hj : s.size ≤ j) : vpAt s j i h = (uprB s[i]).toNat := by unfold vpAt; rw [if_pos (by omega)]
structure VpR (s : ByteArray) (B j : Nat) (w : World) : Prop where
 cell : ∀ i (h : i < s.size), w.cell? ⟨B, i, none⟩ = some (.int .u8 (vpAt s j i h))
 soft : ∀ i, i < s.size → w.frozen? ⟨B, i, none⟩ = false
theorem VpR.skip {s : ByteArray} {B j : Nat} {w : World} (h : VpR s B j w) (hj : j < s.size) (he : (uprB s[j]).toNat = s[j].toNat) : VpR s B (j + 1) w := by
 refine ⟨fun i hi => ?_, h.soft⟩
 by_cases hij : i = j
 ·subst hij
  rw [vpAt_new, he, ← vpAt_at s i hi]; exact h.cell i hi
 ·rw [vpAt_next s j i hi hij]; exact h.cell i hi
theorem VpR.put {s : ByteArray} {B j : Nat} {w : World} (h : VpR s B j w) (hj : j < s.size) (x : Int) (he : ((uprB s[j]).toNat : Int) = x) : VpR s B (j + 1) (w.setCell ⟨B, j, none⟩ (.int .u8 x)) := by
 refine ⟨fun i hi => ?_, fun i hi => by rw [World.frozen?_setCell]; exact h.soft i hi⟩
 by_cases hij : i = j
 ·subst hij
  rw [vpAt_new, he]; exact World.cell?_setCell_same _ _ _ (h.cell i hi)
 ·rw [vpAt_next s j i hi hij]; exact (World.cell?_setCell_other _ _ _ _ (by intro e; injection e with _ e2; exact hij e2.symm)).trans (h.cell i hi)
theorem VpR.start (s : ByteArray) (cap : Nat) (w : World) : VpR s w.heap.size 0 (w.alloc (.cells (bytesRow s cap) 5 ((bytesRow s cap).size, (bytesRow s cap).size + 1))) := by
 have hsz : ∀ i, i < s.size → i < (bytesRow s cap).size := fun i hi => by unfold bytesRow; simp; omega
 refine ⟨fun i hi => ?_, fun i hi => ?_⟩
 ·rw [World.cell?_alloc_mark, bytesRow_at s cap i hi, vpAt_zero]; rfl
 ·rw [World.frozen?_alloc_mark, decide_eq_false (by have := hsz i hi; omega)]; rfl
theorem VpR.back {s : ByteArray} {B j cap : Nat} {w : World} (h : VpR s B j w) (hj : s.size ≤ j) : (convert 118 9 (.slice (some ⟨B, 0, none⟩) s.size cap)).run Tryz.prog w = .ok (.string ⟨(uprL s.data.toList).toArray⟩) w := by
 have hl : s.size = (uprL s.data.toList).length := by rw [uprL_len, len_list]
 have := run_convert_bytes_back (P := Tryz.prog) w 118 9 5 ⟨B, 0, none⟩ cap (uprL s.data.toList) Tryz.underlying118 Tryz.underlying5 Tryz.underlying9 (fun i hi => by
  have hi2 : i < s.size := by omega
  have hadd : (⟨B, 0, none⟩ : Addr).add i = ⟨B, i, none⟩ := by unfold Addr.add; split <;> simp_all
  rw [hadd, h.cell i hi2, vpAt_end s j i hi2 hj]
  simp [uprL]
  rfl)
 rw [← hl] at this
 exact this
set_option maxRecDepth 100000 in
set_option maxHeartbeats 2000000 in
theorem r3upper_any (s : ByteArray) (w : World) (hs : s.size ≤ 1099511627776) :
   Calls Tryz.prog 79 #[.string s] w (RetNew (uprL s.data.toList) w) := by
 have hconv := run_bytes_of_string (P := Tryz.prog) w 9 118 5 s Tryz.underlying9 Tryz.underlying118 Tryz.underlying5
 obtain ⟨cap, hcap⟩ : ∃ cap, grownCap w s.size 0 5 = cap := ⟨_, rfl⟩
 have HS := Lib.hid (VpR.start s cap w)
 rw [hcap] at hconv
 obtain ⟨C, hC⟩ : ∃ C, bytesRow s cap = C := ⟨_, rfl⟩
 rw [hC] at hconv
 have HS := Lib.hid (by have := HS.out; rw [hC] at this; exact this : VpR s w.heap.size 0 (w.alloc (.cells C 5 (C.size, C.size + 1))))
 clear hcap hC
 go_enter Tryz.func79, Tryz.ntmps79
 go_wp2_with fail
 go_loopw [4] (fun i wr => ∃ j : Nat, j ≤ s.size ∧ i = .int .i64 j ∧ VpR s w.heap.size j wr ∧ Below w.heap.size w wr) (fun i _ => s.size - (intOf i).toNat)
 case atStart => exact ⟨0, by omega, rfl, ⟨HS.out.cell, HS.out.soft⟩, ((Below.refl _ w).alloc (Nat.le_refl _) _).drew⟩
 case round =>
  obtain ⟨j, hj, rfl, hL, hB⟩ := hrel
  have HL := Lib.hid hL;clear hL;have hsz := hB.size
  by_cases hlt : j < s.size
  ·have hcj := HL.out.cell j hlt
   rw [vpAt_at] at hcj
   have hfj := HL.out.soft j hlt
   have hn := uprB_nat s[j]
   by_cases hu : 97 ≤ s[j].toNat ∧ s[j].toNat ≤ 122
   ·rw [if_pos hu] at hn
    have hw : IntKind.u8.wrap ((s[j].toNat : Int) - 32) = (s[j].toNat : Int) - 32 := by have := s[j].toNat_lt; rw [IntWalk.u8_in _ (by omega)]
    have Hn := Lib.hid (by omega : ((uprB s[j]).toNat : Int) = (s[j].toNat : Int) - 32)
    obtain ⟨u1, u2⟩ := hu
    clear hn
    go_wp2_with fail
    go_roundw
    case rel => exact ⟨j + 1, by omega, by go_num, HL.out.put hlt _ Hn.out, hB.setCell (by simp) _⟩
    case measure => simp [intOf]; omega
   ·rw [if_neg hu] at hn
    have Hn := Lib.hid hn
    by_cases u1 : 97 ≤ s[j].toNat
    ·have u2 : ¬ s[j].toNat ≤ 122 := fun h => hu ⟨u1, h⟩
     clear hu hn
     go_wp2_with fail
     go_roundw
     case rel => exact ⟨j + 1, by omega, by go_num, HL.out.skip hlt Hn.out, hB⟩
     case measure => simp [intOf]; omega
    ·clear hu hn
     go_wp2_with fail
     go_roundw
     case rel => exact ⟨j + 1, by omega, by go_num, HL.out.skip hlt Hn.out, hB⟩
     case measure => simp [intOf]; omega
  ·have hbk := HL.out.back (cap := cap) (by omega)
   go_wp2_with fail
   go_ret
   exact ⟨rfl, hB⟩
set_option maxRecDepth 100000 in
set_option maxHeartbeats 8000000 in
theorem r3decimal_any (n : Nat) : n ≤ 65535 → ∀ w : World, Calls Tryz.prog 92 #[.int .i64 n] w (TxK (decL n) w) := by
 induction n using Nat.strongRecOn with
 | _ n ih =>
   intro hn w
   by_cases h : n < 10
   ·have hcut := digit_cut n h
    have hD := decL_lt n h
    obtain ⟨x, hx⟩ : ∃ x : UInt8, (48 + n).toUInt8 = x := ⟨_, rfl⟩
    rw [hx] at hcut hD
    have HD := Lib.hid hD;clear hx hD
    have h1 : (n : Int) < 10 := by omega
    go_enter Tryz.func92, Tryz.ntmps92
    go_wp2_with fail
    go_ret
    unfold TxK
    rw [HD.out]
    exact ⟨rfl, Kp.refl _ _⟩
   ·have h1 : ¬ (n : Int) < 10 := by omega
    obtain ⟨q, hq⟩ : ∃ q, n / 10 = q := ⟨_, rfl⟩
    obtain ⟨d, hd⟩ : ∃ d, n % 10 = d := ⟨_, rfl⟩
    have hd10 : d < 10 := by omega
    have HD := Lib.hid (by rw [decL_ge n h, hq, hd] : decL n = decL q ++ [(48 + d).toUInt8])
    have HC := Lib.hid (ih q (by omega) (by omega))
    have hw : IntKind.i64.wrap ((n : Int) / 10) = (q : Int) := by rw [IntWalk.i64_in _ (by omega)]; omega
    have hr : (n : Int).tmod 10 = (d : Int) := by rw [Int.tmod_eq_emod_of_nonneg (by omega)]; omega
    have hcut := digit_cut d hd10
    obtain ⟨x, hx⟩ : ∃ x : UInt8, (48 + d).toUInt8 = x := ⟨_, rfl⟩
    rw [hx] at hcut HD
    clear hx
    have hl := decL_len q (by omega)
    have sQ : (Txt (decL q)).size ≤ 20 := by rw [txt_size]; exact hl
    have sD : (Txt [x]).size ≤ 1 := by rw [txt_size]; exact Nat.le_refl _
    have HcB := Lib.hid (cat_txt (decL q) [x])
    clear ih hq hd h hl
    go_enter Tryz.func92, Tryz.ntmps92
    go_wp2_with fail
    refine wp_region_grew (by kernel_rfl) (by kernel_rfl) ?_
    (go_big_quiet_step ((go_at_call 92; exact Calls.grew_of (HC.out _) (fun _ _ h => h))))
    repeat (go_big_quiet_step ((go_at_call 92; exact Calls.grew_of (HC.out _) (fun _ _ h => h))))
    refine wpQuiet_nil ?_
    intro _ hw'
    obtain ⟨nq, hw''⟩ := hw'
    subst hw''
    go_wp2_with fail
    go_ret
    unfold TxK
    rw [HD.out]
    exact ⟨congrArg (fun z => Ending.returned (.string z)) HcB.out, grew_kp _ _⟩
def ptR (l : List UInt8) : Int × Int := if numE l = 0 ∧ (numN l < 1 ∨ 65535 < numN l) then (0, 3) else (numN l, numE l)
set_option maxRecDepth 100000 in
set_option maxHeartbeats 2000000 in
theorem r3port_any (l : List UInt8) (w : World) (hs : l.length ≤ 1048576) :
   Calls Tryz.prog 82 #[.string (Txt l)] w fun e w' => e = .returned (.tuple #[.int .i64 (ptR l).1, .int .u8 (ptR l).2]) ∧ Kp [] w w' := by
 have HN := Lib.hid (fun wz => (by have h := rnumber_any (Txt l) wz (by rw [txt_size]; unfold maxLen; omega); rw [txt_list] at h; exact h))
 unfold ptR
 obtain ⟨n, hn⟩ : ∃ n, numN l = n := ⟨_, rfl⟩
 obtain ⟨x, hx⟩ : ∃ x, numE l = x := ⟨_, rfl⟩
 rw [hn, hx] at HN ⊢
 clear hn hx
 by_cases h0 : x = 0
 ·have b0 : (x == 0) = true := by rw [h0]; rfl
  have c0 : (true = true ∧ (n < 1 ∨ 65535 < n)) ∨ ¬ (n < 1 ∨ 65535 < n) := by
   by_cases h : n < 1 ∨ 65535 < n
   ·exact .inl ⟨rfl, h⟩
   ·exact .inr h
  rcases c0 with ⟨_, h | h⟩ | h
  ·have HF := Lib.hid (show (if x = 0 ∧ (n < 1 ∨ 65535 < n) then ((0 : Int), (3 : Int)) else (n, x)) = (0, 3) from if_pos ⟨h0, .inl h⟩)
   rw [HF.out]
   clear h0
   go_enter Tryz.func82, Tryz.ntmps82
   go_wp2_with fail
   refine (HN.out _).mono ?_
   rintro e w2 ⟨rfl, hw⟩
   obtain rfl := hw
   go_wp2_with fail
   go_ret2
   exact ⟨rfl, Kp.refl _ _⟩
  ·have HF := Lib.hid (show (if x = 0 ∧ (n < 1 ∨ 65535 < n) then ((0 : Int), (3 : Int)) else (n, x)) = (0, 3) from if_pos ⟨h0, .inr h⟩)
   rw [HF.out]
   have h2 : ¬ n < 1 := by omega
   clear h0
   go_enter Tryz.func82, Tryz.ntmps82
   go_wp2_with fail
   refine (HN.out _).mono ?_
   rintro e w2 ⟨rfl, hw⟩
   obtain rfl := hw
   go_wp2_with fail
   go_ret2
   exact ⟨rfl, Kp.refl _ _⟩
  ·have HF := Lib.hid (show (if x = 0 ∧ (n < 1 ∨ 65535 < n) then ((0 : Int), (3 : Int)) else (n, x)) = (n, x) from if_neg (fun hh => h hh.2))
   rw [HF.out]
   have h2 : ¬ n < 1 := fun h9 => h (.inl h9)
   have h3 : ¬ 65535 < n := fun h9 => h (.inr h9)
   clear h0 h
   go_enter Tryz.func82, Tryz.ntmps82
   go_wp2_with fail
   refine (HN.out _).mono ?_
   rintro e w2 ⟨rfl, hw⟩
   obtain rfl := hw
   go_wp2_with fail
   go_ret2
   exact ⟨rfl, Kp.refl _ _⟩
 ·have b0 : (x == 0) = false := beq_eq_false_iff_ne.2 h0
  have HF := Lib.hid (show (if x = 0 ∧ (n < 1 ∨ 65535 < n) then ((0 : Int), (3 : Int)) else (n, x)) = (n, x) from if_neg (fun hh => h0 hh.1))
  rw [HF.out]
  clear h0
  go_enter Tryz.func82, Tryz.ntmps82
  go_wp2_with fail
  refine (HN.out _).mono ?_
  rintro e w2 ⟨rfl, hw⟩
  obtain rfl := hw
  go_wp2_with fail
  go_ret2
  exact ⟨rfl, Kp.refl _ _⟩
end Ad
end Go.Proofs.YtmmjfofdnpafkaaGreatDoor
namespace Go.Proofs.YtmmjfofdnpafkaaGreatDoor
namespace Ad
open Go.RowKit Lx
theorem lastIdx_lt (s : ByteArray) (c : Int) (k : Nat) : -1 ≤ Lib.lastIdx s c k ∧ Lib.lastIdx s c k < (k : Int) := by
 rcases Lib.lastIdx_spec s c k with ⟨h, _⟩ | ⟨i, hi, h, _⟩ <;> rw [h] <;> omega
def colS (P : ByteArray) (i en : Int) (j : Nat) : Int := if Lib.lastIdx P 93 j < Lib.lastIdx P 58 j then i + Lib.lastIdx P 58 j else en
theorem colS_58 (P : ByteArray) (i en : Int) (j : Nat) (h : ((P.data[j]!).toNat : Int) = 58) : colS P i en (j + 1) = i + j := by
 unfold colS
 rw [Lib.lastIdx_hit P 58 j h, Lib.lastIdx_miss P 93 j (by rw [h]; decide), if_pos (lastIdx_lt P 93 j).2]
theorem colS_93 (P : ByteArray) (i en : Int) (j : Nat) (h : ((P.data[j]!).toNat : Int) = 93) : colS P i en (j + 1) = en := by
 unfold colS
 rw [Lib.lastIdx_hit P 93 j h, Lib.lastIdx_miss P 58 j (by rw [h]; decide), if_neg (by have := (lastIdx_lt P 58 j).2; omega)]
theorem colS_else (P : ByteArray) (i en : Int) (j : Nat) (h1 : ((P.data[j]!).toNat : Int) ≠ 58) (h2 : ((P.data[j]!).toNat : Int) ≠ 93) : colS P i en (j + 1) = colS P i en j := by
 unfold colS
 rw [Lib.lastIdx_miss P 93 j h2, Lib.lastIdx_miss P 58 j h1]
theorem colS_end (p : List UInt8) (i : Nat) : colS (Txt p) i ((i + p.length : Nat) : Int) p.length = if hasP p = true then ((i + colP p : Nat) : Int) else ((i + p.length : Nat) : Int) := by
 unfold colS hasP colP Lib.lastIndexByte
 rw [txt_size]
 by_cases h : Lib.lastIdx (Txt p) 93 p.length < Lib.lastIdx (Txt p) 58 p.length
 ·have h1 := (lastIdx_lt (Txt p) 93 p.length).1
  rw [if_pos h, if_pos (decide_eq_true h)]
  omega
 ·rw [if_neg h, if_neg (by rw [decide_eq_false h]; decide)]
theorem colP_lt (p : List UInt8) (h : hasP p = true) : colP p < p.length := by
 unfold hasP at h
 have h0 := of_decide_eq_true h
 unfold colP
 unfold Lib.lastIndexByte at h0 ⊢
 rw [txt_size] at h0 ⊢
 have h1 := (lastIdx_lt (Txt p) 93 p.length).1;have h2 := (lastIdx_lt (Txt p) 58 p.length).2
 omega
theorem slc_at (t : List UInt8) (i en j : Nat) (hj : i + j < en) (hen : en ≤ t.length) : (((Txt (slc t i en)).data[j]!).toNat : Int) = atB t (i + j) := by
 have hl : j < (slc t i en).length := by rw [slc_len _ _ _ hen]; omega
 have h1 : (Txt (slc t i en)).data[j]! = (slc t i en)[j] := by
  rw [getElem!_pos (Txt (slc t i en)).data j (by show j < (slc t i en).toArray.size; simpa using hl)]
  rfl
 rw [h1]
 unfold atB
 rw [List.getElem?_eq_getElem (show i + j < t.length by omega)]
 simp [slc]
theorem plN_pt (h : List UInt8) (q : List UInt8) : plN h (numN q) (numE q) = if (ptR q).2 ≠ 0 then ([], 0, (ptR q).2) else (h, (ptR q).1, 0) := by
 by_cases hx : numE q = 0
 ·by_cases hn : numN q < 1 ∨ 65535 < numN q
  ·have hp : ptR q = (0, 3) := if_pos ⟨hx, hn⟩
   rw [hp]
   unfold plN
   rw [if_neg (fun h => h hx), if_pos hn]
   rfl
  ·have hp : ptR q = (numN q, numE q) := if_neg (fun h => hn h.2)
   rw [hp]
   unfold plN
   dsimp only
   rw [if_neg (fun h => h hx), if_neg hn, if_neg (fun h => h hx)]
 ·have hp : ptR q = (numN q, numE q) := if_neg (fun h => hx h.1)
  rw [hp]
  unfold plN
  dsimp only
  rw [if_pos hx, if_pos hx]
theorem slc_take (t : List UInt8) (a b c : Nat) (h : a + c ≤ b) : (slc t a b).take c = slc t a (a + c) := by
 unfold slc
 rw [List.drop_take, List.drop_take, List.take_take]
 congr 1
 omega
theorem via_nob {w : World} {g : Nat} {a b d : ByteArray} {n : Int} {p : Option Addr} {m c : Nat} (h : Blk w g 33 #[.string a, .string b, .int .i64 n, .string d, .slice p m c]) : NoB w g := by
 intro i t hc
 rw [Blk.cell h i] at hc
 match i, hc with
 | 0, hc => simp at hc
 | 1, hc => simp at hc
 | 2, hc => simp at hc
 | 3, hc => simp at hc
 | 4, hc => simp at hc
 | i + 5, hc => simp at hc
def rvO (o : Option (List UInt8)) (b : Bool) (U : List UInt8) (P : Int × Int) (r : List Prm × Nat × Int) : Vi × Int :=
 match o with
 | none => (nilV, 5)
 | some h => if b = true then (if P.2 ≠ 0 then (nilV, P.2) else viP U h P.1 r) else viP U h 0 r
def rvV (t : List UInt8) (k i en : Nat) : Vi × Int :=
 rvO (hostO (nameP (slc t i en))) (hasP (slc t i en)) (uprL (slc t 8 k)) (ptR (slc t (i + colP (slc t i en) + 1) en)) (parR (t.drop en))
theorem via_short (t : List UInt8) (h : t.length < 8) : viT (cutT t) = (nilV, 5) := by
 unfold cutT
 rw [decide_eq_false (by omega : ¬ 8 ≤ t.length)]
 rfl
theorem via_proto (t : List UInt8) (h : (uprL (t.take 8) == protoL) = false) : viT (cutT t) = (nilV, 5) := by
 unfold cutT
 rw [h, Bool.and_false]
 rfl
theorem via_rest (t : List UInt8) (h8 : 8 ≤ t.length) (h : (uprL (t.take 8) == protoL) = true) : viT (cutT t) = if tokE t 8 = 8 ∨ blkE t (tokE t 8) = tokE t 8 then (nilV, 5) else rvV t (tokE t 8) (blkE t (tokE t 8)) (endP endV t (blkE t (tokE t 8))) := by
 have e1 := tokE_drop t 8 0;have e2 := blkE_drop t 8 (tokE (t.drop 8) 0)
 rw [Nat.add_zero] at e1
 rw [e1] at e2
 unfold cutT
 rw [decide_eq_true h8, h, Bool.and_self, if_pos rfl]
 unfold cutV
 obtain ⟨k', hk'⟩ : ∃ k, tokE (t.drop 8) 0 = k := ⟨_, rfl⟩
 rw [hk'] at e1 e2 ⊢
 obtain ⟨i', hi'⟩ : ∃ k, blkE (t.drop 8) k' = k := ⟨_, rfl⟩
 rw [hi'] at e2 ⊢
 rw [← e1] at e2 ⊢
 rw [← e2]
 by_cases h0 : k' = 0
 ·rw [decide_eq_true h0, Bool.true_or, if_pos rfl, if_pos (.inl (by omega))]
  rfl
 by_cases hb : i' = k'
 ·rw [decide_eq_true hb, Bool.or_true, if_pos rfl, if_pos (.inr (by omega))]
  rfl
 rw [decide_eq_false h0, decide_eq_false hb, Bool.or_self, if_neg (by decide), if_neg (by omega)]
 have f1 : (t.drop 8).take k' = slc t 8 (8 + k') := by unfold slc; rw [List.drop_take]; congr 1; omega
 have f2 : (t.drop 8).drop i' = t.drop (8 + i') := List.drop_drop ..
 obtain ⟨i, hi⟩ : ∃ i, 8 + i' = i := ⟨_, rfl⟩
 rw [f1, f2, hi]
 unfold viT
 dsimp only
 rw [if_pos rfl]
 have e3 := endP_drop endV t i 0
 rw [Nat.add_zero] at e3
 obtain ⟨e', he'⟩ : ∃ e, endP endV (t.drop i) 0 = e := ⟨_, rfl⟩
 rw [he'] at e3 ⊢
 rw [← e3]
 have f3 : (t.drop i).take e' = slc t i (i + e') := by unfold slc; rw [List.drop_take]; congr 1; omega
 have f4 : (t.drop i).drop e' = t.drop (i + e') := List.drop_drop ..
 rw [f3, f4]
 unfold rvV rvO plR plO
 cases hostO (nameP (slc t i (i + e'))) with
 | none => rfl
 | some x =>
   dsimp only
   by_cases hp : hasP (slc t i (i + e')) = true
   ·rw [if_pos hp, if_pos hp, slc_drop, plN_pt, show i + (colP (slc t i (i + e')) + 1) = i + colP (slc t i (i + e')) + 1 from rfl]
    unfold viH
    split
    ·rfl
    ·rfl
   ·rw [if_neg hp, if_neg hp]
    rfl
end Ad
end Go.Proofs.YtmmjfofdnpafkaaGreatDoor
namespace Go.Proofs.YtmmjfofdnpafkaaGreatDoor
namespace Ad
open Go.RowKit Lx
set_option maxRecDepth 100000 in
set_option maxHeartbeats 8000000 in
theorem rvia_any (s : ByteArray) (w : World) (hs : s.size ≤ 1048576) :
   Calls Tryz.prog 21 #[.string s] w (ViE (viaR s.data.toList) w) := by
 obtain ⟨t, ht⟩ : ∃ t, trS s.data.toList = t := ⟨_, rfl⟩
 have htl : t.length ≤ 1048576 := by rw [← ht]; have := trS_len s.data.toList; rw [len_list] at this; omega
 have HT := Lib.hid (fun wz => (by exact rtrim_k s t wz (by omega) ht : Calls Tryz.prog 76 #[.string s] wz fun e w' => e = .returned (.string (Txt t)) ∧ Kp [] wz w'))
 have HV0 := Lib.hid (show viaR s.data.toList = viT (cutT t) from by unfold viaR; rw [ht])
 obtain ⟨X, hX⟩ : ∃ X, Txt t = X := ⟨_, rfl⟩
 rw [hX] at HT
 have hXs : X.size = t.length := by rw [← hX]; exact txt_size t
 have hXt : X.data.toList = t := by rw [← hX, txt_list]
 have HX := Lib.hid hX;have HXt := Lib.hid hXt
 obtain ⟨w0, hw0⟩ : ∃ x, w.alloc (.cells #[.string ⟨#[]⟩, .string ⟨#[]⟩, .int .i64 0, .string ⟨#[]⟩, .slice none 0 0] 33) = x := ⟨_, rfl⟩
 have K0 := Lib.hid (show Kp [] w w0 from by rw [← hw0]; exact (Kp.refl _ _).alloc _)
 have Z0 := Lib.hid (show Zvb w0 w.heap.size from by rw [← hw0]; exact Blk.new w 33 _)
 obtain ⟨k, hk⟩ : ∃ k : Nat, bhd tokI X (min (8 : Int).toNat X.size) = k := ⟨_, rfl⟩
 obtain ⟨i, hi⟩ : ∃ i : Nat, bhd blankI X (min (k : Int).toNat X.size) = i := ⟨_, rfl⟩
 have HTE := Lib.hid (fun wz => (by have h := rtokenEnd_any X 8 wz (by unfold maxLen; omega); rw [hk] at h; exact h : Calls Tryz.prog 77 #[.string X, .int .i64 8] wz (Ret (.int .i64 (k : Int)) wz)))
 have HBL := Lib.hid (fun wz => (by have h := rblanks_any X k wz (by unfold maxLen; omega); rw [hi] at h; exact h : Calls Tryz.prog 78 #[.string X, .int .i64 (k : Int)] wz (Ret (.int .i64 (i : Int)) wz)))
 have b3 : (X.size : Int) ≤ 1048576 := by omega
 have HK := Lib.hid hk;have HI := Lib.hid hi;clear ht hX hXt hk hi
 go_enter Tryz.func21, Tryz.ntmps21
 go_wp2_with fail
 refine (HT.out _).mono ?_
 rintro e w1 ⟨rfl, hK1⟩
 have K1 := Lib.hid (K0.out.trans hK1);have J1 := Lib.hid hK1
 have Z1 := Lib.hid (show Zvb w1 w.heap.size from Z0.out.kp hK1 (by simp))
 clear hK1
 go_wp2_with fail
 refine (HTE.out _).mono ?_
 rintro e w2 ⟨rfl, hw⟩
 obtain rfl := hw
 go_wp2_with fail
 refine (HBL.out _).mono ?_
 rintro e w2 ⟨rfl, hw⟩
 obtain rfl := hw
 by_cases h8 : 8 ≤ t.length
 case neg =>
  have HF := Lib.hid (HV0.out.trans (via_short t (by omega)))
  have b8 : (X.size : Int) < 8 := by omega
  have d0 := Z1.out.cell 0;have d1 := Z1.out.cell 1;have d2 := Z1.out.cell 2;have d3 := Z1.out.cell 3;have d4 := Z1.out.cell 4;have g0 := Z1.out.frozen 0;have g1 := Z1.out.frozen 1;have g2 := Z1.out.frozen 2;have g3 := Z1.out.frozen 3;have g4 := Z1.out.frozen 4;clear h8
  go_wp2_with fail
  refine bodyPost_ret (results_two rfl _ _ w.heap.size 33 _ (0, 0) _ rfl (blk5 Z1.out _ _ _ _ _) Tryz.underlying33 rfl infoVia) rfl ?_
  rw [HF.out]
  exact via_fin w.heap.size w _ _ _ _ _ _ _ _ _ _ rfl rfl rfl rfl rfl (PmIn.nil _ _) K1.out (Nat.le_refl _) Z1.out
 have b8 : ¬ (X.size : Int) < 8 := by omega
 have b8' : (8 : Int) ≤ (X.size : Int) := by omega
 have hk : tokE t 8 = k := by rw [← HK.out, ← HXt.out]; exact (tokE_bhd X 8 (by omega)).symm
 have hkl : k ≤ t.length := by rw [← hk]; exact tokE_len t 8 h8
 have hi : blkE t k = i := by rw [← HI.out, ← HXt.out]; exact (blkE_bhd X k (by omega)).symm
 have hil : i ≤ t.length := by rw [← hi]; exact blkE_len t k hkl
 have H1 := Lib.hid (by rw [take_slc, HXt.out] : X.extract 0 8 = Txt (t.take 8))
 have HU := Lib.hid (fun wz => (by have h := r3upper_any (Txt (t.take 8)) wz (by rw [txt_size, List.length_take]; omega); rw [txt_list] at h; exact h : Calls Tryz.prog 79 #[.string (Txt (t.take 8))] wz (RetNew (uprL (t.take 8)) wz)))
 obtain ⟨B, hB⟩ : ∃ B, (uprL (t.take 8) == protoL) = B := ⟨_, rfl⟩
 have bB : (uprL (t.take 8) == [83, 73, 80, 47, 50, 46, 48, 47]) = B := hB
 have HB := Lib.hid hB
 have HV1 := Lib.hid (fun (h : B = true) => (by rw [HV0.out, via_rest t h8 (by rw [hB, h]), hk, hi] : viaR s.data.toList = if k = 8 ∨ i = k then (nilV, 5) else rvV t k i (endP endV t i)))
 clear hB hk hi
 go_wp2_with fail
 rw [H1.out]
 refine (HU.out _).mono ?_
 rintro e w2 ⟨rfl, hB2⟩
 have hJ2 := J1.out.below hB2;have K2 := Lib.hid (K0.out.trans hJ2)
 have Z2 := Lib.hid (show Zvb w2 w.heap.size from Z0.out.kp hJ2 (by simp))
 have J2 := Lib.hid hJ2;clear hB2 hJ2
 cases B
 case false =>
  have HF := Lib.hid (HV0.out.trans (via_proto t HB.out));have d0 := Z2.out.cell 0;have d1 := Z2.out.cell 1;have d2 := Z2.out.cell 2;have d3 := Z2.out.cell 3;have d4 := Z2.out.cell 4;have g0 := Z2.out.frozen 0;have g1 := Z2.out.frozen 1;have g2 := Z2.out.frozen 2;have g3 := Z2.out.frozen 3;have g4 := Z2.out.frozen 4
  go_wp2_with fail
  refine bodyPost_ret (results_two rfl _ _ w.heap.size 33 _ (0, 0) _ rfl (blk5 Z2.out _ _ _ _ _) Tryz.underlying33 rfl infoVia) rfl ?_
  rw [HF.out]
  exact via_fin w.heap.size w _ _ _ _ _ _ _ _ _ _ rfl rfl rfl rfl rfl (PmIn.nil _ _) K2.out (Nat.le_refl _) Z2.out
 case true =>
  by_cases hk8 : k = 8
  case pos =>
   have bk : ((k : Int) == 8) = true := by rw [hk8]; rfl
   have HF := Lib.hid ((HV1.out rfl).trans (if_pos (.inl hk8)));clear hk8;have d0 := Z2.out.cell 0;have d1 := Z2.out.cell 1;have d2 := Z2.out.cell 2;have d3 := Z2.out.cell 3;have d4 := Z2.out.cell 4;have g0 := Z2.out.frozen 0;have g1 := Z2.out.frozen 1;have g2 := Z2.out.frozen 2;have g3 := Z2.out.frozen 3;have g4 := Z2.out.frozen 4
   go_wp2_with fail
   refine bodyPost_ret (results_two rfl _ _ w.heap.size 33 _ (0, 0) _ rfl (blk5 Z2.out _ _ _ _ _) Tryz.underlying33 rfl infoVia) rfl ?_
   rw [HF.out]
   exact via_fin w.heap.size w _ _ _ _ _ _ _ _ _ _ rfl rfl rfl rfl rfl (PmIn.nil _ _) K2.out (Nat.le_refl _) Z2.out
  have bk : ((k : Int) == 8) = false := beq_eq_false_iff_ne.2 (by omega)
  by_cases hik : i = k
  case pos =>
   have bi : ((i : Int) == (k : Int)) = true := by rw [hik]; exact beq_self_eq_true _
   have HF := Lib.hid ((HV1.out rfl).trans (if_pos (.inr hik)));clear hik hk8;have d0 := Z2.out.cell 0;have d1 := Z2.out.cell 1;have d2 := Z2.out.cell 2;have d3 := Z2.out.cell 3;have d4 := Z2.out.cell 4;have g0 := Z2.out.frozen 0;have g1 := Z2.out.frozen 1;have g2 := Z2.out.frozen 2;have g3 := Z2.out.frozen 3;have g4 := Z2.out.frozen 4
   go_wp2_with fail
   refine bodyPost_ret (results_two rfl _ _ w.heap.size 33 _ (0, 0) _ rfl (blk5 Z2.out _ _ _ _ _) Tryz.underlying33 rfl infoVia) rfl ?_
   rw [HF.out]
   exact via_fin w.heap.size w _ _ _ _ _ _ _ _ _ _ rfl rfl rfl rfl rfl (PmIn.nil _ _) K2.out (Nat.le_refl _) Z2.out
  have bi : ((i : Int) == (k : Int)) = false := beq_eq_false_iff_ne.2 (by omega)
  have HV2 := Lib.hid ((HV1.out rfl).trans (if_neg (fun h => h.elim hk8 hik)))
  have hk8' : 8 ≤ k := by rw [← HK.out]; unfold bhd; omega
  clear hk8 hik
  obtain ⟨en, hen⟩ : ∃ e, endP endV t i = e := ⟨_, rfl⟩
  have heni : i ≤ en := by rw [← hen]; exact endP_ge _ _ _
  have henl : en ≤ t.length := by rw [← hen]; exact endP_le _ _ _ hil
  rw [hen] at HV2
  have HEn := Lib.hid hen;clear hen
  go_upto_region 7 with fail
  go_loopw [7] (fun v wr => ∃ n : Nat, i ≤ n ∧ n ≤ X.size ∧ v = .int .i64 n ∧ wr = w2 ∧ endP endV t n = en) (fun v _ => X.size - (intOf v).toNat)
  case atStart => exact ⟨i, Nat.le_refl _, by omega, rfl, rfl, HEn.out⟩
  case round =>
   obtain ⟨n, hn1, hn2, rfl, hwr, he⟩ := hrel
   have hwr := hwr.symm
   subst hwr
   have hne : n ≤ en := by rw [← he]; exact endP_ge _ _ _
   by_cases hlt : n < en
   case pos =>
    have hls : n < X.size := by omega
    have hp := endP_before endV t n n (Nat.le_refl _) (by omega) (by omega)
    have hat : atB t n = X[n].toNat := by rw [← HXt.out]; exact atB_get X n hls
    rw [hat] at hp
    have hp' := hp
    unfold endV at hp'
    rw [Bool.or_eq_false_iff] at hp'
    have c1 : ((X[n].toNat : Int) != 59) = true := by rw [bne, hp'.1]; rfl
    have HBl := Lib.hid (fun wz => (by have h := rblank_any (X[n].toNat : Int) wz; rw [show blankI (X[n].toNat : Int) = false from hp'.2] at h; exact h : Calls Tryz.prog 80 #[.int .u8 (X[n].toNat : Int)] wz (Ret (.bool false) wz)))
    have HE1 := Lib.hid (by
     have h := endP_next endV X n hls hp
     rw [HXt.out] at h
     exact h.symm : endP endV t (n + 1) = endP endV t n)
    have HE2 := Lib.hid (HE1.out.trans he);clear hp hat hp' he
    go_wp2_with fail
    refine (HBl.out _).mono ?_
    rintro e w3 ⟨rfl, hw⟩
    obtain rfl := hw
    go_wp2_with fail
    go_roundw
    case rel => exact ⟨n + 1, by omega, by omega, by go_num, by first | trivial | rfl, HE2.out⟩
    case measure => simp [intOf]; omega
   have hend : en = n := by omega
   subst hend
   clear hlt hne hn1
   have hr : (¬ en < X.size) ∨ ∃ h : en < X.size, ((X[en].toNat : Int) != 59) = false ∨ (((X[en].toNat : Int) != 59) = true ∧ blankI (X[en].toNat : Int) = true) := by
    by_cases hls : en < X.size
    ·right
     refine ⟨hls, ?_⟩
     have hp := endP_at endV t en (by rw [he]; omega)
     rw [he] at hp
     have hat : atB t en = X[en].toNat := by rw [← HXt.out]; exact atB_get X en hls
     rw [hat] at hp
     unfold endV at hp
     rw [Bool.or_eq_true] at hp
     by_cases h59 : (X[en].toNat : Int) = 59
     ·exact .inl (by rw [h59]; rfl)
     ·have hb := beq_eq_false_iff_ne.2 h59
      exact .inr ⟨bne_iff_ne.2 h59, by rcases hp with h | h; exact absurd h (by rw [hb]; decide); exact h⟩
    ·exact .inl hls
   clear he
   obtain ⟨p, hpd⟩ : ∃ p, slc t i en = p := ⟨_, rfl⟩
   have hpl : p.length = en - i := by rw [← hpd]; exact slc_len t i en henl
   have HCE := Lib.hid (by have h := colS_end p i; rw [hpl, show i + (en - i) = en by omega] at h; exact h : colS (Txt p) i (en : Int) (en - i) = if hasP p = true then ((i + colP p : Nat) : Int) else (en : Int))
   have HAt := Lib.hid (fun m (h1 : i ≤ m) (h2 : m < en) => (by rw [← hpd, slc_at t i en (m - i) (by omega) henl, show i + (m - i) = m by omega] : (((Txt p).data[m - i]!).toNat : Int) = atB t m))
   rcases hr with hr | ⟨hls, hr | ⟨hr, hr2⟩⟩
   case' inl =>
    have ec : ¬ (en : Int) < (X.size : Int) := by omega
    go_upto_region 11 with fail
   case' inr.inl =>
    have ec : (en : Int) < (X.size : Int) := by omega
    go_upto_region 11 with fail
   case' inr.inr =>
    have HBl := Lib.hid (fun wz => (by have h := rblank_any (X[en].toNat : Int) wz; rw [hr2] at h; exact h : Calls Tryz.prog 80 #[.int .u8 (X[en].toNat : Int)] wz (Ret (.bool true) wz)))
    clear hr2
    go_wp2_with fail
    refine (HBl.out _).mono ?_
    rintro e w3 ⟨rfl, hw⟩
    have hw : w2 = w3 := by first | exact hw | exact hw.symm
    subst hw
    go_upto_region 11 with fail
   all_goals
    have hlE : en ≤ X.size := by omega
    have hiE : i ≤ en := heni
    go_loopw [8, 9] (fun cv v wr => ∃ (m : Nat) (C : Int), i ≤ m ∧ m ≤ en ∧ cv = .int .i64 C ∧ v = .int .i64 m ∧ wr = w2 ∧ colS (Txt p) i (en : Int) (m - i) = C) (fun _ v _ => en - (intOf v).toNat)
    case atStart => exact ⟨i, en, Nat.le_refl _, hiE, rfl, rfl, rfl, by rw [Nat.sub_self]; rfl⟩
    case round =>
     obtain ⟨m, C, hm1, hm2, rfl, rfl, hwr, hC⟩ := hrel
     have hwr := hwr.symm
     subst hwr
     by_cases hlt : m < en
     ·have hls2 : m < X.size := by omega
      have hat := HAt.out m hm1 hlt
      rw [← HXt.out, atB_get X m hls2] at hat
      have hm1' : m + 1 - i = (m - i) + 1 := by omega
      by_cases h58 : (X[m].toNat : Int) = 58
      ·have c1 : ((X[m].toNat : Int) == 58) = true := by rw [h58]; rfl
       have c2 : ((X[m].toNat : Int) == 93) = false := by rw [h58]; rfl
       have HN := Lib.hid (by rw [hm1', colS_58 _ _ _ _ (by rw [hat]; exact h58)]; omega : colS (Txt p) i (en : Int) (m + 1 - i) = (m : Int))
       clear h58 hat hC
       go_wp2_with fail
       go_roundw
       case rel => exact ⟨m + 1, m, by omega, by omega, rfl, by go_num, by first | trivial | rfl, HN.out⟩
       case measure => simp [intOf]; omega
      have c1 : ((X[m].toNat : Int) == 58) = false := beq_eq_false_iff_ne.2 h58
      by_cases h93 : (X[m].toNat : Int) = 93
      ·have c2 : ((X[m].toNat : Int) == 93) = true := by rw [h93]; rfl
       have HN := Lib.hid (by rw [hm1', colS_93 _ _ _ _ (by rw [hat]; exact h93)] : colS (Txt p) i (en : Int) (m + 1 - i) = (en : Int))
       clear h58 h93 hat hC
       go_wp2_with fail
       go_roundw
       case rel => exact ⟨m + 1, en, by omega, by omega, rfl, by go_num, by first | trivial | rfl, HN.out⟩
       case measure => simp [intOf]; omega
      ·have c2 : ((X[m].toNat : Int) == 93) = false := beq_eq_false_iff_ne.2 h93
       have HN := Lib.hid (by rw [hm1', colS_else _ _ _ _ (by rw [hat]; exact h58) (by rw [hat]; exact h93), hC] : colS (Txt p) i (en : Int) (m + 1 - i) = C)
       clear h58 h93 hat hC
       go_wp2_with fail
       go_roundw
       case rel => exact ⟨m + 1, C, by omega, by omega, rfl, by go_num, by first | trivial | rfl, HN.out⟩
       case measure => simp [intOf]; omega
     have hme : en = m := by omega
     subst hme
     clear hlt
     have hcq : ∃ q : Nat, C = (q : Int) ∧ i ≤ q ∧ q ≤ en ∧ nameP p = slc t i q ∧ ((q < en ∧ hasP p = true ∧ i + colP p = q) ∨ (q = en ∧ hasP p = false)) := by
      rw [HCE.out] at hC
      cases hh : hasP p
      ·rw [hh, if_neg (by decide)] at hC
       exact ⟨en, hC.symm, hiE, Nat.le_refl _, by unfold nameP; rw [hh, hpd]; rfl, .inr ⟨rfl, rfl⟩⟩
      ·rw [hh, if_pos rfl] at hC
       have hq := colP_lt p hh
       refine ⟨i + colP p, hC.symm, by omega, by omega, ?_, .inl ⟨by omega, rfl, rfl⟩⟩
       unfold nameP
       rw [hh, if_pos rfl]
       have hq2 : i + colP p ≤ en := by omega
       rw [← hpd] at hq2 ⊢
       exact slc_take t i en _ hq2
     obtain ⟨q, rfl, hq1, hq2, hnm, hcase⟩ := hcq
     have HCa := Lib.hid hcase
     obtain ⟨o, ho⟩ : ∃ o, hostO (slc t i q) = o := ⟨_, rfl⟩
     have hnl := slc_lel t i q
     have HHo := Lib.hid (fun wz => (by have h := rHost_any (Txt (slc t i q)) wz (by rw [txt_size]; omega); rw [txt_list, ho] at h; exact h))
     have HV3 := Lib.hid (by
      rw [HV2.out]
      unfold rvV
      rw [hpd, hnm, ho] : viaR s.data.toList = rvO o (hasP p) (uprL (slc t 8 k)) (ptR (slc t (i + colP p + 1) en)) (parR (t.drop en)))
     have H2 := Lib.hid (by rw [slc_txt, HXt.out] : X.extract i q = Txt (slc t i q))
     have H4 := Lib.hid (by rw [slc_txt, HXt.out] : X.extract 8 k = Txt (slc t 8 k))
     have HU2 := Lib.hid (fun wz => (by have h := r3upper_any (Txt (slc t 8 k)) wz (by rw [txt_size]; have := slc_lel t 8 k; omega); rw [txt_list] at h; exact h : Calls Tryz.prog 79 #[.string (Txt (slc t 8 k))] wz (RetNew (uprL (slc t 8 k)) wz)))
     clear hC hcase ho hnm hnl hpd hpl
     go_wp2_with fail
     rw [H2.out]
     refine (HHo.out _).mono ?_
     rintro e w3 ⟨rfl, hB3⟩
     have hJ3 := J2.out.below hB3;have J3 := Lib.hid hJ3;have K3 := Lib.hid (K0.out.trans hJ3)
     have Z3 := Lib.hid (show Zvb w3 w.heap.size from Z0.out.kp hJ3 (by simp))
     clear hB3 hJ3
     cases o with
     | none =>
       have HF := Lib.hid (HV3.out.trans rfl)
       simp only [Option.getD_none, Option.isSome_none]
       have d0 := Z3.out.cell 0;have d1 := Z3.out.cell 1;have d2 := Z3.out.cell 2;have d3 := Z3.out.cell 3;have d4 := Z3.out.cell 4;have g0 := Z3.out.frozen 0;have g1 := Z3.out.frozen 1;have g2 := Z3.out.frozen 2;have g3 := Z3.out.frozen 3;have g4 := Z3.out.frozen 4
       go_wp2_with fail
       refine bodyPost_ret (results_two rfl _ _ w.heap.size 33 _ (0, 0) _ rfl (blk5 Z3.out _ _ _ _ _) Tryz.underlying33 rfl infoVia) rfl ?_
       rw [HF.out]
       exact via_fin w.heap.size w _ _ _ _ _ _ _ _ _ _ rfl rfl rfl rfl rfl (PmIn.nil _ _) K3.out (Nat.le_refl _) Z3.out
     | some x =>
       simp only [Option.getD_some, Option.isSome_some]
       go_wp2_with fail
       rw [H4.out]
       refine (HU2.out _).mono ?_
       rintro e w4 ⟨rfl, hB4⟩
       have hJ4 := J3.out.below hB4;have J4 := Lib.hid hJ4;have K4 := Lib.hid (K0.out.trans hJ4)
       have Z4 := Lib.hid (show Zvb w4 w.heap.size from Z0.out.kp hJ4 (by simp))
       obtain ⟨UT, hUT⟩ : ∃ S : ByteArray, (⟨(uprL (slc t 8 k)).toArray⟩ : ByteArray) = S := ⟨_, rfl⟩
       obtain ⟨XT, hXT⟩ : ∃ S : ByteArray, Txt x = S := ⟨_, rfl⟩
       rw [hUT, hXT]
       have HUT := Lib.hid hUT;have HXT := Lib.hid hXT
       obtain ⟨g, hg⟩ : ∃ x, w4.heap.size = x := ⟨_, rfl⟩
       have hg0 : w0.heap.size ≤ g := by rw [← hg]; exact hJ4.size
       go_upto_region 21 with fail
       obtain ⟨w5, hw5⟩ : ∃ x, w4.alloc (.cells #[.string UT, .string XT, .int .i64 0, .string ⟨#[]⟩, .slice none 0 0] 33) = x := ⟨_, rfl⟩
       have B5 := Lib.hid (show Blk w5 g 33 #[.string UT, .string XT, .int .i64 0, .string ⟨#[]⟩, .slice none 0 0] from by rw [← hw5, ← hg]; exact Blk.new w4 _ _)
       have hKa : Kp [] w4 w5 := by rw [← hw5]; exact (Kp.refl _ _).alloc _
       have hJ5 := J4.out.trans hKa;have J5 := Lib.hid hJ5;have K5 := Lib.hid (K0.out.trans hJ5)
       have Z5 := Lib.hid (show Zvb w5 w.heap.size from Z0.out.kp hJ5 (by simp))
       clear hB4 hJ4 hJ5 hKa hUT hXT hg
       try rw [hw5]
       clear hw5
       rcases HCa.out with ⟨hqe, hh, hcp⟩ | ⟨hqe, hh⟩
       case' inl =>
        obtain ⟨q1, hq1e⟩ : ∃ m, q + 1 = m := ⟨_, rfl⟩
        have hq1I : (q : Int) + 1 = (q1 : Int) := by omega
        obtain ⟨N, y, hp⟩ : ∃ a b, ptR (slc t q1 en) = (a, b) := ⟨_, _, rfl⟩
        have HV4 := Lib.hid (by rw [HV3.out, hh, hcp, hq1e, hp]; rfl : viaR s.data.toList = if y ≠ 0 then (nilV, y) else viP (uprL (slc t 8 k)) x N (parR (t.drop en)))
        have H5 := Lib.hid (by rw [slc_txt, HXt.out] : X.extract q1 en = Txt (slc t q1 en))
        have HPt := Lib.hid (fun wz => (by have h := r3port_any (slc t q1 en) wz (by have := slc_lel t q1 en; omega); rw [hp] at h; exact h))
        clear hp hh hcp
        go_wp2_with fail
        try rw [hq1I]
        rw [H5.out]
        refine (HPt.out _).mono ?_
        rintro e w6 ⟨rfl, hK6⟩
        have hJ6 := J5.out.trans hK6;have J6 := Lib.hid hJ6;have K6 := Lib.hid (K0.out.trans hJ6)
        have Z6 := Lib.hid (show Zvb w6 w.heap.size from Z0.out.kp hJ6 (by simp))
        have B6 := Lib.hid (B5.out.kp hK6 (by simp))
        clear hK6 hJ6
        dsimp only
        by_cases hy : y = 0
        case neg =>
         have by_ : (y != 0) = true := bne_iff_ne.2 hy
         have HF := Lib.hid (HV4.out.trans (if_pos hy));clear hy;have d0 := Z6.out.cell 0;have d1 := Z6.out.cell 1;have d2 := Z6.out.cell 2;have d3 := Z6.out.cell 3;have d4 := Z6.out.cell 4;have g0 := Z6.out.frozen 0;have g1 := Z6.out.frozen 1;have g2 := Z6.out.frozen 2;have g3 := Z6.out.frozen 3;have g4 := Z6.out.frozen 4
         go_wp2_with fail
         refine bodyPost_ret (results_two rfl _ _ w.heap.size 33 _ (0, 0) _ rfl (blk5 Z6.out _ _ _ _ _) Tryz.underlying33 rfl infoVia) rfl ?_
         rw [HF.out]
         exact via_fin w.heap.size w _ _ _ _ _ _ _ _ _ _ rfl rfl rfl rfl rfl (PmIn.nil _ _) K6.out (Nat.le_refl _) Z6.out
        have by_ : (y != 0) = false := by rw [hy]; rfl
        have HV5 := Lib.hid (HV4.out.trans (if_neg (fun h => h hy)))
        have u2 := B6.out.cell 2;have f2 := B6.out.frozen 2
        obtain ⟨w7, hw7⟩ : ∃ z, w6.setCell ⟨g, 2, none⟩ (.int .i64 N) = z := ⟨_, rfl⟩
        have G7 := Lib.hid (show Blk w7 g 33 #[.string UT, .string XT, .int .i64 N, .string ⟨#[]⟩, .slice none 0 0] from by rw [← hw7]; exact B6.out.set_ 2 _)
        have hJ7 : Kp [] w0 w7 := by rw [← hw7]; exact J6.out.setCell (p := ⟨g, 2, none⟩) (.inr hg0) _
        have J7 := Lib.hid hJ7;clear hy hJ7
        go_upto_region 26 with fail
        try rw [hw7]
        clear hw7 u2 f2
       case' inr =>
        have HV4 := Lib.hid (by rw [HV3.out, hh]; rfl : viaR s.data.toList = viP (uprL (slc t 8 k)) x 0 (parR (t.drop en)))
        obtain ⟨N, hN0⟩ : ∃ N : Int, 0 = N := ⟨_, rfl⟩
        have HV5 := Lib.hid (by rw [HV4.out, hN0] : viaR s.data.toList = viP (uprL (slc t 8 k)) x N (parR (t.drop en)))
        have G7 := Lib.hid (show Blk w5 g 33 #[.string UT, .string XT, .int .i64 N, .string ⟨#[]⟩, .slice none 0 0] from by rw [← hN0]; exact B5.out)
        have J7 := Lib.hid J5.out;clear hN0 hh
        go_upto_region 26 with fail
       all_goals
        obtain ⟨ls, hls⟩ : ∃ z, t.drop en = z := ⟨_, rfl⟩
        have hll : ls.length ≤ 1048576 := by rw [← hls, List.length_drop]; omega
        obtain ⟨pm, off, z, hpa⟩ : ∃ a b c, parR ls = (a, b, c) := ⟨_, _, _, rfl⟩
        have H6 := Lib.hid (by rw [← hXs, slc_txt, HXt.out, slc_full _ _ _ (by omega), hls] : X.extract en t.length = Txt ls)
        have hpar := fun wz => rParams_any (Txt ls) wz (by rw [txt_size]; omega)
        rw [txt_list, hpa] at hpar
        have HPa := Lib.hid hpar
        have hsz : SzP pm := by
         have h1 := parF_sz ls (ls.length + 1) (blkE ls 0) [] (fun p hp => by cases hp)
         rw [show parF (ls.length + 1) ls (blkE ls 0) [] = (pm, off, z) from hpa] at h1
         exact fun p hp => by have := h1 p hp; exact ⟨by have := this.1; omega, by have := this.2; omega⟩
        have Hsz := Lib.hid hsz
        have HV6 := Lib.hid (by rw [HV5.out, hls]; unfold viP; rw [hpa] : viaR s.data.toList = if z ≠ 0 then (nilV, z) else (⟨uprL (slc t 8 k), x, N, getV pm brN, pm⟩, 0))
        clear hls hpa hpar hsz
        go_wp2_with fail
        rw [H6.out]
        refine (HPa.out _).mono ?_
        rintro e w8 ⟨v, rfl, hP8, hB8, hl8⟩
        have hK8 := (Kp.refl [] _).below hB8
        have hJ8 := J7.out.trans hK8;have J8 := Lib.hid hJ8;have K8 := Lib.hid (K0.out.trans hJ8)
        have Z8 := Lib.hid (show Zvb w8 w.heap.size from Z0.out.kp hJ8 (by simp))
        have G8 := Lib.hid (G7.out.kp hK8 (by simp))
        dsimp only at hP8 hl8 ⊢
        obtain ⟨A, c, rfl⟩ := hP8.form
        have P8 := Lib.hid hP8
        have hpn : pm.length ≤ 1048576 := by omega
        clear hK8 hJ8 hB8 hP8 hl8
        by_cases hz : z = 0
        case neg =>
         have bz : (z != 0) = true := bne_iff_ne.2 hz
         have HF := Lib.hid (HV6.out.trans (if_pos hz));clear hz;have d0 := Z8.out.cell 0;have d1 := Z8.out.cell 1;have d2 := Z8.out.cell 2;have d3 := Z8.out.cell 3;have d4 := Z8.out.cell 4;have g0 := Z8.out.frozen 0;have g1 := Z8.out.frozen 1;have g2 := Z8.out.frozen 2;have g3 := Z8.out.frozen 3;have g4 := Z8.out.frozen 4
         go_wp2_with fail
         refine bodyPost_ret (results_two rfl _ _ w.heap.size 33 _ (0, 0) _ rfl (blk5 Z8.out _ _ _ _ _) Tryz.underlying33 rfl infoVia) rfl ?_
         rw [HF.out]
         exact via_fin w.heap.size w _ _ _ _ _ _ _ _ _ _ rfl rfl rfl rfl rfl (PmIn.nil _ _) K8.out (Nat.le_refl _) Z8.out
        have bz : (z != 0) = false := by rw [hz]; rfl
        have HF := Lib.hid (HV6.out.trans (if_neg (fun h => h hz)))
        have u4 := G8.out.cell 4;have f4 := G8.out.frozen 4
        obtain ⟨w9, hw9⟩ : ∃ z, w8.setCell ⟨g, 4, none⟩ (.slice A pm.length c) = z := ⟨_, rfl⟩
        have G9 := Lib.hid (show Blk w9 g 33 #[.string UT, .string XT, .int .i64 N, .string ⟨#[]⟩, .slice A pm.length c] from by rw [← hw9]; exact G8.out.set_ 4 _)
        have P9 := Lib.hid (show PmIn w9.heap.size w9 (.slice A pm.length c) pm from by rw [← hw9]; exact P8.out.grow ((Kp.refl [g] w8).setCell (p := ⟨g, 4, none⟩) (.inl (by simp)) _) (by intro y hy; rw [List.mem_singleton.1 hy]; exact via_nob G8.out))
        have J9 := Lib.hid (show Kp [] w0 w9 from by rw [← hw9]; exact J8.out.setCell (p := ⟨g, 4, none⟩) (.inr hg0) _)
        clear hz
        go_upto_region 30 with fail
        try rw [hw9]
        clear hw9 u4 f4
        have HGe := Lib.hid (rget_any w9.heap.size (.slice A pm.length c) pm brN w9 P9.out (Nat.le_refl _) Hsz.out (by omega) (by decide))
        obtain ⟨n, hn⟩ : ∃ n, pm.length = n := ⟨_, rfl⟩
        rw [hn] at HGe G9 P9 ⊢
        clear hn
        go_wp2_with fail
        refine HGe.out.mono ?_
        rintro e wa ⟨rfl, hKa⟩
        have hJa := J9.out.trans hKa
        have Ga := Lib.hid (G9.out.kp hKa (by simp))
        have Pa := Lib.hid (P9.out.grow hKa (by intro y hy; cases hy))
        obtain ⟨BR, hBR⟩ : ∃ S, Txt (getV pm brN) = S := ⟨_, rfl⟩
        rw [hBR]
        have HBR := Lib.hid hBR;have u3 := Ga.out.cell 3;have f3 := Ga.out.frozen 3
        obtain ⟨wb, hwb⟩ : ∃ z, wa.setCell ⟨g, 3, none⟩ (.string BR) = z := ⟨_, rfl⟩
        have Gb := Lib.hid (show Blk wb g 33 #[.string UT, .string XT, .int .i64 N, .string BR, .slice A n c] from by rw [← hwb]; exact Ga.out.set_ 3 _)
        have Pb := Lib.hid (show PmIn wb.heap.size wb (.slice A n c) pm from by rw [← hwb]; exact Pa.out.grow ((Kp.refl [g] wa).setCell (p := ⟨g, 3, none⟩) (.inl (by simp)) _) (by intro y hy; rw [List.mem_singleton.1 hy]; exact via_nob Ga.out))
        have hJb : Kp [] w0 wb := by rw [← hwb]; exact hJa.setCell (p := ⟨g, 3, none⟩) (.inr hg0) _
        have Kb := Lib.hid (K0.out.trans hJb)
        have Zb := Lib.hid (show Zvb wb w.heap.size from Z0.out.kp hJb (by simp))
        clear hKa hJa hJb hBR
        go_upto_region 32 with fail
        try rw [hwb]
        clear hwb u3 f3;have u0 := Gb.out.cell 0;have u1 := Gb.out.cell 1;have u2 := Gb.out.cell 2;have u3 := Gb.out.cell 3;have u4 := Gb.out.cell 4;have d0 := Zb.out.cell 0;have d1 := Zb.out.cell 1;have d2 := Zb.out.cell 2;have d3 := Zb.out.cell 3;have d4 := Zb.out.cell 4;have g0 := Zb.out.frozen 0;have g1 := Zb.out.frozen 1;have g2 := Zb.out.frozen 2;have g3 := Zb.out.frozen 3;have g4 := Zb.out.frozen 4
        go_wp2_with fail
        refine bodyPost_ret (results_two rfl _ _ w.heap.size 33 _ (0, 0) _ rfl (blk5 Zb.out _ _ _ _ _) Tryz.underlying33 rfl infoVia) rfl ?_
        rw [HF.out]
        exact via_fin w.heap.size w _ _ _ _ _ _ _ _ _ _ HUT.out HXT.out rfl HBR.out rfl Pb.out Kb.out (Nat.le_refl _) Zb.out
end Ad
end Go.Proofs.YtmmjfofdnpafkaaGreatDoor
