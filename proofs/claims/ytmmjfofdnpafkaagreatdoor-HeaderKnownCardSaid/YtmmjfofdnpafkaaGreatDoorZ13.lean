/- Texts of one set of library modules: HePi, HePv. -/
import Derived.Test.YtmmjfofdnpafkaaGreatDoorZ12
import Derived.Test.YtmmjfofdnpafkaaGreatDoorZ9
import Derived.Test.YtmmjfofdnpafkaaGreatDoorZ7
import Derived.Test.YtmmjfofdnpafkaaGreatDoorZ18
namespace Go.Proofs.YtmmjfofdnpafkaaGreatDoor
namespace Ad
open Go.RowKit Lx
def pitO (v : List UInt8) (l : List Prm) : Option (List UInt8) := match ppO (srt l) with | some p => if itmB v = true then some (v ++ p) else none | none => none
theorem pit_none {v : List UInt8} {l : List Prm} (h : ppO (srt l) = none) : pitO v l = none := by unfold pitO; rw [h]
theorem pit_bad {v : List UInt8} {l : List Prm} (p : List UInt8) (h : ppO (srt l) = some p) (hi : itmB v = false) : pitO v l = none := by unfold pitO; rw [h, hi]; rfl
theorem pit_some {v : List UInt8} {l : List Prm} {p : List UInt8} (h : ppO (srt l) = some p) (hi : itmB v = true) : pitO v l = some (v ++ p) := by unfold pitO; rw [h, hi]; rfl
theorem szP_perm {l l' : List Prm} (h : SzP l) (p : l'.Perm l) : SzP l' := fun q hq => h q (p.mem_iff.1 hq)
set_option maxRecDepth 100000 in
set_option maxHeartbeats 4000000 in
theorem printItem_any (B : Nat) (v : List UInt8) (A : Option Addr) (c : Nat) (l : List Prm) (w : World) (hP : PmIn B w (.slice A l.length c) l) (hB : B ≤ w.heap.size) (hv : v.length ≤ 2097152) (hz : SzP l) (hl : l.length ≤ 2097152) (E : Env w) :
   Calls Tryz.prog 45 #[.agg #[.string (Txt v), .slice A l.length c]] w (PrK (pitO v l) w) := by
 obtain ⟨w0, hw0⟩ : ∃ x, w.alloc (.cells #[.string (Txt v), .slice A l.length c] 59) = x := ⟨_, rfl⟩
 have B0 := Lib.hid (show Blk w0 w.heap.size 59 #[.string (Txt v), .slice A l.length c] from by rw [← hw0]; exact Blk.new w _ _)
 have k0 : Kp [] w w0 := by rw [← hw0]; exact (Kp.refl _ _).alloc _
 have K0 := Lib.hid k0
 obtain ⟨w1, hw1⟩ : ∃ x, w0.alloc (.cells #[.slice A l.length c] 22) = x := ⟨_, rfl⟩
 have B1 := show Blk w1 w0.heap.size 22 #[.slice A l.length c] from by rw [← hw1]; exact Blk.new w0 _ _
 have k1 : Kp [] w0 w1 := by rw [← hw1]; exact (Kp.refl _ _).alloc _
 have K1 := Lib.hid (k0.trans k1)
 have K01 := Lib.hid k1
 have hP1 : PmIn B w1 (.slice A l.length c) l := hP.kp (k0.trans k1) hB (by simp)
 have hsz := k1.size
 have hsz0 := k0.size
 have HS := Lib.hid (hsorted_any 176 #[.pointer (some ⟨w0.heap.size, 0, none⟩)] l (by omega) w1
  (enters_of Tryz.func176 (by kernel_rfl) rfl)
  (pvals_stops w0.heap.size w1.heap.size B _ l (by omega) w1 B1.lt (Nat.le_refl _) (by simpa using B1.cell 0) hP1 (by omega)))
 have HV := Lib.hid (by have h := values_any A l.length c w0; rw [hw1] at h; exact h)
 have HZ := Lib.hid hz
 have HE := Lib.hid E
 have c0 := B0.out.cell 1
 clear hP hP1 B1 k0 k1 hz E hsz hsz0 hw1
 go_enter Tryz.func45, Tryz.ntmps45
 go_wp2_with fail
 refine HV.out.mono ?_
 rintro e wx ⟨rfl, rfl⟩
 clear c0
 go_wp2_with fail
 refine HS.out.mono ?_
 rintro e w2 ⟨v2, l', rfl, h1, h2, h3, h4⟩
 obtain ⟨A2, c2, rfl⟩ := h1.form
 have hll : l'.length ≤ 2097152 := by rw [h2.length_eq]; exact hl
 have HO := Lib.hid (ppO_sort l l' h2 h3)
 have Z2 := Lib.hid (szP_perm HZ.out h2)
 have P2 := Lib.hid h1
 have B2 := Lib.hid (B0.out.kp (K01.out.trans h4) (by simp))
 have K2 := Lib.hid (K1.out.trans h4)
 clear h1 h2 h3 h4
 go_wp2_with fail
 refine (printParams_any _ _ l' _ P2.out (Nat.le_refl _) Z2.out hll (HE.out.kp K2.out (by simp))).mono ?_
 rintro e w3 ⟨rfl, hB3⟩
 have hK3 := (Kp.refl [] w2).below hB3
 have K3 := Lib.hid (K2.out.trans hK3)
 have B3 := Lib.hid (B2.out.kp hK3 (by simp))
 clear hB3 hK3
 rw [HO.out]
 have e0 := B3.out.cell 0
 obtain ⟨o, ho⟩ : ∃ o, ppO (srt l) = o := ⟨_, rfl⟩
 rw [ho]
 cases o with
 | none =>
   have HR := Lib.hid (pit_none (v := v) ho)
   clear ho
   simp only [Option.getD_none, Option.isSome_none, Bool.false_eq_true, if_false]
   go_wp2_with fail
   go_ret2
   exact PrK.none HR.out K3.out
 | some p =>
   simp only [Option.getD_some, Option.isSome_some, if_true]
   have HI := Lib.hid (fun wz (h : Env wz) => isItem_any v wz hv h)
   cases hi : itmB v
   ·have HR := Lib.hid (pit_bad p ho hi)
    have HIb := Lib.hid hi
    clear ho hi
    go_wp2_with fail
    refine (HI.out _ (HE.out.kp K3.out (by simp))).mono ?_
    rintro e w4 ⟨rfl, hK4⟩
    rw [HIb.out]
    have K4 := Lib.hid (K3.out.trans hK4)
    clear hK4 e0
    go_wp2_with fail
    go_ret2
    exact PrK.none HR.out K4.out
   ·have HR := Lib.hid (pit_some ho hi)
    have HIb := Lib.hid hi
    have HL := Lib.hid (ppO_len (srt l) (szP_perm HZ.out (srt_perm l)) p ho)
    clear ho hi
    go_wp2_with fail
    refine (HI.out _ (HE.out.kp K3.out (by simp))).mono ?_
    rintro e w4 ⟨rfl, hK4⟩
    rw [HIb.out]
    have K4 := Lib.hid (K3.out.trans hK4)
    have B4 := Lib.hid (B3.out.kp hK4 (by simp))
    clear hK4 e0
    have e0 := B4.out.cell 0
    have s1 : (Txt v).size ≤ 2097152 := by rw [txt_size]; exact hv
    have s2 : (Txt p).size ≤ 16 * 6291460 := by rw [txt_size]; exact HL.out
    go_wp2_with fail
    go_ret2
    exact PrK.some HR.out (cat_txt v p) K4.out
end Ad
end Go.Proofs.YtmmjfofdnpafkaaGreatDoor
namespace Go.Proofs.YtmmjfofdnpafkaaGreatDoor
namespace Ad
open Go.RowKit Lx
def porL (po : Int) : List UInt8 := if po = 0 then [] else 58 :: Lib.itoa po
def pviO (t h b : List UInt8) (po : Int) (l : List Prm) : Option (List UInt8) :=
 match hostO h with
 | some ho => if tokB t = true ∧ 0 ≤ po ∧ po ≤ 65535 then (match ppO (srt (vps l b)) with | some p => some (protoL ++ uprL t ++ [32] ++ ho ++ porL po ++ p) | none => none) else none
 | none => none
theorem pvi_host {t h b : List UInt8} {po : Int} {l : List Prm} (hh : hostO h = none) : pviO t h b po l = none := by unfold pviO; rw [hh]
theorem pvi_bad {t h b : List UInt8} {po : Int} {l : List Prm} (hc : ¬ (tokB t = true ∧ 0 ≤ po ∧ po ≤ 65535)) : pviO t h b po l = none := by
 unfold pviO
 split
 ·rw [if_neg hc]
 ·rfl
theorem pvi_list {t h b : List UInt8} {po : Int} {l : List Prm} (hp : ppO (srt (vps l b)) = none) : pviO t h b po l = none := by
 unfold pviO
 split
 ·split
  ·rw [hp]
  ·rfl
 ·rfl
theorem pvi_some {t h b : List UInt8} {po : Int} {l : List Prm} {ho p : List UInt8} (hh : hostO h = some ho) (hc : tokB t = true ∧ 0 ≤ po ∧ po ≤ 65535) (hp : ppO (srt (vps l b)) = some p) : pviO t h b po l = some (protoL ++ uprL t ++ [32] ++ ho ++ porL po ++ p) := by
 unfold pviO
 rw [hh]
 dsimp only
 rw [if_pos hc, hp]
theorem vps_len (l : List Prm) (b : List UInt8) : (vps l b).length ≤ l.length + 1 := by
 unfold vps
 have := nbr_len l
 rw [List.length_append]
 split <;> simp <;> omega
theorem vps_sz (l : List Prm) (b : List UInt8) (h : SzP l) (hb : b.length ≤ 2097152) : SzP (vps l b) := by
 intro p hp
 unfold vps at hp
 rcases List.mem_append.1 hp with hp | hp
 ·exact h p (List.mem_filter.1 hp).1
 ·split at hp
  ·cases hp
  ·rw [List.mem_singleton.1 hp]; exact ⟨by simp [brnN], hb⟩
theorem dec_eq : ∀ n : Nat, Lib.decDigits n = decL n := by
 intro n
 induction n using Nat.strongRecOn with
 | _ n ih =>
   by_cases h : n < 10
   ·rw [Lib.decDigits, dif_pos h, decL_lt n h]
   ·rw [Lib.decDigits, dif_neg h, decL_ge n h, ih (n / 10) (by omega)]
theorem itoa_dec (po : Int) (h : 0 ≤ po) : Lib.itoa po = decL po.toNat := by
 unfold Lib.itoa
 rw [if_neg (by omega), dec_eq]
theorem cat5 (a b c d e f : List UInt8) : Txt a ++ Txt b ++ Txt c ++ Txt d ++ Txt e ++ Txt f = Txt (a ++ b ++ c ++ d ++ e ++ f) := by simp only [cat_txt]
set_option maxRecDepth 100000 in
set_option maxHeartbeats 1000000 in
theorem viaParams_any (T H B : ByteArray) (po : Int) (A : Option Addr) (n c : Nat) (w : World) : Calls Tryz.prog 87 #[.agg #[.string T, .string H, .int .i64 po, .string B, .slice A n c]] w fun e w' =>
   e = .returned (.func (.func 160) #[] #[.pointer (some ⟨w.heap.size, 0, none⟩)]) ∧ w' = w.alloc (.cells #[.string T, .string H, .int .i64 po, .string B, .slice A n c] 33) := by
 go_enter Tryz.func87, Tryz.ntmps87
 go_wp2_with fail
 go_ret
 exact ⟨rfl, rfl⟩
set_option maxRecDepth 100000 in
set_option maxHeartbeats 8000000 in
theorem printVia_any (B : Nat) (t h b : List UInt8) (po : Int) (A : Option Addr) (c : Nat) (l : List Prm) (w : World) (hP : PmIn B w (.slice A l.length c) l) (hB : B ≤ w.heap.size) (ht : t.length ≤ 1048576) (hh : h.length ≤ 2097152) (hb : b.length ≤ 1048576) (hz : SzP l) (hl : l.length ≤ 1048577) (hp0 : -9223372036854775808 ≤ po) (hp1 : po ≤ 9223372036854775807) (E : Env w) :
   Calls Tryz.prog 22 #[.agg #[.string (Txt t), .string (Txt h), .int .i64 po, .string (Txt b), .slice A l.length c]] w (PrK (pviO t h b po l) w) := by
 obtain ⟨w0, hw0⟩ : ∃ x, w.alloc (.cells #[.string (Txt t), .string (Txt h), .int .i64 po, .string (Txt b), .slice A l.length c] 33) = x := ⟨_, rfl⟩
 have B0 := Lib.hid (show Blk w0 w.heap.size 33 #[.string (Txt t), .string (Txt h), .int .i64 po, .string (Txt b), .slice A l.length c] from by rw [← hw0]; exact Blk.new w _ _)
 have k0 : Kp [] w w0 := by rw [← hw0]; exact (Kp.refl _ _).alloc _
 have K0 := Lib.hid k0
 have P0 := Lib.hid ((hP.kp k0 hB (by simp)).more (Nat.le_trans hB k0.size))
 have HZ := Lib.hid (vps_sz l b hz (by omega))
 have HVl := Lib.hid (vps_len l b)
 have HE := Lib.hid E
 have HH := Lib.hid (by have h := Host_any (Txt h) w0 (by rw [txt_size]; omega) (E.kp k0 (by simp)); rw [txt_list] at h; exact h)
 obtain ⟨T, hT⟩ : ∃ T, tokB t = T := ⟨_, rfl⟩
 have HTk := Lib.hid (fun wz => tokK t T hT (by omega) wz)
 have HTb := Lib.hid hT
 clear k0 hP hz E hT
 go_enter Tryz.func22, Tryz.ntmps22
 have a1 := B0.out.cell 1
 go_wp2_with fail
 refine HH.out.mono ?_
 rintro e w1 ⟨rfl, hB1⟩
 have hK1 := (Kp.refl [] w0).below hB1
 have K1 := Lib.hid (K0.out.trans hK1)
 have B1 := Lib.hid (B0.out.kp hK1 (by simp))
 have P1 := Lib.hid (P0.out.grow hK1 (by intro y hy; cases hy))
 clear hB1 hK1 a1 HH
 have a0 := B1.out.cell 0
 have a2 := B1.out.cell 2
 obtain ⟨o, ho⟩ : ∃ o, hostO h = o := ⟨_, rfl⟩
 rw [ho]
 cases o with
 | none =>
   have HR := Lib.hid (pvi_host (t := t) (b := b) (po := po) (l := l) ho)
   clear ho
   simp only [Option.getD_none, Option.isSome_none]
   go_wp2_with fail
   go_ret2
   exact PrK.none HR.out K1.out
 | some x =>
   have hol := hostO_len h x ho
   have HHo := Lib.hid ho
   clear ho
   simp only [Option.getD_some, Option.isSome_some]
   cases T
   ·have HR := Lib.hid (pvi_bad (t := t) (h := h) (b := b) (po := po) (l := l) (by rw [HTb.out]; simp))
    go_wp2_with fail
    refine (HTk.out _).mono ?_
    rintro e w2 ⟨rfl, hK2⟩
    have K2 := Lib.hid (K1.out.trans hK2)
    clear hK2 a0 a2
    go_wp2_with fail
    go_ret2
    exact PrK.none HR.out K2.out
   ·go_wp2_with fail
    refine (HTk.out _).mono ?_
    rintro e w2 ⟨rfl, hK2⟩
    have K2 := Lib.hid (K1.out.trans hK2)
    have B2 := Lib.hid (B1.out.kp hK2 (by simp))
    have P2 := Lib.hid (P1.out.grow hK2 (by intro y hy; cases hy))
    clear hK2 a0 a2
    have a2 := B2.out.cell 2
    by_cases hlo : po < 0
    ·have HR := Lib.hid (pvi_bad (t := t) (h := h) (b := b) (po := po) (l := l) (by omega))
     go_wp2_with fail
     go_ret2
     exact PrK.none HR.out K2.out
    by_cases hhi : 65535 < po
    ·have HR := Lib.hid (pvi_bad (t := t) (h := h) (b := b) (po := po) (l := l) (by omega))
     go_wp2_with fail
     go_ret2
     exact PrK.none HR.out K2.out
    have HC := Lib.hid (show tokB t = true ∧ 0 ≤ po ∧ po ≤ 65535 from ⟨HTb.out, by omega, by omega⟩)
    have a0 := B2.out.cell 0
    have a1 := B2.out.cell 1
    have a3 := B2.out.cell 3
    have a4 := B2.out.cell 4
    obtain ⟨w3, hw3⟩ : ∃ x, w2.alloc (.cells #[.string (Txt t), .string (Txt h), .int .i64 po, .string (Txt b), .slice A l.length c] 33) = x := ⟨_, rfl⟩
    have k3 : Kp [] w2 w3 := by rw [← hw3]; exact (Kp.refl _ _).alloc _
    have y3 : Blk w3 w2.heap.size 33 #[.string (Txt t), .string (Txt h), .int .i64 po, .string (Txt b), .slice A l.length c] := by rw [← hw3]; exact Blk.new w2 _ _
    have hP3 := P2.out.kp k3 (Nat.le_refl _) (by simp)
    have HV := Lib.hid (by have h := viaParams_any (Txt t) (Txt h) (Txt b) po A l.length c w2; rw [hw3] at h; exact h)
    have hvl := HVl.out
    have HS := Lib.hid (hsorted_any 160 #[.pointer (some ⟨w2.heap.size, 0, none⟩)] (vps l b) (by omega) w3
     (enters_of Tryz.func160 (by kernel_rfl) rfl)
     (vpars_stops w2.heap.size w3.heap.size w2.heap.size _ l b (by omega) (by omega) w3 y3.lt (Nat.le_refl _) (by simpa using y3.cell 3) (by simpa using y3.cell 4) hP3 k3.size))
    have K3 := Lib.hid (K2.out.trans k3)
    have B3 := Lib.hid (B2.out.kp k3 (by simp))
    clear k3 y3 hP3 hw3
    go_wp2_with fail
    refine HV.out.mono ?_
    rintro e wx ⟨rfl, rfl⟩
    clear a0 a1 a2 a3 a4
    go_wp2_with fail
    refine HS.out.mono ?_
    rintro e w4 ⟨v4, l', rfl, h1, h2, h3, h4⟩
    obtain ⟨A4, c4, rfl⟩ := h1.form
    have hll : l'.length ≤ 2097152 := by rw [h2.length_eq]; omega
    have HO := Lib.hid (ppO_sort (vps l b) l' h2 h3)
    have Z4 := Lib.hid (szP_perm HZ.out h2)
    have P4 := Lib.hid h1
    have B4 := Lib.hid (B3.out.kp h4 (by simp))
    have K4 := Lib.hid (K3.out.trans h4)
    clear h1 h2 h3 h4 hvl
    go_wp2_with fail
    refine (printParams_any _ _ l' _ P4.out (Nat.le_refl _) Z4.out hll (HE.out.kp K4.out (by simp))).mono ?_
    rintro e w5 ⟨rfl, hB5⟩
    have hK5 := (Kp.refl [] w4).below hB5
    have K5 := Lib.hid (K4.out.trans hK5)
    have B5 := Lib.hid (B4.out.kp hK5 (by simp))
    clear hB5 hK5
    rw [HO.out]
    have a0 := B5.out.cell 0
    have a2 := B5.out.cell 2
    obtain ⟨q, hq⟩ : ∃ q, ppO (srt (vps l b)) = q := ⟨_, rfl⟩
    rw [hq]
    cases q with
    | none =>
      have HR := Lib.hid (pvi_list (t := t) (h := h) (po := po) hq)
      clear hq
      simp only [Option.getD_none, Option.isSome_none, Bool.false_eq_true, if_false]
      go_wp2_with fail
      go_ret2
      exact PrK.none HR.out K5.out
    | some p =>
      have HR := Lib.hid (pvi_some HHo.out HC.out hq)
      have hpl := ppO_len (srt (vps l b)) (szP_perm HZ.out (srt_perm _)) p hq
      have HU := Lib.hid (fun wz => (by have h := each_up (Txt t) wz (by rw [txt_size]; omega); rw [txt_list] at h; exact h : Calls Tryz.prog 89 #[.string (Txt t), .func (.func 90) #[] #[]] wz (RetNew (uprL t) wz)))
      clear hq
      simp only [Option.getD_some, Option.isSome_some, if_true]
      have s0 : (uprL t).length ≤ 1048576 := by simpa [uprL] using ht
      have s1 : (Txt (uprL t)).size ≤ 1048576 := by rw [txt_size]; simpa [uprL] using ht
      have s2 : (Txt x).size ≤ 2097300 := by rw [txt_size]; omega
      have s3 : (Txt p).size ≤ 16 * 6291460 := by rw [txt_size]; exact hpl
      by_cases hz0 : po = 0
      ·have HPo := Lib.hid (by unfold porL; rw [if_pos hz0] : porL po = [])
       subst hz0
       go_wp2_with fail
       refine (HU.out _).mono ?_
       rintro e w6 ⟨rfl, hB6⟩
       have K6 := Lib.hid (K5.out.below hB6)
       clear hB6 a0 a2
       go_wp2_with fail
       go_ret2
       refine PrK.some HR.out ?_ K6.out
       rw [HPo.out]
       exact cat5 protoL (uprL t) [32] x [] p
      ·have HPo := Lib.hid (by unfold porL; rw [if_neg hz0] : porL po = 58 :: Lib.itoa po)
       have HI := Lib.hid (fun wz (h : Env wz) => itoa_k po (by omega) (by omega) wz h)
       have s4 : (Txt (Lib.itoa po)).size ≤ 21 := by rw [txt_size]; rw [itoa_dec po (by omega)]; exact Nat.le_trans (decL_len _ (by omega)) (by omega)
       have hz1 : (po == (0 : Int)) = false := beq_eq_false_iff_ne.2 hz0
       go_wp2_with fail
       refine (HI.out _ (HE.out.kp K5.out (by simp))).mono ?_
       rintro e w6 ⟨rfl, hK6⟩
       have K6 := Lib.hid (K5.out.trans hK6)
       have B6 := Lib.hid (B5.out.kp hK6 (by simp))
       clear hK6 a0 a2
       have a0 := B6.out.cell 0
       go_wp2_with fail
       refine (HU.out _).mono ?_
       rintro e w7 ⟨rfl, hB7⟩
       have K7 := Lib.hid (K6.out.below hB7)
       clear hB7 a0
       go_wp2_with fail
       go_ret2
       refine PrK.some HR.out ?_ K7.out
       rw [HPo.out]
       exact (congrArg (fun z => Txt protoL ++ Txt (uprL t) ++ Txt [32] ++ Txt x ++ z ++ Txt p) (cat_txt [58] (Lib.itoa po))).trans (cat5 protoL (uprL t) [32] x (58 :: Lib.itoa po) p)
end Ad
end Go.Proofs.YtmmjfofdnpafkaaGreatDoor
