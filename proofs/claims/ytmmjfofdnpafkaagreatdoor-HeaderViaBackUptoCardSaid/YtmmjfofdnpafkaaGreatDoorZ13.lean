/- Texts of one set of library modules: HePi, HePv, HeVa. -/
import Derived.Test.YtmmjfofdnpafkaaGreatDoorZ8
import Derived.Test.YtmmjfofdnpafkaaGreatDoorZ12
import Derived.Test.YtmmjfofdnpafkaaGreatDoorZ11
import Derived.Test.YtmmjfofdnpafkaaGreatDoorZ14
namespace Go.Proofs.YtmmjfofdnpafkaaGreatDoor
namespace Ad
open Go.RowKit Lx
theorem szP_perm {l l' : List Prm} (h : SzP l) (p : l'.Perm l) : SzP l' := fun q hq => h q (p.mem_iff.1 hq)
end Ad
end Go.Proofs.YtmmjfofdnpafkaaGreatDoor
namespace Go.Proofs.YtmmjfofdnpafkaaGreatDoor
namespace Ad
open Go.RowKit Lx
def porL (po : Int) : List UInt8 := if po = 0 then [] else 58 :: Lib.itoa po
def pviO (t h b : List UInt8) (po : Int) (l : List Prm) : Option (List UInt8) :=
 match hostO h with
 | some ho => if tokB t = true ∧ 0 ≤ po ∧ po ≤ 65535 then (match ppO (srt (vps l b)) with | some p => some (protoL ++ uprL t ++ [32] ++ ho ++ porL po ++ p) | none => none) else none
 | none => none
theorem pvi_host {t h b : List UInt8} {po : Int} {l : List Prm} (hh : hostO h = none) : pviO t h b po l = none := by unfold pviO; rw [hh]
theorem pvi_bad {t h b : List UInt8} {po : Int} {l : List Prm} (hc : ¬ (tokB t = true ∧ 0 ≤ po ∧ po ≤ 65535)) : pviO t h b po l = none := by
 unfold pviO
 split
 ·rw [if_neg hc]
 ·rfl
theorem pvi_list {t h b : List UInt8} {po : Int} {l : List Prm} (hp : ppO (srt (vps l b)) = none) : pviO t h b po l = none := by
 unfold pviO
 split
 ·split
  ·rw [hp]
  ·rfl
 ·rfl
theorem pvi_some {t h b : List UInt8} {po : Int} {l : List Prm} {ho p : List UInt8} (hh : hostO h = some ho) (hc : tokB t = true ∧ 0 ≤ po ∧ po ≤ 65535) (hp : ppO (srt (vps l b)) = some p) : pviO t h b po l = some (protoL ++ uprL t ++ [32] ++ ho ++ porL po ++ p) := by
 unfold pviO
 rw [hh]
 dsimp only
 rw [if_pos hc, hp]
theorem vps_len (l : List Prm) (b : List UInt8) : (vps l b).length ≤ l.length + 1 := by
 unfold vps
 have := nbr_len l
 rw [List.length_append]
 split <;> simp <;> omega
theorem vps_sz (l : List Prm) (b : List UInt8) (h : SzP l) (hb : b.length ≤ 2097152) : SzP (vps l b) := by
 intro p hp
 unfold vps at hp
 rcases List.mem_append.1 hp with hp | hp
 ·exact h p (List.mem_filter.1 hp).1
 ·split at hp
  ·cases hp
  ·rw [List.mem_singleton.1 hp]; exact ⟨by simp [brnN], hb⟩
theorem dec_eq : ∀ n : Nat, Lib.decDigits n = decL n := by
 intro n
 induction n using Nat.strongRecOn with
 | _ n ih =>
   by_cases h : n < 10
   ·rw [Lib.decDigits, dif_pos h, decL_lt n h]
   ·rw [Lib.decDigits, dif_neg h, decL_ge n h, ih (n / 10) (by omega)]
theorem itoa_dec (po : Int) (h : 0 ≤ po) : Lib.itoa po = decL po.toNat := by
 unfold Lib.itoa
 rw [if_neg (by omega), dec_eq]
theorem cat5 (a b c d e f : List UInt8) : Txt a ++ Txt b ++ Txt c ++ Txt d ++ Txt e ++ Txt f = Txt (a ++ b ++ c ++ d ++ e ++ f) := by simp only [cat_txt]
set_option maxRecDepth 100000 in
set_option maxHeartbeats 1000000 in
theorem viaParams_any (T H B : ByteArray) (po : Int) (A : Option Addr) (n c : Nat) (w : World) : Calls Tryz.prog 87 #[.agg #[.string T, .string H, .int .i64 po, .string B, .slice A n c]] w fun e w' =>
  e = .returned (.func (.func 160) #[] #[.pointer (some ⟨w.heap.size, 0, none⟩)]) ∧ w' = w.alloc (.cells #[.string T, .string H, .int .i64 po, .string B, .slice A n c] 33) := by
 go_enter Tryz.func87, Tryz.ntmps87
 go_wp2_with fail
 go_ret
 exact ⟨rfl, rfl⟩
set_option maxRecDepth 100000 in
set_option maxHeartbeats 8000000 in
theorem printVia_any (B : Nat) (t h b : List UInt8) (po : Int) (A : Option Addr) (c : Nat) (l : List Prm) (w : World) (hP : PmIn B w (.slice A l.length c) l) (hB : B ≤ w.heap.size) (ht : t.length ≤ 1048576) (hh : h.length ≤ 2097152) (hb : b.length ≤ 1048576) (hz : SzP l) (hl : l.length ≤ 1048577) (hp0 : -9223372036854775808 ≤ po) (hp1 : po ≤ 9223372036854775807) (E : Env w) :
  Calls Tryz.prog 22 #[.agg #[.string (Txt t), .string (Txt h), .int .i64 po, .string (Txt b), .slice A l.length c]] w (PrK (pviO t h b po l) w) := by
 obtain ⟨w0, hw0⟩ : ∃ x, w.alloc (.cells #[.string (Txt t), .string (Txt h), .int .i64 po, .string (Txt b), .slice A l.length c] 33) = x := ⟨_, rfl⟩
 have B0 := Lib.hid (show Blk w0 w.heap.size 33 #[.string (Txt t), .string (Txt h), .int .i64 po, .string (Txt b), .slice A l.length c] from by rw [← hw0]; exact Blk.new w _ _)
 have k0 : Kp [] w w0 := by rw [← hw0]; exact (Kp.refl _ _).alloc _
 have K0 := Lib.hid k0
 have P0 := Lib.hid ((hP.kp k0 hB (by simp)).more (Nat.le_trans hB k0.size))
 have HZ := Lib.hid (vps_sz l b hz (by omega))
 have HVl := Lib.hid (vps_len l b)
 have HE := Lib.hid E
 have HH := Lib.hid (by have h := Host_any (Txt h) w0 (by rw [txt_size]; omega) (E.kp k0 (by simp)); rw [txt_list] at h; exact h)
 obtain ⟨T, hT⟩ : ∃ T, tokB t = T := ⟨_, rfl⟩
 have HTk := Lib.hid (fun wz => tokK t T hT (by omega) wz)
 have HTb := Lib.hid hT
 clear k0 hP hz E hT
 go_enter Tryz.func22, Tryz.ntmps22
 have a1 := B0.out.cell 1
 go_wp2_with fail
 refine HH.out.mono ?_
 rintro e w1 ⟨rfl, hB1⟩
 have hK1 := (Kp.refl [] w0).below hB1
 have K1 := Lib.hid (K0.out.trans hK1)
 have B1 := Lib.hid (B0.out.kp hK1 (by simp))
 have P1 := Lib.hid (P0.out.grow hK1 (by intro y hy; cases hy))
 clear hB1 hK1 a1 HH
 have a0 := B1.out.cell 0
 have a2 := B1.out.cell 2
 obtain ⟨o, ho⟩ : ∃ o, hostO h = o := ⟨_, rfl⟩
 rw [ho]
 cases o with
 | none =>
   have HR := Lib.hid (pvi_host (t := t) (b := b) (po := po) (l := l) ho)
   clear ho
   simp only [Option.getD_none, Option.isSome_none]
   go_wp2_with fail
   go_ret2
   exact PrK.none HR.out K1.out
 | some x =>
   have hol := hostO_len h x ho
   have HHo := Lib.hid ho
   clear ho
   simp only [Option.getD_some, Option.isSome_some]
   cases T
   ·have HR := Lib.hid (pvi_bad (t := t) (h := h) (b := b) (po := po) (l := l) (by rw [HTb.out]; simp))
    go_wp2_with fail
    refine (HTk.out _).mono ?_
    rintro e w2 ⟨rfl, hK2⟩
    have K2 := Lib.hid (K1.out.trans hK2)
    clear hK2 a0 a2
    go_wp2_with fail
    go_ret2
    exact PrK.none HR.out K2.out
   ·go_wp2_with fail
    refine (HTk.out _).mono ?_
    rintro e w2 ⟨rfl, hK2⟩
    have K2 := Lib.hid (K1.out.trans hK2)
    have B2 := Lib.hid (B1.out.kp hK2 (by simp))
    have P2 := Lib.hid (P1.out.grow hK2 (by intro y hy; cases hy))
    clear hK2 a0 a2
    have a2 := B2.out.cell 2
    by_cases hlo : po < 0
    ·have HR := Lib.hid (pvi_bad (t := t) (h := h) (b := b) (po := po) (l := l) (by omega))
     go_wp2_with fail
     go_ret2
     exact PrK.none HR.out K2.out
    by_cases hhi : 65535 < po
    ·have HR := Lib.hid (pvi_bad (t := t) (h := h) (b := b) (po := po) (l := l) (by omega))
     go_wp2_with fail
     go_ret2
     exact PrK.none HR.out K2.out
    have HC := Lib.hid (show tokB t = true ∧ 0 ≤ po ∧ po ≤ 65535 from ⟨HTb.out, by omega, by omega⟩)
    have a0 := B2.out.cell 0
    have a1 := B2.out.cell 1
    have a3 := B2.out.cell 3
    have a4 := B2.out.cell 4
    obtain ⟨w3, hw3⟩ : ∃ x, w2.alloc (.cells #[.string (Txt t), .string (Txt h), .int .i64 po, .string (Txt b), .slice A l.length c] 33) = x := ⟨_, rfl⟩
    have k3 : Kp [] w2 w3 := by rw [← hw3]; exact (Kp.refl _ _).alloc _
    have y3 : Blk w3 w2.heap.size 33 #[.string (Txt t), .string (Txt h), .int .i64 po, .string (Txt b), .slice A l.length c] := by rw [← hw3]; exact Blk.new w2 _ _
    have hP3 := P2.out.kp k3 (Nat.le_refl _) (by simp)
    have HV := Lib.hid (by have h := viaParams_any (Txt t) (Txt h) (Txt b) po A l.length c w2; rw [hw3] at h; exact h)
    have hvl := HVl.out
    have HS := Lib.hid (hsorted_any 160 #[.pointer (some ⟨w2.heap.size, 0, none⟩)] (vps l b) (by omega) w3
     (enters_of Tryz.func160 (by kernel_rfl) rfl)
     (vpars_stops w2.heap.size w3.heap.size w2.heap.size _ l b (by omega) (by omega) w3 y3.lt (Nat.le_refl _) (by simpa using y3.cell 3) (by simpa using y3.cell 4) hP3 k3.size))
    have K3 := Lib.hid (K2.out.trans k3)
    have B3 := Lib.hid (B2.out.kp k3 (by simp))
    clear k3 y3 hP3 hw3
    go_wp2_with fail
    refine HV.out.mono ?_
    rintro e wx ⟨rfl, rfl⟩
    clear a0 a1 a2 a3 a4
    go_wp2_with fail
    refine HS.out.mono ?_
    rintro e w4 ⟨v4, l', rfl, h1, h2, h3, h4⟩
    obtain ⟨A4, c4, rfl⟩ := h1.form
    have hll : l'.length ≤ 2097152 := by rw [h2.length_eq]; omega
    have HO := Lib.hid (ppO_sort (vps l b) l' h2 h3)
    have Z4 := Lib.hid (szP_perm HZ.out h2)
    have P4 := Lib.hid h1
    have B4 := Lib.hid (B3.out.kp h4 (by simp))
    have K4 := Lib.hid (K3.out.trans h4)
    clear h1 h2 h3 h4 hvl
    go_wp2_with fail
    refine (printParams_any _ _ l' _ P4.out (Nat.le_refl _) Z4.out hll (HE.out.kp K4.out (by simp))).mono ?_
    rintro e w5 ⟨rfl, hB5⟩
    have hK5 := (Kp.refl [] w4).below hB5
    have K5 := Lib.hid (K4.out.trans hK5)
    have B5 := Lib.hid (B4.out.kp hK5 (by simp))
    clear hB5 hK5
    rw [HO.out]
    have a0 := B5.out.cell 0
    have a2 := B5.out.cell 2
    obtain ⟨q, hq⟩ : ∃ q, ppO (srt (vps l b)) = q := ⟨_, rfl⟩
    rw [hq]
    cases q with
    | none =>
      have HR := Lib.hid (pvi_list (t := t) (h := h) (po := po) hq)
      clear hq
      simp only [Option.getD_none, Option.isSome_none, Bool.false_eq_true, if_false]
      go_wp2_with fail
      go_ret2
      exact PrK.none HR.out K5.out
    | some p =>
      have HR := Lib.hid (pvi_some HHo.out HC.out hq)
      have hpl := ppO_len (srt (vps l b)) (szP_perm HZ.out (srt_perm _)) p hq
      have HU := Lib.hid (fun wz => (by have h := each_up (Txt t) wz (by rw [txt_size]; omega); rw [txt_list] at h; exact h : Calls Tryz.prog 89 #[.string (Txt t), .func (.func 90) #[] #[]] wz (RetNew (uprL t) wz)))
      clear hq
      simp only [Option.getD_some, Option.isSome_some, if_true]
      have s0 : (uprL t).length ≤ 1048576 := by simpa [uprL] using ht
      have s1 : (Txt (uprL t)).size ≤ 1048576 := by rw [txt_size]; simpa [uprL] using ht
      have s2 : (Txt x).size ≤ 2097300 := by rw [txt_size]; omega
      have s3 : (Txt p).size ≤ 16 * 6291460 := by rw [txt_size]; exact hpl
      by_cases hz0 : po = 0
      ·have HPo := Lib.hid (by unfold porL; rw [if_pos hz0] : porL po = [])
       subst hz0
       go_wp2_with fail
       refine (HU.out _).mono ?_
       rintro e w6 ⟨rfl, hB6⟩
       have K6 := Lib.hid (K5.out.below hB6)
       clear hB6 a0 a2
       go_wp2_with fail
       go_ret2
       refine PrK.some HR.out ?_ K6.out
       rw [HPo.out]
       exact cat5 protoL (uprL t) [32] x [] p
      ·have HPo := Lib.hid (by unfold porL; rw [if_neg hz0] : porL po = 58 :: Lib.itoa po)
       have HI := Lib.hid (fun wz (h : Env wz) => itoa_k po (by omega) (by omega) wz h)
       have s4 : (Txt (Lib.itoa po)).size ≤ 21 := by rw [txt_size]; rw [itoa_dec po (by omega)]; exact Nat.le_trans (decL_len _ (by omega)) (by omega)
       have hz1 : (po == (0 : Int)) = false := beq_eq_false_iff_ne.2 hz0
       go_wp2_with fail
       refine (HI.out _ (HE.out.kp K5.out (by simp))).mono ?_
       rintro e w6 ⟨rfl, hK6⟩
       have K6 := Lib.hid (K5.out.trans hK6)
       have B6 := Lib.hid (B5.out.kp hK6 (by simp))
       clear hK6 a0 a2
       have a0 := B6.out.cell 0
       go_wp2_with fail
       refine (HU.out _).mono ?_
       rintro e w7 ⟨rfl, hB7⟩
       have K7 := Lib.hid (K6.out.below hB7)
       clear hB7 a0
       go_wp2_with fail
       go_ret2
       refine PrK.some HR.out ?_ K7.out
       rw [HPo.out]
       exact (congrArg (fun z => Txt protoL ++ Txt (uprL t) ++ Txt [32] ++ Txt x ++ z ++ Txt p) (cat_txt [58] (Lib.itoa po))).trans (cat5 protoL (uprL t) [32] x (58 :: Lib.itoa po) p)
end Ad
end Go.Proofs.YtmmjfofdnpafkaaGreatDoor
namespace Go.Proofs.YtmmjfofdnpafkaaGreatDoor
namespace Ad
open Go.RowKit Lx
theorem txt_at (l : List UInt8) (j : Nat) : (Txt l).data[j]! = l[j]! := by
 show l.toArray[j]! = l[j]!
 simp
theorem lastIx_no (l : List UInt8) (c : Int) (h : ∀ d ∈ l, (d.toNat : Int) ≠ c) : Lib.lastIndexByte (Txt l) c = -1 := by
 rcases Lib.lastIndexByte_spec (Txt l) c with ⟨h1, _⟩ | ⟨i, hi, _, h2, _⟩
 ·exact h1
 ·rw [txt_size] at hi
  rw [txt_at, getElem!_pos l i hi] at h2
  exact absurd h2 (h _ (List.getElem_mem hi))
theorem lastIx_lt (l : List UInt8) (c : Int) : Lib.lastIndexByte (Txt l) c < l.length := by
 rcases Lib.lastIndexByte_spec (Txt l) c with ⟨h1, _⟩ | ⟨i, hi, h1, _⟩
 ·rw [h1]; omega
 ·rw [txt_size] at hi; rw [h1]; omega
theorem lastIx_at (a b : List UInt8) (x : UInt8) (h : ∀ d ∈ b, d ≠ x) : Lib.lastIndexByte (Txt (a ++ x :: b)) x.toNat = a.length := by
 rcases Lib.lastIndexByte_spec (Txt (a ++ x :: b)) x.toNat with ⟨_, h2⟩ | ⟨i, hi, h1, h2, h3⟩
 ·have h4 := h2 a.length (by rw [txt_size]; simp)
  rw [txt_at, getElem!_pos _ _ (by simp)] at h4
  simp at h4
 ·rw [txt_size] at hi
  rw [txt_at, getElem!_pos (a ++ x :: b) i hi] at h2
  rw [h1]
  rcases Nat.lt_trichotomy i a.length with hlt | heq | hgt
  ·have h4 := h3 a.length hlt (by rw [txt_size]; simp)
   rw [txt_at, getElem!_pos _ _ (by simp)] at h4
   simp at h4
  ·rw [heq]
  ·rw [List.getElem_append_right (by omega)] at h2
   obtain ⟨k, hk⟩ : ∃ k, i - a.length = k + 1 := ⟨i - a.length - 1, by omega⟩
   have hb : k < b.length := by simp at hi; omega
   have h5 : b[k] ∈ b := List.getElem_mem hb
   simp only [hk, List.getElem_cons_succ] at h2
   exact absurd (UInt8.toNat_inj.1 (by omega)) (h _ h5)
theorem upr_tok (c : UInt8) (h : tokI c.toNat = true) : tokI (uprB c).toNat = true := by
 have key : ∀ n : Fin 256, tokI n.val = true → tokI (uprB n.val.toUInt8).toNat = true := by decide +kernel
 have := key ⟨c.toNat, c.toNat_lt⟩ h
 simpa using this
theorem upr_idem (c : UInt8) : uprB (uprB c) = uprB c := by
 have key : ∀ n : Fin 256, uprB (uprB n.val.toUInt8) = uprB n.val.toUInt8 := by decide +kernel
 have := key ⟨c.toNat, c.toNat_lt⟩
 simpa using this
theorem upr_low (c : UInt8) : lowB (uprB c) = lowB c := by
 have key : ∀ n : Fin 256, lowB (uprB n.val.toUInt8) = lowB n.val.toUInt8 := by decide +kernel
 have := key ⟨c.toNat, c.toNat_lt⟩
 simpa using this
theorem uprL_idem (l : List UInt8) : uprL (uprL l) = uprL l := by unfold uprL; rw [List.map_map]; exact List.map_congr_left fun c _ => upr_idem c
theorem uprL_low (l : List UInt8) : lowL (uprL l) = lowL l := by unfold lowL uprL; rw [List.map_map]; exact List.map_congr_left fun c _ => upr_low c
theorem uprL_tok (l : List UInt8) (h : tokB l = true) : tokB (uprL l) = true := by
 obtain ⟨h1, h2⟩ := (tokB_iff l).1 h
 refine (tokB_iff _).2 ⟨?_, ?_⟩
 ·intro h3
  unfold uprL at h3
  exact h1 (List.map_eq_nil_iff.1 h3)
 ·intro c hc
  unfold uprL at hc
  obtain ⟨d, hd, rfl⟩ := List.mem_map.1 hc
  exact upr_tok d (h2 d hd)
theorem host_form (h : List UInt8) (hh : hostO h = some h) : (∃ c m, h = c :: m ∧ bb c = false) ∧ NEnd h ∧ (∀ d ∈ h, endV d.toNat = false) ∧ hasP h = false := by
 have hx : ∀ n : Fin 256, hexC n.val = true → endV n.val = false ∧ bb n.val.toUInt8 = false := by decide +kernel
 have hl : ∀ n : Fin 256, (lblC n.val = true ∨ n.val = 46) → endV n.val = false ∧ bb n.val.toUInt8 = false ∧ n.val ≠ 58 ∧ n.val ≠ 93 := by decide +kernel
 rcases host_kinds h hh with ⟨y, rfl, hy⟩ | ⟨h1, _, h3⟩
 ·refine ⟨⟨91, y ++ [93], by simp, by decide⟩, ⟨[91] ++ y, 93, rfl, by decide⟩, ?_, ?_⟩
  ·intro d hd
   simp only [List.mem_append, List.mem_singleton] at hd
   rcases hd with (rfl | hd) | rfl
   ·decide
   ·rcases hy d hd with h | rfl
    ·exact (hx ⟨d.toNat, d.toNat_lt⟩ h).1
    ·decide
   ·decide
  ·have h93 : Lib.lastIndexByte (Txt ([91] ++ y ++ [93])) 93 = (([91] ++ y).length : Nat) := lastIx_at ([91] ++ y) [] 93 (by simp)
   have h58 := lastIx_lt ([91] ++ y ++ [93]) 58
   unfold hasP
   have e : (([91] ++ y ++ [93] : List UInt8)).length = ([91] ++ y).length + 1 := by simp
   rw [h93]
   rw [e] at h58
   exact decide_eq_false (by omega)
 ·have hk : ∀ d ∈ h, endV d.toNat = false ∧ bb d = false ∧ d.toNat ≠ 58 ∧ d.toNat ≠ 93 := by
   intro d hd
   have := hl ⟨d.toNat, d.toNat_lt⟩ (by
    rcases h3 d hd with h | h
    ·exact .inl h
    ·exact .inr (by rw [h]; rfl))
   simpa using this
  refine ⟨?_, ?_, fun d hd => (hk d hd).1, ?_⟩
  ·cases h with
   | nil => exact absurd rfl h1
   | cons c m => exact ⟨c, m, rfl, (hk c (by simp)).2.1⟩
  ·rcases List.eq_nil_or_concat h with rfl | ⟨u, a, rfl⟩
   ·exact absurd rfl h1
   ·rw [List.concat_eq_append] at hk ⊢
    exact ⟨u, a, rfl, (hk a (by simp)).2.1⟩
  ·unfold hasP
   rw [lastIx_no h 93 (fun d hd => by have := (hk d hd).2.2.2; omega), lastIx_no h 58 (fun d hd => by have := (hk d hd).2.2.1; omega)]
   rfl
theorem plR_print (h : List UInt8) (po : Int) (hh : hostO h = some h) (h0 : 0 ≤ po) (h1 : po ≤ 65535) : plR (h ++ porL po) = (h, po, 0) := by
 unfold porL
 by_cases hz : po = 0
 ·rw [if_pos hz, List.append_nil]
  obtain ⟨_, _, _, hp⟩ := host_form h hh
  unfold plR nameP
  rw [hp, if_neg (by decide), hh]
  unfold plO
  dsimp only
  rw [hp, if_neg (by decide), hz]
 ·rw [if_neg hz, itoa_dec po h0]
  obtain ⟨n, hn⟩ := Int.eq_ofNat_of_zero_le h0
  subst hn
  rw [Int.toNat_natCast]
  have hch : ∀ d ∈ decL n, d ≠ 58 ∧ d ≠ 93 := by
   intro d hd
   have := decL_chars n d hd
   unfold digitI at this
   simp only [Bool.and_eq_true, decide_eq_true_eq] at this
   constructor <;> (intro e; rw [e] at this; exact absurd this (by decide))
  have h58 : Lib.lastIndexByte (Txt (h ++ 58 :: decL n)) 58 = (h.length : Nat) := lastIx_at h (decL n) 58 (fun d hd => (hch d hd).1)
  have h93 : Lib.lastIndexByte (Txt (h ++ 58 :: decL n)) 93 < (h.length : Nat) := by
   rcases Lib.lastIndexByte_spec (Txt (h ++ 58 :: decL n)) 93 with ⟨h1, _⟩ | ⟨i, hi, h1, h2, _⟩
   ·rw [h1]; omega
   ·rw [h1]
    rw [txt_size] at hi
    rw [txt_at, getElem!_pos (h ++ 58 :: decL n) i hi] at h2
    rcases Nat.lt_or_ge i h.length with h3 | h3
    ·omega
    ·rw [List.getElem_append_right h3] at h2
     rcases Nat.eq_or_lt_of_le h3 with h4 | h4
     ·simp only [← h4, Nat.sub_self, List.getElem_cons_zero] at h2
      exact absurd h2 (by decide)
     ·obtain ⟨k, hk⟩ : ∃ k, i - h.length = k + 1 := ⟨i - h.length - 1, by omega⟩
      have hb : k < (decL n).length := by simp at hi; omega
      simp only [hk, List.getElem_cons_succ] at h2
      exact absurd (UInt8.toNat_inj.1 (show ((decL n)[k]).toNat = (93 : UInt8).toNat from Int.ofNat.inj h2)) (hch _ (List.getElem_mem hb)).2
  have hp : hasP (h ++ 58 :: decL n) = true := by
   unfold hasP
   rw [h58]
   exact decide_eq_true h93
  have hc : colP (h ++ 58 :: decL n) = h.length := by unfold colP; rw [h58, Int.toNat_natCast]
  obtain ⟨e1, e2⟩ := dec_num n (by omega)
  unfold plR nameP
  rw [hp, if_pos rfl, hc, List.take_left' rfl, hh]
  unfold plO
  dsimp only
  rw [hp, if_pos rfl, hc]
  have hd : (h ++ 58 :: decL n).drop (h.length + 1) = decL n := by
   rw [List.drop_append, List.drop_eq_nil_of_le (by omega), show h.length + 1 - h.length = 1 by omega]; rfl
  rw [hd, e1, e2]
  unfold plN
  rw [if_neg (by decide), if_neg (by omega)]
theorem vps_br (l : List Prm) (b : List UInt8) : getV (srt (vps l b)) brN = b ∨ ppO (srt (vps l b)) = none := by
 cases hp : ppO (srt (vps l b)) with
 | none => exact .inr rfl
 | some x =>
   refine .inl ?_
   obtain ⟨_, hn, _⟩ := ppO_some _ _ hp
   have ha := ppF_all _ [] x hp
   have hlow : ∀ p ∈ srt (vps l b), p.1 = lowL p.1 := fun q hq => by
    have h := ha q hq
    unfold ppB at h
    simp only [Bool.and_eq_true, decide_eq_true_eq] at h
    exact h.1.1.2
   by_cases hb : b = []
   ·have hno : fndI (srt (vps l b)) brN = -1 := by
     refine fndI_none _ _ fun j hj => ?_
     rw [getElem!_pos _ j hj]
     have hm : (srt (vps l b))[j] ∈ srt (vps l b) := List.getElem_mem hj
     obtain ⟨q, hq⟩ : ∃ q, (srt (vps l b))[j] = q := ⟨_, rfl⟩
     rw [hq] at hm ⊢
     have hm2 := (srt_perm (vps l b)).mem_iff.1 hm
     unfold vps at hm2
     rw [if_pos hb, List.append_nil] at hm2
     have h3 := (List.mem_filter.1 hm2).2
     rw [← hlow _ hm]
     rw [show lowL brN = brnN by decide]
     simpa using h3
    unfold getV
    rw [hno, if_pos (by decide), hb]
   ·exact (get_uni (srt (vps l b)) brN (brnN, b, true) hn hlow ((srt_perm _).mem_iff.2 (by unfold vps; rw [if_neg hb]; simp)) rfl).1
theorem via_back (t h b : List UInt8) (po : Int) (l : List Prm) (s : List UInt8) (hs : pviO t h b po l = some s) : ∃ ho p, hostO h = some ho ∧ ppO (srt (vps l b)) = some p ∧ s = protoL ++ uprL t ++ [32] ++ ho ++ porL po ++ p ∧ tokB t = true ∧ 0 ≤ po ∧ po ≤ 65535 ∧ trS s = s ∧
  cutT s = (uprL t, ho ++ porL po ++ p, true) ∧ endP endV (ho ++ porL po ++ p) 0 = (ho ++ porL po).length ∧ viaR s = (⟨uprL t, ho, po, b, srt (vps l b)⟩, 0) := by
 unfold pviO at hs
 cases hh : hostO h with
 | none => rw [hh] at hs; cases hs
 | some ho =>
   rw [hh] at hs
   dsimp only at hs
   split at hs
   rotate_left
   ·cases hs
   rename_i hc
   obtain ⟨hc1, hc2, hc3⟩ := hc
   cases hp : ppO (srt (vps l b)) with
   | none => rw [hp] at hs; cases hs
   | some p =>
     rw [hp] at hs
     injection hs with hs
     have hi := hostO_idem h ho hh
     obtain ⟨⟨c0, m0, hm0, hc0⟩, hend, hev, _⟩ := host_form ho hi
     have hU := uprL_tok t hc1
     have hps := ppF_starts _ [] p hp
     have hpe : NEnd (ho ++ porL po) := by
      unfold porL
      split
      ·rw [List.append_nil]; exact hend
      ·rw [itoa_dec po hc2]
       exact ((dec_end _).pre [58]).pre ho
     have hT : trS s = s := by
      have hn : NEnd s := by
       rw [← hs]
       rcases ppO_end _ _ hp with rfl | hn
       ·rw [List.append_nil, List.append_assoc]
        exact hpe.pre _
       ·exact hn.pre _
      obtain ⟨n, d, h2, hd⟩ := hn
      exact trS_self s (protoL.tail ++ (uprL t ++ ([32] ++ (ho ++ (porL po ++ p))))) n 83 d (by rw [← hs]; simp [protoL]) h2 (by decide) hd
     have hpv : ∀ d ∈ ho ++ porL po, endV d.toNat = false := by
      intro d hd
      rcases List.mem_append.1 hd with hd | hd
      ·exact hev d hd
      ·unfold porL at hd
       split at hd
       ·cases hd
       ·rw [itoa_dec po hc2] at hd
        rcases List.mem_cons.1 hd with rfl | hd
        ·decide
        ·have := decL_chars _ d hd
         unfold digitI at this
         simp only [Bool.and_eq_true, decide_eq_true_eq] at this
         unfold endV
         simp only [Bool.or_eq_false_iff, beq_eq_false_iff_ne]
         omega
     have hE : endP endV (ho ++ porL po ++ p) 0 = (ho ++ porL po).length := by
      have := endP_app endV [] (ho ++ porL po) p hpv (hps.of fun c hc => by rw [beq_iff_eq] at hc; subst hc; decide)
      simpa using this
     have hr : s = protoL ++ (uprL t ++ (32 :: (ho ++ porL po ++ p))) := by rw [← hs]; simp
     have hC : cutT s = (uprL t, ho ++ porL po ++ p, true) := by
      have h8 : s.take 8 = protoL := by rw [hr]; rfl
      have h8d : s.drop 8 = uprL t ++ (32 :: (ho ++ porL po ++ p)) := by rw [hr]; rfl
      have hlen : 8 ≤ s.length := by rw [hr]; simp [protoL]
      have h1 := tokE_app [] (uprL t) (32 :: (ho ++ porL po ++ p)) ((tokB_iff _).1 hU).2 (.inr ⟨32, _, rfl, by decide⟩)
      rw [List.nil_append, List.length_nil, Nat.zero_add] at h1
      have h2 : blkE (uprL t ++ (32 :: (ho ++ porL po ++ p))) (uprL t).length = (uprL t).length + 1 := by
       unfold blkE
       rw [List.drop_left' rfl, runL, if_pos (by decide), hm0]
       have : runL blankI (c0 :: m0 ++ porL po ++ p) = 0 := by
        show runL blankI (c0 :: (m0 ++ porL po ++ p)) = 0
        rw [runL, if_neg (by rw [show blankI c0.toNat = false from hc0]; decide)]
       rw [this]
      have hne : (uprL t).length ≠ 0 := fun h => ((tokB_iff _).1 hU).1 (List.eq_nil_of_length_eq_zero h)
      unfold cutT
      rw [h8, decide_eq_true hlen, show (uprL protoL == protoL) = true by decide, h8d, if_pos (by rfl)]
      unfold cutV
      rw [h1, h2, decide_eq_false hne, decide_eq_false (by omega), if_neg (by decide), List.take_left' rfl, uprL_idem]
      have : (uprL t ++ 32 :: (ho ++ porL po ++ p)).drop ((uprL t).length + 1) = ho ++ porL po ++ p := by
       rw [List.drop_append, List.drop_eq_nil_of_le (by omega), show (uprL t).length + 1 - (uprL t).length = 1 by omega]
       rfl
      rw [this]
     refine ⟨ho, p, rfl, rfl, hs.symm, hc1, hc2, hc3, hT, hC, hE, ?_⟩
     have hb : getV (srt (vps l b)) brN = b := (vps_br l b).resolve_right (by rw [hp]; simp)
     unfold viaR
     rw [hT, hC]
     unfold viT
     dsimp only
     rw [if_pos rfl, hE, List.take_left' rfl, List.drop_left' rfl, plR_print ho po hi hc2 hc3]
     unfold viH
     dsimp only
     rw [if_neg (by decide), parR_print _ p hp]
     unfold viP
     dsimp only
     rw [if_neg (by decide), hb]
end Ad
end Go.Proofs.YtmmjfofdnpafkaaGreatDoor
