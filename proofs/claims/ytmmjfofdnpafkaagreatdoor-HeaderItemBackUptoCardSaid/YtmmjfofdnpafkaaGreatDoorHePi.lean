/- Contract of header's PrintItem. A text has at most 2^21 bytes, a list 2^21 parameters. -/
import Derived.Test.YtmmjfofdnpafkaaGreatDoorHeSc
import Derived.Test.YtmmjfofdnpafkaaGreatDoorHeR
import Derived.Test.YtmmjfofdnpafkaaGreatDoorAdPx
namespace Go.Proofs.YtmmjfofdnpafkaaGreatDoor
namespace Ad
open Go.RowKit Lx

/-- PrintItem. -/
def pitO (v : List UInt8) (l : List Prm) : Option (List UInt8) := match ppO (srt l) with | some p => if itmB v = true then some (v ++ p) else none | none => none
theorem pit_none {v : List UInt8} {l : List Prm} (h : ppO (srt l) = none) : pitO v l = none := by unfold pitO; rw [h]
theorem pit_bad {v : List UInt8} {l : List Prm} (p : List UInt8) (h : ppO (srt l) = some p) (hi : itmB v = false) : pitO v l = none := by unfold pitO; rw [h, hi]; rfl
theorem pit_some {v : List UInt8} {l : List Prm} {p : List UInt8} (h : ppO (srt l) = some p) (hi : itmB v = true) : pitO v l = some (v ++ p) := by unfold pitO; rw [h, hi]; rfl
theorem szP_perm {l l' : List Prm} (h : SzP l) (p : l'.Perm l) : SzP l' := fun q hq => h q (p.mem_iff.1 hq)
set_option maxRecDepth 100000 in
set_option maxHeartbeats 4000000 in
theorem printItem_any (B : Nat) (v : List UInt8) (A : Option Addr) (c : Nat) (l : List Prm) (w : World) (hP : PmIn B w (.slice A l.length c) l) (hB : B ≤ w.heap.size) (hv : v.length ≤ 2097152) (hz : SzP l) (hl : l.length ≤ 2097152) (E : Env w) :
    Calls Tryz.prog 45 #[.agg #[.string (Txt v), .slice A l.length c]] w (PrK (pitO v l) w) := by
  obtain ⟨w0, hw0⟩ : ∃ x, w.alloc (.cells #[.string (Txt v), .slice A l.length c] 59) = x := ⟨_, rfl⟩
  have B0 := Lib.hid (show Blk w0 w.heap.size 59 #[.string (Txt v), .slice A l.length c] from by rw [← hw0]; exact Blk.new w _ _)
  have k0 : Kp [] w w0 := by rw [← hw0]; exact (Kp.refl _ _).alloc _
  have K0 := Lib.hid k0
  obtain ⟨w1, hw1⟩ : ∃ x, w0.alloc (.cells #[.slice A l.length c] 22) = x := ⟨_, rfl⟩
  have B1 := show Blk w1 w0.heap.size 22 #[.slice A l.length c] from by rw [← hw1]; exact Blk.new w0 _ _
  have k1 : Kp [] w0 w1 := by rw [← hw1]; exact (Kp.refl _ _).alloc _
  have K1 := Lib.hid (k0.trans k1)
  have K01 := Lib.hid k1
  have hP1 : PmIn B w1 (.slice A l.length c) l := hP.kp (k0.trans k1) hB (by simp)
  have hsz := k1.size
  have hsz0 := k0.size
  have HS := Lib.hid (hsorted_any 176 #[.pointer (some ⟨w0.heap.size, 0, none⟩)] l (by omega) w1
    (enters_of Tryz.func176 (by kernel_rfl) rfl)
    (pvals_stops w0.heap.size w1.heap.size B _ l (by omega) w1 B1.lt (Nat.le_refl _) (by simpa using B1.cell 0) hP1 (by omega)))
  have HV := Lib.hid (by have h := values_any A l.length c w0; rw [hw1] at h; exact h)
  have HZ := Lib.hid hz
  have HE := Lib.hid E
  have c0 := B0.out.cell 1
  clear hP hP1 B1 k0 k1 hz E hsz hsz0 hw1
  go_enter Tryz.func45, Tryz.ntmps45
  go_wp2_with fail
  refine HV.out.mono ?_
  rintro e wx ⟨rfl, rfl⟩
  clear c0
  go_wp2_with fail
  refine HS.out.mono ?_
  rintro e w2 ⟨v2, l', rfl, h1, h2, h3, h4⟩
  obtain ⟨A2, c2, rfl⟩ := h1.form
  have hll : l'.length ≤ 2097152 := by rw [h2.length_eq]; exact hl
  have HO := Lib.hid (ppO_sort l l' h2 h3)
  have Z2 := Lib.hid (szP_perm HZ.out h2)
  have P2 := Lib.hid h1
  have B2 := Lib.hid (B0.out.kp (K01.out.trans h4) (by simp))
  have K2 := Lib.hid (K1.out.trans h4)
  clear h1 h2 h3 h4
  go_wp2_with fail
  refine (printParams_any _ _ l' _ P2.out (Nat.le_refl _) Z2.out hll (HE.out.kp K2.out (by simp))).mono ?_
  rintro e w3 ⟨rfl, hB3⟩
  have hK3 := (Kp.refl [] w2).below hB3
  have K3 := Lib.hid (K2.out.trans hK3)
  have B3 := Lib.hid (B2.out.kp hK3 (by simp))
  clear hB3 hK3
  rw [HO.out]
  have e0 := B3.out.cell 0
  obtain ⟨o, ho⟩ : ∃ o, ppO (srt l) = o := ⟨_, rfl⟩
  rw [ho]
  cases o with
  | none =>
    have HR := Lib.hid (pit_none (v := v) ho)
    clear ho
    simp only [Option.getD_none, Option.isSome_none, Bool.false_eq_true, if_false]
    go_wp2_with fail
    go_ret2
    exact PrK.none HR.out K3.out
  | some p =>
    simp only [Option.getD_some, Option.isSome_some, if_true]
    have HI := Lib.hid (fun wz (h : Env wz) => isItem_any v wz hv h)
    cases hi : itmB v
    · have HR := Lib.hid (pit_bad p ho hi)
      have HIb := Lib.hid hi
      clear ho hi
      go_wp2_with fail
      refine (HI.out _ (HE.out.kp K3.out (by simp))).mono ?_
      rintro e w4 ⟨rfl, hK4⟩
      rw [HIb.out]
      have K4 := Lib.hid (K3.out.trans hK4)
      clear hK4 e0
      go_wp2_with fail
      go_ret2
      exact PrK.none HR.out K4.out
    · have HR := Lib.hid (pit_some ho hi)
      have HIb := Lib.hid hi
      have HL := Lib.hid (ppO_len (srt l) (szP_perm HZ.out (srt_perm l)) p ho)
      clear ho hi
      go_wp2_with fail
      refine (HI.out _ (HE.out.kp K3.out (by simp))).mono ?_
      rintro e w4 ⟨rfl, hK4⟩
      rw [HIb.out]
      have K4 := Lib.hid (K3.out.trans hK4)
      have B4 := Lib.hid (B3.out.kp hK4 (by simp))
      clear hK4 e0
      have e0 := B4.out.cell 0
      have s1 : (Txt v).size ≤ 2097152 := by rw [txt_size]; exact hv
      have s2 : (Txt p).size ≤ 16 * 6291460 := by rw [txt_size]; exact HL.out
      go_wp2_with fail
      go_ret2
      exact PrK.some HR.out (cat_txt v p) K4.out
end Ad
end Go.Proofs.YtmmjfofdnpafkaaGreatDoor
