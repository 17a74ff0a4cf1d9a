/- Contract of the reference's Equal (dialtoneref02), and AddressPrints of package dialtonelaw02: it returns true for every two URIs of moderate size, and nothing that was there is changed. -/
import Derived.Test.YtjkkcoiebnmkcaaGreatDoorAdVi

import Derived.Test.YtjkkcoiebnmkcaaGreatDoorAdRd

namespace Go.Proofs.YtjkkcoiebnmkcaaGreatDoor
namespace Ad
open Go.RowKit Lx

set_option maxRecDepth 100000 in
set_option maxHeartbeats 64000000 in
theorem requal_any (B1 B2 : Nat) (va vb : Value) (u v : Uri) (w : World) (hU : UriIn B1 w va u) (hV : UriIn B2 w vb v) (h1 : B1 ≤ w.heap.size) (h2 : B2 ≤ w.heap.size) (zu : SzU u) (zv : SzU v) (E : Env w) : Calls Tryz.prog 40 #[va, vb] w (BoK (eqU u v) w) := by
  have HE := Lib.hid E
  have HK := Lib.hid (Kp.refl [] w)
  have Zu := Lib.hid zu
  have Zv := Lib.hid zv
  have k1 := zu.params
  have k2 := zu.heads
  have k3 := zv.params
  have k4 := zv.heads
  have hE7 := E.sz
  clear E zu zv
  have HV := Lib.hid (hV.up h2)
  have hu' := hU.up h1
  obtain ⟨vp, vh, rfl, hp, hh⟩ := hU
  obtain ⟨A1_, C1_, rfl⟩ := hp.form
  obtain ⟨D1_, F1_, rfl⟩ := hh.form
  clear hp hh
  obtain ⟨vp, vh, rfl, hp, hh⟩ := hV
  obtain ⟨Av, Cv, rfl⟩ := hp.form
  obtain ⟨Dv, Fv, rfl⟩ := hh.form
  clear hp hh
  obtain ⟨w2_, hw3_⟩ : ∃ wz_, w.alloc (.cells #[.string (Txt u.scheme), .string (Txt u.user), .string (Txt u.host), .int .i64 u.port, .slice A1_ u.params.length C1_, .slice D1_ u.heads.length F1_] 42) = wz_ := ⟨_, rfl⟩
  have hX := UBox.new hu'
  rw [hw3_] at hX
  have hKb : Kp [] w w2_ := by rw [← hw3_]; exact (Kp.refl [] w).alloc _
  have KK4_ := Lib.hid (HK.out.trans hKb)
  have EE5_ := Lib.hid (HE.out.kp hKb (by simp))
  have HX6_ := Lib.hid hX
  clear hX hKb
  clear hu'
  have hvu := HV.out.kpn (show Kp [] w w2_ from KK4_.out)
  obtain ⟨w7_, hw8_⟩ : ∃ wz_, w2_.alloc (.cells #[.string (Txt v.scheme), .string (Txt v.user), .string (Txt v.host), .int .i64 v.port, .slice Av v.params.length Cv, .slice Dv v.heads.length Fv] 42) = wz_ := ⟨_, rfl⟩
  have hX := UBox.new hvu
  rw [hw8_] at hX
  have hKb : Kp [] w2_ w7_ := by rw [← hw8_]; exact (Kp.refl [] w2_).alloc _
  have HX9_ := Lib.hid (HX6_.out.kpn hKb)
  have KK10_ := Lib.hid (KK4_.out.trans hKb)
  have EE11_ := Lib.hid (EE5_.out.kp hKb (by simp))
  clear HX6_ KK4_ EE5_
  have HX12_ := Lib.hid hX
  clear hX hKb
  clear hvu HV
  obtain ⟨on, hon⟩ : ∃ o, normal u = o := ⟨_, rfl⟩
  obtain ⟨om, hom⟩ : ∃ o, normal v = o := ⟨_, rfl⟩
  have hV : eqU u v = eqO on om := by rw [eqU_o, hon, hom]
  have HV := Lib.hid hV
  have Hon := Lib.hid hon
  have Hom := Lib.hid hom
  obtain ⟨z, hz⟩ : ∃ z, nilU = z := ⟨_, rfl⟩
  have Hnil := Lib.hid hz
  clear hV hon hom hz
  cases on with
  | none =>
    cases om with
    | none =>
      have HN := Lib.hid Hon.out
      have HM := Lib.hid Hom.out
      go_enter Tryz.func40, Tryz.ntmps40
      go_upto_region 1 with fail
      obtain ⟨a13_, c13_, d13_, e13_, hc13_, hi13_⟩ := HX9_.out.in
      have b13_x0 := hc13_ 0
      have b13_x1 := hc13_ 1
      have b13_x2 := hc13_ 2
      have b13_x3 := hc13_ 3
      have b13_x4 := hc13_ 4
      have b13_x5 := hc13_ 5
      have In13_ := Lib.hid hi13_
      clear hc13_ hi13_
      go_wp2_with fail
      refine (rNormal_any _ _ u _ In13_.out (Nat.le_refl _) Zu.out).mono ?_
      rw [HN.out]
      rintro e w4 ⟨v, rfl, hu, hB⟩
      simp only [Option.getD_none, Option.isSome_none, Bool.false_eq_true, if_false] at hu ⊢
      rw [Hnil.out] at hu
      have hK := (Kp.refl [] w7_).below hB
      have hu' := hu
      obtain ⟨vp, vh, rfl, hp, hh⟩ := hu
      obtain ⟨A14_, C14_, rfl⟩ := hp.form
      obtain ⟨D14_, F14_, rfl⟩ := hh.form
      have HX15_ := Lib.hid (HX9_.out.kpn hK)
      have HX16_ := Lib.hid (HX12_.out.kpn hK)
      have KK17_ := Lib.hid (KK10_.out.trans hK)
      have EE18_ := Lib.hid (EE11_.out.kp hK (by simp))
      clear HX9_ HX12_ KK10_ EE11_
      clear b13_x0 b13_x1 b13_x2 b13_x3 b13_x4 b13_x5 In13_
      obtain ⟨w19_, hw20_⟩ : ∃ wz_, w4.alloc (.cells #[.string (Txt z.scheme), .string (Txt z.user), .string (Txt z.host), .int .i64 z.port, .slice A14_ z.params.length C14_, .slice D14_ z.heads.length F14_] 42) = wz_ := ⟨_, rfl⟩
      have hX := UBox.new hu'
      rw [hw20_] at hX
      have hKb : Kp [] w4 w19_ := by rw [← hw20_]; exact (Kp.refl [] w4).alloc _
      have HX21_ := Lib.hid (HX15_.out.kpn hKb)
      have HX22_ := Lib.hid (HX16_.out.kpn hKb)
      have KK23_ := Lib.hid (KK17_.out.trans hKb)
      have EE24_ := Lib.hid (EE18_.out.kp hKb (by simp))
      clear HX15_ HX16_ KK17_ EE18_
      have HX25_ := Lib.hid hX
      clear hX hKb
      clear hK hB hp hh hu'
      obtain ⟨a26_, c26_, d26_, e26_, hc26_, hi26_⟩ := HX22_.out.in
      have b26_x0 := hc26_ 0
      have b26_x1 := hc26_ 1
      have b26_x2 := hc26_ 2
      have b26_x3 := hc26_ 3
      have b26_x4 := hc26_ 4
      have b26_x5 := hc26_ 5
      have In26_ := Lib.hid hi26_
      clear hc26_ hi26_
      go_wp2_with fail
      refine (rNormal_any _ _ v _ In26_.out (Nat.le_refl _) Zv.out).mono ?_
      rw [HM.out]
      rintro e w5 ⟨v, rfl, hu, hB⟩
      simp only [Option.getD_none, Option.isSome_none, Bool.false_eq_true, if_false] at hu ⊢
      rw [Hnil.out] at hu
      have hK := (Kp.refl [] w19_).below hB
      have hu' := hu
      obtain ⟨vp, vh, rfl, hp, hh⟩ := hu
      obtain ⟨A27_, C27_, rfl⟩ := hp.form
      obtain ⟨D27_, F27_, rfl⟩ := hh.form
      have HX28_ := Lib.hid (HX21_.out.kpn hK)
      have HX29_ := Lib.hid (HX22_.out.kpn hK)
      have HX30_ := Lib.hid (HX25_.out.kpn hK)
      have KK31_ := Lib.hid (KK23_.out.trans hK)
      have EE32_ := Lib.hid (EE24_.out.kp hK (by simp))
      clear HX21_ HX22_ HX25_ KK23_ EE24_
      clear b26_x0 b26_x1 b26_x2 b26_x3 b26_x4 b26_x5 In26_
      obtain ⟨w33_, hw34_⟩ : ∃ wz_, w5.alloc (.cells #[.string (Txt z.scheme), .string (Txt z.user), .string (Txt z.host), .int .i64 z.port, .slice A27_ z.params.length C27_, .slice D27_ z.heads.length F27_] 42) = wz_ := ⟨_, rfl⟩
      have hX := UBox.new hu'
      rw [hw34_] at hX
      have hKb : Kp [] w5 w33_ := by rw [← hw34_]; exact (Kp.refl [] w5).alloc _
      have HX35_ := Lib.hid (HX28_.out.kpn hKb)
      have HX36_ := Lib.hid (HX29_.out.kpn hKb)
      have HX37_ := Lib.hid (HX30_.out.kpn hKb)
      have KK38_ := Lib.hid (KK31_.out.trans hKb)
      have EE39_ := Lib.hid (EE32_.out.kp hKb (by simp))
      clear HX28_ HX29_ HX30_ KK31_ EE32_
      have HX40_ := Lib.hid hX
      clear hX hKb
      clear hK hB hp hh hu'
      have HF := Lib.hid (show eqU u v = false from by rw [HV.out]; rfl)
      go_wp2_with fail
      go_ret
      exact ⟨congrArg (fun z => Ending.returned (.bool z)) HF.out.symm, KK38_.out⟩
    | some m =>
      have HN := Lib.hid Hon.out
      have HM := Lib.hid Hom.out
      have l3 := (normal_NF v m Hom.out).params.len
      have l4 := (normal_NF v m Hom.out).heads.len
      go_enter Tryz.func40, Tryz.ntmps40
      go_upto_region 1 with fail
      obtain ⟨a13_, c13_, d13_, e13_, hc13_, hi13_⟩ := HX9_.out.in
      have b13_x0 := hc13_ 0
      have b13_x1 := hc13_ 1
      have b13_x2 := hc13_ 2
      have b13_x3 := hc13_ 3
      have b13_x4 := hc13_ 4
      have b13_x5 := hc13_ 5
      have In13_ := Lib.hid hi13_
      clear hc13_ hi13_
      go_wp2_with fail
      refine (rNormal_any _ _ u _ In13_.out (Nat.le_refl _) Zu.out).mono ?_
      rw [HN.out]
      rintro e w4 ⟨v, rfl, hu, hB⟩
      simp only [Option.getD_none, Option.isSome_none, Bool.false_eq_true, if_false] at hu ⊢
      rw [Hnil.out] at hu
      have hK := (Kp.refl [] w7_).below hB
      have hu' := hu
      obtain ⟨vp, vh, rfl, hp, hh⟩ := hu
      obtain ⟨A14_, C14_, rfl⟩ := hp.form
      obtain ⟨D14_, F14_, rfl⟩ := hh.form
      have HX15_ := Lib.hid (HX9_.out.kpn hK)
      have HX16_ := Lib.hid (HX12_.out.kpn hK)
      have KK17_ := Lib.hid (KK10_.out.trans hK)
      have EE18_ := Lib.hid (EE11_.out.kp hK (by simp))
      clear HX9_ HX12_ KK10_ EE11_
      clear b13_x0 b13_x1 b13_x2 b13_x3 b13_x4 b13_x5 In13_
      obtain ⟨w19_, hw20_⟩ : ∃ wz_, w4.alloc (.cells #[.string (Txt z.scheme), .string (Txt z.user), .string (Txt z.host), .int .i64 z.port, .slice A14_ z.params.length C14_, .slice D14_ z.heads.length F14_] 42) = wz_ := ⟨_, rfl⟩
      have hX := UBox.new hu'
      rw [hw20_] at hX
      have hKb : Kp [] w4 w19_ := by rw [← hw20_]; exact (Kp.refl [] w4).alloc _
      have HX21_ := Lib.hid (HX15_.out.kpn hKb)
      have HX22_ := Lib.hid (HX16_.out.kpn hKb)
      have KK23_ := Lib.hid (KK17_.out.trans hKb)
      have EE24_ := Lib.hid (EE18_.out.kp hKb (by simp))
      clear HX15_ HX16_ KK17_ EE18_
      have HX25_ := Lib.hid hX
      clear hX hKb
      clear hK hB hp hh hu'
      obtain ⟨a26_, c26_, d26_, e26_, hc26_, hi26_⟩ := HX22_.out.in
      have b26_x0 := hc26_ 0
      have b26_x1 := hc26_ 1
      have b26_x2 := hc26_ 2
      have b26_x3 := hc26_ 3
      have b26_x4 := hc26_ 4
      have b26_x5 := hc26_ 5
      have In26_ := Lib.hid hi26_
      clear hc26_ hi26_
      go_wp2_with fail
      refine (rNormal_any _ _ v _ In26_.out (Nat.le_refl _) Zv.out).mono ?_
      rw [HM.out]
      rintro e w5 ⟨v, rfl, hu, hB⟩
      simp only [Option.getD_some, Option.isSome_some, if_true] at hu ⊢
      have hK := (Kp.refl [] w19_).below hB
      have hu' := hu
      obtain ⟨vp, vh, rfl, hp, hh⟩ := hu
      obtain ⟨A27_, C27_, rfl⟩ := hp.form
      obtain ⟨D27_, F27_, rfl⟩ := hh.form
      have HX28_ := Lib.hid (HX21_.out.kpn hK)
      have HX29_ := Lib.hid (HX22_.out.kpn hK)
      have HX30_ := Lib.hid (HX25_.out.kpn hK)
      have KK31_ := Lib.hid (KK23_.out.trans hK)
      have EE32_ := Lib.hid (EE24_.out.kp hK (by simp))
      clear HX21_ HX22_ HX25_ KK23_ EE24_
      clear b26_x0 b26_x1 b26_x2 b26_x3 b26_x4 b26_x5 In26_
      obtain ⟨w33_, hw34_⟩ : ∃ wz_, w5.alloc (.cells #[.string (Txt m.scheme), .string (Txt m.user), .string (Txt m.host), .int .i64 m.port, .slice A27_ m.params.length C27_, .slice D27_ m.heads.length F27_] 42) = wz_ := ⟨_, rfl⟩
      have hX := UBox.new hu'
      rw [hw34_] at hX
      have hKb : Kp [] w5 w33_ := by rw [← hw34_]; exact (Kp.refl [] w5).alloc _
      have HX35_ := Lib.hid (HX28_.out.kpn hKb)
      have HX36_ := Lib.hid (HX29_.out.kpn hKb)
      have HX37_ := Lib.hid (HX30_.out.kpn hKb)
      have KK38_ := Lib.hid (KK31_.out.trans hKb)
      have EE39_ := Lib.hid (EE32_.out.kp hKb (by simp))
      clear HX28_ HX29_ HX30_ KK31_ EE32_
      have HX40_ := Lib.hid hX
      clear hX hKb
      clear hK hB hp hh hu'
      have HF := Lib.hid (show eqU u v = false from by rw [HV.out]; rfl)
      go_wp2_with fail
      go_ret
      exact ⟨congrArg (fun z => Ending.returned (.bool z)) HF.out.symm, KK38_.out⟩
  | some n =>
    cases om with
    | none =>
      have HN := Lib.hid Hon.out
      have HM := Lib.hid Hom.out
      have l1 := (normal_NF u n Hon.out).params.len
      have l2 := (normal_NF u n Hon.out).heads.len
      go_enter Tryz.func40, Tryz.ntmps40
      go_upto_region 1 with fail
      obtain ⟨a13_, c13_, d13_, e13_, hc13_, hi13_⟩ := HX9_.out.in
      have b13_x0 := hc13_ 0
      have b13_x1 := hc13_ 1
      have b13_x2 := hc13_ 2
      have b13_x3 := hc13_ 3
      have b13_x4 := hc13_ 4
      have b13_x5 := hc13_ 5
      have In13_ := Lib.hid hi13_
      clear hc13_ hi13_
      go_wp2_with fail
      refine (rNormal_any _ _ u _ In13_.out (Nat.le_refl _) Zu.out).mono ?_
      rw [HN.out]
      rintro e w4 ⟨v, rfl, hu, hB⟩
      simp only [Option.getD_some, Option.isSome_some, if_true] at hu ⊢
      have hK := (Kp.refl [] w7_).below hB
      have hu' := hu
      obtain ⟨vp, vh, rfl, hp, hh⟩ := hu
      obtain ⟨A14_, C14_, rfl⟩ := hp.form
      obtain ⟨D14_, F14_, rfl⟩ := hh.form
      have HX15_ := Lib.hid (HX9_.out.kpn hK)
      have HX16_ := Lib.hid (HX12_.out.kpn hK)
      have KK17_ := Lib.hid (KK10_.out.trans hK)
      have EE18_ := Lib.hid (EE11_.out.kp hK (by simp))
      clear HX9_ HX12_ KK10_ EE11_
      clear b13_x0 b13_x1 b13_x2 b13_x3 b13_x4 b13_x5 In13_
      obtain ⟨w19_, hw20_⟩ : ∃ wz_, w4.alloc (.cells #[.string (Txt n.scheme), .string (Txt n.user), .string (Txt n.host), .int .i64 n.port, .slice A14_ n.params.length C14_, .slice D14_ n.heads.length F14_] 42) = wz_ := ⟨_, rfl⟩
      have hX := UBox.new hu'
      rw [hw20_] at hX
      have hKb : Kp [] w4 w19_ := by rw [← hw20_]; exact (Kp.refl [] w4).alloc _
      have HX21_ := Lib.hid (HX15_.out.kpn hKb)
      have HX22_ := Lib.hid (HX16_.out.kpn hKb)
      have KK23_ := Lib.hid (KK17_.out.trans hKb)
      have EE24_ := Lib.hid (EE18_.out.kp hKb (by simp))
      clear HX15_ HX16_ KK17_ EE18_
      have HX25_ := Lib.hid hX
      clear hX hKb
      clear hK hB hp hh hu'
      obtain ⟨a26_, c26_, d26_, e26_, hc26_, hi26_⟩ := HX22_.out.in
      have b26_x0 := hc26_ 0
      have b26_x1 := hc26_ 1
      have b26_x2 := hc26_ 2
      have b26_x3 := hc26_ 3
      have b26_x4 := hc26_ 4
      have b26_x5 := hc26_ 5
      have In26_ := Lib.hid hi26_
      clear hc26_ hi26_
      go_wp2_with fail
      refine (rNormal_any _ _ v _ In26_.out (Nat.le_refl _) Zv.out).mono ?_
      rw [HM.out]
      rintro e w5 ⟨v, rfl, hu, hB⟩
      simp only [Option.getD_none, Option.isSome_none, Bool.false_eq_true, if_false] at hu ⊢
      rw [Hnil.out] at hu
      have hK := (Kp.refl [] w19_).below hB
      have hu' := hu
      obtain ⟨vp, vh, rfl, hp, hh⟩ := hu
      obtain ⟨A27_, C27_, rfl⟩ := hp.form
      obtain ⟨D27_, F27_, rfl⟩ := hh.form
      have HX28_ := Lib.hid (HX21_.out.kpn hK)
      have HX29_ := Lib.hid (HX22_.out.kpn hK)
      have HX30_ := Lib.hid (HX25_.out.kpn hK)
      have KK31_ := Lib.hid (KK23_.out.trans hK)
      have EE32_ := Lib.hid (EE24_.out.kp hK (by simp))
      clear HX21_ HX22_ HX25_ KK23_ EE24_
      clear b26_x0 b26_x1 b26_x2 b26_x3 b26_x4 b26_x5 In26_
      obtain ⟨w33_, hw34_⟩ : ∃ wz_, w5.alloc (.cells #[.string (Txt z.scheme), .string (Txt z.user), .string (Txt z.host), .int .i64 z.port, .slice A27_ z.params.length C27_, .slice D27_ z.heads.length F27_] 42) = wz_ := ⟨_, rfl⟩
      have hX := UBox.new hu'
      rw [hw34_] at hX
      have hKb : Kp [] w5 w33_ := by rw [← hw34_]; exact (Kp.refl [] w5).alloc _
      have HX35_ := Lib.hid (HX28_.out.kpn hKb)
      have HX36_ := Lib.hid (HX29_.out.kpn hKb)
      have HX37_ := Lib.hid (HX30_.out.kpn hKb)
      have KK38_ := Lib.hid (KK31_.out.trans hKb)
      have EE39_ := Lib.hid (EE32_.out.kp hKb (by simp))
      clear HX28_ HX29_ HX30_ KK31_ EE32_
      have HX40_ := Lib.hid hX
      clear hX hKb
      clear hK hB hp hh hu'
      have HF := Lib.hid (show eqU u v = false from by rw [HV.out]; rfl)
      go_wp2_with fail
      go_ret
      exact ⟨congrArg (fun z => Ending.returned (.bool z)) HF.out.symm, KK38_.out⟩
    | some m =>
      have HN := Lib.hid Hon.out
      have HM := Lib.hid Hom.out
      have l1 := (normal_NF u n Hon.out).params.len
      have l2 := (normal_NF u n Hon.out).heads.len
      have l3 := (normal_NF v m Hom.out).params.len
      have l4 := (normal_NF v m Hom.out).heads.len
      go_enter Tryz.func40, Tryz.ntmps40
      go_upto_region 1 with fail
      obtain ⟨a13_, c13_, d13_, e13_, hc13_, hi13_⟩ := HX9_.out.in
      have b13_x0 := hc13_ 0
      have b13_x1 := hc13_ 1
      have b13_x2 := hc13_ 2
      have b13_x3 := hc13_ 3
      have b13_x4 := hc13_ 4
      have b13_x5 := hc13_ 5
      have In13_ := Lib.hid hi13_
      clear hc13_ hi13_
      go_wp2_with fail
      refine (rNormal_any _ _ u _ In13_.out (Nat.le_refl _) Zu.out).mono ?_
      rw [HN.out]
      rintro e w4 ⟨v, rfl, hu, hB⟩
      simp only [Option.getD_some, Option.isSome_some, if_true] at hu ⊢
      have hK := (Kp.refl [] w7_).below hB
      have hu' := hu
      obtain ⟨vp, vh, rfl, hp, hh⟩ := hu
      obtain ⟨A14_, C14_, rfl⟩ := hp.form
      obtain ⟨D14_, F14_, rfl⟩ := hh.form
      have HX15_ := Lib.hid (HX9_.out.kpn hK)
      have HX16_ := Lib.hid (HX12_.out.kpn hK)
      have KK17_ := Lib.hid (KK10_.out.trans hK)
      have EE18_ := Lib.hid (EE11_.out.kp hK (by simp))
      clear HX9_ HX12_ KK10_ EE11_
      clear b13_x0 b13_x1 b13_x2 b13_x3 b13_x4 b13_x5 In13_
      obtain ⟨w19_, hw20_⟩ : ∃ wz_, w4.alloc (.cells #[.string (Txt n.scheme), .string (Txt n.user), .string (Txt n.host), .int .i64 n.port, .slice A14_ n.params.length C14_, .slice D14_ n.heads.length F14_] 42) = wz_ := ⟨_, rfl⟩
      have hX := UBox.new hu'
      rw [hw20_] at hX
      have hKb : Kp [] w4 w19_ := by rw [← hw20_]; exact (Kp.refl [] w4).alloc _
      have HX21_ := Lib.hid (HX15_.out.kpn hKb)
      have HX22_ := Lib.hid (HX16_.out.kpn hKb)
      have KK23_ := Lib.hid (KK17_.out.trans hKb)
      have EE24_ := Lib.hid (EE18_.out.kp hKb (by simp))
      clear HX15_ HX16_ KK17_ EE18_
      have HX25_ := Lib.hid hX
      clear hX hKb
      clear hK hB hp hh hu'
      obtain ⟨a26_, c26_, d26_, e26_, hc26_, hi26_⟩ := HX22_.out.in
      have b26_x0 := hc26_ 0
      have b26_x1 := hc26_ 1
      have b26_x2 := hc26_ 2
      have b26_x3 := hc26_ 3
      have b26_x4 := hc26_ 4
      have b26_x5 := hc26_ 5
      have In26_ := Lib.hid hi26_
      clear hc26_ hi26_
      go_wp2_with fail
      refine (rNormal_any _ _ v _ In26_.out (Nat.le_refl _) Zv.out).mono ?_
      rw [HM.out]
      rintro e w5 ⟨v, rfl, hu, hB⟩
      simp only [Option.getD_some, Option.isSome_some, if_true] at hu ⊢
      have hK := (Kp.refl [] w19_).below hB
      have hu' := hu
      obtain ⟨vp, vh, rfl, hp, hh⟩ := hu
      obtain ⟨A27_, C27_, rfl⟩ := hp.form
      obtain ⟨D27_, F27_, rfl⟩ := hh.form
      have HX28_ := Lib.hid (HX21_.out.kpn hK)
      have HX29_ := Lib.hid (HX22_.out.kpn hK)
      have HX30_ := Lib.hid (HX25_.out.kpn hK)
      have KK31_ := Lib.hid (KK23_.out.trans hK)
      have EE32_ := Lib.hid (EE24_.out.kp hK (by simp))
      clear HX21_ HX22_ HX25_ KK23_ EE24_
      clear b26_x0 b26_x1 b26_x2 b26_x3 b26_x4 b26_x5 In26_
      obtain ⟨w33_, hw34_⟩ : ∃ wz_, w5.alloc (.cells #[.string (Txt m.scheme), .string (Txt m.user), .string (Txt m.host), .int .i64 m.port, .slice A27_ m.params.length C27_, .slice D27_ m.heads.length F27_] 42) = wz_ := ⟨_, rfl⟩
      have hX := UBox.new hu'
      rw [hw34_] at hX
      have hKb : Kp [] w5 w33_ := by rw [← hw34_]; exact (Kp.refl [] w5).alloc _
      have HX35_ := Lib.hid (HX28_.out.kpn hKb)
      have HX36_ := Lib.hid (HX29_.out.kpn hKb)
      have HX37_ := Lib.hid (HX30_.out.kpn hKb)
      have KK38_ := Lib.hid (KK31_.out.trans hKb)
      have EE39_ := Lib.hid (EE32_.out.kp hKb (by simp))
      clear HX28_ HX29_ HX30_ KK31_ EE32_
      have HX40_ := Lib.hid hX
      clear hX hKb
      clear hK hB hp hh hu'
      obtain ⟨R, hR⟩ : ∃ R, sameU n m = R := ⟨_, rfl⟩
      have HR := Lib.hid hR
      have HF := Lib.hid (show eqU u v = R from by rw [HV.out, ← hR]; rfl)
      clear hR
      obtain ⟨a41_, c41_, d41_, e41_, hc41_, hi41_⟩ := HX37_.out.in
      have b41_x0 := hc41_ 0
      have b41_x1 := hc41_ 1
      have b41_x2 := hc41_ 2
      have b41_x3 := hc41_ 3
      have b41_x4 := hc41_ 4
      have b41_x5 := hc41_ 5
      have In41_ := Lib.hid hi41_
      clear hc41_ hi41_
      obtain ⟨a42_, c42_, d42_, e42_, hc42_, hi42_⟩ := HX40_.out.in
      have b42_x0 := hc42_ 0
      have b42_x1 := hc42_ 1
      have b42_x2 := hc42_ 2
      have b42_x3 := hc42_ 3
      have b42_x4 := hc42_ 4
      have b42_x5 := hc42_ 5
      have In42_ := Lib.hid hi42_
      clear hc42_ hi42_
      go_wp2_with fail
      refine (same_u _ _ _ _ n m _ In41_.out In42_.out (Nat.le_refl _) (Nat.le_refl _) (by omega) (by omega) (by omega) (by omega)).mono ?_
      rintro e w6 ⟨rfl, hK⟩
      rw [HR.out]
      have HX43_ := Lib.hid (HX35_.out.kpn hK)
      have HX44_ := Lib.hid (HX36_.out.kpn hK)
      have HX45_ := Lib.hid (HX37_.out.kpn hK)
      have HX46_ := Lib.hid (HX40_.out.kpn hK)
      have KK47_ := Lib.hid (KK38_.out.trans hK)
      have EE48_ := Lib.hid (EE39_.out.kp hK (by simp))
      clear HX35_ HX36_ HX37_ HX40_ KK38_ EE39_
      clear hK
      clear b41_x0 b41_x1 b41_x2 b41_x3 b41_x4 b41_x5 In41_ b42_x0 b42_x1 b42_x2 b42_x3 b42_x4 b42_x5 In42_
      go_wp2_with fail
      go_ret
      exact ⟨congrArg (fun z => Ending.returned (.bool z)) HF.out.symm, KK47_.out⟩
set_option maxRecDepth 100000 in
set_option maxHeartbeats 64000000 in
theorem prints_law (B1 B2 : Nat) (va vb : Value) (u v : Uri) (w : World) (hU : UriIn B1 w va u) (hV : UriIn B2 w vb v) (h1 : B1 ≤ w.heap.size) (h2 : B2 ≤ w.heap.size) (zu : SzU u) (zv : SzU v) (zhu : u.host.length ≤ 1048576) (E : Env w) : Calls Tryz.prog 6 #[va, vb] w (BoK true w) := by
  have HE := Lib.hid E
  have HK := Lib.hid (Kp.refl [] w)
  have Zu := Lib.hid zu
  have Zv := Lib.hid zv
  have k1 := zu.params
  have k2 := zu.heads
  have k3 := zv.params
  have k4 := zv.heads
  have hE7 := E.sz
  clear E zu zv
  have HV := Lib.hid (hV.up h2)
  have hu' := hU.up h1
  obtain ⟨vp, vh, rfl, hp, hh⟩ := hU
  obtain ⟨A1_, C1_, rfl⟩ := hp.form
  obtain ⟨D1_, F1_, rfl⟩ := hh.form
  clear hp hh
  obtain ⟨vp, vh, rfl, hp, hh⟩ := hV
  obtain ⟨Av, Cv, rfl⟩ := hp.form
  obtain ⟨Dv, Fv, rfl⟩ := hh.form
  clear hp hh
  obtain ⟨w2_, hw3_⟩ : ∃ wz_, w.alloc (.cells #[.string (Txt u.scheme), .string (Txt u.user), .string (Txt u.host), .int .i64 u.port, .slice A1_ u.params.length C1_, .slice D1_ u.heads.length F1_] 42) = wz_ := ⟨_, rfl⟩
  have hX := UBox.new hu'
  rw [hw3_] at hX
  have hKb : Kp [] w w2_ := by rw [← hw3_]; exact (Kp.refl [] w).alloc _
  have KK4_ := Lib.hid (HK.out.trans hKb)
  have EE5_ := Lib.hid (HE.out.kp hKb (by simp))
  have HX6_ := Lib.hid hX
  clear hX hKb
  clear hu'
  have hvu := HV.out.kpn (show Kp [] w w2_ from KK4_.out)
  obtain ⟨w7_, hw8_⟩ : ∃ wz_, w2_.alloc (.cells #[.string (Txt v.scheme), .string (Txt v.user), .string (Txt v.host), .int .i64 v.port, .slice Av v.params.length Cv, .slice Dv v.heads.length Fv] 42) = wz_ := ⟨_, rfl⟩
  have hX := UBox.new hvu
  rw [hw8_] at hX
  have hKb : Kp [] w2_ w7_ := by rw [← hw8_]; exact (Kp.refl [] w2_).alloc _
  have HX9_ := Lib.hid (HX6_.out.kpn hKb)
  have KK10_ := Lib.hid (KK4_.out.trans hKb)
  have EE11_ := Lib.hid (EE5_.out.kp hKb (by simp))
  clear HX6_ KK4_ EE5_
  have HX12_ := Lib.hid hX
  clear hX hKb
  clear hvu HV
  by_cases h40 : 40 < u.params.length + u.heads.length + v.params.length + v.heads.length
  · go_enter Tryz.func6, Tryz.ntmps6
    go_upto_region 1 with fail
    obtain ⟨a13_, c13_, d13_, e13_, hc13_, hi13_⟩ := HX9_.out.in
    have b13_x0 := hc13_ 0
    have b13_x1 := hc13_ 1
    have b13_x2 := hc13_ 2
    have b13_x3 := hc13_ 3
    have b13_x4 := hc13_ 4
    have b13_x5 := hc13_ 5
    have In13_ := Lib.hid hi13_
    clear hc13_ hi13_
    obtain ⟨a14_, c14_, d14_, e14_, hc14_, hi14_⟩ := HX12_.out.in
    have b14_x0 := hc14_ 0
    have b14_x1 := hc14_ 1
    have b14_x2 := hc14_ 2
    have b14_x3 := hc14_ 3
    have b14_x4 := hc14_ 4
    have b14_x5 := hc14_ 5
    have In14_ := Lib.hid hi14_
    clear hc14_ hi14_
    go_wp2_with fail
    refine (awake_any _ EE11_.out).mono ?_
    rintro e w1 ⟨rfl, hK⟩
    have HX15_ := Lib.hid (HX9_.out.kpn hK)
    have HX16_ := Lib.hid (HX12_.out.kpn hK)
    have KK17_ := Lib.hid (KK10_.out.trans hK)
    have EE18_ := Lib.hid (EE11_.out.kp hK (by simp))
    clear HX9_ HX12_ KK10_ EE11_
    clear hK
    clear b13_x0 b13_x1 b13_x2 b13_x3 b13_x4 b13_x5 In13_ b14_x0 b14_x1 b14_x2 b14_x3 b14_x4 b14_x5 In14_
    go_wp2_with fail
    go_ret
    exact ⟨rfl, KK17_.out⟩
  · obtain ⟨on, hon⟩ : ∃ o, normal u = o := ⟨_, rfl⟩
    obtain ⟨A, hA⟩ : ∃ a, eqU u v = a := ⟨_, rfl⟩
    have Hon := Lib.hid hon
    have HA := Lib.hid hA
    obtain ⟨z, hz⟩ : ∃ z, nilU = z := ⟨_, rfl⟩
    have Hnil := Lib.hid hz
    have Hzl := Lib.hid (show z.params.length = 0 ∧ z.heads.length = 0 from by rw [← hz]; exact ⟨rfl, rfl⟩)
    clear hon hA hz
    cases on with
    | none =>
      have HN := Lib.hid Hon.out
      have HP := Lib.hid (show printO u = none from by unfold printO; rw [Hon.out]; rfl)
      have l1 : z.params.length ≤ 0 := by rw [Hzl.out.1]; exact Nat.le_refl _
      have l2 : z.heads.length ≤ 0 := by rw [Hzl.out.2]; exact Nat.le_refl _
      have HSm := Lib.hid (show sameU z z = true from (sameU_iff _ _).2 rfl)
      go_enter Tryz.func6, Tryz.ntmps6
      go_upto_region 1 with fail
      obtain ⟨a13_, c13_, d13_, e13_, hc13_, hi13_⟩ := HX9_.out.in
      have b13_x0 := hc13_ 0
      have b13_x1 := hc13_ 1
      have b13_x2 := hc13_ 2
      have b13_x3 := hc13_ 3
      have b13_x4 := hc13_ 4
      have b13_x5 := hc13_ 5
      have In13_ := Lib.hid hi13_
      clear hc13_ hi13_
      obtain ⟨a14_, c14_, d14_, e14_, hc14_, hi14_⟩ := HX12_.out.in
      have b14_x0 := hc14_ 0
      have b14_x1 := hc14_ 1
      have b14_x2 := hc14_ 2
      have b14_x3 := hc14_ 3
      have b14_x4 := hc14_ 4
      have b14_x5 := hc14_ 5
      have In14_ := Lib.hid hi14_
      clear hc14_ hi14_
      go_wp2_with fail
      refine (Normal_any _ _ u _ In13_.out (Nat.le_refl _) Zu.out EE11_.out).mono ?_
      rw [HN.out]
      rintro e w4 ⟨v, rfl, hu, hB⟩
      simp only [Option.getD_none, Option.isSome_none, Bool.false_eq_true, if_false] at hu ⊢
      rw [Hnil.out] at hu
      have hK := (Kp.refl [] w7_).below hB
      have hu' := hu
      obtain ⟨vp, vh, rfl, hp, hh⟩ := hu
      obtain ⟨A15_, C15_, rfl⟩ := hp.form
      obtain ⟨D15_, F15_, rfl⟩ := hh.form
      have HX16_ := Lib.hid (HX9_.out.kpn hK)
      have HX17_ := Lib.hid (HX12_.out.kpn hK)
      have KK18_ := Lib.hid (KK10_.out.trans hK)
      have EE19_ := Lib.hid (EE11_.out.kp hK (by simp))
      clear HX9_ HX12_ KK10_ EE11_
      clear b13_x0 b13_x1 b13_x2 b13_x3 b13_x4 b13_x5 In13_ b14_x0 b14_x1 b14_x2 b14_x3 b14_x4 b14_x5 In14_
      obtain ⟨w20_, hw21_⟩ : ∃ wz_, w4.alloc (.cells #[.string (Txt z.scheme), .string (Txt z.user), .string (Txt z.host), .int .i64 z.port, .slice A15_ z.params.length C15_, .slice D15_ z.heads.length F15_] 42) = wz_ := ⟨_, rfl⟩
      have hX := UBox.new hu'
      rw [hw21_] at hX
      have hKb : Kp [] w4 w20_ := by rw [← hw21_]; exact (Kp.refl [] w4).alloc _
      have HX22_ := Lib.hid (HX16_.out.kpn hKb)
      have HX23_ := Lib.hid (HX17_.out.kpn hKb)
      have KK24_ := Lib.hid (KK18_.out.trans hKb)
      have EE25_ := Lib.hid (EE19_.out.kp hKb (by simp))
      clear HX16_ HX17_ KK18_ EE19_
      have HX26_ := Lib.hid hX
      clear hX hKb
      clear hK hB hp hh hu'
      obtain ⟨a27_, c27_, d27_, e27_, hc27_, hi27_⟩ := HX22_.out.in
      have b27_x0 := hc27_ 0
      have b27_x1 := hc27_ 1
      have b27_x2 := hc27_ 2
      have b27_x3 := hc27_ 3
      have b27_x4 := hc27_ 4
      have b27_x5 := hc27_ 5
      have In27_ := Lib.hid hi27_
      clear hc27_ hi27_
      go_wp2_with fail
      refine (rNormal_any _ _ u _ In27_.out (Nat.le_refl _) Zu.out).mono ?_
      rw [HN.out]
      rintro e w5 ⟨v, rfl, hu, hB⟩
      simp only [Option.getD_none, Option.isSome_none, Bool.false_eq_true, if_false] at hu ⊢
      rw [Hnil.out] at hu
      have hK := (Kp.refl [] w20_).below hB
      have hu' := hu
      obtain ⟨vp, vh, rfl, hp, hh⟩ := hu
      obtain ⟨A28_, C28_, rfl⟩ := hp.form
      obtain ⟨D28_, F28_, rfl⟩ := hh.form
      have HX29_ := Lib.hid (HX22_.out.kpn hK)
      have HX30_ := Lib.hid (HX23_.out.kpn hK)
      have HX31_ := Lib.hid (HX26_.out.kpn hK)
      have KK32_ := Lib.hid (KK24_.out.trans hK)
      have EE33_ := Lib.hid (EE25_.out.kp hK (by simp))
      clear HX22_ HX23_ HX26_ KK24_ EE25_
      clear b27_x0 b27_x1 b27_x2 b27_x3 b27_x4 b27_x5 In27_
      obtain ⟨w34_, hw35_⟩ : ∃ wz_, w5.alloc (.cells #[.string (Txt z.scheme), .string (Txt z.user), .string (Txt z.host), .int .i64 z.port, .slice A28_ z.params.length C28_, .slice D28_ z.heads.length F28_] 42) = wz_ := ⟨_, rfl⟩
      have hX := UBox.new hu'
      rw [hw35_] at hX
      have hKb : Kp [] w5 w34_ := by rw [← hw35_]; exact (Kp.refl [] w5).alloc _
      have HX36_ := Lib.hid (HX29_.out.kpn hKb)
      have HX37_ := Lib.hid (HX30_.out.kpn hKb)
      have HX38_ := Lib.hid (HX31_.out.kpn hKb)
      have KK39_ := Lib.hid (KK32_.out.trans hKb)
      have EE40_ := Lib.hid (EE33_.out.kp hKb (by simp))
      clear HX29_ HX30_ HX31_ KK32_ EE33_
      have HX41_ := Lib.hid hX
      clear hX hKb
      clear hK hB hp hh hu'
      obtain ⟨a42_, c42_, d42_, e42_, hc42_, hi42_⟩ := HX36_.out.in
      have b42_x0 := hc42_ 0
      have b42_x1 := hc42_ 1
      have b42_x2 := hc42_ 2
      have b42_x3 := hc42_ 3
      have b42_x4 := hc42_ 4
      have b42_x5 := hc42_ 5
      have In42_ := Lib.hid hi42_
      clear hc42_ hi42_
      go_wp2_with fail
      refine (Print_any _ _ u _ In42_.out (Nat.le_refl _) Zu.out zhu EE40_.out).mono ?_
      rw [HP.out]
      rintro e w6 ⟨rfl, hB⟩
      have hK := (Kp.refl [] w34_).below hB
      have HX43_ := Lib.hid (HX36_.out.kpn hK)
      have HX44_ := Lib.hid (HX37_.out.kpn hK)
      have HX45_ := Lib.hid (HX38_.out.kpn hK)
      have HX46_ := Lib.hid (HX41_.out.kpn hK)
      have KK47_ := Lib.hid (KK39_.out.trans hK)
      have EE48_ := Lib.hid (EE40_.out.kp hK (by simp))
      clear HX36_ HX37_ HX38_ HX41_ KK39_ EE40_
      clear hK hB
      simp only [Option.getD_none, Option.isSome_none, Bool.false_eq_true, if_false]
      clear b42_x0 b42_x1 b42_x2 b42_x3 b42_x4 b42_x5 In42_
      obtain ⟨a49_, c49_, d49_, e49_, hc49_, hi49_⟩ := HX43_.out.in
      have b49_x0 := hc49_ 0
      have b49_x1 := hc49_ 1
      have b49_x2 := hc49_ 2
      have b49_x3 := hc49_ 3
      have b49_x4 := hc49_ 4
      have b49_x5 := hc49_ 5
      have In49_ := Lib.hid hi49_
      clear hc49_ hi49_
      go_wp2_with fail
      refine (rPrint_any _ _ u _ In49_.out (Nat.le_refl _) Zu.out zhu).mono ?_
      rw [HP.out]
      rintro e w7 ⟨rfl, hB⟩
      have hK := (Kp.refl [] w6).below hB
      have HX50_ := Lib.hid (HX43_.out.kpn hK)
      have HX51_ := Lib.hid (HX44_.out.kpn hK)
      have HX52_ := Lib.hid (HX45_.out.kpn hK)
      have HX53_ := Lib.hid (HX46_.out.kpn hK)
      have KK54_ := Lib.hid (KK47_.out.trans hK)
      have EE55_ := Lib.hid (EE48_.out.kp hK (by simp))
      clear HX43_ HX44_ HX45_ HX46_ KK47_ EE48_
      clear hK hB
      simp only [Option.getD_none, Option.isSome_none, Bool.false_eq_true, if_false]
      clear b49_x0 b49_x1 b49_x2 b49_x3 b49_x4 b49_x5 In49_
      go_upto_region 7 with fail
      obtain ⟨a56_, c56_, d56_, e56_, hc56_, hi56_⟩ := HX50_.out.in
      have b56_x0 := hc56_ 0
      have b56_x1 := hc56_ 1
      have b56_x2 := hc56_ 2
      have b56_x3 := hc56_ 3
      have b56_x4 := hc56_ 4
      have b56_x5 := hc56_ 5
      have In56_ := Lib.hid hi56_
      clear hc56_ hi56_
      obtain ⟨a57_, c57_, d57_, e57_, hc57_, hi57_⟩ := HX51_.out.in
      have b57_x0 := hc57_ 0
      have b57_x1 := hc57_ 1
      have b57_x2 := hc57_ 2
      have b57_x3 := hc57_ 3
      have b57_x4 := hc57_ 4
      have b57_x5 := hc57_ 5
      have In57_ := Lib.hid hi57_
      clear hc57_ hi57_
      obtain ⟨a58_, c58_, d58_, e58_, hc58_, hi58_⟩ := HX52_.out.in
      have b58_x0 := hc58_ 0
      have b58_x1 := hc58_ 1
      have b58_x2 := hc58_ 2
      have b58_x3 := hc58_ 3
      have b58_x4 := hc58_ 4
      have b58_x5 := hc58_ 5
      have In58_ := Lib.hid hi58_
      clear hc58_ hi58_
      obtain ⟨a59_, c59_, d59_, e59_, hc59_, hi59_⟩ := HX53_.out.in
      have b59_x0 := hc59_ 0
      have b59_x1 := hc59_ 1
      have b59_x2 := hc59_ 2
      have b59_x3 := hc59_ 3
      have b59_x4 := hc59_ 4
      have b59_x5 := hc59_ 5
      have In59_ := Lib.hid hi59_
      clear hc59_ hi59_
      have g56_x0 := grew_cell b56_x0
      have g56_x1 := grew_cell b56_x1
      have g56_x2 := grew_cell b56_x2
      have g56_x3 := grew_cell b56_x3
      have g56_x4 := grew_cell b56_x4
      have g56_x5 := grew_cell b56_x5
      have g57_x0 := grew_cell b57_x0
      have g57_x1 := grew_cell b57_x1
      have g57_x2 := grew_cell b57_x2
      have g57_x3 := grew_cell b57_x3
      have g57_x4 := grew_cell b57_x4
      have g57_x5 := grew_cell b57_x5
      have g58_x0 := grew_cell b58_x0
      have g58_x1 := grew_cell b58_x1
      have g58_x2 := grew_cell b58_x2
      have g58_x3 := grew_cell b58_x3
      have g58_x4 := grew_cell b58_x4
      have g58_x5 := grew_cell b58_x5
      have g59_x0 := grew_cell b59_x0
      have g59_x1 := grew_cell b59_x1
      have g59_x2 := grew_cell b59_x2
      have g59_x3 := grew_cell b59_x3
      have g59_x4 := grew_cell b59_x4
      have g59_x5 := grew_cell b59_x5
      have Q1 := Lib.hid (fun (n_ : Gw w7) => (by have h := same_u _ _ _ _ z z _ (In58_.out.kpn (grew_kp _ n_)) (In59_.out.kpn (grew_kp _ n_)) (Nat.le_refl _) (Nat.le_refl _) (by omega) (by omega) (by omega) (by omega); rw [HSm.out] at h; exact Calls.grew_of h (fun _ _ h => h)))
      have Q2 := Lib.hid (fun (n_ : Gw w7) => (by have h := equal_any _ _ _ _ u v _ (In56_.out.kpn (grew_kp _ n_)) (In57_.out.kpn (grew_kp _ n_)) (Nat.le_refl _) (Nat.le_refl _) Zu.out Zv.out (EE55_.out.kp (grew_kp _ n_) (by simp)); rw [HA.out] at h; exact Calls.grew_of h (fun _ _ h => h)))
      have Q3 := Lib.hid (fun (n_ : Gw w7) => (by have h := requal_any _ _ _ _ u v _ (In56_.out.kpn (grew_kp _ n_)) (In57_.out.kpn (grew_kp _ n_)) (Nat.le_refl _) (Nat.le_refl _) Zu.out Zv.out (EE55_.out.kp (grew_kp _ n_) (by simp)); rw [HA.out] at h; exact Calls.grew_of h (fun _ _ h => h)))
      have Q4 := Lib.hid (fun (n_ : Gw w7) => Calls.grew_of (awake_any _ (EE55_.out.kp (grew_kp _ n_) (by simp))) (fun _ _ h => h))
      cases A
      all_goals
        refine wp_region_grew (by kernel_rfl) (by kernel_rfl) ?_
        (go_big_quiet_step ((first | (go_at_call 34; with_reducible exact Q1.out _) | (go_at_call 39; with_reducible exact Q2.out _) | (go_at_call 40; with_reducible exact Q3.out _) | (go_at_call 22; with_reducible exact Q4.out _))))
        repeat (go_big_quiet_step ((first | (go_at_call 34; with_reducible exact Q1.out _) | (go_at_call 39; with_reducible exact Q2.out _) | (go_at_call 40; with_reducible exact Q3.out _) | (go_at_call 22; with_reducible exact Q4.out _))))
        refine wpQuiet_nil ?_
        intro _ hw'
        obtain ⟨nq, hw''⟩ := hw'
        subst hw''
        go_wp2_with fail
        go_ret
        exact ⟨rfl, KK54_.out.trans (grew_kp _ _)⟩
    | some n =>
      have HN := Lib.hid Hon.out
      have l1 := (normal_NF u n Hon.out).params.len
      have l2 := (normal_NF u n Hon.out).heads.len
      obtain ⟨t, ht⟩ : ∃ t, textU n = t := ⟨_, rfl⟩
      have HP := Lib.hid (show printO u = some t from by rw [← ht]; unfold printO; rw [Hon.out]; rfl)
      clear ht
      have bt : ((Txt t).toList == (Txt t).toList) = true := beq_self_eq_true _
      have HSm := Lib.hid (show sameU n n = true from (sameU_iff _ _).2 rfl)
      go_enter Tryz.func6, Tryz.ntmps6
      go_upto_region 1 with fail
      obtain ⟨a13_, c13_, d13_, e13_, hc13_, hi13_⟩ := HX9_.out.in
      have b13_x0 := hc13_ 0
      have b13_x1 := hc13_ 1
      have b13_x2 := hc13_ 2
      have b13_x3 := hc13_ 3
      have b13_x4 := hc13_ 4
      have b13_x5 := hc13_ 5
      have In13_ := Lib.hid hi13_
      clear hc13_ hi13_
      obtain ⟨a14_, c14_, d14_, e14_, hc14_, hi14_⟩ := HX12_.out.in
      have b14_x0 := hc14_ 0
      have b14_x1 := hc14_ 1
      have b14_x2 := hc14_ 2
      have b14_x3 := hc14_ 3
      have b14_x4 := hc14_ 4
      have b14_x5 := hc14_ 5
      have In14_ := Lib.hid hi14_
      clear hc14_ hi14_
      go_wp2_with fail
      refine (Normal_any _ _ u _ In13_.out (Nat.le_refl _) Zu.out EE11_.out).mono ?_
      rw [HN.out]
      rintro e w4 ⟨v, rfl, hu, hB⟩
      simp only [Option.getD_some, Option.isSome_some, if_true] at hu ⊢
      have hK := (Kp.refl [] w7_).below hB
      have hu' := hu
      obtain ⟨vp, vh, rfl, hp, hh⟩ := hu
      obtain ⟨A15_, C15_, rfl⟩ := hp.form
      obtain ⟨D15_, F15_, rfl⟩ := hh.form
      have HX16_ := Lib.hid (HX9_.out.kpn hK)
      have HX17_ := Lib.hid (HX12_.out.kpn hK)
      have KK18_ := Lib.hid (KK10_.out.trans hK)
      have EE19_ := Lib.hid (EE11_.out.kp hK (by simp))
      clear HX9_ HX12_ KK10_ EE11_
      clear b13_x0 b13_x1 b13_x2 b13_x3 b13_x4 b13_x5 In13_ b14_x0 b14_x1 b14_x2 b14_x3 b14_x4 b14_x5 In14_
      obtain ⟨w20_, hw21_⟩ : ∃ wz_, w4.alloc (.cells #[.string (Txt n.scheme), .string (Txt n.user), .string (Txt n.host), .int .i64 n.port, .slice A15_ n.params.length C15_, .slice D15_ n.heads.length F15_] 42) = wz_ := ⟨_, rfl⟩
      have hX := UBox.new hu'
      rw [hw21_] at hX
      have hKb : Kp [] w4 w20_ := by rw [← hw21_]; exact (Kp.refl [] w4).alloc _
      have HX22_ := Lib.hid (HX16_.out.kpn hKb)
      have HX23_ := Lib.hid (HX17_.out.kpn hKb)
      have KK24_ := Lib.hid (KK18_.out.trans hKb)
      have EE25_ := Lib.hid (EE19_.out.kp hKb (by simp))
      clear HX16_ HX17_ KK18_ EE19_
      have HX26_ := Lib.hid hX
      clear hX hKb
      clear hK hB hp hh hu'
      obtain ⟨a27_, c27_, d27_, e27_, hc27_, hi27_⟩ := HX22_.out.in
      have b27_x0 := hc27_ 0
      have b27_x1 := hc27_ 1
      have b27_x2 := hc27_ 2
      have b27_x3 := hc27_ 3
      have b27_x4 := hc27_ 4
      have b27_x5 := hc27_ 5
      have In27_ := Lib.hid hi27_
      clear hc27_ hi27_
      go_wp2_with fail
      refine (rNormal_any _ _ u _ In27_.out (Nat.le_refl _) Zu.out).mono ?_
      rw [HN.out]
      rintro e w5 ⟨v, rfl, hu, hB⟩
      simp only [Option.getD_some, Option.isSome_some, if_true] at hu ⊢
      have hK := (Kp.refl [] w20_).below hB
      have hu' := hu
      obtain ⟨vp, vh, rfl, hp, hh⟩ := hu
      obtain ⟨A28_, C28_, rfl⟩ := hp.form
      obtain ⟨D28_, F28_, rfl⟩ := hh.form
      have HX29_ := Lib.hid (HX22_.out.kpn hK)
      have HX30_ := Lib.hid (HX23_.out.kpn hK)
      have HX31_ := Lib.hid (HX26_.out.kpn hK)
      have KK32_ := Lib.hid (KK24_.out.trans hK)
      have EE33_ := Lib.hid (EE25_.out.kp hK (by simp))
      clear HX22_ HX23_ HX26_ KK24_ EE25_
      clear b27_x0 b27_x1 b27_x2 b27_x3 b27_x4 b27_x5 In27_
      obtain ⟨w34_, hw35_⟩ : ∃ wz_, w5.alloc (.cells #[.string (Txt n.scheme), .string (Txt n.user), .string (Txt n.host), .int .i64 n.port, .slice A28_ n.params.length C28_, .slice D28_ n.heads.length F28_] 42) = wz_ := ⟨_, rfl⟩
      have hX := UBox.new hu'
      rw [hw35_] at hX
      have hKb : Kp [] w5 w34_ := by rw [← hw35_]; exact (Kp.refl [] w5).alloc _
      have HX36_ := Lib.hid (HX29_.out.kpn hKb)
      have HX37_ := Lib.hid (HX30_.out.kpn hKb)
      have HX38_ := Lib.hid (HX31_.out.kpn hKb)
      have KK39_ := Lib.hid (KK32_.out.trans hKb)
      have EE40_ := Lib.hid (EE33_.out.kp hKb (by simp))
      clear HX29_ HX30_ HX31_ KK32_ EE33_
      have HX41_ := Lib.hid hX
      clear hX hKb
      clear hK hB hp hh hu'
      obtain ⟨a42_, c42_, d42_, e42_, hc42_, hi42_⟩ := HX36_.out.in
      have b42_x0 := hc42_ 0
      have b42_x1 := hc42_ 1
      have b42_x2 := hc42_ 2
      have b42_x3 := hc42_ 3
      have b42_x4 := hc42_ 4
      have b42_x5 := hc42_ 5
      have In42_ := Lib.hid hi42_
      clear hc42_ hi42_
      go_wp2_with fail
      refine (Print_any _ _ u _ In42_.out (Nat.le_refl _) Zu.out zhu EE40_.out).mono ?_
      rw [HP.out]
      rintro e w6 ⟨rfl, hB⟩
      have hK := (Kp.refl [] w34_).below hB
      have HX43_ := Lib.hid (HX36_.out.kpn hK)
      have HX44_ := Lib.hid (HX37_.out.kpn hK)
      have HX45_ := Lib.hid (HX38_.out.kpn hK)
      have HX46_ := Lib.hid (HX41_.out.kpn hK)
      have KK47_ := Lib.hid (KK39_.out.trans hK)
      have EE48_ := Lib.hid (EE40_.out.kp hK (by simp))
      clear HX36_ HX37_ HX38_ HX41_ KK39_ EE40_
      clear hK hB
      dsimp only [Option.getD_some, Option.isSome_some, if_true]
      clear b42_x0 b42_x1 b42_x2 b42_x3 b42_x4 b42_x5 In42_
      obtain ⟨a49_, c49_, d49_, e49_, hc49_, hi49_⟩ := HX43_.out.in
      have b49_x0 := hc49_ 0
      have b49_x1 := hc49_ 1
      have b49_x2 := hc49_ 2
      have b49_x3 := hc49_ 3
      have b49_x4 := hc49_ 4
      have b49_x5 := hc49_ 5
      have In49_ := Lib.hid hi49_
      clear hc49_ hi49_
      go_wp2_with fail
      refine (rPrint_any _ _ u _ In49_.out (Nat.le_refl _) Zu.out zhu).mono ?_
      rw [HP.out]
      rintro e w7 ⟨rfl, hB⟩
      have hK := (Kp.refl [] w6).below hB
      have HX50_ := Lib.hid (HX43_.out.kpn hK)
      have HX51_ := Lib.hid (HX44_.out.kpn hK)
      have HX52_ := Lib.hid (HX45_.out.kpn hK)
      have HX53_ := Lib.hid (HX46_.out.kpn hK)
      have KK54_ := Lib.hid (KK47_.out.trans hK)
      have EE55_ := Lib.hid (EE48_.out.kp hK (by simp))
      clear HX43_ HX44_ HX45_ HX46_ KK47_ EE48_
      clear hK hB
      dsimp only [Option.getD_some, Option.isSome_some, if_true]
      clear b49_x0 b49_x1 b49_x2 b49_x3 b49_x4 b49_x5 In49_
      go_upto_region 7 with fail
      obtain ⟨a56_, c56_, d56_, e56_, hc56_, hi56_⟩ := HX50_.out.in
      have b56_x0 := hc56_ 0
      have b56_x1 := hc56_ 1
      have b56_x2 := hc56_ 2
      have b56_x3 := hc56_ 3
      have b56_x4 := hc56_ 4
      have b56_x5 := hc56_ 5
      have In56_ := Lib.hid hi56_
      clear hc56_ hi56_
      obtain ⟨a57_, c57_, d57_, e57_, hc57_, hi57_⟩ := HX51_.out.in
      have b57_x0 := hc57_ 0
      have b57_x1 := hc57_ 1
      have b57_x2 := hc57_ 2
      have b57_x3 := hc57_ 3
      have b57_x4 := hc57_ 4
      have b57_x5 := hc57_ 5
      have In57_ := Lib.hid hi57_
      clear hc57_ hi57_
      obtain ⟨a58_, c58_, d58_, e58_, hc58_, hi58_⟩ := HX52_.out.in
      have b58_x0 := hc58_ 0
      have b58_x1 := hc58_ 1
      have b58_x2 := hc58_ 2
      have b58_x3 := hc58_ 3
      have b58_x4 := hc58_ 4
      have b58_x5 := hc58_ 5
      have In58_ := Lib.hid hi58_
      clear hc58_ hi58_
      obtain ⟨a59_, c59_, d59_, e59_, hc59_, hi59_⟩ := HX53_.out.in
      have b59_x0 := hc59_ 0
      have b59_x1 := hc59_ 1
      have b59_x2 := hc59_ 2
      have b59_x3 := hc59_ 3
      have b59_x4 := hc59_ 4
      have b59_x5 := hc59_ 5
      have In59_ := Lib.hid hi59_
      clear hc59_ hi59_
      have g56_x0 := grew_cell b56_x0
      have g56_x1 := grew_cell b56_x1
      have g56_x2 := grew_cell b56_x2
      have g56_x3 := grew_cell b56_x3
      have g56_x4 := grew_cell b56_x4
      have g56_x5 := grew_cell b56_x5
      have g57_x0 := grew_cell b57_x0
      have g57_x1 := grew_cell b57_x1
      have g57_x2 := grew_cell b57_x2
      have g57_x3 := grew_cell b57_x3
      have g57_x4 := grew_cell b57_x4
      have g57_x5 := grew_cell b57_x5
      have g58_x0 := grew_cell b58_x0
      have g58_x1 := grew_cell b58_x1
      have g58_x2 := grew_cell b58_x2
      have g58_x3 := grew_cell b58_x3
      have g58_x4 := grew_cell b58_x4
      have g58_x5 := grew_cell b58_x5
      have g59_x0 := grew_cell b59_x0
      have g59_x1 := grew_cell b59_x1
      have g59_x2 := grew_cell b59_x2
      have g59_x3 := grew_cell b59_x3
      have g59_x4 := grew_cell b59_x4
      have g59_x5 := grew_cell b59_x5
      have Q1 := Lib.hid (fun (n_ : Gw w7) => (by have h := same_u _ _ _ _ n n _ (In58_.out.kpn (grew_kp _ n_)) (In59_.out.kpn (grew_kp _ n_)) (Nat.le_refl _) (Nat.le_refl _) (by omega) (by omega) (by omega) (by omega); rw [HSm.out] at h; exact Calls.grew_of h (fun _ _ h => h)))
      have Q2 := Lib.hid (fun (n_ : Gw w7) => (by have h := equal_any _ _ _ _ u v _ (In56_.out.kpn (grew_kp _ n_)) (In57_.out.kpn (grew_kp _ n_)) (Nat.le_refl _) (Nat.le_refl _) Zu.out Zv.out (EE55_.out.kp (grew_kp _ n_) (by simp)); rw [HA.out] at h; exact Calls.grew_of h (fun _ _ h => h)))
      have Q3 := Lib.hid (fun (n_ : Gw w7) => (by have h := requal_any _ _ _ _ u v _ (In56_.out.kpn (grew_kp _ n_)) (In57_.out.kpn (grew_kp _ n_)) (Nat.le_refl _) (Nat.le_refl _) Zu.out Zv.out (EE55_.out.kp (grew_kp _ n_) (by simp)); rw [HA.out] at h; exact Calls.grew_of h (fun _ _ h => h)))
      have Q4 := Lib.hid (fun (n_ : Gw w7) => Calls.grew_of (awake_any _ (EE55_.out.kp (grew_kp _ n_) (by simp))) (fun _ _ h => h))
      cases A
      all_goals
        refine wp_region_grew (by kernel_rfl) (by kernel_rfl) ?_
        (go_big_quiet_step ((first | (go_at_call 34; with_reducible exact Q1.out _) | (go_at_call 39; with_reducible exact Q2.out _) | (go_at_call 40; with_reducible exact Q3.out _) | (go_at_call 22; with_reducible exact Q4.out _))))
        repeat (go_big_quiet_step ((first | (go_at_call 34; with_reducible exact Q1.out _) | (go_at_call 39; with_reducible exact Q2.out _) | (go_at_call 40; with_reducible exact Q3.out _) | (go_at_call 22; with_reducible exact Q4.out _))))
        refine wpQuiet_nil ?_
        intro _ hw'
        obtain ⟨nq, hw''⟩ := hw'
        subst hw''
        go_wp2_with fail
        go_ret
        exact ⟨rfl, KK54_.out.trans (grew_kp _ _)⟩
end Ad
end Go.Proofs.YtjkkcoiebnmkcaaGreatDoor
