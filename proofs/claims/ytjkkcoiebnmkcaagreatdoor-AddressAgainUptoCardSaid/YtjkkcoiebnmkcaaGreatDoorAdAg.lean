/- AddressAgain of package dialtonelaw02 returns true for every text of at most 2^20 bytes, and nothing that was there is changed. -/
import Derived.Test.YtjkkcoiebnmkcaaGreatDoorM8
namespace Go.Proofs.YtjkkcoiebnmkcaaGreatDoor
namespace Ad
open Go.RowKit Lx

theorem NF.print {n : Uri} (h : NF n) : printO n = some (textU n) := by unfold printO; rw [h.normal]; rfl
set_option maxRecDepth 100000 in
set_option maxHeartbeats 8000000 in
theorem again_law (s : ByteArray) (w : World) (hs : s.size ≤ 1048576) (E : Env w) : Calls Tryz.prog 10 #[.string s] w (BoK true w) := by
  obtain ⟨u, n, x, hr⟩ : ∃ a b c, parse s.data.toList = (a, b, c) := ⟨_, _, _, rfl⟩
  have P1 := Parse_any s w (by omega) E
  rw [hr] at P1
  have HP1 := Lib.hid P1
  have HE := Lib.hid E
  have HK := Lib.hid (Kp.refl [] w)
  obtain ⟨hat, hnil⟩ := parse_at s.data.toList
  have hNF := parse_NF s.data.toList
  have hSz := parse_sz s.data.toList
  have hsh := parse_short s.data.toList
  rw [hr] at hat hnil hNF hSz hsh
  rw [len_list] at hat hSz hsh
  dsimp only at hat hnil hNF hSz hsh
  clear P1 E hr
  by_cases hx : x = 0
  · subst hx
    have bx : ((0 : Int) != 0) = false := rfl
    obtain ⟨nf, hn0⟩ := hNF rfl
    subst hn0
    have szb := (hSz rfl).szU (by have := hsh rfl; omega)
    have l1 := nf.params.len
    have l2 := nf.heads.len
    have HSz := Lib.hid szb
    have HPr := Lib.hid nf.print
    have HSm := Lib.hid (show sameU u u = true from (sameU_iff _ _).2 rfl)
    obtain ⟨t, ht⟩ : ∃ t, textU u = t := ⟨_, rfl⟩
    have HT := Lib.hid ht
    have HPt := Lib.hid (show (textU u).length ≤ 1024 → parse (textU u) = (u, 0, 0) from parse_text u nf)
    have bt : ((Txt t).toList == (Txt t).toList) = true := beq_self_eq_true _
    clear hNF hSz hsh hnil szb ht nf hat
    by_cases hl : 1024 < (Txt t).size
    · go_enter Tryz.func10, Tryz.ntmps10
      go_wp2_with fail
      refine (HP1.out).mono ?_
      rintro e w1 ⟨v, rfl, hu, hB⟩
      have hK := (Kp.refl [] w).below hB
      have hu' := hu
      obtain ⟨vp, vh, rfl, hp, hh⟩ := hu
      obtain ⟨A1_, C1_, rfl⟩ := hp.form
      obtain ⟨D1_, F1_, rfl⟩ := hh.form
      have KK2_ := Lib.hid (HK.out.trans hK)
      have EE3_ := Lib.hid (HE.out.kp hK (by simp))
      dsimp only at hu' ⊢
      obtain ⟨w4_, hw5_⟩ : ∃ z, w1.alloc (.cells #[.string (Txt u.scheme), .string (Txt u.user), .string (Txt u.host), .int .i64 u.port, .slice A1_ u.params.length C1_, .slice D1_ u.heads.length F1_] 42) = z := ⟨_, rfl⟩
      have hX := UBox.new hu'
      rw [hw5_] at hX
      have hKb : Kp [] w1 w4_ := by rw [← hw5_]; exact (Kp.refl [] w1).alloc _
      have KK6_ := Lib.hid (KK2_.out.trans hKb)
      have EE7_ := Lib.hid (EE3_.out.kp hKb (by simp))
      clear KK2_ EE3_
      have HX8_ := Lib.hid hX
      clear hX hKb
      clear hK hB hp hh hu'
      obtain ⟨a9_, c9_, d9_, e9_, hc9_, hi9_⟩ := HX8_.out.in
      have b9_x0 := hc9_ 0
      have b9_x1 := hc9_ 1
      have b9_x2 := hc9_ 2
      have b9_x3 := hc9_ 3
      have b9_x4 := hc9_ 4
      have b9_x5 := hc9_ 5
      have In9_ := Lib.hid hi9_
      clear hc9_ hi9_
      go_wp2_with fail
      refine (Print_any _ _ u _ In9_.out (Nat.le_refl _) HSz.out.1 HSz.out.2 EE7_.out).mono ?_
      rw [HPr.out, HT.out]
      rintro e w2 ⟨rfl, hB⟩
      have hK := (Kp.refl [] w4_).below hB
      have HX10_ := Lib.hid (HX8_.out.kpn hK)
      have KK11_ := Lib.hid (KK6_.out.trans hK)
      have EE12_ := Lib.hid (EE7_.out.kp hK (by simp))
      clear HX8_ KK6_ EE7_
      clear hK hB
      dsimp only [Option.getD_some, Option.isSome_some, if_true]
      clear b9_x0 b9_x1 b9_x2 b9_x3 b9_x4 b9_x5 In9_
      go_wp2_with fail
      refine (awake_any _ EE12_.out).mono ?_
      rintro e w3 ⟨rfl, hK⟩
      have HX13_ := Lib.hid (HX10_.out.kpn hK)
      have KK14_ := Lib.hid (KK11_.out.trans hK)
      have EE15_ := Lib.hid (EE12_.out.kp hK (by simp))
      clear HX10_ KK11_ EE12_
      clear hK
      go_wp2_with fail
      go_ret
      exact ⟨rfl, KK14_.out⟩
    · go_enter Tryz.func10, Tryz.ntmps10
      go_wp2_with fail
      refine (HP1.out).mono ?_
      rintro e w1 ⟨v, rfl, hu, hB⟩
      have hK := (Kp.refl [] w).below hB
      have hu' := hu
      obtain ⟨vp, vh, rfl, hp, hh⟩ := hu
      obtain ⟨A1_, C1_, rfl⟩ := hp.form
      obtain ⟨D1_, F1_, rfl⟩ := hh.form
      have KK2_ := Lib.hid (HK.out.trans hK)
      have EE3_ := Lib.hid (HE.out.kp hK (by simp))
      dsimp only at hu' ⊢
      obtain ⟨w4_, hw5_⟩ : ∃ z, w1.alloc (.cells #[.string (Txt u.scheme), .string (Txt u.user), .string (Txt u.host), .int .i64 u.port, .slice A1_ u.params.length C1_, .slice D1_ u.heads.length F1_] 42) = z := ⟨_, rfl⟩
      have hX := UBox.new hu'
      rw [hw5_] at hX
      have hKb : Kp [] w1 w4_ := by rw [← hw5_]; exact (Kp.refl [] w1).alloc _
      have KK6_ := Lib.hid (KK2_.out.trans hKb)
      have EE7_ := Lib.hid (EE3_.out.kp hKb (by simp))
      clear KK2_ EE3_
      have HX8_ := Lib.hid hX
      clear hX hKb
      clear hK hB hp hh hu'
      obtain ⟨a9_, c9_, d9_, e9_, hc9_, hi9_⟩ := HX8_.out.in
      have b9_x0 := hc9_ 0
      have b9_x1 := hc9_ 1
      have b9_x2 := hc9_ 2
      have b9_x3 := hc9_ 3
      have b9_x4 := hc9_ 4
      have b9_x5 := hc9_ 5
      have In9_ := Lib.hid hi9_
      clear hc9_ hi9_
      go_wp2_with fail
      refine (Print_any _ _ u _ In9_.out (Nat.le_refl _) HSz.out.1 HSz.out.2 EE7_.out).mono ?_
      rw [HPr.out, HT.out]
      rintro e w2 ⟨rfl, hB⟩
      have hK := (Kp.refl [] w4_).below hB
      have HX10_ := Lib.hid (HX8_.out.kpn hK)
      have KK11_ := Lib.hid (KK6_.out.trans hK)
      have EE12_ := Lib.hid (EE7_.out.kp hK (by simp))
      clear HX8_ KK6_ EE7_
      clear hK hB
      dsimp only [Option.getD_some, Option.isSome_some, if_true]
      clear b9_x0 b9_x1 b9_x2 b9_x3 b9_x4 b9_x5 In9_
      have P2 := Lib.hid (show Calls Tryz.prog 32 #[.string (Txt t)] w2 (UrP (u, 0, 0) w2) from by have h := Parse_any (Txt t) w2 (by omega) EE12_.out; rw [txt_list, ← HT.out, HPt.out (by rw [HT.out, ← txt_size]; omega), HT.out] at h; exact h)
      go_wp2_with fail
      refine (P2.out).mono ?_
      rintro e w4 ⟨v, rfl, hu, hB⟩
      have hK := (Kp.refl [] w2).below hB
      have hu' := hu
      obtain ⟨vp, vh, rfl, hp, hh⟩ := hu
      obtain ⟨A13_, C13_, rfl⟩ := hp.form
      obtain ⟨D13_, F13_, rfl⟩ := hh.form
      have HX14_ := Lib.hid (HX10_.out.kpn hK)
      have KK15_ := Lib.hid (KK11_.out.trans hK)
      have EE16_ := Lib.hid (EE12_.out.kp hK (by simp))
      clear HX10_ KK11_ EE12_
      dsimp only at hu' ⊢
      obtain ⟨w17_, hw18_⟩ : ∃ z, w4.alloc (.cells #[.string (Txt u.scheme), .string (Txt u.user), .string (Txt u.host), .int .i64 u.port, .slice A13_ u.params.length C13_, .slice D13_ u.heads.length F13_] 42) = z := ⟨_, rfl⟩
      have hX := UBox.new hu'
      rw [hw18_] at hX
      have hKb : Kp [] w4 w17_ := by rw [← hw18_]; exact (Kp.refl [] w4).alloc _
      have HX19_ := Lib.hid (HX14_.out.kpn hKb)
      have KK20_ := Lib.hid (KK15_.out.trans hKb)
      have EE21_ := Lib.hid (EE16_.out.kp hKb (by simp))
      clear HX14_ KK15_ EE16_
      have HX22_ := Lib.hid hX
      clear hX hKb
      clear hK hB hp hh hu'
      obtain ⟨a23_, c23_, d23_, e23_, hc23_, hi23_⟩ := HX22_.out.in
      have b23_x0 := hc23_ 0
      have b23_x1 := hc23_ 1
      have b23_x2 := hc23_ 2
      have b23_x3 := hc23_ 3
      have b23_x4 := hc23_ 4
      have b23_x5 := hc23_ 5
      have In23_ := Lib.hid hi23_
      clear hc23_ hi23_
      go_wp2_with fail
      refine (Print_any _ _ u _ In23_.out (Nat.le_refl _) HSz.out.1 HSz.out.2 EE21_.out).mono ?_
      rw [HPr.out, HT.out]
      rintro e w5 ⟨rfl, hB⟩
      have hK := (Kp.refl [] w17_).below hB
      have HX24_ := Lib.hid (HX19_.out.kpn hK)
      have HX25_ := Lib.hid (HX22_.out.kpn hK)
      have KK26_ := Lib.hid (KK20_.out.trans hK)
      have EE27_ := Lib.hid (EE21_.out.kp hK (by simp))
      clear HX19_ HX22_ KK20_ EE21_
      clear hK hB
      dsimp only [Option.getD_some, Option.isSome_some, if_true]
      clear b23_x0 b23_x1 b23_x2 b23_x3 b23_x4 b23_x5 In23_
      obtain ⟨a28_, c28_, d28_, e28_, hc28_, hi28_⟩ := HX24_.out.in
      have b28_x0 := hc28_ 0
      have b28_x1 := hc28_ 1
      have b28_x2 := hc28_ 2
      have b28_x3 := hc28_ 3
      have b28_x4 := hc28_ 4
      have b28_x5 := hc28_ 5
      have In28_ := Lib.hid hi28_
      clear hc28_ hi28_
      obtain ⟨a29_, c29_, d29_, e29_, hc29_, hi29_⟩ := HX25_.out.in
      have b29_x0 := hc29_ 0
      have b29_x1 := hc29_ 1
      have b29_x2 := hc29_ 2
      have b29_x3 := hc29_ 3
      have b29_x4 := hc29_ 4
      have b29_x5 := hc29_ 5
      have In29_ := Lib.hid hi29_
      clear hc29_ hi29_
      go_wp2_with fail
      refine (same_u _ _ _ _ u u _ In28_.out In29_.out (Nat.le_refl _) (Nat.le_refl _) (by omega) (by omega) (by omega) (by omega)).mono ?_
      rintro e w6 ⟨rfl, hK⟩
      rw [HSm.out]
      have HX30_ := Lib.hid (HX24_.out.kpn hK)
      have HX31_ := Lib.hid (HX25_.out.kpn hK)
      have KK32_ := Lib.hid (KK26_.out.trans hK)
      have EE33_ := Lib.hid (EE27_.out.kp hK (by simp))
      clear HX24_ HX25_ KK26_ EE27_
      clear hK
      clear b28_x0 b28_x1 b28_x2 b28_x3 b28_x4 b28_x5 In28_ b29_x0 b29_x1 b29_x2 b29_x3 b29_x4 b29_x5 In29_
      go_wp2_with fail
      refine (awake_any _ EE33_.out).mono ?_
      rintro e w7 ⟨rfl, hK⟩
      have HX34_ := Lib.hid (HX30_.out.kpn hK)
      have HX35_ := Lib.hid (HX31_.out.kpn hK)
      have KK36_ := Lib.hid (KK32_.out.trans hK)
      have EE37_ := Lib.hid (EE33_.out.kp hK (by simp))
      clear HX30_ HX31_ KK32_ EE33_
      clear hK
      go_wp2_with fail
      go_ret
      exact ⟨rfl, KK36_.out⟩
  · have bx : (x != 0) = true := by rw [bne_iff_ne]; exact hx
    have hu := hnil hx
    have HSm := Lib.hid (show sameU u nilU = true from by rw [hu]; exact (sameU_iff _ _).2 rfl)
    have l1 : u.params.length ≤ 0 := by rw [hu]; exact Nat.le_refl _
    have l2 : u.heads.length ≤ 0 := by rw [hu]; exact Nat.le_refl _
    have hn0 : (0 : Int) ≤ (n : Int) := Int.natCast_nonneg n
    clear hu hnil hNF hSz hsh hx
    go_enter Tryz.func10, Tryz.ntmps10
    go_wp2_with fail
    refine (HP1.out).mono ?_
    rintro e w1 ⟨v, rfl, hu, hB⟩
    have hK := (Kp.refl [] w).below hB
    have hu' := hu
    obtain ⟨vp, vh, rfl, hp, hh⟩ := hu
    obtain ⟨A1_, C1_, rfl⟩ := hp.form
    obtain ⟨D1_, F1_, rfl⟩ := hh.form
    have KK2_ := Lib.hid (HK.out.trans hK)
    have EE3_ := Lib.hid (HE.out.kp hK (by simp))
    dsimp only at hu' ⊢
    obtain ⟨w4_, hw5_⟩ : ∃ z, w1.alloc (.cells #[.string (Txt u.scheme), .string (Txt u.user), .string (Txt u.host), .int .i64 u.port, .slice A1_ u.params.length C1_, .slice D1_ u.heads.length F1_] 42) = z := ⟨_, rfl⟩
    have hX := UBox.new hu'
    rw [hw5_] at hX
    have hKb : Kp [] w1 w4_ := by rw [← hw5_]; exact (Kp.refl [] w1).alloc _
    have KK6_ := Lib.hid (KK2_.out.trans hKb)
    have EE7_ := Lib.hid (EE3_.out.kp hKb (by simp))
    clear KK2_ EE3_
    have HX8_ := Lib.hid hX
    clear hX hKb
    clear hK hB hp hh hu'
    obtain ⟨a9_, c9_, d9_, e9_, hc9_, hi9_⟩ := HX8_.out.in
    have b9_x0 := hc9_ 0
    have b9_x1 := hc9_ 1
    have b9_x2 := hc9_ 2
    have b9_x3 := hc9_ 3
    have b9_x4 := hc9_ 4
    have b9_x5 := hc9_ 5
    have In9_ := Lib.hid hi9_
    clear hc9_ hi9_
    go_wp2_with fail
    refine (same_u _ _ _ _ u nilU _ In9_.out (UriIn.nil _ _) (Nat.le_refl _) (Nat.le_refl _) (by omega) (by omega) (by decide) (by decide)).mono ?_
    rintro e w2 ⟨rfl, hK⟩
    rw [HSm.out]
    have HX10_ := Lib.hid (HX8_.out.kpn hK)
    have KK11_ := Lib.hid (KK6_.out.trans hK)
    have EE12_ := Lib.hid (EE7_.out.kp hK (by simp))
    clear HX8_ KK6_ EE7_
    clear hK
    clear b9_x0 b9_x1 b9_x2 b9_x3 b9_x4 b9_x5 In9_
    go_wp2_with fail
    refine (awake_any _ EE12_.out).mono ?_
    rintro e w3 ⟨rfl, hK⟩
    have HX13_ := Lib.hid (HX10_.out.kpn hK)
    have KK14_ := Lib.hid (KK11_.out.trans hK)
    have EE15_ := Lib.hid (EE12_.out.kp hK (by simp))
    clear HX10_ KK11_ EE12_
    clear hK
    go_wp2_with fail
    go_ret
    exact ⟨rfl, KK14_.out⟩
end Ad
end Go.Proofs.YtjkkcoiebnmkcaaGreatDoor
