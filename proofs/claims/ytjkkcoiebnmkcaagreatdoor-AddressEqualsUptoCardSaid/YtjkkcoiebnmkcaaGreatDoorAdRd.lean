/- AddressRound of package dialtonelaw02 returns true for every URI of moderate size, and nothing that was there is changed. -/
import Derived.Test.YtjkkcoiebnmkcaaGreatDoorM8
namespace Go.Proofs.YtjkkcoiebnmkcaaGreatDoor
namespace Ad
open Go.RowKit Lx

theorem UriIn.up {B B' : Nat} {w : World} {v : Value} {u : Uri} (h : UriIn B w v u) (hB : B ≤ B') : UriIn B' w v u := by
  obtain ⟨vp, vh, he, h1, h2⟩ := h
  exact ⟨vp, vh, he, h1.more hB, h2.more hB⟩
theorem print_none (u : Uri) (h : normal u = none) : printO u = none := by unfold printO; rw [h]; rfl
theorem print_some (u n : Uri) (h : normal u = some n) : printO u = some (textU n) := by unfold printO; rw [h]; rfl
set_option maxRecDepth 100000 in
set_option maxHeartbeats 16000000 in
theorem round_law (B : Nat) (v : Value) (u : Uri) (w : World) (hU : UriIn B w v u) (hB : B ≤ w.heap.size) (hz : SzU u) (hzh : u.host.length ≤ 1048576) (E : Env w) : Calls Tryz.prog 9 #[v] w (BoK true w) := by
  have HE := Lib.hid E
  have HK := Lib.hid (Kp.refl [] w)
  have HSz := Lib.hid hz
  have k1 := hz.params
  have k2 := hz.heads
  clear E hz
  have hu' := hU.up hB
  obtain ⟨vp, vh, rfl, hp, hh⟩ := hU
  obtain ⟨A1_, C1_, rfl⟩ := hp.form
  obtain ⟨D1_, F1_, rfl⟩ := hh.form
  clear hp hh
  obtain ⟨w2_, hw3_⟩ : ∃ wz_, w.alloc (.cells #[.string (Txt u.scheme), .string (Txt u.user), .string (Txt u.host), .int .i64 u.port, .slice A1_ u.params.length C1_, .slice D1_ u.heads.length F1_] 42) = wz_ := ⟨_, rfl⟩
  have hX := UBox.new hu'
  rw [hw3_] at hX
  have hKb : Kp [] w w2_ := by rw [← hw3_]; exact (Kp.refl [] w).alloc _
  have KK4_ := Lib.hid (HK.out.trans hKb)
  have EE5_ := Lib.hid (HE.out.kp hKb (by simp))
  have HX6_ := Lib.hid hX
  clear hX hKb
  clear hu'
  by_cases h40 : 40 < u.params.length + u.heads.length
  · go_enter Tryz.func9, Tryz.ntmps9
    go_upto_region 1 with fail
    obtain ⟨a7_, c7_, d7_, e7_, hc7_, hi7_⟩ := HX6_.out.in
    have b7_x0 := hc7_ 0
    have b7_x1 := hc7_ 1
    have b7_x2 := hc7_ 2
    have b7_x3 := hc7_ 3
    have b7_x4 := hc7_ 4
    have b7_x5 := hc7_ 5
    have In7_ := Lib.hid hi7_
    clear hc7_ hi7_
    go_wp2_with fail
    refine (awake_any _ EE5_.out).mono ?_
    rintro e w1 ⟨rfl, hK⟩
    have HX8_ := Lib.hid (HX6_.out.kpn hK)
    have KK9_ := Lib.hid (KK4_.out.trans hK)
    have EE10_ := Lib.hid (EE5_.out.kp hK (by simp))
    clear HX6_ KK4_ EE5_
    clear hK
    clear b7_x0 b7_x1 b7_x2 b7_x3 b7_x4 b7_x5 In7_
    go_wp2_with fail
    go_ret
    exact ⟨rfl, KK9_.out⟩
  · obtain ⟨on, hon⟩ : ∃ o, normal u = o := ⟨_, rfl⟩
    cases on with
    | none =>
      have HN := Lib.hid hon
      have HP := Lib.hid (print_none u hon)
      have HQ := Lib.hid (eqU_none u u hon)
      obtain ⟨z, hz⟩ : ∃ z, nilU = z := ⟨_, rfl⟩
      have Hnil := Lib.hid hz
      have HS := Lib.hid (show sameU z nilU = true from by rw [← hz]; exact (sameU_iff _ _).2 rfl)
      have l1 : z.params.length ≤ 0 := by rw [← hz]; exact Nat.le_refl _
      have l2 : z.heads.length ≤ 0 := by rw [← hz]; exact Nat.le_refl _
      have bt : ((Txt []).toList == []) = true := by decide +kernel
      clear hon hz
      go_enter Tryz.func9, Tryz.ntmps9
      go_upto_region 1 with fail
      obtain ⟨a7_, c7_, d7_, e7_, hc7_, hi7_⟩ := HX6_.out.in
      have b7_x0 := hc7_ 0
      have b7_x1 := hc7_ 1
      have b7_x2 := hc7_ 2
      have b7_x3 := hc7_ 3
      have b7_x4 := hc7_ 4
      have b7_x5 := hc7_ 5
      have In7_ := Lib.hid hi7_
      clear hc7_ hi7_
      go_wp2_with fail
      refine (Print_any _ _ u _ In7_.out (Nat.le_refl _) HSz.out hzh EE5_.out).mono ?_
      rw [HP.out]
      rintro e w1 ⟨rfl, hB⟩
      have hK := (Kp.refl [] w2_).below hB
      have HX8_ := Lib.hid (HX6_.out.kpn hK)
      have KK9_ := Lib.hid (KK4_.out.trans hK)
      have EE10_ := Lib.hid (EE5_.out.kp hK (by simp))
      clear HX6_ KK4_ EE5_
      clear hK hB
      simp only [Option.getD_none, Option.isSome_none, Bool.false_eq_true, if_false]
      clear b7_x0 b7_x1 b7_x2 b7_x3 b7_x4 b7_x5 In7_
      obtain ⟨a11_, c11_, d11_, e11_, hc11_, hi11_⟩ := HX8_.out.in
      have b11_x0 := hc11_ 0
      have b11_x1 := hc11_ 1
      have b11_x2 := hc11_ 2
      have b11_x3 := hc11_ 3
      have b11_x4 := hc11_ 4
      have b11_x5 := hc11_ 5
      have In11_ := Lib.hid hi11_
      clear hc11_ hi11_
      go_wp2_with fail
      refine (Normal_any _ _ u _ In11_.out (Nat.le_refl _) HSz.out EE10_.out).mono ?_
      rw [HN.out]
      rintro e w2 ⟨v, rfl, hu, hB⟩
      simp only [Option.getD_none, Option.isSome_none, Bool.false_eq_true, if_false] at hu ⊢
      rw [Hnil.out] at hu
      have hK := (Kp.refl [] w1).below hB
      have hu' := hu
      obtain ⟨vp, vh, rfl, hp, hh⟩ := hu
      obtain ⟨A12_, C12_, rfl⟩ := hp.form
      obtain ⟨D12_, F12_, rfl⟩ := hh.form
      have HX13_ := Lib.hid (HX8_.out.kpn hK)
      have KK14_ := Lib.hid (KK9_.out.trans hK)
      have EE15_ := Lib.hid (EE10_.out.kp hK (by simp))
      clear HX8_ KK9_ EE10_
      clear b11_x0 b11_x1 b11_x2 b11_x3 b11_x4 b11_x5 In11_
      obtain ⟨w16_, hw17_⟩ : ∃ wz_, w2.alloc (.cells #[.string (Txt z.scheme), .string (Txt z.user), .string (Txt z.host), .int .i64 z.port, .slice A12_ z.params.length C12_, .slice D12_ z.heads.length F12_] 42) = wz_ := ⟨_, rfl⟩
      have hX := UBox.new hu'
      rw [hw17_] at hX
      have hKb : Kp [] w2 w16_ := by rw [← hw17_]; exact (Kp.refl [] w2).alloc _
      have HX18_ := Lib.hid (HX13_.out.kpn hKb)
      have KK19_ := Lib.hid (KK14_.out.trans hKb)
      have EE20_ := Lib.hid (EE15_.out.kp hKb (by simp))
      clear HX13_ KK14_ EE15_
      have HX21_ := Lib.hid hX
      clear hX hKb
      clear hK hB hp hh hu'
      obtain ⟨a22_, c22_, d22_, e22_, hc22_, hi22_⟩ := HX21_.out.in
      have b22_x0 := hc22_ 0
      have b22_x1 := hc22_ 1
      have b22_x2 := hc22_ 2
      have b22_x3 := hc22_ 3
      have b22_x4 := hc22_ 4
      have b22_x5 := hc22_ 5
      have In22_ := Lib.hid hi22_
      clear hc22_ hi22_
      go_wp2_with fail
      refine (same_u _ _ _ _ z nilU _ In22_.out (UriIn.nil _ _) (Nat.le_refl _) (Nat.le_refl _) (by omega) (by omega) (by decide) (by decide)).mono ?_
      rintro e w3 ⟨rfl, hK⟩
      rw [HS.out]
      have HX23_ := Lib.hid (HX18_.out.kpn hK)
      have HX24_ := Lib.hid (HX21_.out.kpn hK)
      have KK25_ := Lib.hid (KK19_.out.trans hK)
      have EE26_ := Lib.hid (EE20_.out.kp hK (by simp))
      clear HX18_ HX21_ KK19_ EE20_
      clear hK
      clear b22_x0 b22_x1 b22_x2 b22_x3 b22_x4 b22_x5 In22_
      obtain ⟨a27_, c27_, d27_, e27_, hc27_, hi27_⟩ := HX23_.out.in
      have b27_x0 := hc27_ 0
      have b27_x1 := hc27_ 1
      have b27_x2 := hc27_ 2
      have b27_x3 := hc27_ 3
      have b27_x4 := hc27_ 4
      have b27_x5 := hc27_ 5
      have In27_ := Lib.hid hi27_
      clear hc27_ hi27_
      go_wp2_with fail
      refine (equal_any _ _ _ _ u u _ In27_.out In27_.out (Nat.le_refl _) (Nat.le_refl _) HSz.out HSz.out EE26_.out).mono ?_
      rintro e w4 ⟨rfl, hK⟩
      rw [HQ.out]
      have HX28_ := Lib.hid (HX23_.out.kpn hK)
      have HX29_ := Lib.hid (HX24_.out.kpn hK)
      have KK30_ := Lib.hid (KK25_.out.trans hK)
      have EE31_ := Lib.hid (EE26_.out.kp hK (by simp))
      clear HX23_ HX24_ KK25_ EE26_
      clear hK
      clear b27_x0 b27_x1 b27_x2 b27_x3 b27_x4 b27_x5 In27_
      go_wp2_with fail
      refine (awake_any _ EE31_.out).mono ?_
      rintro e w5 ⟨rfl, hK⟩
      have HX32_ := Lib.hid (HX28_.out.kpn hK)
      have HX33_ := Lib.hid (HX29_.out.kpn hK)
      have KK34_ := Lib.hid (KK30_.out.trans hK)
      have EE35_ := Lib.hid (EE31_.out.kp hK (by simp))
      clear HX28_ HX29_ KK30_ EE31_
      clear hK
      go_wp2_with fail
      go_ret
      exact ⟨rfl, KK34_.out⟩
    | some n =>
      have nf := normal_NF u n hon
      have HN := Lib.hid hon
      have HN2 := Lib.hid nf.normal
      have HP := Lib.hid (print_some u n hon)
      have HQ1 := Lib.hid (eqU_normal u n hon)
      have HQ2 := Lib.hid (eqU_refl u n hon)
      have HSn := Lib.hid (normal_szU u n HSz.out hzh hon)
      have HS := Lib.hid (show sameU n n = true from (sameU_iff _ _).2 rfl)
      have l1 := nf.params.len
      have l2 := nf.heads.len
      obtain ⟨t, ht⟩ : ∃ t, textU n = t := ⟨_, rfl⟩
      have HT := Lib.hid ht
      have HPt := Lib.hid (show (textU n).length ≤ 1024 → parse (textU n) = (n, 0, 0) from parse_text n nf)
      clear hon nf ht
      by_cases hl : 1024 < (Txt t).size
      · go_enter Tryz.func9, Tryz.ntmps9
        go_upto_region 1 with fail
        obtain ⟨a7_, c7_, d7_, e7_, hc7_, hi7_⟩ := HX6_.out.in
        have b7_x0 := hc7_ 0
        have b7_x1 := hc7_ 1
        have b7_x2 := hc7_ 2
        have b7_x3 := hc7_ 3
        have b7_x4 := hc7_ 4
        have b7_x5 := hc7_ 5
        have In7_ := Lib.hid hi7_
        clear hc7_ hi7_
        go_wp2_with fail
        refine (Print_any _ _ u _ In7_.out (Nat.le_refl _) HSz.out hzh EE5_.out).mono ?_
        rw [HP.out]
        rintro e w1 ⟨rfl, hB⟩
        have hK := (Kp.refl [] w2_).below hB
        have HX8_ := Lib.hid (HX6_.out.kpn hK)
        have KK9_ := Lib.hid (KK4_.out.trans hK)
        have EE10_ := Lib.hid (EE5_.out.kp hK (by simp))
        clear HX6_ KK4_ EE5_
        clear hK hB
        dsimp only [Option.getD_some, Option.isSome_some, if_true]
        clear b7_x0 b7_x1 b7_x2 b7_x3 b7_x4 b7_x5 In7_
        rw [HT.out]
        obtain ⟨a11_, c11_, d11_, e11_, hc11_, hi11_⟩ := HX8_.out.in
        have b11_x0 := hc11_ 0
        have b11_x1 := hc11_ 1
        have b11_x2 := hc11_ 2
        have b11_x3 := hc11_ 3
        have b11_x4 := hc11_ 4
        have b11_x5 := hc11_ 5
        have In11_ := Lib.hid hi11_
        clear hc11_ hi11_
        go_wp2_with fail
        refine (Normal_any _ _ u _ In11_.out (Nat.le_refl _) HSz.out EE10_.out).mono ?_
        rw [HN.out]
        rintro e w2 ⟨v, rfl, hu, hB⟩
        simp only [Option.getD_some, Option.isSome_some, if_true] at hu ⊢
        have hK := (Kp.refl [] w1).below hB
        have hu' := hu
        obtain ⟨vp, vh, rfl, hp, hh⟩ := hu
        obtain ⟨A12_, C12_, rfl⟩ := hp.form
        obtain ⟨D12_, F12_, rfl⟩ := hh.form
        have HX13_ := Lib.hid (HX8_.out.kpn hK)
        have KK14_ := Lib.hid (KK9_.out.trans hK)
        have EE15_ := Lib.hid (EE10_.out.kp hK (by simp))
        clear HX8_ KK9_ EE10_
        clear b11_x0 b11_x1 b11_x2 b11_x3 b11_x4 b11_x5 In11_
        obtain ⟨w16_, hw17_⟩ : ∃ wz_, w2.alloc (.cells #[.string (Txt n.scheme), .string (Txt n.user), .string (Txt n.host), .int .i64 n.port, .slice A12_ n.params.length C12_, .slice D12_ n.heads.length F12_] 42) = wz_ := ⟨_, rfl⟩
        have hX := UBox.new hu'
        rw [hw17_] at hX
        have hKb : Kp [] w2 w16_ := by rw [← hw17_]; exact (Kp.refl [] w2).alloc _
        have HX18_ := Lib.hid (HX13_.out.kpn hKb)
        have KK19_ := Lib.hid (KK14_.out.trans hKb)
        have EE20_ := Lib.hid (EE15_.out.kp hKb (by simp))
        clear HX13_ KK14_ EE15_
        have HX21_ := Lib.hid hX
        clear hX hKb
        clear hK hB hp hh hu'
        obtain ⟨a22_, c22_, d22_, e22_, hc22_, hi22_⟩ := HX21_.out.in
        have b22_x0 := hc22_ 0
        have b22_x1 := hc22_ 1
        have b22_x2 := hc22_ 2
        have b22_x3 := hc22_ 3
        have b22_x4 := hc22_ 4
        have b22_x5 := hc22_ 5
        have In22_ := Lib.hid hi22_
        clear hc22_ hi22_
        go_wp2_with fail
        refine (Normal_any _ _ n _ In22_.out (Nat.le_refl _) HSn.out EE20_.out).mono ?_
        rw [HN2.out]
        rintro e w3 ⟨v, rfl, hu, hB⟩
        simp only [Option.getD_some, Option.isSome_some, if_true] at hu ⊢
        have hK := (Kp.refl [] w16_).below hB
        have hu' := hu
        obtain ⟨vp, vh, rfl, hp, hh⟩ := hu
        obtain ⟨A23_, C23_, rfl⟩ := hp.form
        obtain ⟨D23_, F23_, rfl⟩ := hh.form
        have HX24_ := Lib.hid (HX18_.out.kpn hK)
        have HX25_ := Lib.hid (HX21_.out.kpn hK)
        have KK26_ := Lib.hid (KK19_.out.trans hK)
        have EE27_ := Lib.hid (EE20_.out.kp hK (by simp))
        clear HX18_ HX21_ KK19_ EE20_
        clear b22_x0 b22_x1 b22_x2 b22_x3 b22_x4 b22_x5 In22_
        obtain ⟨w28_, hw29_⟩ : ∃ wz_, w3.alloc (.cells #[.string (Txt n.scheme), .string (Txt n.user), .string (Txt n.host), .int .i64 n.port, .slice A23_ n.params.length C23_, .slice D23_ n.heads.length F23_] 42) = wz_ := ⟨_, rfl⟩
        have hX := UBox.new hu'
        rw [hw29_] at hX
        have hKb : Kp [] w3 w28_ := by rw [← hw29_]; exact (Kp.refl [] w3).alloc _
        have HX30_ := Lib.hid (HX24_.out.kpn hKb)
        have HX31_ := Lib.hid (HX25_.out.kpn hKb)
        have KK32_ := Lib.hid (KK26_.out.trans hKb)
        have EE33_ := Lib.hid (EE27_.out.kp hKb (by simp))
        clear HX24_ HX25_ KK26_ EE27_
        have HX34_ := Lib.hid hX
        clear hX hKb
        clear hK hB hp hh hu'
        obtain ⟨a35_, c35_, d35_, e35_, hc35_, hi35_⟩ := HX31_.out.in
        have b35_x0 := hc35_ 0
        have b35_x1 := hc35_ 1
        have b35_x2 := hc35_ 2
        have b35_x3 := hc35_ 3
        have b35_x4 := hc35_ 4
        have b35_x5 := hc35_ 5
        have In35_ := Lib.hid hi35_
        clear hc35_ hi35_
        obtain ⟨a36_, c36_, d36_, e36_, hc36_, hi36_⟩ := HX34_.out.in
        have b36_x0 := hc36_ 0
        have b36_x1 := hc36_ 1
        have b36_x2 := hc36_ 2
        have b36_x3 := hc36_ 3
        have b36_x4 := hc36_ 4
        have b36_x5 := hc36_ 5
        have In36_ := Lib.hid hi36_
        clear hc36_ hi36_
        go_wp2_with fail
        refine (same_u _ _ _ _ n n _ In35_.out In36_.out (Nat.le_refl _) (Nat.le_refl _) (by omega) (by omega) (by omega) (by omega)).mono ?_
        rintro e w4 ⟨rfl, hK⟩
        rw [HS.out]
        have HX37_ := Lib.hid (HX30_.out.kpn hK)
        have HX38_ := Lib.hid (HX31_.out.kpn hK)
        have HX39_ := Lib.hid (HX34_.out.kpn hK)
        have KK40_ := Lib.hid (KK32_.out.trans hK)
        have EE41_ := Lib.hid (EE33_.out.kp hK (by simp))
        clear HX30_ HX31_ HX34_ KK32_ EE33_
        clear hK
        clear b35_x0 b35_x1 b35_x2 b35_x3 b35_x4 b35_x5 In35_ b36_x0 b36_x1 b36_x2 b36_x3 b36_x4 b36_x5 In36_
        obtain ⟨a42_, c42_, d42_, e42_, hc42_, hi42_⟩ := HX37_.out.in
        have b42_x0 := hc42_ 0
        have b42_x1 := hc42_ 1
        have b42_x2 := hc42_ 2
        have b42_x3 := hc42_ 3
        have b42_x4 := hc42_ 4
        have b42_x5 := hc42_ 5
        have In42_ := Lib.hid hi42_
        clear hc42_ hi42_
        obtain ⟨a43_, c43_, d43_, e43_, hc43_, hi43_⟩ := HX38_.out.in
        have b43_x0 := hc43_ 0
        have b43_x1 := hc43_ 1
        have b43_x2 := hc43_ 2
        have b43_x3 := hc43_ 3
        have b43_x4 := hc43_ 4
        have b43_x5 := hc43_ 5
        have In43_ := Lib.hid hi43_
        clear hc43_ hi43_
        go_wp2_with fail
        refine (equal_any _ _ _ _ u n _ In42_.out In43_.out (Nat.le_refl _) (Nat.le_refl _) HSz.out HSn.out EE41_.out).mono ?_
        rintro e w5 ⟨rfl, hK⟩
        rw [HQ1.out]
        have HX44_ := Lib.hid (HX37_.out.kpn hK)
        have HX45_ := Lib.hid (HX38_.out.kpn hK)
        have HX46_ := Lib.hid (HX39_.out.kpn hK)
        have KK47_ := Lib.hid (KK40_.out.trans hK)
        have EE48_ := Lib.hid (EE41_.out.kp hK (by simp))
        clear HX37_ HX38_ HX39_ KK40_ EE41_
        clear hK
        clear b42_x0 b42_x1 b42_x2 b42_x3 b42_x4 b42_x5 In42_ b43_x0 b43_x1 b43_x2 b43_x3 b43_x4 b43_x5 In43_
        obtain ⟨a49_, c49_, d49_, e49_, hc49_, hi49_⟩ := HX44_.out.in
        have b49_x0 := hc49_ 0
        have b49_x1 := hc49_ 1
        have b49_x2 := hc49_ 2
        have b49_x3 := hc49_ 3
        have b49_x4 := hc49_ 4
        have b49_x5 := hc49_ 5
        have In49_ := Lib.hid hi49_
        clear hc49_ hi49_
        go_wp2_with fail
        refine (equal_any _ _ _ _ u u _ In49_.out In49_.out (Nat.le_refl _) (Nat.le_refl _) HSz.out HSz.out EE48_.out).mono ?_
        rintro e w6 ⟨rfl, hK⟩
        rw [HQ2.out]
        have HX50_ := Lib.hid (HX44_.out.kpn hK)
        have HX51_ := Lib.hid (HX45_.out.kpn hK)
        have HX52_ := Lib.hid (HX46_.out.kpn hK)
        have KK53_ := Lib.hid (KK47_.out.trans hK)
        have EE54_ := Lib.hid (EE48_.out.kp hK (by simp))
        clear HX44_ HX45_ HX46_ KK47_ EE48_
        clear hK
        clear b49_x0 b49_x1 b49_x2 b49_x3 b49_x4 b49_x5 In49_
        go_wp2_with fail
        refine (awake_any _ EE54_.out).mono ?_
        rintro e w7 ⟨rfl, hK⟩
        have HX55_ := Lib.hid (HX50_.out.kpn hK)
        have HX56_ := Lib.hid (HX51_.out.kpn hK)
        have HX57_ := Lib.hid (HX52_.out.kpn hK)
        have KK58_ := Lib.hid (KK53_.out.trans hK)
        have EE59_ := Lib.hid (EE54_.out.kp hK (by simp))
        clear HX50_ HX51_ HX52_ KK53_ EE54_
        clear hK
        go_wp2_with fail
        go_ret
        exact ⟨rfl, KK58_.out⟩
      · go_enter Tryz.func9, Tryz.ntmps9
        go_upto_region 1 with fail
        obtain ⟨a7_, c7_, d7_, e7_, hc7_, hi7_⟩ := HX6_.out.in
        have b7_x0 := hc7_ 0
        have b7_x1 := hc7_ 1
        have b7_x2 := hc7_ 2
        have b7_x3 := hc7_ 3
        have b7_x4 := hc7_ 4
        have b7_x5 := hc7_ 5
        have In7_ := Lib.hid hi7_
        clear hc7_ hi7_
        go_wp2_with fail
        refine (Print_any _ _ u _ In7_.out (Nat.le_refl _) HSz.out hzh EE5_.out).mono ?_
        rw [HP.out]
        rintro e w1 ⟨rfl, hB⟩
        have hK := (Kp.refl [] w2_).below hB
        have HX8_ := Lib.hid (HX6_.out.kpn hK)
        have KK9_ := Lib.hid (KK4_.out.trans hK)
        have EE10_ := Lib.hid (EE5_.out.kp hK (by simp))
        clear HX6_ KK4_ EE5_
        clear hK hB
        dsimp only [Option.getD_some, Option.isSome_some, if_true]
        clear b7_x0 b7_x1 b7_x2 b7_x3 b7_x4 b7_x5 In7_
        rw [HT.out]
        obtain ⟨a11_, c11_, d11_, e11_, hc11_, hi11_⟩ := HX8_.out.in
        have b11_x0 := hc11_ 0
        have b11_x1 := hc11_ 1
        have b11_x2 := hc11_ 2
        have b11_x3 := hc11_ 3
        have b11_x4 := hc11_ 4
        have b11_x5 := hc11_ 5
        have In11_ := Lib.hid hi11_
        clear hc11_ hi11_
        go_wp2_with fail
        refine (Normal_any _ _ u _ In11_.out (Nat.le_refl _) HSz.out EE10_.out).mono ?_
        rw [HN.out]
        rintro e w2 ⟨v, rfl, hu, hB⟩
        simp only [Option.getD_some, Option.isSome_some, if_true] at hu ⊢
        have hK := (Kp.refl [] w1).below hB
        have hu' := hu
        obtain ⟨vp, vh, rfl, hp, hh⟩ := hu
        obtain ⟨A12_, C12_, rfl⟩ := hp.form
        obtain ⟨D12_, F12_, rfl⟩ := hh.form
        have HX13_ := Lib.hid (HX8_.out.kpn hK)
        have KK14_ := Lib.hid (KK9_.out.trans hK)
        have EE15_ := Lib.hid (EE10_.out.kp hK (by simp))
        clear HX8_ KK9_ EE10_
        clear b11_x0 b11_x1 b11_x2 b11_x3 b11_x4 b11_x5 In11_
        obtain ⟨w16_, hw17_⟩ : ∃ wz_, w2.alloc (.cells #[.string (Txt n.scheme), .string (Txt n.user), .string (Txt n.host), .int .i64 n.port, .slice A12_ n.params.length C12_, .slice D12_ n.heads.length F12_] 42) = wz_ := ⟨_, rfl⟩
        have hX := UBox.new hu'
        rw [hw17_] at hX
        have hKb : Kp [] w2 w16_ := by rw [← hw17_]; exact (Kp.refl [] w2).alloc _
        have HX18_ := Lib.hid (HX13_.out.kpn hKb)
        have KK19_ := Lib.hid (KK14_.out.trans hKb)
        have EE20_ := Lib.hid (EE15_.out.kp hKb (by simp))
        clear HX13_ KK14_ EE15_
        have HX21_ := Lib.hid hX
        clear hX hKb
        clear hK hB hp hh hu'
        obtain ⟨a22_, c22_, d22_, e22_, hc22_, hi22_⟩ := HX21_.out.in
        have b22_x0 := hc22_ 0
        have b22_x1 := hc22_ 1
        have b22_x2 := hc22_ 2
        have b22_x3 := hc22_ 3
        have b22_x4 := hc22_ 4
        have b22_x5 := hc22_ 5
        have In22_ := Lib.hid hi22_
        clear hc22_ hi22_
        go_wp2_with fail
        refine (Normal_any _ _ n _ In22_.out (Nat.le_refl _) HSn.out EE20_.out).mono ?_
        rw [HN2.out]
        rintro e w3 ⟨v, rfl, hu, hB⟩
        simp only [Option.getD_some, Option.isSome_some, if_true] at hu ⊢
        have hK := (Kp.refl [] w16_).below hB
        have hu' := hu
        obtain ⟨vp, vh, rfl, hp, hh⟩ := hu
        obtain ⟨A23_, C23_, rfl⟩ := hp.form
        obtain ⟨D23_, F23_, rfl⟩ := hh.form
        have HX24_ := Lib.hid (HX18_.out.kpn hK)
        have HX25_ := Lib.hid (HX21_.out.kpn hK)
        have KK26_ := Lib.hid (KK19_.out.trans hK)
        have EE27_ := Lib.hid (EE20_.out.kp hK (by simp))
        clear HX18_ HX21_ KK19_ EE20_
        clear b22_x0 b22_x1 b22_x2 b22_x3 b22_x4 b22_x5 In22_
        obtain ⟨w28_, hw29_⟩ : ∃ wz_, w3.alloc (.cells #[.string (Txt n.scheme), .string (Txt n.user), .string (Txt n.host), .int .i64 n.port, .slice A23_ n.params.length C23_, .slice D23_ n.heads.length F23_] 42) = wz_ := ⟨_, rfl⟩
        have hX := UBox.new hu'
        rw [hw29_] at hX
        have hKb : Kp [] w3 w28_ := by rw [← hw29_]; exact (Kp.refl [] w3).alloc _
        have HX30_ := Lib.hid (HX24_.out.kpn hKb)
        have HX31_ := Lib.hid (HX25_.out.kpn hKb)
        have KK32_ := Lib.hid (KK26_.out.trans hKb)
        have EE33_ := Lib.hid (EE27_.out.kp hKb (by simp))
        clear HX24_ HX25_ KK26_ EE27_
        have HX34_ := Lib.hid hX
        clear hX hKb
        clear hK hB hp hh hu'
        obtain ⟨a35_, c35_, d35_, e35_, hc35_, hi35_⟩ := HX31_.out.in
        have b35_x0 := hc35_ 0
        have b35_x1 := hc35_ 1
        have b35_x2 := hc35_ 2
        have b35_x3 := hc35_ 3
        have b35_x4 := hc35_ 4
        have b35_x5 := hc35_ 5
        have In35_ := Lib.hid hi35_
        clear hc35_ hi35_
        obtain ⟨a36_, c36_, d36_, e36_, hc36_, hi36_⟩ := HX34_.out.in
        have b36_x0 := hc36_ 0
        have b36_x1 := hc36_ 1
        have b36_x2 := hc36_ 2
        have b36_x3 := hc36_ 3
        have b36_x4 := hc36_ 4
        have b36_x5 := hc36_ 5
        have In36_ := Lib.hid hi36_
        clear hc36_ hi36_
        go_wp2_with fail
        refine (same_u _ _ _ _ n n _ In35_.out In36_.out (Nat.le_refl _) (Nat.le_refl _) (by omega) (by omega) (by omega) (by omega)).mono ?_
        rintro e w4 ⟨rfl, hK⟩
        rw [HS.out]
        have HX37_ := Lib.hid (HX30_.out.kpn hK)
        have HX38_ := Lib.hid (HX31_.out.kpn hK)
        have HX39_ := Lib.hid (HX34_.out.kpn hK)
        have KK40_ := Lib.hid (KK32_.out.trans hK)
        have EE41_ := Lib.hid (EE33_.out.kp hK (by simp))
        clear HX30_ HX31_ HX34_ KK32_ EE33_
        clear hK
        clear b35_x0 b35_x1 b35_x2 b35_x3 b35_x4 b35_x5 In35_ b36_x0 b36_x1 b36_x2 b36_x3 b36_x4 b36_x5 In36_
        obtain ⟨a42_, c42_, d42_, e42_, hc42_, hi42_⟩ := HX37_.out.in
        have b42_x0 := hc42_ 0
        have b42_x1 := hc42_ 1
        have b42_x2 := hc42_ 2
        have b42_x3 := hc42_ 3
        have b42_x4 := hc42_ 4
        have b42_x5 := hc42_ 5
        have In42_ := Lib.hid hi42_
        clear hc42_ hi42_
        obtain ⟨a43_, c43_, d43_, e43_, hc43_, hi43_⟩ := HX38_.out.in
        have b43_x0 := hc43_ 0
        have b43_x1 := hc43_ 1
        have b43_x2 := hc43_ 2
        have b43_x3 := hc43_ 3
        have b43_x4 := hc43_ 4
        have b43_x5 := hc43_ 5
        have In43_ := Lib.hid hi43_
        clear hc43_ hi43_
        go_wp2_with fail
        refine (equal_any _ _ _ _ u n _ In42_.out In43_.out (Nat.le_refl _) (Nat.le_refl _) HSz.out HSn.out EE41_.out).mono ?_
        rintro e w5 ⟨rfl, hK⟩
        rw [HQ1.out]
        have HX44_ := Lib.hid (HX37_.out.kpn hK)
        have HX45_ := Lib.hid (HX38_.out.kpn hK)
        have HX46_ := Lib.hid (HX39_.out.kpn hK)
        have KK47_ := Lib.hid (KK40_.out.trans hK)
        have EE48_ := Lib.hid (EE41_.out.kp hK (by simp))
        clear HX37_ HX38_ HX39_ KK40_ EE41_
        clear hK
        clear b42_x0 b42_x1 b42_x2 b42_x3 b42_x4 b42_x5 In42_ b43_x0 b43_x1 b43_x2 b43_x3 b43_x4 b43_x5 In43_
        obtain ⟨a49_, c49_, d49_, e49_, hc49_, hi49_⟩ := HX44_.out.in
        have b49_x0 := hc49_ 0
        have b49_x1 := hc49_ 1
        have b49_x2 := hc49_ 2
        have b49_x3 := hc49_ 3
        have b49_x4 := hc49_ 4
        have b49_x5 := hc49_ 5
        have In49_ := Lib.hid hi49_
        clear hc49_ hi49_
        go_wp2_with fail
        refine (equal_any _ _ _ _ u u _ In49_.out In49_.out (Nat.le_refl _) (Nat.le_refl _) HSz.out HSz.out EE48_.out).mono ?_
        rintro e w6 ⟨rfl, hK⟩
        rw [HQ2.out]
        have HX50_ := Lib.hid (HX44_.out.kpn hK)
        have HX51_ := Lib.hid (HX45_.out.kpn hK)
        have HX52_ := Lib.hid (HX46_.out.kpn hK)
        have KK53_ := Lib.hid (KK47_.out.trans hK)
        have EE54_ := Lib.hid (EE48_.out.kp hK (by simp))
        clear HX44_ HX45_ HX46_ KK47_ EE48_
        clear hK
        clear b49_x0 b49_x1 b49_x2 b49_x3 b49_x4 b49_x5 In49_
        have P2 := Lib.hid (show Calls Tryz.prog 32 #[.string (Txt t)] w6 (UrP (n, 0, 0) w6) from by have h := Parse_any (Txt t) w6 (by omega) EE54_.out; rw [txt_list, ← HT.out, HPt.out (by rw [HT.out, ← txt_size]; omega), HT.out] at h; exact h)
        go_wp2_with fail
        refine (P2.out).mono ?_
        rintro e w8 ⟨v, rfl, hu, hB⟩
        have hK := (Kp.refl [] w6).below hB
        have hu' := hu
        obtain ⟨vp, vh, rfl, hp, hh⟩ := hu
        obtain ⟨A55_, C55_, rfl⟩ := hp.form
        obtain ⟨D55_, F55_, rfl⟩ := hh.form
        have HX56_ := Lib.hid (HX50_.out.kpn hK)
        have HX57_ := Lib.hid (HX51_.out.kpn hK)
        have HX58_ := Lib.hid (HX52_.out.kpn hK)
        have KK59_ := Lib.hid (KK53_.out.trans hK)
        have EE60_ := Lib.hid (EE54_.out.kp hK (by simp))
        clear HX50_ HX51_ HX52_ KK53_ EE54_
        dsimp only at hu' ⊢
        obtain ⟨w61_, hw62_⟩ : ∃ wz_, w8.alloc (.cells #[.string (Txt n.scheme), .string (Txt n.user), .string (Txt n.host), .int .i64 n.port, .slice A55_ n.params.length C55_, .slice D55_ n.heads.length F55_] 42) = wz_ := ⟨_, rfl⟩
        have hX := UBox.new hu'
        rw [hw62_] at hX
        have hKb : Kp [] w8 w61_ := by rw [← hw62_]; exact (Kp.refl [] w8).alloc _
        have HX63_ := Lib.hid (HX56_.out.kpn hKb)
        have HX64_ := Lib.hid (HX57_.out.kpn hKb)
        have HX65_ := Lib.hid (HX58_.out.kpn hKb)
        have KK66_ := Lib.hid (KK59_.out.trans hKb)
        have EE67_ := Lib.hid (EE60_.out.kp hKb (by simp))
        clear HX56_ HX57_ HX58_ KK59_ EE60_
        have HX68_ := Lib.hid hX
        clear hX hKb
        clear hK hB hp hh hu'
        obtain ⟨a69_, c69_, d69_, e69_, hc69_, hi69_⟩ := HX68_.out.in
        have b69_x0 := hc69_ 0
        have b69_x1 := hc69_ 1
        have b69_x2 := hc69_ 2
        have b69_x3 := hc69_ 3
        have b69_x4 := hc69_ 4
        have b69_x5 := hc69_ 5
        have In69_ := Lib.hid hi69_
        clear hc69_ hi69_
        obtain ⟨a70_, c70_, d70_, e70_, hc70_, hi70_⟩ := HX64_.out.in
        have b70_x0 := hc70_ 0
        have b70_x1 := hc70_ 1
        have b70_x2 := hc70_ 2
        have b70_x3 := hc70_ 3
        have b70_x4 := hc70_ 4
        have b70_x5 := hc70_ 5
        have In70_ := Lib.hid hi70_
        clear hc70_ hi70_
        go_wp2_with fail
        refine (same_u _ _ _ _ n n _ In69_.out In70_.out (Nat.le_refl _) (Nat.le_refl _) (by omega) (by omega) (by omega) (by omega)).mono ?_
        rintro e w9 ⟨rfl, hK⟩
        rw [HS.out]
        have HX71_ := Lib.hid (HX63_.out.kpn hK)
        have HX72_ := Lib.hid (HX64_.out.kpn hK)
        have HX73_ := Lib.hid (HX65_.out.kpn hK)
        have HX74_ := Lib.hid (HX68_.out.kpn hK)
        have KK75_ := Lib.hid (KK66_.out.trans hK)
        have EE76_ := Lib.hid (EE67_.out.kp hK (by simp))
        clear HX63_ HX64_ HX65_ HX68_ KK66_ EE67_
        clear hK
        clear b69_x0 b69_x1 b69_x2 b69_x3 b69_x4 b69_x5 In69_ b70_x0 b70_x1 b70_x2 b70_x3 b70_x4 b70_x5 In70_
        go_wp2_with fail
        refine (awake_any _ EE76_.out).mono ?_
        rintro e w10 ⟨rfl, hK⟩
        have HX77_ := Lib.hid (HX71_.out.kpn hK)
        have HX78_ := Lib.hid (HX72_.out.kpn hK)
        have HX79_ := Lib.hid (HX73_.out.kpn hK)
        have HX80_ := Lib.hid (HX74_.out.kpn hK)
        have KK81_ := Lib.hid (KK75_.out.trans hK)
        have EE82_ := Lib.hid (EE76_.out.kp hK (by simp))
        clear HX71_ HX72_ HX73_ HX74_ KK75_ EE76_
        clear hK
        go_wp2_with fail
        go_ret
        exact ⟨rfl, KK81_.out⟩
end Ad
end Go.Proofs.YtjkkcoiebnmkcaaGreatDoor
