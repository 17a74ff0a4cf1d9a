/- AddressEquals of package dialtonelaw02 returns true for every three URIs of moderate size, and nothing that was there is changed. -/
import Derived.Test.YtjkkcoiebnmkcaaGreatDoorAdUb
import Derived.Test.YtjkkcoiebnmkcaaGreatDoorAdRd
namespace Go.Proofs.YtjkkcoiebnmkcaaGreatDoor
namespace Ad
open Go.RowKit Lx

def zzz : List UInt8 := [122, 122, 122, 32, 122, 122, 122]
def tU1 (n : Uri) : Uri := ⟨n.scheme, n.user, n.host, n.port, turnL n.params, n.heads⟩
def tU2 (n : Uri) : Uri := ⟨n.scheme, n.user ++ [49], n.host, n.port, turnL n.params, turnL n.heads⟩
def tU3 (n : Uri) : Uri := ⟨n.scheme, n.user, n.host, n.port, n.params ++ [(zzz, [], false)], n.heads⟩
theorem eq_chain (a b : Bool) (c : Bool) (h : a = true → b = true → c = true) : (a && (b && !c)) = false := by
  cases a <;> cases b <;> cases c <;> simp at h ⊢
set_option maxRecDepth 100000 in
set_option maxHeartbeats 64000000 in
theorem equals_law (B1 B2 B3 : Nat) (va vb vc : Value) (u v x : Uri) (w : World) (hU : UriIn B1 w va u) (hV : UriIn B2 w vb v) (hX3 : UriIn B3 w vc x) (h1 : B1 ≤ w.heap.size) (h2 : B2 ≤ w.heap.size) (h3 : B3 ≤ w.heap.size) (zu : SzU u) (zv : SzU v) (zx : SzU x) (zhu : u.host.length ≤ 1048576) (zus : u.user.length ≤ 1048576) (E : Env w) : Calls Tryz.prog 11 #[va, vb, vc] w (BoK true w) := by
  have HE := Lib.hid E
  have HK := Lib.hid (Kp.refl [] w)
  have Zu := Lib.hid zu
  have Zv := Lib.hid zv
  have Zx := Lib.hid zx
  have k1 := zu.params
  have k2 := zu.heads
  have k3 := zv.params
  have k4 := zv.heads
  have k5 := zx.params
  have k6 := zx.heads
  have hE7 := E.sz
  clear E zu zv zx
  have HV := Lib.hid (hV.up h2)
  have HX3 := Lib.hid (hX3.up h3)
  have hu' := hU.up h1
  obtain ⟨vp, vh, rfl, hp, hh⟩ := hU
  obtain ⟨A2_, C2_, rfl⟩ := hp.form
  obtain ⟨D2_, F2_, rfl⟩ := hh.form
  clear hp hh
  obtain ⟨vp, vh, rfl, hp, hh⟩ := hV
  obtain ⟨Av, Cv, rfl⟩ := hp.form
  obtain ⟨Dv, Fv, rfl⟩ := hh.form
  clear hp hh
  obtain ⟨vp, vh, rfl, hp, hh⟩ := hX3
  obtain ⟨Ax, Cx, rfl⟩ := hp.form
  obtain ⟨Dx, Fx, rfl⟩ := hh.form
  clear hp hh
  obtain ⟨w3_, hw4_⟩ : ∃ wz_, w.alloc (.cells #[.string (Txt u.scheme), .string (Txt u.user), .string (Txt u.host), .int .i64 u.port, .slice A2_ u.params.length C2_, .slice D2_ u.heads.length F2_] 42) = wz_ := ⟨_, rfl⟩
  have hX := UBox.new hu'
  rw [hw4_] at hX
  have hKb : Kp [] w w3_ := by rw [← hw4_]; exact (Kp.refl [] w).alloc _
  have KK5_ := Lib.hid (HK.out.trans hKb)
  have EE6_ := Lib.hid (HE.out.kp hKb (by simp))
  have HX7_ := Lib.hid hX
  clear hX hKb
  clear hu'
  have hvu := HV.out.kpn (show Kp [] w w3_ from KK5_.out)
  obtain ⟨w8_, hw9_⟩ : ∃ wz_, w3_.alloc (.cells #[.string (Txt v.scheme), .string (Txt v.user), .string (Txt v.host), .int .i64 v.port, .slice Av v.params.length Cv, .slice Dv v.heads.length Fv] 42) = wz_ := ⟨_, rfl⟩
  have hX := UBox.new hvu
  rw [hw9_] at hX
  have hKb : Kp [] w3_ w8_ := by rw [← hw9_]; exact (Kp.refl [] w3_).alloc _
  have HX10_ := Lib.hid (HX7_.out.kpn hKb)
  have KK11_ := Lib.hid (KK5_.out.trans hKb)
  have EE12_ := Lib.hid (EE6_.out.kp hKb (by simp))
  clear HX7_ KK5_ EE6_
  have HX13_ := Lib.hid hX
  clear hX hKb
  have hxv := HX3.out.kpn (show Kp [] w w8_ from KK11_.out)
  clear hvu HV HX3
  obtain ⟨w14_, hw15_⟩ : ∃ wz_, w8_.alloc (.cells #[.string (Txt x.scheme), .string (Txt x.user), .string (Txt x.host), .int .i64 x.port, .slice Ax x.params.length Cx, .slice Dx x.heads.length Fx] 42) = wz_ := ⟨_, rfl⟩
  have hX := UBox.new hxv
  rw [hw15_] at hX
  have hKb : Kp [] w8_ w14_ := by rw [← hw15_]; exact (Kp.refl [] w8_).alloc _
  have HX16_ := Lib.hid (HX10_.out.kpn hKb)
  have HX17_ := Lib.hid (HX13_.out.kpn hKb)
  have KK18_ := Lib.hid (KK11_.out.trans hKb)
  have EE19_ := Lib.hid (EE12_.out.kp hKb (by simp))
  clear HX10_ HX13_ KK11_ EE12_
  have HX20_ := Lib.hid hX
  clear hX hKb
  clear hxv
  
  by_cases h40 : 40 < u.params.length + u.heads.length + v.params.length + v.heads.length + x.params.length + x.heads.length
  · go_enter Tryz.func11, Tryz.ntmps11
    go_upto_region 1 with fail
    obtain ⟨a21_, c21_, d21_, e21_, hc21_, hi21_⟩ := HX16_.out.in
    have b21_x0 := hc21_ 0
    have b21_x1 := hc21_ 1
    have b21_x2 := hc21_ 2
    have b21_x3 := hc21_ 3
    have b21_x4 := hc21_ 4
    have b21_x5 := hc21_ 5
    have In21_ := Lib.hid hi21_
    clear hc21_ hi21_
    obtain ⟨a22_, c22_, d22_, e22_, hc22_, hi22_⟩ := HX17_.out.in
    have b22_x0 := hc22_ 0
    have b22_x1 := hc22_ 1
    have b22_x2 := hc22_ 2
    have b22_x3 := hc22_ 3
    have b22_x4 := hc22_ 4
    have b22_x5 := hc22_ 5
    have In22_ := Lib.hid hi22_
    clear hc22_ hi22_
    obtain ⟨a23_, c23_, d23_, e23_, hc23_, hi23_⟩ := HX20_.out.in
    have b23_x0 := hc23_ 0
    have b23_x1 := hc23_ 1
    have b23_x2 := hc23_ 2
    have b23_x3 := hc23_ 3
    have b23_x4 := hc23_ 4
    have b23_x5 := hc23_ 5
    have In23_ := Lib.hid hi23_
    clear hc23_ hi23_
    go_wp2_with fail
    refine (awake_any _ EE19_.out).mono ?_
    rintro e w1 ⟨rfl, hK⟩
    have HX24_ := Lib.hid (HX16_.out.kpn hK)
    have HX25_ := Lib.hid (HX17_.out.kpn hK)
    have HX26_ := Lib.hid (HX20_.out.kpn hK)
    have KK27_ := Lib.hid (KK18_.out.trans hK)
    have EE28_ := Lib.hid (EE19_.out.kp hK (by simp))
    clear HX16_ HX17_ HX20_ KK18_ EE19_
    clear hK
    clear b21_x0 b21_x1 b21_x2 b21_x3 b21_x4 b21_x5 In21_ b22_x0 b22_x1 b22_x2 b22_x3 b22_x4 b22_x5 In22_ b23_x0 b23_x1 b23_x2 b23_x3 b23_x4 b23_x5 In23_
    go_wp2_with fail
    go_ret
    exact ⟨rfl, KK27_.out⟩
  · obtain ⟨on, hon⟩ : ∃ o, normal u = o := ⟨_, rfl⟩
    obtain ⟨A, hA⟩ : ∃ a, eqU u v = a := ⟨_, rfl⟩
    have hA2 : eqU v u = A := by rw [eqU_symm]; exact hA
    obtain ⟨Bq, hB⟩ : ∃ a, eqU v x = a := ⟨_, rfl⟩
    obtain ⟨Cq, hC⟩ : ∃ a, eqU u x = a := ⟨_, rfl⟩
    have hABC : A = true → Bq = true → Cq = true := fun h1 h2 => by rw [← hC]; exact eqU_trans u v x (hA.trans h1) (hB.trans h2)
    go_enter Tryz.func11, Tryz.ntmps11
    go_upto_region 1 with fail
    obtain ⟨a21_, c21_, d21_, e21_, hc21_, hi21_⟩ := HX16_.out.in
    have b21_x0 := hc21_ 0
    have b21_x1 := hc21_ 1
    have b21_x2 := hc21_ 2
    have b21_x3 := hc21_ 3
    have b21_x4 := hc21_ 4
    have b21_x5 := hc21_ 5
    have In21_ := Lib.hid hi21_
    clear hc21_ hi21_
    obtain ⟨a22_, c22_, d22_, e22_, hc22_, hi22_⟩ := HX17_.out.in
    have b22_x0 := hc22_ 0
    have b22_x1 := hc22_ 1
    have b22_x2 := hc22_ 2
    have b22_x3 := hc22_ 3
    have b22_x4 := hc22_ 4
    have b22_x5 := hc22_ 5
    have In22_ := Lib.hid hi22_
    clear hc22_ hi22_
    obtain ⟨a23_, c23_, d23_, e23_, hc23_, hi23_⟩ := HX20_.out.in
    have b23_x0 := hc23_ 0
    have b23_x1 := hc23_ 1
    have b23_x2 := hc23_ 2
    have b23_x3 := hc23_ 3
    have b23_x4 := hc23_ 4
    have b23_x5 := hc23_ 5
    have In23_ := Lib.hid hi23_
    clear hc23_ hi23_
    go_wp2_with fail
    have g21_x0 := grew_cell b21_x0
    have g21_x1 := grew_cell b21_x1
    have g21_x2 := grew_cell b21_x2
    have g21_x3 := grew_cell b21_x3
    have g21_x4 := grew_cell b21_x4
    have g21_x5 := grew_cell b21_x5
    have g22_x0 := grew_cell b22_x0
    have g22_x1 := grew_cell b22_x1
    have g22_x2 := grew_cell b22_x2
    have g22_x3 := grew_cell b22_x3
    have g22_x4 := grew_cell b22_x4
    have g22_x5 := grew_cell b22_x5
    have g23_x0 := grew_cell b23_x0
    have g23_x1 := grew_cell b23_x1
    have g23_x2 := grew_cell b23_x2
    have g23_x3 := grew_cell b23_x3
    have g23_x4 := grew_cell b23_x4
    have g23_x5 := grew_cell b23_x5
    have Q1 := Lib.hid (fun (n : Gw w14_) => (by have h := equal_any _ _ _ _ u v _ (In21_.out.kpn (grew_kp _ n)) (In22_.out.kpn (grew_kp _ n)) (Nat.le_refl _) (Nat.le_refl _) Zu.out Zv.out (EE19_.out.kp (grew_kp _ n) (by simp)); rw [hA] at h; exact Calls.grew_of h (fun _ _ h => h)))
    have Q2 := Lib.hid (fun (n : Gw w14_) => (by have h := equal_any _ _ _ _ v u _ (In22_.out.kpn (grew_kp _ n)) (In21_.out.kpn (grew_kp _ n)) (Nat.le_refl _) (Nat.le_refl _) Zv.out Zu.out (EE19_.out.kp (grew_kp _ n) (by simp)); rw [hA2] at h; exact Calls.grew_of h (fun _ _ h => h)))
    have Q3 := Lib.hid (fun (n : Gw w14_) => (by have h := equal_any _ _ _ _ v x _ (In22_.out.kpn (grew_kp _ n)) (In23_.out.kpn (grew_kp _ n)) (Nat.le_refl _) (Nat.le_refl _) Zv.out Zx.out (EE19_.out.kp (grew_kp _ n) (by simp)); rw [hB] at h; exact Calls.grew_of h (fun _ _ h => h)))
    have Q4 := Lib.hid (fun (n : Gw w14_) => (by have h := equal_any _ _ _ _ u x _ (In21_.out.kpn (grew_kp _ n)) (In23_.out.kpn (grew_kp _ n)) (Nat.le_refl _) (Nat.le_refl _) Zu.out Zx.out (EE19_.out.kp (grew_kp _ n) (by simp)); rw [hC] at h; exact Calls.grew_of h (fun _ _ h => h)))
    have HA := Lib.hid hA
    have Hon := Lib.hid hon
    clear hA hA2 hB hC hon
    have hreg : A = true → Bq = true → Cq = true := hABC
    clear hABC
    cases A
    · refine wp_region_grew (by kernel_rfl) (by kernel_rfl) ?_
      repeat (go_big_quiet_step ((first
        | (go_at_call 39; with_reducible exact Q1.out _)
        | (go_at_call 39; with_reducible exact Q2.out _)
        | (go_at_call 39; with_reducible exact Q3.out _)
        | (go_at_call 39; with_reducible exact Q4.out _))))
      refine wpQuiet_nil ?_
      intro _ hw'
      obtain ⟨nq, hw''⟩ := hw'
      subst hw''
      have hK := grew_kp w14_ nq
      obtain ⟨w3, hw3e⟩ : ∃ wz_, grew w14_ nq = wz_ := ⟨_, rfl⟩
      rw [hw3e] at hK ⊢
      clear hw3e g21_x0 g21_x1 g21_x2 g21_x3 g21_x4 g21_x5 g22_x0 g22_x1 g22_x2 g22_x3 g22_x4 g22_x5 g23_x0 g23_x1 g23_x2 g23_x3 g23_x4 g23_x5 Q1 Q2 Q3 Q4
      have HX24_ := Lib.hid (HX16_.out.kpn hK)
      have HX25_ := Lib.hid (HX17_.out.kpn hK)
      have HX26_ := Lib.hid (HX20_.out.kpn hK)
      have KK27_ := Lib.hid (KK18_.out.trans hK)
      have EE28_ := Lib.hid (EE19_.out.kp hK (by simp))
      clear HX16_ HX17_ HX20_ KK18_ EE19_
      clear hK
      clear b21_x0 b21_x1 b21_x2 b21_x3 b21_x4 b21_x5 In21_ b22_x0 b22_x1 b22_x2 b22_x3 b22_x4 b22_x5 In22_ b23_x0 b23_x1 b23_x2 b23_x3 b23_x4 b23_x5 In23_
      cases on with
      | none =>
        have HN := Lib.hid Hon.out
        have HQ := Lib.hid (eqU_none u v Hon.out)
        obtain ⟨z, hz⟩ : ∃ z, nilU = z := ⟨_, rfl⟩
        have Hnil := Lib.hid hz
        clear hz
        obtain ⟨a29_, c29_, d29_, e29_, hc29_, hi29_⟩ := HX24_.out.in
        have b29_x0 := hc29_ 0
        have b29_x1 := hc29_ 1
        have b29_x2 := hc29_ 2
        have b29_x3 := hc29_ 3
        have b29_x4 := hc29_ 4
        have b29_x5 := hc29_ 5
        have In29_ := Lib.hid hi29_
        clear hc29_ hi29_
        go_wp2_with fail
        refine (Normal_any _ _ u _ In29_.out (Nat.le_refl _) Zu.out EE28_.out).mono ?_
        rw [HN.out]
        rintro e w4 ⟨v, rfl, hu, hB⟩
        simp only [Option.getD_none, Option.isSome_none, Bool.false_eq_true, if_false] at hu ⊢
        rw [Hnil.out] at hu
        have hK := (Kp.refl [] w3).below hB
        have hu' := hu
        obtain ⟨vp, vh, rfl, hp, hh⟩ := hu
        obtain ⟨A30_, C30_, rfl⟩ := hp.form
        obtain ⟨D30_, F30_, rfl⟩ := hh.form
        have HX31_ := Lib.hid (HX24_.out.kpn hK)
        have HX32_ := Lib.hid (HX25_.out.kpn hK)
        have HX33_ := Lib.hid (HX26_.out.kpn hK)
        have KK34_ := Lib.hid (KK27_.out.trans hK)
        have EE35_ := Lib.hid (EE28_.out.kp hK (by simp))
        clear HX24_ HX25_ HX26_ KK27_ EE28_
        clear b29_x0 b29_x1 b29_x2 b29_x3 b29_x4 b29_x5 In29_
        obtain ⟨w36_, hw37_⟩ : ∃ wz_, w4.alloc (.cells #[.string (Txt z.scheme), .string (Txt z.user), .string (Txt z.host), .int .i64 z.port, .slice A30_ z.params.length C30_, .slice D30_ z.heads.length F30_] 42) = wz_ := ⟨_, rfl⟩
        have hX := UBox.new hu'
        rw [hw37_] at hX
        have hKb : Kp [] w4 w36_ := by rw [← hw37_]; exact (Kp.refl [] w4).alloc _
        have HX38_ := Lib.hid (HX31_.out.kpn hKb)
        have HX39_ := Lib.hid (HX32_.out.kpn hKb)
        have HX40_ := Lib.hid (HX33_.out.kpn hKb)
        have KK41_ := Lib.hid (KK34_.out.trans hKb)
        have EE42_ := Lib.hid (EE35_.out.kp hKb (by simp))
        clear HX31_ HX32_ HX33_ KK34_ EE35_
        have HX43_ := Lib.hid hX
        clear hX hKb
        clear hK hB hp hh hu'
        obtain ⟨a44_, c44_, d44_, e44_, hc44_, hi44_⟩ := HX38_.out.in
        have b44_x0 := hc44_ 0
        have b44_x1 := hc44_ 1
        have b44_x2 := hc44_ 2
        have b44_x3 := hc44_ 3
        have b44_x4 := hc44_ 4
        have b44_x5 := hc44_ 5
        have In44_ := Lib.hid hi44_
        clear hc44_ hi44_
        obtain ⟨a45_, c45_, d45_, e45_, hc45_, hi45_⟩ := HX39_.out.in
        have b45_x0 := hc45_ 0
        have b45_x1 := hc45_ 1
        have b45_x2 := hc45_ 2
        have b45_x3 := hc45_ 3
        have b45_x4 := hc45_ 4
        have b45_x5 := hc45_ 5
        have In45_ := Lib.hid hi45_
        clear hc45_ hi45_
        go_wp2_with fail
        refine (equal_any _ _ _ _ u v _ In44_.out In45_.out (Nat.le_refl _) (Nat.le_refl _) Zu.out Zv.out EE42_.out).mono ?_
        rintro e w5 ⟨rfl, hK⟩
        rw [HQ.out]
        have HX46_ := Lib.hid (HX38_.out.kpn hK)
        have HX47_ := Lib.hid (HX39_.out.kpn hK)
        have HX48_ := Lib.hid (HX40_.out.kpn hK)
        have HX49_ := Lib.hid (HX43_.out.kpn hK)
        have KK50_ := Lib.hid (KK41_.out.trans hK)
        have EE51_ := Lib.hid (EE42_.out.kp hK (by simp))
        clear HX38_ HX39_ HX40_ HX43_ KK41_ EE42_
        clear hK
        clear b44_x0 b44_x1 b44_x2 b44_x3 b44_x4 b44_x5 In44_ b45_x0 b45_x1 b45_x2 b45_x3 b45_x4 b45_x5 In45_
        go_wp2_with fail
        refine (awake_any _ EE51_.out).mono ?_
        rintro e w6 ⟨rfl, hK⟩
        have HX52_ := Lib.hid (HX46_.out.kpn hK)
        have HX53_ := Lib.hid (HX47_.out.kpn hK)
        have HX54_ := Lib.hid (HX48_.out.kpn hK)
        have HX55_ := Lib.hid (HX49_.out.kpn hK)
        have KK56_ := Lib.hid (KK50_.out.trans hK)
        have EE57_ := Lib.hid (EE51_.out.kp hK (by simp))
        clear HX46_ HX47_ HX48_ HX49_ KK50_ EE51_
        clear hK
        go_wp2_with fail
        go_ret
        exact ⟨rfl, KK56_.out⟩
      | some n =>
        have nf := normal_NF u n Hon.out
        have HN := Lib.hid Hon.out
        have Zn := Lib.hid (normal_szU u n Zu.out zhu Hon.out)
        have l1 := nf.params.len
        have l2 := nf.heads.len
        have HQt := Lib.hid (eqU_turn u n Hon.out)
        have HQu := Lib.hid (eqU_user u n (tU2 n) Hon.out (by unfold tU2; dsimp only; intro h; have := congrArg List.length h; simp at this))
        have HQo := Lib.hid (eqU_len u n (tU3 n) Hon.out (by unfold tU3; dsimp only; simp))
        have Zt := Lib.hid (show SzU (turnU n) from ⟨Zn.out.scheme, Zn.out.user, Zn.out.host, by unfold turnU; rw [turnL_len]; exact Zn.out.params, by unfold turnU; rw [turnL_len]; exact Zn.out.heads, turnL_sz _ Zn.out.ps, turnL_sz _ Zn.out.hs⟩)
        clear nf
        have su : (Txt n.user).size ≤ 1048576 := by rw [txt_size, (normal_parts u n Hon.out).1]; exact zus
        obtain ⟨a29_, c29_, d29_, e29_, hc29_, hi29_⟩ := HX24_.out.in
        have b29_x0 := hc29_ 0
        have b29_x1 := hc29_ 1
        have b29_x2 := hc29_ 2
        have b29_x3 := hc29_ 3
        have b29_x4 := hc29_ 4
        have b29_x5 := hc29_ 5
        have In29_ := Lib.hid hi29_
        clear hc29_ hi29_
        go_wp2_with fail
        refine (Normal_any _ _ u _ In29_.out (Nat.le_refl _) Zu.out EE28_.out).mono ?_
        rw [HN.out]
        rintro e w4 ⟨v, rfl, hu, hB⟩
        simp only [Option.getD_some, Option.isSome_some, if_true] at hu ⊢
        have hK := (Kp.refl [] w3).below hB
        have hu' := hu
        obtain ⟨vp, vh, rfl, hp, hh⟩ := hu
        obtain ⟨A30_, C30_, rfl⟩ := hp.form
        obtain ⟨D30_, F30_, rfl⟩ := hh.form
        have HX31_ := Lib.hid (HX24_.out.kpn hK)
        have HX32_ := Lib.hid (HX25_.out.kpn hK)
        have HX33_ := Lib.hid (HX26_.out.kpn hK)
        have KK34_ := Lib.hid (KK27_.out.trans hK)
        have EE35_ := Lib.hid (EE28_.out.kp hK (by simp))
        clear HX24_ HX25_ HX26_ KK27_ EE28_
        clear b29_x0 b29_x1 b29_x2 b29_x3 b29_x4 b29_x5 In29_
        obtain ⟨w36_, hw37_⟩ : ∃ wz_, w4.alloc (.cells #[.string (Txt n.scheme), .string (Txt n.user), .string (Txt n.host), .int .i64 n.port, .slice A30_ n.params.length C30_, .slice D30_ n.heads.length F30_] 42) = wz_ := ⟨_, rfl⟩
        have hX := UBox.new hu'
        rw [hw37_] at hX
        have hKb : Kp [] w4 w36_ := by rw [← hw37_]; exact (Kp.refl [] w4).alloc _
        have HX38_ := Lib.hid (HX31_.out.kpn hKb)
        have HX39_ := Lib.hid (HX32_.out.kpn hKb)
        have HX40_ := Lib.hid (HX33_.out.kpn hKb)
        have KK41_ := Lib.hid (KK34_.out.trans hKb)
        have EE42_ := Lib.hid (EE35_.out.kp hKb (by simp))
        clear HX31_ HX32_ HX33_ KK34_ EE35_
        have HX43_ := Lib.hid hX
        clear hX hKb
        clear hK hB hp hh hu'
        obtain ⟨a44_, c44_, d44_, e44_, hc44_, hi44_, hp44_, hh44_⟩ := HX43_.out.both
        have b44_x0 := hc44_ 0
        have b44_x1 := hc44_ 1
        have b44_x2 := hc44_ 2
        have b44_x3 := hc44_ 3
        have b44_x4 := hc44_ 4
        have b44_x5 := hc44_ 5
        have In44_ := Lib.hid hi44_
        have Pp44_ := Lib.hid hp44_
        have Ph44_ := Lib.hid hh44_
        clear hc44_ hi44_ hp44_ hh44_
        have lttu := HX38_.out.lt
        have lttv := HX39_.out.lt
        have lttx := HX40_.out.lt
        have lttn := HX43_.out.lt
        have lttw := KK41_.out.size
        obtain ⟨w45_, hw46_⟩ : ∃ wz_, w36_.alloc (.cells #[.string (Txt n.scheme), .string (Txt n.user), .string (Txt n.host), .int .i64 n.port, .slice a44_ n.params.length c44_, .slice d44_ n.heads.length e44_] 42) = wz_ := ⟨_, rfl⟩
        have hX := UBox.new In44_.out
        rw [hw46_] at hX
        have hKb : Kp [] w36_ w45_ := by rw [← hw46_]; exact (Kp.refl [] w36_).alloc _
        have HX47_ := Lib.hid (HX38_.out.kpn hKb)
        have HX48_ := Lib.hid (HX39_.out.kpn hKb)
        have HX49_ := Lib.hid (HX40_.out.kpn hKb)
        have HX50_ := Lib.hid (HX43_.out.kpn hKb)
        have KK51_ := Lib.hid (KK41_.out.trans hKb)
        have EE52_ := Lib.hid (EE42_.out.kp hKb (by simp))
        clear HX38_ HX39_ HX40_ HX43_ KK41_ EE42_
        have HX53_ := Lib.hid hX
        clear hX hKb
        obtain ⟨a54_, c54_, d54_, e54_, hc54_, hi54_, hp54_, hh54_⟩ := HX50_.out.both
        have b54_x0 := hc54_ 0
        have b54_x1 := hc54_ 1
        have b54_x2 := hc54_ 2
        have b54_x3 := hc54_ 3
        have b54_x4 := hc54_ 4
        have b54_x5 := hc54_ 5
        have In54_ := Lib.hid hi54_
        have Pp54_ := Lib.hid hp54_
        have Ph54_ := Lib.hid hh54_
        clear hc54_ hi54_ hp54_ hh54_
        go_wp2_with fail
        refine (turned_any _ _ n.params _ Pp54_.out (Nat.le_refl _) Zn.out.ps (by omega)).mono ?_
        rintro e w5 ⟨vt, rfl, hpt, hK⟩
        obtain ⟨At, Ct, rfl⟩ := hpt.form
        have HX55_ := Lib.hid (HX47_.out.kpn hK)
        have HX56_ := Lib.hid (HX48_.out.kpn hK)
        have HX57_ := Lib.hid (HX49_.out.kpn hK)
        have HX58_ := Lib.hid (HX50_.out.kpn hK)
        have HX59_ := Lib.hid (HX53_.out.kpn hK)
        have KK60_ := Lib.hid (KK51_.out.trans hK)
        have EE61_ := Lib.hid (EE52_.out.kp hK (by simp))
        clear HX47_ HX48_ HX49_ HX50_ HX53_ KK51_ EE52_
        clear hK
        clear b44_x0 b44_x1 b44_x2 b44_x3 b44_x4 b44_x5 In44_ Pp44_ Ph44_ b54_x0 b54_x1 b54_x2 b54_x3 b54_x4 b54_x5 In54_ Pp54_ Ph54_
        obtain ⟨a62_, c62_, d62_, e62_, hc62_, hi62_, hp62_, hh62_⟩ := HX59_.out.both
        have b62_x0 := hc62_ 0
        have b62_x1 := hc62_ 1
        have b62_x2 := hc62_ 2
        have b62_x3 := hc62_ 3
        have b62_x4 := hc62_ 4
        have b62_x5 := hc62_ 5
        have In62_ := Lib.hid hi62_
        have Pp62_ := Lib.hid hp62_
        have Ph62_ := Lib.hid hh62_
        clear hc62_ hi62_ hp62_ hh62_
        have fz := HX59_.out.frozen 4
        go_upto_region 10 with fail
        clear b62_x0 b62_x1 b62_x2 b62_x3 b62_x4 b62_x5 In62_ Pp62_ Ph62_
        clear fz
        have hX := HX59_.out.set4 hpt
        have hS := kp_set w5 w36_.heap.size 4 (.slice At (turnL n.params).length Ct)
        have hN := HX59_.out.noB
        obtain ⟨w63_, hw_⟩ : ∃ wz_, w5.setCell ⟨w36_.heap.size, 4, none⟩ (.slice At (turnL n.params).length Ct) = wz_ := ⟨_, rfl⟩
        rw [hw_] at hX hS ⊢
        clear hw_
        have HX64_ := Lib.hid (show UBox w63_ w36_.heap.size (tU1 n) from hX)
        have HX65_ := Lib.hid (HX55_.out.kpX hS (by simp; omega) (by intro y hy; rw [List.mem_singleton.1 hy]; exact hN))
        have HX66_ := Lib.hid (HX56_.out.kpX hS (by simp; omega) (by intro y hy; rw [List.mem_singleton.1 hy]; exact hN))
        have HX67_ := Lib.hid (HX57_.out.kpX hS (by simp; omega) (by intro y hy; rw [List.mem_singleton.1 hy]; exact hN))
        have HX68_ := Lib.hid (HX58_.out.kpX hS (by simp; omega) (by intro y hy; rw [List.mem_singleton.1 hy]; exact hN))
        have KK69_ := Lib.hid (KK60_.out.to_ hS (by intro y hy; rw [List.mem_singleton.1 hy]; right; omega))
        have EE70_ := Lib.hid (EE61_.out.kp hS (by intro y hy; rw [List.mem_singleton.1 hy]; omega))
        clear hX hS hN HX55_ HX56_ HX57_ HX58_ HX59_ KK60_ EE61_
        clear hpt
        obtain ⟨a71_, c71_, d71_, e71_, hc71_, hi71_, hp71_, hh71_⟩ := HX68_.out.both
        have b71_x0 := hc71_ 0
        have b71_x1 := hc71_ 1
        have b71_x2 := hc71_ 2
        have b71_x3 := hc71_ 3
        have b71_x4 := hc71_ 4
        have b71_x5 := hc71_ 5
        have In71_ := Lib.hid hi71_
        have Pp71_ := Lib.hid hp71_
        have Ph71_ := Lib.hid hh71_
        clear hc71_ hi71_ hp71_ hh71_
        go_wp2_with fail
        refine (turned_any _ _ n.heads _ Ph71_.out (Nat.le_refl _) Zn.out.hs (by omega)).mono ?_
        rintro e w6 ⟨vt, rfl, hpt, hK⟩
        obtain ⟨At, Ct, rfl⟩ := hpt.form
        have HX72_ := Lib.hid (HX65_.out.kpn hK)
        have HX73_ := Lib.hid (HX66_.out.kpn hK)
        have HX74_ := Lib.hid (HX67_.out.kpn hK)
        have HX75_ := Lib.hid (HX68_.out.kpn hK)
        have HX76_ := Lib.hid (HX64_.out.kpn hK)
        have KK77_ := Lib.hid (KK69_.out.trans hK)
        have EE78_ := Lib.hid (EE70_.out.kp hK (by simp))
        clear HX65_ HX66_ HX67_ HX68_ HX64_ KK69_ EE70_
        clear hK
        clear b71_x0 b71_x1 b71_x2 b71_x3 b71_x4 b71_x5 In71_ Pp71_ Ph71_
        obtain ⟨a79_, c79_, d79_, e79_, hc79_, hi79_, hp79_, hh79_⟩ := HX76_.out.both
        have b79_x0 := hc79_ 0
        have b79_x1 := hc79_ 1
        have b79_x2 := hc79_ 2
        have b79_x3 := hc79_ 3
        have b79_x4 := hc79_ 4
        have b79_x5 := hc79_ 5
        have In79_ := Lib.hid hi79_
        have Pp79_ := Lib.hid hp79_
        have Ph79_ := Lib.hid hh79_
        clear hc79_ hi79_ hp79_ hh79_
        have fz := HX76_.out.frozen 5
        go_upto_region 11 with fail
        clear b79_x0 b79_x1 b79_x2 b79_x3 b79_x4 b79_x5 In79_ Pp79_ Ph79_
        clear fz
        have hX := HX76_.out.set5 hpt
        have hS := kp_set w6 w36_.heap.size 5 (.slice At (turnL n.heads).length Ct)
        have hN := HX76_.out.noB
        obtain ⟨w80_, hw_⟩ : ∃ wz_, w6.setCell ⟨w36_.heap.size, 5, none⟩ (.slice At (turnL n.heads).length Ct) = wz_ := ⟨_, rfl⟩
        rw [hw_] at hX hS ⊢
        clear hw_
        have HX81_ := Lib.hid (show UBox w80_ w36_.heap.size (turnU n) from hX)
        have HX82_ := Lib.hid (HX72_.out.kpX hS (by simp; omega) (by intro y hy; rw [List.mem_singleton.1 hy]; exact hN))
        have HX83_ := Lib.hid (HX73_.out.kpX hS (by simp; omega) (by intro y hy; rw [List.mem_singleton.1 hy]; exact hN))
        have HX84_ := Lib.hid (HX74_.out.kpX hS (by simp; omega) (by intro y hy; rw [List.mem_singleton.1 hy]; exact hN))
        have HX85_ := Lib.hid (HX75_.out.kpX hS (by simp; omega) (by intro y hy; rw [List.mem_singleton.1 hy]; exact hN))
        have KK86_ := Lib.hid (KK77_.out.to_ hS (by intro y hy; rw [List.mem_singleton.1 hy]; right; omega))
        have EE87_ := Lib.hid (EE78_.out.kp hS (by intro y hy; rw [List.mem_singleton.1 hy]; omega))
        clear hX hS hN HX72_ HX73_ HX74_ HX75_ HX76_ KK77_ EE78_
        clear hpt
        obtain ⟨a88_, c88_, d88_, e88_, hc88_, hi88_⟩ := HX82_.out.in
        have b88_x0 := hc88_ 0
        have b88_x1 := hc88_ 1
        have b88_x2 := hc88_ 2
        have b88_x3 := hc88_ 3
        have b88_x4 := hc88_ 4
        have b88_x5 := hc88_ 5
        have In88_ := Lib.hid hi88_
        clear hc88_ hi88_
        obtain ⟨a89_, c89_, d89_, e89_, hc89_, hi89_⟩ := HX81_.out.in
        have b89_x0 := hc89_ 0
        have b89_x1 := hc89_ 1
        have b89_x2 := hc89_ 2
        have b89_x3 := hc89_ 3
        have b89_x4 := hc89_ 4
        have b89_x5 := hc89_ 5
        have In89_ := Lib.hid hi89_
        clear hc89_ hi89_
        go_wp2_with fail
        refine (equal_any _ _ _ _ u (turnU n) _ In88_.out In89_.out (Nat.le_refl _) (Nat.le_refl _) Zu.out Zt.out EE87_.out).mono ?_
        rintro e w7 ⟨rfl, hK⟩
        rw [HQt.out]
        have HX90_ := Lib.hid (HX82_.out.kpn hK)
        have HX91_ := Lib.hid (HX83_.out.kpn hK)
        have HX92_ := Lib.hid (HX84_.out.kpn hK)
        have HX93_ := Lib.hid (HX85_.out.kpn hK)
        have HX94_ := Lib.hid (HX81_.out.kpn hK)
        have KK95_ := Lib.hid (KK86_.out.trans hK)
        have EE96_ := Lib.hid (EE87_.out.kp hK (by simp))
        clear HX82_ HX83_ HX84_ HX85_ HX81_ KK86_ EE87_
        clear hK
        clear b88_x0 b88_x1 b88_x2 b88_x3 b88_x4 b88_x5 In88_ b89_x0 b89_x1 b89_x2 b89_x3 b89_x4 b89_x5 In89_
        obtain ⟨a97_, c97_, d97_, e97_, hc97_, hi97_, hp97_, hh97_⟩ := HX93_.out.both
        have b97_x0 := hc97_ 0
        have b97_x1 := hc97_ 1
        have b97_x2 := hc97_ 2
        have b97_x3 := hc97_ 3
        have b97_x4 := hc97_ 4
        have b97_x5 := hc97_ 5
        have In97_ := Lib.hid hi97_
        have Pp97_ := Lib.hid hp97_
        have Ph97_ := Lib.hid hh97_
        clear hc97_ hi97_ hp97_ hh97_
        obtain ⟨a98_, c98_, d98_, e98_, hc98_, hi98_, hp98_, hh98_⟩ := HX94_.out.both
        have b98_x0 := hc98_ 0
        have b98_x1 := hc98_ 1
        have b98_x2 := hc98_ 2
        have b98_x3 := hc98_ 3
        have b98_x4 := hc98_ 4
        have b98_x5 := hc98_ 5
        have In98_ := Lib.hid hi98_
        have Pp98_ := Lib.hid hp98_
        have Ph98_ := Lib.hid hh98_
        clear hc98_ hi98_ hp98_ hh98_
        have fz := HX94_.out.frozen 1
        go_upto_region 14 with fail
        rw [show Txt n.user ++ (⟨#[49]⟩ : ByteArray) = Txt (n.user ++ [49]) from cat_txt _ _]
        clear b97_x0 b97_x1 b97_x2 b97_x3 b97_x4 b97_x5 In97_ Pp97_ Ph97_ b98_x0 b98_x1 b98_x2 b98_x3 b98_x4 b98_x5 In98_ Pp98_ Ph98_
        clear fz
        have hX := HX94_.out.set1 (n.user ++ [49])
        have hS := kp_set w7 w36_.heap.size 1 (.string (Txt (n.user ++ [49])))
        have hN := HX94_.out.noB
        obtain ⟨w99_, hw_⟩ : ∃ wz_, w7.setCell ⟨w36_.heap.size, 1, none⟩ (.string (Txt (n.user ++ [49]))) = wz_ := ⟨_, rfl⟩
        rw [hw_] at hX hS ⊢
        clear hw_
        have HX100_ := Lib.hid (show UBox w99_ w36_.heap.size (tU2 n) from hX)
        have HX101_ := Lib.hid (HX90_.out.kpX hS (by simp; omega) (by intro y hy; rw [List.mem_singleton.1 hy]; exact hN))
        have HX102_ := Lib.hid (HX91_.out.kpX hS (by simp; omega) (by intro y hy; rw [List.mem_singleton.1 hy]; exact hN))
        have HX103_ := Lib.hid (HX92_.out.kpX hS (by simp; omega) (by intro y hy; rw [List.mem_singleton.1 hy]; exact hN))
        have HX104_ := Lib.hid (HX93_.out.kpX hS (by simp; omega) (by intro y hy; rw [List.mem_singleton.1 hy]; exact hN))
        have KK105_ := Lib.hid (KK95_.out.to_ hS (by intro y hy; rw [List.mem_singleton.1 hy]; right; omega))
        have EE106_ := Lib.hid (EE96_.out.kp hS (by intro y hy; rw [List.mem_singleton.1 hy]; omega))
        clear hX hS hN HX90_ HX91_ HX92_ HX93_ HX94_ KK95_ EE96_
        obtain ⟨a107_, c107_, d107_, e107_, hc107_, hi107_, hp107_, hh107_⟩ := HX104_.out.both
        have b107_x0 := hc107_ 0
        have b107_x1 := hc107_ 1
        have b107_x2 := hc107_ 2
        have b107_x3 := hc107_ 3
        have b107_x4 := hc107_ 4
        have b107_x5 := hc107_ 5
        have In107_ := Lib.hid hi107_
        have Pp107_ := Lib.hid hp107_
        have Ph107_ := Lib.hid hh107_
        clear hc107_ hi107_ hp107_ hh107_
        have ltou := HX101_.out.lt
        have ltov := HX102_.out.lt
        have ltox := HX103_.out.lt
        have lton := HX104_.out.lt
        have ltot := HX100_.out.lt
        have ltow := KK105_.out.size
        obtain ⟨w108_, hw109_⟩ : ∃ wz_, w99_.alloc (.cells #[.string (Txt n.scheme), .string (Txt n.user), .string (Txt n.host), .int .i64 n.port, .slice a107_ n.params.length c107_, .slice d107_ n.heads.length e107_] 42) = wz_ := ⟨_, rfl⟩
        have hX := UBox.new In107_.out
        rw [hw109_] at hX
        have hKb : Kp [] w99_ w108_ := by rw [← hw109_]; exact (Kp.refl [] w99_).alloc _
        have HX110_ := Lib.hid (HX101_.out.kpn hKb)
        have HX111_ := Lib.hid (HX102_.out.kpn hKb)
        have HX112_ := Lib.hid (HX103_.out.kpn hKb)
        have HX113_ := Lib.hid (HX104_.out.kpn hKb)
        have HX114_ := Lib.hid (HX100_.out.kpn hKb)
        have KK115_ := Lib.hid (KK105_.out.trans hKb)
        have EE116_ := Lib.hid (EE106_.out.kp hKb (by simp))
        clear HX101_ HX102_ HX103_ HX104_ HX100_ KK105_ EE106_
        have HX117_ := Lib.hid hX
        clear hX hKb
        obtain ⟨a118_, c118_, d118_, e118_, hc118_, hi118_, hp118_, hh118_⟩ := HX113_.out.both
        have b118_x0 := hc118_ 0
        have b118_x1 := hc118_ 1
        have b118_x2 := hc118_ 2
        have b118_x3 := hc118_ 3
        have b118_x4 := hc118_ 4
        have b118_x5 := hc118_ 5
        have In118_ := Lib.hid hi118_
        have Pp118_ := Lib.hid hp118_
        have Ph118_ := Lib.hid hh118_
        clear hc118_ hi118_ hp118_ hh118_
        have ltn := HX113_.out.lt
        have hKE := (Kp.refl [] w108_).alloc (.cells #[] 32)
        have hOE := World.ownsRow_lit (base := w108_.heap.size) (e := 32) (size := 3) w108_ #[] 0 (Nat.le_refl _) (by unfold maxLen; omega) (by rfl)
        obtain ⟨wE, hwE⟩ : ∃ wz_, w108_.alloc (.cells #[] 32) = wz_ := ⟨_, rfl⟩
        rw [hwE] at hKE hOE
        have e4 : wE.cell? ⟨w4.heap.size, 4, none⟩ = some (.slice a118_ n.params.length c118_) := (hKE.cell (p := ⟨w4.heap.size, 4, none⟩) ltn (by simp)).trans b118_x4
        have PE := Lib.hid (Pp118_.out.kp hKE (Nat.le_refl _) (by simp))
        have OE := Lib.hid (show wE.ownsRow w108_.heap.size 32 3 (.slice (some ⟨w108_.heap.size, 0, none⟩) 0 0) ([] : List Prm).length (pcl []) from hOE)
        have KE := Lib.hid hKE
        have hszE := hKE.size
        clear hKE hOE
        go_wp2_with (at_builtin; refine wpList_append_pm rfl _ _ rfl w108_.heap.size [] n.params _ _ rfl OE.out _ rfl PE.out ?c1 hszE ?_)
        case c1 => simp; omega
        intro v1 wF hown1 hgrow1
        have OF := Lib.hid (show wF.ownsRow w108_.heap.size 32 3 v1 n.params.length (pcl n.params) from hown1)
        have hKF := KE.out.grown hgrow1 (fun g hg => .inr (by cases hg; exact Nat.le_refl _))
        obtain ⟨pF, cF, rfl⟩ := own_form OF.out
        have hszF := hKF.size
        clear b107_x0 b107_x1 b107_x2 b107_x3 b107_x4 b107_x5 In107_ Pp107_ Ph107_ b118_x0 b118_x1 b118_x2 b118_x3 b118_x4 b118_x5 In118_ Pp118_ Ph118_
        clear e4 ltn PE OE KE hown1 hgrow1 hwE
        obtain ⟨i0, hi, hz0, hz1, hz2⟩ := info_parts infoPrm3
        go_wp2_with (at_builtin; refine wpList_append_own _ rfl _ _ 30 rfl w108_.heap.size 32 i0 (.agg #[.string .empty, .string .empty, .bool false]) 3 40 Tryz.underlying30 hi hz0 hz1 hz2 rfl (by decide) _ _ _ rfl (OF.out.alloc _) ⟨wF.heap.size, 0, none⟩ 1 1 [.string ⟨#[122, 122, 122, 32, 122, 122, 122]⟩, .string ⟨#[]⟩, .bool false] rfl rfl (cell_three_new _ _ _ _ _) (by simp [Value.oneCell']) ?c3 ?c4 ?c5 ?_)
        case c3 => unfold maxLen; omega
        case c4 => omega
        case c5 => simp; omega
        intro v2 wG hown2 hgrow2 _
        have hKG := (hKF.alloc (.cells #[.string ⟨#[122, 122, 122, 32, 122, 122, 122]⟩, .string ⟨#[]⟩, .bool false] 32)).grown hgrow2 (fun g hg => .inr (OF.out.lt g hg).1)
        have hOG := (by simpa [pcl, pc1, Txt, zzz] using hown2 : wG.ownsRow w108_.heap.size 32 3 v2 (n.params ++ [(zzz, [], false)]).length (pcl (n.params ++ [(zzz, [], false)])))
        obtain ⟨pG, cG, rfl⟩ := own_form hOG
        have hpt := own_pm hOG
        clear hown2 hgrow2 hOG hKF hszF
        have HX119_ := Lib.hid (HX110_.out.kpn hKG)
        have HX120_ := Lib.hid (HX111_.out.kpn hKG)
        have HX121_ := Lib.hid (HX112_.out.kpn hKG)
        have HX122_ := Lib.hid (HX113_.out.kpn hKG)
        have HX123_ := Lib.hid (HX114_.out.kpn hKG)
        have HX124_ := Lib.hid (HX117_.out.kpn hKG)
        have KK125_ := Lib.hid (KK115_.out.trans hKG)
        have EE126_ := Lib.hid (EE116_.out.kp hKG (by simp))
        clear HX110_ HX111_ HX112_ HX113_ HX114_ HX117_ KK115_ EE116_
        clear hKG OF
        obtain ⟨a127_, c127_, d127_, e127_, hc127_, hi127_, hp127_, hh127_⟩ := HX124_.out.both
        have b127_x0 := hc127_ 0
        have b127_x1 := hc127_ 1
        have b127_x2 := hc127_ 2
        have b127_x3 := hc127_ 3
        have b127_x4 := hc127_ 4
        have b127_x5 := hc127_ 5
        have In127_ := Lib.hid hi127_
        have Pp127_ := Lib.hid hp127_
        have Ph127_ := Lib.hid hh127_
        clear hc127_ hi127_ hp127_ hh127_
        have fz := HX124_.out.frozen 4
        go_upto_region 16 with fail
        clear b127_x0 b127_x1 b127_x2 b127_x3 b127_x4 b127_x5 In127_ Pp127_ Ph127_
        clear fz
        have hLN : (n.params ++ [(zzz, [], false)]).length = n.params.length + 1 := by simp
        rw [← hLN]
        clear hLN
        have hX := HX124_.out.set4 hpt
        have hS := kp_set wG w99_.heap.size 4 (.slice pG (n.params ++ [(zzz, [], false)]).length cG)
        have hN := HX124_.out.noB
        obtain ⟨w128_, hw_⟩ : ∃ wz_, wG.setCell ⟨w99_.heap.size, 4, none⟩ (.slice pG (n.params ++ [(zzz, [], false)]).length cG) = wz_ := ⟨_, rfl⟩
        rw [hw_] at hX hS ⊢
        clear hw_
        have HX129_ := Lib.hid (show UBox w128_ w99_.heap.size (tU3 n) from hX)
        have HX130_ := Lib.hid (HX119_.out.kpX hS (by simp; omega) (by intro y hy; rw [List.mem_singleton.1 hy]; exact hN))
        have HX131_ := Lib.hid (HX120_.out.kpX hS (by simp; omega) (by intro y hy; rw [List.mem_singleton.1 hy]; exact hN))
        have HX132_ := Lib.hid (HX121_.out.kpX hS (by simp; omega) (by intro y hy; rw [List.mem_singleton.1 hy]; exact hN))
        have HX133_ := Lib.hid (HX122_.out.kpX hS (by simp; omega) (by intro y hy; rw [List.mem_singleton.1 hy]; exact hN))
        have HX134_ := Lib.hid (HX123_.out.kpX hS (by simp; omega) (by intro y hy; rw [List.mem_singleton.1 hy]; exact hN))
        have KK135_ := Lib.hid (KK125_.out.to_ hS (by intro y hy; rw [List.mem_singleton.1 hy]; right; omega))
        have EE136_ := Lib.hid (EE126_.out.kp hS (by intro y hy; rw [List.mem_singleton.1 hy]; omega))
        clear hX hS hN HX119_ HX120_ HX121_ HX122_ HX123_ HX124_ KK125_ EE126_
        clear hpt
        have Zt2 := Lib.hid (show SzU (tU2 n) from ⟨Zn.out.scheme, (by have := su; rw [txt_size] at this; unfold tU2; simp only [List.length_append, List.length_cons, List.length_nil]; omega), Zn.out.host, by unfold tU2; dsimp only; rw [turnL_len]; exact Zn.out.params, by unfold tU2; dsimp only; rw [turnL_len]; exact Zn.out.heads, turnL_sz _ Zn.out.ps, turnL_sz _ Zn.out.hs⟩)
        have Zo := Lib.hid (show SzU (tU3 n) from ⟨Zn.out.scheme, Zn.out.user, Zn.out.host, by unfold tU3; simp only [List.length_append, List.length_cons, List.length_nil]; omega, Zn.out.heads, (fun p hp => by
          rcases List.mem_append.1 hp with h | h
          · exact Zn.out.ps p h
          · rw [List.mem_singleton.1 h]; exact ⟨by decide, by decide⟩), Zn.out.hs⟩)
        obtain ⟨a137_, c137_, d137_, e137_, hc137_, hi137_⟩ := HX130_.out.in
        have b137_x0 := hc137_ 0
        have b137_x1 := hc137_ 1
        have b137_x2 := hc137_ 2
        have b137_x3 := hc137_ 3
        have b137_x4 := hc137_ 4
        have b137_x5 := hc137_ 5
        have In137_ := Lib.hid hi137_
        clear hc137_ hi137_
        obtain ⟨a138_, c138_, d138_, e138_, hc138_, hi138_⟩ := HX134_.out.in
        have b138_x0 := hc138_ 0
        have b138_x1 := hc138_ 1
        have b138_x2 := hc138_ 2
        have b138_x3 := hc138_ 3
        have b138_x4 := hc138_ 4
        have b138_x5 := hc138_ 5
        have In138_ := Lib.hid hi138_
        clear hc138_ hi138_
        go_wp2_with fail
        refine (equal_any _ _ _ _ u (tU2 n) _ In137_.out In138_.out (Nat.le_refl _) (Nat.le_refl _) Zu.out Zt2.out EE136_.out).mono ?_
        rintro e w8 ⟨rfl, hK⟩
        rw [HQu.out]
        have HX139_ := Lib.hid (HX130_.out.kpn hK)
        have HX140_ := Lib.hid (HX131_.out.kpn hK)
        have HX141_ := Lib.hid (HX132_.out.kpn hK)
        have HX142_ := Lib.hid (HX133_.out.kpn hK)
        have HX143_ := Lib.hid (HX134_.out.kpn hK)
        have HX144_ := Lib.hid (HX129_.out.kpn hK)
        have KK145_ := Lib.hid (KK135_.out.trans hK)
        have EE146_ := Lib.hid (EE136_.out.kp hK (by simp))
        clear HX130_ HX131_ HX132_ HX133_ HX134_ HX129_ KK135_ EE136_
        clear hK
        clear b137_x0 b137_x1 b137_x2 b137_x3 b137_x4 b137_x5 In137_ b138_x0 b138_x1 b138_x2 b138_x3 b138_x4 b138_x5 In138_
        obtain ⟨a147_, c147_, d147_, e147_, hc147_, hi147_⟩ := HX139_.out.in
        have b147_x0 := hc147_ 0
        have b147_x1 := hc147_ 1
        have b147_x2 := hc147_ 2
        have b147_x3 := hc147_ 3
        have b147_x4 := hc147_ 4
        have b147_x5 := hc147_ 5
        have In147_ := Lib.hid hi147_
        clear hc147_ hi147_
        obtain ⟨a148_, c148_, d148_, e148_, hc148_, hi148_⟩ := HX144_.out.in
        have b148_x0 := hc148_ 0
        have b148_x1 := hc148_ 1
        have b148_x2 := hc148_ 2
        have b148_x3 := hc148_ 3
        have b148_x4 := hc148_ 4
        have b148_x5 := hc148_ 5
        have In148_ := Lib.hid hi148_
        clear hc148_ hi148_
        go_wp2_with fail
        refine (equal_any _ _ _ _ u (tU3 n) _ In147_.out In148_.out (Nat.le_refl _) (Nat.le_refl _) Zu.out Zo.out EE146_.out).mono ?_
        rintro e w9 ⟨rfl, hK⟩
        rw [HQo.out]
        have HX149_ := Lib.hid (HX139_.out.kpn hK)
        have HX150_ := Lib.hid (HX140_.out.kpn hK)
        have HX151_ := Lib.hid (HX141_.out.kpn hK)
        have HX152_ := Lib.hid (HX142_.out.kpn hK)
        have HX153_ := Lib.hid (HX143_.out.kpn hK)
        have HX154_ := Lib.hid (HX144_.out.kpn hK)
        have KK155_ := Lib.hid (KK145_.out.trans hK)
        have EE156_ := Lib.hid (EE146_.out.kp hK (by simp))
        clear HX139_ HX140_ HX141_ HX142_ HX143_ HX144_ KK145_ EE146_
        clear hK
        clear b147_x0 b147_x1 b147_x2 b147_x3 b147_x4 b147_x5 In147_ b148_x0 b148_x1 b148_x2 b148_x3 b148_x4 b148_x5 In148_
        go_wp2_with fail
        refine (awake_any _ EE156_.out).mono ?_
        rintro e w10 ⟨rfl, hK⟩
        have HX157_ := Lib.hid (HX149_.out.kpn hK)
        have HX158_ := Lib.hid (HX150_.out.kpn hK)
        have HX159_ := Lib.hid (HX151_.out.kpn hK)
        have HX160_ := Lib.hid (HX152_.out.kpn hK)
        have HX161_ := Lib.hid (HX153_.out.kpn hK)
        have HX162_ := Lib.hid (HX154_.out.kpn hK)
        have KK163_ := Lib.hid (KK155_.out.trans hK)
        have EE164_ := Lib.hid (EE156_.out.kp hK (by simp))
        clear HX149_ HX150_ HX151_ HX152_ HX153_ HX154_ KK155_ EE156_
        clear hK
        go_wp2_with fail
        go_ret
        exact ⟨rfl, KK163_.out⟩
    · cases Bq
      · refine wp_region_grew (by kernel_rfl) (by kernel_rfl) ?_
        repeat (go_big_quiet_step ((first
          | (go_at_call 39; with_reducible exact Q1.out _)
          | (go_at_call 39; with_reducible exact Q2.out _)
          | (go_at_call 39; with_reducible exact Q3.out _)
          | (go_at_call 39; with_reducible exact Q4.out _))))
        refine wpQuiet_nil ?_
        intro _ hw'
        obtain ⟨nq, hw''⟩ := hw'
        subst hw''
        have hK := grew_kp w14_ nq
        obtain ⟨w3, hw3e⟩ : ∃ wz_, grew w14_ nq = wz_ := ⟨_, rfl⟩
        rw [hw3e] at hK ⊢
        clear hw3e g21_x0 g21_x1 g21_x2 g21_x3 g21_x4 g21_x5 g22_x0 g22_x1 g22_x2 g22_x3 g22_x4 g22_x5 g23_x0 g23_x1 g23_x2 g23_x3 g23_x4 g23_x5 Q1 Q2 Q3 Q4
        have HX24_ := Lib.hid (HX16_.out.kpn hK)
        have HX25_ := Lib.hid (HX17_.out.kpn hK)
        have HX26_ := Lib.hid (HX20_.out.kpn hK)
        have KK27_ := Lib.hid (KK18_.out.trans hK)
        have EE28_ := Lib.hid (EE19_.out.kp hK (by simp))
        clear HX16_ HX17_ HX20_ KK18_ EE19_
        clear hK
        clear b21_x0 b21_x1 b21_x2 b21_x3 b21_x4 b21_x5 In21_ b22_x0 b22_x1 b22_x2 b22_x3 b22_x4 b22_x5 In22_ b23_x0 b23_x1 b23_x2 b23_x3 b23_x4 b23_x5 In23_
        cases on with
        | none =>
          have HN := Lib.hid Hon.out
          have HQ := Lib.hid (eqU_none u v Hon.out)
          obtain ⟨z, hz⟩ : ∃ z, nilU = z := ⟨_, rfl⟩
          have Hnil := Lib.hid hz
          clear hz
          obtain ⟨a29_, c29_, d29_, e29_, hc29_, hi29_⟩ := HX24_.out.in
          have b29_x0 := hc29_ 0
          have b29_x1 := hc29_ 1
          have b29_x2 := hc29_ 2
          have b29_x3 := hc29_ 3
          have b29_x4 := hc29_ 4
          have b29_x5 := hc29_ 5
          have In29_ := Lib.hid hi29_
          clear hc29_ hi29_
          go_wp2_with fail
          refine (Normal_any _ _ u _ In29_.out (Nat.le_refl _) Zu.out EE28_.out).mono ?_
          rw [HN.out]
          rintro e w4 ⟨v, rfl, hu, hB⟩
          simp only [Option.getD_none, Option.isSome_none, Bool.false_eq_true, if_false] at hu ⊢
          rw [Hnil.out] at hu
          have hK := (Kp.refl [] w3).below hB
          have hu' := hu
          obtain ⟨vp, vh, rfl, hp, hh⟩ := hu
          obtain ⟨A30_, C30_, rfl⟩ := hp.form
          obtain ⟨D30_, F30_, rfl⟩ := hh.form
          have HX31_ := Lib.hid (HX24_.out.kpn hK)
          have HX32_ := Lib.hid (HX25_.out.kpn hK)
          have HX33_ := Lib.hid (HX26_.out.kpn hK)
          have KK34_ := Lib.hid (KK27_.out.trans hK)
          have EE35_ := Lib.hid (EE28_.out.kp hK (by simp))
          clear HX24_ HX25_ HX26_ KK27_ EE28_
          clear b29_x0 b29_x1 b29_x2 b29_x3 b29_x4 b29_x5 In29_
          obtain ⟨w36_, hw37_⟩ : ∃ wz_, w4.alloc (.cells #[.string (Txt z.scheme), .string (Txt z.user), .string (Txt z.host), .int .i64 z.port, .slice A30_ z.params.length C30_, .slice D30_ z.heads.length F30_] 42) = wz_ := ⟨_, rfl⟩
          have hX := UBox.new hu'
          rw [hw37_] at hX
          have hKb : Kp [] w4 w36_ := by rw [← hw37_]; exact (Kp.refl [] w4).alloc _
          have HX38_ := Lib.hid (HX31_.out.kpn hKb)
          have HX39_ := Lib.hid (HX32_.out.kpn hKb)
          have HX40_ := Lib.hid (HX33_.out.kpn hKb)
          have KK41_ := Lib.hid (KK34_.out.trans hKb)
          have EE42_ := Lib.hid (EE35_.out.kp hKb (by simp))
          clear HX31_ HX32_ HX33_ KK34_ EE35_
          have HX43_ := Lib.hid hX
          clear hX hKb
          clear hK hB hp hh hu'
          obtain ⟨a44_, c44_, d44_, e44_, hc44_, hi44_⟩ := HX38_.out.in
          have b44_x0 := hc44_ 0
          have b44_x1 := hc44_ 1
          have b44_x2 := hc44_ 2
          have b44_x3 := hc44_ 3
          have b44_x4 := hc44_ 4
          have b44_x5 := hc44_ 5
          have In44_ := Lib.hid hi44_
          clear hc44_ hi44_
          obtain ⟨a45_, c45_, d45_, e45_, hc45_, hi45_⟩ := HX39_.out.in
          have b45_x0 := hc45_ 0
          have b45_x1 := hc45_ 1
          have b45_x2 := hc45_ 2
          have b45_x3 := hc45_ 3
          have b45_x4 := hc45_ 4
          have b45_x5 := hc45_ 5
          have In45_ := Lib.hid hi45_
          clear hc45_ hi45_
          go_wp2_with fail
          refine (equal_any _ _ _ _ u v _ In44_.out In45_.out (Nat.le_refl _) (Nat.le_refl _) Zu.out Zv.out EE42_.out).mono ?_
          rintro e w5 ⟨rfl, hK⟩
          rw [HQ.out]
          have HX46_ := Lib.hid (HX38_.out.kpn hK)
          have HX47_ := Lib.hid (HX39_.out.kpn hK)
          have HX48_ := Lib.hid (HX40_.out.kpn hK)
          have HX49_ := Lib.hid (HX43_.out.kpn hK)
          have KK50_ := Lib.hid (KK41_.out.trans hK)
          have EE51_ := Lib.hid (EE42_.out.kp hK (by simp))
          clear HX38_ HX39_ HX40_ HX43_ KK41_ EE42_
          clear hK
          clear b44_x0 b44_x1 b44_x2 b44_x3 b44_x4 b44_x5 In44_ b45_x0 b45_x1 b45_x2 b45_x3 b45_x4 b45_x5 In45_
          go_wp2_with fail
          refine (awake_any _ EE51_.out).mono ?_
          rintro e w6 ⟨rfl, hK⟩
          have HX52_ := Lib.hid (HX46_.out.kpn hK)
          have HX53_ := Lib.hid (HX47_.out.kpn hK)
          have HX54_ := Lib.hid (HX48_.out.kpn hK)
          have HX55_ := Lib.hid (HX49_.out.kpn hK)
          have KK56_ := Lib.hid (KK50_.out.trans hK)
          have EE57_ := Lib.hid (EE51_.out.kp hK (by simp))
          clear HX46_ HX47_ HX48_ HX49_ KK50_ EE51_
          clear hK
          go_wp2_with fail
          go_ret
          exact ⟨rfl, KK56_.out⟩
        | some n =>
          have nf := normal_NF u n Hon.out
          have HN := Lib.hid Hon.out
          have Zn := Lib.hid (normal_szU u n Zu.out zhu Hon.out)
          have l1 := nf.params.len
          have l2 := nf.heads.len
          have HQt := Lib.hid (eqU_turn u n Hon.out)
          have HQu := Lib.hid (eqU_user u n (tU2 n) Hon.out (by unfold tU2; dsimp only; intro h; have := congrArg List.length h; simp at this))
          have HQo := Lib.hid (eqU_len u n (tU3 n) Hon.out (by unfold tU3; dsimp only; simp))
          have Zt := Lib.hid (show SzU (turnU n) from ⟨Zn.out.scheme, Zn.out.user, Zn.out.host, by unfold turnU; rw [turnL_len]; exact Zn.out.params, by unfold turnU; rw [turnL_len]; exact Zn.out.heads, turnL_sz _ Zn.out.ps, turnL_sz _ Zn.out.hs⟩)
          clear nf
          have su : (Txt n.user).size ≤ 1048576 := by rw [txt_size, (normal_parts u n Hon.out).1]; exact zus
          obtain ⟨a29_, c29_, d29_, e29_, hc29_, hi29_⟩ := HX24_.out.in
          have b29_x0 := hc29_ 0
          have b29_x1 := hc29_ 1
          have b29_x2 := hc29_ 2
          have b29_x3 := hc29_ 3
          have b29_x4 := hc29_ 4
          have b29_x5 := hc29_ 5
          have In29_ := Lib.hid hi29_
          clear hc29_ hi29_
          go_wp2_with fail
          refine (Normal_any _ _ u _ In29_.out (Nat.le_refl _) Zu.out EE28_.out).mono ?_
          rw [HN.out]
          rintro e w4 ⟨v, rfl, hu, hB⟩
          simp only [Option.getD_some, Option.isSome_some, if_true] at hu ⊢
          have hK := (Kp.refl [] w3).below hB
          have hu' := hu
          obtain ⟨vp, vh, rfl, hp, hh⟩ := hu
          obtain ⟨A30_, C30_, rfl⟩ := hp.form
          obtain ⟨D30_, F30_, rfl⟩ := hh.form
          have HX31_ := Lib.hid (HX24_.out.kpn hK)
          have HX32_ := Lib.hid (HX25_.out.kpn hK)
          have HX33_ := Lib.hid (HX26_.out.kpn hK)
          have KK34_ := Lib.hid (KK27_.out.trans hK)
          have EE35_ := Lib.hid (EE28_.out.kp hK (by simp))
          clear HX24_ HX25_ HX26_ KK27_ EE28_
          clear b29_x0 b29_x1 b29_x2 b29_x3 b29_x4 b29_x5 In29_
          obtain ⟨w36_, hw37_⟩ : ∃ wz_, w4.alloc (.cells #[.string (Txt n.scheme), .string (Txt n.user), .string (Txt n.host), .int .i64 n.port, .slice A30_ n.params.length C30_, .slice D30_ n.heads.length F30_] 42) = wz_ := ⟨_, rfl⟩
          have hX := UBox.new hu'
          rw [hw37_] at hX
          have hKb : Kp [] w4 w36_ := by rw [← hw37_]; exact (Kp.refl [] w4).alloc _
          have HX38_ := Lib.hid (HX31_.out.kpn hKb)
          have HX39_ := Lib.hid (HX32_.out.kpn hKb)
          have HX40_ := Lib.hid (HX33_.out.kpn hKb)
          have KK41_ := Lib.hid (KK34_.out.trans hKb)
          have EE42_ := Lib.hid (EE35_.out.kp hKb (by simp))
          clear HX31_ HX32_ HX33_ KK34_ EE35_
          have HX43_ := Lib.hid hX
          clear hX hKb
          clear hK hB hp hh hu'
          obtain ⟨a44_, c44_, d44_, e44_, hc44_, hi44_, hp44_, hh44_⟩ := HX43_.out.both
          have b44_x0 := hc44_ 0
          have b44_x1 := hc44_ 1
          have b44_x2 := hc44_ 2
          have b44_x3 := hc44_ 3
          have b44_x4 := hc44_ 4
          have b44_x5 := hc44_ 5
          have In44_ := Lib.hid hi44_
          have Pp44_ := Lib.hid hp44_
          have Ph44_ := Lib.hid hh44_
          clear hc44_ hi44_ hp44_ hh44_
          have lttu := HX38_.out.lt
          have lttv := HX39_.out.lt
          have lttx := HX40_.out.lt
          have lttn := HX43_.out.lt
          have lttw := KK41_.out.size
          obtain ⟨w45_, hw46_⟩ : ∃ wz_, w36_.alloc (.cells #[.string (Txt n.scheme), .string (Txt n.user), .string (Txt n.host), .int .i64 n.port, .slice a44_ n.params.length c44_, .slice d44_ n.heads.length e44_] 42) = wz_ := ⟨_, rfl⟩
          have hX := UBox.new In44_.out
          rw [hw46_] at hX
          have hKb : Kp [] w36_ w45_ := by rw [← hw46_]; exact (Kp.refl [] w36_).alloc _
          have HX47_ := Lib.hid (HX38_.out.kpn hKb)
          have HX48_ := Lib.hid (HX39_.out.kpn hKb)
          have HX49_ := Lib.hid (HX40_.out.kpn hKb)
          have HX50_ := Lib.hid (HX43_.out.kpn hKb)
          have KK51_ := Lib.hid (KK41_.out.trans hKb)
          have EE52_ := Lib.hid (EE42_.out.kp hKb (by simp))
          clear HX38_ HX39_ HX40_ HX43_ KK41_ EE42_
          have HX53_ := Lib.hid hX
          clear hX hKb
          obtain ⟨a54_, c54_, d54_, e54_, hc54_, hi54_, hp54_, hh54_⟩ := HX50_.out.both
          have b54_x0 := hc54_ 0
          have b54_x1 := hc54_ 1
          have b54_x2 := hc54_ 2
          have b54_x3 := hc54_ 3
          have b54_x4 := hc54_ 4
          have b54_x5 := hc54_ 5
          have In54_ := Lib.hid hi54_
          have Pp54_ := Lib.hid hp54_
          have Ph54_ := Lib.hid hh54_
          clear hc54_ hi54_ hp54_ hh54_
          go_wp2_with fail
          refine (turned_any _ _ n.params _ Pp54_.out (Nat.le_refl _) Zn.out.ps (by omega)).mono ?_
          rintro e w5 ⟨vt, rfl, hpt, hK⟩
          obtain ⟨At, Ct, rfl⟩ := hpt.form
          have HX55_ := Lib.hid (HX47_.out.kpn hK)
          have HX56_ := Lib.hid (HX48_.out.kpn hK)
          have HX57_ := Lib.hid (HX49_.out.kpn hK)
          have HX58_ := Lib.hid (HX50_.out.kpn hK)
          have HX59_ := Lib.hid (HX53_.out.kpn hK)
          have KK60_ := Lib.hid (KK51_.out.trans hK)
          have EE61_ := Lib.hid (EE52_.out.kp hK (by simp))
          clear HX47_ HX48_ HX49_ HX50_ HX53_ KK51_ EE52_
          clear hK
          clear b44_x0 b44_x1 b44_x2 b44_x3 b44_x4 b44_x5 In44_ Pp44_ Ph44_ b54_x0 b54_x1 b54_x2 b54_x3 b54_x4 b54_x5 In54_ Pp54_ Ph54_
          obtain ⟨a62_, c62_, d62_, e62_, hc62_, hi62_, hp62_, hh62_⟩ := HX59_.out.both
          have b62_x0 := hc62_ 0
          have b62_x1 := hc62_ 1
          have b62_x2 := hc62_ 2
          have b62_x3 := hc62_ 3
          have b62_x4 := hc62_ 4
          have b62_x5 := hc62_ 5
          have In62_ := Lib.hid hi62_
          have Pp62_ := Lib.hid hp62_
          have Ph62_ := Lib.hid hh62_
          clear hc62_ hi62_ hp62_ hh62_
          have fz := HX59_.out.frozen 4
          go_upto_region 10 with fail
          clear b62_x0 b62_x1 b62_x2 b62_x3 b62_x4 b62_x5 In62_ Pp62_ Ph62_
          clear fz
          have hX := HX59_.out.set4 hpt
          have hS := kp_set w5 w36_.heap.size 4 (.slice At (turnL n.params).length Ct)
          have hN := HX59_.out.noB
          obtain ⟨w63_, hw_⟩ : ∃ wz_, w5.setCell ⟨w36_.heap.size, 4, none⟩ (.slice At (turnL n.params).length Ct) = wz_ := ⟨_, rfl⟩
          rw [hw_] at hX hS ⊢
          clear hw_
          have HX64_ := Lib.hid (show UBox w63_ w36_.heap.size (tU1 n) from hX)
          have HX65_ := Lib.hid (HX55_.out.kpX hS (by simp; omega) (by intro y hy; rw [List.mem_singleton.1 hy]; exact hN))
          have HX66_ := Lib.hid (HX56_.out.kpX hS (by simp; omega) (by intro y hy; rw [List.mem_singleton.1 hy]; exact hN))
          have HX67_ := Lib.hid (HX57_.out.kpX hS (by simp; omega) (by intro y hy; rw [List.mem_singleton.1 hy]; exact hN))
          have HX68_ := Lib.hid (HX58_.out.kpX hS (by simp; omega) (by intro y hy; rw [List.mem_singleton.1 hy]; exact hN))
          have KK69_ := Lib.hid (KK60_.out.to_ hS (by intro y hy; rw [List.mem_singleton.1 hy]; right; omega))
          have EE70_ := Lib.hid (EE61_.out.kp hS (by intro y hy; rw [List.mem_singleton.1 hy]; omega))
          clear hX hS hN HX55_ HX56_ HX57_ HX58_ HX59_ KK60_ EE61_
          clear hpt
          obtain ⟨a71_, c71_, d71_, e71_, hc71_, hi71_, hp71_, hh71_⟩ := HX68_.out.both
          have b71_x0 := hc71_ 0
          have b71_x1 := hc71_ 1
          have b71_x2 := hc71_ 2
          have b71_x3 := hc71_ 3
          have b71_x4 := hc71_ 4
          have b71_x5 := hc71_ 5
          have In71_ := Lib.hid hi71_
          have Pp71_ := Lib.hid hp71_
          have Ph71_ := Lib.hid hh71_
          clear hc71_ hi71_ hp71_ hh71_
          go_wp2_with fail
          refine (turned_any _ _ n.heads _ Ph71_.out (Nat.le_refl _) Zn.out.hs (by omega)).mono ?_
          rintro e w6 ⟨vt, rfl, hpt, hK⟩
          obtain ⟨At, Ct, rfl⟩ := hpt.form
          have HX72_ := Lib.hid (HX65_.out.kpn hK)
          have HX73_ := Lib.hid (HX66_.out.kpn hK)
          have HX74_ := Lib.hid (HX67_.out.kpn hK)
          have HX75_ := Lib.hid (HX68_.out.kpn hK)
          have HX76_ := Lib.hid (HX64_.out.kpn hK)
          have KK77_ := Lib.hid (KK69_.out.trans hK)
          have EE78_ := Lib.hid (EE70_.out.kp hK (by simp))
          clear HX65_ HX66_ HX67_ HX68_ HX64_ KK69_ EE70_
          clear hK
          clear b71_x0 b71_x1 b71_x2 b71_x3 b71_x4 b71_x5 In71_ Pp71_ Ph71_
          obtain ⟨a79_, c79_, d79_, e79_, hc79_, hi79_, hp79_, hh79_⟩ := HX76_.out.both
          have b79_x0 := hc79_ 0
          have b79_x1 := hc79_ 1
          have b79_x2 := hc79_ 2
          have b79_x3 := hc79_ 3
          have b79_x4 := hc79_ 4
          have b79_x5 := hc79_ 5
          have In79_ := Lib.hid hi79_
          have Pp79_ := Lib.hid hp79_
          have Ph79_ := Lib.hid hh79_
          clear hc79_ hi79_ hp79_ hh79_
          have fz := HX76_.out.frozen 5
          go_upto_region 11 with fail
          clear b79_x0 b79_x1 b79_x2 b79_x3 b79_x4 b79_x5 In79_ Pp79_ Ph79_
          clear fz
          have hX := HX76_.out.set5 hpt
          have hS := kp_set w6 w36_.heap.size 5 (.slice At (turnL n.heads).length Ct)
          have hN := HX76_.out.noB
          obtain ⟨w80_, hw_⟩ : ∃ wz_, w6.setCell ⟨w36_.heap.size, 5, none⟩ (.slice At (turnL n.heads).length Ct) = wz_ := ⟨_, rfl⟩
          rw [hw_] at hX hS ⊢
          clear hw_
          have HX81_ := Lib.hid (show UBox w80_ w36_.heap.size (turnU n) from hX)
          have HX82_ := Lib.hid (HX72_.out.kpX hS (by simp; omega) (by intro y hy; rw [List.mem_singleton.1 hy]; exact hN))
          have HX83_ := Lib.hid (HX73_.out.kpX hS (by simp; omega) (by intro y hy; rw [List.mem_singleton.1 hy]; exact hN))
          have HX84_ := Lib.hid (HX74_.out.kpX hS (by simp; omega) (by intro y hy; rw [List.mem_singleton.1 hy]; exact hN))
          have HX85_ := Lib.hid (HX75_.out.kpX hS (by simp; omega) (by intro y hy; rw [List.mem_singleton.1 hy]; exact hN))
          have KK86_ := Lib.hid (KK77_.out.to_ hS (by intro y hy; rw [List.mem_singleton.1 hy]; right; omega))
          have EE87_ := Lib.hid (EE78_.out.kp hS (by intro y hy; rw [List.mem_singleton.1 hy]; omega))
          clear hX hS hN HX72_ HX73_ HX74_ HX75_ HX76_ KK77_ EE78_
          clear hpt
          obtain ⟨a88_, c88_, d88_, e88_, hc88_, hi88_⟩ := HX82_.out.in
          have b88_x0 := hc88_ 0
          have b88_x1 := hc88_ 1
          have b88_x2 := hc88_ 2
          have b88_x3 := hc88_ 3
          have b88_x4 := hc88_ 4
          have b88_x5 := hc88_ 5
          have In88_ := Lib.hid hi88_
          clear hc88_ hi88_
          obtain ⟨a89_, c89_, d89_, e89_, hc89_, hi89_⟩ := HX81_.out.in
          have b89_x0 := hc89_ 0
          have b89_x1 := hc89_ 1
          have b89_x2 := hc89_ 2
          have b89_x3 := hc89_ 3
          have b89_x4 := hc89_ 4
          have b89_x5 := hc89_ 5
          have In89_ := Lib.hid hi89_
          clear hc89_ hi89_
          go_wp2_with fail
          refine (equal_any _ _ _ _ u (turnU n) _ In88_.out In89_.out (Nat.le_refl _) (Nat.le_refl _) Zu.out Zt.out EE87_.out).mono ?_
          rintro e w7 ⟨rfl, hK⟩
          rw [HQt.out]
          have HX90_ := Lib.hid (HX82_.out.kpn hK)
          have HX91_ := Lib.hid (HX83_.out.kpn hK)
          have HX92_ := Lib.hid (HX84_.out.kpn hK)
          have HX93_ := Lib.hid (HX85_.out.kpn hK)
          have HX94_ := Lib.hid (HX81_.out.kpn hK)
          have KK95_ := Lib.hid (KK86_.out.trans hK)
          have EE96_ := Lib.hid (EE87_.out.kp hK (by simp))
          clear HX82_ HX83_ HX84_ HX85_ HX81_ KK86_ EE87_
          clear hK
          clear b88_x0 b88_x1 b88_x2 b88_x3 b88_x4 b88_x5 In88_ b89_x0 b89_x1 b89_x2 b89_x3 b89_x4 b89_x5 In89_
          obtain ⟨a97_, c97_, d97_, e97_, hc97_, hi97_, hp97_, hh97_⟩ := HX93_.out.both
          have b97_x0 := hc97_ 0
          have b97_x1 := hc97_ 1
          have b97_x2 := hc97_ 2
          have b97_x3 := hc97_ 3
          have b97_x4 := hc97_ 4
          have b97_x5 := hc97_ 5
          have In97_ := Lib.hid hi97_
          have Pp97_ := Lib.hid hp97_
          have Ph97_ := Lib.hid hh97_
          clear hc97_ hi97_ hp97_ hh97_
          obtain ⟨a98_, c98_, d98_, e98_, hc98_, hi98_, hp98_, hh98_⟩ := HX94_.out.both
          have b98_x0 := hc98_ 0
          have b98_x1 := hc98_ 1
          have b98_x2 := hc98_ 2
          have b98_x3 := hc98_ 3
          have b98_x4 := hc98_ 4
          have b98_x5 := hc98_ 5
          have In98_ := Lib.hid hi98_
          have Pp98_ := Lib.hid hp98_
          have Ph98_ := Lib.hid hh98_
          clear hc98_ hi98_ hp98_ hh98_
          have fz := HX94_.out.frozen 1
          go_upto_region 14 with fail
          rw [show Txt n.user ++ (⟨#[49]⟩ : ByteArray) = Txt (n.user ++ [49]) from cat_txt _ _]
          clear b97_x0 b97_x1 b97_x2 b97_x3 b97_x4 b97_x5 In97_ Pp97_ Ph97_ b98_x0 b98_x1 b98_x2 b98_x3 b98_x4 b98_x5 In98_ Pp98_ Ph98_
          clear fz
          have hX := HX94_.out.set1 (n.user ++ [49])
          have hS := kp_set w7 w36_.heap.size 1 (.string (Txt (n.user ++ [49])))
          have hN := HX94_.out.noB
          obtain ⟨w99_, hw_⟩ : ∃ wz_, w7.setCell ⟨w36_.heap.size, 1, none⟩ (.string (Txt (n.user ++ [49]))) = wz_ := ⟨_, rfl⟩
          rw [hw_] at hX hS ⊢
          clear hw_
          have HX100_ := Lib.hid (show UBox w99_ w36_.heap.size (tU2 n) from hX)
          have HX101_ := Lib.hid (HX90_.out.kpX hS (by simp; omega) (by intro y hy; rw [List.mem_singleton.1 hy]; exact hN))
          have HX102_ := Lib.hid (HX91_.out.kpX hS (by simp; omega) (by intro y hy; rw [List.mem_singleton.1 hy]; exact hN))
          have HX103_ := Lib.hid (HX92_.out.kpX hS (by simp; omega) (by intro y hy; rw [List.mem_singleton.1 hy]; exact hN))
          have HX104_ := Lib.hid (HX93_.out.kpX hS (by simp; omega) (by intro y hy; rw [List.mem_singleton.1 hy]; exact hN))
          have KK105_ := Lib.hid (KK95_.out.to_ hS (by intro y hy; rw [List.mem_singleton.1 hy]; right; omega))
          have EE106_ := Lib.hid (EE96_.out.kp hS (by intro y hy; rw [List.mem_singleton.1 hy]; omega))
          clear hX hS hN HX90_ HX91_ HX92_ HX93_ HX94_ KK95_ EE96_
          obtain ⟨a107_, c107_, d107_, e107_, hc107_, hi107_, hp107_, hh107_⟩ := HX104_.out.both
          have b107_x0 := hc107_ 0
          have b107_x1 := hc107_ 1
          have b107_x2 := hc107_ 2
          have b107_x3 := hc107_ 3
          have b107_x4 := hc107_ 4
          have b107_x5 := hc107_ 5
          have In107_ := Lib.hid hi107_
          have Pp107_ := Lib.hid hp107_
          have Ph107_ := Lib.hid hh107_
          clear hc107_ hi107_ hp107_ hh107_
          have ltou := HX101_.out.lt
          have ltov := HX102_.out.lt
          have ltox := HX103_.out.lt
          have lton := HX104_.out.lt
          have ltot := HX100_.out.lt
          have ltow := KK105_.out.size
          obtain ⟨w108_, hw109_⟩ : ∃ wz_, w99_.alloc (.cells #[.string (Txt n.scheme), .string (Txt n.user), .string (Txt n.host), .int .i64 n.port, .slice a107_ n.params.length c107_, .slice d107_ n.heads.length e107_] 42) = wz_ := ⟨_, rfl⟩
          have hX := UBox.new In107_.out
          rw [hw109_] at hX
          have hKb : Kp [] w99_ w108_ := by rw [← hw109_]; exact (Kp.refl [] w99_).alloc _
          have HX110_ := Lib.hid (HX101_.out.kpn hKb)
          have HX111_ := Lib.hid (HX102_.out.kpn hKb)
          have HX112_ := Lib.hid (HX103_.out.kpn hKb)
          have HX113_ := Lib.hid (HX104_.out.kpn hKb)
          have HX114_ := Lib.hid (HX100_.out.kpn hKb)
          have KK115_ := Lib.hid (KK105_.out.trans hKb)
          have EE116_ := Lib.hid (EE106_.out.kp hKb (by simp))
          clear HX101_ HX102_ HX103_ HX104_ HX100_ KK105_ EE106_
          have HX117_ := Lib.hid hX
          clear hX hKb
          obtain ⟨a118_, c118_, d118_, e118_, hc118_, hi118_, hp118_, hh118_⟩ := HX113_.out.both
          have b118_x0 := hc118_ 0
          have b118_x1 := hc118_ 1
          have b118_x2 := hc118_ 2
          have b118_x3 := hc118_ 3
          have b118_x4 := hc118_ 4
          have b118_x5 := hc118_ 5
          have In118_ := Lib.hid hi118_
          have Pp118_ := Lib.hid hp118_
          have Ph118_ := Lib.hid hh118_
          clear hc118_ hi118_ hp118_ hh118_
          have ltn := HX113_.out.lt
          have hKE := (Kp.refl [] w108_).alloc (.cells #[] 32)
          have hOE := World.ownsRow_lit (base := w108_.heap.size) (e := 32) (size := 3) w108_ #[] 0 (Nat.le_refl _) (by unfold maxLen; omega) (by rfl)
          obtain ⟨wE, hwE⟩ : ∃ wz_, w108_.alloc (.cells #[] 32) = wz_ := ⟨_, rfl⟩
          rw [hwE] at hKE hOE
          have e4 : wE.cell? ⟨w4.heap.size, 4, none⟩ = some (.slice a118_ n.params.length c118_) := (hKE.cell (p := ⟨w4.heap.size, 4, none⟩) ltn (by simp)).trans b118_x4
          have PE := Lib.hid (Pp118_.out.kp hKE (Nat.le_refl _) (by simp))
          have OE := Lib.hid (show wE.ownsRow w108_.heap.size 32 3 (.slice (some ⟨w108_.heap.size, 0, none⟩) 0 0) ([] : List Prm).length (pcl []) from hOE)
          have KE := Lib.hid hKE
          have hszE := hKE.size
          clear hKE hOE
          go_wp2_with (at_builtin; refine wpList_append_pm rfl _ _ rfl w108_.heap.size [] n.params _ _ rfl OE.out _ rfl PE.out ?c1 hszE ?_)
          case c1 => simp; omega
          intro v1 wF hown1 hgrow1
          have OF := Lib.hid (show wF.ownsRow w108_.heap.size 32 3 v1 n.params.length (pcl n.params) from hown1)
          have hKF := KE.out.grown hgrow1 (fun g hg => .inr (by cases hg; exact Nat.le_refl _))
          obtain ⟨pF, cF, rfl⟩ := own_form OF.out
          have hszF := hKF.size
          clear b107_x0 b107_x1 b107_x2 b107_x3 b107_x4 b107_x5 In107_ Pp107_ Ph107_ b118_x0 b118_x1 b118_x2 b118_x3 b118_x4 b118_x5 In118_ Pp118_ Ph118_
          clear e4 ltn PE OE KE hown1 hgrow1 hwE
          obtain ⟨i0, hi, hz0, hz1, hz2⟩ := info_parts infoPrm3
          go_wp2_with (at_builtin; refine wpList_append_own _ rfl _ _ 30 rfl w108_.heap.size 32 i0 (.agg #[.string .empty, .string .empty, .bool false]) 3 40 Tryz.underlying30 hi hz0 hz1 hz2 rfl (by decide) _ _ _ rfl (OF.out.alloc _) ⟨wF.heap.size, 0, none⟩ 1 1 [.string ⟨#[122, 122, 122, 32, 122, 122, 122]⟩, .string ⟨#[]⟩, .bool false] rfl rfl (cell_three_new _ _ _ _ _) (by simp [Value.oneCell']) ?c3 ?c4 ?c5 ?_)
          case c3 => unfold maxLen; omega
          case c4 => omega
          case c5 => simp; omega
          intro v2 wG hown2 hgrow2 _
          have hKG := (hKF.alloc (.cells #[.string ⟨#[122, 122, 122, 32, 122, 122, 122]⟩, .string ⟨#[]⟩, .bool false] 32)).grown hgrow2 (fun g hg => .inr (OF.out.lt g hg).1)
          have hOG := (by simpa [pcl, pc1, Txt, zzz] using hown2 : wG.ownsRow w108_.heap.size 32 3 v2 (n.params ++ [(zzz, [], false)]).length (pcl (n.params ++ [(zzz, [], false)])))
          obtain ⟨pG, cG, rfl⟩ := own_form hOG
          have hpt := own_pm hOG
          clear hown2 hgrow2 hOG hKF hszF
          have HX119_ := Lib.hid (HX110_.out.kpn hKG)
          have HX120_ := Lib.hid (HX111_.out.kpn hKG)
          have HX121_ := Lib.hid (HX112_.out.kpn hKG)
          have HX122_ := Lib.hid (HX113_.out.kpn hKG)
          have HX123_ := Lib.hid (HX114_.out.kpn hKG)
          have HX124_ := Lib.hid (HX117_.out.kpn hKG)
          have KK125_ := Lib.hid (KK115_.out.trans hKG)
          have EE126_ := Lib.hid (EE116_.out.kp hKG (by simp))
          clear HX110_ HX111_ HX112_ HX113_ HX114_ HX117_ KK115_ EE116_
          clear hKG OF
          obtain ⟨a127_, c127_, d127_, e127_, hc127_, hi127_, hp127_, hh127_⟩ := HX124_.out.both
          have b127_x0 := hc127_ 0
          have b127_x1 := hc127_ 1
          have b127_x2 := hc127_ 2
          have b127_x3 := hc127_ 3
          have b127_x4 := hc127_ 4
          have b127_x5 := hc127_ 5
          have In127_ := Lib.hid hi127_
          have Pp127_ := Lib.hid hp127_
          have Ph127_ := Lib.hid hh127_
          clear hc127_ hi127_ hp127_ hh127_
          have fz := HX124_.out.frozen 4
          go_upto_region 16 with fail
          clear b127_x0 b127_x1 b127_x2 b127_x3 b127_x4 b127_x5 In127_ Pp127_ Ph127_
          clear fz
          have hLN : (n.params ++ [(zzz, [], false)]).length = n.params.length + 1 := by simp
          rw [← hLN]
          clear hLN
          have hX := HX124_.out.set4 hpt
          have hS := kp_set wG w99_.heap.size 4 (.slice pG (n.params ++ [(zzz, [], false)]).length cG)
          have hN := HX124_.out.noB
          obtain ⟨w128_, hw_⟩ : ∃ wz_, wG.setCell ⟨w99_.heap.size, 4, none⟩ (.slice pG (n.params ++ [(zzz, [], false)]).length cG) = wz_ := ⟨_, rfl⟩
          rw [hw_] at hX hS ⊢
          clear hw_
          have HX129_ := Lib.hid (show UBox w128_ w99_.heap.size (tU3 n) from hX)
          have HX130_ := Lib.hid (HX119_.out.kpX hS (by simp; omega) (by intro y hy; rw [List.mem_singleton.1 hy]; exact hN))
          have HX131_ := Lib.hid (HX120_.out.kpX hS (by simp; omega) (by intro y hy; rw [List.mem_singleton.1 hy]; exact hN))
          have HX132_ := Lib.hid (HX121_.out.kpX hS (by simp; omega) (by intro y hy; rw [List.mem_singleton.1 hy]; exact hN))
          have HX133_ := Lib.hid (HX122_.out.kpX hS (by simp; omega) (by intro y hy; rw [List.mem_singleton.1 hy]; exact hN))
          have HX134_ := Lib.hid (HX123_.out.kpX hS (by simp; omega) (by intro y hy; rw [List.mem_singleton.1 hy]; exact hN))
          have KK135_ := Lib.hid (KK125_.out.to_ hS (by intro y hy; rw [List.mem_singleton.1 hy]; right; omega))
          have EE136_ := Lib.hid (EE126_.out.kp hS (by intro y hy; rw [List.mem_singleton.1 hy]; omega))
          clear hX hS hN HX119_ HX120_ HX121_ HX122_ HX123_ HX124_ KK125_ EE126_
          clear hpt
          have Zt2 := Lib.hid (show SzU (tU2 n) from ⟨Zn.out.scheme, (by have := su; rw [txt_size] at this; unfold tU2; simp only [List.length_append, List.length_cons, List.length_nil]; omega), Zn.out.host, by unfold tU2; dsimp only; rw [turnL_len]; exact Zn.out.params, by unfold tU2; dsimp only; rw [turnL_len]; exact Zn.out.heads, turnL_sz _ Zn.out.ps, turnL_sz _ Zn.out.hs⟩)
          have Zo := Lib.hid (show SzU (tU3 n) from ⟨Zn.out.scheme, Zn.out.user, Zn.out.host, by unfold tU3; simp only [List.length_append, List.length_cons, List.length_nil]; omega, Zn.out.heads, (fun p hp => by
            rcases List.mem_append.1 hp with h | h
            · exact Zn.out.ps p h
            · rw [List.mem_singleton.1 h]; exact ⟨by decide, by decide⟩), Zn.out.hs⟩)
          obtain ⟨a137_, c137_, d137_, e137_, hc137_, hi137_⟩ := HX130_.out.in
          have b137_x0 := hc137_ 0
          have b137_x1 := hc137_ 1
          have b137_x2 := hc137_ 2
          have b137_x3 := hc137_ 3
          have b137_x4 := hc137_ 4
          have b137_x5 := hc137_ 5
          have In137_ := Lib.hid hi137_
          clear hc137_ hi137_
          obtain ⟨a138_, c138_, d138_, e138_, hc138_, hi138_⟩ := HX134_.out.in
          have b138_x0 := hc138_ 0
          have b138_x1 := hc138_ 1
          have b138_x2 := hc138_ 2
          have b138_x3 := hc138_ 3
          have b138_x4 := hc138_ 4
          have b138_x5 := hc138_ 5
          have In138_ := Lib.hid hi138_
          clear hc138_ hi138_
          go_wp2_with fail
          refine (equal_any _ _ _ _ u (tU2 n) _ In137_.out In138_.out (Nat.le_refl _) (Nat.le_refl _) Zu.out Zt2.out EE136_.out).mono ?_
          rintro e w8 ⟨rfl, hK⟩
          rw [HQu.out]
          have HX139_ := Lib.hid (HX130_.out.kpn hK)
          have HX140_ := Lib.hid (HX131_.out.kpn hK)
          have HX141_ := Lib.hid (HX132_.out.kpn hK)
          have HX142_ := Lib.hid (HX133_.out.kpn hK)
          have HX143_ := Lib.hid (HX134_.out.kpn hK)
          have HX144_ := Lib.hid (HX129_.out.kpn hK)
          have KK145_ := Lib.hid (KK135_.out.trans hK)
          have EE146_ := Lib.hid (EE136_.out.kp hK (by simp))
          clear HX130_ HX131_ HX132_ HX133_ HX134_ HX129_ KK135_ EE136_
          clear hK
          clear b137_x0 b137_x1 b137_x2 b137_x3 b137_x4 b137_x5 In137_ b138_x0 b138_x1 b138_x2 b138_x3 b138_x4 b138_x5 In138_
          obtain ⟨a147_, c147_, d147_, e147_, hc147_, hi147_⟩ := HX139_.out.in
          have b147_x0 := hc147_ 0
          have b147_x1 := hc147_ 1
          have b147_x2 := hc147_ 2
          have b147_x3 := hc147_ 3
          have b147_x4 := hc147_ 4
          have b147_x5 := hc147_ 5
          have In147_ := Lib.hid hi147_
          clear hc147_ hi147_
          obtain ⟨a148_, c148_, d148_, e148_, hc148_, hi148_⟩ := HX144_.out.in
          have b148_x0 := hc148_ 0
          have b148_x1 := hc148_ 1
          have b148_x2 := hc148_ 2
          have b148_x3 := hc148_ 3
          have b148_x4 := hc148_ 4
          have b148_x5 := hc148_ 5
          have In148_ := Lib.hid hi148_
          clear hc148_ hi148_
          go_wp2_with fail
          refine (equal_any _ _ _ _ u (tU3 n) _ In147_.out In148_.out (Nat.le_refl _) (Nat.le_refl _) Zu.out Zo.out EE146_.out).mono ?_
          rintro e w9 ⟨rfl, hK⟩
          rw [HQo.out]
          have HX149_ := Lib.hid (HX139_.out.kpn hK)
          have HX150_ := Lib.hid (HX140_.out.kpn hK)
          have HX151_ := Lib.hid (HX141_.out.kpn hK)
          have HX152_ := Lib.hid (HX142_.out.kpn hK)
          have HX153_ := Lib.hid (HX143_.out.kpn hK)
          have HX154_ := Lib.hid (HX144_.out.kpn hK)
          have KK155_ := Lib.hid (KK145_.out.trans hK)
          have EE156_ := Lib.hid (EE146_.out.kp hK (by simp))
          clear HX139_ HX140_ HX141_ HX142_ HX143_ HX144_ KK145_ EE146_
          clear hK
          clear b147_x0 b147_x1 b147_x2 b147_x3 b147_x4 b147_x5 In147_ b148_x0 b148_x1 b148_x2 b148_x3 b148_x4 b148_x5 In148_
          go_wp2_with fail
          refine (awake_any _ EE156_.out).mono ?_
          rintro e w10 ⟨rfl, hK⟩
          have HX157_ := Lib.hid (HX149_.out.kpn hK)
          have HX158_ := Lib.hid (HX150_.out.kpn hK)
          have HX159_ := Lib.hid (HX151_.out.kpn hK)
          have HX160_ := Lib.hid (HX152_.out.kpn hK)
          have HX161_ := Lib.hid (HX153_.out.kpn hK)
          have HX162_ := Lib.hid (HX154_.out.kpn hK)
          have KK163_ := Lib.hid (KK155_.out.trans hK)
          have EE164_ := Lib.hid (EE156_.out.kp hK (by simp))
          clear HX149_ HX150_ HX151_ HX152_ HX153_ HX154_ KK155_ EE156_
          clear hK
          go_wp2_with fail
          go_ret
          exact ⟨rfl, KK163_.out⟩
      · obtain rfl := hreg rfl rfl
        refine wp_region_grew (by kernel_rfl) (by kernel_rfl) ?_
        repeat (go_big_quiet_step ((first
          | (go_at_call 39; with_reducible exact Q1.out _)
          | (go_at_call 39; with_reducible exact Q2.out _)
          | (go_at_call 39; with_reducible exact Q3.out _)
          | (go_at_call 39; with_reducible exact Q4.out _))))
        refine wpQuiet_nil ?_
        intro _ hw'
        obtain ⟨nq, hw''⟩ := hw'
        subst hw''
        have hK := grew_kp w14_ nq
        obtain ⟨w3, hw3e⟩ : ∃ wz_, grew w14_ nq = wz_ := ⟨_, rfl⟩
        rw [hw3e] at hK ⊢
        clear hw3e g21_x0 g21_x1 g21_x2 g21_x3 g21_x4 g21_x5 g22_x0 g22_x1 g22_x2 g22_x3 g22_x4 g22_x5 g23_x0 g23_x1 g23_x2 g23_x3 g23_x4 g23_x5 Q1 Q2 Q3 Q4
        have HX24_ := Lib.hid (HX16_.out.kpn hK)
        have HX25_ := Lib.hid (HX17_.out.kpn hK)
        have HX26_ := Lib.hid (HX20_.out.kpn hK)
        have KK27_ := Lib.hid (KK18_.out.trans hK)
        have EE28_ := Lib.hid (EE19_.out.kp hK (by simp))
        clear HX16_ HX17_ HX20_ KK18_ EE19_
        clear hK
        clear b21_x0 b21_x1 b21_x2 b21_x3 b21_x4 b21_x5 In21_ b22_x0 b22_x1 b22_x2 b22_x3 b22_x4 b22_x5 In22_ b23_x0 b23_x1 b23_x2 b23_x3 b23_x4 b23_x5 In23_
        cases on with
        | none =>
          have HN := Lib.hid Hon.out
          have HQ := Lib.hid (eqU_none u v Hon.out)
          obtain ⟨z, hz⟩ : ∃ z, nilU = z := ⟨_, rfl⟩
          have Hnil := Lib.hid hz
          clear hz
          obtain ⟨a29_, c29_, d29_, e29_, hc29_, hi29_⟩ := HX24_.out.in
          have b29_x0 := hc29_ 0
          have b29_x1 := hc29_ 1
          have b29_x2 := hc29_ 2
          have b29_x3 := hc29_ 3
          have b29_x4 := hc29_ 4
          have b29_x5 := hc29_ 5
          have In29_ := Lib.hid hi29_
          clear hc29_ hi29_
          go_wp2_with fail
          refine (Normal_any _ _ u _ In29_.out (Nat.le_refl _) Zu.out EE28_.out).mono ?_
          rw [HN.out]
          rintro e w4 ⟨v, rfl, hu, hB⟩
          simp only [Option.getD_none, Option.isSome_none, Bool.false_eq_true, if_false] at hu ⊢
          rw [Hnil.out] at hu
          have hK := (Kp.refl [] w3).below hB
          have hu' := hu
          obtain ⟨vp, vh, rfl, hp, hh⟩ := hu
          obtain ⟨A30_, C30_, rfl⟩ := hp.form
          obtain ⟨D30_, F30_, rfl⟩ := hh.form
          have HX31_ := Lib.hid (HX24_.out.kpn hK)
          have HX32_ := Lib.hid (HX25_.out.kpn hK)
          have HX33_ := Lib.hid (HX26_.out.kpn hK)
          have KK34_ := Lib.hid (KK27_.out.trans hK)
          have EE35_ := Lib.hid (EE28_.out.kp hK (by simp))
          clear HX24_ HX25_ HX26_ KK27_ EE28_
          clear b29_x0 b29_x1 b29_x2 b29_x3 b29_x4 b29_x5 In29_
          obtain ⟨w36_, hw37_⟩ : ∃ wz_, w4.alloc (.cells #[.string (Txt z.scheme), .string (Txt z.user), .string (Txt z.host), .int .i64 z.port, .slice A30_ z.params.length C30_, .slice D30_ z.heads.length F30_] 42) = wz_ := ⟨_, rfl⟩
          have hX := UBox.new hu'
          rw [hw37_] at hX
          have hKb : Kp [] w4 w36_ := by rw [← hw37_]; exact (Kp.refl [] w4).alloc _
          have HX38_ := Lib.hid (HX31_.out.kpn hKb)
          have HX39_ := Lib.hid (HX32_.out.kpn hKb)
          have HX40_ := Lib.hid (HX33_.out.kpn hKb)
          have KK41_ := Lib.hid (KK34_.out.trans hKb)
          have EE42_ := Lib.hid (EE35_.out.kp hKb (by simp))
          clear HX31_ HX32_ HX33_ KK34_ EE35_
          have HX43_ := Lib.hid hX
          clear hX hKb
          clear hK hB hp hh hu'
          obtain ⟨a44_, c44_, d44_, e44_, hc44_, hi44_⟩ := HX38_.out.in
          have b44_x0 := hc44_ 0
          have b44_x1 := hc44_ 1
          have b44_x2 := hc44_ 2
          have b44_x3 := hc44_ 3
          have b44_x4 := hc44_ 4
          have b44_x5 := hc44_ 5
          have In44_ := Lib.hid hi44_
          clear hc44_ hi44_
          obtain ⟨a45_, c45_, d45_, e45_, hc45_, hi45_⟩ := HX39_.out.in
          have b45_x0 := hc45_ 0
          have b45_x1 := hc45_ 1
          have b45_x2 := hc45_ 2
          have b45_x3 := hc45_ 3
          have b45_x4 := hc45_ 4
          have b45_x5 := hc45_ 5
          have In45_ := Lib.hid hi45_
          clear hc45_ hi45_
          go_wp2_with fail
          refine (equal_any _ _ _ _ u v _ In44_.out In45_.out (Nat.le_refl _) (Nat.le_refl _) Zu.out Zv.out EE42_.out).mono ?_
          rintro e w5 ⟨rfl, hK⟩
          rw [HQ.out]
          have HX46_ := Lib.hid (HX38_.out.kpn hK)
          have HX47_ := Lib.hid (HX39_.out.kpn hK)
          have HX48_ := Lib.hid (HX40_.out.kpn hK)
          have HX49_ := Lib.hid (HX43_.out.kpn hK)
          have KK50_ := Lib.hid (KK41_.out.trans hK)
          have EE51_ := Lib.hid (EE42_.out.kp hK (by simp))
          clear HX38_ HX39_ HX40_ HX43_ KK41_ EE42_
          clear hK
          clear b44_x0 b44_x1 b44_x2 b44_x3 b44_x4 b44_x5 In44_ b45_x0 b45_x1 b45_x2 b45_x3 b45_x4 b45_x5 In45_
          go_wp2_with fail
          refine (awake_any _ EE51_.out).mono ?_
          rintro e w6 ⟨rfl, hK⟩
          have HX52_ := Lib.hid (HX46_.out.kpn hK)
          have HX53_ := Lib.hid (HX47_.out.kpn hK)
          have HX54_ := Lib.hid (HX48_.out.kpn hK)
          have HX55_ := Lib.hid (HX49_.out.kpn hK)
          have KK56_ := Lib.hid (KK50_.out.trans hK)
          have EE57_ := Lib.hid (EE51_.out.kp hK (by simp))
          clear HX46_ HX47_ HX48_ HX49_ KK50_ EE51_
          clear hK
          go_wp2_with fail
          go_ret
          exact ⟨rfl, KK56_.out⟩
        | some n =>
          have nf := normal_NF u n Hon.out
          have HN := Lib.hid Hon.out
          have Zn := Lib.hid (normal_szU u n Zu.out zhu Hon.out)
          have l1 := nf.params.len
          have l2 := nf.heads.len
          have HQt := Lib.hid (eqU_turn u n Hon.out)
          have HQu := Lib.hid (eqU_user u n (tU2 n) Hon.out (by unfold tU2; dsimp only; intro h; have := congrArg List.length h; simp at this))
          have HQo := Lib.hid (eqU_len u n (tU3 n) Hon.out (by unfold tU3; dsimp only; simp))
          have Zt := Lib.hid (show SzU (turnU n) from ⟨Zn.out.scheme, Zn.out.user, Zn.out.host, by unfold turnU; rw [turnL_len]; exact Zn.out.params, by unfold turnU; rw [turnL_len]; exact Zn.out.heads, turnL_sz _ Zn.out.ps, turnL_sz _ Zn.out.hs⟩)
          clear nf
          have su : (Txt n.user).size ≤ 1048576 := by rw [txt_size, (normal_parts u n Hon.out).1]; exact zus
          obtain ⟨a29_, c29_, d29_, e29_, hc29_, hi29_⟩ := HX24_.out.in
          have b29_x0 := hc29_ 0
          have b29_x1 := hc29_ 1
          have b29_x2 := hc29_ 2
          have b29_x3 := hc29_ 3
          have b29_x4 := hc29_ 4
          have b29_x5 := hc29_ 5
          have In29_ := Lib.hid hi29_
          clear hc29_ hi29_
          go_wp2_with fail
          refine (Normal_any _ _ u _ In29_.out (Nat.le_refl _) Zu.out EE28_.out).mono ?_
          rw [HN.out]
          rintro e w4 ⟨v, rfl, hu, hB⟩
          simp only [Option.getD_some, Option.isSome_some, if_true] at hu ⊢
          have hK := (Kp.refl [] w3).below hB
          have hu' := hu
          obtain ⟨vp, vh, rfl, hp, hh⟩ := hu
          obtain ⟨A30_, C30_, rfl⟩ := hp.form
          obtain ⟨D30_, F30_, rfl⟩ := hh.form
          have HX31_ := Lib.hid (HX24_.out.kpn hK)
          have HX32_ := Lib.hid (HX25_.out.kpn hK)
          have HX33_ := Lib.hid (HX26_.out.kpn hK)
          have KK34_ := Lib.hid (KK27_.out.trans hK)
          have EE35_ := Lib.hid (EE28_.out.kp hK (by simp))
          clear HX24_ HX25_ HX26_ KK27_ EE28_
          clear b29_x0 b29_x1 b29_x2 b29_x3 b29_x4 b29_x5 In29_
          obtain ⟨w36_, hw37_⟩ : ∃ wz_, w4.alloc (.cells #[.string (Txt n.scheme), .string (Txt n.user), .string (Txt n.host), .int .i64 n.port, .slice A30_ n.params.length C30_, .slice D30_ n.heads.length F30_] 42) = wz_ := ⟨_, rfl⟩
          have hX := UBox.new hu'
          rw [hw37_] at hX
          have hKb : Kp [] w4 w36_ := by rw [← hw37_]; exact (Kp.refl [] w4).alloc _
          have HX38_ := Lib.hid (HX31_.out.kpn hKb)
          have HX39_ := Lib.hid (HX32_.out.kpn hKb)
          have HX40_ := Lib.hid (HX33_.out.kpn hKb)
          have KK41_ := Lib.hid (KK34_.out.trans hKb)
          have EE42_ := Lib.hid (EE35_.out.kp hKb (by simp))
          clear HX31_ HX32_ HX33_ KK34_ EE35_
          have HX43_ := Lib.hid hX
          clear hX hKb
          clear hK hB hp hh hu'
          obtain ⟨a44_, c44_, d44_, e44_, hc44_, hi44_, hp44_, hh44_⟩ := HX43_.out.both
          have b44_x0 := hc44_ 0
          have b44_x1 := hc44_ 1
          have b44_x2 := hc44_ 2
          have b44_x3 := hc44_ 3
          have b44_x4 := hc44_ 4
          have b44_x5 := hc44_ 5
          have In44_ := Lib.hid hi44_
          have Pp44_ := Lib.hid hp44_
          have Ph44_ := Lib.hid hh44_
          clear hc44_ hi44_ hp44_ hh44_
          have lttu := HX38_.out.lt
          have lttv := HX39_.out.lt
          have lttx := HX40_.out.lt
          have lttn := HX43_.out.lt
          have lttw := KK41_.out.size
          obtain ⟨w45_, hw46_⟩ : ∃ wz_, w36_.alloc (.cells #[.string (Txt n.scheme), .string (Txt n.user), .string (Txt n.host), .int .i64 n.port, .slice a44_ n.params.length c44_, .slice d44_ n.heads.length e44_] 42) = wz_ := ⟨_, rfl⟩
          have hX := UBox.new In44_.out
          rw [hw46_] at hX
          have hKb : Kp [] w36_ w45_ := by rw [← hw46_]; exact (Kp.refl [] w36_).alloc _
          have HX47_ := Lib.hid (HX38_.out.kpn hKb)
          have HX48_ := Lib.hid (HX39_.out.kpn hKb)
          have HX49_ := Lib.hid (HX40_.out.kpn hKb)
          have HX50_ := Lib.hid (HX43_.out.kpn hKb)
          have KK51_ := Lib.hid (KK41_.out.trans hKb)
          have EE52_ := Lib.hid (EE42_.out.kp hKb (by simp))
          clear HX38_ HX39_ HX40_ HX43_ KK41_ EE42_
          have HX53_ := Lib.hid hX
          clear hX hKb
          obtain ⟨a54_, c54_, d54_, e54_, hc54_, hi54_, hp54_, hh54_⟩ := HX50_.out.both
          have b54_x0 := hc54_ 0
          have b54_x1 := hc54_ 1
          have b54_x2 := hc54_ 2
          have b54_x3 := hc54_ 3
          have b54_x4 := hc54_ 4
          have b54_x5 := hc54_ 5
          have In54_ := Lib.hid hi54_
          have Pp54_ := Lib.hid hp54_
          have Ph54_ := Lib.hid hh54_
          clear hc54_ hi54_ hp54_ hh54_
          go_wp2_with fail
          refine (turned_any _ _ n.params _ Pp54_.out (Nat.le_refl _) Zn.out.ps (by omega)).mono ?_
          rintro e w5 ⟨vt, rfl, hpt, hK⟩
          obtain ⟨At, Ct, rfl⟩ := hpt.form
          have HX55_ := Lib.hid (HX47_.out.kpn hK)
          have HX56_ := Lib.hid (HX48_.out.kpn hK)
          have HX57_ := Lib.hid (HX49_.out.kpn hK)
          have HX58_ := Lib.hid (HX50_.out.kpn hK)
          have HX59_ := Lib.hid (HX53_.out.kpn hK)
          have KK60_ := Lib.hid (KK51_.out.trans hK)
          have EE61_ := Lib.hid (EE52_.out.kp hK (by simp))
          clear HX47_ HX48_ HX49_ HX50_ HX53_ KK51_ EE52_
          clear hK
          clear b44_x0 b44_x1 b44_x2 b44_x3 b44_x4 b44_x5 In44_ Pp44_ Ph44_ b54_x0 b54_x1 b54_x2 b54_x3 b54_x4 b54_x5 In54_ Pp54_ Ph54_
          obtain ⟨a62_, c62_, d62_, e62_, hc62_, hi62_, hp62_, hh62_⟩ := HX59_.out.both
          have b62_x0 := hc62_ 0
          have b62_x1 := hc62_ 1
          have b62_x2 := hc62_ 2
          have b62_x3 := hc62_ 3
          have b62_x4 := hc62_ 4
          have b62_x5 := hc62_ 5
          have In62_ := Lib.hid hi62_
          have Pp62_ := Lib.hid hp62_
          have Ph62_ := Lib.hid hh62_
          clear hc62_ hi62_ hp62_ hh62_
          have fz := HX59_.out.frozen 4
          go_upto_region 10 with fail
          clear b62_x0 b62_x1 b62_x2 b62_x3 b62_x4 b62_x5 In62_ Pp62_ Ph62_
          clear fz
          have hX := HX59_.out.set4 hpt
          have hS := kp_set w5 w36_.heap.size 4 (.slice At (turnL n.params).length Ct)
          have hN := HX59_.out.noB
          obtain ⟨w63_, hw_⟩ : ∃ wz_, w5.setCell ⟨w36_.heap.size, 4, none⟩ (.slice At (turnL n.params).length Ct) = wz_ := ⟨_, rfl⟩
          rw [hw_] at hX hS ⊢
          clear hw_
          have HX64_ := Lib.hid (show UBox w63_ w36_.heap.size (tU1 n) from hX)
          have HX65_ := Lib.hid (HX55_.out.kpX hS (by simp; omega) (by intro y hy; rw [List.mem_singleton.1 hy]; exact hN))
          have HX66_ := Lib.hid (HX56_.out.kpX hS (by simp; omega) (by intro y hy; rw [List.mem_singleton.1 hy]; exact hN))
          have HX67_ := Lib.hid (HX57_.out.kpX hS (by simp; omega) (by intro y hy; rw [List.mem_singleton.1 hy]; exact hN))
          have HX68_ := Lib.hid (HX58_.out.kpX hS (by simp; omega) (by intro y hy; rw [List.mem_singleton.1 hy]; exact hN))
          have KK69_ := Lib.hid (KK60_.out.to_ hS (by intro y hy; rw [List.mem_singleton.1 hy]; right; omega))
          have EE70_ := Lib.hid (EE61_.out.kp hS (by intro y hy; rw [List.mem_singleton.1 hy]; omega))
          clear hX hS hN HX55_ HX56_ HX57_ HX58_ HX59_ KK60_ EE61_
          clear hpt
          obtain ⟨a71_, c71_, d71_, e71_, hc71_, hi71_, hp71_, hh71_⟩ := HX68_.out.both
          have b71_x0 := hc71_ 0
          have b71_x1 := hc71_ 1
          have b71_x2 := hc71_ 2
          have b71_x3 := hc71_ 3
          have b71_x4 := hc71_ 4
          have b71_x5 := hc71_ 5
          have In71_ := Lib.hid hi71_
          have Pp71_ := Lib.hid hp71_
          have Ph71_ := Lib.hid hh71_
          clear hc71_ hi71_ hp71_ hh71_
          go_wp2_with fail
          refine (turned_any _ _ n.heads _ Ph71_.out (Nat.le_refl _) Zn.out.hs (by omega)).mono ?_
          rintro e w6 ⟨vt, rfl, hpt, hK⟩
          obtain ⟨At, Ct, rfl⟩ := hpt.form
          have HX72_ := Lib.hid (HX65_.out.kpn hK)
          have HX73_ := Lib.hid (HX66_.out.kpn hK)
          have HX74_ := Lib.hid (HX67_.out.kpn hK)
          have HX75_ := Lib.hid (HX68_.out.kpn hK)
          have HX76_ := Lib.hid (HX64_.out.kpn hK)
          have KK77_ := Lib.hid (KK69_.out.trans hK)
          have EE78_ := Lib.hid (EE70_.out.kp hK (by simp))
          clear HX65_ HX66_ HX67_ HX68_ HX64_ KK69_ EE70_
          clear hK
          clear b71_x0 b71_x1 b71_x2 b71_x3 b71_x4 b71_x5 In71_ Pp71_ Ph71_
          obtain ⟨a79_, c79_, d79_, e79_, hc79_, hi79_, hp79_, hh79_⟩ := HX76_.out.both
          have b79_x0 := hc79_ 0
          have b79_x1 := hc79_ 1
          have b79_x2 := hc79_ 2
          have b79_x3 := hc79_ 3
          have b79_x4 := hc79_ 4
          have b79_x5 := hc79_ 5
          have In79_ := Lib.hid hi79_
          have Pp79_ := Lib.hid hp79_
          have Ph79_ := Lib.hid hh79_
          clear hc79_ hi79_ hp79_ hh79_
          have fz := HX76_.out.frozen 5
          go_upto_region 11 with fail
          clear b79_x0 b79_x1 b79_x2 b79_x3 b79_x4 b79_x5 In79_ Pp79_ Ph79_
          clear fz
          have hX := HX76_.out.set5 hpt
          have hS := kp_set w6 w36_.heap.size 5 (.slice At (turnL n.heads).length Ct)
          have hN := HX76_.out.noB
          obtain ⟨w80_, hw_⟩ : ∃ wz_, w6.setCell ⟨w36_.heap.size, 5, none⟩ (.slice At (turnL n.heads).length Ct) = wz_ := ⟨_, rfl⟩
          rw [hw_] at hX hS ⊢
          clear hw_
          have HX81_ := Lib.hid (show UBox w80_ w36_.heap.size (turnU n) from hX)
          have HX82_ := Lib.hid (HX72_.out.kpX hS (by simp; omega) (by intro y hy; rw [List.mem_singleton.1 hy]; exact hN))
          have HX83_ := Lib.hid (HX73_.out.kpX hS (by simp; omega) (by intro y hy; rw [List.mem_singleton.1 hy]; exact hN))
          have HX84_ := Lib.hid (HX74_.out.kpX hS (by simp; omega) (by intro y hy; rw [List.mem_singleton.1 hy]; exact hN))
          have HX85_ := Lib.hid (HX75_.out.kpX hS (by simp; omega) (by intro y hy; rw [List.mem_singleton.1 hy]; exact hN))
          have KK86_ := Lib.hid (KK77_.out.to_ hS (by intro y hy; rw [List.mem_singleton.1 hy]; right; omega))
          have EE87_ := Lib.hid (EE78_.out.kp hS (by intro y hy; rw [List.mem_singleton.1 hy]; omega))
          clear hX hS hN HX72_ HX73_ HX74_ HX75_ HX76_ KK77_ EE78_
          clear hpt
          obtain ⟨a88_, c88_, d88_, e88_, hc88_, hi88_⟩ := HX82_.out.in
          have b88_x0 := hc88_ 0
          have b88_x1 := hc88_ 1
          have b88_x2 := hc88_ 2
          have b88_x3 := hc88_ 3
          have b88_x4 := hc88_ 4
          have b88_x5 := hc88_ 5
          have In88_ := Lib.hid hi88_
          clear hc88_ hi88_
          obtain ⟨a89_, c89_, d89_, e89_, hc89_, hi89_⟩ := HX81_.out.in
          have b89_x0 := hc89_ 0
          have b89_x1 := hc89_ 1
          have b89_x2 := hc89_ 2
          have b89_x3 := hc89_ 3
          have b89_x4 := hc89_ 4
          have b89_x5 := hc89_ 5
          have In89_ := Lib.hid hi89_
          clear hc89_ hi89_
          go_wp2_with fail
          refine (equal_any _ _ _ _ u (turnU n) _ In88_.out In89_.out (Nat.le_refl _) (Nat.le_refl _) Zu.out Zt.out EE87_.out).mono ?_
          rintro e w7 ⟨rfl, hK⟩
          rw [HQt.out]
          have HX90_ := Lib.hid (HX82_.out.kpn hK)
          have HX91_ := Lib.hid (HX83_.out.kpn hK)
          have HX92_ := Lib.hid (HX84_.out.kpn hK)
          have HX93_ := Lib.hid (HX85_.out.kpn hK)
          have HX94_ := Lib.hid (HX81_.out.kpn hK)
          have KK95_ := Lib.hid (KK86_.out.trans hK)
          have EE96_ := Lib.hid (EE87_.out.kp hK (by simp))
          clear HX82_ HX83_ HX84_ HX85_ HX81_ KK86_ EE87_
          clear hK
          clear b88_x0 b88_x1 b88_x2 b88_x3 b88_x4 b88_x5 In88_ b89_x0 b89_x1 b89_x2 b89_x3 b89_x4 b89_x5 In89_
          obtain ⟨a97_, c97_, d97_, e97_, hc97_, hi97_, hp97_, hh97_⟩ := HX93_.out.both
          have b97_x0 := hc97_ 0
          have b97_x1 := hc97_ 1
          have b97_x2 := hc97_ 2
          have b97_x3 := hc97_ 3
          have b97_x4 := hc97_ 4
          have b97_x5 := hc97_ 5
          have In97_ := Lib.hid hi97_
          have Pp97_ := Lib.hid hp97_
          have Ph97_ := Lib.hid hh97_
          clear hc97_ hi97_ hp97_ hh97_
          obtain ⟨a98_, c98_, d98_, e98_, hc98_, hi98_, hp98_, hh98_⟩ := HX94_.out.both
          have b98_x0 := hc98_ 0
          have b98_x1 := hc98_ 1
          have b98_x2 := hc98_ 2
          have b98_x3 := hc98_ 3
          have b98_x4 := hc98_ 4
          have b98_x5 := hc98_ 5
          have In98_ := Lib.hid hi98_
          have Pp98_ := Lib.hid hp98_
          have Ph98_ := Lib.hid hh98_
          clear hc98_ hi98_ hp98_ hh98_
          have fz := HX94_.out.frozen 1
          go_upto_region 14 with fail
          rw [show Txt n.user ++ (⟨#[49]⟩ : ByteArray) = Txt (n.user ++ [49]) from cat_txt _ _]
          clear b97_x0 b97_x1 b97_x2 b97_x3 b97_x4 b97_x5 In97_ Pp97_ Ph97_ b98_x0 b98_x1 b98_x2 b98_x3 b98_x4 b98_x5 In98_ Pp98_ Ph98_
          clear fz
          have hX := HX94_.out.set1 (n.user ++ [49])
          have hS := kp_set w7 w36_.heap.size 1 (.string (Txt (n.user ++ [49])))
          have hN := HX94_.out.noB
          obtain ⟨w99_, hw_⟩ : ∃ wz_, w7.setCell ⟨w36_.heap.size, 1, none⟩ (.string (Txt (n.user ++ [49]))) = wz_ := ⟨_, rfl⟩
          rw [hw_] at hX hS ⊢
          clear hw_
          have HX100_ := Lib.hid (show UBox w99_ w36_.heap.size (tU2 n) from hX)
          have HX101_ := Lib.hid (HX90_.out.kpX hS (by simp; omega) (by intro y hy; rw [List.mem_singleton.1 hy]; exact hN))
          have HX102_ := Lib.hid (HX91_.out.kpX hS (by simp; omega) (by intro y hy; rw [List.mem_singleton.1 hy]; exact hN))
          have HX103_ := Lib.hid (HX92_.out.kpX hS (by simp; omega) (by intro y hy; rw [List.mem_singleton.1 hy]; exact hN))
          have HX104_ := Lib.hid (HX93_.out.kpX hS (by simp; omega) (by intro y hy; rw [List.mem_singleton.1 hy]; exact hN))
          have KK105_ := Lib.hid (KK95_.out.to_ hS (by intro y hy; rw [List.mem_singleton.1 hy]; right; omega))
          have EE106_ := Lib.hid (EE96_.out.kp hS (by intro y hy; rw [List.mem_singleton.1 hy]; omega))
          clear hX hS hN HX90_ HX91_ HX92_ HX93_ HX94_ KK95_ EE96_
          obtain ⟨a107_, c107_, d107_, e107_, hc107_, hi107_, hp107_, hh107_⟩ := HX104_.out.both
          have b107_x0 := hc107_ 0
          have b107_x1 := hc107_ 1
          have b107_x2 := hc107_ 2
          have b107_x3 := hc107_ 3
          have b107_x4 := hc107_ 4
          have b107_x5 := hc107_ 5
          have In107_ := Lib.hid hi107_
          have Pp107_ := Lib.hid hp107_
          have Ph107_ := Lib.hid hh107_
          clear hc107_ hi107_ hp107_ hh107_
          have ltou := HX101_.out.lt
          have ltov := HX102_.out.lt
          have ltox := HX103_.out.lt
          have lton := HX104_.out.lt
          have ltot := HX100_.out.lt
          have ltow := KK105_.out.size
          obtain ⟨w108_, hw109_⟩ : ∃ wz_, w99_.alloc (.cells #[.string (Txt n.scheme), .string (Txt n.user), .string (Txt n.host), .int .i64 n.port, .slice a107_ n.params.length c107_, .slice d107_ n.heads.length e107_] 42) = wz_ := ⟨_, rfl⟩
          have hX := UBox.new In107_.out
          rw [hw109_] at hX
          have hKb : Kp [] w99_ w108_ := by rw [← hw109_]; exact (Kp.refl [] w99_).alloc _
          have HX110_ := Lib.hid (HX101_.out.kpn hKb)
          have HX111_ := Lib.hid (HX102_.out.kpn hKb)
          have HX112_ := Lib.hid (HX103_.out.kpn hKb)
          have HX113_ := Lib.hid (HX104_.out.kpn hKb)
          have HX114_ := Lib.hid (HX100_.out.kpn hKb)
          have KK115_ := Lib.hid (KK105_.out.trans hKb)
          have EE116_ := Lib.hid (EE106_.out.kp hKb (by simp))
          clear HX101_ HX102_ HX103_ HX104_ HX100_ KK105_ EE106_
          have HX117_ := Lib.hid hX
          clear hX hKb
          obtain ⟨a118_, c118_, d118_, e118_, hc118_, hi118_, hp118_, hh118_⟩ := HX113_.out.both
          have b118_x0 := hc118_ 0
          have b118_x1 := hc118_ 1
          have b118_x2 := hc118_ 2
          have b118_x3 := hc118_ 3
          have b118_x4 := hc118_ 4
          have b118_x5 := hc118_ 5
          have In118_ := Lib.hid hi118_
          have Pp118_ := Lib.hid hp118_
          have Ph118_ := Lib.hid hh118_
          clear hc118_ hi118_ hp118_ hh118_
          have ltn := HX113_.out.lt
          have hKE := (Kp.refl [] w108_).alloc (.cells #[] 32)
          have hOE := World.ownsRow_lit (base := w108_.heap.size) (e := 32) (size := 3) w108_ #[] 0 (Nat.le_refl _) (by unfold maxLen; omega) (by rfl)
          obtain ⟨wE, hwE⟩ : ∃ wz_, w108_.alloc (.cells #[] 32) = wz_ := ⟨_, rfl⟩
          rw [hwE] at hKE hOE
          have e4 : wE.cell? ⟨w4.heap.size, 4, none⟩ = some (.slice a118_ n.params.length c118_) := (hKE.cell (p := ⟨w4.heap.size, 4, none⟩) ltn (by simp)).trans b118_x4
          have PE := Lib.hid (Pp118_.out.kp hKE (Nat.le_refl _) (by simp))
          have OE := Lib.hid (show wE.ownsRow w108_.heap.size 32 3 (.slice (some ⟨w108_.heap.size, 0, none⟩) 0 0) ([] : List Prm).length (pcl []) from hOE)
          have KE := Lib.hid hKE
          have hszE := hKE.size
          clear hKE hOE
          go_wp2_with (at_builtin; refine wpList_append_pm rfl _ _ rfl w108_.heap.size [] n.params _ _ rfl OE.out _ rfl PE.out ?c1 hszE ?_)
          case c1 => simp; omega
          intro v1 wF hown1 hgrow1
          have OF := Lib.hid (show wF.ownsRow w108_.heap.size 32 3 v1 n.params.length (pcl n.params) from hown1)
          have hKF := KE.out.grown hgrow1 (fun g hg => .inr (by cases hg; exact Nat.le_refl _))
          obtain ⟨pF, cF, rfl⟩ := own_form OF.out
          have hszF := hKF.size
          clear b107_x0 b107_x1 b107_x2 b107_x3 b107_x4 b107_x5 In107_ Pp107_ Ph107_ b118_x0 b118_x1 b118_x2 b118_x3 b118_x4 b118_x5 In118_ Pp118_ Ph118_
          clear e4 ltn PE OE KE hown1 hgrow1 hwE
          obtain ⟨i0, hi, hz0, hz1, hz2⟩ := info_parts infoPrm3
          go_wp2_with (at_builtin; refine wpList_append_own _ rfl _ _ 30 rfl w108_.heap.size 32 i0 (.agg #[.string .empty, .string .empty, .bool false]) 3 40 Tryz.underlying30 hi hz0 hz1 hz2 rfl (by decide) _ _ _ rfl (OF.out.alloc _) ⟨wF.heap.size, 0, none⟩ 1 1 [.string ⟨#[122, 122, 122, 32, 122, 122, 122]⟩, .string ⟨#[]⟩, .bool false] rfl rfl (cell_three_new _ _ _ _ _) (by simp [Value.oneCell']) ?c3 ?c4 ?c5 ?_)
          case c3 => unfold maxLen; omega
          case c4 => omega
          case c5 => simp; omega
          intro v2 wG hown2 hgrow2 _
          have hKG := (hKF.alloc (.cells #[.string ⟨#[122, 122, 122, 32, 122, 122, 122]⟩, .string ⟨#[]⟩, .bool false] 32)).grown hgrow2 (fun g hg => .inr (OF.out.lt g hg).1)
          have hOG := (by simpa [pcl, pc1, Txt, zzz] using hown2 : wG.ownsRow w108_.heap.size 32 3 v2 (n.params ++ [(zzz, [], false)]).length (pcl (n.params ++ [(zzz, [], false)])))
          obtain ⟨pG, cG, rfl⟩ := own_form hOG
          have hpt := own_pm hOG
          clear hown2 hgrow2 hOG hKF hszF
          have HX119_ := Lib.hid (HX110_.out.kpn hKG)
          have HX120_ := Lib.hid (HX111_.out.kpn hKG)
          have HX121_ := Lib.hid (HX112_.out.kpn hKG)
          have HX122_ := Lib.hid (HX113_.out.kpn hKG)
          have HX123_ := Lib.hid (HX114_.out.kpn hKG)
          have HX124_ := Lib.hid (HX117_.out.kpn hKG)
          have KK125_ := Lib.hid (KK115_.out.trans hKG)
          have EE126_ := Lib.hid (EE116_.out.kp hKG (by simp))
          clear HX110_ HX111_ HX112_ HX113_ HX114_ HX117_ KK115_ EE116_
          clear hKG OF
          obtain ⟨a127_, c127_, d127_, e127_, hc127_, hi127_, hp127_, hh127_⟩ := HX124_.out.both
          have b127_x0 := hc127_ 0
          have b127_x1 := hc127_ 1
          have b127_x2 := hc127_ 2
          have b127_x3 := hc127_ 3
          have b127_x4 := hc127_ 4
          have b127_x5 := hc127_ 5
          have In127_ := Lib.hid hi127_
          have Pp127_ := Lib.hid hp127_
          have Ph127_ := Lib.hid hh127_
          clear hc127_ hi127_ hp127_ hh127_
          have fz := HX124_.out.frozen 4
          go_upto_region 16 with fail
          clear b127_x0 b127_x1 b127_x2 b127_x3 b127_x4 b127_x5 In127_ Pp127_ Ph127_
          clear fz
          have hLN : (n.params ++ [(zzz, [], false)]).length = n.params.length + 1 := by simp
          rw [← hLN]
          clear hLN
          have hX := HX124_.out.set4 hpt
          have hS := kp_set wG w99_.heap.size 4 (.slice pG (n.params ++ [(zzz, [], false)]).length cG)
          have hN := HX124_.out.noB
          obtain ⟨w128_, hw_⟩ : ∃ wz_, wG.setCell ⟨w99_.heap.size, 4, none⟩ (.slice pG (n.params ++ [(zzz, [], false)]).length cG) = wz_ := ⟨_, rfl⟩
          rw [hw_] at hX hS ⊢
          clear hw_
          have HX129_ := Lib.hid (show UBox w128_ w99_.heap.size (tU3 n) from hX)
          have HX130_ := Lib.hid (HX119_.out.kpX hS (by simp; omega) (by intro y hy; rw [List.mem_singleton.1 hy]; exact hN))
          have HX131_ := Lib.hid (HX120_.out.kpX hS (by simp; omega) (by intro y hy; rw [List.mem_singleton.1 hy]; exact hN))
          have HX132_ := Lib.hid (HX121_.out.kpX hS (by simp; omega) (by intro y hy; rw [List.mem_singleton.1 hy]; exact hN))
          have HX133_ := Lib.hid (HX122_.out.kpX hS (by simp; omega) (by intro y hy; rw [List.mem_singleton.1 hy]; exact hN))
          have HX134_ := Lib.hid (HX123_.out.kpX hS (by simp; omega) (by intro y hy; rw [List.mem_singleton.1 hy]; exact hN))
          have KK135_ := Lib.hid (KK125_.out.to_ hS (by intro y hy; rw [List.mem_singleton.1 hy]; right; omega))
          have EE136_ := Lib.hid (EE126_.out.kp hS (by intro y hy; rw [List.mem_singleton.1 hy]; omega))
          clear hX hS hN HX119_ HX120_ HX121_ HX122_ HX123_ HX124_ KK125_ EE126_
          clear hpt
          have Zt2 := Lib.hid (show SzU (tU2 n) from ⟨Zn.out.scheme, (by have := su; rw [txt_size] at this; unfold tU2; simp only [List.length_append, List.length_cons, List.length_nil]; omega), Zn.out.host, by unfold tU2; dsimp only; rw [turnL_len]; exact Zn.out.params, by unfold tU2; dsimp only; rw [turnL_len]; exact Zn.out.heads, turnL_sz _ Zn.out.ps, turnL_sz _ Zn.out.hs⟩)
          have Zo := Lib.hid (show SzU (tU3 n) from ⟨Zn.out.scheme, Zn.out.user, Zn.out.host, by unfold tU3; simp only [List.length_append, List.length_cons, List.length_nil]; omega, Zn.out.heads, (fun p hp => by
            rcases List.mem_append.1 hp with h | h
            · exact Zn.out.ps p h
            · rw [List.mem_singleton.1 h]; exact ⟨by decide, by decide⟩), Zn.out.hs⟩)
          obtain ⟨a137_, c137_, d137_, e137_, hc137_, hi137_⟩ := HX130_.out.in
          have b137_x0 := hc137_ 0
          have b137_x1 := hc137_ 1
          have b137_x2 := hc137_ 2
          have b137_x3 := hc137_ 3
          have b137_x4 := hc137_ 4
          have b137_x5 := hc137_ 5
          have In137_ := Lib.hid hi137_
          clear hc137_ hi137_
          obtain ⟨a138_, c138_, d138_, e138_, hc138_, hi138_⟩ := HX134_.out.in
          have b138_x0 := hc138_ 0
          have b138_x1 := hc138_ 1
          have b138_x2 := hc138_ 2
          have b138_x3 := hc138_ 3
          have b138_x4 := hc138_ 4
          have b138_x5 := hc138_ 5
          have In138_ := Lib.hid hi138_
          clear hc138_ hi138_
          go_wp2_with fail
          refine (equal_any _ _ _ _ u (tU2 n) _ In137_.out In138_.out (Nat.le_refl _) (Nat.le_refl _) Zu.out Zt2.out EE136_.out).mono ?_
          rintro e w8 ⟨rfl, hK⟩
          rw [HQu.out]
          have HX139_ := Lib.hid (HX130_.out.kpn hK)
          have HX140_ := Lib.hid (HX131_.out.kpn hK)
          have HX141_ := Lib.hid (HX132_.out.kpn hK)
          have HX142_ := Lib.hid (HX133_.out.kpn hK)
          have HX143_ := Lib.hid (HX134_.out.kpn hK)
          have HX144_ := Lib.hid (HX129_.out.kpn hK)
          have KK145_ := Lib.hid (KK135_.out.trans hK)
          have EE146_ := Lib.hid (EE136_.out.kp hK (by simp))
          clear HX130_ HX131_ HX132_ HX133_ HX134_ HX129_ KK135_ EE136_
          clear hK
          clear b137_x0 b137_x1 b137_x2 b137_x3 b137_x4 b137_x5 In137_ b138_x0 b138_x1 b138_x2 b138_x3 b138_x4 b138_x5 In138_
          obtain ⟨a147_, c147_, d147_, e147_, hc147_, hi147_⟩ := HX139_.out.in
          have b147_x0 := hc147_ 0
          have b147_x1 := hc147_ 1
          have b147_x2 := hc147_ 2
          have b147_x3 := hc147_ 3
          have b147_x4 := hc147_ 4
          have b147_x5 := hc147_ 5
          have In147_ := Lib.hid hi147_
          clear hc147_ hi147_
          obtain ⟨a148_, c148_, d148_, e148_, hc148_, hi148_⟩ := HX144_.out.in
          have b148_x0 := hc148_ 0
          have b148_x1 := hc148_ 1
          have b148_x2 := hc148_ 2
          have b148_x3 := hc148_ 3
          have b148_x4 := hc148_ 4
          have b148_x5 := hc148_ 5
          have In148_ := Lib.hid hi148_
          clear hc148_ hi148_
          go_wp2_with fail
          refine (equal_any _ _ _ _ u (tU3 n) _ In147_.out In148_.out (Nat.le_refl _) (Nat.le_refl _) Zu.out Zo.out EE146_.out).mono ?_
          rintro e w9 ⟨rfl, hK⟩
          rw [HQo.out]
          have HX149_ := Lib.hid (HX139_.out.kpn hK)
          have HX150_ := Lib.hid (HX140_.out.kpn hK)
          have HX151_ := Lib.hid (HX141_.out.kpn hK)
          have HX152_ := Lib.hid (HX142_.out.kpn hK)
          have HX153_ := Lib.hid (HX143_.out.kpn hK)
          have HX154_ := Lib.hid (HX144_.out.kpn hK)
          have KK155_ := Lib.hid (KK145_.out.trans hK)
          have EE156_ := Lib.hid (EE146_.out.kp hK (by simp))
          clear HX139_ HX140_ HX141_ HX142_ HX143_ HX144_ KK145_ EE146_
          clear hK
          clear b147_x0 b147_x1 b147_x2 b147_x3 b147_x4 b147_x5 In147_ b148_x0 b148_x1 b148_x2 b148_x3 b148_x4 b148_x5 In148_
          go_wp2_with fail
          refine (awake_any _ EE156_.out).mono ?_
          rintro e w10 ⟨rfl, hK⟩
          have HX157_ := Lib.hid (HX149_.out.kpn hK)
          have HX158_ := Lib.hid (HX150_.out.kpn hK)
          have HX159_ := Lib.hid (HX151_.out.kpn hK)
          have HX160_ := Lib.hid (HX152_.out.kpn hK)
          have HX161_ := Lib.hid (HX153_.out.kpn hK)
          have HX162_ := Lib.hid (HX154_.out.kpn hK)
          have KK163_ := Lib.hid (KK155_.out.trans hK)
          have EE164_ := Lib.hid (EE156_.out.kp hK (by simp))
          clear HX149_ HX150_ HX151_ HX152_ HX153_ HX154_ KK155_ EE156_
          clear hK
          go_wp2_with fail
          go_ret
          exact ⟨rfl, KK163_.out⟩
end Ad
end Go.Proofs.YtjkkcoiebnmkcaaGreatDoor
