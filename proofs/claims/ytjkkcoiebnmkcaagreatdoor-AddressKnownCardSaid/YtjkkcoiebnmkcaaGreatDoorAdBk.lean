/- AddressBack of package dialtonelaw02 returns true for every address of moderate size, and nothing that was there is changed. -/
import Derived.Test.YtjkkcoiebnmkcaaGreatDoorAdPx
import Derived.Test.YtjkkcoiebnmkcaaGreatDoorM1
namespace Go.Proofs.YtjkkcoiebnmkcaaGreatDoor
namespace Ad
open Go.RowKit Lx

theorem same_selfU (B1 B2 : Nat) (va vb : Value) (u : Uri) (w : World) (hA : UriIn B1 w va u) (hB : UriIn B2 w vb u) (h1 : B1 ≤ w.heap.size) (h2 : B2 ≤ w.heap.size) (hp : u.params.length ≤ 4294967296) (hh : u.heads.length ≤ 4294967296) : Calls Tryz.prog 34 #[va, vb] w (BoK true w) := by
  have := same_u B1 B2 va vb u u w hA hB h1 h2 hp hh hp hh
  rwa [show sameU u u = true from (sameU_iff u u).2 rfl] at this
theorem same_selfP (B1 B2 : Nat) (va vb : Value) (l : List Prm) (w : World) (hA : PmIn B1 w va l) (hB : PmIn B2 w vb l) (h1 : B1 ≤ w.heap.size) (h2 : B2 ≤ w.heap.size) (hll : l.length ≤ 4294967296) : Calls Tryz.prog 29 #[va, vb] w (BoK true w) := by
  have := sameP_any B1 B2 va vb l l w hA hB h1 h2 hll hll
  rwa [beq_self_eq_true] at this
set_option maxRecDepth 100000 in
set_option maxHeartbeats 16000000 in
theorem back_law (B : Nat) (v : Value) (a : Adr) (w : World) (hA : AdIn B w v a) (hB : B ≤ w.heap.size) (hz : SzA a) (hps : ∀ s, ppO a.params = some s → s.length ≤ 2097152) (E : Env w) :
    Calls Tryz.prog 13 #[v] w (BoK true w) := by
  obtain ⟨vp, vh, vq, rfl, hp, hh, hq⟩ := hA
  obtain ⟨A1, C1, rfl⟩ := hp.form
  obtain ⟨A2, C2, rfl⟩ := hh.form
  obtain ⟨A3, C3, rfl⟩ := hq.form
  have HZ := Lib.hid hz
  have HPs := Lib.hid hps
  have k1 := hz.params
  have k2 := hz.uri.params
  have k3 := hz.uri.heads
  obtain ⟨wA, hwA⟩ : ∃ wz_, w.alloc (.cells #[.string (Txt a.display), .string (Txt a.uri.scheme), .string (Txt a.uri.user), .string (Txt a.uri.host), .int .i64 a.uri.port, .slice A1 a.uri.params.length C1, .slice A2 a.uri.heads.length C2, .slice A3 a.params.length C3] 51) = wz_ := ⟨_, rfl⟩
  have hK : Kp [] w wA := by rw [← hwA]; exact (Kp.refl [] w).alloc _
  have BA := Lib.hid (show Blk wA w.heap.size 51 #[.string (Txt a.display), .string (Txt a.uri.scheme), .string (Txt a.uri.user), .string (Txt a.uri.host), .int .i64 a.uri.port, .slice A1 a.uri.params.length C1, .slice A2 a.uri.heads.length C2, .slice A3 a.params.length C3] from by rw [← hwA]; exact Blk.new w _ _)
  have P1 := Lib.hid ((hp.more hB).grow hK (by intro y hy; cases hy))
  have P2 := Lib.hid ((hh.more hB).grow hK (by intro y hy; cases hy))
  have P3 := Lib.hid ((hq.more hB).grow hK (by intro y hy; cases hy))
  have KK := Lib.hid hK
  have EE := Lib.hid (E.kp hK (by simp))
  clear hK hp hh hq hz hps E
  by_cases h40 : 40 < a.uri.params.length + a.uri.heads.length + a.params.length
  · have b0 := BA.out.cell 0
    have b1 := BA.out.cell 1
    have b2 := BA.out.cell 2
    have b3 := BA.out.cell 3
    have b4 := BA.out.cell 4
    have b5 := BA.out.cell 5
    have b6 := BA.out.cell 6
    have b7 := BA.out.cell 7
    go_enter Tryz.func13, Tryz.ntmps13
    go_wp2_with fail
    refine (awake_any _ EE.out).mono ?_
    rintro e w1 ⟨rfl, hK⟩
    have KK := Lib.hid (KK.out.trans hK)
    clear hK
    go_wp2_with fail
    go_ret
    exact ⟨rfl, KK.out⟩
  · obtain ⟨po, hpo⟩ : ∃ o, ppO a.params = o := ⟨_, rfl⟩
    have HPo := Lib.hid hpo
    obtain ⟨R, hR⟩ : ∃ r, adrO a = r := ⟨_, rfl⟩
    have HR := Lib.hid hR
    clear hpo hR
    cases po with
    | none =>
      clear HPs
      go_enter Tryz.func13, Tryz.ntmps13
      have b0 := BA.out.cell 0
      have b1 := BA.out.cell 1
      have b2 := BA.out.cell 2
      have b3 := BA.out.cell 3
      have b4 := BA.out.cell 4
      have b5 := BA.out.cell 5
      have b6 := BA.out.cell 6
      have b7 := BA.out.cell 7
      go_wp2_with fail
      refine (printParams_any _ _ a.params _ P3.out (Nat.le_refl _) HZ.out.ps k1 EE.out).mono ?_
      rintro e w1 ⟨rfl, hB1⟩
      rw [HPo.out]
      simp only [Option.getD_none, Option.isSome_none, Bool.false_eq_true, if_false]
      have hK := (Kp.refl [] wA).below hB1
      have BA := Lib.hid (BA.out.kp hK (by simp))
      have P1 := Lib.hid (P1.out.grow hK (by intro y hy; cases hy))
      have P2 := Lib.hid (P2.out.grow hK (by intro y hy; cases hy))
      have P3 := Lib.hid (P3.out.grow hK (by intro y hy; cases hy))
      have KK := Lib.hid (KK.out.trans hK)
      have EE := Lib.hid (EE.out.kp hK (by simp))
      clear hK hB1 b0 b1 b2 b3 b4 b5 b6 b7
      have b0 := BA.out.cell 0
      have b1 := BA.out.cell 1
      have b2 := BA.out.cell 2
      have b3 := BA.out.cell 3
      have b4 := BA.out.cell 4
      have b5 := BA.out.cell 5
      have b6 := BA.out.cell 6
      have b7 := BA.out.cell 7
      go_wp2_with fail
      refine (printAddress_any _ _ a _ ⟨_, _, _, rfl, P1.out, P2.out, P3.out⟩ (Nat.le_refl _) HZ.out EE.out).mono ?_
      rintro e w4 ⟨rfl, hK⟩
      rw [HR.out]
      have BA := Lib.hid (BA.out.kp hK (by simp))
      have P1 := Lib.hid (P1.out.grow hK (by intro y hy; cases hy))
      have P2 := Lib.hid (P2.out.grow hK (by intro y hy; cases hy))
      have P3 := Lib.hid (P3.out.grow hK (by intro y hy; cases hy))
      have KK := Lib.hid (KK.out.trans hK)
      have EE := Lib.hid (EE.out.kp hK (by simp))
      clear hK b0 b1 b2 b3 b4 b5 b6 b7
      cases R with
      | none =>
        simp only [Option.getD_none, Option.isSome_none, Bool.false_eq_true, if_false]
        have bt : ((Txt []).toList == []) = true := by decide +kernel
        go_wp2_with fail
        refine (awake_any _ EE.out).mono ?_
        rintro e w5 ⟨rfl, hK⟩
        have KK := Lib.hid (KK.out.trans hK)
        clear hK
        go_wp2_with fail
        go_ret
        exact ⟨rfl, KK.out⟩
      | some t =>
        simp only [Option.getD_some, Option.isSome_some, if_true]
        by_cases hl : 1024 < (Txt t).size
        · go_wp2_with fail
          refine (awake_any _ EE.out).mono ?_
          rintro e w5 ⟨rfl, hK⟩
          have KK := Lib.hid (KK.out.trans hK)
          clear hK
          go_wp2_with fail
          go_ret
          exact ⟨rfl, KK.out⟩
        · obtain ⟨n, hn, hr⟩ := adr_print a t HR.out (by rw [txt_size] at hl; omega)
          have hnp : n.params.length ≤ 16 := (normal_NF _ _ hn).params.len
          have hnh : n.heads.length ≤ 16 := (normal_NF _ _ hn).heads.len
          have hsl : (srt a.params).length ≤ 2097152 := by rw [(srt_perm _).length_eq]; exact k1
          have HN := Lib.hid hn
          have HPa := fun wz (E : Env wz) => ParseAddress_any (Txt t) wz (by omega) E
          rw [txt_list, hr] at HPa
          have HPa := Lib.hid HPa
          have bd : ((Txt a.display).toList == (Txt a.display).toList) = true := beq_self_eq_true _
          obtain ⟨sp, hsp⟩ : ∃ l, srt a.params = l := ⟨_, rfl⟩
          rw [hsp] at HPa hsl
          have HSp := Lib.hid hsp
          clear hn hr hsp
          go_wp2_with fail
          refine (HPa.out _ EE.out).mono ?_
          rintro e w5 ⟨vb, rfl, hb, hB5⟩
          have hK := (Kp.refl [] w4).below hB5
          obtain ⟨vp, vh, vq, rfl, hp, hh, hq⟩ := hb
          dsimp only at hp hh hq ⊢
          obtain ⟨X1, Y1, rfl⟩ := hp.form
          obtain ⟨X2, Y2, rfl⟩ := hh.form
          obtain ⟨X3, Y3, rfl⟩ := hq.form
          have BA := Lib.hid (BA.out.kp hK (by simp))
          have P1 := Lib.hid (P1.out.grow hK (by intro y hy; cases hy))
          have P2 := Lib.hid (P2.out.grow hK (by intro y hy; cases hy))
          have P3 := Lib.hid (P3.out.grow hK (by intro y hy; cases hy))
          have KK := Lib.hid (KK.out.trans hK)
          have EE := Lib.hid (EE.out.kp hK (by simp))
          clear hK hB5
          have hK := (Kp.refl [] w5).alloc (.cells #[.string (Txt a.display), .string (Txt n.scheme), .string (Txt n.user), .string (Txt n.host), .int .i64 n.port, .slice X1 n.params.length Y1, .slice X2 n.heads.length Y2, .slice X3 sp.length Y3] 51)
          obtain ⟨w6, hw6⟩ : ∃ wz_, w5.alloc (.cells #[.string (Txt a.display), .string (Txt n.scheme), .string (Txt n.user), .string (Txt n.host), .int .i64 n.port, .slice X1 n.params.length Y1, .slice X2 n.heads.length Y2, .slice X3 sp.length Y3] 51) = wz_ := ⟨_, rfl⟩
          rw [hw6] at hK
          have BB := Lib.hid (show Blk w6 w5.heap.size 51 #[.string (Txt a.display), .string (Txt n.scheme), .string (Txt n.user), .string (Txt n.host), .int .i64 n.port, .slice X1 n.params.length Y1, .slice X2 n.heads.length Y2, .slice X3 sp.length Y3] from by rw [← hw6]; exact Blk.new w5 _ _)
          have R1 := Lib.hid (hp.grow hK (by intro y hy; cases hy))
          have R2 := Lib.hid (hh.grow hK (by intro y hy; cases hy))
          have R3 := Lib.hid (hq.grow hK (by intro y hy; cases hy))
          have BA := Lib.hid (BA.out.kp hK (by simp))
          have P1 := Lib.hid (P1.out.grow hK (by intro y hy; cases hy))
          have P2 := Lib.hid (P2.out.grow hK (by intro y hy; cases hy))
          have P3 := Lib.hid (P3.out.grow hK (by intro y hy; cases hy))
          have KK := Lib.hid (KK.out.trans hK)
          have EE := Lib.hid (EE.out.kp hK (by simp))
          clear hK hp hh hq
          have b1 := BA.out.cell 1
          have b2 := BA.out.cell 2
          have b3 := BA.out.cell 3
          have b4 := BA.out.cell 4
          have b5 := BA.out.cell 5
          have b6 := BA.out.cell 6
          go_wp2_with fail
          refine (Normal_any _ _ a.uri _ ⟨_, _, rfl, P1.out, P2.out⟩ (Nat.le_refl _) HZ.out.uri EE.out).mono ?_
          rw [HN.out]
          rintro e w7 ⟨vn, rfl, hu, hB7⟩
          simp only [Option.getD_some, Option.isSome_some, if_true] at hu ⊢
          have hK := (Kp.refl [] w6).below hB7
          obtain ⟨vp, vh, rfl, hp, hh⟩ := hu
          obtain ⟨Z1, V1, rfl⟩ := hp.form
          obtain ⟨Z2, V2, rfl⟩ := hh.form
          have BA := Lib.hid (BA.out.kp hK (by simp))
          have BB := Lib.hid (BB.out.kp hK (by simp))
          have P1 := Lib.hid (P1.out.grow hK (by intro y hy; cases hy))
          have P2 := Lib.hid (P2.out.grow hK (by intro y hy; cases hy))
          have P3 := Lib.hid (P3.out.grow hK (by intro y hy; cases hy))
          have R1 := Lib.hid (R1.out.grow hK (by intro y hy; cases hy))
          have R2 := Lib.hid (R2.out.grow hK (by intro y hy; cases hy))
          have R3 := Lib.hid (R3.out.grow hK (by intro y hy; cases hy))
          have KK := Lib.hid (KK.out.trans hK)
          have EE := Lib.hid (EE.out.kp hK (by simp))
          clear hK hB7 b1 b2 b3 b4 b5 b6
          have hK := (Kp.refl [] w7).alloc (.cells #[.string (Txt n.scheme), .string (Txt n.user), .string (Txt n.host), .int .i64 n.port, .slice Z1 n.params.length V1, .slice Z2 n.heads.length V2] 42)
          obtain ⟨w8, hw8⟩ : ∃ wz_, w7.alloc (.cells #[.string (Txt n.scheme), .string (Txt n.user), .string (Txt n.host), .int .i64 n.port, .slice Z1 n.params.length V1, .slice Z2 n.heads.length V2] 42) = wz_ := ⟨_, rfl⟩
          rw [hw8] at hK
          have BN := Lib.hid (show Blk w8 w7.heap.size 42 #[.string (Txt n.scheme), .string (Txt n.user), .string (Txt n.host), .int .i64 n.port, .slice Z1 n.params.length V1, .slice Z2 n.heads.length V2] from by rw [← hw8]; exact Blk.new w7 _ _)
          have N1 := Lib.hid (hp.grow hK (by intro y hy; cases hy))
          have N2 := Lib.hid (hh.grow hK (by intro y hy; cases hy))
          have BA := Lib.hid (BA.out.kp hK (by simp))
          have BB := Lib.hid (BB.out.kp hK (by simp))
          have P1 := Lib.hid (P1.out.grow hK (by intro y hy; cases hy))
          have P2 := Lib.hid (P2.out.grow hK (by intro y hy; cases hy))
          have P3 := Lib.hid (P3.out.grow hK (by intro y hy; cases hy))
          have R1 := Lib.hid (R1.out.grow hK (by intro y hy; cases hy))
          have R2 := Lib.hid (R2.out.grow hK (by intro y hy; cases hy))
          have R3 := Lib.hid (R3.out.grow hK (by intro y hy; cases hy))
          have KK := Lib.hid (KK.out.trans hK)
          have EE := Lib.hid (EE.out.kp hK (by simp))
          clear hK hp hh
          have b0 := BA.out.cell 0
          have b7 := BA.out.cell 7
          have c0 := BB.out.cell 0
          have c1 := BB.out.cell 1
          have c2 := BB.out.cell 2
          have c3 := BB.out.cell 3
          have c4 := BB.out.cell 4
          have c5 := BB.out.cell 5
          have c6 := BB.out.cell 6
          have c7 := BB.out.cell 7
          have d0 := BN.out.cell 0
          have d1 := BN.out.cell 1
          have d2 := BN.out.cell 2
          have d3 := BN.out.cell 3
          have d4 := BN.out.cell 4
          have d5 := BN.out.cell 5
          go_wp2_with fail
          go_region_held3 (fun w' => w'.cell? ⟨w.heap.size, 0, none⟩ = some (.string (Txt a.display)) ∧ w'.cell? ⟨w.heap.size, 7, none⟩ = some (.slice A3 a.params.length C3) ∧ w'.cell? ⟨w5.heap.size, 0, none⟩ = some (.string (Txt a.display)) ∧ w'.cell? ⟨w5.heap.size, 1, none⟩ = some (.string (Txt n.scheme)) ∧ w'.cell? ⟨w5.heap.size, 2, none⟩ = some (.string (Txt n.user)) ∧ w'.cell? ⟨w5.heap.size, 3, none⟩ = some (.string (Txt n.host)) ∧ w'.cell? ⟨w5.heap.size, 4, none⟩ = some (.int .i64 n.port) ∧ w'.cell? ⟨w5.heap.size, 5, none⟩ = some (.slice X1 n.params.length Y1) ∧ w'.cell? ⟨w5.heap.size, 6, none⟩ = some (.slice X2 n.heads.length Y2) ∧ w'.cell? ⟨w5.heap.size, 7, none⟩ = some (.slice X3 sp.length Y3) ∧ w'.cell? ⟨w7.heap.size, 0, none⟩ = some (.string (Txt n.scheme)) ∧ w'.cell? ⟨w7.heap.size, 1, none⟩ = some (.string (Txt n.user)) ∧ w'.cell? ⟨w7.heap.size, 2, none⟩ = some (.string (Txt n.host)) ∧ w'.cell? ⟨w7.heap.size, 3, none⟩ = some (.int .i64 n.port) ∧ w'.cell? ⟨w7.heap.size, 4, none⟩ = some (.slice Z1 n.params.length V1) ∧ w'.cell? ⟨w7.heap.size, 5, none⟩ = some (.slice Z2 n.heads.length V2)) (go_keep)
            ((first
              | (go_at_call 34; refine (same_selfU _ _ _ _ n _ (UriIn.kpn ⟨_, _, rfl, R1.out, R2.out⟩ (Kp.drewN (Kp.refl [] w8) _)) (UriIn.kpn ⟨_, _, rfl, N1.out, N2.out⟩ (Kp.drewN (Kp.refl [] w8) _)) (Nat.le_refl _) (Nat.le_refl _) (by omega) (by omega)).mono ?_; rintro e w9 ⟨rfl, hk9⟩; have hK9 := Kp.trans (Kp.drewN (Kp.refl [] w8) _) hk9; clear hk9; have BA := Lib.hid (BA.out.kp hK9 (by simp)); have BB := Lib.hid (BB.out.kp hK9 (by simp)); have BN := Lib.hid (BN.out.kp hK9 (by simp)); have P1 := Lib.hid (P1.out.grow hK9 (by intro y hy; cases hy)); have P2 := Lib.hid (P2.out.grow hK9 (by intro y hy; cases hy)); have P3 := Lib.hid (P3.out.grow hK9 (by intro y hy; cases hy)); have R1 := Lib.hid (R1.out.grow hK9 (by intro y hy; cases hy)); have R2 := Lib.hid (R2.out.grow hK9 (by intro y hy; cases hy)); have R3 := Lib.hid (R3.out.grow hK9 (by intro y hy; cases hy)); have N1 := Lib.hid (N1.out.grow hK9 (by intro y hy; cases hy)); have N2 := Lib.hid (N2.out.grow hK9 (by intro y hy; cases hy)); have KK := Lib.hid (KK.out.trans hK9); have EE := Lib.hid (EE.out.kp hK9 (by simp)); clear hK9 b0 b7 c0 c1 c2 c3 c4 c5 c6 c7 d0 d1 d2 d3 d4 d5; have b0 := BA.out.cell 0; have b7 := BA.out.cell 7; have c0 := BB.out.cell 0; have c1 := BB.out.cell 1; have c2 := BB.out.cell 2; have c3 := BB.out.cell 3; have c4 := BB.out.cell 4; have c5 := BB.out.cell 5; have c6 := BB.out.cell 6; have c7 := BB.out.cell 7; have d0 := BN.out.cell 0; have d1 := BN.out.cell 1; have d2 := BN.out.cell 2; have d3 := BN.out.cell 3; have d4 := BN.out.cell 4; have d5 := BN.out.cell 5)
              | (go_at_call 48; refine (rSorted_any _ _ a.params _ P3.out (Nat.le_refl _) k1).mono ?_; rw [HSp.out]; rintro e w10 ⟨v10, rfl, hP10, hK10⟩; obtain ⟨A10, C10, rfl⟩ := hP10.form; have Q10 := Lib.hid hP10; clear hP10; have BA := Lib.hid (BA.out.kp hK10 (by simp)); have BB := Lib.hid (BB.out.kp hK10 (by simp)); have BN := Lib.hid (BN.out.kp hK10 (by simp)); have P1 := Lib.hid (P1.out.grow hK10 (by intro y hy; cases hy)); have P2 := Lib.hid (P2.out.grow hK10 (by intro y hy; cases hy)); have P3 := Lib.hid (P3.out.grow hK10 (by intro y hy; cases hy)); have R1 := Lib.hid (R1.out.grow hK10 (by intro y hy; cases hy)); have R2 := Lib.hid (R2.out.grow hK10 (by intro y hy; cases hy)); have R3 := Lib.hid (R3.out.grow hK10 (by intro y hy; cases hy)); have N1 := Lib.hid (N1.out.grow hK10 (by intro y hy; cases hy)); have N2 := Lib.hid (N2.out.grow hK10 (by intro y hy; cases hy)); have KK := Lib.hid (KK.out.trans hK10); have EE := Lib.hid (EE.out.kp hK10 (by simp)); clear hK10 b0 b7 c0 c1 c2 c3 c4 c5 c6 c7 d0 d1 d2 d3 d4 d5; have b0 := BA.out.cell 0; have b7 := BA.out.cell 7; have c0 := BB.out.cell 0; have c1 := BB.out.cell 1; have c2 := BB.out.cell 2; have c3 := BB.out.cell 3; have c4 := BB.out.cell 4; have c5 := BB.out.cell 5; have c6 := BB.out.cell 6; have c7 := BB.out.cell 7; have d0 := BN.out.cell 0; have d1 := BN.out.cell 1; have d2 := BN.out.cell 2; have d3 := BN.out.cell 3; have d4 := BN.out.cell 4; have d5 := BN.out.cell 5)
              | (go_at_call 29; refine (same_selfP _ _ _ _ sp _ R3.out Q10.out (Nat.le_refl _) (Nat.le_refl _) (by omega)).mono ?_; rintro e w11 ⟨rfl, hK11⟩; have BA := Lib.hid (BA.out.kp hK11 (by simp)); have BB := Lib.hid (BB.out.kp hK11 (by simp)); have BN := Lib.hid (BN.out.kp hK11 (by simp)); have P1 := Lib.hid (P1.out.grow hK11 (by intro y hy; cases hy)); have P2 := Lib.hid (P2.out.grow hK11 (by intro y hy; cases hy)); have P3 := Lib.hid (P3.out.grow hK11 (by intro y hy; cases hy)); have R1 := Lib.hid (R1.out.grow hK11 (by intro y hy; cases hy)); have R2 := Lib.hid (R2.out.grow hK11 (by intro y hy; cases hy)); have R3 := Lib.hid (R3.out.grow hK11 (by intro y hy; cases hy)); have N1 := Lib.hid (N1.out.grow hK11 (by intro y hy; cases hy)); have N2 := Lib.hid (N2.out.grow hK11 (by intro y hy; cases hy)); have KK := Lib.hid (KK.out.trans hK11); have EE := Lib.hid (EE.out.kp hK11 (by simp)); clear hK11 b0 b7 c0 c1 c2 c3 c4 c5 c6 c7 d0 d1 d2 d3 d4 d5; have b0 := BA.out.cell 0; have b7 := BA.out.cell 7; have c0 := BB.out.cell 0; have c1 := BB.out.cell 1; have c2 := BB.out.cell 2; have c3 := BB.out.cell 3; have c4 := BB.out.cell 4; have c5 := BB.out.cell 5; have c6 := BB.out.cell 6; have c7 := BB.out.cell 7; have d0 := BN.out.cell 0; have d1 := BN.out.cell 1; have d2 := BN.out.cell 2; have d3 := BN.out.cell 3; have d4 := BN.out.cell 4; have d5 := BN.out.cell 5)
              | (go_at_call 22; refine (awake_any _ EE.out).mono ?_; rintro e w12 ⟨rfl, hK12⟩; have BA := Lib.hid (BA.out.kp hK12 (by simp)); have BB := Lib.hid (BB.out.kp hK12 (by simp)); have BN := Lib.hid (BN.out.kp hK12 (by simp)); have P1 := Lib.hid (P1.out.grow hK12 (by intro y hy; cases hy)); have P2 := Lib.hid (P2.out.grow hK12 (by intro y hy; cases hy)); have P3 := Lib.hid (P3.out.grow hK12 (by intro y hy; cases hy)); have R1 := Lib.hid (R1.out.grow hK12 (by intro y hy; cases hy)); have R2 := Lib.hid (R2.out.grow hK12 (by intro y hy; cases hy)); have R3 := Lib.hid (R3.out.grow hK12 (by intro y hy; cases hy)); have N1 := Lib.hid (N1.out.grow hK12 (by intro y hy; cases hy)); have N2 := Lib.hid (N2.out.grow hK12 (by intro y hy; cases hy)); have KK := Lib.hid (KK.out.trans hK12); have EE := Lib.hid (EE.out.kp hK12 (by simp)); clear hK12 b0 b7 c0 c1 c2 c3 c4 c5 c6 c7 d0 d1 d2 d3 d4 d5; have b0 := BA.out.cell 0; have b7 := BA.out.cell 7; have c0 := BB.out.cell 0; have c1 := BB.out.cell 1; have c2 := BB.out.cell 2; have c3 := BB.out.cell 3; have c4 := BB.out.cell 4; have c5 := BB.out.cell 5; have c6 := BB.out.cell 6; have c7 := BB.out.cell 7; have d0 := BN.out.cell 0; have d1 := BN.out.cell 1; have d2 := BN.out.cell 2; have d3 := BN.out.cell 3; have d4 := BN.out.cell 4; have d5 := BN.out.cell 5)))
          go_wp2_with fail
          go_ret
          exact ⟨rfl, KK.out⟩
    | some ps =>
      have hs2 := HPs.out _ HPo.out
      have HPr := fun wz (E : Env wz) => Params_any (Txt ps) wz (by rw [txt_size]; exact hs2) E
      rw [txt_list, parR_print a.params ps HPo.out] at HPr
      have HPr := Lib.hid HPr
      clear HPs hs2
      go_enter Tryz.func13, Tryz.ntmps13
      have b0 := BA.out.cell 0
      have b1 := BA.out.cell 1
      have b2 := BA.out.cell 2
      have b3 := BA.out.cell 3
      have b4 := BA.out.cell 4
      have b5 := BA.out.cell 5
      have b6 := BA.out.cell 6
      have b7 := BA.out.cell 7
      go_wp2_with fail
      refine (printParams_any _ _ a.params _ P3.out (Nat.le_refl _) HZ.out.ps k1 EE.out).mono ?_
      rintro e w1 ⟨rfl, hB1⟩
      rw [HPo.out]
      simp only [Option.getD_some, Option.isSome_some, if_true]
      have hK := (Kp.refl [] wA).below hB1
      have BA := Lib.hid (BA.out.kp hK (by simp))
      have P1 := Lib.hid (P1.out.grow hK (by intro y hy; cases hy))
      have P2 := Lib.hid (P2.out.grow hK (by intro y hy; cases hy))
      have P3 := Lib.hid (P3.out.grow hK (by intro y hy; cases hy))
      have KK := Lib.hid (KK.out.trans hK)
      have EE := Lib.hid (EE.out.kp hK (by simp))
      clear hK hB1 b0 b1 b2 b3 b4 b5 b6 b7
      go_wp2_with fail
      refine (HPr.out _ EE.out).mono ?_
      rintro e w2 ⟨v2, rfl, hP2, hB2, _⟩
      have hK := (Kp.refl [] w1).below hB2
      obtain ⟨A9, C9, rfl⟩ := hP2.form
      have P9 := Lib.hid hP2
      have BA := Lib.hid (BA.out.kp hK (by simp))
      have P1 := Lib.hid (P1.out.grow hK (by intro y hy; cases hy))
      have P2 := Lib.hid (P2.out.grow hK (by intro y hy; cases hy))
      have P3 := Lib.hid (P3.out.grow hK (by intro y hy; cases hy))
      have KK := Lib.hid (KK.out.trans hK)
      have EE := Lib.hid (EE.out.kp hK (by simp))
      clear hK hB2 hP2
      have b0 := BA.out.cell 0
      have b1 := BA.out.cell 1
      have b2 := BA.out.cell 2
      have b3 := BA.out.cell 3
      have b4 := BA.out.cell 4
      have b5 := BA.out.cell 5
      have b6 := BA.out.cell 6
      have b7 := BA.out.cell 7
      go_wp2_with fail
      refine (same_selfP _ _ _ _ a.params _ P9.out P3.out (Nat.le_refl _) (Nat.le_refl _) (by omega)).mono ?_
      rintro e w3 ⟨rfl, hK⟩
      have BA := Lib.hid (BA.out.kp hK (by simp))
      have P1 := Lib.hid (P1.out.grow hK (by intro y hy; cases hy))
      have P2 := Lib.hid (P2.out.grow hK (by intro y hy; cases hy))
      have P3 := Lib.hid (P3.out.grow hK (by intro y hy; cases hy))
      have KK := Lib.hid (KK.out.trans hK)
      have EE := Lib.hid (EE.out.kp hK (by simp))
      clear hK P9 b0 b1 b2 b3 b4 b5 b6 b7
      have b0 := BA.out.cell 0
      have b1 := BA.out.cell 1
      have b2 := BA.out.cell 2
      have b3 := BA.out.cell 3
      have b4 := BA.out.cell 4
      have b5 := BA.out.cell 5
      have b6 := BA.out.cell 6
      have b7 := BA.out.cell 7
      go_wp2_with fail
      refine (printAddress_any _ _ a _ ⟨_, _, _, rfl, P1.out, P2.out, P3.out⟩ (Nat.le_refl _) HZ.out EE.out).mono ?_
      rintro e w4 ⟨rfl, hK⟩
      rw [HR.out]
      have BA := Lib.hid (BA.out.kp hK (by simp))
      have P1 := Lib.hid (P1.out.grow hK (by intro y hy; cases hy))
      have P2 := Lib.hid (P2.out.grow hK (by intro y hy; cases hy))
      have P3 := Lib.hid (P3.out.grow hK (by intro y hy; cases hy))
      have KK := Lib.hid (KK.out.trans hK)
      have EE := Lib.hid (EE.out.kp hK (by simp))
      clear hK b0 b1 b2 b3 b4 b5 b6 b7
      cases R with
      | none =>
        simp only [Option.getD_none, Option.isSome_none, Bool.false_eq_true, if_false]
        have bt : ((Txt []).toList == []) = true := by decide +kernel
        go_wp2_with fail
        refine (awake_any _ EE.out).mono ?_
        rintro e w5 ⟨rfl, hK⟩
        have KK := Lib.hid (KK.out.trans hK)
        clear hK
        go_wp2_with fail
        go_ret
        exact ⟨rfl, KK.out⟩
      | some t =>
        simp only [Option.getD_some, Option.isSome_some, if_true]
        by_cases hl : 1024 < (Txt t).size
        · go_wp2_with fail
          refine (awake_any _ EE.out).mono ?_
          rintro e w5 ⟨rfl, hK⟩
          have KK := Lib.hid (KK.out.trans hK)
          clear hK
          go_wp2_with fail
          go_ret
          exact ⟨rfl, KK.out⟩
        · obtain ⟨n, hn, hr⟩ := adr_print a t HR.out (by rw [txt_size] at hl; omega)
          have hnp : n.params.length ≤ 16 := (normal_NF _ _ hn).params.len
          have hnh : n.heads.length ≤ 16 := (normal_NF _ _ hn).heads.len
          have hsl : (srt a.params).length ≤ 2097152 := by rw [(srt_perm _).length_eq]; exact k1
          have HN := Lib.hid hn
          have HPa := fun wz (E : Env wz) => ParseAddress_any (Txt t) wz (by omega) E
          rw [txt_list, hr] at HPa
          have HPa := Lib.hid HPa
          have bd : ((Txt a.display).toList == (Txt a.display).toList) = true := beq_self_eq_true _
          obtain ⟨sp, hsp⟩ : ∃ l, srt a.params = l := ⟨_, rfl⟩
          rw [hsp] at HPa hsl
          have HSp := Lib.hid hsp
          clear hn hr hsp
          go_wp2_with fail
          refine (HPa.out _ EE.out).mono ?_
          rintro e w5 ⟨vb, rfl, hb, hB5⟩
          have hK := (Kp.refl [] w4).below hB5
          obtain ⟨vp, vh, vq, rfl, hp, hh, hq⟩ := hb
          dsimp only at hp hh hq ⊢
          obtain ⟨X1, Y1, rfl⟩ := hp.form
          obtain ⟨X2, Y2, rfl⟩ := hh.form
          obtain ⟨X3, Y3, rfl⟩ := hq.form
          have BA := Lib.hid (BA.out.kp hK (by simp))
          have P1 := Lib.hid (P1.out.grow hK (by intro y hy; cases hy))
          have P2 := Lib.hid (P2.out.grow hK (by intro y hy; cases hy))
          have P3 := Lib.hid (P3.out.grow hK (by intro y hy; cases hy))
          have KK := Lib.hid (KK.out.trans hK)
          have EE := Lib.hid (EE.out.kp hK (by simp))
          clear hK hB5
          have hK := (Kp.refl [] w5).alloc (.cells #[.string (Txt a.display), .string (Txt n.scheme), .string (Txt n.user), .string (Txt n.host), .int .i64 n.port, .slice X1 n.params.length Y1, .slice X2 n.heads.length Y2, .slice X3 sp.length Y3] 51)
          obtain ⟨w6, hw6⟩ : ∃ wz_, w5.alloc (.cells #[.string (Txt a.display), .string (Txt n.scheme), .string (Txt n.user), .string (Txt n.host), .int .i64 n.port, .slice X1 n.params.length Y1, .slice X2 n.heads.length Y2, .slice X3 sp.length Y3] 51) = wz_ := ⟨_, rfl⟩
          rw [hw6] at hK
          have BB := Lib.hid (show Blk w6 w5.heap.size 51 #[.string (Txt a.display), .string (Txt n.scheme), .string (Txt n.user), .string (Txt n.host), .int .i64 n.port, .slice X1 n.params.length Y1, .slice X2 n.heads.length Y2, .slice X3 sp.length Y3] from by rw [← hw6]; exact Blk.new w5 _ _)
          have R1 := Lib.hid (hp.grow hK (by intro y hy; cases hy))
          have R2 := Lib.hid (hh.grow hK (by intro y hy; cases hy))
          have R3 := Lib.hid (hq.grow hK (by intro y hy; cases hy))
          have BA := Lib.hid (BA.out.kp hK (by simp))
          have P1 := Lib.hid (P1.out.grow hK (by intro y hy; cases hy))
          have P2 := Lib.hid (P2.out.grow hK (by intro y hy; cases hy))
          have P3 := Lib.hid (P3.out.grow hK (by intro y hy; cases hy))
          have KK := Lib.hid (KK.out.trans hK)
          have EE := Lib.hid (EE.out.kp hK (by simp))
          clear hK hp hh hq
          have b1 := BA.out.cell 1
          have b2 := BA.out.cell 2
          have b3 := BA.out.cell 3
          have b4 := BA.out.cell 4
          have b5 := BA.out.cell 5
          have b6 := BA.out.cell 6
          go_wp2_with fail
          refine (Normal_any _ _ a.uri _ ⟨_, _, rfl, P1.out, P2.out⟩ (Nat.le_refl _) HZ.out.uri EE.out).mono ?_
          rw [HN.out]
          rintro e w7 ⟨vn, rfl, hu, hB7⟩
          simp only [Option.getD_some, Option.isSome_some, if_true] at hu ⊢
          have hK := (Kp.refl [] w6).below hB7
          obtain ⟨vp, vh, rfl, hp, hh⟩ := hu
          obtain ⟨Z1, V1, rfl⟩ := hp.form
          obtain ⟨Z2, V2, rfl⟩ := hh.form
          have BA := Lib.hid (BA.out.kp hK (by simp))
          have BB := Lib.hid (BB.out.kp hK (by simp))
          have P1 := Lib.hid (P1.out.grow hK (by intro y hy; cases hy))
          have P2 := Lib.hid (P2.out.grow hK (by intro y hy; cases hy))
          have P3 := Lib.hid (P3.out.grow hK (by intro y hy; cases hy))
          have R1 := Lib.hid (R1.out.grow hK (by intro y hy; cases hy))
          have R2 := Lib.hid (R2.out.grow hK (by intro y hy; cases hy))
          have R3 := Lib.hid (R3.out.grow hK (by intro y hy; cases hy))
          have KK := Lib.hid (KK.out.trans hK)
          have EE := Lib.hid (EE.out.kp hK (by simp))
          clear hK hB7 b1 b2 b3 b4 b5 b6
          have hK := (Kp.refl [] w7).alloc (.cells #[.string (Txt n.scheme), .string (Txt n.user), .string (Txt n.host), .int .i64 n.port, .slice Z1 n.params.length V1, .slice Z2 n.heads.length V2] 42)
          obtain ⟨w8, hw8⟩ : ∃ wz_, w7.alloc (.cells #[.string (Txt n.scheme), .string (Txt n.user), .string (Txt n.host), .int .i64 n.port, .slice Z1 n.params.length V1, .slice Z2 n.heads.length V2] 42) = wz_ := ⟨_, rfl⟩
          rw [hw8] at hK
          have BN := Lib.hid (show Blk w8 w7.heap.size 42 #[.string (Txt n.scheme), .string (Txt n.user), .string (Txt n.host), .int .i64 n.port, .slice Z1 n.params.length V1, .slice Z2 n.heads.length V2] from by rw [← hw8]; exact Blk.new w7 _ _)
          have N1 := Lib.hid (hp.grow hK (by intro y hy; cases hy))
          have N2 := Lib.hid (hh.grow hK (by intro y hy; cases hy))
          have BA := Lib.hid (BA.out.kp hK (by simp))
          have BB := Lib.hid (BB.out.kp hK (by simp))
          have P1 := Lib.hid (P1.out.grow hK (by intro y hy; cases hy))
          have P2 := Lib.hid (P2.out.grow hK (by intro y hy; cases hy))
          have P3 := Lib.hid (P3.out.grow hK (by intro y hy; cases hy))
          have R1 := Lib.hid (R1.out.grow hK (by intro y hy; cases hy))
          have R2 := Lib.hid (R2.out.grow hK (by intro y hy; cases hy))
          have R3 := Lib.hid (R3.out.grow hK (by intro y hy; cases hy))
          have KK := Lib.hid (KK.out.trans hK)
          have EE := Lib.hid (EE.out.kp hK (by simp))
          clear hK hp hh
          have b0 := BA.out.cell 0
          have b7 := BA.out.cell 7
          have c0 := BB.out.cell 0
          have c1 := BB.out.cell 1
          have c2 := BB.out.cell 2
          have c3 := BB.out.cell 3
          have c4 := BB.out.cell 4
          have c5 := BB.out.cell 5
          have c6 := BB.out.cell 6
          have c7 := BB.out.cell 7
          have d0 := BN.out.cell 0
          have d1 := BN.out.cell 1
          have d2 := BN.out.cell 2
          have d3 := BN.out.cell 3
          have d4 := BN.out.cell 4
          have d5 := BN.out.cell 5
          go_wp2_with fail
          go_region_held3 (fun w' => w'.cell? ⟨w.heap.size, 0, none⟩ = some (.string (Txt a.display)) ∧ w'.cell? ⟨w.heap.size, 7, none⟩ = some (.slice A3 a.params.length C3) ∧ w'.cell? ⟨w5.heap.size, 0, none⟩ = some (.string (Txt a.display)) ∧ w'.cell? ⟨w5.heap.size, 1, none⟩ = some (.string (Txt n.scheme)) ∧ w'.cell? ⟨w5.heap.size, 2, none⟩ = some (.string (Txt n.user)) ∧ w'.cell? ⟨w5.heap.size, 3, none⟩ = some (.string (Txt n.host)) ∧ w'.cell? ⟨w5.heap.size, 4, none⟩ = some (.int .i64 n.port) ∧ w'.cell? ⟨w5.heap.size, 5, none⟩ = some (.slice X1 n.params.length Y1) ∧ w'.cell? ⟨w5.heap.size, 6, none⟩ = some (.slice X2 n.heads.length Y2) ∧ w'.cell? ⟨w5.heap.size, 7, none⟩ = some (.slice X3 sp.length Y3) ∧ w'.cell? ⟨w7.heap.size, 0, none⟩ = some (.string (Txt n.scheme)) ∧ w'.cell? ⟨w7.heap.size, 1, none⟩ = some (.string (Txt n.user)) ∧ w'.cell? ⟨w7.heap.size, 2, none⟩ = some (.string (Txt n.host)) ∧ w'.cell? ⟨w7.heap.size, 3, none⟩ = some (.int .i64 n.port) ∧ w'.cell? ⟨w7.heap.size, 4, none⟩ = some (.slice Z1 n.params.length V1) ∧ w'.cell? ⟨w7.heap.size, 5, none⟩ = some (.slice Z2 n.heads.length V2)) (go_keep)
            ((first
              | (go_at_call 34; refine (same_selfU _ _ _ _ n _ (UriIn.kpn ⟨_, _, rfl, R1.out, R2.out⟩ (Kp.drewN (Kp.refl [] w8) _)) (UriIn.kpn ⟨_, _, rfl, N1.out, N2.out⟩ (Kp.drewN (Kp.refl [] w8) _)) (Nat.le_refl _) (Nat.le_refl _) (by omega) (by omega)).mono ?_; rintro e w9 ⟨rfl, hk9⟩; have hK9 := Kp.trans (Kp.drewN (Kp.refl [] w8) _) hk9; clear hk9; have BA := Lib.hid (BA.out.kp hK9 (by simp)); have BB := Lib.hid (BB.out.kp hK9 (by simp)); have BN := Lib.hid (BN.out.kp hK9 (by simp)); have P1 := Lib.hid (P1.out.grow hK9 (by intro y hy; cases hy)); have P2 := Lib.hid (P2.out.grow hK9 (by intro y hy; cases hy)); have P3 := Lib.hid (P3.out.grow hK9 (by intro y hy; cases hy)); have R1 := Lib.hid (R1.out.grow hK9 (by intro y hy; cases hy)); have R2 := Lib.hid (R2.out.grow hK9 (by intro y hy; cases hy)); have R3 := Lib.hid (R3.out.grow hK9 (by intro y hy; cases hy)); have N1 := Lib.hid (N1.out.grow hK9 (by intro y hy; cases hy)); have N2 := Lib.hid (N2.out.grow hK9 (by intro y hy; cases hy)); have KK := Lib.hid (KK.out.trans hK9); have EE := Lib.hid (EE.out.kp hK9 (by simp)); clear hK9 b0 b7 c0 c1 c2 c3 c4 c5 c6 c7 d0 d1 d2 d3 d4 d5; have b0 := BA.out.cell 0; have b7 := BA.out.cell 7; have c0 := BB.out.cell 0; have c1 := BB.out.cell 1; have c2 := BB.out.cell 2; have c3 := BB.out.cell 3; have c4 := BB.out.cell 4; have c5 := BB.out.cell 5; have c6 := BB.out.cell 6; have c7 := BB.out.cell 7; have d0 := BN.out.cell 0; have d1 := BN.out.cell 1; have d2 := BN.out.cell 2; have d3 := BN.out.cell 3; have d4 := BN.out.cell 4; have d5 := BN.out.cell 5)
              | (go_at_call 48; refine (rSorted_any _ _ a.params _ P3.out (Nat.le_refl _) k1).mono ?_; rw [HSp.out]; rintro e w10 ⟨v10, rfl, hP10, hK10⟩; obtain ⟨A10, C10, rfl⟩ := hP10.form; have Q10 := Lib.hid hP10; clear hP10; have BA := Lib.hid (BA.out.kp hK10 (by simp)); have BB := Lib.hid (BB.out.kp hK10 (by simp)); have BN := Lib.hid (BN.out.kp hK10 (by simp)); have P1 := Lib.hid (P1.out.grow hK10 (by intro y hy; cases hy)); have P2 := Lib.hid (P2.out.grow hK10 (by intro y hy; cases hy)); have P3 := Lib.hid (P3.out.grow hK10 (by intro y hy; cases hy)); have R1 := Lib.hid (R1.out.grow hK10 (by intro y hy; cases hy)); have R2 := Lib.hid (R2.out.grow hK10 (by intro y hy; cases hy)); have R3 := Lib.hid (R3.out.grow hK10 (by intro y hy; cases hy)); have N1 := Lib.hid (N1.out.grow hK10 (by intro y hy; cases hy)); have N2 := Lib.hid (N2.out.grow hK10 (by intro y hy; cases hy)); have KK := Lib.hid (KK.out.trans hK10); have EE := Lib.hid (EE.out.kp hK10 (by simp)); clear hK10 b0 b7 c0 c1 c2 c3 c4 c5 c6 c7 d0 d1 d2 d3 d4 d5; have b0 := BA.out.cell 0; have b7 := BA.out.cell 7; have c0 := BB.out.cell 0; have c1 := BB.out.cell 1; have c2 := BB.out.cell 2; have c3 := BB.out.cell 3; have c4 := BB.out.cell 4; have c5 := BB.out.cell 5; have c6 := BB.out.cell 6; have c7 := BB.out.cell 7; have d0 := BN.out.cell 0; have d1 := BN.out.cell 1; have d2 := BN.out.cell 2; have d3 := BN.out.cell 3; have d4 := BN.out.cell 4; have d5 := BN.out.cell 5)
              | (go_at_call 29; refine (same_selfP _ _ _ _ sp _ R3.out Q10.out (Nat.le_refl _) (Nat.le_refl _) (by omega)).mono ?_; rintro e w11 ⟨rfl, hK11⟩; have BA := Lib.hid (BA.out.kp hK11 (by simp)); have BB := Lib.hid (BB.out.kp hK11 (by simp)); have BN := Lib.hid (BN.out.kp hK11 (by simp)); have P1 := Lib.hid (P1.out.grow hK11 (by intro y hy; cases hy)); have P2 := Lib.hid (P2.out.grow hK11 (by intro y hy; cases hy)); have P3 := Lib.hid (P3.out.grow hK11 (by intro y hy; cases hy)); have R1 := Lib.hid (R1.out.grow hK11 (by intro y hy; cases hy)); have R2 := Lib.hid (R2.out.grow hK11 (by intro y hy; cases hy)); have R3 := Lib.hid (R3.out.grow hK11 (by intro y hy; cases hy)); have N1 := Lib.hid (N1.out.grow hK11 (by intro y hy; cases hy)); have N2 := Lib.hid (N2.out.grow hK11 (by intro y hy; cases hy)); have KK := Lib.hid (KK.out.trans hK11); have EE := Lib.hid (EE.out.kp hK11 (by simp)); clear hK11 b0 b7 c0 c1 c2 c3 c4 c5 c6 c7 d0 d1 d2 d3 d4 d5; have b0 := BA.out.cell 0; have b7 := BA.out.cell 7; have c0 := BB.out.cell 0; have c1 := BB.out.cell 1; have c2 := BB.out.cell 2; have c3 := BB.out.cell 3; have c4 := BB.out.cell 4; have c5 := BB.out.cell 5; have c6 := BB.out.cell 6; have c7 := BB.out.cell 7; have d0 := BN.out.cell 0; have d1 := BN.out.cell 1; have d2 := BN.out.cell 2; have d3 := BN.out.cell 3; have d4 := BN.out.cell 4; have d5 := BN.out.cell 5)
              | (go_at_call 22; refine (awake_any _ EE.out).mono ?_; rintro e w12 ⟨rfl, hK12⟩; have BA := Lib.hid (BA.out.kp hK12 (by simp)); have BB := Lib.hid (BB.out.kp hK12 (by simp)); have BN := Lib.hid (BN.out.kp hK12 (by simp)); have P1 := Lib.hid (P1.out.grow hK12 (by intro y hy; cases hy)); have P2 := Lib.hid (P2.out.grow hK12 (by intro y hy; cases hy)); have P3 := Lib.hid (P3.out.grow hK12 (by intro y hy; cases hy)); have R1 := Lib.hid (R1.out.grow hK12 (by intro y hy; cases hy)); have R2 := Lib.hid (R2.out.grow hK12 (by intro y hy; cases hy)); have R3 := Lib.hid (R3.out.grow hK12 (by intro y hy; cases hy)); have N1 := Lib.hid (N1.out.grow hK12 (by intro y hy; cases hy)); have N2 := Lib.hid (N2.out.grow hK12 (by intro y hy; cases hy)); have KK := Lib.hid (KK.out.trans hK12); have EE := Lib.hid (EE.out.kp hK12 (by simp)); clear hK12 b0 b7 c0 c1 c2 c3 c4 c5 c6 c7 d0 d1 d2 d3 d4 d5; have b0 := BA.out.cell 0; have b7 := BA.out.cell 7; have c0 := BB.out.cell 0; have c1 := BB.out.cell 1; have c2 := BB.out.cell 2; have c3 := BB.out.cell 3; have c4 := BB.out.cell 4; have c5 := BB.out.cell 5; have c6 := BB.out.cell 6; have c7 := BB.out.cell 7; have d0 := BN.out.cell 0; have d1 := BN.out.cell 1; have d2 := BN.out.cell 2; have d3 := BN.out.cell 3; have d4 := BN.out.cell 4; have d5 := BN.out.cell 5)))
          go_wp2_with fail
          go_ret
          exact ⟨rfl, KK.out⟩
end Ad
end Go.Proofs.YtjkkcoiebnmkcaaGreatDoor
