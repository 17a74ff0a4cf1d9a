/- The law HeaderTagged. A text has at most 2^20 bytes. -/
import Derived.Test.YtmmjfofdnpafkaaGreatDoorHeTa
import Derived.Test.YtmmjfofdnpafkaaGreatDoorM13
import Derived.Test.YtmmjfofdnpafkaaGreatDoorAdLi
namespace Go.Proofs.YtmmjfofdnpafkaaGreatDoor
namespace Ad
open Go.RowKit Lx

theorem blkA_nob {w : World} {g : Nat} {D S U H : ByteArray} {P : Int} {a1 a2 a3 : Option Addr} {n1 c1 n2 c2 n3 c3 : Nat} (h : Blk w g 26 #[.string D, .string S, .string U, .string H, .int .i64 P, .slice a1 n1 c1, .slice a2 n2 c2, .slice a3 n3 c3]) : NoB w g := by
  intro i t hc
  rw [Blk.cell h i] at hc
  match i, hc with
  | 0, hc => simp at hc
  | 1, hc => simp at hc
  | 2, hc => simp at hc
  | 3, hc => simp at hc
  | 4, hc => simp at hc
  | 5, hc => simp at hc
  | 6, hc => simp at hc
  | 7, hc => simp at hc
  | i + 8, hc => simp at hc
theorem abox_set {w w' : World} {g : Nat} {a : Adr} {l : List Prm} {a1 a2 a3 a4 : Option Addr} {c1 c2 c3 c4 : Nat}
    (h : AdIn w.heap.size w (.agg #[.string (Txt a.display), .string (Txt a.uri.scheme), .string (Txt a.uri.user), .string (Txt a.uri.host), .int .i64 a.uri.port, .slice a1 a.uri.params.length c1, .slice a2 a.uri.heads.length c2, .slice a3 a.params.length c3]) a)
    (hb : Blk w g 26 #[.string (Txt a.display), .string (Txt a.uri.scheme), .string (Txt a.uri.user), .string (Txt a.uri.host), .int .i64 a.uri.port, .slice a1 a.uri.params.length c1, .slice a2 a.uri.heads.length c2, .slice a3 a.params.length c3])
    (hp : PmIn w.heap.size w (.slice a4 l.length c4) l) (hw : w.setCell ⟨g, 7, none⟩ (.slice a4 l.length c4) = w') :
    Blk w' g 26 #[.string (Txt a.display), .string (Txt a.uri.scheme), .string (Txt a.uri.user), .string (Txt a.uri.host), .int .i64 a.uri.port, .slice a1 a.uri.params.length c1, .slice a2 a.uri.heads.length c2, .slice a4 l.length c4] ∧
    AdIn w'.heap.size w' (.agg #[.string (Txt a.display), .string (Txt a.uri.scheme), .string (Txt a.uri.user), .string (Txt a.uri.host), .int .i64 a.uri.port, .slice a1 a.uri.params.length c1, .slice a2 a.uri.heads.length c2, .slice a4 l.length c4]) { a with params := l } := by
  have k : Kp [g] w w' := by rw [← hw]; exact (Kp.refl [g] w).setCell (p := ⟨g, 7, none⟩) (.inl (by simp)) _
  have hn : ∀ x ∈ [g], NoB w x := by intro x hx; rw [List.mem_singleton.1 hx]; exact blkA_nob hb
  obtain ⟨vp, vh, vq, he, h1, h2, _⟩ := h
  injection he with he
  injection he with he
  simp only [List.cons.injEq, and_true] at he
  obtain ⟨_, _, _, _, _, rfl, rfl, _⟩ := he
  exact ⟨by rw [← hw]; exact hb.set_ 7 _, _, _, _, rfl, h1.grow k hn, h2.grow k hn, hp.grow k hn⟩
theorem szA_set (l : List UInt8) (a : Adr) (tg : List UInt8) (h : MdA 4096 a) (ht : tg.length ≤ 1048576) : SzA { a with params := stL a.params tagN tg } := by
  have hp := szP_of h.p
  have h2 := stL_len a.params tagN tg
  have hn := h.n
  refine ⟨by have := h.d; dsimp only; omega, h.u.1, h.u.2, by dsimp only; omega, ?_⟩
  dsimp only
  intro p hm
  unfold stL at hm
  split at hm
  · rcases List.mem_append.1 hm with hm | hm
    · exact hp p hm
    · rw [List.mem_singleton.1 hm]; exact ⟨by simp [lowL, tagN], by dsimp only; omega⟩
  · rcases List.mem_or_eq_of_mem_set hm with hm | hm
    · exact hp p hm
    · rw [hm]
      refine ⟨?_, by dsimp only; omega⟩
      dsimp only
      rcases Nat.lt_or_ge (fndI a.params tagN).toNat a.params.length with hk | hk
      · rw [getElem!_pos a.params _ hk]; exact (hp _ (List.getElem_mem hk)).1
      · have hne : ¬ (fndI a.params tagN).toNat < a.params.length := by omega
        rw [getElem!_neg a.params _ hne]; exact Nat.zero_le _
set_option maxRecDepth 100000 in
set_option maxHeartbeats 8000000 in
theorem tagged_law (s tg : ByteArray) (w : World) (hs : s.size ≤ 1048576) (hg : tg.size ≤ 1048576) (H : HEnv w) : Calls Tryz.prog 14 #[.string s, .string tg] w (BoK true w) := by
  have hvc := value_cases s.data.toList
  have hmd := adrR_md2 (trS s.data.toList)
  have hlen := adrR_len (trS s.data.toList)
  obtain ⟨a, n, x, hr⟩ : ∃ a b c, adrR (trS s.data.toList) = (a, b, c) := ⟨_, _, _, rfl⟩
  rw [hr] at hvc hmd hlen
  dsimp only at hvc hmd hlen
  have HA1 := Lib.hid (fun wz (h : HEnv wz) => (by have h := haddress_any s wz (by omega) h.env; rw [hr] at h; exact h : Calls Tryz.prog 34 #[.string s] wz (AdE (a, x) wz)))
  have HU1 := Lib.hid (fun wz (h : HEnv wz) => huri_any s wz hs h.env)
  have HT1 := Lib.hid (fun wz (h : HEnv wz) => htag_any s wz hs h.env)
  have HAw := Lib.hid (fun wz (h : HEnv wz) => hawake_any wz h)
  have HE := Lib.hid H
  clear H hr
  rcases hvc with ⟨hx, rfl, hu, ht⟩ | ⟨rfl, u, hpu, hu⟩
  · rw [hu] at HU1
    rw [ht] at HT1
    have hx0 : (x == (0 : Int)) = false := beq_eq_false_iff_ne.2 hx
    have hxx : (x == x) = true := beq_self_eq_true _
    have te := emp_yes [] rfl
    clear hx hu ht hmd hlen
    go_enter Tryz.func14, Tryz.ntmps14
    go_wp2_with fail
    refine (HA1.out _ HE.out).mono ?_
    rintro e w1 ⟨v, rfl, hv, hK1⟩
    have K1 := Lib.hid hK1
    have Hv := hv
    obtain ⟨vp, vh, vq, rfl, h1, h2, h3⟩ := hv
    obtain ⟨A1, C1, rfl⟩ := h1.form
    obtain ⟨A2, C2, rfl⟩ := h2.form
    obtain ⟨A3, C3, rfl⟩ := h3.form
    clear h1 h2 h3 hK1
    dsimp only at Hv ⊢
    obtain ⟨w2, hw2⟩ : ∃ x, w1.alloc (.cells #[.string (Txt nilA.display), .string (Txt nilA.uri.scheme), .string (Txt nilA.uri.user), .string (Txt nilA.uri.host), .int .i64 nilA.uri.port, .slice A1 nilA.uri.params.length C1, .slice A2 nilA.uri.heads.length C2, .slice A3 nilA.params.length C3] 26) = x := ⟨_, rfl⟩
    obtain ⟨b2, k2, v2⟩ := abox_of Hv hw2
    have K2 := Lib.hid (K1.out.trans k2)
    clear Hv b2 k2 v2
    go_wp2_with fail
    refine (HU1.out _ (HE.out.kp K2.out (by simp))).mono ?_
    rintro e w3 ⟨rfl, hK3⟩
    have K3 := Lib.hid (K2.out.trans hK3)
    clear hK3
    dsimp only
    go_wp2_with fail
    refine (HT1.out _ (HE.out.kp K3.out (by simp))).mono ?_
    rintro e w4 ⟨rfl, hK4⟩
    have K4 := Lib.hid (K3.out.trans hK4)
    clear hK4
    go_wp2_with fail
    refine (HAw.out _ (HE.out.kp K4.out (by simp))).mono ?_
    rintro e w5 ⟨rfl, hK5⟩
    have K5 := Lib.hid (K4.out.trans hK5)
    clear hK5
    go_wp2_with fail
    go_ret
    exact ⟨rfl, K5.out⟩
  · rw [hu] at HU1
    have HZ := Lib.hid (szA_set s.data.toList a tg.data.toList hmd (by rw [len_list]; exact hg))
    have HS := Lib.hid (fun wz A c (hP : PmIn wz.heap.size wz (.slice A a.params.length c) a.params) => (by
      have h := set_any _ _ a.params tagN tg.data.toList wz hP (Nat.le_refl _) (szP_of hmd.p) (by have := hmd.n; omega) (by decide) (by rw [len_list]; omega)
      rw [txt_self] at h
      exact h : Calls Tryz.prog 57 #[.slice A a.params.length c, .string ⟨#[116, 97, 103]⟩, .string tg] wz (StP (stL a.params tagN tg.data.toList) wz)))
    obtain ⟨ps, hps⟩ : ∃ ps, stL a.params tagN tg.data.toList = ps := ⟨_, rfl⟩
    obtain ⟨o, ho⟩ : ∃ o, adrO { a with params := ps } = o := ⟨_, rfl⟩
    rw [hps] at HS HZ
    have HO := Lib.hid ho
    have HPs := Lib.hid hps
    have HPu := Lib.hid hpu
    have hcl : ∀ t, o = some t → t.length ≤ 1024 → uriR t = (u, 0) ∧ parmR t [84, 65, 71] = (tg.data.toList, true) ∧ tagR t = tg.data.toList := by
      intro t h hl
      refine tagged_ok a u tg.data.toList t hpu ?_ hl
      rw [hps, ho, h]
    have HC := Lib.hid hcl
    clear hu hmd hlen ho hps hpu hcl
    go_enter Tryz.func14, Tryz.ntmps14
    go_wp2_with fail
    refine (HA1.out _ HE.out).mono ?_
    rintro e w1 ⟨v, rfl, hv, hK1⟩
    have K1 := Lib.hid hK1
    have Hv := hv
    obtain ⟨vp, vh, vq, rfl, h1, h2, h3⟩ := hv
    obtain ⟨A1, C1, rfl⟩ := h1.form
    obtain ⟨A2, C2, rfl⟩ := h2.form
    obtain ⟨A3, C3, rfl⟩ := h3.form
    clear h1 h2 h3 hK1
    dsimp only at Hv ⊢
    obtain ⟨w2, hw2⟩ : ∃ x, w1.alloc (.cells #[.string (Txt a.display), .string (Txt a.uri.scheme), .string (Txt a.uri.user), .string (Txt a.uri.host), .int .i64 a.uri.port, .slice A1 a.uri.params.length C1, .slice A2 a.uri.heads.length C2, .slice A3 a.params.length C3] 26) = x := ⟨_, rfl⟩
    obtain ⟨b2, k2, v2⟩ := abox_of Hv hw2
    have hgw := K1.out.size
    obtain ⟨g, hg2⟩ : ∃ x, w1.heap.size = x := ⟨_, rfl⟩
    rw [hg2] at b2 hgw
    have HG := Lib.hid hgw
    have B2 := Lib.hid b2
    have K2 := Lib.hid (K1.out.trans k2)
    have V2 := Lib.hid v2
    clear Hv b2 k2 v2 hgw
    go_wp2_with fail
    refine (HU1.out _ (HE.out.kp K2.out (by simp))).mono ?_
    rintro e w3 ⟨rfl, hK3⟩
    have K3 := Lib.hid (K2.out.trans hK3)
    have B3 := Lib.hid (B2.out.kp hK3 (by simp))
    have V3 := Lib.hid (V2.out.kpn hK3)
    clear hK3 hw2 hg2
    dsimp only
    have e7 := B3.out.cell 7
    go_wp2_with fail
    obtain ⟨q1, q2, q3, hq, p1, p2, p3⟩ := V3.out
    injection hq with hq
    injection hq with hq
    simp only [List.cons.injEq, and_true] at hq
    obtain ⟨_, _, _, _, _, rfl, rfl, rfl⟩ := hq
    refine (HS.out _ _ _ p3).mono ?_
    clear p1 p2 p3 e7
    rintro e w4 ⟨v', rfl, hP4, hK4⟩
    obtain ⟨A4, C4, rfl⟩ := hP4.form
    obtain ⟨w5, hw5⟩ : ∃ x, w4.setCell ⟨g, 7, none⟩ (.slice A4 ps.length C4) = x := ⟨_, rfl⟩
    obtain ⟨b5, v5⟩ := abox_set (V3.out.kpn hK4) (B3.out.kp hK4 (by simp)) hP4 hw5
    have K5 := Lib.hid (show Kp [] w w5 from by rw [← hw5]; exact (K3.out.trans hK4).setCell (p := ⟨g, 7, none⟩) (.inr HG.out) _)
    have B4 := Lib.hid (B3.out.kp hK4 (by simp))
    have f4 := B4.out.frozen 7
    have e4 := B4.out.cell 7
    have V5 := Lib.hid v5
    clear hP4 hK4 v5
    go_upto_region 8 with fail
    try rw [hw5]
    clear f4 e4
    have d0 := b5.cell 0
    have d1 := b5.cell 1
    have d2 := b5.cell 2
    have d3 := b5.cell 3
    have d4 := b5.cell 4
    have d5 := b5.cell 5
    have d6 := b5.cell 6
    have d7 := b5.cell 7
    clear b5
    go_wp2_with fail
    refine (printAddress_any _ _ _ _ V5.out (Nat.le_refl _) HZ.out (HE.out.kp K5.out (by simp)).env).mono ?_
    rintro e w6 ⟨rfl, hK6⟩
    rw [HO.out]
    have K6 := Lib.hid (K5.out.trans hK6)
    clear hK6 d0 d1 d2 d3 d4 d5 d6 d7 hw5
    cases o with
    | none =>
      simp only [Option.getD_none, Option.isSome_none, Bool.false_eq_true, if_false]
      go_wp2_with fail
      refine (HAw.out _ (HE.out.kp K6.out (by simp))).mono ?_
      rintro e w7 ⟨rfl, hK7⟩
      have K7 := Lib.hid (K6.out.trans hK7)
      clear hK7
      go_wp2_with fail
      go_ret
      exact ⟨rfl, K7.out⟩
    | some t =>
      simp only [Option.getD_some, Option.isSome_some, if_true]
      have hts := txt_size t
      by_cases hl : t.length ≤ 1024
      · obtain ⟨r1, r2, r3⟩ := HC.out t rfl hl
        have HU2 := Lib.hid (fun wz (h : HEnv wz) => (by have h := huri_any (Txt t) wz (by rw [txt_size]; omega) h.env; rw [txt_list, r1] at h; exact h : Calls Tryz.prog 36 #[.string (Txt t)] wz (TxE (u, 0) wz)))
        have HP2 := Lib.hid (fun wz (h : HEnv wz) => (by have h := hparam_any (Txt t) [84, 65, 71] wz (by rw [txt_size]; omega) (by decide) h.env; rw [txt_list, r2] at h; exact h : Calls Tryz.prog 38 #[.string (Txt t), .string ⟨#[84, 65, 71]⟩] wz (TbK (tg.data.toList, true) wz)))
        have HT2 := Lib.hid (fun wz (h : HEnv wz) => (by have h := htag_any (Txt t) wz (by rw [txt_size]; omega) h.env; rw [txt_list, r3] at h; exact h : Calls Tryz.prog 41 #[.string (Txt t)] wz (TxK tg.data.toList wz)))
        have hc1 : decide ((1024 : Int) < ((Txt t).size : Int)) = false := by rw [hts]; simp; omega
        have htt : (tg.toList == tg.toList) = true := beq_self_eq_true _
        have huu : ((Txt u).toList == (Txt u).toList) = true := beq_self_eq_true _
        clear r1 r2 r3
        go_wp2_with fail
        refine (HU2.out _ (HE.out.kp K6.out (by simp))).mono ?_
        rintro e w7 ⟨rfl, hK7⟩
        have K7 := Lib.hid (K6.out.trans hK7)
        clear hK7
        dsimp only
        go_wp2_with fail
        refine (HP2.out _ (HE.out.kp K7.out (by simp))).mono ?_
        rintro e w8 ⟨rfl, hK8⟩
        have K8 := Lib.hid (K7.out.trans hK8)
        clear hK8
        dsimp only
        rw [txt_self]
        go_wp2_with fail
        refine (HT2.out _ (HE.out.kp K8.out (by simp))).mono ?_
        rintro e w9 ⟨rfl, hK9⟩
        rw [txt_self]
        have K9 := Lib.hid (K8.out.trans hK9)
        clear hK9
        go_wp2_with fail
        refine (HAw.out _ (HE.out.kp K9.out (by simp))).mono ?_
        rintro e wA ⟨rfl, hKA⟩
        have KA := Lib.hid (K9.out.trans hKA)
        clear hKA
        go_wp2_with fail
        go_ret
        exact ⟨rfl, KA.out⟩
      · have hc1 : decide ((1024 : Int) < ((Txt t).size : Int)) = true := by rw [hts]; simp; omega
        go_wp2_with fail
        refine (HAw.out _ (HE.out.kp K6.out (by simp))).mono ?_
        rintro e w7 ⟨rfl, hK7⟩
        have K7 := Lib.hid (K6.out.trans hK7)
        clear hK7
        go_wp2_with fail
        go_ret
        exact ⟨rfl, K7.out⟩
end Ad
end Go.Proofs.YtmmjfofdnpafkaaGreatDoor
