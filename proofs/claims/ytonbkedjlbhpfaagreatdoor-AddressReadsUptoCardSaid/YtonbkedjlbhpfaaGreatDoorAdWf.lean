/- AddressReads of package dialtonelaw02 returns true for every text of at most 2^20 bytes, and nothing that was there is changed. -/
import Derived.Test.YtonbkedjlbhpfaaGreatDoorAdWe
import Derived.Test.YtonbkedjlbhpfaaGreatDoorM8
namespace Go.Proofs.YtonbkedjlbhpfaaGreatDoor
namespace Ad
open Go.RowKit Lx

theorem parF_len (l : List UInt8) : ∀ (n k : Nat) (acc : List Prm), acc.length ≤ 16 → (parF n l k acc).1.length ≤ 16 := by
  intro n
  induction n with
  | zero => intro k acc h; exact h
  | succ n ih =>
    intro k acc h
    rcases Nat.lt_or_ge k l.length with hk | hk
    · by_cases h59 : atB l k = 59
      · by_cases h3 : (pmR l (blkE l (k + 1))).2.2 = 0
        · by_cases h4 : room acc (pmR l (blkE l (k + 1))).1.1 = 0
          · rw [parF_step n l k acc hk h59 h3 h4]
            refine ih _ _ ?_
            rw [List.length_append, List.length_singleton]
            have : acc.length ≠ 16 := by
              intro h16
              unfold room at h4
              by_cases hany : (acc.any fun q => q.1 == (pmR l (blkE l (k + 1))).1.1) = true
              · rw [if_pos hany] at h4; exact absurd h4 (by decide)
              · rw [if_neg hany, if_pos h16] at h4; exact absurd h4 (by decide)
            omega
          · rw [parF_err3 n l k acc hk h59 h3 h4]; exact Nat.zero_le _
        · rw [parF_err2 n l k acc hk h59 h3]; exact Nat.zero_le _
      · rw [parF_err1 n l k acc hk h59]; exact Nat.zero_le _
    · rw [parF_end n l k acc hk]; exact h
theorem parse_len (l : List UInt8) : (parse l).1.params.length ≤ 16 ∧ (parse l).1.heads.length ≤ 16 := by
  by_cases hx : (parse l).2.2 = 0
  · obtain ⟨nf, _⟩ := parse_NF l hx
    exact ⟨nf.params.len, nf.heads.len⟩
  · rw [(parse_at l).2 hx]; exact ⟨Nat.zero_le _, Nat.zero_le _⟩
def LnA (a : Adr) : Prop := a.uri.params.length ≤ 16 ∧ a.uri.heads.length ≤ 16 ∧ a.params.length ≤ 16
theorem lnA_nil : LnA nilA := ⟨Nat.zero_le _, Nat.zero_le _, Nat.zero_le _⟩
theorem restR_len (l d : List UInt8) (a b c : Nat) : LnA (restR l d a b c).1 := by
  unfold restR
  split
  · exact lnA_nil
  · split
    · exact lnA_nil
    · exact ⟨(parse_len _).1, (parse_len _).2, parF_len _ _ _ _ (Nat.zero_le _)⟩
theorem angR_len (l d : List UInt8) (k : Nat) : LnA (angR l d k).1 := by
  unfold angR
  split
  · exact lnA_nil
  · exact restR_len _ _ _ _ _
theorem adrR_len (l : List UInt8) : LnA (adrR l).1 := by
  unfold adrR
  split
  · exact lnA_nil
  · split
    · split
      · exact lnA_nil
      · split
        · exact lnA_nil
        · exact angR_len _ _ _
    · split
      · split
        · exact lnA_nil
        · exact angR_len _ _ _
      · split
        · exact lnA_nil
        · exact restR_len _ _ _ _ _
/-- A new block that holds an address. -/
theorem abox_of {w w' : World} {a : Adr} {a1 : Option Addr} {c1 : Nat} {a2 : Option Addr} {c2 : Nat} {a3 : Option Addr} {c3 : Nat}
    (h : AdIn w.heap.size w (.agg #[.string (Txt a.display), .string (Txt a.uri.scheme), .string (Txt a.uri.user), .string (Txt a.uri.host), .int .i64 a.uri.port, .slice a1 a.uri.params.length c1, .slice a2 a.uri.heads.length c2, .slice a3 a.params.length c3]) a)
    (hw : w.alloc (.cells #[.string (Txt a.display), .string (Txt a.uri.scheme), .string (Txt a.uri.user), .string (Txt a.uri.host), .int .i64 a.uri.port, .slice a1 a.uri.params.length c1, .slice a2 a.uri.heads.length c2, .slice a3 a.params.length c3] 32) = w') :
    Blk w' w.heap.size 32 #[.string (Txt a.display), .string (Txt a.uri.scheme), .string (Txt a.uri.user), .string (Txt a.uri.host), .int .i64 a.uri.port, .slice a1 a.uri.params.length c1, .slice a2 a.uri.heads.length c2, .slice a3 a.params.length c3] ∧ Kp [] w w' ∧ AdIn w'.heap.size w' (.agg #[.string (Txt a.display), .string (Txt a.uri.scheme), .string (Txt a.uri.user), .string (Txt a.uri.host), .int .i64 a.uri.port, .slice a1 a.uri.params.length c1, .slice a2 a.uri.heads.length c2, .slice a3 a.params.length c3]) a := by
  have k : Kp [] w w' := by rw [← hw]; exact (Kp.refl [] w).alloc _
  exact ⟨by rw [← hw]; exact Blk.new w _ _, k, h.kpn k⟩
set_option maxRecDepth 100000 in
set_option maxHeartbeats 8000000 in
theorem reads_law (s : ByteArray) (w : World) (hs : s.size ≤ 1048576) (E : Env w) : Calls Tryz.prog 4 #[.string s] w (BoK true w) := by
  obtain ⟨a, n, x, hr⟩ : ∃ a b c, adrR s.data.toList = (a, b, c) := ⟨_, _, _, rfl⟩
  have P1 := ParseAddress_any s w (by omega) E
  rw [hr] at P1
  have HP1 := Lib.hid P1
  have HRf := Lib.hid (fun wz => (by have h := rParseAddress_any s wz hs; rw [hr] at h; exact h : Calls Tryz.prog 24 #[.string s] wz (AdrP (a, n, x) wz)))
  have HE := Lib.hid E
  have hln := adrR_len s.data.toList
  rw [hr] at hln
  obtain ⟨l1, l2, l3⟩ := hln
  dsimp only at l1 l2 l3
  have HSm := Lib.hid (show (a.display == a.display && (sameU a.uri a.uri && a.params == a.params)) = true from by rw [(sameU_iff _ _).2 rfl]; simp)
  have bn : ((n : Int) == (n : Int)) = true := beq_self_eq_true _
  have bx : (x == x) = true := beq_self_eq_true _
  clear P1 E hr
  go_enter Tryz.func4, Tryz.ntmps4
  go_wp2_with fail
  refine HP1.out.mono ?_
  rintro e w1 ⟨v, rfl, hv, hB1⟩
  have K1 := Lib.hid ((Kp.refl [] w).below hB1)
  have Hv := hv
  obtain ⟨vp, vh, vq, rfl, h1, h2, h3⟩ := hv
  obtain ⟨A1, C1, rfl⟩ := h1.form
  obtain ⟨A2, C2, rfl⟩ := h2.form
  obtain ⟨A3, C3, rfl⟩ := h3.form
  clear h1 h2 h3 hB1
  dsimp only at Hv ⊢
  obtain ⟨w2, hw2⟩ : ∃ x, w1.alloc (.cells #[.string (Txt a.display), .string (Txt a.uri.scheme), .string (Txt a.uri.user), .string (Txt a.uri.host), .int .i64 a.uri.port, .slice A1 a.uri.params.length C1, .slice A2 a.uri.heads.length C2, .slice A3 a.params.length C3] 32) = x := ⟨_, rfl⟩
  obtain ⟨b2, k2, v2⟩ := abox_of Hv hw2
  obtain ⟨g, hg⟩ : ∃ x, w1.heap.size = x := ⟨_, rfl⟩
  rw [hg] at b2
  have B2 := Lib.hid b2
  have K2 := Lib.hid (K1.out.trans k2)
  have V2 := Lib.hid v2
  clear Hv b2 k2 v2
  go_wp2_with fail
  refine (HRf.out _).mono ?_
  rintro e w3 ⟨v, rfl, hv, hB3⟩
  have hK3 := (Kp.refl [] w2).below hB3
  have K3 := Lib.hid (K2.out.trans hK3)
  have B3 := Lib.hid (B2.out.kp hK3 (by simp))
  have V3 := Lib.hid (V2.out.kpn hK3)
  have Hv := hv
  obtain ⟨vp, vh, vq, rfl, h1, h2, h3⟩ := hv
  obtain ⟨D1, F1, rfl⟩ := h1.form
  obtain ⟨D2, F2, rfl⟩ := h2.form
  obtain ⟨D3, F3, rfl⟩ := h3.form
  clear h1 h2 h3 hB3 hK3
  dsimp only at Hv ⊢
  obtain ⟨w4, hw4⟩ : ∃ x, w3.alloc (.cells #[.string (Txt a.display), .string (Txt a.uri.scheme), .string (Txt a.uri.user), .string (Txt a.uri.host), .int .i64 a.uri.port, .slice D1 a.uri.params.length F1, .slice D2 a.uri.heads.length F2, .slice D3 a.params.length F3] 32) = x := ⟨_, rfl⟩
  obtain ⟨b4, k4, v4⟩ := abox_of Hv hw4
  obtain ⟨g4, hg4⟩ : ∃ x, w3.heap.size = x := ⟨_, rfl⟩
  rw [hg4] at b4
  have K4 := Lib.hid (K3.out.trans k4)
  have W4 := Lib.hid v4
  have V4 := Lib.hid (V3.out.kpn k4)
  have B4 := Lib.hid (B3.out.kp k4 (by simp))
  have e0 := b4.cell 0
  have e1 := b4.cell 1
  have e2 := b4.cell 2
  have e3 := b4.cell 3
  have e4 := b4.cell 4
  have e5 := b4.cell 5
  have e6 := b4.cell 6
  have e7 := b4.cell 7
  have d0 := B4.out.cell 0
  have d1 := B4.out.cell 1
  have d2 := B4.out.cell 2
  have d3 := B4.out.cell 3
  have d4 := B4.out.cell 4
  have d5 := B4.out.cell 5
  have d6 := B4.out.cell 6
  have d7 := B4.out.cell 7
  clear Hv b4 k4 v4
  go_wp2_with fail
  refine (same_a _ _ _ _ a a _ V4.out W4.out (Nat.le_refl _) (Nat.le_refl _) (by omega) (by omega) (by omega) (by omega) (by omega) (by omega)).mono ?_
  rintro e w5 ⟨rfl, hK5⟩
  rw [HSm.out]
  have K5 := Lib.hid (K4.out.trans hK5)
  have E5 := Lib.hid (HE.out.kp K5.out (by simp))
  clear hK5 d0 d1 d2 d3 d4 d5 d6 d7 e0 e1 e2 e3 e4 e5 e6 e7
  go_wp2_with fail
  refine (awake_any _ E5.out).mono ?_
  rintro e w6 ⟨rfl, hK6⟩
  have K6 := Lib.hid (K5.out.trans hK6)
  clear hK6
  go_wp2_with fail
  go_ret
  exact ⟨rfl, K6.out⟩
end Ad
end Go.Proofs.YtonbkedjlbhpfaaGreatDoor
