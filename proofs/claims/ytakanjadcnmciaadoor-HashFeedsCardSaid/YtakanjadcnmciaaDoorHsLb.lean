/- The law of HashBack (layer 6): it returns true. Bytes and a text; the table of constants holds what the program's text says. -/
import Derived.Test.YtakanjadcnmciaaDoorHsLh
namespace Go.Proofs.YtakanjadcnmciaaDoor
namespace Hs
open Go.RowKit Ad

theorem conv_in {w : World} {A : Option Addr} {l : List UInt8} (c : Nat) (h : ByIn w A l) : (convert 22 9 (.slice A l.length c)).run Tryd.prog w = .ok (.string ⟨l.toArray⟩) w := by
  rcases h with rfl | ⟨b, o, rfl, _, hc⟩
  · cases A with
    | none => exact Lib.run_convert_nil_bytes w _ _ 5 c Tryd.underlying22 Tryd.underlying5 Tryd.underlying9
    | some a => exact run_convert_bytes_back w _ _ 5 a c [] Tryd.underlying22 Tryd.underlying5 Tryd.underlying9 (fun j hj => absurd hj (by simp))
  · exact run_convert_bytes_back w _ _ 5 _ c l Tryd.underlying22 Tryd.underlying5 Tryd.underlying9 (fun j hj => by rw [Addr.add_mid]; exact hc j _ (List.getElem?_eq_getElem hj))
theorem own_in {w : World} {B : Nat} {v : Value} {l : List UInt8} (h : w.ownsRow B 5 1 v l.length (Lib.byteCells l)) : ∃ A c, v = .slice A l.length c ∧ l.length ≤ c ∧ ByIn w A l := by
  rcases h.2 with ⟨rfl, h0⟩ | ⟨g, cap, cur, rfl, hB, hg, hn, hc, hs, htk⟩
  · have : l = [] := List.eq_nil_of_length_eq_zero h0
    subst this
    exact ⟨none, 0, rfl, Nat.le_refl _, .inl rfl⟩
  · refine ⟨_, _, rfl, hn, .inr ⟨g, 0, rfl, Blk.lt (show Blk w g _ cur from hg), fun i x hi => ?_⟩⟩
    have hl := (List.getElem?_eq_some_iff.1 hi).1
    rw [Nat.zero_add, cell_of_row w g i cur _ (0, 0) hg]
    have : (cur.toList.take (l.length * 1))[i]? = some (.int .u8 (x.toNat : Int)) := by
      rw [htk]
      unfold Lib.byteCells
      rw [List.getElem?_map, hi]
      rfl
    rw [List.getElem?_take, if_pos (by omega)] at this
    simpa using this
theorem unhex_len : ∀ (n : Nat) (s y : List UInt8), s.length ≤ n → unhex s = some y → y.length * 2 = s.length := by
  intro n
  induction n with
  | zero =>
    intro s y hl h
    obtain rfl : s = [] := List.eq_nil_of_length_eq_zero (by omega)
    injection h with h
    rw [← h]; rfl
  | succ n ih =>
    intro s y hl h
    match s, hl, h with
    | [], _, h =>
      injection h with h
      rw [← h]; rfl
    | [_], _, h => cases h
    | a :: b :: t, hl, h =>
      unfold unhex at h
      split at h
      · rename_i x z r h1 h2 h3
        injection h with h
        simp only [List.length_cons] at hl
        have h4 := ih t r (by omega) h3
        rw [← h]
        simp only [List.length_cons]
        omega
      · cases h
set_option maxRecDepth 100000 in
set_option maxHeartbeats 1000000 in
theorem hback_law (l : List UInt8) (A : Option Addr) (c : Nat) (s : ByteArray) (w : World) (hA : ByIn w A l) (E : KE w) (hl : l.length ≤ 9223372036854775807) (hs : s.size ≤ 9223372036854775807) :
    Calls Tryd.prog 9 #[.slice A l.length c, .string s] w (BoK true w) := by
  have HE := Lib.hid E
  have HA := Lib.hid hA
  have HL := Lib.hid (fun wz (Ez : KE wz) => lives_any wz Ez)
  clear E hA
  by_cases h1 : 4000 < l.length
  · have t1 : (4000 : Int) < (l.length : Int) := by omega
    go_enter Tryd.func9, Tryd.ntmps9
    go_wp2_with fail
    refine (HL.out _ HE.out).mono ?_
    rintro e wz ⟨rfl, hKz⟩
    go_wp2_with fail
    go_ret
    exact ⟨rfl, hKz⟩
  · by_cases h2 : 4000 < s.size
    · have t1 : ¬ (4000 : Int) < (l.length : Int) := by omega
      have t2 : (4000 : Int) < (s.size : Int) := by omega
      go_enter Tryd.func9, Tryd.ntmps9
      go_wp2_with fail
      refine (HL.out _ HE.out).mono ?_
      rintro e wz ⟨rfl, hKz⟩
      go_wp2_with fail
      go_ret
      exact ⟨rfl, hKz⟩
    · have t1 : ¬ (4000 : Int) < (l.length : Int) := by omega
      have t2 : ¬ (4000 : Int) < (s.size : Int) := by omega
      obtain ⟨M, hM⟩ : ∃ M, 2 * l.length = M := ⟨_, rfl⟩
      have m0 : (2 : Int) * (l.length : Int) = (M : Int) := by omega
      have m1 : IntKind.i64.wrap (M : Int) = (M : Int) := IntWalk.i64_in _ (by omega)
      obtain ⟨X, hX⟩ : ∃ X : ByteArray, (⟨(hex l).toArray⟩ : ByteArray) = X := ⟨_, rfl⟩
      have hXd : X.data.toList = hex l := by rw [← hX]
      have hXs : X.size = M := by rw [← hX, ba_size, hex_len, hM]
      have hXu : unhex X.data.toList = some l := by rw [hXd, unhex_hex]
      have HX := Lib.hid hX
      have HXu := Lib.hid hXu
      have HXs := Lib.hid hXs
      have hM4 : M ≤ 8000 := by omega
      clear hM hX hXd hXs hXu
      go_enter Tryd.func9, Tryd.ntmps9
      go_wp2_with fail
      refine (phex_any l A c _ HA.out (by omega)).mono ?_
      rintro e w1 ⟨rfl, hB1⟩
      rw [HX.out]
      have HK1 := Lib.hid (kp_of_below hB1)
      clear hB1
      go_wp2_with fail
      refine (punhex_any X _ (by rw [HXs.out]; omega)).mono ?_
      rintro e w2 ⟨v, rfl, hown, hB2⟩
      rw [HXu.out] at hown ⊢
      dsimp only [Option.isSome, Option.getD] at hown ⊢
      have HK2 := Lib.hid (HK1.out.trans (kp_of_below hB2))
      have HO2 := Lib.hid hown
      have hc1 := conv_row hown
      have hc2 := conv_in c (byin_kp HA.out HK2.out)
      clear hown hB2
      go_wp2_with fail
      refine (phex_any l A c _ (byin_kp HA.out HK2.out) (by omega)).mono ?_
      rintro e w3 ⟨rfl, hB3⟩
      rw [HX.out]
      have HK3 := Lib.hid (HK2.out.trans (kp_of_below hB3))
      have xs := HXs.out
      clear hB3 hc1 hc2
      go_wp2_with fail
      refine (punhex_any s _ (by omega)).mono ?_
      rintro e w4 ⟨y, rfl, hown, hB4⟩
      have HK4 := Lib.hid (HK3.out.trans (kp_of_below hB4))
      clear hB4
      cases hu : unhex s.data.toList with
      | none =>
        rw [hu] at hown
        dsimp only [Option.isSome, Option.getD] at hown ⊢
        obtain ⟨A4, c4, rfl, hc4, hA4⟩ := own_in (l := []) hown
        clear hown hu
        go_wp2_with fail
        refine (HL.out _ (HE.out.kp HK4.out (by simp))).mono ?_
        rintro e wz ⟨rfl, hKz⟩
        go_wp2_with fail
        go_ret
        exact ⟨rfl, HK4.out.trans hKz⟩
      | some Y =>
        rw [hu] at hown
        dsimp only [Option.isSome, Option.getD] at hown ⊢
        obtain ⟨A4, c4, rfl, hc4, hA4⟩ := own_in hown
        have hYl : Y.length ≤ 4000 := by
          have := unhex_len s.data.toList.length s.data.toList Y (Nat.le_refl _) hu
          rw [Lx.len_list] at this
          omega
        have HXY := Lib.hid (hex_unhex s.data.toList.length s.data.toList Y (Nat.le_refl _) hu)
        have HA4 := Lib.hid hA4
        clear hown hu hA4 hc4
        go_wp2_with fail
        refine (phex_any Y A4 c4 _ HA4.out (by omega)).mono ?_
        rintro e w5 ⟨rfl, hB5⟩
        have HK5 := Lib.hid (HK4.out.trans (kp_of_below hB5))
        clear hB5
        rw [HXY.out]
        go_wp2_with fail
        refine (rlower_any s _ (by omega)).mono ?_
        rintro e w6 ⟨rfl, hB6⟩
        have HK6 := Lib.hid (HK5.out.trans (kp_of_below hB6))
        clear hB6
        go_wp2_with fail
        refine (HL.out _ (HE.out.kp HK6.out (by simp))).mono ?_
        rintro e wz ⟨rfl, hKz⟩
        go_wp2_with fail
        go_ret
        exact ⟨rfl, HK6.out.trans hKz⟩
end Hs
end Go.Proofs.YtakanjadcnmciaaDoor
