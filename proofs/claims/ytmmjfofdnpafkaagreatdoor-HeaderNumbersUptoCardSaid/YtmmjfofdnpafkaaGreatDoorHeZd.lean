/- The reference's SameTexts (dialtoneref03) of the same texts, and the law HeaderNumbers. A text has at most 2^20 bytes. -/
import Derived.Test.YtmmjfofdnpafkaaGreatDoorHeZc
import Derived.Test.YtmmjfofdnpafkaaGreatDoorM13
namespace Go.Proofs.YtmmjfofdnpafkaaGreatDoor
namespace Ad
open Go.RowKit Lx

/-- Where texts lie. -/
def TxAt (w : World) (A : Option Addr) (xs : List (List UInt8)) : Prop := ∀ (j : Nat) z, xs[j]? = some z → ∃ g, A = some ⟨g, 0, none⟩ ∧ g < w.heap.size ∧ w.cell? ⟨g, j, none⟩ = some (.string (Txt z))
theorem TxAt.kp {w w' : World} {A : Option Addr} {xs : List (List UInt8)} (h : TxAt w A xs) (k : Kp [] w w') : TxAt w' A xs := fun j z hz => by
  obtain ⟨g, hA, hg, hc⟩ := h j z hz
  exact ⟨g, hA, Nat.lt_of_lt_of_le hg k.size, (k.cell (p := ⟨g, j, none⟩) hg (by simp)).trans hc⟩
theorem txAt_of {w : World} {B : Nat} {v : Value} {xs : List (List UInt8)} (h : w.ownsRow B 9 1 v xs.length (tkc xs)) : ∃ A c, v = .slice A xs.length c ∧ TxAt w A xs := by
  by_cases h0 : xs = []
  · subst h0
    rcases h.2 with ⟨rfl, _⟩ | ⟨g, cap, cur, hv, _⟩
    · exact ⟨none, 0, rfl, fun j z hz => by simp at hz⟩
    · exact ⟨_, cap, hv, fun j z hz => by simp at hz⟩
  · rcases h.2 with ⟨_, hl⟩ | ⟨g, cap, cur, hv, _⟩
    · exact absurd (List.eq_nil_of_length_eq_zero hl) h0
    · subst hv
      refine ⟨_, cap, rfl, fun j z hz => ⟨g, rfl, (h.lt g rfl).2, ?_⟩⟩
      have hj := (List.getElem?_eq_some_iff.1 hz).1
      rw [h.cellAt j (by omega)]
      unfold tkc
      rw [List.getElem?_map, hz]; rfl
set_option maxRecDepth 100000 in
set_option maxHeartbeats 4000000 in
theorem rsame_txt (xs : List (List UInt8)) (A D : Option Addr) (c d n : Nat) (w : World) (hn : xs.length = n) (hn2 : n ≤ 2097152) (hA : TxAt w A xs) (hD : TxAt w D xs) :
    Calls Tryz.prog 33 #[.slice A n c, .slice D n d] w (BoK true w) := by
  have HA := Lib.hid hA
  have HD := Lib.hid hD
  have Hn := Lib.hid hn
  have bn : ((n : Int) == (n : Int)) = true := beq_self_eq_true _
  clear hA hD hn
  go_enter Tryz.func33, Tryz.ntmps33
  go_wp2_with fail
  go_loopw [5] (fun i wr => ∃ j : Nat, j ≤ n ∧ i = .int .i64 j ∧ Kp [] w wr) (fun i _ => n - (intOf i).toNat)
  case atStart => exact ⟨0, by omega, rfl, Kp.refl _ _⟩
  case round =>
    obtain ⟨j, hj, rfl, hK⟩ := hrel
    have HK := Lib.hid hK
    clear hK
    by_cases hlt : j < n
    · obtain ⟨z, hz⟩ : ∃ z, xs[j]? = some z := ⟨xs[j]'(by rw [Hn.out]; exact hlt), List.getElem?_eq_getElem _⟩
      obtain ⟨g, rfl, hg, c0⟩ := (HA.out.kp HK.out) j z hz
      obtain ⟨g2, rfl, hg2, c1⟩ := (HD.out.kp HK.out) j z hz
      have bE : ((Txt z).toList == (Txt z).toList) = true := beq_self_eq_true _
      clear hz hg hg2
      go_upto_region 6 with fail
      go_quiet (fail)
      go_wp2_with fail
      go_roundw
      case rel => exact ⟨j + 1, by omega, by go_num, HK.out.drewN _⟩
      case measure => simp [intOf]; omega
    · go_wp2_with fail
      go_ret
      exact ⟨rfl, HK.out⟩
theorem listR_len (l : List UInt8) : (listR l).1.length ≤ l.length + 1 := by
  have h := spF_len2 l 44
  unfold listR
  split
  · exact Nat.zero_le _
  · split
    · exact Nat.zero_le _
    · simpa using h
set_option maxRecDepth 100000 in
set_option maxHeartbeats 8000000 in
theorem hnumbers_law (s : ByteArray) (w : World) (hs : s.size ≤ 1048576) (H : HEnv w) : Calls Tryz.prog 5 #[.string s] w (BoK true w) := by
  have hll := listR_len s.data.toList
  rw [len_list] at hll
  obtain ⟨a, b, x, h1⟩ : ∃ a b c, cseqR s.data.toList = (a, b, c) := ⟨_, _, _, rfl⟩
  have HC1 := Lib.hid (fun wz => (by have h := cseq_any s wz (by omega); rw [h1] at h; exact h : Calls Tryz.prog 25 #[.string s] wz (LeP (a, b, x) wz)))
  have HC2 := Lib.hid (fun wz => (by have h := rcseq_any s wz hs; rw [h1] at h; exact h : Calls Tryz.prog 26 #[.string s] wz (LeP (a, b, x) wz)))
  obtain ⟨p, q, t, y, h2⟩ : ∃ a b c d, rckR s.data.toList = (a, b, c, d) := ⟨_, _, _, _, rfl⟩
  have HR1 := Lib.hid (fun wz => (by have h := hrack_any s wz hs; rw [h2] at h; exact h : Calls Tryz.prog 27 #[.string s] wz (RaE (p, q, t, y) wz)))
  have HR2 := Lib.hid (fun wz => (by have h := rrack_any s wz hs; rw [h2] at h; exact h : Calls Tryz.prog 28 #[.string s] wz (RaE (p, q, t, y) wz)))
  have HN1 := Lib.hid (fun wz => hnumber_any s wz hs)
  have HN2 := Lib.hid (fun wz => rnumber3_any s wz hs)
  unfold NuE at HN1 HN2
  obtain ⟨nn, h3⟩ : ∃ n, numN (trS s.data.toList) = n := ⟨_, rfl⟩
  obtain ⟨ne, h4⟩ : ∃ n, numE (trS s.data.toList) = n := ⟨_, rfl⟩
  rw [h3, h4] at HN1 HN2
  obtain ⟨xs, z, h5⟩ : ∃ a b, listR s.data.toList = (a, b) := ⟨_, _, rfl⟩
  have HL1 := Lib.hid (fun wz => (by have h := list_any s wz hs; rw [h5] at h; exact h : Calls Tryz.prog 31 #[.string s] wz (LtP (xs, z) wz)))
  have HL2 := Lib.hid (fun wz => (by have h := rlist3_any s wz hs; rw [h5] at h; exact h : Calls Tryz.prog 32 #[.string s] wz (LtP (xs, z) wz)))
  rw [h5] at hll
  dsimp only at hll
  have HA := Lib.hid (fun wz (h : HEnv wz) => hawake_any wz h)
  have HE := Lib.hid H
  have e1 : (a == a) = true := beq_self_eq_true _
  have e2 : (x == x) = true := beq_self_eq_true _
  have e3 : (p == p) = true := beq_self_eq_true _
  have e4 : (q == q) = true := beq_self_eq_true _
  have e5 : (y == y) = true := beq_self_eq_true _
  have e6 : (nn == nn) = true := beq_self_eq_true _
  have e7 : (ne == ne) = true := beq_self_eq_true _
  have e8 : (z == z) = true := beq_self_eq_true _
  have K0 := Lib.hid (Kp.refl [] w)
  clear h1 h2 h3 h4 h5 H
  go_enter Tryz.func5, Tryz.ntmps5
  go_wp2_with fail
  refine (HC1.out _).mono ?_
  rintro e w1 ⟨rfl, hK⟩
  have K1 := Lib.hid (K0.out.trans hK)
  clear hK
  try dsimp only
  go_wp2_with fail
  refine (HC2.out _).mono ?_
  rintro e w2 ⟨rfl, hK⟩
  have K2 := Lib.hid (K1.out.trans hK)
  clear hK
  try dsimp only
  go_wp2_with fail
  refine (HR1.out _).mono ?_
  rintro e w3 ⟨rfl, hK⟩
  have K3 := Lib.hid (K2.out.trans hK)
  clear hK
  try dsimp only
  go_wp2_with fail
  refine (HR2.out _).mono ?_
  rintro e w4 ⟨rfl, hK⟩
  have K4 := Lib.hid (K3.out.trans hK)
  clear hK
  try dsimp only
  go_wp2_with fail
  refine (HN1.out _).mono ?_
  rintro e w5 ⟨rfl, hK⟩
  have K5 := Lib.hid (K4.out.trans hK)
  clear hK
  try dsimp only
  go_wp2_with fail
  refine (HN2.out _).mono ?_
  rintro e w6 ⟨rfl, hK⟩
  have K6 := Lib.hid (K5.out.trans hK)
  clear hK
  try dsimp only
  go_wp2_with fail
  refine (HL1.out _).mono ?_
  rintro e w7 ⟨v, rfl, hown, hK⟩
  have K7 := Lib.hid (K6.out.trans hK)
  dsimp only at hown ⊢
  obtain ⟨A, c, rfl, hA⟩ := txAt_of hown
  have TA := Lib.hid hA
  clear hK hown hA
  obtain ⟨n, hn⟩ : ∃ n, xs.length = n := ⟨_, rfl⟩
  rw [hn]
  go_wp2_with fail
  refine (HL2.out _).mono ?_
  rintro e w8 ⟨v, rfl, hown, hK⟩
  have K8 := Lib.hid (K7.out.trans hK)
  have TA2 := Lib.hid (TA.out.kp hK)
  dsimp only at hown ⊢
  obtain ⟨D, d, rfl, hD⟩ := txAt_of hown
  have TD := Lib.hid hD
  clear hK hown hD
  rw [hn]
  have HS := Lib.hid (rsame_txt xs A D c d n w8 hn (by omega) TA2.out TD.out)
  clear hn
  go_wp2_with fail
  refine HS.out.mono ?_
  rintro e w9 ⟨rfl, hK⟩
  have K9 := Lib.hid (K8.out.trans hK)
  clear hK
  go_wp2_with fail
  refine (HA.out _ (HE.out.kp K9.out (by simp))).mono ?_
  rintro e wA ⟨rfl, hK⟩
  have KA := Lib.hid (K9.out.trans hK)
  clear hK
  try dsimp only
  go_wp2_with fail
  go_ret
  exact ⟨rfl, KA.out⟩
end Ad
end Go.Proofs.YtmmjfofdnpafkaaGreatDoor
