/- Contracts of package address: the parts of a URI. -/
import Derived.Test.YtmmjfofdnpafkaaGreatDoorM4
import Derived.Test.YtmmjfofdnpafkaaGreatDoorM2
import Derived.Deep.LoopGhost
/- Contracts of the parts of a URI of package address: fits, known, scheme, user. A text has at most 2^21 bytes. -/
namespace Go.Proofs.YtmmjfofdnpafkaaGreatDoor
namespace Ad
open Go.RowKit Lx

theorem Cur.far {b k : Nat} {s : ByteArray} {w : World} (h : Cur b s k w) {p : Addr} (hp : b ≠ p.block) (u : Value) : Cur b s k (w.setCell p u) := Blk.far h hp u
/-- A URI's block. -/
def Urb (w : World) (bu : Nat) (S U H P vp vh : Value) : Prop := Blk w bu 24 #[S, U, H, P, vp, vh]
/-- Behind a part: the error, the cursor, the URI's fields. -/
def PtP (b bu : Nat) (s : ByteArray) (k' : Nat) (x : Int) (F : World → Prop) (w : World) (e : Ending) (w' : World) : Prop :=
  e = .returned (.int .u8 x) ∧ Cur b s k' w' ∧ Kp [b, bu] w w' ∧ F w'
def knB (l : List UInt8) : Bool := l == sipL || (l == sipsL || l == telL)
set_option maxRecDepth 100000 in
set_option maxHeartbeats 400000 in
theorem known_any (l : List UInt8) (w : World) : Calls Tryz.prog 209 #[.string (Txt l)] w (Ret (.bool (knB l)) w) := by
  have e : (Txt l).toList = l := by rw [Lib.toList_data]; rfl
  have HE := Lib.hid e
  clear e
  go_enter Tryz.func209, Tryz.ntmps209
  go_wp2_with fail
  all_goals
    rw [HE.out] at *
    go_ret
    refine ⟨ret_bool ?_, rfl⟩
    simp_all [knB, sipL, sipsL, telL, Bool.or_assoc]
theorem lower_n (s : ByteArray) (w : World) (hs : s.size ≤ 2097152) :
    Calls Tryz.prog 113 #[.string s] w (RetNew (lowL s.data.toList) w) := lower_any s w (by omega)
/-- The scheme's answer: the offset and the error. -/
def schR (l : List UInt8) : Nat × Int :=
  if endP (· == 58) l 0 = l.length then (l.length, 5) else if knB (lowL (l.take (endP (· == 58) l 0))) then (endP (· == 58) l 0 + 1, 0) else (0, 15)
/-- What the scheme's field holds behind a good answer. -/
def SchF (bu : Nat) (l : List UInt8) (x : Int) (U H P vp vh : Value) (w : World) : Prop :=
  ∃ S, Urb w bu (.string (Txt S)) U H P vp vh ∧ (x = 0 → S = lowL (l.take (endP (· == 58) l 0)))
theorem take_slc (s : ByteArray) (n : Nat) : s.extract 0 n = Txt (s.data.toList.take n) := by rw [slc_txt]; rfl
set_option maxRecDepth 100000 in
set_option maxHeartbeats 1000000 in
theorem scheme_k (b bu k : Nat) (s : ByteArray) (S : List UInt8) (U H P vp vh : Value) (w : World) (hs : s.size ≤ 2097152) (C : Cur b s k w) (B : Urb w bu (.string (Txt S)) U H P vp vh) (hne : b ≠ bu) :
    Calls Tryz.prog 200 #[.pointer (some ⟨b, 0, none⟩), .pointer (some ⟨bu, 0, none⟩)] w (PtP b bu s (schR s.data.toList).1 (schR s.data.toList).2 (SchF bu s.data.toList (schR s.data.toList).2 U H P vp vh) w) := by
  have c0 := C.c0
  have HC := Lib.hid C
  have HB := Lib.hid B
  clear C B
  obtain ⟨n, hn⟩ : ∃ n, endP (· == 58) s.data.toList 0 = n := ⟨_, rfl⟩
  have hns : n ≤ s.size := by rw [← hn, ← len_list]; exact endP_le _ _ _ (Nat.zero_le _)
  have HN := Lib.hid hn
  by_cases h : n = s.size
  · have HV := Lib.hid (by unfold schR; rw [hn, len_list, if_pos h] : schR s.data.toList = (s.size, 5))
    have H9 := Lib.hid h
    have bn : ((n : Int) == (s.size : Int)) = true := by rw [h]; simp
    clear h hn
    rw [HV.out]
    go_enter Tryz.func200, Tryz.ntmps200
    go_wp2_with fail
    have hend := end_m (· == 58) s ⟨#[58]⟩ 0 w hs (Nat.zero_le _) m58
    rw [HN.out] at hend
    refine hend.mono ?_
    rintro e w2 ⟨rfl, rfl⟩
    clear hend
    go_wp2_with fail
    refine (fail_k b k n 5 s _ HC.out).mono ?_
    rintro e w1 ⟨rfl, C1, hK1⟩
    have HC1 := Lib.hid C1
    have HB1 := Lib.hid (HB.out.kp hK1 (by simp; omega))
    clear C1
    go_wp2_with fail
    go_ret
    exact ⟨rfl, by have h := HC1.out; rw [H9.out] at h; exact h, hK1.mono (by simp), S, HB1.out, fun h => by simp at h⟩
  · have bn : ((n : Int) == (s.size : Int)) = false := by rw [beq_eq_false_iff_ne]; omega
    have hlt : n < s.size := by omega
    have HX := Lib.hid (take_slc s n)
    obtain ⟨y, hy⟩ : ∃ y, s.data.toList.take n = y := ⟨_, rfl⟩
    have hyl : y.length ≤ s.size := by rw [← hy]; simp; omega
    rw [hy] at HX
    obtain ⟨z, hz⟩ : ∃ z, lowL y = z := ⟨_, rfl⟩
    have HZ := Lib.hid hz
    cases hk : knB z
    · have HV := Lib.hid (by unfold schR; rw [hn, len_list, if_neg h, hy, hz, if_neg (by rw [hk]; decide)] : schR s.data.toList = (0, 15))
      have HK := Lib.hid hk
      clear h hn hy hz hk
      rw [HV.out]
      go_enter Tryz.func200, Tryz.ntmps200
      go_wp2_with fail
      have hend := end_m (· == 58) s ⟨#[58]⟩ 0 w hs (Nat.zero_le _) m58
      rw [HN.out] at hend
      refine hend.mono ?_
      rintro e w2 ⟨rfl, rfl⟩
      clear hend
      go_wp2_with fail
      rw [HX.out]
      refine (lower_n (Txt y) _ (by rw [txt_size]; omega)).mono ?_
      rintro e w1 ⟨rfl, hB1⟩
      rw [txt_list, HZ.out]
      have K1 := (Kp.refl [b, bu] w).below hB1
      have HB1 := Lib.hid (HB.out.below hB1 HB.out.lt)
      have HC1 := Lib.hid (HC.out.below hB1)
      have f0 := HB1.out.frozen 0
      have d0 := HB1.out.cell 0
      go_wp2_with fail
      refine (known_any z _).mono ?_
      rintro e w3 ⟨rfl, rfl⟩
      rw [HK.out]
      have K2 := K1.setCell (p := ⟨bu, 0, none⟩) (.inl (by simp)) (.string ⟨z.toArray⟩)
      have HC2 := Lib.hid (Cur.far HC1.out (p := ⟨bu, 0, none⟩) hne (.string ⟨z.toArray⟩))
      have HB2 := Lib.hid (HB1.out.set_ 0 (.string ⟨z.toArray⟩))
      go_wp2_with fail
      refine (fail_k b k 0 15 s _ HC2.out).mono ?_
      rintro e w4 ⟨rfl, C4, hK4⟩
      have HC4 := Lib.hid C4
      have HB4 := Lib.hid (HB2.out.kp hK4 (by simp; omega))
      have K4 := K2.to_ hK4 (by simp)
      clear C4
      go_wp2_with fail
      go_ret
      exact ⟨rfl, HC4.out, K4, z, HB4.out, fun h => by simp at h⟩
    · have HV := Lib.hid (by unfold schR; rw [hn, len_list, if_neg h, hy, hz, if_pos hk] : schR s.data.toList = (n + 1, 0))
      have HK := Lib.hid hk
      have HS := Lib.hid (by rw [hn, hy, hz] : lowL (s.data.toList.take (endP (· == 58) s.data.toList 0)) = z)
      clear h hn hy hz hk
      rw [HV.out]
      go_enter Tryz.func200, Tryz.ntmps200
      go_wp2_with fail
      have hend := end_m (· == 58) s ⟨#[58]⟩ 0 w hs (Nat.zero_le _) m58
      rw [HN.out] at hend
      refine hend.mono ?_
      rintro e w2 ⟨rfl, rfl⟩
      clear hend
      go_wp2_with fail
      rw [HX.out]
      refine (lower_n (Txt y) _ (by rw [txt_size]; omega)).mono ?_
      rintro e w1 ⟨rfl, hB1⟩
      rw [txt_list, HZ.out]
      have K1 := (Kp.refl [b, bu] w).below hB1
      have HB1 := Lib.hid (HB.out.below hB1 HB.out.lt)
      have HC1 := Lib.hid (HC.out.below hB1)
      have f0 := HB1.out.frozen 0
      have d0 := HB1.out.cell 0
      go_wp2_with fail
      refine (known_any z _).mono ?_
      rintro e w3 ⟨rfl, rfl⟩
      rw [HK.out]
      have K2 := K1.setCell (p := ⟨bu, 0, none⟩) (.inl (by simp)) (.string ⟨z.toArray⟩)
      have HC2 := Lib.hid (Cur.far HC1.out (p := ⟨bu, 0, none⟩) hne (.string ⟨z.toArray⟩))
      have HB2 := Lib.hid (HB1.out.set_ 0 (.string ⟨z.toArray⟩))
      have c1 := HC2.out.c1
      have f1 := HC2.out.f1
      go_wp2_with fail
      go_ret
      exact ⟨rfl, by have h := HC2.out.set (n + 1); rwa [Int.natCast_add] at h, K2.setCell (p := ⟨b, 1, none⟩) (.inl (by simp)) _, z, HB2.out.far (p := ⟨b, 1, none⟩) (Ne.symm hne) _, fun _ => HS.out.symm⟩
/-- What the user's field holds behind a part. -/
def UsrF (bu : Nat) (r : List UInt8 × Nat × Int) (S H P vp vh : Value) (w : World) : Prop :=
  ∃ U, Urb w bu S (.string (Txt U)) H P vp vh ∧ (r.2.2 = 0 → U = r.1)
theorem usrR_wd (l : List UInt8) (k n : Nat) (hn : endP (· == 64) l k = n) (c : List UInt8) (k2 : Nat) (x : Int) (h : wdR 0 l k n = (c, k2, x)) :
    usrR l k = if n = l.length then ([], k, 0) else if x ≠ 0 then ([], k2, if atB l k2 = 58 then 15 else 5) else if c = [] then ([], n, 5) else (c, n + 1, 0) := by
  unfold usrR
  rw [hn]
  unfold wdR at h
  split at h
  · rename_i h1
    injection h with h2 h3
    injection h3 with h3 h4
    subst h2 h3 h4
    rw [if_pos h1, if_pos (show (5 : Int) ≠ 0 by decide)]
  · rename_i h1
    injection h with h2 h3
    injection h3 with h3 h4
    subst h2 h3 h4
    rw [if_neg h1, if_neg (show ¬ ((0 : Int) ≠ 0) by decide)]
set_option maxRecDepth 100000 in
set_option maxHeartbeats 1000000 in
theorem user_k (b bu k : Nat) (s : ByteArray) (S H P vp vh : Value) (w : World) (hs : s.size ≤ 2097152) (hk : k ≤ s.size) (C : Cur b s k w) (B : Urb w bu S (.string (Txt [])) H P vp vh) (E : Env w) (hne : b ≠ bu) (hb7 : 7 ≤ b) :
    Calls Tryz.prog 201 #[.pointer (some ⟨b, 0, none⟩), .pointer (some ⟨bu, 0, none⟩)] w (PtP b bu s (usrR s.data.toList k).2.1 (usrR s.data.toList k).2.2 (UsrF bu (usrR s.data.toList k) S H P vp vh) w) := by
  have c0 := C.c0
  have c1 := C.c1
  have HC := Lib.hid C
  have HB := Lib.hid B
  have HE := Lib.hid E
  clear C B E
  obtain ⟨n, hn⟩ : ∃ n, endP (· == 64) s.data.toList k = n := ⟨_, rfl⟩
  have hns : n ≤ s.size := by rw [← hn, ← len_list]; exact endP_le _ _ _ (by rw [len_list]; exact hk)
  have hkn : k ≤ n := by rw [← hn]; exact endP_ge _ _ _
  have HN := Lib.hid hn
  obtain ⟨c, k2, x, hx⟩ : ∃ c k2 x, wdR 0 s.data.toList k n = (c, k2, x) := ⟨_, _, _, rfl⟩
  have hk2 : k2 ≤ n := by have := wdR_bd 0 s.data.toList k n hkn; rw [hx] at this; exact this
  have HX := Lib.hid hx
  have hV := usrR_wd s.data.toList k n hn c k2 x hx
  rw [len_list] at hV
  clear hx
  by_cases h : n = s.size
  · have HV := Lib.hid (hV.trans (by rw [if_pos h]))
    have bn : ((n : Int) == (s.size : Int)) = true := by rw [h]; simp
    clear h hn hV
    rw [HV.out]
    go_enter Tryz.func201, Tryz.ntmps201
    go_wp2_with fail
    go_quiet ((go_at_call 213; exact Calls.quiet_of_same (end_q (· == 64) s ⟨#[64]⟩ k _ hs hk m64)))
    rw [HN.out]
    obtain ⟨w2, hw2⟩ : ∃ w2, w.drewN nq = w2 := ⟨_, rfl⟩
    rw [hw2]
    have C2 : Cur b s k w2 := by rw [← hw2]; exact HC.out
    have K2 : Kp [b, bu] w w2 := by rw [← hw2]; exact (Kp.refl _ _).drewN _
    have B2 := Lib.hid (by rw [← hw2]; exact HB.out : Urb w2 bu S (.string (Txt [])) H P vp vh)
    clear hw2 c0 c1
    have c0 := C2.c0
    have H2 := Lib.hid C2
    clear C2
    go_wp2_with fail
    go_ret
    exact ⟨rfl, H2.out, K2, [], B2.out, fun _ => rfl⟩
  · have bn : ((n : Int) == (s.size : Int)) = false := by rw [beq_eq_false_iff_ne]; omega
    have hV := hV.trans (by rw [if_neg h])
    by_cases hx0 : x = 0
    · subst hx0
      have hk2n : k2 = n := by have := wdR_ok 0 s.data.toList k n (by rw [HX.out]); rw [HX.out] at this; exact this
      subst hk2n
      have hV := hV.trans (by rw [if_neg (by decide)])
      by_cases hc0 : c = []
      · have HV := Lib.hid (hV.trans (by rw [if_pos hc0]))
        have hemp : Txt c = ⟨#[]⟩ := by rw [hc0]; rfl
        have HP := Lib.hid hemp
        clear h hn hV hc0 hemp
        rw [HV.out]
        go_enter Tryz.func201, Tryz.ntmps201
        go_wp2_with fail
        go_quiet ((go_at_call 213; exact Calls.quiet_of_same (end_q (· == 64) s ⟨#[64]⟩ k _ hs hk m64)))
        rw [HN.out]
        obtain ⟨w2, hw2⟩ : ∃ w2, w.drewN nq = w2 := ⟨_, rfl⟩
        rw [hw2]
        have C2 : Cur b s k w2 := by rw [← hw2]; exact HC.out
        have K2 : Kp [b, bu] w w2 := by rw [← hw2]; exact (Kp.refl _ _).drewN _
        have B2 := Lib.hid (by rw [← hw2]; exact HB.out : Urb w2 bu S (.string (Txt [])) H P vp vh)
        have E2 := Lib.hid (by rw [← hw2]; exact HE.out.drewN nq : Env w2)
        clear hw2 c0 c1
        have c0 := C2.c0
        have H2 := Lib.hid C2
        clear C2
        go_wp2_with fail
        refine (word_k 0 b k k2 s _ hs hkn hns H2.out E2.out c k2 0 HX).mono ?_
        rintro e w3 ⟨rfl, C3, hK3⟩
        rw [HP.out]
        have HC3 := Lib.hid C3
        have HB3 := Lib.hid (B2.out.kp hK3 (by simp; omega))
        clear C3
        go_wp2_with fail
        go_ret
        exact ⟨rfl, HC3.out, K2.to_ hK3 (by simp), [], HB3.out, fun h => by simp at h⟩
      · have HV := Lib.hid (hV.trans (by rw [if_neg hc0]))
        have hlen : c.length ≤ s.data.toList.length := by have := wdR_len 0 s.data.toList k k2; rw [HX.out] at this; exact this
        rw [len_list] at hlen
        have hxl : 1 ≤ (Txt c).size := by rw [txt_size]; cases c with | nil => exact absurd rfl hc0 | cons a b => simp
        have he := isEmpty_no _ hxl
        have hne' := toList_ne _ hxl
        have hlt : k2 < s.size := by omega
        clear h hn hV hc0
        rw [HV.out]
        go_enter Tryz.func201, Tryz.ntmps201
        go_wp2_with fail
        go_quiet ((go_at_call 213; exact Calls.quiet_of_same (end_q (· == 64) s ⟨#[64]⟩ k _ hs hk m64)))
        rw [HN.out]
        obtain ⟨w2, hw2⟩ : ∃ w2, w.drewN nq = w2 := ⟨_, rfl⟩
        rw [hw2]
        have C2 : Cur b s k w2 := by rw [← hw2]; exact HC.out
        have K2 : Kp [b, bu] w w2 := by rw [← hw2]; exact (Kp.refl _ _).drewN _
        have B2 := Lib.hid (by rw [← hw2]; exact HB.out : Urb w2 bu S (.string (Txt [])) H P vp vh)
        have E2 := Lib.hid (by rw [← hw2]; exact HE.out.drewN nq : Env w2)
        clear hw2 c0 c1
        have c0 := C2.c0
        have H2 := Lib.hid C2
        clear C2
        go_wp2_with fail
        refine (word_k 0 b k k2 s _ hs hkn hns H2.out E2.out c k2 0 HX).mono ?_
        rintro e w3 ⟨rfl, C3, hK3⟩
        have HB3 := Lib.hid (B2.out.kp hK3 (by simp; omega))
        have c1 := C3.c1
        have f1 := C3.f1
        have u1 := HB3.out.cell 1
        have g1 := HB3.out.frozen 1
        have HC4 := Lib.hid (Cur.far C3 (p := ⟨bu, 1, none⟩) hne (.string (Txt c)))
        have HB4 := Lib.hid (HB3.out.set_ 1 (.string (Txt c)))
        have K4 := (K2.to_ hK3 (by simp)).setCell (p := ⟨bu, 1, none⟩) (.inl (by simp)) (.string (Txt c))
        clear C3
        have c1' := HC4.out.c1
        have f1' := HC4.out.f1
        go_wp2_with fail
        go_ret
        exact ⟨rfl, by have h := HC4.out.set (k2 + 1); rwa [Int.natCast_add] at h, K4.setCell (p := ⟨b, 1, none⟩) (.inl (by simp)) _, c, HB4.out.far (p := ⟨b, 1, none⟩) (Ne.symm hne) _, fun _ => rfl⟩
    · have bx : (x != 0) = true := by rw [bne_iff_ne]; exact hx0
      have HV := Lib.hid (hV.trans (by rw [if_pos hx0]))
      have hlt : k2 < s.size := by omega
      have hn58 : (nxt s.data.toList k2 == 58) = decide (atB s.data.toList k2 = 58) := by rw [nxt_eq _ _ _ (by decide) (by decide)]; rfl
      by_cases h58 : atB s.data.toList k2 = 58
      · have HV2 := Lib.hid (HV.out.trans (by rw [if_pos h58]))
        have t58 : (nxt s.data.toList k2 == 58) = true := by rw [hn58]; exact decide_eq_true h58
        have T58 := Lib.hid t58
        clear h hn hV hx0 hn58 h58 t58
        rw [HV2.out]
        go_enter Tryz.func201, Tryz.ntmps201
        go_wp2_with fail
        go_quiet ((go_at_call 213; exact Calls.quiet_of_same (end_q (· == 64) s ⟨#[64]⟩ k _ hs hk m64)))
        rw [HN.out]
        obtain ⟨w2, hw2⟩ : ∃ w2, w.drewN nq = w2 := ⟨_, rfl⟩
        rw [hw2]
        have C2 : Cur b s k w2 := by rw [← hw2]; exact HC.out
        have K2 : Kp [b, bu] w w2 := by rw [← hw2]; exact (Kp.refl _ _).drewN _
        have B2 := Lib.hid (by rw [← hw2]; exact HB.out : Urb w2 bu S (.string (Txt [])) H P vp vh)
        have E2 := Lib.hid (by rw [← hw2]; exact HE.out.drewN nq : Env w2)
        clear hw2 c0 c1
        have c0 := C2.c0
        have H2 := Lib.hid C2
        clear C2
        go_wp2_with fail
        refine (word_k 0 b k n s _ hs hkn hns H2.out E2.out c k2 x HX).mono ?_
        rintro e w3 ⟨rfl, C3, hK3⟩
        have HC3 := Lib.hid C3
        have HB3 := Lib.hid (B2.out.kp hK3 (by simp; omega))
        clear C3
        go_wp2_with fail
        refine (next_k b k2 s _ hs (by omega) HC3.out).mono ?_
        rintro e w4 ⟨rfl, C4, hK4⟩
        have t58 := T58.out
        have HC4 := Lib.hid C4
        have HB4 := Lib.hid (HB3.out.kp hK4 (by simp; omega))
        clear C4
        go_wp2_with fail
        go_ret
        exact ⟨rfl, HC4.out, K2.to_ (hK3.trans hK4) (by simp), [], HB4.out, fun h => by simp at h⟩
      · have HV2 := Lib.hid (HV.out.trans (by rw [if_neg h58]))
        have t58 : (nxt s.data.toList k2 == 58) = false := by rw [hn58]; exact decide_eq_false h58
        have T58 := Lib.hid t58
        have hx5 : x = 5 := by
          have hh := HX.out
          unfold wdR at hh
          split at hh
          · injection hh with _ h3; injection h3 with _ h4; exact h4.symm
          · injection hh with _ h3; injection h3 with _ h4; exact absurd h4.symm hx0
        have HX5 := Lib.hid hx5
        clear h hn hV hx0 hn58 h58 t58 hx5
        rw [HV2.out]
        go_enter Tryz.func201, Tryz.ntmps201
        go_wp2_with fail
        go_quiet ((go_at_call 213; exact Calls.quiet_of_same (end_q (· == 64) s ⟨#[64]⟩ k _ hs hk m64)))
        rw [HN.out]
        obtain ⟨w2, hw2⟩ : ∃ w2, w.drewN nq = w2 := ⟨_, rfl⟩
        rw [hw2]
        have C2 : Cur b s k w2 := by rw [← hw2]; exact HC.out
        have K2 : Kp [b, bu] w w2 := by rw [← hw2]; exact (Kp.refl _ _).drewN _
        have B2 := Lib.hid (by rw [← hw2]; exact HB.out : Urb w2 bu S (.string (Txt [])) H P vp vh)
        have E2 := Lib.hid (by rw [← hw2]; exact HE.out.drewN nq : Env w2)
        clear hw2 c0 c1
        have c0 := C2.c0
        have H2 := Lib.hid C2
        clear C2
        go_wp2_with fail
        refine (word_k 0 b k n s _ hs hkn hns H2.out E2.out c k2 x HX).mono ?_
        rintro e w3 ⟨rfl, C3, hK3⟩
        have HC3 := Lib.hid C3
        have HB3 := Lib.hid (B2.out.kp hK3 (by simp; omega))
        clear C3
        go_wp2_with fail
        refine (next_k b k2 s _ hs (by omega) HC3.out).mono ?_
        rintro e w4 ⟨rfl, C4, hK4⟩
        have t58 := T58.out
        have HC4 := Lib.hid C4
        have HB4 := Lib.hid (HB3.out.kp hK4 (by simp; omega))
        clear C4
        go_wp2_with fail
        go_ret
        exact ⟨ret_int (by rw [HX5.out]), HC4.out, K2.to_ (hK3.trans hK4) (by simp), [], HB4.out, fun h => by simp at h⟩
set_option maxRecDepth 100000 in
set_option maxHeartbeats 400000 in
theorem fits_k (b k : Nat) (s : ByteArray) (w : World) (hs : s.size ≤ 2097152) (C : Cur b s k w) :
    Calls Tryz.prog 199 #[.pointer (some ⟨b, 0, none⟩)] w (CuP b s (if 1024 < s.size then 1024 else k) (.int .u8 (if 1024 < s.size then 4 else 0)) w) := by
  have c0 := C.c0
  have HC := Lib.hid C
  clear C
  by_cases h : 1024 < s.size
  · have H1 := Lib.hid (if_pos h : (if 1024 < s.size then 1024 else k) = 1024)
    have H2 := Lib.hid (if_pos h : (if 1024 < s.size then (4 : Int) else 0) = 4)
    rw [H1.out, H2.out]
    go_enter Tryz.func199, Tryz.ntmps199
    go_wp2_with fail
    refine (fail_k b k 1024 4 s _ HC.out).mono ?_
    rintro e w1 ⟨rfl, C1, hK1⟩
    have HC1 := Lib.hid C1
    clear C1
    go_wp2_with fail
    go_ret
    exact ⟨rfl, HC1.out, hK1⟩
  · have H1 := Lib.hid (if_neg h : (if 1024 < s.size then 1024 else k) = k)
    have H2 := Lib.hid (if_neg h : (if 1024 < s.size then (4 : Int) else 0) = 0)
    rw [H1.out, H2.out]
    go_enter Tryz.func199, Tryz.ntmps199
    go_wp2_with fail
    go_ret
    exact ⟨rfl, HC.out, Kp.refl _ _⟩
end Ad
end Go.Proofs.YtmmjfofdnpafkaaGreatDoor
/- Contracts of the parts of a URI of package address: host, port, params, heads. A text has at most 2^21 bytes. -/
namespace Go.Proofs.YtmmjfofdnpafkaaGreatDoor
namespace Ad
open Go.RowKit Lx

/-- What the host's field holds behind a part. -/
def HstF (bu : Nat) (r : List UInt8 × Nat × Int) (S U P vp vh : Value) (w : World) : Prop :=
  ∃ H, Urb w bu S U (.string (Txt H)) P vp vh ∧ (r.2.2 = 0 → H = r.1)
theorem hstR_eq (l : List UInt8) (k t : Nat) (h : hstTo l k = t) : hstR l k = match hostO (slc l k t) with | some h => (h, t, 0) | none => ([], k, 5) := by unfold hstR; rw [h]; rfl
set_option maxRecDepth 100000 in
set_option maxHeartbeats 1000000 in
theorem host_k (b bu k : Nat) (s : ByteArray) (S U P vp vh : Value) (w : World) (hs : s.size ≤ 2097152) (hk : k ≤ s.size) (C : Cur b s k w) (B : Urb w bu S U (.string (Txt [])) P vp vh) (E : Env w) (hne : b ≠ bu) (hb7 : 7 ≤ b) :
    Calls Tryz.prog 202 #[.pointer (some ⟨b, 0, none⟩), .pointer (some ⟨bu, 0, none⟩)] w (PtP b bu s (hstR s.data.toList k).2.1 (hstR s.data.toList k).2.2 (HstF bu (hstR s.data.toList k) S U P vp vh) w) := by
  have c0 := C.c0
  have c1 := C.c1
  have HC := Lib.hid C
  have HB := Lib.hid B
  have HE := Lib.hid E
  clear C B E
  obtain ⟨n1, hn1⟩ : ∃ n, endP hendC s.data.toList k = n := ⟨_, rfl⟩
  have hns1 : n1 ≤ s.size := by rw [← hn1, ← len_list]; exact endP_le _ _ _ (by rw [len_list]; exact hk)
  have hkn1 : k ≤ n1 := by rw [← hn1]; exact endP_ge _ _ _
  have HN1 := Lib.hid hn1
  have h7u : Kp [b, bu] w w := Kp.refl _ _
  by_cases h91 : atB s.data.toList k = 91
  · have t91 : (nxt s.data.toList k == 91) = true := by rw [nxt_eq _ _ _ (by decide) (by decide), h91]; rfl
    have T91 := Lib.hid t91
    obtain ⟨n, hn⟩ : ∃ n, endP (· == 93) s.data.toList k = n := ⟨_, rfl⟩
    have HN := Lib.hid hn
    have hnk : k ≤ n := by rw [← hn]; exact endP_ge _ _ _
    have hns : n ≤ s.size := by rw [← hn, ← len_list]; exact endP_le _ _ _ (by rw [len_list]; exact hk)
    obtain ⟨m, hm⟩ : ∃ m, min (n + 1) s.size = m := ⟨_, rfl⟩
    have HX := Lib.hid (slc_txt s k m)
    have HV := Lib.hid (hstR_eq s.data.toList k m (by unfold hstTo; rw [if_pos h91, hn, len_list, hm]))
    have hkm : k ≤ m := by have := atB_lt s.data.toList k (by rw [h91]; decide); rw [len_list] at this; omega
    have hms : m ≤ s.size := by omega
    have HM := Lib.hid (by omega : min ((n : Int) + 1) (s.size : Int) = (m : Int))
    clear h91 t91 hn hn1 hm
    go_enter Tryz.func202, Tryz.ntmps202
    go_wp2_with fail
    go_quiet ((go_at_call 213; exact Calls.quiet_of_same (end_q hendC s ⟨#[58, 59, 63]⟩ k _ hs hk mHend)))
    rw [HN1.out]
    obtain ⟨w2, hw2⟩ : ∃ w2, w.drewN nq = w2 := ⟨_, rfl⟩
    rw [hw2]
    have C2 : Cur b s k w2 := by rw [← hw2]; exact HC.out
    have K2 : Kp [b, bu] w w2 := by rw [← hw2]; exact h7u.drewN _
    have B2 := Lib.hid (by rw [← hw2]; exact HB.out : Urb w2 bu S U (.string (Txt [])) P vp vh)
    have E2 := Lib.hid (by rw [← hw2]; exact HE.out.drewN nq : Env w2)
    clear hw2 c0 c1
    have H2 := Lib.hid C2
    clear C2
    go_wp2_with fail
    refine (next_k b k s _ hs hk H2.out).mono ?_
    rintro e w3 ⟨rfl, C3, hK3⟩
    have K3 := K2.to_ hK3 (by simp)
    have B3 := Lib.hid (B2.out.kp hK3 (by simp; omega))
    have E3 := Lib.hid (E2.out.kp hK3 (by simp; omega))
    have c0 := C3.c0
    have c1 := C3.c1
    have H3 := Lib.hid C3
    clear C3 hK3
    have t91 := T91.out
    go_wp2_with fail
    go_quiet ((go_at_call 213; exact Calls.quiet_of_same (end_q (· == 93) s ⟨#[93]⟩ k _ hs hk m93)))
    rw [HN.out, w64 n (by omega), HM.out]
    obtain ⟨w4, hw4⟩ : ∃ w4, w3.drewN nq = w4 := ⟨_, rfl⟩
    rw [hw4]
    have C4 : Cur b s k w4 := by rw [← hw4]; exact H3.out
    have K4 : Kp [b, bu] w w4 := by rw [← hw4]; exact K3.drewN _
    have B4 := Lib.hid (by rw [← hw4]; exact B3.out : Urb w4 bu S U (.string (Txt [])) P vp vh)
    have E4 : Env w4 := by rw [← hw4]; exact E3.out.drewN _
    clear hw4 c0 c1
    have c0 := C4.c0
    have c1 := C4.c1
    have H4 := Lib.hid C4
    clear C4
    go_wp2_with fail
    go_region_held3 (fun w' => w'.cell? ⟨b, 0, none⟩ = some (.string s) ∧ w'.cell? ⟨b, 1, none⟩ = some (.int .i64 k)) (go_keep)
      ((go_at_call 52; rw [HX.out]; refine (Host_any (Txt (slc s.data.toList k m)) _ (by rw [txt_size]; have := slc_le s.data.toList k m; omega) (Env.drewN E4 _)).mono ?_; rintro e w5 ⟨rfl, hB⟩; have C5 : Cur b s k w5 := Cur.below (Cur.drewN H4.out _) hB; have d0 := C5.c0; have d1 := C5.c1))
    have K5 : Kp [b, bu] w w5 := Kp.below (Kp.drewN K4 _) hB
    have B5 := Lib.hid (Blk.below (Blk.drewN B4.out _) hB (Nat.lt_of_lt_of_le B4.out.lt (Nat.le_refl _)))
    rw [txt_list]
    have c1' := C5.c1
    have f1' := C5.f1
    have HC5 := Lib.hid C5
    clear C5 d0 d1 c0 c1
    cases ho : hostO (slc s.data.toList k m) with
    | none =>
      have HR := Lib.hid (HV.out.trans (by rw [ho]))
      clear ho
      go_wp2_with fail
      go_ret
      rw [HR.out]
      exact ⟨rfl, HC5.out, K5, [], B5.out, fun h => by simp at h⟩
    | some h =>
      have HR := Lib.hid (HV.out.trans (by rw [ho]))
      have u2 := B5.out.cell 2
      have g2 := B5.out.frozen 2
      have B6 := Lib.hid (B5.out.set_ 2 (.string (Txt h)))
      have HC6 := Lib.hid (Cur.far HC5.out (p := ⟨bu, 2, none⟩) hne (.string (Txt h)))
      have c1'' := HC6.out.c1
      have f1'' := HC6.out.f1
      clear ho
      go_wp2_with fail
      go_ret
      rw [HR.out]
      exact ⟨rfl, HC6.out.set m, (K5.setCell (p := ⟨bu, 2, none⟩) (.inl (by simp)) _).setCell (p := ⟨b, 1, none⟩) (.inl (by simp)) _, h, B6.out.far (p := ⟨b, 1, none⟩) (Ne.symm hne) _, fun _ => rfl⟩
  · have t91 : (nxt s.data.toList k == 91) = false := by rw [nxt_eq _ _ _ (by decide) (by decide)]; exact beq_eq_false_iff_ne.2 h91
    have T91 := Lib.hid t91
    have HV := Lib.hid (hstR_eq s.data.toList k n1 (by unfold hstTo; rw [if_neg h91, hn1]))
    have HX := Lib.hid (slc_txt s k n1)
    clear h91 t91 hn1
    go_enter Tryz.func202, Tryz.ntmps202
    go_wp2_with fail
    go_quiet ((go_at_call 213; exact Calls.quiet_of_same (end_q hendC s ⟨#[58, 59, 63]⟩ k _ hs hk mHend)))
    rw [HN1.out]
    obtain ⟨w2, hw2⟩ : ∃ w2, w.drewN nq = w2 := ⟨_, rfl⟩
    rw [hw2]
    have C2 : Cur b s k w2 := by rw [← hw2]; exact HC.out
    have K2 : Kp [b, bu] w w2 := by rw [← hw2]; exact h7u.drewN _
    have B2 := Lib.hid (by rw [← hw2]; exact HB.out : Urb w2 bu S U (.string (Txt [])) P vp vh)
    have E2 := Lib.hid (by rw [← hw2]; exact HE.out.drewN nq : Env w2)
    clear hw2 c0 c1
    have H2 := Lib.hid C2
    clear C2
    go_wp2_with fail
    refine (next_k b k s _ hs hk H2.out).mono ?_
    rintro e w3 ⟨rfl, C3, hK3⟩
    have K3 := K2.to_ hK3 (by simp)
    have B3 := Lib.hid (B2.out.kp hK3 (by simp; omega))
    have E3 := Lib.hid (E2.out.kp hK3 (by simp; omega))
    have c0 := C3.c0
    have c1 := C3.c1
    have H3 := Lib.hid C3
    clear C3 hK3
    have t91 := T91.out
    have K4 := K3
    have B4 := B3
    have E4 := E3.out
    have H4 := H3
    go_wp2_with fail
    go_region_held3 (fun w' => w'.cell? ⟨b, 0, none⟩ = some (.string s) ∧ w'.cell? ⟨b, 1, none⟩ = some (.int .i64 k)) (go_keep)
      ((go_at_call 52; rw [HX.out]; refine (Host_any (Txt (slc s.data.toList k n1)) _ (by rw [txt_size]; have := slc_le s.data.toList k n1; omega) (Env.drewN E4 _)).mono ?_; rintro e w5 ⟨rfl, hB⟩; have C5 : Cur b s k w5 := Cur.below (Cur.drewN H4.out _) hB; have d0 := C5.c0; have d1 := C5.c1))
    have K5 : Kp [b, bu] w w5 := Kp.below (Kp.drewN K4 _) hB
    have B5 := Lib.hid (Blk.below (Blk.drewN B4.out _) hB (Nat.lt_of_lt_of_le B4.out.lt (Nat.le_refl _)))
    rw [txt_list]
    have c1' := C5.c1
    have f1' := C5.f1
    have HC5 := Lib.hid C5
    clear C5 d0 d1 c0 c1
    cases ho : hostO (slc s.data.toList k n1) with
    | none =>
      have HR := Lib.hid (HV.out.trans (by rw [ho]))
      clear ho
      go_wp2_with fail
      go_ret
      rw [HR.out]
      exact ⟨rfl, HC5.out, K5, [], B5.out, fun h => by simp at h⟩
    | some h =>
      have HR := Lib.hid (HV.out.trans (by rw [ho]))
      have u2 := B5.out.cell 2
      have g2 := B5.out.frozen 2
      have B6 := Lib.hid (B5.out.set_ 2 (.string (Txt h)))
      have HC6 := Lib.hid (Cur.far HC5.out (p := ⟨bu, 2, none⟩) hne (.string (Txt h)))
      have c1'' := HC6.out.c1
      have f1'' := HC6.out.f1
      clear ho
      go_wp2_with fail
      go_ret
      rw [HR.out]
      exact ⟨rfl, HC6.out.set n1, (K5.setCell (p := ⟨bu, 2, none⟩) (.inl (by simp)) _).setCell (p := ⟨b, 1, none⟩) (.inl (by simp)) _, h, B6.out.far (p := ⟨b, 1, none⟩) (Ne.symm hne) _, fun _ => rfl⟩
/-- What the port's field holds behind a part. -/
def PrtF (bu : Nat) (r : Int × Nat × Int) (S U H vp vh : Value) (w : World) : Prop :=
  ∃ P, Urb w bu S U H (.int .i64 P) vp vh ∧ (r.2.2 = 0 → P = r.1)
theorem number_q (s : ByteArray) (w : World) (hs : s.size ≤ 2097152) :
    Calls Tryz.prog 95 #[.string s] w fun e w' => e = .returned (.tuple #[.int .i64 (numN s.data.toList), .int .u8 (numE s.data.toList)]) ∧ w' = w :=
  (Lx.number_any s w (by unfold maxLen; omega)).mono fun _ _ h => ⟨h.1, h.2.symm⟩
theorem prtR_c (l : List UInt8) (k t : Nat) (h : atB l k = 58) (ht : endP semq l (k + 1) = t) (N X : Int) (hN : numN (slc l (k + 1) t) = N) (hX : numE (slc l (k + 1) t) = X) :
    prtR l k = if X ≠ 0 then (0, k + 1, X) else if N < 1 ∨ 65535 < N then (0, k + 1, 3) else (N, t, 0) := by
  unfold prtR; rw [if_pos h, ht, hN, hX]
set_option maxRecDepth 100000 in
set_option maxHeartbeats 1000000 in
theorem port_k (b bu k : Nat) (s : ByteArray) (S U H vp vh : Value) (w : World) (hs : s.size ≤ 2097152) (hk : k ≤ s.size) (C : Cur b s k w) (B : Urb w bu S U H (.int .i64 0) vp vh) (hne : b ≠ bu) :
    Calls Tryz.prog 203 #[.pointer (some ⟨b, 0, none⟩), .pointer (some ⟨bu, 0, none⟩)] w (PtP b bu s (prtR s.data.toList k).2.1 (prtR s.data.toList k).2.2 (PrtF bu (prtR s.data.toList k) S U H vp vh) w) := by
  have c0 := C.c0
  have c1 := C.c1
  have HC := Lib.hid C
  have HB := Lib.hid B
  clear C B
  obtain ⟨t, ht⟩ : ∃ n, endP semq s.data.toList k = n := ⟨_, rfl⟩
  have hns1 : t ≤ s.size := by rw [← ht, ← len_list]; exact endP_le _ _ _ (by rw [len_list]; exact hk)
  have hkn1 : k ≤ t := by rw [← ht]; exact endP_ge _ _ _
  have HN1 := Lib.hid ht
  have h7u : Kp [b, bu] w w := Kp.refl _ _
  by_cases h58 : atB s.data.toList k = 58
  · have t58 : (nxt s.data.toList k == 58) = true := by rw [nxt_eq _ _ _ (by decide) (by decide), h58]; rfl
    have T58 := Lib.hid t58
    have hlt : k < s.size := by have := atB_lt s.data.toList k (by rw [h58]; decide); rwa [len_list] at this
    have h5b : semq s[k].toNat = false := by
      have := atB_get s k hlt
      rw [h58] at this
      rw [← this]; rfl
    have ht1 : endP semq s.data.toList (k + 1) = t := by rw [← ht]; exact (endP_next semq s k hlt h5b).symm
    have hk1t : k + 1 ≤ t := by rw [← ht1]; exact endP_ge _ _ _
    obtain ⟨N, hN⟩ : ∃ N, numN (slc s.data.toList (k + 1) t) = N := ⟨_, rfl⟩
    obtain ⟨X, hX⟩ : ∃ X, numE (slc s.data.toList (k + 1) t) = X := ⟨_, rfl⟩
    have hV0 := prtR_c s.data.toList k t h58 ht1 N X hN hX
    have HN := Lib.hid hN
    have HE := Lib.hid hX
    have HX := Lib.hid (slc_txt s (k + 1) t)
    clear h58 t58 ht ht1 hN hX h5b
    by_cases hx0 : X = 0
    · subst hx0
      have hV := hV0.trans (by rw [if_neg (by decide)])
      clear hV0
      by_cases hr : N < 1 ∨ 65535 < N
      · have HV := Lib.hid (hV.trans (by rw [if_pos hr]))
        clear hV
        by_cases hr1 : N < 1
        · have br : decide (N < 1) = true := decide_eq_true hr1
          clear hr
          go_enter Tryz.func203, Tryz.ntmps203
          go_wp2_with fail
          go_quiet ((go_at_call 213; exact Calls.quiet_of_same (end_q semq s ⟨#[59, 63]⟩ k _ hs hk mSemq)))
          rw [HN1.out]
          obtain ⟨w2, hw2⟩ : ∃ w2, w.drewN nq = w2 := ⟨_, rfl⟩
          rw [hw2]
          have C2 : Cur b s k w2 := by rw [← hw2]; exact HC.out
          have K2 : Kp [b, bu] w w2 := by rw [← hw2]; exact h7u.drewN _
          have B2 := Lib.hid (by rw [← hw2]; exact HB.out : Urb w2 bu S U H (.int .i64 0) vp vh)
          clear hw2 c0 c1
          have H2 := Lib.hid C2
          clear C2
          go_wp2_with fail
          refine (take_yes b k 58 s _ hs hlt H2.out T58.out).mono ?_
          rintro e w3 ⟨rfl, C3, hK3⟩
          have K3 := K2.to_ hK3 (by simp)
          have B3 := Lib.hid (B2.out.kp hK3 (by simp; omega))
          have c0 := C3.c0
          have c1 := C3.c1
          have H3 := Lib.hid C3
          clear C3 hK3
          go_wp2_with fail
          go_quiet ((go_at_call 95; rw [HX.out]; exact Calls.quiet_of_same (number_q (Txt (slc s.data.toList (k + 1) t)) _ (by rw [txt_size]; have := slc_le s.data.toList (k + 1) t; omega))))
          rw [txt_list, HN.out, HE.out]
          obtain ⟨w4, hw4⟩ : ∃ w4, w3.drewN nq = w4 := ⟨_, rfl⟩
          rw [hw4]
          have C4 : Cur b s (k + 1) w4 := by rw [← hw4]; exact H3.out
          have K4 : Kp [b, bu] w w4 := by rw [← hw4]; exact K3.drewN _
          have B4 := Lib.hid (by rw [← hw4]; exact B3.out : Urb w4 bu S U H (.int .i64 0) vp vh)
          clear hw4 c0 c1
          have H4 := Lib.hid C4
          clear C4
          go_wp2_with fail
          go_ret
          rw [HV.out]
          exact ⟨rfl, H4.out, K4, 0, B4.out, fun h => by simp at h⟩
        · have br : decide (N < 1) = false := decide_eq_false hr1
          have br2 : decide (65535 < N) = true := decide_eq_true (by omega)
          clear hr hr1
          go_enter Tryz.func203, Tryz.ntmps203
          go_wp2_with fail
          go_quiet ((go_at_call 213; exact Calls.quiet_of_same (end_q semq s ⟨#[59, 63]⟩ k _ hs hk mSemq)))
          rw [HN1.out]
          obtain ⟨w2, hw2⟩ : ∃ w2, w.drewN nq = w2 := ⟨_, rfl⟩
          rw [hw2]
          have C2 : Cur b s k w2 := by rw [← hw2]; exact HC.out
          have K2 : Kp [b, bu] w w2 := by rw [← hw2]; exact h7u.drewN _
          have B2 := Lib.hid (by rw [← hw2]; exact HB.out : Urb w2 bu S U H (.int .i64 0) vp vh)
          clear hw2 c0 c1
          have H2 := Lib.hid C2
          clear C2
          go_wp2_with fail
          refine (take_yes b k 58 s _ hs hlt H2.out T58.out).mono ?_
          rintro e w3 ⟨rfl, C3, hK3⟩
          have K3 := K2.to_ hK3 (by simp)
          have B3 := Lib.hid (B2.out.kp hK3 (by simp; omega))
          have c0 := C3.c0
          have c1 := C3.c1
          have H3 := Lib.hid C3
          clear C3 hK3
          go_wp2_with fail
          go_quiet ((go_at_call 95; rw [HX.out]; exact Calls.quiet_of_same (number_q (Txt (slc s.data.toList (k + 1) t)) _ (by rw [txt_size]; have := slc_le s.data.toList (k + 1) t; omega))))
          rw [txt_list, HN.out, HE.out]
          obtain ⟨w4, hw4⟩ : ∃ w4, w3.drewN nq = w4 := ⟨_, rfl⟩
          rw [hw4]
          have C4 : Cur b s (k + 1) w4 := by rw [← hw4]; exact H3.out
          have K4 : Kp [b, bu] w w4 := by rw [← hw4]; exact K3.drewN _
          have B4 := Lib.hid (by rw [← hw4]; exact B3.out : Urb w4 bu S U H (.int .i64 0) vp vh)
          clear hw4 c0 c1
          have H4 := Lib.hid C4
          clear C4
          go_wp2_with fail
          go_ret
          rw [HV.out]
          exact ⟨rfl, H4.out, K4, 0, B4.out, fun h => by simp at h⟩
      · have HV := Lib.hid (hV.trans (by rw [if_neg hr]))
        have br : decide (N < 1) = false := decide_eq_false (by omega)
        have br2 : decide (65535 < N) = false := decide_eq_false (by omega)
        clear hV hr
        go_enter Tryz.func203, Tryz.ntmps203
        go_wp2_with fail
        go_quiet ((go_at_call 213; exact Calls.quiet_of_same (end_q semq s ⟨#[59, 63]⟩ k _ hs hk mSemq)))
        rw [HN1.out]
        obtain ⟨w2, hw2⟩ : ∃ w2, w.drewN nq = w2 := ⟨_, rfl⟩
        rw [hw2]
        have C2 : Cur b s k w2 := by rw [← hw2]; exact HC.out
        have K2 : Kp [b, bu] w w2 := by rw [← hw2]; exact h7u.drewN _
        have B2 := Lib.hid (by rw [← hw2]; exact HB.out : Urb w2 bu S U H (.int .i64 0) vp vh)
        clear hw2 c0 c1
        have H2 := Lib.hid C2
        clear C2
        go_wp2_with fail
        refine (take_yes b k 58 s _ hs hlt H2.out T58.out).mono ?_
        rintro e w3 ⟨rfl, C3, hK3⟩
        have K3 := K2.to_ hK3 (by simp)
        have B3 := Lib.hid (B2.out.kp hK3 (by simp; omega))
        have c0 := C3.c0
        have c1 := C3.c1
        have H3 := Lib.hid C3
        clear C3 hK3
        go_wp2_with fail
        go_quiet ((go_at_call 95; rw [HX.out]; exact Calls.quiet_of_same (number_q (Txt (slc s.data.toList (k + 1) t)) _ (by rw [txt_size]; have := slc_le s.data.toList (k + 1) t; omega))))
        rw [txt_list, HN.out, HE.out]
        obtain ⟨w4, hw4⟩ : ∃ w4, w3.drewN nq = w4 := ⟨_, rfl⟩
        rw [hw4]
        have C4 : Cur b s (k + 1) w4 := by rw [← hw4]; exact H3.out
        have K4 : Kp [b, bu] w w4 := by rw [← hw4]; exact K3.drewN _
        have B4 := Lib.hid (by rw [← hw4]; exact B3.out : Urb w4 bu S U H (.int .i64 0) vp vh)
        clear hw4 c0 c1
        have H4 := Lib.hid C4
        clear C4
        have u3 := B4.out.cell 3
        have g3 := B4.out.frozen 3
        have B6 := Lib.hid (B4.out.set_ 3 (.int .i64 N))
        have HC6 := Lib.hid (Cur.far H4.out (p := ⟨bu, 3, none⟩) hne (.int .i64 N))
        have c1'' := HC6.out.c1
        have f1'' := HC6.out.f1
        go_wp2_with fail
        go_ret
        rw [HV.out]
        exact ⟨rfl, HC6.out.set t, (K4.setCell (p := ⟨bu, 3, none⟩) (.inl (by simp)) _).setCell (p := ⟨b, 1, none⟩) (.inl (by simp)) _, N, B6.out.far (p := ⟨b, 1, none⟩) (Ne.symm hne) _, fun _ => rfl⟩
    · have bx : (X != 0) = true := by rw [bne_iff_ne]; exact hx0
      have HV := Lib.hid (hV0.trans (by rw [if_pos hx0]))
      have HX0 := Lib.hid hx0
      clear hV0 hx0
      go_enter Tryz.func203, Tryz.ntmps203
      go_wp2_with fail
      go_quiet ((go_at_call 213; exact Calls.quiet_of_same (end_q semq s ⟨#[59, 63]⟩ k _ hs hk mSemq)))
      rw [HN1.out]
      obtain ⟨w2, hw2⟩ : ∃ w2, w.drewN nq = w2 := ⟨_, rfl⟩
      rw [hw2]
      have C2 : Cur b s k w2 := by rw [← hw2]; exact HC.out
      have K2 : Kp [b, bu] w w2 := by rw [← hw2]; exact h7u.drewN _
      have B2 := Lib.hid (by rw [← hw2]; exact HB.out : Urb w2 bu S U H (.int .i64 0) vp vh)
      clear hw2 c0 c1
      have H2 := Lib.hid C2
      clear C2
      go_wp2_with fail
      refine (take_yes b k 58 s _ hs hlt H2.out T58.out).mono ?_
      rintro e w3 ⟨rfl, C3, hK3⟩
      have K3 := K2.to_ hK3 (by simp)
      have B3 := Lib.hid (B2.out.kp hK3 (by simp; omega))
      have c0 := C3.c0
      have c1 := C3.c1
      have H3 := Lib.hid C3
      clear C3 hK3
      go_wp2_with fail
      go_quiet ((go_at_call 95; rw [HX.out]; exact Calls.quiet_of_same (number_q (Txt (slc s.data.toList (k + 1) t)) _ (by rw [txt_size]; have := slc_le s.data.toList (k + 1) t; omega))))
      rw [txt_list, HN.out, HE.out]
      obtain ⟨w4, hw4⟩ : ∃ w4, w3.drewN nq = w4 := ⟨_, rfl⟩
      rw [hw4]
      have C4 : Cur b s (k + 1) w4 := by rw [← hw4]; exact H3.out
      have K4 : Kp [b, bu] w w4 := by rw [← hw4]; exact K3.drewN _
      have B4 := Lib.hid (by rw [← hw4]; exact B3.out : Urb w4 bu S U H (.int .i64 0) vp vh)
      clear hw4 c0 c1
      have H4 := Lib.hid C4
      clear C4
      go_wp2_with fail
      go_ret
      rw [HV.out]
      exact ⟨rfl, H4.out, K4, 0, B4.out, fun h => absurd h HX0.out⟩
  · have t58 : (nxt s.data.toList k == 58) = false := by rw [nxt_eq _ _ _ (by decide) (by decide)]; exact beq_eq_false_iff_ne.2 h58
    have T58 := Lib.hid t58
    by_cases hkt : k < t
    · have HV := Lib.hid (by unfold prtR; rw [if_neg h58, ht, if_pos hkt] : prtR s.data.toList k = (0, k, 5))
      clear h58 t58 ht
      go_enter Tryz.func203, Tryz.ntmps203
      go_wp2_with fail
      go_quiet ((go_at_call 213; exact Calls.quiet_of_same (end_q semq s ⟨#[59, 63]⟩ k _ hs hk mSemq)))
      rw [HN1.out]
      obtain ⟨w2, hw2⟩ : ∃ w2, w.drewN nq = w2 := ⟨_, rfl⟩
      rw [hw2]
      have C2 : Cur b s k w2 := by rw [← hw2]; exact HC.out
      have K2 : Kp [b, bu] w w2 := by rw [← hw2]; exact h7u.drewN _
      have B2 := Lib.hid (by rw [← hw2]; exact HB.out : Urb w2 bu S U H (.int .i64 0) vp vh)
      clear hw2 c0 c1
      have H2 := Lib.hid C2
      clear C2
      go_wp2_with fail
      refine (take_no b k 58 s _ hs (by omega) H2.out T58.out).mono ?_
      rintro e w3 ⟨rfl, C3, hK3⟩
      have K3 := K2.to_ hK3 (by simp)
      have B3 := Lib.hid (B2.out.kp hK3 (by simp; omega))
      have c1 := C3.c1
      have H3 := Lib.hid C3
      clear C3 hK3
      go_wp2_with fail
      go_ret
      rw [HV.out]
      exact ⟨rfl, H3.out, K3, 0, B3.out, fun h => by simp at h⟩
    · have HV := Lib.hid (by unfold prtR; rw [if_neg h58, ht, if_neg hkt] : prtR s.data.toList k = (0, k, 0))
      clear h58 t58 ht
      go_enter Tryz.func203, Tryz.ntmps203
      go_wp2_with fail
      go_quiet ((go_at_call 213; exact Calls.quiet_of_same (end_q semq s ⟨#[59, 63]⟩ k _ hs hk mSemq)))
      rw [HN1.out]
      obtain ⟨w2, hw2⟩ : ∃ w2, w.drewN nq = w2 := ⟨_, rfl⟩
      rw [hw2]
      have C2 : Cur b s k w2 := by rw [← hw2]; exact HC.out
      have K2 : Kp [b, bu] w w2 := by rw [← hw2]; exact h7u.drewN _
      have B2 := Lib.hid (by rw [← hw2]; exact HB.out : Urb w2 bu S U H (.int .i64 0) vp vh)
      clear hw2 c0 c1
      have H2 := Lib.hid C2
      clear C2
      go_wp2_with fail
      refine (take_no b k 58 s _ hs (by omega) H2.out T58.out).mono ?_
      rintro e w3 ⟨rfl, C3, hK3⟩
      have K3 := K2.to_ hK3 (by simp)
      have B3 := Lib.hid (B2.out.kp hK3 (by simp; omega))
      have c1 := C3.c1
      have H3 := Lib.hid C3
      clear C3 hK3
      go_wp2_with fail
      go_ret
      rw [HV.out]
      exact ⟨rfl, H3.out, K3, 0, B3.out, fun _ => rfl⟩
end Ad
end Go.Proofs.YtmmjfofdnpafkaaGreatDoor
/- Contracts of the parts of a URI of package address: params, heads. A text has at most 2^21 bytes. -/
namespace Go.Proofs.YtmmjfofdnpafkaaGreatDoor
namespace Ad
open Go.RowKit Lx

/-- A block without a truth value. -/
def NoB (w : World) (g : Nat) : Prop := ∀ i t, w.cell? ⟨g, i, none⟩ ≠ some (.bool t)
theorem NoB.cur {b k : Nat} {s : ByteArray} {w : World} (h : Cur b s k w) : NoB w b := by
  intro i t hc
  rw [Blk.cell h i] at hc
  match i, hc with
  | 0, hc => simp at hc
  | 1, hc => simp at hc
  | i + 2, hc => simp at hc
theorem NoB.urb {w : World} {bu : Nat} {S U H : ByteArray} {P : Int} {a1 a2 : Option Addr} {n1 c1 n2 c2 : Nat} (h : Urb w bu (.string S) (.string U) (.string H) (.int .i64 P) (.slice a1 n1 c1) (.slice a2 n2 c2)) : NoB w bu := by
  intro i t hc
  rw [Blk.cell h i] at hc
  match i, hc with
  | 0, hc => simp at hc
  | 1, hc => simp at hc
  | 2, hc => simp at hc
  | 3, hc => simp at hc
  | 4, hc => simp at hc
  | 5, hc => simp at hc
  | i + 6, hc => simp at hc
theorem PmIn.kpA {X : List Nat} {w w' : World} {B : Nat} {v : Value} {l : List Prm} (h : PmIn B w v l) (k : Kp X w w') (hB : B ≤ w.heap.size) (hX : ∀ x ∈ X, NoB w x) : PmIn B w' v l := by
  obtain ⟨n, c, hn, hc, h0 | ⟨b, o, e, hb, hcell⟩⟩ := h
  · exact ⟨n, c, hn, hc, .inl h0⟩
  · refine ⟨n, c, hn, hc, .inr ⟨b, o, e, hb, fun j u hu => ?_⟩⟩
    have hbx : b ∉ X := by
      intro hm
      cases l with
      | nil => simp [pcl] at hu
      | cons p t => exact hX b hm (o + 2) p.2.2 (hcell 2 (.bool p.2.2) rfl)
    exact (k.cell (p := ⟨b, o + j, none⟩) (by show b < _; omega) hbx).trans (hcell j u hu)
theorem PmIn.grow {w w' : World} {v : Value} {l : List Prm} (h : PmIn w.heap.size w v l) {X : List Nat} (k : Kp X w w') (hX : ∀ x ∈ X, NoB w x) : PmIn w'.heap.size w' v l :=
  (h.kpA k (Nat.le_refl _) hX).more k.size
/-- What the parameters' field holds behind a part. -/
def PrsF (bu : Nat) (r : List Prm × Nat × Int) (S U H P : Value) (w : World) : Prop :=
  ∃ A n c, Urb w bu S U H P (.slice A n c) (.slice none 0 0) ∧ PmIn w.heap.size w (.slice A n c) (srt r.1)
set_option maxRecDepth 100000 in
set_option maxHeartbeats 1000000 in
theorem params_k (ends : Int → Bool) (b bu k : Nat) (s : ByteArray) (S U H : List UInt8) (P : Int) (w : World) (hs : s.size ≤ 2097152) (hk : k ≤ s.size) (C : Cur b s k w) (B : Urb w bu (.string (Txt S)) (.string (Txt U)) (.string (Txt H)) (.int .i64 P) (.slice none 0 0) (.slice none 0 0)) (E : Env w) (hne : b ≠ bu) (hb7 : 7 ≤ b)
    (hends : ends = if S = telL then (· == 59) else semq) :
    Calls Tryz.prog 204 #[.pointer (some ⟨b, 0, none⟩), .pointer (some ⟨bu, 0, none⟩)] w
      (PtP b bu s (prmsR ends s.data.toList k).2.1 (prmsR ends s.data.toList k).2.2 (PrsF bu (prmsR ends s.data.toList k) (.string (Txt S)) (.string (Txt U)) (.string (Txt H)) (.int .i64 P)) w) := by
  have HC := Lib.hid C
  have HB := Lib.hid B
  have HE := Lib.hid E
  have u0 := B.cell 0
  have eS : (Txt S).toList = S := by rw [Lib.toList_data]; rfl
  clear C B E
  obtain ⟨R, hR⟩ : ∃ R, prmsR ends s.data.toList k = R := ⟨_, rfl⟩
  have HR := Lib.hid hR
  rw [hR]
  clear hR
  by_cases ht : S = telL
  · have bt : ((Txt S).toList == [116, 101, 108]) = true := by rw [eS, ht]; rfl
    have HEn := Lib.hid (by rw [hends, if_pos ht] : ends = (· == 59))
    clear hends ht eS
    go_enter Tryz.func204, Tryz.ntmps204
    go_wp2_with fail
    refine (pairs_k (· == 59) ends 1 b k s ⟨#[59]⟩ ⟨#[59]⟩ w hs hk HC.out HE.out hb7 m59 (by rw [HEn.out]; exact m59) rfl rfl).mono ?_
    rintro e w2 ⟨v, rfl, hP, hC, hK, hl⟩
    have hR2 : prsF (· == 59) ends 1 (s.data.toList.length + 1) s.data.toList k [] = R := HR.out
    rw [hR2] at hP hC ⊢
    obtain ⟨A, c, rfl⟩ := hP.form
    have HB2 := Lib.hid (HB.out.kp hK (by simp; omega))
    have u4 := HB2.out.cell 4
    have g4 := HB2.out.frozen 4
    have B3 := Lib.hid (HB2.out.set_ 4 (.slice A (srt R.1).length c))
    have hK3 := (Kp.refl [bu] w2).setCell (p := ⟨bu, 4, none⟩) (.inl (by simp)) (.slice A (srt R.1).length c)
    have P3 := Lib.hid (hP.grow hK3 (by intro x hx; rw [List.mem_singleton.1 hx]; exact NoB.urb HB2.out))
    have C3 := Lib.hid (hC.far (p := ⟨bu, 4, none⟩) hne (.slice A (srt R.1).length c))
    have K3 := Lib.hid ((hK.mono (Y := [b, bu]) (by simp)).setCell (p := ⟨bu, 4, none⟩) (.inl (by simp)) (.slice A (srt R.1).length c))
    clear hP hC hK hK3 hl hR2 u0
    go_wp2_with fail
    go_ret
    exact ⟨rfl, C3.out, K3.out, A, _, c, B3.out, P3.out⟩
  · have bt : ((Txt S).toList == [116, 101, 108]) = false := by rw [eS]; exact beq_eq_false_iff_ne.2 ht
    have HEn := Lib.hid (by rw [hends, if_neg ht] : ends = semq)
    clear hends ht eS
    go_enter Tryz.func204, Tryz.ntmps204
    go_wp2_with fail
    refine (pairs_k (· == 59) ends 1 b k s ⟨#[59]⟩ ⟨#[59, 63]⟩ w hs hk HC.out HE.out hb7 m59 (by rw [HEn.out]; exact mSemq) rfl rfl).mono ?_
    rintro e w2 ⟨v, rfl, hP, hC, hK, hl⟩
    have hR2 : prsF (· == 59) ends 1 (s.data.toList.length + 1) s.data.toList k [] = R := HR.out
    rw [hR2] at hP hC ⊢
    obtain ⟨A, c, rfl⟩ := hP.form
    have HB2 := Lib.hid (HB.out.kp hK (by simp; omega))
    have u4 := HB2.out.cell 4
    have g4 := HB2.out.frozen 4
    have B3 := Lib.hid (HB2.out.set_ 4 (.slice A (srt R.1).length c))
    have hK3 := (Kp.refl [bu] w2).setCell (p := ⟨bu, 4, none⟩) (.inl (by simp)) (.slice A (srt R.1).length c)
    have P3 := Lib.hid (hP.grow hK3 (by intro x hx; rw [List.mem_singleton.1 hx]; exact NoB.urb HB2.out))
    have C3 := Lib.hid (hC.far (p := ⟨bu, 4, none⟩) hne (.slice A (srt R.1).length c))
    have K3 := Lib.hid ((hK.mono (Y := [b, bu]) (by simp)).setCell (p := ⟨bu, 4, none⟩) (.inl (by simp)) (.slice A (srt R.1).length c))
    clear hP hC hK hK3 hl hR2 u0
    go_wp2_with fail
    go_ret
    exact ⟨rfl, C3.out, K3.out, A, _, c, B3.out, P3.out⟩
/-- What the heads' field holds behind a part. -/
def HdsF (bu : Nat) (r : List Prm × Nat × Int) (S U H P vp : Value) (ps : List Prm) (w : World) : Prop :=
  ∃ A n c, Urb w bu S U H P vp (.slice A n c) ∧ PmIn w.heap.size w vp ps ∧ PmIn w.heap.size w (.slice A n c) (srt r.1)
set_option maxRecDepth 100000 in
set_option maxHeartbeats 1000000 in
theorem heads_k (b bu k : Nat) (s : ByteArray) (S U H : List UInt8) (P : Int) (vp : Value) (ps : List Prm) (w : World) (hs : s.size ≤ 2097152) (hk : k ≤ s.size) (C : Cur b s k w) (B : Urb w bu (.string (Txt S)) (.string (Txt U)) (.string (Txt H)) (.int .i64 P) vp (.slice none 0 0)) (hPs : PmIn w.heap.size w vp ps) (E : Env w) (hne : b ≠ bu) (hb7 : 7 ≤ b) :
    Calls Tryz.prog 205 #[.pointer (some ⟨b, 0, none⟩), .pointer (some ⟨bu, 0, none⟩)] w
      (PtP b bu s (headsR s.data.toList k).2.1 (headsR s.data.toList k).2.2 (HdsF bu (headsR s.data.toList k) (.string (Txt S)) (.string (Txt U)) (.string (Txt H)) (.int .i64 P) vp ps) w) := by
  obtain ⟨A0, c0, rfl⟩ := hPs.form
  have HPs := Lib.hid hPs
  have HC := Lib.hid C
  have HB := Lib.hid B
  have HE := Lib.hid E
  clear C B E hPs
  obtain ⟨R, hR⟩ : ∃ R, headsR s.data.toList k = R := ⟨_, rfl⟩
  have HR := Lib.hid hR
  rw [hR]
  clear hR
  go_enter Tryz.func205, Tryz.ntmps205
  go_wp2_with fail
  refine (pairs_k headC (· == 38) 2 b k s ⟨#[63, 38]⟩ ⟨#[38]⟩ w hs hk HC.out HE.out hb7 mHead m38 rfl rfl).mono ?_
  rintro e w2 ⟨v, rfl, hP, hC, hK, hl⟩
  have hR2 : prsF headC (· == 38) 2 (s.data.toList.length + 1) s.data.toList k [] = R := HR.out
  rw [hR2] at hP hC ⊢
  obtain ⟨A, c, rfl⟩ := hP.form
  have HB2 := Lib.hid (HB.out.kp hK (by simp; omega))
  have u5 := HB2.out.cell 5
  have g5 := HB2.out.frozen 5
  have B3 := Lib.hid (HB2.out.set_ 5 (.slice A (srt R.1).length c))
  have hK3 := (Kp.refl [bu] w2).setCell (p := ⟨bu, 5, none⟩) (.inl (by simp)) (.slice A (srt R.1).length c)
  have hnb : ∀ x ∈ [bu], NoB w2 x := by intro x hx; rw [List.mem_singleton.1 hx]; exact NoB.urb HB2.out
  have P3 := Lib.hid (hP.grow hK3 hnb)
  have Q3 := Lib.hid ((HPs.out.grow hK (by intro x hx; rw [List.mem_singleton.1 hx]; exact NoB.cur HC.out)).grow hK3 hnb)
  have C3 := Lib.hid (hC.far (p := ⟨bu, 5, none⟩) hne (.slice A (srt R.1).length c))
  have K3 := Lib.hid ((hK.mono (Y := [b, bu]) (by simp)).setCell (p := ⟨bu, 5, none⟩) (.inl (by simp)) (.slice A (srt R.1).length c))
  clear hP hC hK hK3 hl hR2 hnb
  go_wp2_with fail
  go_ret
  exact ⟨rfl, C3.out, K3.out, A, _, c, B3.out, Q3.out, P3.out⟩
end Ad
end Go.Proofs.YtmmjfofdnpafkaaGreatDoor
/- Contract of number of package address: the number of a telephone. A text has at most 2^21 bytes. -/
namespace Go.Proofs.YtmmjfofdnpafkaaGreatDoor
namespace Ad
open Go.RowKit Lx

theorem isB_kp {B g : Nat} {bs : List Value} {w w' : World} {X : List Nat} (h : IsB B g bs w) (k : Kp X w w') (hX : ∀ x ∈ X, x < B) : IsB B g bs w' := by
  rcases h with ⟨h1, v, h2, h3, h4⟩ | ⟨h1, v, h2, h3, h4⟩
  · exact .inl ⟨h1, v, (k.block g (lt_of_some h2) (fun hm => by have := hX g hm; omega)).trans h2, own_kp h3 k hX, h4⟩
  · exact .inr ⟨h1, v, (k.block g (lt_of_some h2) (fun hm => by have := hX g hm; omega)).trans h2, own_kp h3 k hX, h4⟩
/-- A number's answer from what may stand in it. -/
def telQ (plus : List UInt8) (l : List UInt8) (k j t : Nat) (r : List UInt8 × Nat) : List UInt8 × Nat × Int :=
  if r.2 < t - j then ([], j + r.2, 5) else if r.1 = [] then ([], k, 5) else if 30 < r.1.length then ([], k, 4) else (plus ++ r.1, t, 0)
theorem telR_q (l : List UInt8) (k t : Nat) (ht : endP (· == 59) l k = t) :
    telR l k = if atB l k = 43 then telQ [43] l k (k + 1) t (telS false (slc l (k + 1) t)) else telQ [] l k k t (telS true (slc l k t)) := by
  unfold telR telQ; rw [ht]; rfl
theorem telS_dig (o : Bool) (c : UInt8) (t : List UInt8) (h : (digitI c.toNat || (o && locC c.toNat)) = true) : telS o (c :: t) = (c :: (telS o t).1, (telS o t).2 + 1) := by rw [telS, if_pos h]
theorem telS_sep (o : Bool) (c : UInt8) (t : List UInt8) (h : (digitI c.toNat || (o && locC c.toNat)) = false) (h2 : sepC c.toNat = true) : telS o (c :: t) = ((telS o t).1, (telS o t).2 + 1) := by rw [telS, if_neg (by rw [h]; decide), if_pos h2]
theorem telS_bad (o : Bool) (c : UInt8) (t : List UInt8) (h : (digitI c.toNat || (o && locC c.toNat)) = false) (h2 : sepC c.toNat = false) : telS o (c :: t) = ([], 0) := by rw [telS, if_neg (by rw [h]; decide), if_neg (by rw [h2]; decide)]
theorem mSep : memB (⟨#[45, 46, 40, 41]⟩ : ByteArray).data.toList = sepC := memB_fun _ _ fun c => by show ((45 : Int) == c || ((46 : Int) == c || ((40 : Int) == c || ((41 : Int) == c || false)))) = _; unfold sepC; rw [Bool.or_false, comm_beq 45, comm_beq 46, comm_beq 40, comm_beq 41]
theorem mLoc : memB (⟨#[42, 35]⟩ : ByteArray).data.toList = locC := memB_fun _ _ fun c => by show ((42 : Int) == c || ((35 : Int) == c || false)) = _; unfold locC; rw [Bool.or_false, comm_beq 42, comm_beq 35]
theorem sep_neg (c : UInt8) : decide (Lib.indexByte [45, 46, 40, 41] c < 0) = !sepC c.toNat := by
  have h := mem_u8 [45, 46, 40, 41] c
  have e : memB [45, 46, 40, 41] c.toNat = sepC c.toNat := congrFun mSep _
  rw [e] at h
  rw [← h]
  by_cases h0 : 0 ≤ Lib.indexByte [45, 46, 40, 41] c
  · rw [decide_eq_true h0, decide_eq_false (by omega)]; rfl
  · rw [decide_eq_false h0, decide_eq_true (by omega)]; rfl
theorem loc_pos (c : UInt8) : decide (0 ≤ Lib.indexByte [42, 35] c) = (true && locC c.toNat) := by
  have h := mem_u8 [42, 35] c
  have e : memB [42, 35] c.toNat = locC c.toNat := congrFun mLoc _
  rw [h, e]; rfl
theorem non_pos (c : UInt8) : decide (0 ≤ Lib.indexByte [] c) = (false && locC c.toNat) := by
  have h := mem_u8 [] c
  rw [h]; rfl
set_option maxRecDepth 100000 in
set_option maxHeartbeats 2000000 in
theorem number_k (b bu k : Nat) (s : ByteArray) (S H P vp vh : Value) (w : World) (hs : s.size ≤ 2097152) (hk : k ≤ s.size) (C : Cur b s k w) (B : Urb w bu S (.string (Txt [])) H P vp vh) (hne : b ≠ bu) :
    Calls Tryz.prog 206 #[.pointer (some ⟨b, 0, none⟩), .pointer (some ⟨bu, 0, none⟩)] w (PtP b bu s (telR s.data.toList k).2.1 (telR s.data.toList k).2.2 (UsrF bu (telR s.data.toList k) S H P vp vh) w) := by
  have c0 := C.c0
  have c1 := C.c1
  have hbw := C.lt
  have hbuw := B.lt
  have HC := Lib.hid C
  have HB := Lib.hid B
  clear C B
  obtain ⟨t, ht⟩ : ∃ n, endP (· == 59) s.data.toList k = n := ⟨_, rfl⟩
  have hts : t ≤ s.size := by rw [← ht, ← len_list]; exact endP_le _ _ _ (by rw [len_list]; exact hk)
  have hkt : k ≤ t := by rw [← ht]; exact endP_ge _ _ _
  have HT := Lib.hid ht
  have hV0 := telR_q s.data.toList k t ht
  have h7u : Kp [b, bu] w w := Kp.refl _ _
  by_cases h43 : atB s.data.toList k = 43
  · have t43 : (nxt s.data.toList k == 43) = true := by rw [nxt_eq _ _ _ (by decide) (by decide), h43]; rfl
    have T43 := Lib.hid t43
    have hlt : k < s.size := by have := atB_lt s.data.toList k (by rw [h43]; decide); rwa [len_list] at this
    have h5b : ((s[k].toNat : Int) == 59) = false := by
      have := atB_get s k hlt
      rw [h43] at this
      rw [← this]; rfl
    have hk1 : k + 1 ≤ t := by
      have h9 := endP_next (· == 59) s k hlt h5b
      rw [ht] at h9
      rw [h9]; exact endP_ge _ _ _
    have HV := Lib.hid (hV0.trans (by rw [if_pos h43]))
    obtain ⟨r1, r2, hr⟩ : ∃ r1 r2, telS false (slc s.data.toList (k + 1) t) = (r1, r2) := ⟨_, _, rfl⟩
    have HR := Lib.hid hr
    rw [hr] at HV
    clear h43 t43 ht hV0 h5b hr
    go_enter Tryz.func206, Tryz.ntmps206
    go_wp2_with fail
    go_quiet ((go_at_call 213; exact Calls.quiet_of_same (end_q (· == 59) s ⟨#[59]⟩ k _ hs hk m59)))
    rw [HT.out]
    obtain ⟨w2, hw2⟩ : ∃ w2, w.drewN nq = w2 := ⟨_, rfl⟩
    rw [hw2]
    have C2 : Cur b s k w2 := by rw [← hw2]; exact HC.out
    have K2 : Kp [b, bu] w w2 := by rw [← hw2]; exact h7u.drewN _
    have B2 := Lib.hid (by rw [← hw2]; exact HB.out : Urb w2 bu S (.string (Txt [])) H P vp vh)
    clear hw2 c0 c1
    have H2 := Lib.hid C2
    clear C2
    go_wp2_with fail
    refine (take_yes b k 43 s _ hs hlt H2.out T43.out).mono ?_
    rintro e w3 ⟨rfl, C3, hK3⟩
    have K3 := K2.to_ hK3 (by simp)
    have B3 := Lib.hid (B2.out.kp hK3 (by simp; omega))
    have H3 := Lib.hid C3
    have hs3 := K3.size
    clear C3 hK3
    go_wp2_with fail
    go_loopg [10] (s.size + 1) (fun gg _ wr => ∃ (j : Nat) (acc : List UInt8), (k + 1) ≤ j ∧ j ≤ t ∧ t - j < gg ∧ Cur b s j wr ∧ IsB w3.heap.size w3.heap.size (Lib.byteCells acc) wr ∧ acc.length ≤ j ∧ acc ++ (telS false (slc s.data.toList j t)).1 = r1 ∧ j + (telS false (slc s.data.toList j t)).2 = (k + 1) + r2 ∧ Kp [b] w3 wr)
    case atStart => exact ⟨(k + 1), [], Nat.le_refl _, hk1, by omega, H3.out.alloc _, fresh_isB w3, Nat.zero_le _, by rw [HR.out]; rfl, by rw [HR.out], (Kp.refl [b] w3).alloc _⟩
    case round =>
      obtain ⟨j, acc, hj0, hjt, hg, hC, hI, hal, hr1, hr2, hK⟩ := hrel
      have c0 := hC.c0
      have c1 := hC.c1
      have f1 := hC.f1
      have HC4 := Lib.hid hC
      have HI := Lib.hid hI
      have hszr := hK.size
      have hlen : (Lib.byteCells acc).length ≤ j := by rw [Lib.byteCells_length]; exact hal
      clear hC hI
      by_cases hlt4 : j < t
      · have hjs : j < s.size := by omega
        have hst := slc_step s j t hlt4 hts
        rw [hst] at hr1 hr2
        have hsn := sep_neg s[j]
        have hlp := non_pos s[j]
        cases hd : digitI s[j].toNat
        · cases hl : (false && locC s[j].toNat)
          · have hdl : (digitI s[j].toNat || (false && locC s[j].toNat)) = false := by rw [hd, hl]; rfl
            cases hsp : sepC s[j].toNat
            · rw [telS_bad _ _ _ hdl hsp] at hr1 hr2
              have hlt5 : r2 < t - (k + 1) := by simp at hr2; omega
              have hjr : j = (k + 1) + r2 := by simpa using hr2
              have HV2 := Lib.hid (HV.out.trans (by unfold telQ; rw [if_pos hlt5] : _ = (([] : List UInt8), (k + 1) + r2, (5 : Int))))
              have HJ := Lib.hid hjr
              have HD := Lib.hid hd
              rw [hsp] at hsn
              rw [hl] at hlp
              have HLP := Lib.hid hlp
              have HSN := Lib.hid hsn
              clear hd hl hsp hdl hjr hr1 hr2 hst hsn hlp
              go_wp2_with fail
              go_quiet (fail)
              go_wp2_with fail
              refine (adigit_any _ _).mono ?_
              rintro e w5 ⟨rfl, rfl⟩
              rw [HD.out]
              go_wp2_with fail
              refine (Tryz.strings_IndexByte _ _ _).mono ?_
              rintro e w6 ⟨rfl, rfl⟩
              have hlp := HLP.out
              go_wp2_with fail
              refine (Tryz.strings_IndexByte _ _ _).mono ?_
              rintro e w6 ⟨rfl, rfl⟩
              have hsn := HSN.out
              go_wp2_with fail
              go_ret
              rw [HV2.out]
              exact ⟨rfl, by have h := HC4.out; rw [HJ.out] at h; exact h, (K3.to_ hK (by simp)).drewN _, [], Blk.drewN (B3.out.kp hK (by simp; omega)) _, fun h => by simp at h⟩
            · rw [telS_sep _ _ _ hdl hsp] at hr1 hr2
              have HR1 := Lib.hid hr1
              have HR2 := Lib.hid hr2
              have HD := Lib.hid hd
              rw [hsp] at hsn
              rw [hl] at hlp
              have HLP := Lib.hid hlp
              have HSN := Lib.hid hsn
              clear hd hl hsp hdl hr1 hr2 hst hsn hlp
              go_wp2_with fail
              go_quiet (fail)
              go_wp2_with fail
              refine (adigit_any _ _).mono ?_
              rintro e w5 ⟨rfl, rfl⟩
              rw [HD.out]
              go_wp2_with fail
              refine (Tryz.strings_IndexByte _ _ _).mono ?_
              rintro e w6 ⟨rfl, rfl⟩
              have hlp := HLP.out
              go_wp2_with fail
              refine (Tryz.strings_IndexByte _ _ _).mono ?_
              rintro e w6 ⟨rfl, rfl⟩
              have hsn := HSN.out
              go_wp2_with fail
              have hK9 := ((Kp.refl [b] wr).drewN nq).setCell (p := ⟨b, 1, none⟩) (.inl (by simp)) (.int .i64 ((j : Int) + 1))
              go_roundg (t - j)
              case measure => omega
              case rel => exact ⟨j + 1, acc, by omega, by omega, by omega, by have h := (show Cur b s j (wr.drewN nq) from Blk.drewN HC4.out nq).set (j + 1); rwa [Int.natCast_add] at h, isB_kp HI.out hK9 (by simp; omega), by omega, HR1.out, by have := HR2.out; omega, hK.trans hK9⟩
          · have hdl : (digitI s[j].toNat || (false && locC s[j].toNat)) = true := by rw [hd, hl]; rfl
            rw [telS_dig _ _ _ hdl] at hr1 hr2
            have HR1 := Lib.hid hr1
            have HR2 := Lib.hid hr2
            have HD := Lib.hid hd
            rw [hl] at hlp
            have HLP := Lib.hid hlp
            clear hd hl hdl hr1 hr2 hst hsn hlp
            go_wp2_with fail
            go_quiet (fail)
            go_wp2_with fail
            refine (adigit_any _ _).mono ?_
            rintro e w5 ⟨rfl, rfl⟩
            rw [HD.out]
            go_wp2_with fail
            refine (Tryz.strings_IndexByte _ _ _).mono ?_
            rintro e w6 ⟨rfl, rfl⟩
            have hlp := HLP.out
            go_wp2_with fail
            refine (writeByte_any w3.heap.size w3.heap.size _ _ _ (isB_kp HI.out ((Kp.refl [] wr).drewN nq) (by simp)) (by omega) (by simp; omega)).mono ?_
            rintro e w7 ⟨rfl, hb7, hk7⟩
            have Hb7 := Lib.hid (isB_of hb7 rfl)
            have hC7 : Cur b s j w7 := Blk.below (Blk.drewN HC4.out nq) hk7.below (by omega)
            have hK7 := (hK.drewN nq).kb hk7.below (by omega)
            have c1 := hC7.c1
            have f1 := hC7.f1
            have HC7 := Lib.hid hC7
            clear hb7 hC7
            go_wp2_with fail
            have hK9 := (Kp.refl [b] w7).setCell (p := ⟨b, 1, none⟩) (.inl (by simp)) (.int .i64 ((j : Int) + 1))
            go_roundg (t - j)
            case measure => omega
            case rel => exact ⟨j + 1, acc ++ [s[j]], by omega, by omega, by omega, by have h := HC7.out.set (j + 1); rwa [Int.natCast_add] at h, isB_kp (by rw [← bd_byteCells]; exact Hb7.out) hK9 (by simp; omega), by simp; omega, by rw [List.append_assoc]; exact HR1.out, by have := HR2.out; omega, hK7.trans hK9⟩
        · have hdl : (digitI s[j].toNat || (false && locC s[j].toNat)) = true := by rw [hd]; rfl
          rw [telS_dig _ _ _ hdl] at hr1 hr2
          have HR1 := Lib.hid hr1
          have HR2 := Lib.hid hr2
          have HD := Lib.hid hd
          clear hd hdl hr1 hr2 hst hsn hlp
          go_wp2_with fail
          go_quiet (fail)
          go_wp2_with fail
          refine (adigit_any _ _).mono ?_
          rintro e w5 ⟨rfl, rfl⟩
          rw [HD.out]
          go_wp2_with fail
          refine (writeByte_any w3.heap.size w3.heap.size _ _ _ (isB_kp HI.out ((Kp.refl [] wr).drewN nq) (by simp)) (by omega) (by simp; omega)).mono ?_
          rintro e w7 ⟨rfl, hb7, hk7⟩
          have Hb7 := Lib.hid (isB_of hb7 rfl)
          have hC7 : Cur b s j w7 := Blk.below (Blk.drewN HC4.out nq) hk7.below (by omega)
          have hK7 := (hK.drewN nq).kb hk7.below (by omega)
          have c1 := hC7.c1
          have f1 := hC7.f1
          have HC7 := Lib.hid hC7
          clear hb7 hC7
          go_wp2_with fail
          have hK9 := (Kp.refl [b] w7).setCell (p := ⟨b, 1, none⟩) (.inl (by simp)) (.int .i64 ((j : Int) + 1))
          go_roundg (t - j)
          case measure => omega
          case rel => exact ⟨j + 1, acc ++ [s[j]], by omega, by omega, by omega, by have h := HC7.out.set (j + 1); rwa [Int.natCast_add] at h, isB_kp (by rw [← bd_byteCells]; exact Hb7.out) hK9 (by simp; omega), by simp; omega, by rw [List.append_assoc]; exact HR1.out, by have := HR2.out; omega, hK7.trans hK9⟩
      · have hjt' : j = t := by omega
        have hsl : slc s.data.toList j t = [] := slc_nil _ _ _ (by omega)
        rw [hsl] at hr1 hr2
        have hr1' : acc = r1 := by simpa [telS] using hr1
        have hr2' : j = (k + 1) + r2 := by simpa [telS] using hr2
        have hV1 := HV.out.trans (by unfold telQ; rw [if_neg (by omega)])
        subst hr1'
        have HJT := Lib.hid hjt'
        clear hr1 hr2 hsl hr2' hjt'
        have hlb : (Lib.byteCells acc).length = acc.length := Lib.byteCells_length _
        have HLB := Lib.hid hlb
        have K4 := K3.to_ hK (by simp)
        have B4 := Lib.hid (B3.out.kp hK (by simp; omega))
        clear hlb
        by_cases he0 : acc = []
        · have HV2 := Lib.hid (hV1.trans (by rw [if_pos he0]))
          have bl : ((Lib.byteCells acc).length : Int) = 0 := by rw [he0]; rfl
          have BL := Lib.hid bl
          clear hV1 he0 bl
          go_wp2_with fail
          refine (Tryz.Builder_Len w3.heap.size w3.heap.size _ _ HI.out).mono ?_
          rintro e w5 ⟨rfl, hw5⟩
          obtain rfl := hw5.symm
          rw [BL.out]
          go_wp2_with fail
          refine (fail_k b j k 5 s _ HC4.out).mono ?_
          rintro e w6 ⟨rfl, C6, hK6⟩
          have HC6 := Lib.hid C6
          have HB6 := Lib.hid (B4.out.kp hK6 (by simp; omega))
          clear C6
          go_wp2_with fail
          go_ret
          rw [HV2.out]
          exact ⟨rfl, HC6.out, K4.to_ hK6 (by simp), [], HB6.out, fun h => by simp at h⟩
        · have hpos : 1 ≤ acc.length := by cases acc with | nil => exact absurd rfl he0 | cons a b => simp
          have bz : ((acc.length : Int) == 0) = false := by rw [beq_eq_false_iff_ne]; omega
          by_cases h30 : 30 < acc.length
          · have HV2 := Lib.hid (hV1.trans (by rw [if_neg he0, if_pos h30]))
            have b30 : (30 : Int) < (acc.length : Int) := by omega
            clear hV1 he0 h30
            go_wp2_with fail
            refine (Tryz.Builder_Len w3.heap.size w3.heap.size _ _ HI.out).mono ?_
            rintro e w5 ⟨rfl, hw5⟩
            obtain rfl := hw5.symm
            rw [HLB.out]
            go_wp2_with fail
            refine (Tryz.Builder_Len w3.heap.size w3.heap.size _ _ HI.out).mono ?_
            rintro e w5 ⟨rfl, hw5⟩
            obtain rfl := hw5.symm
            rw [HLB.out]
            go_wp2_with fail
            refine (fail_k b j k 4 s _ HC4.out).mono ?_
            rintro e w6 ⟨rfl, C6, hK6⟩
            have HC6 := Lib.hid C6
            have HB6 := Lib.hid (B4.out.kp hK6 (by simp; omega))
            clear C6
            go_wp2_with fail
            go_ret
            rw [HV2.out]
            exact ⟨rfl, HC6.out, K4.to_ hK6 (by simp), [], HB6.out, fun h => by simp at h⟩
          · have HV2 := Lib.hid (hV1.trans (by rw [if_neg he0, if_neg h30]))
            have b30 : ¬ (30 : Int) < (acc.length : Int) := by omega
            have hb1 : (⟨acc.toArray⟩ : ByteArray).toList.length ≤ 30 := by rw [Lib.toList_data]; simp; omega
            clear hV1 he0 h30
            go_wp2_with fail
            refine (Tryz.Builder_Len w3.heap.size w3.heap.size _ _ HI.out).mono ?_
            rintro e w5 ⟨rfl, hw5⟩
            obtain rfl := hw5.symm
            rw [HLB.out]
            go_wp2_with fail
            refine (Tryz.Builder_Len w3.heap.size w3.heap.size _ _ HI.out).mono ?_
            rintro e w5 ⟨rfl, hw5⟩
            obtain rfl := hw5.symm
            rw [HLB.out]
            go_wp2_with fail
            refine (string_any w3.heap.size w3.heap.size acc _ HI.out (by omega)).mono ?_
            rintro e w6 ⟨rfl, hk6, _⟩
            have K6 := hK.kb hk6.below (Nat.le_refl _)
            have B6 := Lib.hid (B3.out.kp K6 (by simp; omega))
            have C6 := Lib.hid (show Cur b s j w6 from Blk.below HC4.out hk6.below (by omega))
            have u1 := B6.out.cell 1
            have g1 := B6.out.frozen 1
            have c0 := C6.out.c0
            go_wp2_with fail
            have hcat : (⟨#[43]⟩ : ByteArray) ++ (⟨acc.toArray⟩ : ByteArray) = Txt ([43] ++ acc) := cat_txt [43] acc
            rw [hcat]
            go_ret
            rw [HV2.out]
            exact ⟨rfl, (by have h := C6.out; rw [HJT.out] at h; exact h.far (p := ⟨bu, 1, none⟩) hne _), (K3.to_ K6 (by simp)).setCell (p := ⟨bu, 1, none⟩) (.inl (by simp)) _, [43] ++ acc, B6.out.set_ 1 (.string (Txt ([43] ++ acc))), fun _ => rfl⟩
  · have t43 : (nxt s.data.toList k == 43) = false := by rw [nxt_eq _ _ _ (by decide) (by decide)]; exact beq_eq_false_iff_ne.2 h43
    have T43 := Lib.hid t43
    have HV := Lib.hid (hV0.trans (by rw [if_neg h43]))
    obtain ⟨r1, r2, hr⟩ : ∃ r1 r2, telS true (slc s.data.toList k t) = (r1, r2) := ⟨_, _, rfl⟩
    have HR := Lib.hid hr
    rw [hr] at HV
    clear h43 t43 ht hV0 hr
    go_enter Tryz.func206, Tryz.ntmps206
    go_wp2_with fail
    go_quiet ((go_at_call 213; exact Calls.quiet_of_same (end_q (· == 59) s ⟨#[59]⟩ k _ hs hk m59)))
    rw [HT.out]
    obtain ⟨w2, hw2⟩ : ∃ w2, w.drewN nq = w2 := ⟨_, rfl⟩
    rw [hw2]
    have C2 : Cur b s k w2 := by rw [← hw2]; exact HC.out
    have K2 : Kp [b, bu] w w2 := by rw [← hw2]; exact h7u.drewN _
    have B2 := Lib.hid (by rw [← hw2]; exact HB.out : Urb w2 bu S (.string (Txt [])) H P vp vh)
    clear hw2 c0 c1
    have H2 := Lib.hid C2
    clear C2
    go_wp2_with fail
    refine (take_no b k 43 s _ hs hk H2.out T43.out).mono ?_
    rintro e w3 ⟨rfl, C3, hK3⟩
    have K3 := K2.to_ hK3 (by simp)
    have B3 := Lib.hid (B2.out.kp hK3 (by simp; omega))
    have H3 := Lib.hid C3
    have hs3 := K3.size
    clear C3 hK3
    go_wp2_with fail
    go_loopg [10] (s.size + 1) (fun gg _ wr => ∃ (j : Nat) (acc : List UInt8), k ≤ j ∧ j ≤ t ∧ t - j < gg ∧ Cur b s j wr ∧ IsB w3.heap.size w3.heap.size (Lib.byteCells acc) wr ∧ acc.length ≤ j ∧ acc ++ (telS true (slc s.data.toList j t)).1 = r1 ∧ j + (telS true (slc s.data.toList j t)).2 = k + r2 ∧ Kp [b] w3 wr)
    case atStart => exact ⟨k, [], Nat.le_refl _, hkt, by omega, H3.out.alloc _, fresh_isB w3, Nat.zero_le _, by rw [HR.out]; rfl, by rw [HR.out], (Kp.refl [b] w3).alloc _⟩
    case round =>
      obtain ⟨j, acc, hj0, hjt, hg, hC, hI, hal, hr1, hr2, hK⟩ := hrel
      have c0 := hC.c0
      have c1 := hC.c1
      have f1 := hC.f1
      have HC4 := Lib.hid hC
      have HI := Lib.hid hI
      have hszr := hK.size
      have hlen : (Lib.byteCells acc).length ≤ j := by rw [Lib.byteCells_length]; exact hal
      clear hC hI
      by_cases hlt4 : j < t
      · have hjs : j < s.size := by omega
        have hst := slc_step s j t hlt4 hts
        rw [hst] at hr1 hr2
        have hsn := sep_neg s[j]
        have hlp := loc_pos s[j]
        cases hd : digitI s[j].toNat
        · cases hl : (true && locC s[j].toNat)
          · have hdl : (digitI s[j].toNat || (true && locC s[j].toNat)) = false := by rw [hd, hl]; rfl
            cases hsp : sepC s[j].toNat
            · rw [telS_bad _ _ _ hdl hsp] at hr1 hr2
              have hlt5 : r2 < t - k := by simp at hr2; omega
              have hjr : j = k + r2 := by simpa using hr2
              have HV2 := Lib.hid (HV.out.trans (by unfold telQ; rw [if_pos hlt5] : _ = (([] : List UInt8), k + r2, (5 : Int))))
              have HJ := Lib.hid hjr
              have HD := Lib.hid hd
              rw [hsp] at hsn
              rw [hl] at hlp
              have HLP := Lib.hid hlp
              have HSN := Lib.hid hsn
              clear hd hl hsp hdl hjr hr1 hr2 hst hsn hlp
              go_wp2_with fail
              go_quiet (fail)
              go_wp2_with fail
              refine (adigit_any _ _).mono ?_
              rintro e w5 ⟨rfl, rfl⟩
              rw [HD.out]
              go_wp2_with fail
              refine (Tryz.strings_IndexByte _ _ _).mono ?_
              rintro e w6 ⟨rfl, rfl⟩
              have hlp := HLP.out
              go_wp2_with fail
              refine (Tryz.strings_IndexByte _ _ _).mono ?_
              rintro e w6 ⟨rfl, rfl⟩
              have hsn := HSN.out
              go_wp2_with fail
              go_ret
              rw [HV2.out]
              exact ⟨rfl, by have h := HC4.out; rw [HJ.out] at h; exact h, (K3.to_ hK (by simp)).drewN _, [], Blk.drewN (B3.out.kp hK (by simp; omega)) _, fun h => by simp at h⟩
            · rw [telS_sep _ _ _ hdl hsp] at hr1 hr2
              have HR1 := Lib.hid hr1
              have HR2 := Lib.hid hr2
              have HD := Lib.hid hd
              rw [hsp] at hsn
              rw [hl] at hlp
              have HLP := Lib.hid hlp
              have HSN := Lib.hid hsn
              clear hd hl hsp hdl hr1 hr2 hst hsn hlp
              go_wp2_with fail
              go_quiet (fail)
              go_wp2_with fail
              refine (adigit_any _ _).mono ?_
              rintro e w5 ⟨rfl, rfl⟩
              rw [HD.out]
              go_wp2_with fail
              refine (Tryz.strings_IndexByte _ _ _).mono ?_
              rintro e w6 ⟨rfl, rfl⟩
              have hlp := HLP.out
              go_wp2_with fail
              refine (Tryz.strings_IndexByte _ _ _).mono ?_
              rintro e w6 ⟨rfl, rfl⟩
              have hsn := HSN.out
              go_wp2_with fail
              have hK9 := ((Kp.refl [b] wr).drewN nq).setCell (p := ⟨b, 1, none⟩) (.inl (by simp)) (.int .i64 ((j : Int) + 1))
              go_roundg (t - j)
              case measure => omega
              case rel => exact ⟨j + 1, acc, by omega, by omega, by omega, by have h := (show Cur b s j (wr.drewN nq) from Blk.drewN HC4.out nq).set (j + 1); rwa [Int.natCast_add] at h, isB_kp HI.out hK9 (by simp; omega), by omega, HR1.out, by have := HR2.out; omega, hK.trans hK9⟩
          · have hdl : (digitI s[j].toNat || (true && locC s[j].toNat)) = true := by rw [hd, hl]; rfl
            rw [telS_dig _ _ _ hdl] at hr1 hr2
            have HR1 := Lib.hid hr1
            have HR2 := Lib.hid hr2
            have HD := Lib.hid hd
            rw [hl] at hlp
            have HLP := Lib.hid hlp
            clear hd hl hdl hr1 hr2 hst hsn hlp
            go_wp2_with fail
            go_quiet (fail)
            go_wp2_with fail
            refine (adigit_any _ _).mono ?_
            rintro e w5 ⟨rfl, rfl⟩
            rw [HD.out]
            go_wp2_with fail
            refine (Tryz.strings_IndexByte _ _ _).mono ?_
            rintro e w6 ⟨rfl, rfl⟩
            have hlp := HLP.out
            go_wp2_with fail
            refine (writeByte_any w3.heap.size w3.heap.size _ _ _ (isB_kp HI.out ((Kp.refl [] wr).drewN nq) (by simp)) (by omega) (by simp; omega)).mono ?_
            rintro e w7 ⟨rfl, hb7, hk7⟩
            have Hb7 := Lib.hid (isB_of hb7 rfl)
            have hC7 : Cur b s j w7 := Blk.below (Blk.drewN HC4.out nq) hk7.below (by omega)
            have hK7 := (hK.drewN nq).kb hk7.below (by omega)
            have c1 := hC7.c1
            have f1 := hC7.f1
            have HC7 := Lib.hid hC7
            clear hb7 hC7
            go_wp2_with fail
            have hK9 := (Kp.refl [b] w7).setCell (p := ⟨b, 1, none⟩) (.inl (by simp)) (.int .i64 ((j : Int) + 1))
            go_roundg (t - j)
            case measure => omega
            case rel => exact ⟨j + 1, acc ++ [s[j]], by omega, by omega, by omega, by have h := HC7.out.set (j + 1); rwa [Int.natCast_add] at h, isB_kp (by rw [← bd_byteCells]; exact Hb7.out) hK9 (by simp; omega), by simp; omega, by rw [List.append_assoc]; exact HR1.out, by have := HR2.out; omega, hK7.trans hK9⟩
        · have hdl : (digitI s[j].toNat || (true && locC s[j].toNat)) = true := by rw [hd]; rfl
          rw [telS_dig _ _ _ hdl] at hr1 hr2
          have HR1 := Lib.hid hr1
          have HR2 := Lib.hid hr2
          have HD := Lib.hid hd
          clear hd hdl hr1 hr2 hst hsn hlp
          go_wp2_with fail
          go_quiet (fail)
          go_wp2_with fail
          refine (adigit_any _ _).mono ?_
          rintro e w5 ⟨rfl, rfl⟩
          rw [HD.out]
          go_wp2_with fail
          refine (writeByte_any w3.heap.size w3.heap.size _ _ _ (isB_kp HI.out ((Kp.refl [] wr).drewN nq) (by simp)) (by omega) (by simp; omega)).mono ?_
          rintro e w7 ⟨rfl, hb7, hk7⟩
          have Hb7 := Lib.hid (isB_of hb7 rfl)
          have hC7 : Cur b s j w7 := Blk.below (Blk.drewN HC4.out nq) hk7.below (by omega)
          have hK7 := (hK.drewN nq).kb hk7.below (by omega)
          have c1 := hC7.c1
          have f1 := hC7.f1
          have HC7 := Lib.hid hC7
          clear hb7 hC7
          go_wp2_with fail
          have hK9 := (Kp.refl [b] w7).setCell (p := ⟨b, 1, none⟩) (.inl (by simp)) (.int .i64 ((j : Int) + 1))
          go_roundg (t - j)
          case measure => omega
          case rel => exact ⟨j + 1, acc ++ [s[j]], by omega, by omega, by omega, by have h := HC7.out.set (j + 1); rwa [Int.natCast_add] at h, isB_kp (by rw [← bd_byteCells]; exact Hb7.out) hK9 (by simp; omega), by simp; omega, by rw [List.append_assoc]; exact HR1.out, by have := HR2.out; omega, hK7.trans hK9⟩
      · have hjt' : j = t := by omega
        have hsl : slc s.data.toList j t = [] := slc_nil _ _ _ (by omega)
        rw [hsl] at hr1 hr2
        have hr1' : acc = r1 := by simpa [telS] using hr1
        have hr2' : j = k + r2 := by simpa [telS] using hr2
        have hV1 := HV.out.trans (by unfold telQ; rw [if_neg (by omega)])
        subst hr1'
        have HJT := Lib.hid hjt'
        clear hr1 hr2 hsl hr2' hjt'
        have hlb : (Lib.byteCells acc).length = acc.length := Lib.byteCells_length _
        have HLB := Lib.hid hlb
        have K4 := K3.to_ hK (by simp)
        have B4 := Lib.hid (B3.out.kp hK (by simp; omega))
        clear hlb
        by_cases he0 : acc = []
        · have HV2 := Lib.hid (hV1.trans (by rw [if_pos he0]))
          have bl : ((Lib.byteCells acc).length : Int) = 0 := by rw [he0]; rfl
          have BL := Lib.hid bl
          clear hV1 he0 bl
          go_wp2_with fail
          refine (Tryz.Builder_Len w3.heap.size w3.heap.size _ _ HI.out).mono ?_
          rintro e w5 ⟨rfl, hw5⟩
          obtain rfl := hw5.symm
          rw [BL.out]
          go_wp2_with fail
          refine (fail_k b j k 5 s _ HC4.out).mono ?_
          rintro e w6 ⟨rfl, C6, hK6⟩
          have HC6 := Lib.hid C6
          have HB6 := Lib.hid (B4.out.kp hK6 (by simp; omega))
          clear C6
          go_wp2_with fail
          go_ret
          rw [HV2.out]
          exact ⟨rfl, HC6.out, K4.to_ hK6 (by simp), [], HB6.out, fun h => by simp at h⟩
        · have hpos : 1 ≤ acc.length := by cases acc with | nil => exact absurd rfl he0 | cons a b => simp
          have bz : ((acc.length : Int) == 0) = false := by rw [beq_eq_false_iff_ne]; omega
          by_cases h30 : 30 < acc.length
          · have HV2 := Lib.hid (hV1.trans (by rw [if_neg he0, if_pos h30]))
            have b30 : (30 : Int) < (acc.length : Int) := by omega
            clear hV1 he0 h30
            go_wp2_with fail
            refine (Tryz.Builder_Len w3.heap.size w3.heap.size _ _ HI.out).mono ?_
            rintro e w5 ⟨rfl, hw5⟩
            obtain rfl := hw5.symm
            rw [HLB.out]
            go_wp2_with fail
            refine (Tryz.Builder_Len w3.heap.size w3.heap.size _ _ HI.out).mono ?_
            rintro e w5 ⟨rfl, hw5⟩
            obtain rfl := hw5.symm
            rw [HLB.out]
            go_wp2_with fail
            refine (fail_k b j k 4 s _ HC4.out).mono ?_
            rintro e w6 ⟨rfl, C6, hK6⟩
            have HC6 := Lib.hid C6
            have HB6 := Lib.hid (B4.out.kp hK6 (by simp; omega))
            clear C6
            go_wp2_with fail
            go_ret
            rw [HV2.out]
            exact ⟨rfl, HC6.out, K4.to_ hK6 (by simp), [], HB6.out, fun h => by simp at h⟩
          · have HV2 := Lib.hid (hV1.trans (by rw [if_neg he0, if_neg h30]))
            have b30 : ¬ (30 : Int) < (acc.length : Int) := by omega
            have hb1 : (⟨acc.toArray⟩ : ByteArray).toList.length ≤ 30 := by rw [Lib.toList_data]; simp; omega
            clear hV1 he0 h30
            go_wp2_with fail
            refine (Tryz.Builder_Len w3.heap.size w3.heap.size _ _ HI.out).mono ?_
            rintro e w5 ⟨rfl, hw5⟩
            obtain rfl := hw5.symm
            rw [HLB.out]
            go_wp2_with fail
            refine (Tryz.Builder_Len w3.heap.size w3.heap.size _ _ HI.out).mono ?_
            rintro e w5 ⟨rfl, hw5⟩
            obtain rfl := hw5.symm
            rw [HLB.out]
            go_wp2_with fail
            refine (string_any w3.heap.size w3.heap.size acc _ HI.out (by omega)).mono ?_
            rintro e w6 ⟨rfl, hk6, _⟩
            have K6 := hK.kb hk6.below (Nat.le_refl _)
            have B6 := Lib.hid (B3.out.kp K6 (by simp; omega))
            have C6 := Lib.hid (show Cur b s j w6 from Blk.below HC4.out hk6.below (by omega))
            have u1 := B6.out.cell 1
            have g1 := B6.out.frozen 1
            have c0 := C6.out.c0
            go_wp2_with fail
            have hcat : (⟨#[]⟩ : ByteArray) ++ (⟨acc.toArray⟩ : ByteArray) = Txt ([] ++ acc) := cat_txt [] acc
            rw [hcat]
            go_ret
            rw [HV2.out]
            exact ⟨rfl, (by have h := C6.out; rw [HJT.out] at h; exact h.far (p := ⟨bu, 1, none⟩) hne _), (K3.to_ K6 (by simp)).setCell (p := ⟨bu, 1, none⟩) (.inl (by simp)) _, [] ++ acc, B6.out.set_ 1 (.string (Txt ([] ++ acc))), fun _ => rfl⟩
end Ad
end Go.Proofs.YtmmjfofdnpafkaaGreatDoor
