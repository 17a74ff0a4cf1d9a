/- Contract of the reference's reader's user (dialtoneref02). A text has at most 2^21 bytes. -/
import Derived.Test.YtonbkedjlbhpfaaGreatDoorAdVp
import Derived.StillTailTactics
namespace Go.Proofs.YtonbkedjlbhpfaaGreatDoor
namespace Ad
open Go.RowKit Lx

theorem mem64 (c : Int) : memB (ByteArray.mk #[64]).data.toList c = (c == 64) := by
  unfold memB
  simp only [List.any_cons, List.any_nil, Bool.or_false]
  rw [Bool.eq_iff_iff]; simp only [beq_iff_eq]; exact eq_comm
theorem wrdR_colon (n : Nat) : ∀ (a b : List UInt8), a.length ≤ n → (∀ c ∈ a, c.toNat ≠ 58) → wrdR 0 (a ++ (58 : UInt8) :: b) = wrdR 0 a := by
  have e58 : hexV ((58 : UInt8).toNat : Int) = -1 := by decide
  have bad : ∀ (c : UInt8) (t : List UInt8), c.toNat = 37 → escV (c :: t) < 0 → wrdR 0 (c :: t) = ([], 0) := fun c t h h2 => wrdR_bad 0 c t h (.inl h2)
  induction n with
  | zero =>
    intro a b hl _
    obtain rfl : a = [] := List.eq_nil_of_length_eq_zero (by omega)
    exact (wrdR_stop 0 58 b (by decide) (by decide)).trans (by rw [wrdR.eq_def])
  | succ n ih =>
    intro a b hl hn
    match a, hl, hn with
    | [], _, _ => exact (wrdR_stop 0 58 b (by decide) (by decide)).trans (by rw [wrdR.eq_def])
    | c :: t, hl, hn =>
      have hl' : t.length ≤ n := by simpa using hl
      have hn' : ∀ d ∈ t, d.toNat ≠ 58 := fun d hd => hn d (by simp [hd])
      by_cases h37 : c.toNat = 37
      · match t, hl', hn' with
        | [], _, _ =>
          rw [bad c [] h37 (by simp [escV])]
          refine bad c (58 :: b) h37 ?_
          cases b with
          | nil => simp [escV]
          | cons d r => simp only [escV, e58]; rw [if_neg (by omega)]; decide
        | [x], _, _ =>
          rw [bad c [x] h37 (by simp [escV])]
          refine bad c (x :: 58 :: b) h37 ?_
          simp only [escV, e58]; rw [if_neg (by omega)]; decide
        | x :: y :: r, hl', hn' =>
          have e := ih r b (by simp at hl'; omega) (fun d hd => hn' d (by simp [hd]))
          have hv : escV (c :: x :: y :: (r ++ 58 :: b)) = escV (c :: x :: y :: r) := rfl
          rw [List.cons_append, List.cons_append, List.cons_append]
          by_cases h : 0 ≤ escV (c :: x :: y :: r) ∧ ctlI (escV (c :: x :: y :: r)) = false
          · rw [wrdR_esc 0 c _ h.1 h.2, wrdR_esc 0 c (x :: y :: (r ++ 58 :: b)) (by rw [hv]; exact h.1) (by rw [hv]; exact h.2), hv]
            simp only [List.drop_succ_cons, List.drop_zero, e]
          · have h3 : escV (c :: x :: y :: r) < 0 ∨ ctlI (escV (c :: x :: y :: r)) = true := by
              by_cases h4 : 0 ≤ escV (c :: x :: y :: r)
              · right
                cases h5 : ctlI (escV (c :: x :: y :: r))
                · exact absurd ⟨h4, h5⟩ h
                · rfl
              · left; omega
            rw [wrdR_bad 0 c _ h37 h3, wrdR_bad 0 c (x :: y :: (r ++ 58 :: b)) h37 (by rw [hv]; exact h3)]
      · cases hc : inC 0 c.toNat
        · rw [List.cons_append, wrdR_stop 0 c _ h37 hc, wrdR_stop 0 c _ h37 hc]
        · rw [List.cons_append, wrdR_plain 0 c _ h37 hc, wrdR_plain 0 c _ h37 hc, ih t b hl' hn']
theorem slc_split (l : List UInt8) (i c te : Nat) (h1 : i ≤ c) (h2 : c < te) (h3 : te ≤ l.length) : ∃ x r, slc l i te = slc l i c ++ x :: r ∧ atB l c = x.toNat := by
  obtain ⟨x, hx⟩ : ∃ x, l[c]? = some x := ⟨l[c]'(by omega), List.getElem?_eq_getElem (by omega)⟩
  refine ⟨x, slc l (c + 1) te, ?_, by unfold atB; rw [hx]⟩
  have hl : c < l.length := by omega
  obtain ⟨p, q, e, hp⟩ : ∃ p q, l = p ++ x :: q ∧ p.length = c := ⟨l.take c, l.drop (c + 1), by
    have := List.getElem?_eq_some_iff.1 hx
    obtain ⟨h, e⟩ := this
    rw [← e, List.getElem_cons_drop, List.take_append_drop], by simp; omega⟩
  subst e
  subst hp
  obtain ⟨m, rfl⟩ : ∃ m, te = p.length + (m + 1) := ⟨te - p.length - 1, by omega⟩
  unfold slc
  rw [List.take_append_of_le_length (Nat.le_refl _), List.take_length]
  rw [List.take_length_add_append, List.take_succ_cons]
  rw [List.drop_append_of_le_length h1]
  congr 1
  rw [List.drop_append, List.drop_eq_nil_of_le (by omega)]
  simp
theorem endP_before (p : Int → Bool) (l : List UInt8) (k j : Nat) (h1 : k ≤ j) (h2 : j < endP p l k) (h3 : j < l.length) : p (atB l j) = false := by
  unfold endP at h2
  have e : atB l j = atB (l.drop k) (j - k) := by unfold atB; rw [List.getElem?_drop, show k + (j - k) = j from by omega]
  rw [e]
  have h4 : j - k < runL (fun c => !p c) (l.drop k) := by omega
  have h5 : j - k < (l.drop k).length := by simp; omega
  generalize j - k = m at *
  generalize l.drop k = r at *
  clear e h1 h2 h3
  induction r generalizing m with
  | nil => simp at h5
  | cons c t ih =>
    unfold runL at h4
    by_cases hc : p c.toNat = true
    · rw [if_neg (by simp [hc])] at h4; omega
    · rw [if_pos (by simpa using hc)] at h4
      cases m with
      | zero => simpa [atB] using hc
      | succ m => exact ih m (by omega) (by simpa using h5)
theorem usr_colon (l : List UInt8) (i c te : Nat) (h1 : endP (· == 58) l i = c) (hte : endP (· == 64) l i = te) (h2 : c < te) (h3 : te < l.length) :
    usrR l i = if (wrdR 0 (slc l i c)).2 < c - i then ([], i + (wrdR 0 (slc l i c)).2, 5) else ([], c, 15) := by
  have hic : i ≤ c := by rw [← h1]; exact endP_ge _ _ _
  obtain ⟨x, r, e, hx⟩ := slc_split l i c te hic h2 (by omega)
  have hx58 : x = 58 := by
    have := endP_at (· == 58) l i (by rw [h1]; omega)
    rw [h1, hx] at this
    have h : (x.toNat : Int) = 58 := by simpa using this
    exact UInt8.toNat_inj.1 (by have : x.toNat = 58 := by omega
                                rw [this]; rfl)
  subst hx58
  have hno : ∀ d ∈ slc l i c, d.toNat ≠ 58 := by
    intro d hd hd58
    obtain ⟨m, hm, e⟩ := List.mem_iff_getElem.1 hd
    have hml : m < c - i := by have := slc_le l i c; omega
    have hb := endP_before (· == 58) l i (i + m) (by omega) (by rw [h1]; omega) (by omega)
    have he : atB l (i + m) = d.toNat := by
      have e3 : (slc l i c)[m]? = some d := by rw [← e]; exact List.getElem?_eq_getElem hm
      have e4 : l[i + m]? = some d := by
        unfold slc at e3
        rw [List.getElem?_drop, List.getElem?_take_of_lt (by omega)] at e3
        exact e3
      unfold atB; rw [e4]
    rw [he, hd58] at hb
    exact absurd hb (by decide)
  have ew := wrdR_colon _ (slc l i c) r (Nat.le_refl _) hno
  have hle := wrd_le 0 (slc l i c)
  have hsl := slc_len l i c (by omega)
  unfold usrR
  rw [hte, if_neg (by omega), e, ew, if_pos (by omega)]
  by_cases hlt : (wrdR 0 (slc l i c)).2 < c - i
  · rw [if_pos hlt, if_neg]
    intro h58
    have hb := endP_before (· == 58) l i (i + (wrdR 0 (slc l i c)).2) (by omega) (by rw [h1]; omega) (by omega)
    rw [h58] at hb
    exact absurd hb (by decide)
  · rw [if_neg hlt]
    have : i + (wrdR 0 (slc l i c)).2 = c := by omega
    rw [this, hx, if_pos (by decide)]
theorem usr_plain (l : List UInt8) (i c te : Nat) (h1 : endP (· == 58) l i = c) (hte : endP (· == 64) l i = te) (h2 : te ≤ c) (h3 : te < l.length) :
    usrR l i = if (wrdR 0 (slc l i te)).2 < te - i then ([], i + (wrdR 0 (slc l i te)).2, 5) else if te = i then ([], i, 5) else ((wrdR 0 (slc l i te)).1, te + 1, 0) := by
  have hit : i ≤ te := by rw [← hte]; exact endP_ge _ _ _
  have hsl := slc_len l i te (by omega)
  unfold usrR
  rw [hte, if_neg (by omega)]
  by_cases hlt : (wrdR 0 (slc l i te)).2 < te - i
  · rw [if_pos hlt, if_pos hlt, if_neg]
    intro h58
    have hb := endP_before (· == 58) l i (i + (wrdR 0 (slc l i te)).2) (by omega) (by rw [h1]; omega) (by omega)
    rw [h58] at hb
    exact absurd hb (by decide)
  · rw [if_neg hlt, if_neg hlt]
    by_cases he : te = i
    · rw [if_pos he, if_pos]
      · rw [he]
      · rw [slc_nil _ _ _ (by omega)]; rw [wrdR.eq_def]
    · rw [if_neg he, if_neg]
      intro h
      have := wrdR_empty 0 (slc l i te) (by omega) h
      rw [this] at hsl
      simp at hsl; omega
set_option maxRecDepth 100000 in
set_option maxHeartbeats 8000000 in
theorem ruser_any (b i : Nat) (s : ByteArray) (w : World) (R : Rdr b s i 0 0 w) (hi : i ≤ s.size) (hs : s.size ≤ 2097152) :
    Calls Tryz.prog 73 #[.pointer (some ⟨b, 0, none⟩)] w (RdT b s (usrR s.data.toList i) w) := by
  have hbw := R.lt
  have HRd := Lib.hid R
  obtain ⟨te, hte⟩ : ∃ n, endP (· == 64) s.data.toList i = n := ⟨_, rfl⟩
  have g0 : i ≤ te := by rw [← hte]; exact endP_ge _ _ _
  have l0 : te ≤ s.size := by rw [← hte, ← len_list]; exact endP_le _ _ _ (by rw [len_list]; exact hi)
  obtain ⟨c, hc⟩ : ∃ n, endP (· == 58) s.data.toList i = n := ⟨_, rfl⟩
  have HUn := Lib.hid (by have h := runtil_any (· == 64) b i 0 s ⟨#[64]⟩ 0 w R hi hs (by decide) mem64; rw [hte] at h; exact h : Calls Tryz.prog 72 #[.pointer (some ⟨b, 0, none⟩), .string ⟨#[64]⟩] w (InK (te : Nat) w))
  by_cases hts : te = s.size
  · have HF := Lib.hid (by unfold usrR; rw [hte, len_list, if_pos hts] : usrR s.data.toList i = ([], i, 0))
    have be : ((te : Int) == (s.size : Int)) = true := by rw [hts]; simp
    clear R hte hc hts
    go_enter Tryz.func73, Tryz.ntmps73
    go_wp2_with fail
    refine HUn.out.mono ?_
    rintro e w1 ⟨rfl, hK1⟩
    have R1 := Lib.hid (HRd.out.kp hK1 (by simp))
    have K1 := Lib.hid (hK1.mono (Y := [b]) (by simp))
    have c0 := R1.out.c0
    clear hK1
    go_wp2_with fail
    go_ret
    unfold RdT
    rw [HF.out]
    exact ⟨_, i, rfl, hi, R1.out, K1.out, fun _ => ⟨rfl, rfl⟩⟩
  · have be : ((te : Int) == (s.size : Int)) = false := by rw [beq_eq_false_iff_ne]; omega
    have hlt : te < s.size := by omega
    have HV1 := Lib.hid (fun (h : c < te) => usr_colon s.data.toList i c te hc hte h (by rw [len_list]; exact hlt))
    have HV2 := Lib.hid (fun (h : te ≤ c) => usr_plain s.data.toList i c te hc hte h (by rw [len_list]; exact hlt))
    have Hc := Lib.hid hc
    clear R hte hc hts
    go_enter Tryz.func73, Tryz.ntmps73
    go_wp2_with fail
    refine HUn.out.mono ?_
    rintro e w1 ⟨rfl, hK1⟩
    have R1 := Lib.hid (HRd.out.kp hK1 (by simp))
    have K1 := Lib.hid (hK1.mono (Y := [b]) (by simp))
    have hsz1 := hK1.size
    have c0 := R1.out.c0
    have c1 := R1.out.c1
    clear hK1
    go_wp2_with fail
    go_loop [4] (fun k => ∃ j : Nat, i ≤ j ∧ j ≤ te ∧ k = .int .i64 j ∧ endP (· == 58) s.data.toList j = c) (fun k => te - (intOf k).toNat)
    case atStart => exact ⟨i, Nat.le_refl _, g0, rfl, Hc.out⟩
    case round =>
      obtain ⟨j, hij, hjt, rfl, he⟩ := hrel
      have He := Lib.hid he
      clear he
      by_cases hjte : j < te
      · have hjs : j < s.size := by omega
        obtain ⟨x, hx⟩ : ∃ x : Int, (s[j].toNat : Int) = x := ⟨_, rfl⟩
        cases hpc : (x == 58)
        · have HN := Lib.hid ((endP_next (· == 58) s j hjs (by rw [hx]; exact hpc)).symm.trans He.out)
          have hpc2 : ((s[j].toNat : Int) == 58) = false := by rw [hx]; exact hpc
          clear hpc hx
          go_wp2_with fail
          go_round
          case rel => exact ⟨j + 1, by omega, by omega, by go_num, HN.out⟩
          case measure => simp [intOf]; omega
        · have hcj : c = j := He.out.symm.trans (endP_at_k (· == 58) s j hjs (by rw [hx]; exact hpc))
          have hpc2 : ((s[j].toNat : Int) == 58) = true := by rw [hx]; exact hpc
          have HF := Lib.hid (by have h := HV1.out (by omega); rw [hcj] at h; exact h : usrR s.data.toList i = if (wrdR 0 (slc s.data.toList i j)).2 < j - i then ([], i + (wrdR 0 (slc s.data.toList i j)).2, 5) else ([], j, 15))
          clear hpc hx hcj HV1 HV2 Hc
          go_wp2_with fail
          go_still_tail 9, (by kernel_rfl)
          change wpList _ _ _ _ _ w1.drew
          obtain ⟨w2, hw2⟩ : ∃ w2, w1.drew = w2 := ⟨_, rfl⟩
          rw [hw2]
          have R2 := Lib.hid (show Rdr b s i 0 0 w2 from by rw [← hw2]; exact R1.out)
          have K2 := Lib.hid (show Kp [b] w w2 from by rw [← hw2]; exact K1.out.drew)
          clear hw2 c0 c1
          have hsz2 := K2.out.size
          have hb2 := R2.out.lt
          obtain ⟨g, hg⟩ : ∃ g, w2.heap.size = g := ⟨_, rfl⟩
          obtain ⟨wA, hwA⟩ : ∃ wA, w2.alloc (.cells #[.string s, .int .i64 i, .int .i64 0, .int .u8 0] 92) = wA := ⟨_, rfl⟩
          have RP := Lib.hid (show Rdr g s i 0 0 wA from by rw [← hwA, ← hg]; exact Blk.new w2 _ _)
          have RA := Lib.hid (show Rdr b s i 0 0 wA from by rw [← hwA]; exact Blk.alloc R2.out _)
          have KA := Lib.hid (show Kp [b] w wA from by rw [← hwA]; exact K2.out.alloc _)
          have hgb : g ≠ b := by omega
          have hgw : w.heap.size ≤ g := by omega
          go_wp2_with fail
          skip
          refine (rcontent_any 0 g i 0 j s 0 wA RP.out hij (by omega) hs).mono ?_
          rintro e w3 ⟨t, i', p', e', rfl, hR3, hK3, hif⟩
          have R3 := Lib.hid (RA.out.kp hK3 (by simp; omega))
          have K3 := Lib.hid (KA.out.to_ hK3 (by intro y hy; right; rw [List.mem_singleton.1 hy]; exact hgw))
          have c2 := hR3.c2
          have c3 := hR3.c3
          have Hif := Lib.hid hif
          clear hR3 hK3 hif
          go_wp2_with fail
          go_still_tail 9, (by kernel_rfl)
          change wpList _ _ _ _ _ w3.drew
          obtain ⟨w4, hw4⟩ : ∃ w4, w3.drew = w4 := ⟨_, rfl⟩
          rw [hw4]
          have R4 := Lib.hid (show Rdr b s i 0 0 w4 from by rw [← hw4]; exact R3.out)
          have K4 := Lib.hid (show Kp [b] w w4 from by rw [← hw4]; exact K3.out.drew)
          clear hw4 c2 c3
          go_wp2_with fail
          refine (rfail_yes b i 0 p' s e' _ R4.out).mono ?_
          rintro e w5 ⟨rfl, hR5, hK5⟩
          have R5 := Lib.hid hR5
          have K5 := Lib.hid (K4.out.trans hK5)
          clear hR5 hK5
          go_wp2_with fail
          refine (rfail_any b i p' j s e' 15 _ R5.out).mono ?_
          rintro e w6 ⟨rfl, hR6, hK6⟩
          have R6 := Lib.hid hR6
          have K6 := Lib.hid (K5.out.trans hK6)
          clear hR6 hK6
          go_wp2_with fail
          go_ret
          unfold RdT
          rw [HF.out]
          have h6 := R6.out
          have hi6 := Hif.out
          by_cases hw : (wrdR 0 (slc s.data.toList i j)).2 < j - i
          · rw [if_pos hw] at hi6 ⊢
            obtain ⟨_, _, h7, h8⟩ := hi6
            simp only [eq_self_iff_true, if_true] at h7 h8
            subst h8
            rw [if_neg (by decide), if_neg (by decide), h7] at h6
            exact ⟨_, i, rfl, hi, by dsimp only; rw [if_neg (by decide)]; exact h6, K6.out, fun h => by simp at h⟩
          · rw [if_neg hw] at hi6 ⊢
            obtain ⟨_, _, h7, h8⟩ := hi6
            subst h8
            rw [if_pos rfl, if_pos rfl] at h6
            exact ⟨_, i, rfl, hi, by dsimp only; rw [if_neg (by decide)]; exact h6, K6.out, fun h => by simp at h⟩
      · have hj : j = te := by omega
        have htc : te ≤ c := by rw [← He.out, hj]; exact endP_ge _ _ _
        have HF := Lib.hid (HV2.out htc)
        clear htc
        subst hj
        by_cases hji : j = i
        · subst hji
          have bi : ((j : Int) == (j : Int)) = true := by simp
          go_wp2_with fail
          refine (rfail_yes b j 0 j s 5 _ R1.out).mono ?_
          rintro e w5 ⟨rfl, hR5, hK5⟩
          have R5 := Lib.hid hR5
          have K5 := Lib.hid (K1.out.trans hK5)
          clear hR5 hK5 c0 c1
          go_wp2_with fail
          refine (rcontent_any 0 b j j j s 5 _ R5.out (Nat.le_refl _) l0 hs).mono ?_
          rintro e w6 ⟨t, i', p', e', rfl, hR6, hK6, hif⟩
          rw [if_neg (by omega)] at hif
          obtain ⟨_, hq1, hq2, hq3⟩ := hif
          rw [hq1, hq2, hq3] at hR6
          clear hq1 hq2 hq3
          have c1 := hR6.c1
          have f1 := hR6.fr 1
          have R7 := Lib.hid (hR6.at1 (j + 1))
          have K7 := Lib.hid ((K5.out.trans hK6).setCell (p := ⟨b, 1, none⟩) (.inl (by simp)) (.int .i64 ((j + 1 : Nat) : Int)))
          have hi1 : IntKind.i64.wrap ((j : Int) + 1) = ((j + 1 : Nat) : Int) := by rw [IntWalk.i64_in _ (by omega)]; omega
          clear hR6 hK6
          go_wp2_with fail
          go_ret
          unfold RdT
          have hF := HF.out
          rw [if_neg (by omega)] at hF
          simp only [eq_self_iff_true, if_true] at hF
          rw [hF]
          exact ⟨_, j + 1, rfl, by omega, by dsimp only; rw [if_neg (by decide)]; exact R7.out, K7.out, fun h => by simp at h⟩
        · have bi : ((j : Int) == (i : Int)) = false := by rw [beq_eq_false_iff_ne]; omega
          have hF1 := HF.out
          rw [if_neg hji] at hF1
          have HF1 := Lib.hid hF1
          clear hF1 hji
          go_wp2_with fail
          refine (rcontent_any 0 b i 0 j s 0 _ R1.out hij l0 hs).mono ?_
          rintro e w6 ⟨t, i', p', e', rfl, hR6, hK6, hif⟩
          have c1' := hR6.c1
          have f1 := hR6.fr 1
          have R7 := Lib.hid (hR6.at1 (j + 1))
          have K7 := Lib.hid ((K1.out.trans hK6).setCell (p := ⟨b, 1, none⟩) (.inl (by simp)) (.int .i64 ((j + 1 : Nat) : Int)))
          have hi1 : IntKind.i64.wrap ((j : Int) + 1) = ((j + 1 : Nat) : Int) := by rw [IntWalk.i64_in _ (by omega)]; omega
          have Hif := Lib.hid hif
          clear hR6 hK6 hif c0 c1
          go_wp2_with fail
          go_ret
          unfold RdT
          rw [HF1.out]
          have hi6 := Hif.out
          by_cases hw : (wrdR 0 (slc s.data.toList i j)).2 < j - i
          · rw [if_pos hw] at hi6 ⊢
            obtain ⟨_, _, h7, h8⟩ := hi6
            simp only [eq_self_iff_true, if_true] at h7 h8
            subst h7
            subst h8
            exact ⟨_, j + 1, rfl, by omega, by dsimp only; rw [if_neg (by decide)]; exact R7.out, K7.out, fun h => by simp at h⟩
          · rw [if_neg hw] at hi6 ⊢
            obtain ⟨h5, _, h7, h8⟩ := hi6
            subst h7
            subst h8
            exact ⟨_, j + 1, rfl, by omega, by dsimp only; rw [if_pos rfl]; exact R7.out, K7.out, fun _ => ⟨by rw [h5], rfl⟩⟩
end Ad
end Go.Proofs.YtonbkedjlbhpfaaGreatDoor
