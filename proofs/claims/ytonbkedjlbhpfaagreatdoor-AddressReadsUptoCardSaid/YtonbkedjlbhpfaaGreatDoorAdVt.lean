/- Contract of the reference's Parse (dialtoneref02). A text has at most 2^21 bytes. -/
import Derived.Test.YtonbkedjlbhpfaaGreatDoorAdVs
import Derived.Test.YtonbkedjlbhpfaaGreatDoorAdVf
import Derived.Test.YtonbkedjlbhpfaaGreatDoorM6
namespace Go.Proofs.YtonbkedjlbhpfaaGreatDoor
namespace Ad
open Go.RowKit Lx
theorem mem58 (c : Int) : memB (ByteArray.mk #[58]).data.toList c = (c == 58) := by
  unfold memB
  simp only [List.any_cons, List.any_nil, Bool.or_false]
  rw [Bool.eq_iff_iff]; simp only [beq_iff_eq]; exact eq_comm
theorem mem38 (c : Int) : memB (ByteArray.mk #[38]).data.toList c = (c == 38) := by
  unfold memB
  simp only [List.any_cons, List.any_nil, Bool.or_false]
  rw [Bool.eq_iff_iff]; simp only [beq_iff_eq]; exact eq_comm
/-- Behind a reader's method that gives a text, whatever error was noted before. -/
def RdA (b : Nat) (s : ByteArray) (r : List UInt8 × Nat × Int) (p : Nat) (x : Int) (w : World) (en : Ending) (w' : World) : Prop :=
  ∃ t i' P X, en = .returned (.string t) ∧ i' ≤ s.size ∧ Rdr b s i' P X w' ∧ Kp [b] w w' ∧ (X = 0 → P = 0) ∧ (x ≠ 0 → P = p ∧ X = x) ∧ (x = 0 → (r.2.2 ≠ 0 → P = r.2.1 ∧ X = r.2.2) ∧ (r.2.2 = 0 → X = 0 ∧ t = Txt r.1 ∧ i' = r.2.1))
theorem RdT.all {b : Nat} {s : ByteArray} {r : List UInt8 × Nat × Int} {w w' : World} {en : Ending} (h : RdT b s r w en w') : RdA b s r 0 0 w en w' := by
  obtain ⟨t, i', he, hi, hR, hK, h0⟩ := h
  refine ⟨t, i', _, _, he, hi, hR, hK, fun h => by rw [if_pos h], fun h => absurd rfl h, fun _ => ⟨fun h => ⟨by rw [if_neg h], rfl⟩, fun h => ⟨h, h0 h⟩⟩⟩
theorem rhost_all (b i p : Nat) (s : ByteArray) (x : Int) (w : World) (R : Rdr b s i p x w) (hi : i ≤ s.size) (hs : s.size ≤ 2097152) (hx : x = 0 → p = 0) :
    Calls Tryz.prog 74 #[.pointer (some ⟨b, 0, none⟩)] w (RdA b s (hstR s.data.toList i) p x w) := by
  by_cases h : x = 0
  · obtain rfl := hx h
    subst h
    exact (rhost_any b i s w R hi hs).mono fun _ _ h => h.all
  · refine (rhost_err b i p s x w R h).mono ?_
    rintro e w' ⟨rfl, hR, hK⟩
    exact ⟨_, i, p, x, rfl, hi, hR, hK, fun h2 => absurd h2 h, fun _ => ⟨rfl, rfl⟩, fun h2 => absurd h2 h⟩
/-- The same for a number. -/
def RdN (b : Nat) (s : ByteArray) (r : Int × Nat × Int) (p : Nat) (x : Int) (w : World) (en : Ending) (w' : World) : Prop :=
  ∃ v i' P X, en = .returned (.int .i64 v) ∧ i' ≤ s.size ∧ Rdr b s i' P X w' ∧ Kp [b] w w' ∧ (X = 0 → P = 0) ∧ (x ≠ 0 → P = p ∧ X = x) ∧ (x = 0 → (r.2.2 ≠ 0 → P = r.2.1 ∧ X = r.2.2) ∧ (r.2.2 = 0 → X = 0 ∧ v = r.1 ∧ i' = r.2.1))
theorem rport_all (b i p : Nat) (s : ByteArray) (x : Int) (w : World) (R : Rdr b s i p x w) (hi : i ≤ s.size) (hs : s.size ≤ 2097152) (hx : x = 0 → p = 0) :
    Calls Tryz.prog 75 #[.pointer (some ⟨b, 0, none⟩)] w (RdN b s (prtR s.data.toList i) p x w) := by
  by_cases h : x = 0
  · obtain rfl := hx h
    subst h
    refine (rport_any b i s w R hi hs).mono ?_
    rintro en w' ⟨v, i', he, hi, hR, hK, h0⟩
    exact ⟨v, i', _, _, he, hi, hR, hK, fun h => by rw [if_pos h], fun h => absurd rfl h, fun _ => ⟨fun h => ⟨by rw [if_neg h], rfl⟩, fun h => ⟨h, h0 h⟩⟩⟩
  · refine (rport_err b i p s x w R hi hs h).mono ?_
    rintro e w' ⟨rfl, hR, hK⟩
    exact ⟨_, i, p, x, rfl, hi, hR, hK, fun h2 => absurd h2 h, fun _ => ⟨rfl, rfl⟩, fun h2 => absurd h2 h⟩
/-- Behind list, whatever error was noted before. -/
def RdB (b : Nat) (s : ByteArray) (T : List Prm × Nat × Int) (p : Nat) (x : Int) (w : World) (en : Ending) (w' : World) : Prop :=
  ∃ v lst i' P X, en = .returned v ∧ PmIn w'.heap.size w' v lst ∧ i' ≤ s.size ∧ Rdr b s i' P X w' ∧ Kp [b] w w' ∧ (X = 0 → P = 0) ∧ (x ≠ 0 → P = p ∧ X = x) ∧ (x = 0 → (X ≠ 0 → T.2 = (P, X)) ∧ (X = 0 → lst = srt T.1 ∧ T.2 = (i', 0)))
theorem rlist_all (bg ends : Int → Bool) (cls first again : Int) (stops : ByteArray) (b i p : Nat) (x : Int) (s : ByteArray) (w : World) (R : Rdr b s i p x w) (hi : i ≤ s.size) (hs : s.size ≤ 2097152) (hx : x = 0 → p = 0) (hcls : cls = 1 ∨ cls = 2) (hst : stops.size ≤ 100) (hp : ∀ c : Int, memB stops.data.toList c = ends c) (hfi : 0 ≤ first) (hga : 0 ≤ again)
    (hag : ∀ c : Int, (c = -1 ∨ ends c = true) → (c == again) = bg c) (hfb : x = 0 → (atB s.data.toList i == first) = bg (atB s.data.toList i)) :
    Calls Tryz.prog 76 #[.pointer (some ⟨b, 0, none⟩), .int .u8 first, .int .u8 again, .string stops, .int .i64 cls] w (RdB b s (prsF bg ends cls (s.data.toList.length + 1) s.data.toList i []) p x w) := by
  by_cases h : x = 0
  · obtain rfl := hx h
    subst h
    refine (rlist_any bg ends cls first again stops b i 0 0 s (prsF bg ends cls (s.data.toList.length + 1) s.data.toList i []) w R hi hs hcls hst hp hfi hga hag ⟨fun h => absurd rfl h, fun _ => ⟨rfl, by simp, (fun q hq => by cases hq), hfb rfl, _, by omega, rfl⟩⟩).mono ?_
    rintro en w' ⟨v, lst, i', P, X, he, hP, hi', hR, hK, h1, h2⟩
    exact ⟨v, lst, i', P, X, he, hP, hi', hR, hK, fun h => (h2 h).1, fun h => absurd rfl h, fun _ => ⟨h1, fun h => ⟨(h2 h).2.1, (h2 h).2.2.1⟩⟩⟩
  · refine (rlist_any bg ends cls first again stops b i p x s ([], p, x) w R hi hs hcls hst hp hfi hga hag ⟨fun _ => rfl, fun h2 => absurd h2 h⟩).mono ?_
    rintro en w' ⟨v, lst, i', P, X, he, hP, hi', hR, hK, h1, h2⟩
    refine ⟨v, lst, i', P, X, he, hP, hi', hR, hK, fun h => (h2 h).1, fun _ => ?_, fun h3 => absurd h3 h⟩
    by_cases hX : X = 0
    · have := (h2 hX).2.2.1
      injection this with _ h5
      exact absurd h5 h
    · have := h1 hX
      injection this with h4 h5
      exact ⟨h4.symm, h5.symm⟩
theorem prsF_stop (bg ends : Int → Bool) (cls : Int) (l : List UInt8) : ∀ (f k : Nat) (acc : List Prm), (atB l k = -1 ∨ ends (atB l k) = true) → (prsF bg ends cls f l k acc).2.2 = 0 → (atB l (prsF bg ends cls f l k acc).2.1 = -1 ∨ ends (atB l (prsF bg ends cls f l k acc).2.1) = true) := by
  intro f
  induction f with
  | zero => intro k acc h _; exact h
  | succ n ih =>
    intro k acc h h0
    rw [prsF] at h0 ⊢
    by_cases h1 : bg (atB l k) = false
    · rw [if_pos h1]; exact h
    rw [if_neg h1] at h0 ⊢
    by_cases h2 : (prR cls l (k + 1) (endP ends l (k + 1))).2.2 ≠ 0
    · rw [if_pos h2] at h0; exact absurd h0 h2
    rw [if_neg h2] at h0 ⊢
    by_cases h3 : room acc (prR cls l (k + 1) (endP ends l (k + 1))).1.1 ≠ 0
    · rw [if_pos h3] at h0; exact absurd h0 h3
    rw [if_neg h3] at h0 ⊢
    refine ih _ _ ?_ h0
    by_cases h4 : endP ends l (k + 1) < l.length
    · exact .inr (endP_at ends l (k + 1) h4)
    · exact .inl (atB_end _ _ (by omega))
theorem prt_stop (l : List UInt8) (k : Nat) (h : (prtR l k).2.2 = 0) : atB l (prtR l k).2.1 = -1 ∨ semq (atB l (prtR l k).2.1) = true := by
  have key : ∀ k, endP semq l k = k ∨ k < endP semq l k := fun k => by have := endP_ge semq l k; omega
  have fin : ∀ k, atB l (endP semq l k) = -1 ∨ semq (atB l (endP semq l k)) = true := fun k => by
    by_cases h4 : endP semq l k < l.length
    · exact .inr (endP_at semq l k h4)
    · exact .inl (atB_end _ _ (by omega))
  unfold prtR at h ⊢
  by_cases h1 : atB l k = 58
  · rw [if_pos h1] at h ⊢
    split at h
    · rename_i h2; exact absurd h h2
    · rename_i h2
      rw [if_neg h2]
      split at h
      · simp at h
      · rename_i h3
        rw [if_neg h3]; exact fin _
  · rw [if_neg h1] at h ⊢
    split at h
    · simp at h
    · rename_i h2
      rw [if_neg h2]
      have := fin k
      rcases key k with h3 | h3
      · rw [h3] at this; exact this
      · exact absurd h3 h2
theorem sip_end (S l : List UInt8) (k i1 i2 i3 i4 i5 P1 P2 P3 P4 P5 : Nat) (X1 X2 X3 X4 X5 : Int) (U H : ByteArray) (P : Int) (ps hs : List Prm)
    (A1 : ((usrR l k).2.2 ≠ 0 → P1 = (usrR l k).2.1 ∧ X1 = (usrR l k).2.2) ∧ ((usrR l k).2.2 = 0 → X1 = 0 ∧ U = Txt (usrR l k).1 ∧ i1 = (usrR l k).2.1))
    (B2 : X1 ≠ 0 → P2 = P1 ∧ X2 = X1) (A2 : X1 = 0 → ((hstR l i1).2.2 ≠ 0 → P2 = (hstR l i1).2.1 ∧ X2 = (hstR l i1).2.2) ∧ ((hstR l i1).2.2 = 0 → X2 = 0 ∧ H = Txt (hstR l i1).1 ∧ i2 = (hstR l i1).2.1))
    (B3 : X2 ≠ 0 → P3 = P2 ∧ X3 = X2) (A3 : X2 = 0 → ((prtR l i2).2.2 ≠ 0 → P3 = (prtR l i2).2.1 ∧ X3 = (prtR l i2).2.2) ∧ ((prtR l i2).2.2 = 0 → X3 = 0 ∧ P = (prtR l i2).1 ∧ i3 = (prtR l i2).2.1))
    (B4 : X3 ≠ 0 → P4 = P3 ∧ X4 = X3) (A4 : X3 = 0 → (X4 ≠ 0 → (prmsR semq l i3).2 = (P4, X4)) ∧ (X4 = 0 → ps = srt (prmsR semq l i3).1 ∧ (prmsR semq l i3).2 = (i4, 0)))
    (B5 : X4 ≠ 0 → P5 = P4 ∧ X5 = X4) (A5 : X4 = 0 → (X5 ≠ 0 → (headsR l i4).2 = (P5, X5)) ∧ (X5 = 0 → hs = srt (headsR l i4).1 ∧ (headsR l i4).2 = (i5, 0))) :
    (X5 ≠ 0 → sipR S l k = (nilU, P5, X5)) ∧ (X5 = 0 → ∃ uc hc, U = Txt uc ∧ H = Txt hc ∧ sipR S l k = (⟨S, uc, hc, P, ps, hs⟩, 0, 0)) := by
  unfold sipR
  by_cases h1 : (usrR l k).2.2 = 0
  · obtain ⟨a1, a2, a3⟩ := A1.2 h1
    have A2 := A2 a1
    rw [a3] at A2
    rw [if_neg (fun h => h h1)]
    by_cases h2 : (hstR l (usrR l k).2.1).2.2 = 0
    · obtain ⟨b1, b2, b3⟩ := A2.2 h2
      have A3 := A3 b1
      rw [b3] at A3
      rw [if_neg (fun h => h h2)]
      by_cases h3 : (prtR l (hstR l (usrR l k).2.1).2.1).2.2 = 0
      · obtain ⟨c1, c2, c3⟩ := A3.2 h3
        have A4 := A4 c1
        rw [c3] at A4
        rw [if_neg (fun h => h h3)]
        by_cases h4 : X4 = 0
        · obtain ⟨d1, d2⟩ := A4.2 h4
          have A5 := A5 h4
          rw [if_neg (by rw [d2]; exact fun h => h rfl)]
          have e4 : (prmsR semq l (prtR l (hstR l (usrR l k).2.1).2.1).2.1).2.1 = i4 := by rw [d2]
          rw [e4]
          by_cases h5 : X5 = 0
          · obtain ⟨f1, f2⟩ := A5.2 h5
            rw [if_neg (by rw [f2]; exact fun h => h rfl)]
            exact ⟨fun h => absurd h5 h, fun _ => ⟨_, _, a2, b2, by rw [c2, d1, f1]⟩⟩
          · have f := A5.1 h5
            rw [if_pos (by rw [f]; exact h5), f]
            exact ⟨fun _ => rfl, fun h => absurd h h5⟩
        · have d := A4.1 h4
          obtain ⟨q1, q2⟩ := B5 h4
          rw [if_pos (by rw [d]; exact h4), d, q1, q2]
          exact ⟨fun _ => rfl, fun h => absurd h h4⟩
      · obtain ⟨c1, c2⟩ := A3.1 h3
        obtain ⟨q1, q2⟩ := B4 (by rw [c2]; exact h3)
        obtain ⟨q3, q4⟩ := B5 (by rw [q2, c2]; exact h3)
        rw [if_pos h3, q3, q4, q1, q2, c1, c2]
        exact ⟨fun _ => rfl, fun h => absurd h h3⟩
    · obtain ⟨c1, c2⟩ := A2.1 h2
      obtain ⟨q1, q2⟩ := B3 (by rw [c2]; exact h2)
      obtain ⟨q3, q4⟩ := B4 (by rw [q2, c2]; exact h2)
      obtain ⟨q5, q6⟩ := B5 (by rw [q4, q2, c2]; exact h2)
      rw [if_pos h2, q5, q6, q3, q4, q1, q2, c1, c2]
      exact ⟨fun _ => rfl, fun h => absurd h h2⟩
  · obtain ⟨c1, c2⟩ := A1.1 h1
    obtain ⟨q1, q2⟩ := B2 (by rw [c2]; exact h1)
    obtain ⟨q3, q4⟩ := B3 (by rw [q2, c2]; exact h1)
    obtain ⟨q5, q6⟩ := B4 (by rw [q4, q2, c2]; exact h1)
    obtain ⟨q7, q8⟩ := B5 (by rw [q6, q4, q2, c2]; exact h1)
    rw [if_pos h1, q7, q8, q5, q6, q3, q4, q1, q2, c1, c2]
    exact ⟨fun _ => rfl, fun h => absurd h h1⟩
theorem tel_end (l : List UInt8) (k i1 i4 P1 P4 : Nat) (X1 X4 : Int) (U : ByteArray) (ps : List Prm)
    (A1 : ((telR l k).2.2 ≠ 0 → P1 = (telR l k).2.1 ∧ X1 = (telR l k).2.2) ∧ ((telR l k).2.2 = 0 → X1 = 0 ∧ U = Txt (telR l k).1 ∧ i1 = (telR l k).2.1))
    (B4 : X1 ≠ 0 → P4 = P1 ∧ X4 = X1) (A4 : X1 = 0 → (X4 ≠ 0 → (prmsR (· == 59) l i1).2 = (P4, X4)) ∧ (X4 = 0 → ps = srt (prmsR (· == 59) l i1).1 ∧ (prmsR (· == 59) l i1).2 = (i4, 0))) :
    (X4 ≠ 0 → telU l k = (nilU, P4, X4)) ∧ (X4 = 0 → ∃ uc, U = Txt uc ∧ telU l k = (⟨telL, uc, [], 0, ps, []⟩, 0, 0)) := by
  unfold telU
  by_cases h1 : (telR l k).2.2 = 0
  · obtain ⟨a1, a2, a3⟩ := A1.2 h1
    have A4 := A4 a1
    rw [a3] at A4
    rw [if_neg (fun h => h h1)]
    by_cases h4 : X4 = 0
    · obtain ⟨d1, d2⟩ := A4.2 h4
      rw [if_neg (by rw [d2]; exact fun h => h rfl)]
      exact ⟨fun h => absurd h4 h, fun _ => ⟨_, a2, by rw [d1]⟩⟩
    · have d := A4.1 h4
      rw [if_pos (by rw [d]; exact h4), d]
      exact ⟨fun _ => rfl, fun h => absurd h h4⟩
  · obtain ⟨c1, c2⟩ := A1.1 h1
    obtain ⟨q1, q2⟩ := B4 (by rw [c2]; exact h1)
    rw [if_pos h1, q1, q2, c1, c2]
    exact ⟨fun _ => rfl, fun h => absurd h h1⟩
theorem Urb.far {bu : Nat} {S U H P vp vh : Value} {w : World} (h : Urb w bu S U H P vp vh) {p : Addr} (hp : bu ≠ p.block) (u : Value) : Urb (w.setCell p u) bu S U H P vp vh := Blk.far h hp u
theorem Rdr.far {b i q : Nat} {s : ByteArray} {e : Int} {w : World} (h : Rdr b s i q e w) {p : Addr} (hp : b ≠ p.block) (u : Value) : Rdr b s i q e (w.setCell p u) := Blk.far h hp u
set_option maxRecDepth 100000 in
set_option maxHeartbeats 16000000 in
theorem rParse_any (s : ByteArray) (w : World) (hs : s.size ≤ 2097152) :
    Calls Tryz.prog 20 #[.string s] w (UrP (parse s.data.toList) w) := by
  have hlen := len_list s
  obtain ⟨w0, hw0⟩ : ∃ x, w.alloc (.cells #[.string ⟨#[]⟩, .string ⟨#[]⟩, .string ⟨#[]⟩, .int .i64 0, .slice none 0 0, .slice none 0 0] 24) = x := ⟨_, rfl⟩
  have K0_ := Lib.hid (show Kp [] w w0 from by rw [← hw0]; exact (Kp.refl _ _).alloc _)
  have Z0_ := Lib.hid (show Zub w0 w.heap.size from by rw [← hw0]; exact Blk.new w 24 _)
  have hsz0 : w.heap.size < w0.heap.size := by rw [← hw0]; simp
  by_cases h1024 : 1024 < s.size
  · have hl : (1024 : Int) < (s.size : Int) := by omega
    have HVs := Lib.hid (by unfold parse; rw [if_pos (by rw [hlen]; exact h1024)] : parse s.data.toList = (nilU, 1024, 4))
    have d0 := Z0_.out.cell 0
    have g0 := Z0_.out.frozen 0
    have d1 := Z0_.out.cell 1
    have g1 := Z0_.out.frozen 1
    have d2 := Z0_.out.cell 2
    have g2 := Z0_.out.frozen 2
    have d3 := Z0_.out.cell 3
    have g3 := Z0_.out.frozen 3
    have d4 := Z0_.out.cell 4
    have g4 := Z0_.out.frozen 4
    have d5 := Z0_.out.cell 5
    have g5 := Z0_.out.frozen 5
    clear hlen h1024
    go_enter Tryz.func20, Tryz.ntmps20
    go_wp2_with fail
    refine bodyPost_ret (results_three rfl _ _ w.heap.size 24 _ (0, 0) _ rfl (blk6 Z0_.out _ _ _ _ _ _) Tryz.underlying24 rfl infoUri) rfl ?_
    rw [HVs.out]
    exact uri_out w.heap.size w w0 nilU 1024 4 _ _ _ _ _ _ _ _ _ _ (UriIn.nil _ _) K0_.out (Nat.le_refl _) Z0_.out
  have hl : ¬ (1024 : Int) < (s.size : Int) := by omega
  obtain ⟨b, hb⟩ : ∃ x, w0.heap.size = x := ⟨_, rfl⟩
  obtain ⟨w1, hw1⟩ : ∃ x, w0.alloc (.cells #[.string s, .int .i64 0, .int .i64 0, .int .u8 0] 92) = x := ⟨_, rfl⟩
  have hKa : Kp [] w0 w1 := by rw [← hw1]; exact (Kp.refl _ _).alloc _
  have K1_ := Lib.hid (K0_.out.trans hKa)
  have Z1_ := Lib.hid (show Zub w1 w.heap.size from Z0_.out.kp hKa (by simp))
  have R1_ := Lib.hid (show Rdr b s 0 0 0 w1 from by rw [← hw1, ← hb]; exact Blk.new w0 _ _)
  have hgb : w.heap.size ≤ b := by omega
  have hgb' : w.heap.size ≠ b := by omega
  obtain ⟨k, hk⟩ : ∃ x, endP (· == 58) s.data.toList 0 = x := ⟨_, rfl⟩
  have lk : k ≤ s.size := by rw [← hk, ← hlen]; exact endP_le _ _ _ (Nat.zero_le _)
  have HUn := Lib.hid (by have h := runtil_any (· == 58) b 0 0 s ⟨#[58]⟩ 0 w1 R1_.out (Nat.zero_le _) hs (by decide) mem58; rw [hk] at h; exact h : Calls Tryz.prog 72 #[.pointer (some ⟨b, 0, none⟩), .string ⟨#[58]⟩] w1 (InK (k : Nat) w1))
  by_cases hks : k = s.size
  · have bk : ((k : Int) == (s.size : Int)) = true := by rw [hks]; simp
    have HVs := Lib.hid (by unfold parse; rw [if_neg (by rw [hlen]; exact h1024), hk, hlen, if_pos hks] : parse s.data.toList = (nilU, s.size, 5))
    clear hk hlen h1024 hks hKa
    go_enter Tryz.func20, Tryz.ntmps20
    go_wp2_with fail
    try rw [hb]
    refine HUn.out.mono ?_
    rintro e w2 ⟨rfl, hK2⟩
    have K2_ := Lib.hid (K1_.out.trans hK2)
    have Z2_ := Lib.hid (show Zub w2 w.heap.size from Z1_.out.kp hK2 (by simp))
    have d0 := Z2_.out.cell 0
    have g0 := Z2_.out.frozen 0
    have d1 := Z2_.out.cell 1
    have g1 := Z2_.out.frozen 1
    have d2 := Z2_.out.cell 2
    have g2 := Z2_.out.frozen 2
    have d3 := Z2_.out.cell 3
    have g3 := Z2_.out.frozen 3
    have d4 := Z2_.out.cell 4
    have g4 := Z2_.out.frozen 4
    have d5 := Z2_.out.cell 5
    have g5 := Z2_.out.frozen 5
    clear hK2
    go_wp2_with fail
    refine bodyPost_ret (results_three rfl _ _ w.heap.size 24 _ (0, 0) _ rfl (blk6 Z2_.out _ _ _ _ _ _) Tryz.underlying24 rfl infoUri) rfl ?_
    rw [HVs.out]
    exact uri_out w.heap.size w w2 nilU s.size 5 _ _ _ _ _ _ _ _ _ _ (UriIn.nil _ _) K2_.out (Nat.le_refl _) Z2_.out
  have bk : ((k : Int) == (s.size : Int)) = false := by rw [beq_eq_false_iff_ne]; omega
  have hk1 : k + 1 ≤ s.size := by omega
  have hkl : k ≤ s.data.toList.length := by omega
  have HV0 := Lib.hid (by unfold parse; rw [if_neg (by rw [hlen]; exact h1024), hk, hlen, if_neg hks] : parse s.data.toList = if lowL (s.data.toList.take k) = sipL ∨ lowL (s.data.toList.take k) = sipsL then sipR (lowL (s.data.toList.take k)) s.data.toList (k + 1) else if lowL (s.data.toList.take k) = telL then telU s.data.toList (k + 1) else (nilU, 0, 15))
  have hsl : s.extract 0 k = Txt (s.data.toList.take k) := take_slc s k
  have HLo := Lib.hid (fun wz => (by have h := rlowK (s.data.toList.take k) (by rw [List.length_take]; omega) wz; rw [← hsl] at h; exact h : Calls Tryz.prog 64 #[.string (s.extract 0 k)] wz (TxK (lowL (s.data.toList.take k)) wz)))
  have eS : (Txt (lowL (s.data.toList.take k))).toList = lowL (s.data.toList.take k) := by rw [Lib.toList_data]; rfl
  have hk64 : (k : Int) ≤ (s.size : Int) := by omega
  obtain ⟨k1, hk1n⟩ : ∃ x, k + 1 = x := ⟨_, rfl⟩
  rw [hk1n] at HV0 hk1
  have hki : IntKind.i64.wrap ((k : Int) + 1) = (k1 : Int) := by rw [IntWalk.i64_in _ (by omega)]; omega
  clear hk1n
  have HeS := Lib.hid eS
  have Hlen := Lib.hid hlen
  clear hk hlen h1024 hks hKa hsl eS hkl
  by_cases hsip : lowL (s.data.toList.take k) = sipL ∨ lowL (s.data.toList.take k) = sipsL
  · have HVs := Lib.hid (HV0.out.trans (if_pos hsip))
    have hz : ((Txt (lowL (s.data.toList.take k))).toList == [115, 105, 112]) = true ∨ (((Txt (lowL (s.data.toList.take k))).toList == [115, 105, 112]) = false ∧ ((Txt (lowL (s.data.toList.take k))).toList == [115, 105, 112, 115]) = true) := by
      rcases hsip with hz | hz
      · left; rw [HeS.out, hz]; rfl
      · right; rw [HeS.out, hz]; exact ⟨rfl, rfl⟩
    clear hsip HV0 HeS
    rcases hz with bs1 | ⟨bs1, bs2⟩
    all_goals
      go_enter Tryz.func20, Tryz.ntmps20
      go_wp2_with fail
      try rw [hb]
      refine HUn.out.mono ?_
      rintro e w2 ⟨rfl, hK2⟩
      have K2_ := Lib.hid (K1_.out.trans hK2)
      have Z2_ := Lib.hid (show Zub w2 w.heap.size from Z1_.out.kp hK2 (by simp))
      have R2_ := Lib.hid (R1_.out.kp hK2 (by simp))
      clear hK2
      go_wp2_with fail
      refine (HLo.out _).mono ?_
      rintro e w3 ⟨rfl, hK3⟩
      have K3_ := Lib.hid (K2_.out.trans hK3)
      have Z3_ := Lib.hid (show Zub w3 w.heap.size from Z2_.out.kp hK3 (by simp))
      have R3_ := Lib.hid (R2_.out.kp hK3 (by simp))
      have hb3 := R3_.out.lt
      clear hK3
      go_upto_region 8 with fail
      obtain ⟨u, hu⟩ : ∃ x, w3.heap.size = x := ⟨_, rfl⟩
      obtain ⟨w4, hw4⟩ : ∃ x, w3.alloc (.cells #[.string (Txt (lowL (s.data.toList.take k))), .string ⟨#[]⟩, .string ⟨#[]⟩, .int .i64 0, .slice none 0 0, .slice none 0 0] 24) = x := ⟨_, rfl⟩
      try rw [hw4, hu]
      have hKa : Kp [] w3 w4 := by rw [← hw4]; exact (Kp.refl _ _).alloc _
      have K4_ := Lib.hid (K3_.out.trans hKa)
      have Z4_ := Lib.hid (show Zub w4 w.heap.size from Z3_.out.kp hKa (by simp))
      have R4_ := Lib.hid (R3_.out.kp hKa (by simp))
      have U4_ := Lib.hid (show Urb w4 u (.string (Txt (lowL (s.data.toList.take k)))) (.string ⟨#[]⟩) (.string ⟨#[]⟩) (.int .i64 0) (.slice none 0 0) (.slice none 0 0) from by rw [← hw4, ← hu]; exact Blk.new w3 _ _)
      have hgu : w.heap.size ≤ u := by omega
      have hgu' : w.heap.size ≠ u := by omega
      have hbu : b ≠ u := by omega
      have c1 := R4_.out.c1
      have f1 := R4_.out.fr 1
      obtain ⟨w5, hw5⟩ : ∃ x, w4.setCell ⟨b, 1, none⟩ (.int .i64 (k1 : Int)) = x := ⟨_, rfl⟩
      have R0 := Lib.hid (show Rdr b s k1 0 0 w5 from by rw [← hw5]; exact R4_.out.at1 k1)
      have K0 := Lib.hid (show Kp [] w w5 from by rw [← hw5]; exact K4_.out.setCell (p := ⟨b, 1, none⟩) (.inr hgb) _)
      have Z0 := Lib.hid (show Zub w5 w.heap.size from by rw [← hw5]; exact Blk.far Z4_.out (p := ⟨b, 1, none⟩) hgb' _)
      have U0 := Lib.hid (show Urb w5 u (.string (Txt (lowL (s.data.toList.take k)))) (.string ⟨#[]⟩) (.string ⟨#[]⟩) (.int .i64 0) (.slice none 0 0) (.slice none 0 0) from by rw [← hw5]; exact Blk.far U4_.out (p := ⟨b, 1, none⟩) (Ne.symm hbu) _)
      clear hKa K1_ Z1_ R1_ K2_ Z2_ R2_ K3_ Z3_ R3_ K4_ Z4_ R4_
      go_upto_region 9 with fail
      try rw [hw5]
      clear hw5 c1 f1 U4_ hki hw4
      have uS := U0.out.cell 0
      go_wp2_with fail
      refine (ruser_any b k1 s _ R0.out hk1 hs).mono ?_
      rintro e v1 hX0
      obtain ⟨Ut, i1, P1, X1, rfl, hi1, hR, hK, hz1, hB1, hA1⟩ := hX0.all
      have A1 := Lib.hid (hA1 rfl)
      have Hz1 := Lib.hid hz1
      clear hX0 hB1 hA1 hz1
      have K1 := Lib.hid (K0.out.to_ hK (by intro y hy; right; rw [List.mem_singleton.1 hy]; exact hgb))
      have R1 := Lib.hid hR
      have Z1 := Lib.hid (show Zub v1 w.heap.size from Z0.out.kp hK (by simp; omega))
      have U1 := Lib.hid (show Urb v1 u (.string (Txt (lowL (s.data.toList.take k)))) (.string ⟨#[]⟩) (.string ⟨#[]⟩) (.int .i64 0) (.slice none 0 0) (.slice none 0 0) from Blk.kp U0.out hK (by simp; omega))
      have q1 := U1.out.cell 1
      have z1 := U1.out.frozen 1
      obtain ⟨v2, hv⟩ : ∃ x, v1.setCell ⟨u, 1, none⟩ (.string Ut) = x := ⟨_, rfl⟩
      have hK2 : Kp [u] v1 v2 := by rw [← hv]; exact (Kp.refl _ _).setCell (p := ⟨u, 1, none⟩) (.inl (by simp)) _
      have K2 := Lib.hid (K1.out.to_ hK2 (by intro y hy; right; rw [List.mem_singleton.1 hy]; exact hgu))
      have R2 := Lib.hid (R1.out.kp hK2 (by simp; omega))
      have Z2 := Lib.hid (show Zub v2 w.heap.size from Z1.out.kp hK2 (by simp; omega))
      have U2 := Lib.hid (show Urb v2 u (.string (Txt (lowL (s.data.toList.take k)))) (.string Ut) (.string ⟨#[]⟩) (.int .i64 0) (.slice none 0 0) (.slice none 0 0) from by rw [← hv]; exact Blk.set_ U1.out 1 _)
      go_upto_region 14 with fail
      try rw [hv]
      clear hv q1 z1 hK2 hK hR R0 K0 Z0 U0
      clear R1 K1 Z1 U1
      go_wp2_with fail
      refine (rhost_all b i1 P1 s X1 _ R2.out hi1 hs Hz1.out).mono ?_
      rintro e v3 ⟨Ht, i2, P2, X2, rfl, hi2, hR, hK, hz2, hB2, hA2⟩
      have K3 := Lib.hid (K2.out.to_ hK (by intro y hy; right; rw [List.mem_singleton.1 hy]; exact hgb))
      have R3 := Lib.hid hR
      have Z3 := Lib.hid (show Zub v3 w.heap.size from Z2.out.kp hK (by simp; omega))
      have U3 := Lib.hid (show Urb v3 u (.string (Txt (lowL (s.data.toList.take k)))) (.string Ut) (.string ⟨#[]⟩) (.int .i64 0) (.slice none 0 0) (.slice none 0 0) from Blk.kp U2.out hK (by simp; omega))
      have Hz2 := Lib.hid hz2
      have B2_ := Lib.hid hB2
      have A2_ := Lib.hid hA2
      clear hz2 hB2 hA2
      have q3 := U3.out.cell 2
      have z3 := U3.out.frozen 2
      obtain ⟨v4, hv⟩ : ∃ x, v3.setCell ⟨u, 2, none⟩ (.string Ht) = x := ⟨_, rfl⟩
      have hK2 : Kp [u] v3 v4 := by rw [← hv]; exact (Kp.refl _ _).setCell (p := ⟨u, 2, none⟩) (.inl (by simp)) _
      have K4 := Lib.hid (K3.out.to_ hK2 (by intro y hy; right; rw [List.mem_singleton.1 hy]; exact hgu))
      have R4 := Lib.hid (R3.out.kp hK2 (by simp; omega))
      have Z4 := Lib.hid (show Zub v4 w.heap.size from Z3.out.kp hK2 (by simp; omega))
      have U4 := Lib.hid (show Urb v4 u (.string (Txt (lowL (s.data.toList.take k)))) (.string Ut) (.string Ht) (.int .i64 0) (.slice none 0 0) (.slice none 0 0) from by rw [← hv]; exact Blk.set_ U3.out 2 _)
      go_upto_region 15 with fail
      try rw [hv]
      clear hv q3 z3 hK2 hK hR R2 K2 Z2 U2
      clear R3 K3 Z3 U3
      go_wp2_with fail
      refine (rport_all b i2 P2 s X2 _ R4.out hi2 hs Hz2.out).mono ?_
      rintro e v5 ⟨Pv, i3, P3, X3, rfl, hi3, hR, hK, hz3, hB3, hA3⟩
      have K5 := Lib.hid (K4.out.to_ hK (by intro y hy; right; rw [List.mem_singleton.1 hy]; exact hgb))
      have R5 := Lib.hid hR
      have Z5 := Lib.hid (show Zub v5 w.heap.size from Z4.out.kp hK (by simp; omega))
      have U5 := Lib.hid (show Urb v5 u (.string (Txt (lowL (s.data.toList.take k)))) (.string Ut) (.string Ht) (.int .i64 0) (.slice none 0 0) (.slice none 0 0) from Blk.kp U4.out hK (by simp; omega))
      have Hz3 := Lib.hid hz3
      have B3_ := Lib.hid hB3
      have A3_ := Lib.hid hA3
      clear hz3 hB3 hA3
      have q5 := U5.out.cell 3
      have z5 := U5.out.frozen 3
      obtain ⟨v6, hv⟩ : ∃ x, v5.setCell ⟨u, 3, none⟩ (.int .i64 Pv) = x := ⟨_, rfl⟩
      have hK2 : Kp [u] v5 v6 := by rw [← hv]; exact (Kp.refl _ _).setCell (p := ⟨u, 3, none⟩) (.inl (by simp)) _
      have K6 := Lib.hid (K5.out.to_ hK2 (by intro y hy; right; rw [List.mem_singleton.1 hy]; exact hgu))
      have R6 := Lib.hid (R5.out.kp hK2 (by simp; omega))
      have Z6 := Lib.hid (show Zub v6 w.heap.size from Z5.out.kp hK2 (by simp; omega))
      have U6 := Lib.hid (show Urb v6 u (.string (Txt (lowL (s.data.toList.take k)))) (.string Ut) (.string Ht) (.int .i64 Pv) (.slice none 0 0) (.slice none 0 0) from by rw [← hv]; exact Blk.set_ U5.out 3 _)
      go_upto_region 16 with fail
      try rw [hv]
      clear hv q5 z5 hK2 hK hR R4 K4 Z4 U4
      clear R5 K5 Z5 U5
      go_wp2_with fail
      refine (rlist_all (· == 59) semq 1 59 59 ⟨#[59, 63]⟩ b i3 P3 X3 s _ R6.out hi3 hs Hz3.out (.inl rfl) (by decide) mem2 (by decide) (by decide) (fun _ _ => rfl) (fun _ => rfl)).mono ?_
      rintro e v7 ⟨vp, ps, i4, P4, X4, rfl, hPp, hi4, hR, hK, hz4, hB4, hA4⟩
      have K7 := Lib.hid (K6.out.to_ hK (by intro y hy; right; rw [List.mem_singleton.1 hy]; exact hgb))
      have R7 := Lib.hid hR
      have Z7 := Lib.hid (show Zub v7 w.heap.size from Z6.out.kp hK (by simp; omega))
      have U7 := Lib.hid (show Urb v7 u (.string (Txt (lowL (s.data.toList.take k)))) (.string Ut) (.string Ht) (.int .i64 Pv) (.slice none 0 0) (.slice none 0 0) from Blk.kp U6.out hK (by simp; omega))
      have Hz4 := Lib.hid hz4
      have B4_ := Lib.hid hB4
      have A4_ := Lib.hid hA4
      obtain ⟨a1, c1, rfl⟩ := hPp.form
      have Vp7 := Lib.hid hPp
      clear hz4 hB4 hA4 hPp
      have q7 := U7.out.cell 4
      have z7 := U7.out.frozen 4
      obtain ⟨v8, hv⟩ : ∃ x, v7.setCell ⟨u, 4, none⟩ (.slice a1 ps.length c1) = x := ⟨_, rfl⟩
      have hK2 : Kp [u] v7 v8 := by rw [← hv]; exact (Kp.refl _ _).setCell (p := ⟨u, 4, none⟩) (.inl (by simp)) _
      have K8 := Lib.hid (K7.out.to_ hK2 (by intro y hy; right; rw [List.mem_singleton.1 hy]; exact hgu))
      have R8 := Lib.hid (R7.out.kp hK2 (by simp; omega))
      have Z8 := Lib.hid (show Zub v8 w.heap.size from Z7.out.kp hK2 (by simp; omega))
      have U8 := Lib.hid (show Urb v8 u (.string (Txt (lowL (s.data.toList.take k)))) (.string Ut) (.string Ht) (.int .i64 Pv) (.slice a1 ps.length c1) (.slice none 0 0) from by rw [← hv]; exact Blk.set_ U7.out 4 _)
      have Vp8 := Lib.hid (Vp7.out.grow hK2 (by intro y hy; rw [List.mem_singleton.1 hy]; exact NoB.urb U7.out))
      go_upto_region 17 with fail
      try rw [hv]
      clear hv q7 z7 hK2 hK hR R6 K6 Z6 U6
      have hfb : X4 = 0 → (atB s.data.toList i4 == 63) = headC (atB s.data.toList i4) := by
        intro h4
        have h3 : X3 = 0 := by
          by_cases h : X3 = 0
          · exact h
          · have := (B4_.out h).2; rw [this] at h4; exact h4
        have h2 : X2 = 0 := by
          by_cases h : X2 = 0
          · exact h
          · have := (B3_.out h).2; rw [this] at h3; exact h3
        have hp3 : (prtR s.data.toList i2).2.2 = 0 := by
          by_cases h : (prtR s.data.toList i2).2.2 = 0
          · exact h
          · have := ((A3_.out h2).1 h).2; rw [this] at h3; exact h3
        have hi3' := ((A3_.out h2).2 hp3).2.2
        have st := prt_stop s.data.toList i2 hp3
        rw [← hi3'] at st
        have hT := ((A4_.out h3).2 h4).2
        have st2 := prsF_stop (· == 59) semq 1 s.data.toList (s.data.toList.length + 1) i3 [] st (by rw [hT])
        rw [hT] at st2
        dsimp only at st2
        unfold headC
        have h38 : (atB s.data.toList i4 == 38) = false := by
          rw [beq_eq_false_iff_ne]
          intro h
          rw [h] at st2
          rcases st2 with h5 | h5
          · exact absurd h5 (by decide)
          · exact absurd h5 (by decide)
        rw [h38, Bool.or_false]
      clear R7 K7 Z7 U7 Vp7
      go_wp2_with fail
      refine (rlist_all headC (· == 38) 2 63 38 ⟨#[38]⟩ b i4 P4 X4 s _ R8.out hi4 hs Hz4.out (.inr rfl) (by decide) mem38 (by decide) (by decide) (fun c hc => by rcases hc with rfl | hc; rfl; rw [beq_iff_eq.1 hc]; rfl) hfb).mono ?_
      rintro e v9 ⟨vh, hd, i5, P5, X5, rfl, hPh, hi5, hR, hK, hz5, hB5, hA5⟩
      have K9 := Lib.hid (K8.out.to_ hK (by intro y hy; right; rw [List.mem_singleton.1 hy]; exact hgb))
      have R9 := Lib.hid hR
      have Z9 := Lib.hid (show Zub v9 w.heap.size from Z8.out.kp hK (by simp; omega))
      have U9 := Lib.hid (show Urb v9 u (.string (Txt (lowL (s.data.toList.take k)))) (.string Ut) (.string Ht) (.int .i64 Pv) (.slice a1 ps.length c1) (.slice none 0 0) from Blk.kp U8.out hK (by simp; omega))
      have Vp9 := Lib.hid (Vp8.out.grow hK (by intro y hy; rw [List.mem_singleton.1 hy]; exact R8.out.noB))
      have HE := Lib.hid (sip_end (lowL (s.data.toList.take k)) s.data.toList k1 i1 i2 i3 i4 i5 P1 P2 P3 P4 P5 X1 X2 X3 X4 X5 Ut Ht Pv ps hd A1.out B2_.out A2_.out B3_.out A3_.out B4_.out A4_.out hB5 hA5)
      obtain ⟨a2, c2, rfl⟩ := hPh.form
      have Vh9 := Lib.hid hPh
      clear hz5 hB5 hA5 hPh hfb A1 B2_ A2_ B3_ A3_ B4_ A4_ Hz1 Hz2 Hz3 Hz4
      have q9 := U9.out.cell 5
      have z9 := U9.out.frozen 5
      obtain ⟨v10, hv⟩ : ∃ x, v9.setCell ⟨u, 5, none⟩ (.slice a2 hd.length c2) = x := ⟨_, rfl⟩
      have hK2 : Kp [u] v9 v10 := by rw [← hv]; exact (Kp.refl _ _).setCell (p := ⟨u, 5, none⟩) (.inl (by simp)) _
      have K10 := Lib.hid (K9.out.to_ hK2 (by intro y hy; right; rw [List.mem_singleton.1 hy]; exact hgu))
      have R10 := Lib.hid (R9.out.kp hK2 (by simp; omega))
      have Z10 := Lib.hid (show Zub v10 w.heap.size from Z9.out.kp hK2 (by simp; omega))
      have U10 := Lib.hid (show Urb v10 u (.string (Txt (lowL (s.data.toList.take k)))) (.string Ut) (.string Ht) (.int .i64 Pv) (.slice a1 ps.length c1) (.slice a2 hd.length c2) from by rw [← hv]; exact Blk.set_ U9.out 5 _)
      have Vp10 := Lib.hid (Vp9.out.grow hK2 (by intro y hy; rw [List.mem_singleton.1 hy]; exact NoB.urb U9.out))
      have Vh10 := Lib.hid (Vh9.out.grow hK2 (by intro y hy; rw [List.mem_singleton.1 hy]; exact NoB.urb U9.out))
      have hV := HVs.out
      go_upto_region 21 with fail
      try rw [hv]
      clear hv q9 z9 hK2 hK hR R8 K8 Z8 U8 Vp8
      clear R9 K9 Z9 U9 Vp9 Vh9
      have c2 := R10.out.c2
      have c3 := R10.out.c3
      have d0 := Z10.out.cell 0
      have d1 := Z10.out.cell 1
      have d2 := Z10.out.cell 2
      have d3 := Z10.out.cell 3
      have d4 := Z10.out.cell 4
      have d5 := Z10.out.cell 5
      have g0 := Z10.out.frozen 0
      have g1 := Z10.out.frozen 1
      have g2 := Z10.out.frozen 2
      have g3 := Z10.out.frozen 3
      have g4 := Z10.out.frozen 4
      have g5 := Z10.out.frozen 5
      by_cases hX0 : X5 = 0
      · have bX : (X5 != 0) = false := by rw [hX0]; rfl
        have u0 := U10.out.cell 0
        have u1 := U10.out.cell 1
        have u2 := U10.out.cell 2
        have u3 := U10.out.cell 3
        have u4 := U10.out.cell 4
        have u5 := U10.out.cell 5
        have HX := Lib.hid hX0
        clear hX0
        go_wp2_with fail
        have hX0 := HX.out
        refine bodyPost_ret (results_three rfl _ _ w.heap.size 24 _ (0, 0) _ rfl (blk6 Z10.out _ _ _ _ _ _) Tryz.underlying24 rfl infoUri) rfl ?_
        obtain ⟨uc, hc, rfl, rfl, hE⟩ := HE.out.2 hX0
        rw [HVs.out, hE]
        exact uri_out w.heap.size w v10 ⟨lowL (s.data.toList.take k), uc, hc, Pv, ps, hd⟩ 0 0 _ _ _ _ _ _ _ _ _ _ ⟨_, _, rfl, Vp10.out, Vh10.out⟩ K10.out (Nat.le_refl _) Z10.out
      · have bX : (X5 != 0) = true := by rw [bne_iff_ne]; exact hX0
        have HX := Lib.hid hX0
        clear hX0
        go_upto_region 22 with fail
        go_region
        all_goals
          go_wp2_with fail
          have hX0 := HX.out
          refine bodyPost_ret (results_three rfl _ _ w.heap.size 24 _ (0, 0) _ rfl (Blk.drew (blk6 Z10.out _ _ _ _ _ _)) Tryz.underlying24 rfl infoUri) rfl ?_
          rw [HVs.out, HE.out.1 hX0]
          exact (uri_out w.heap.size w v10 nilU P5 X5 _ _ _ _ _ _ _ _ _ _ (UriIn.nil _ _) K10.out (Nat.le_refl _) Z10.out).drew
  · have HV1 := Lib.hid (HV0.out.trans (if_neg hsip))
    have bs1 : ((Txt (lowL (s.data.toList.take k))).toList == [115, 105, 112]) = false := by rw [HeS.out, beq_eq_false_iff_ne]; exact fun h => hsip (.inl h)
    have bs2 : ((Txt (lowL (s.data.toList.take k))).toList == [115, 105, 112, 115]) = false := by rw [HeS.out, beq_eq_false_iff_ne]; exact fun h => hsip (.inr h)
    by_cases htel : lowL (s.data.toList.take k) = telL
    · have HVs := Lib.hid (HV1.out.trans (if_pos htel))
      have bs3 : ((Txt (lowL (s.data.toList.take k))).toList == [116, 101, 108]) = true := by rw [HeS.out, htel]; rfl
      have Htel := Lib.hid htel
      clear hsip htel HV0 HV1 HeS
      go_enter Tryz.func20, Tryz.ntmps20
      go_wp2_with fail
      try rw [hb]
      refine HUn.out.mono ?_
      rintro e w2 ⟨rfl, hK2⟩
      have K2_ := Lib.hid (K1_.out.trans hK2)
      have Z2_ := Lib.hid (show Zub w2 w.heap.size from Z1_.out.kp hK2 (by simp))
      have R2_ := Lib.hid (R1_.out.kp hK2 (by simp))
      clear hK2
      go_wp2_with fail
      refine (HLo.out _).mono ?_
      rintro e w3 ⟨rfl, hK3⟩
      have K3_ := Lib.hid (K2_.out.trans hK3)
      have Z3_ := Lib.hid (show Zub w3 w.heap.size from Z2_.out.kp hK3 (by simp))
      have R3_ := Lib.hid (R2_.out.kp hK3 (by simp))
      have hb3 := R3_.out.lt
      clear hK3
      go_upto_region 8 with fail
      obtain ⟨u, hu⟩ : ∃ x, w3.heap.size = x := ⟨_, rfl⟩
      obtain ⟨w4, hw4⟩ : ∃ x, w3.alloc (.cells #[.string (Txt (lowL (s.data.toList.take k))), .string ⟨#[]⟩, .string ⟨#[]⟩, .int .i64 0, .slice none 0 0, .slice none 0 0] 24) = x := ⟨_, rfl⟩
      try rw [hw4, hu]
      have hKa : Kp [] w3 w4 := by rw [← hw4]; exact (Kp.refl _ _).alloc _
      have K4_ := Lib.hid (K3_.out.trans hKa)
      have Z4_ := Lib.hid (show Zub w4 w.heap.size from Z3_.out.kp hKa (by simp))
      have R4_ := Lib.hid (R3_.out.kp hKa (by simp))
      have U4_ := Lib.hid (show Urb w4 u (.string (Txt (lowL (s.data.toList.take k)))) (.string ⟨#[]⟩) (.string ⟨#[]⟩) (.int .i64 0) (.slice none 0 0) (.slice none 0 0) from by rw [← hw4, ← hu]; exact Blk.new w3 _ _)
      have hgu : w.heap.size ≤ u := by omega
      have hgu' : w.heap.size ≠ u := by omega
      have hbu : b ≠ u := by omega
      have c1 := R4_.out.c1
      have f1 := R4_.out.fr 1
      obtain ⟨w5, hw5⟩ : ∃ x, w4.setCell ⟨b, 1, none⟩ (.int .i64 (k1 : Int)) = x := ⟨_, rfl⟩
      have R0 := Lib.hid (show Rdr b s k1 0 0 w5 from by rw [← hw5]; exact R4_.out.at1 k1)
      have K0 := Lib.hid (show Kp [] w w5 from by rw [← hw5]; exact K4_.out.setCell (p := ⟨b, 1, none⟩) (.inr hgb) _)
      have Z0 := Lib.hid (show Zub w5 w.heap.size from by rw [← hw5]; exact Blk.far Z4_.out (p := ⟨b, 1, none⟩) hgb' _)
      have U0 := Lib.hid (show Urb w5 u (.string (Txt (lowL (s.data.toList.take k)))) (.string ⟨#[]⟩) (.string ⟨#[]⟩) (.int .i64 0) (.slice none 0 0) (.slice none 0 0) from by rw [← hw5]; exact Blk.far U4_.out (p := ⟨b, 1, none⟩) (Ne.symm hbu) _)
      clear hKa K1_ Z1_ R1_ K2_ Z2_ R2_ K3_ Z3_ R3_ K4_ Z4_ R4_
      go_upto_region 9 with fail
      try rw [hw5]
      clear hw5 c1 f1 U4_ hki hw4
      have uS := U0.out.cell 0
      go_wp2_with fail
      refine (rtelephone_any b k1 s _ R0.out hk1 hs).mono ?_
      rintro e v1 hX0
      obtain ⟨Ut, i1, P1, X1, rfl, hi1, hR, hK, hz1, hB1, hA1⟩ := hX0.all
      have A1 := Lib.hid (hA1 rfl)
      have Hz1 := Lib.hid hz1
      clear hX0 hB1 hA1 hz1
      have K1 := Lib.hid (K0.out.to_ hK (by intro y hy; right; rw [List.mem_singleton.1 hy]; exact hgb))
      have R1 := Lib.hid hR
      have Z1 := Lib.hid (show Zub v1 w.heap.size from Z0.out.kp hK (by simp; omega))
      have U1 := Lib.hid (show Urb v1 u (.string (Txt (lowL (s.data.toList.take k)))) (.string ⟨#[]⟩) (.string ⟨#[]⟩) (.int .i64 0) (.slice none 0 0) (.slice none 0 0) from Blk.kp U0.out hK (by simp; omega))
      have q1 := U1.out.cell 1
      have z1 := U1.out.frozen 1
      obtain ⟨v2, hv⟩ : ∃ x, v1.setCell ⟨u, 1, none⟩ (.string Ut) = x := ⟨_, rfl⟩
      have hK2 : Kp [u] v1 v2 := by rw [← hv]; exact (Kp.refl _ _).setCell (p := ⟨u, 1, none⟩) (.inl (by simp)) _
      have K2 := Lib.hid (K1.out.to_ hK2 (by intro y hy; right; rw [List.mem_singleton.1 hy]; exact hgu))
      have R2 := Lib.hid (R1.out.kp hK2 (by simp; omega))
      have Z2 := Lib.hid (show Zub v2 w.heap.size from Z1.out.kp hK2 (by simp; omega))
      have U2 := Lib.hid (show Urb v2 u (.string (Txt (lowL (s.data.toList.take k)))) (.string Ut) (.string ⟨#[]⟩) (.int .i64 0) (.slice none 0 0) (.slice none 0 0) from by rw [← hv]; exact Blk.set_ U1.out 1 _)
      go_upto_region 20 with fail
      try rw [hv]
      clear hv q1 z1 hK2 hK hR R0 K0 Z0 U0
      clear R1 K1 Z1 U1
      go_wp2_with fail
      refine (rlist_all (· == 59) (· == 59) 1 59 59 ⟨#[59]⟩ b i1 P1 X1 s _ R2.out hi1 hs Hz1.out (.inl rfl) (by decide) mem59 (by decide) (by decide) (fun _ _ => rfl) (fun _ => rfl)).mono ?_
      rintro e v3 ⟨vp, ps, i4, P4, X4, rfl, hPp, hi4, hR, hK, hz4, hB4, hA4⟩
      have K3 := Lib.hid (K2.out.to_ hK (by intro y hy; right; rw [List.mem_singleton.1 hy]; exact hgb))
      have R3 := Lib.hid hR
      have Z3 := Lib.hid (show Zub v3 w.heap.size from Z2.out.kp hK (by simp; omega))
      have U3 := Lib.hid (show Urb v3 u (.string (Txt (lowL (s.data.toList.take k)))) (.string Ut) (.string ⟨#[]⟩) (.int .i64 0) (.slice none 0 0) (.slice none 0 0) from Blk.kp U2.out hK (by simp; omega))
      have HE := Lib.hid (tel_end s.data.toList k1 i1 i4 P1 P4 X1 X4 Ut ps A1.out hB4 hA4)
      obtain ⟨a1, c1, rfl⟩ := hPp.form
      have Vp3 := Lib.hid hPp
      clear hz4 hB4 hA4 hPp A1 Hz1
      have q3 := U3.out.cell 4
      have z3 := U3.out.frozen 4
      obtain ⟨v4, hv⟩ : ∃ x, v3.setCell ⟨u, 4, none⟩ (.slice a1 ps.length c1) = x := ⟨_, rfl⟩
      have hK2 : Kp [u] v3 v4 := by rw [← hv]; exact (Kp.refl _ _).setCell (p := ⟨u, 4, none⟩) (.inl (by simp)) _
      have K4 := Lib.hid (K3.out.to_ hK2 (by intro y hy; right; rw [List.mem_singleton.1 hy]; exact hgu))
      have R4 := Lib.hid (R3.out.kp hK2 (by simp; omega))
      have Z4 := Lib.hid (show Zub v4 w.heap.size from Z3.out.kp hK2 (by simp; omega))
      have U4 := Lib.hid (show Urb v4 u (.string (Txt (lowL (s.data.toList.take k)))) (.string Ut) (.string ⟨#[]⟩) (.int .i64 0) (.slice a1 ps.length c1) (.slice none 0 0) from by rw [← hv]; exact Blk.set_ U3.out 4 _)
      have Vp4 := Lib.hid (Vp3.out.grow hK2 (by intro y hy; rw [List.mem_singleton.1 hy]; exact NoB.urb U3.out))
      go_upto_region 21 with fail
      try rw [hv]
      clear hv q3 z3 hK2 hK hR R2 K2 Z2 U2
      clear R3 K3 Z3 U3 Vp3
      have c2 := R4.out.c2
      have c3 := R4.out.c3
      have d0 := Z4.out.cell 0
      have d1 := Z4.out.cell 1
      have d2 := Z4.out.cell 2
      have d3 := Z4.out.cell 3
      have d4 := Z4.out.cell 4
      have d5 := Z4.out.cell 5
      have g0 := Z4.out.frozen 0
      have g1 := Z4.out.frozen 1
      have g2 := Z4.out.frozen 2
      have g3 := Z4.out.frozen 3
      have g4 := Z4.out.frozen 4
      have g5 := Z4.out.frozen 5
      by_cases hX0 : X4 = 0
      · have bX : (X4 != 0) = false := by rw [hX0]; rfl
        have u0 := U4.out.cell 0
        have u1 := U4.out.cell 1
        have u2 := U4.out.cell 2
        have u3 := U4.out.cell 3
        have u4 := U4.out.cell 4
        have u5 := U4.out.cell 5
        have HX := Lib.hid hX0
        clear hX0
        go_wp2_with fail
        have hX0 := HX.out
        have htel := Htel.out
        refine bodyPost_ret (results_three rfl _ _ w.heap.size 24 _ (0, 0) _ rfl (blk6 Z4.out _ _ _ _ _ _) Tryz.underlying24 rfl infoUri) rfl ?_
        obtain ⟨uc, rfl, hE⟩ := HE.out.2 hX0
        rw [HVs.out, hE]
        exact uri_out w.heap.size w v4 ⟨telL, uc, [], 0, ps, []⟩ 0 0 _ _ _ _ _ _ _ _ _ _ ⟨_, _, by rw [htel]; rfl, Vp4.out, PmIn.nil _ _⟩ K4.out (Nat.le_refl _) Z4.out
      · have bX : (X4 != 0) = true := by rw [bne_iff_ne]; exact hX0
        have HX := Lib.hid hX0
        clear hX0
        go_upto_region 22 with fail
        go_region
        all_goals
          go_wp2_with fail
          have hX0 := HX.out
          refine bodyPost_ret (results_three rfl _ _ w.heap.size 24 _ (0, 0) _ rfl (Blk.drew (blk6 Z4.out _ _ _ _ _ _)) Tryz.underlying24 rfl infoUri) rfl ?_
          rw [HVs.out, HE.out.1 hX0]
          exact (uri_out w.heap.size w v4 nilU P4 X4 _ _ _ _ _ _ _ _ _ _ (UriIn.nil _ _) K4.out (Nat.le_refl _) Z4.out).drew
    · have HVs := Lib.hid (HV1.out.trans (if_neg htel))
      have bs3 : ((Txt (lowL (s.data.toList.take k))).toList == [116, 101, 108]) = false := by rw [HeS.out, beq_eq_false_iff_ne]; exact htel
      clear hsip htel HV0 HV1 HeS
      go_enter Tryz.func20, Tryz.ntmps20
      go_wp2_with fail
      try rw [hb]
      refine HUn.out.mono ?_
      rintro e w2 ⟨rfl, hK2⟩
      have K2_ := Lib.hid (K1_.out.trans hK2)
      have Z2_ := Lib.hid (show Zub w2 w.heap.size from Z1_.out.kp hK2 (by simp))
      have R2_ := Lib.hid (R1_.out.kp hK2 (by simp))
      clear hK2
      go_wp2_with fail
      refine (HLo.out _).mono ?_
      rintro e w3 ⟨rfl, hK3⟩
      have K3_ := Lib.hid (K2_.out.trans hK3)
      have Z3_ := Lib.hid (show Zub w3 w.heap.size from Z2_.out.kp hK3 (by simp))
      have R3_ := Lib.hid (R2_.out.kp hK3 (by simp))
      have hb3 := R3_.out.lt
      clear hK3
      go_upto_region 8 with fail
      obtain ⟨u, hu⟩ : ∃ x, w3.heap.size = x := ⟨_, rfl⟩
      obtain ⟨w4, hw4⟩ : ∃ x, w3.alloc (.cells #[.string (Txt (lowL (s.data.toList.take k))), .string ⟨#[]⟩, .string ⟨#[]⟩, .int .i64 0, .slice none 0 0, .slice none 0 0] 24) = x := ⟨_, rfl⟩
      try rw [hw4, hu]
      have hKa : Kp [] w3 w4 := by rw [← hw4]; exact (Kp.refl _ _).alloc _
      have K4_ := Lib.hid (K3_.out.trans hKa)
      have Z4_ := Lib.hid (show Zub w4 w.heap.size from Z3_.out.kp hKa (by simp))
      have R4_ := Lib.hid (R3_.out.kp hKa (by simp))
      have U4_ := Lib.hid (show Urb w4 u (.string (Txt (lowL (s.data.toList.take k)))) (.string ⟨#[]⟩) (.string ⟨#[]⟩) (.int .i64 0) (.slice none 0 0) (.slice none 0 0) from by rw [← hw4, ← hu]; exact Blk.new w3 _ _)
      have hgu : w.heap.size ≤ u := by omega
      have hgu' : w.heap.size ≠ u := by omega
      have hbu : b ≠ u := by omega
      have c1 := R4_.out.c1
      have f1 := R4_.out.fr 1
      obtain ⟨w5, hw5⟩ : ∃ x, w4.setCell ⟨b, 1, none⟩ (.int .i64 (k1 : Int)) = x := ⟨_, rfl⟩
      have R0 := Lib.hid (show Rdr b s k1 0 0 w5 from by rw [← hw5]; exact R4_.out.at1 k1)
      have K0 := Lib.hid (show Kp [] w w5 from by rw [← hw5]; exact K4_.out.setCell (p := ⟨b, 1, none⟩) (.inr hgb) _)
      have Z0 := Lib.hid (show Zub w5 w.heap.size from by rw [← hw5]; exact Blk.far Z4_.out (p := ⟨b, 1, none⟩) hgb' _)
      have U0 := Lib.hid (show Urb w5 u (.string (Txt (lowL (s.data.toList.take k)))) (.string ⟨#[]⟩) (.string ⟨#[]⟩) (.int .i64 0) (.slice none 0 0) (.slice none 0 0) from by rw [← hw5]; exact Blk.far U4_.out (p := ⟨b, 1, none⟩) (Ne.symm hbu) _)
      clear hKa K1_ Z1_ R1_ K2_ Z2_ R2_ K3_ Z3_ R3_ K4_ Z4_ R4_
      go_upto_region 9 with fail
      try rw [hw5]
      clear hw5 c1 f1 U4_ hki hw4
      have uS := U0.out.cell 0
      have d0 := Z0.out.cell 0
      have g0 := Z0.out.frozen 0
      have d1 := Z0.out.cell 1
      have g1 := Z0.out.frozen 1
      have d2 := Z0.out.cell 2
      have g2 := Z0.out.frozen 2
      have d3 := Z0.out.cell 3
      have g3 := Z0.out.frozen 3
      have d4 := Z0.out.cell 4
      have g4 := Z0.out.frozen 4
      have d5 := Z0.out.cell 5
      have g5 := Z0.out.frozen 5
      go_wp2_with fail
      refine bodyPost_ret (results_three rfl _ _ w.heap.size 24 _ (0, 0) _ rfl (blk6 Z0.out _ _ _ _ _ _) Tryz.underlying24 rfl infoUri) rfl ?_
      rw [HVs.out]
      exact uri_out w.heap.size w w5 nilU 0 15 _ _ _ _ _ _ _ _ _ _ (UriIn.nil _ _) K0.out (Nat.le_refl _) Z0.out
end Ad
end Go.Proofs.YtonbkedjlbhpfaaGreatDoor
