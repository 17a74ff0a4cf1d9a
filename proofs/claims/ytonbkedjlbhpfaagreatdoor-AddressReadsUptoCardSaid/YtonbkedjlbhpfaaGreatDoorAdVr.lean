/- Contract of the reference's reader's param (dialtoneref02). A text has at most 2^21 bytes. -/
import Derived.Test.YtonbkedjlbhpfaaGreatDoorAdVq
import Derived.Laws.ResultCell
namespace Go.Proofs.YtonbkedjlbhpfaaGreatDoor
namespace Ad
open Go.RowKit Lx
/-- Behind param: a parameter and the state of the reader. -/
def RdPm (cls : Int) (b : Nat) (s : ByteArray) (i te : Nat) (w : World) (en : Ending) (w' : World) : Prop :=
  ∃ nm vl hs p' e', en = .returned (encP (nm, vl, hs)) ∧ nm.length ≤ s.size ∧ vl.length ≤ s.size ∧ Rdr b s te p' e' w' ∧ Kp [b] w w' ∧
    (e' ≠ 0 → (prR cls s.data.toList i te).2 = (p', e')) ∧ (e' = 0 → p' = 0 ∧ prR cls s.data.toList i te = ((nm, vl, hs), te, 0))
theorem prR_form (cls : Int) (l : List UInt8) (k tE q : Nat) (hq : min (endP (· == 61) l k) tE = q) (N V : List UInt8 × Nat) (hN : wrdR cls (slc l k q) = N) (hV : wrdR cls (slc l (q + 1) tE) = V) :
    prR cls l k tE = if N.2 < q - k then (([], [], false), k + N.2, 5) else if N.1 = [] then (([], [], false), k, 5)
      else if q = tE then (if cls = 2 then (([], [], false), tE, 5) else ((lowL N.1, [], false), tE, 0))
      else if V.2 < tE - (q + 1) then (([], [], false), q + 1 + V.2, 5) else if cls = 1 ∧ V.1 = [] then (([], [], false), tE, 5) else ((lowL N.1, V.1, true), tE, 0) := by
  unfold prR
  rw [hq, hN]
  by_cases h1 : N.2 < q - k
  · rw [if_pos h1, if_pos h1]
  rw [if_neg h1, if_neg h1]
  by_cases h2 : N.1 = []
  · rw [if_pos h2, if_pos h2]
  rw [if_neg h2, if_neg h2]
  by_cases h3 : q = tE
  · rw [if_pos h3, if_pos h3, ← h3, hN]
  rw [if_neg h3, if_neg h3]
  have h4 : endP (· == 61) l k = q := by omega
  rw [h4, hV, hN]
theorem rdc_len (cls : Int) (s : ByteArray) (i te i' p p' : Nat) (e e' : Int) (t : List UInt8)
    (h : if (wrdR cls (slc s.data.toList i te)).2 < te - i then t = [] ∧ i' = i ∧ p' = (if e = 0 then i + (wrdR cls (slc s.data.toList i te)).2 else p) ∧ e' = (if e = 0 then 5 else e)
     else t = (wrdR cls (slc s.data.toList i te)).1 ∧ i' = te ∧ p' = p ∧ e' = e) : t.length ≤ s.size := by
  by_cases hw : (wrdR cls (slc s.data.toList i te)).2 < te - i
  · rw [if_pos hw] at h; rw [h.1]; simp
  · rw [if_neg hw] at h; rw [h.1]; have := wrd_slc cls s.data.toList i te; rw [len_list] at this; exact this
/-- What is known behind the name: an error, or the name. -/
def NmJ (i q : Nat) (N : List UInt8 × Nat) (nm : List UInt8) (p2 : Nat) (e2 : Int) : Prop :=
  (e2 ≠ 0 → e2 = 5 ∧ ((N.2 < q - i ∧ p2 = i + N.2) ∨ (¬ N.2 < q - i ∧ N.1 = [] ∧ p2 = i))) ∧ (e2 = 0 → p2 = 0 ∧ ¬ N.2 < q - i ∧ N.1 ≠ [] ∧ nm = N.1)
theorem nmJ_full (i q i1 p1 : Nat) (e1 : Int) (N : List UInt8 × Nat) (nm : List UInt8) (hne : nm ≠ [])
    (h : if N.2 < q - i then nm = [] ∧ i1 = i ∧ p1 = (if (0 : Int) = 0 then i + N.2 else 0) ∧ e1 = (if (0 : Int) = 0 then 5 else 0) else nm = N.1 ∧ i1 = q ∧ p1 = 0 ∧ e1 = 0) : NmJ i q N nm p1 e1 := by
  by_cases hw : N.2 < q - i
  · rw [if_pos hw] at h; exact absurd h.1 hne
  · rw [if_neg hw] at h
    obtain ⟨h1, _, h3, h4⟩ := h
    exact ⟨fun hx => absurd h4 hx, fun _ => ⟨h3, hw, by rw [← h1]; exact hne, h1⟩⟩
theorem nmJ_emp (i q i1 p1 : Nat) (e1 : Int) (N : List UInt8 × Nat) (nm : List UInt8) (hne : nm = [])
    (h : if N.2 < q - i then nm = [] ∧ i1 = i ∧ p1 = (if (0 : Int) = 0 then i + N.2 else 0) ∧ e1 = (if (0 : Int) = 0 then 5 else 0) else nm = N.1 ∧ i1 = q ∧ p1 = 0 ∧ e1 = 0) : NmJ i q N nm (if e1 = 0 then i else p1) (if e1 = 0 then 5 else e1) := by
  by_cases hw : N.2 < q - i
  · rw [if_pos hw] at h
    obtain ⟨h1, _, h3, h4⟩ := h
    rw [if_pos rfl] at h3 h4
    subst h4; subst h3
    rw [if_neg (by decide), if_neg (by decide)]
    exact ⟨fun _ => ⟨rfl, .inl ⟨hw, rfl⟩⟩, fun hx => absurd hx (by decide)⟩
  · rw [if_neg hw] at h
    obtain ⟨h1, _, h3, h4⟩ := h
    subst h4
    rw [if_pos rfl, if_pos rfl]
    exact ⟨fun _ => ⟨rfl, .inr ⟨hw, by rw [← h1]; exact hne, rfl⟩⟩, fun hx => absurd hx (by decide)⟩
/-- What is known behind the value. -/
def VlJ (cls : Int) (q te : Nat) (V : List UInt8 × Nat) (vl : List UInt8) (p2 : Nat) (e2 : Int) (p3 : Nat) (e3 : Int) : Prop :=
  (e2 ≠ 0 → e3 = e2 ∧ p3 = p2) ∧ (e2 = 0 → (V.2 < te - (q + 1) ∧ e3 = 5 ∧ p3 = q + 1 + V.2) ∨ (¬ V.2 < te - (q + 1) ∧ (cls = 1 ∧ V.1 = []) ∧ e3 = 5 ∧ p3 = te) ∨ (¬ V.2 < te - (q + 1) ∧ ¬ (cls = 1 ∧ V.1 = []) ∧ e3 = 0 ∧ p3 = p2 ∧ vl = V.1))
theorem vlJ_no (cls : Int) (q te i3 p2 p3 : Nat) (e2 e3 : Int) (V : List UInt8 × Nat) (vl : List UInt8) (hne : ¬ (cls = 1 ∧ vl = []))
    (h : if V.2 < te - (q + 1) then vl = [] ∧ i3 = q + 1 ∧ p3 = (if e2 = 0 then q + 1 + V.2 else p2) ∧ e3 = (if e2 = 0 then 5 else e2) else vl = V.1 ∧ i3 = te ∧ p3 = p2 ∧ e3 = e2) : VlJ cls q te V vl p2 e2 p3 e3 := by
  by_cases hw : V.2 < te - (q + 1)
  · rw [if_pos hw] at h
    obtain ⟨_, _, h3, h4⟩ := h
    exact ⟨fun hx => ⟨by rw [h4, if_neg hx], by rw [h3, if_neg hx]⟩, fun hx => .inl ⟨hw, by rw [h4, if_pos hx], by rw [h3, if_pos hx]⟩⟩
  · rw [if_neg hw] at h
    obtain ⟨h1, _, h3, h4⟩ := h
    exact ⟨fun _ => ⟨h4, h3⟩, fun hx => .inr (.inr ⟨hw, by rw [← h1]; exact hne, by rw [h4, hx], h3, h1⟩)⟩
theorem vlJ_yes (cls : Int) (q te i3 p2 p3 : Nat) (e2 e3 : Int) (l : List UInt8) (V : List UInt8 × Nat) (hV : wrdR cls (slc l (q + 1) te) = V) (hl : te ≤ l.length) (hq : q < te) (vl : List UInt8) (hc : cls = 1) (hne : vl = [])
    (h : if V.2 < te - (q + 1) then vl = [] ∧ i3 = q + 1 ∧ p3 = (if e2 = 0 then q + 1 + V.2 else p2) ∧ e3 = (if e2 = 0 then 5 else e2) else vl = V.1 ∧ i3 = te ∧ p3 = p2 ∧ e3 = e2) : VlJ cls q te V vl p2 e2 (if e3 = 0 then q + 1 else p3) (if e3 = 0 then 5 else e3) := by
  have hsl := slc_len l (q + 1) te hl
  by_cases hw : V.2 < te - (q + 1)
  · rw [if_pos hw] at h
    obtain ⟨_, _, h3, h4⟩ := h
    by_cases hx : e2 = 0
    · rw [if_pos hx] at h3 h4
      subst h4; subst h3
      rw [if_neg (by decide), if_neg (by decide)]
      exact ⟨fun hy => absurd hx hy, fun _ => .inl ⟨hw, rfl, rfl⟩⟩
    · rw [if_neg hx] at h3 h4
      subst h4; subst h3
      rw [if_neg hx, if_neg hx]
      exact ⟨fun _ => ⟨rfl, rfl⟩, fun hy => absurd hy hx⟩
  · rw [if_neg hw] at h
    obtain ⟨h1, _, h3, h4⟩ := h
    subst h4; subst h3
    by_cases hx : e3 = 0
    · rw [if_pos hx, if_pos hx]
      have he := wrdR_empty cls (slc l (q + 1) te) (by rw [hV, hsl]; exact hw) (by rw [hV, ← h1]; exact hne)
      rw [he] at hsl
      simp at hsl
      exact ⟨fun hy => absurd hx hy, fun _ => .inr (.inl ⟨hw, ⟨hc, by rw [← h1]; exact hne⟩, rfl, by omega⟩)⟩
    · rw [if_neg hx, if_neg hx]
      exact ⟨fun _ => ⟨rfl, rfl⟩, fun hy => absurd hy hx⟩
theorem pmJ_end (cls : Int) (l : List UInt8) (i te q p2 p3 : Nat) (e2 e3 : Int) (N V : List UInt8 × Nat) (nm vl : List UInt8) (hq : min (endP (· == 61) l i) te = q) (hqt : ¬ q = te) (hN : wrdR cls (slc l i q) = N) (hV : wrdR cls (slc l (q + 1) te) = V)
    (hJ : NmJ i q N nm p2 e2) (hL : VlJ cls q te V vl p2 e2 p3 e3) : (e3 ≠ 0 → (prR cls l i te).2 = (p3, e3)) ∧ (e3 = 0 → p3 = 0 ∧ prR cls l i te = ((lowL nm, vl, true), te, 0)) := by
  rw [prR_form cls l i te q hq N V hN hV]
  by_cases hx : e2 = 0
  · obtain ⟨j1, j2, j3, j4⟩ := hJ.2 hx
    rw [if_neg j2, if_neg j3, if_neg hqt]
    rcases hL.2 hx with ⟨h1, h2, h3⟩ | ⟨h1, h2, h3, h4⟩ | ⟨h1, h2, h3, h4, h5⟩
    · rw [if_pos h1, h2, h3]; exact ⟨fun _ => rfl, fun h => absurd h (by decide)⟩
    · rw [if_neg h1, if_pos h2, h3, h4]; exact ⟨fun _ => rfl, fun h => absurd h (by decide)⟩
    · rw [if_neg h1, if_neg h2, h3, h4, j1, j4, h5]; exact ⟨fun h => absurd rfl h, fun _ => ⟨rfl, rfl⟩⟩
  · obtain ⟨j1, j2⟩ := hJ.1 hx
    obtain ⟨h1, h2⟩ := hL.1 hx
    rw [h1, h2, j1]
    rcases j2 with ⟨k1, k2⟩ | ⟨k1, k2, k3⟩
    · rw [if_pos k1, k2]; exact ⟨fun _ => rfl, fun h => absurd h (by decide)⟩
    · rw [if_neg k1, if_pos k2, k3]; exact ⟨fun _ => rfl, fun h => absurd h (by decide)⟩
theorem pmJ_one (l : List UInt8) (i te q p2 : Nat) (e2 : Int) (N V : List UInt8 × Nat) (nm : List UInt8) (hq : min (endP (· == 61) l i) te = q) (hqt : q = te) (hN : wrdR 1 (slc l i q) = N) (hV : wrdR 1 (slc l (q + 1) te) = V)
    (hJ : NmJ i q N nm p2 e2) : (e2 ≠ 0 → (prR 1 l i te).2 = (p2, e2)) ∧ (e2 = 0 → p2 = 0 ∧ prR 1 l i te = ((lowL nm, [], false), te, 0)) := by
  rw [prR_form 1 l i te q hq N V hN hV]
  by_cases hx : e2 = 0
  · obtain ⟨j1, j2, j3, j4⟩ := hJ.2 hx
    rw [if_neg j2, if_neg j3, if_pos hqt, if_neg (by decide), hx, j1, j4]
    exact ⟨fun h => absurd rfl h, fun _ => ⟨rfl, rfl⟩⟩
  · obtain ⟨j1, j2⟩ := hJ.1 hx
    rw [j1]
    rcases j2 with ⟨k1, k2⟩ | ⟨k1, k2, k3⟩
    · rw [if_pos k1, k2]; exact ⟨fun _ => rfl, fun h => absurd h (by decide)⟩
    · rw [if_neg k1, if_pos k2, k3]; exact ⟨fun _ => rfl, fun h => absurd h (by decide)⟩
theorem pmJ_two (l : List UInt8) (i te q p2 : Nat) (e2 : Int) (N V : List UInt8 × Nat) (nm vl : List UInt8) (hs : Bool) (hq : min (endP (· == 61) l i) te = q) (hqt : q = te) (hN : wrdR 2 (slc l i q) = N) (hV : wrdR 2 (slc l (q + 1) te) = V)
    (hJ : NmJ i q N nm p2 e2) : ((if e2 = 0 then 5 else e2) ≠ 0 → (prR 2 l i te).2 = ((if e2 = 0 then te else p2), (if e2 = 0 then 5 else e2))) ∧ ((if e2 = 0 then 5 else e2) = 0 → (if e2 = 0 then te else p2) = 0 ∧ prR 2 l i te = ((lowL nm, vl, hs), te, 0)) := by
  rw [prR_form 2 l i te q hq N V hN hV]
  by_cases hx : e2 = 0
  · obtain ⟨j1, j2, j3, j4⟩ := hJ.2 hx
    rw [if_neg j2, if_neg j3, if_pos hqt, if_pos rfl, if_pos hx, if_pos hx]
    exact ⟨fun _ => rfl, fun h => absurd h (by decide)⟩
  · obtain ⟨j1, j2⟩ := hJ.1 hx
    rw [if_neg hx, if_neg hx, j1]
    rcases j2 with ⟨k1, k2⟩ | ⟨k1, k2, k3⟩
    · rw [if_pos k1, k2]; exact ⟨fun _ => rfl, fun h => absurd h (by decide)⟩
    · rw [if_neg k1, if_pos k2, k3]; exact ⟨fun _ => rfl, fun h => absurd h (by decide)⟩
set_option maxRecDepth 100000 in
set_option maxHeartbeats 16000000 in
theorem rparam_1 (b i te : Nat) (s : ByteArray) (w : World) (R : Rdr b s i 0 0 w) (hi : i ≤ te) (hte : te ≤ s.size) (hs : s.size ≤ 2097152) :
    Calls Tryz.prog 152 #[.pointer (some ⟨b, 0, none⟩), .int .i64 te, .int .i64 1] w (RdPm 1 b s i te w) := by
  have hbw := R.lt
  obtain ⟨q, hq⟩ : ∃ q, min (endP (· == 61) s.data.toList i) te = q := ⟨_, rfl⟩
  obtain ⟨N, hN⟩ : ∃ N, wrdR 1 (slc s.data.toList i q) = N := ⟨_, rfl⟩
  obtain ⟨V, hV⟩ : ∃ V, wrdR 1 (slc s.data.toList (q + 1) te) = V := ⟨_, rfl⟩
  have HQ := Lib.hid (show i ≤ q ∧ q ≤ s.size from ⟨by have := endP_ge (· == 61) s.data.toList i; omega, by omega⟩)
  have HM := Lib.hid hq
  have HN := Lib.hid hN
  have HV := Lib.hid hV
  obtain ⟨w0, hw0⟩ : ∃ x, w.alloc (.cells #[.string ⟨#[]⟩, .string ⟨#[]⟩, .bool false] 75) = x := ⟨_, rfl⟩
  have R0 := Lib.hid (show Rdr b s i 0 0 w0 from by rw [← hw0]; exact Blk.alloc R _)
  have K0 := Lib.hid (show Kp [b] w w0 from by rw [← hw0]; exact (Kp.refl _ _).alloc _)
  have B0 := Lib.hid (show Blk w0 w.heap.size 75 #[.string ⟨#[]⟩, .string ⟨#[]⟩, .bool false] from by rw [← hw0]; exact Blk.new w _ _)
  have c0 := R0.out.c0
  have c1 := R0.out.c1
  clear R hq hN hV
  go_enter Tryz.func152, Tryz.ntmps152
  go_wp2_with fail
  go_loop [7] (fun k => ∃ j : Nat, i ≤ j ∧ j ≤ te ∧ k = .int .i64 j ∧ min (endP (· == 61) s.data.toList j) te = q) (fun k => te - (intOf k).toNat)
  case atStart => exact ⟨i, Nat.le_refl _, hi, rfl, HM.out⟩
  case round =>
    obtain ⟨j, hij, hjt, rfl, he⟩ := hrel
    have He := Lib.hid he
    clear he
    by_cases hjte : j < te
    · have hjs : j < s.size := by omega
      obtain ⟨x, hx⟩ : ∃ x : Int, (s[j].toNat : Int) = x := ⟨_, rfl⟩
      cases hpc : (x == 61)
      · have HNx := Lib.hid (by have h := He.out; rw [endP_next (· == 61) s j hjs (by rw [hx]; exact hpc)] at h; exact h : min (endP (· == 61) s.data.toList (j + 1)) te = q)
        have hpc2 : ((s[j].toNat : Int) != 61) = true := by rw [bne, hx, hpc]; rfl
        clear hpc hx
        go_wp2_with fail
        go_round
        case rel => exact ⟨j + 1, by omega, by omega, by go_num, HNx.out⟩
        case measure => simp [intOf]; omega
      · have hjq : q = j := by have h := He.out; rw [endP_at_k (· == 61) s j hjs (by rw [hx]; exact hpc)] at h; omega
        have hpc2 : ((s[j].toNat : Int) != 61) = false := by rw [bne, hx, hpc]; rfl
        have HQT := Lib.hid (show ¬ q = te from by omega)
        clear hpc hx He
        subst hjq
        go_wp2_with fail
        refine (rcontent_any 1 b i 0 q s 0 w0 R0.out HQ.out.1 HQ.out.2 hs).mono ?_
        rintro e w1 ⟨nm, i1, p1, e1, rfl, hR1, hK1, hif⟩
        have hnl := rdc_len 1 s i q i1 0 p1 0 e1 nm hif
        rw [HN.out] at hif
        have R1 := Lib.hid hR1
        have K1 := Lib.hid ((K0.out).to_ hK1 (by intro y hy; left; exact hy))
        have B1 := Lib.hid (B0.out.kp hK1 (by simp; omega))
        have Hif := Lib.hid hif
        clear hR1 hK1 hif
        cases hE : decide (nm = [])
        case' false =>
          have bE : ((Txt nm).toList == ([] : List UInt8)) = false := (emp_D _).trans hE
          have HJ := Lib.hid (nmJ_full i q i1 p1 e1 N nm (of_decide_eq_false hE) Hif.out)
          obtain ⟨p2, hp2⟩ : ∃ x, p1 = x := ⟨_, rfl⟩
          obtain ⟨e2, he2⟩ : ∃ x, e1 = x := ⟨_, rfl⟩
          obtain ⟨w2, hw2⟩ : ∃ x, w1 = x := ⟨_, rfl⟩
          rw [hp2, he2] at HJ
          rw [hw2, hp2, he2] at R1
          rw [hw2] at K1 B1 ⊢
          have R2 := R1
          have K2 := K1
          have B2 := B1
          clear hE hp2 he2 hw2 R1 K1 B1 Hif
        case' true =>
          have bE : ((Txt nm).toList == ([] : List UInt8)) = true := (emp_D _).trans hE
          have HJ := Lib.hid (nmJ_emp i q i1 p1 e1 N nm (of_decide_eq_true hE) Hif.out)
          go_wp2_with fail
          refine (rfail_any b i1 p1 i s e1 5 _ R1.out).mono ?_
          rintro e w2 ⟨rfl, hR2, hK2⟩
          obtain ⟨p2, hp2⟩ : ∃ x, (if e1 = 0 then i else p1) = x := ⟨_, rfl⟩
          obtain ⟨e2, he2⟩ : ∃ x, (if e1 = 0 then 5 else e1) = x := ⟨_, rfl⟩
          rw [hp2, he2] at HJ hR2
          have R2 := Lib.hid hR2
          have K2 := Lib.hid (K1.out.trans hK2)
          have B2 := Lib.hid (B1.out.kp hK2 (by simp; omega))
          clear hE hp2 he2 hR2 hK2 R1 K1 B1 Hif
        all_goals
          go_wp2_with fail
          refine (rlowK nm (by omega) _).mono ?_
          rintro e w3 ⟨rfl, hK3⟩
          have R3 := Lib.hid (R2.out.kp hK3 (by simp))
          have K3 := Lib.hid (K2.out.nil_to hK3)
          have B3 := Lib.hid (B2.out.kp hK3 (by simp))
          have hsz3 := K3.out.size
          have hbw3 := R3.out.lt
          have hgw3 := B3.out.lt
          go_upto_region 9 with fail
          obtain ⟨g, hg⟩ : ∃ g, w3.heap.size = g := ⟨_, rfl⟩
          obtain ⟨w4, hw4⟩ : ∃ x, w3.alloc (.cells #[.string (Txt (lowL nm)), .string ⟨#[]⟩, .bool false] 75) = x := ⟨_, rfl⟩
          try rw [hw4, hg]
          have R4 := Lib.hid (show Rdr b s i1 p2 e2 w4 from by rw [← hw4]; exact Blk.alloc R3.out _)
          have K4 := Lib.hid (show Kp [b] w w4 from by rw [← hw4]; exact K3.out.alloc _)
          have B4 := Lib.hid (show Blk w4 w.heap.size 75 #[.string ⟨#[]⟩, .string ⟨#[]⟩, .bool false] from by rw [← hw4]; exact Blk.alloc B3.out _)
          have P4 := Lib.hid (show Blk w4 g 75 #[.string (Txt (lowL nm)), .string ⟨#[]⟩, .bool false] from by rw [← hw4, ← hg]; exact Blk.new w3 _ _)
          have hlow : (lowL nm).length = nm.length := by unfold lowL; simp
          clear hK3 R2 K2 B2 bE
          have bq : ((q : Int) == (te : Int)) = false := by rw [beq_eq_false_iff_ne]; have := HQT.out; omega
          have lq : (q : Int) < (te : Int) := by have := HQT.out; omega
          obtain ⟨q1, hq1n⟩ : ∃ x, q + 1 = x := ⟨_, rfl⟩
          have Hq1 := Lib.hid hq1n
          have hq1 : IntKind.i64.wrap ((q : Int) + 1) = (q1 : Int) := by rw [IntWalk.i64_in _ (by omega)]; omega
          have hqs : q1 ≤ te := by have := HQT.out; omega
          have hqq : q < q1 := by omega
          clear hq1n
          have f1 := R4.out.fr 1
          have c1 := R4.out.c1
          have z2 := P4.out.cell 2
          have y2 := P4.out.frozen 2
          obtain ⟨w5, hw5⟩ : ∃ x, (w4.setCell ⟨b, 1, none⟩ (.int .i64 (q1 : Int))).setCell ⟨g, 2, none⟩ (.bool true) = x := ⟨_, rfl⟩
          have R5 := Lib.hid (show Rdr b s q1 p2 e2 w5 from by rw [← hw5]; exact (R4.out.at1 q1).far (p := ⟨g, 2, none⟩) (by show b ≠ g; omega) _)
          have K5 := Lib.hid (show Kp [b] w w5 from by rw [← hw5]; exact (K4.out.setCell (p := ⟨b, 1, none⟩) (.inl (by simp)) _).setCell (p := ⟨g, 2, none⟩) (.inr (by show _ ≤ g; omega)) _)
          have B5 := Lib.hid (show Blk w5 w.heap.size 75 #[.string ⟨#[]⟩, .string ⟨#[]⟩, .bool false] from by rw [← hw5]; exact (B4.out.far (p := ⟨b, 1, none⟩) (by show w.heap.size ≠ b; omega) _).far (p := ⟨g, 2, none⟩) (by show w.heap.size ≠ g; omega) _)
          have P5 := Lib.hid (show Blk w5 g 75 #[.string (Txt (lowL nm)), .string ⟨#[]⟩, .bool true] from by rw [← hw5]; exact (P4.out.far (p := ⟨b, 1, none⟩) (by show g ≠ b; omega) _).set_ 2 _)
          clear R4 K4 B4 P4
          go_upto_region 14 with fail
          try rw [hw5]
          clear f1 c1 z2 y2 hq1
          go_wp2_with fail
          refine (rcontent_any 1 b q1 p2 te s e2 _ R5.out hqs hte hs).mono ?_
          rintro e w6 ⟨vl, i6, p6, e6, rfl, hR6, hK6, hif⟩
          have hvl := rdc_len 1 s q1 te i6 p2 p6 e2 e6 vl hif
          rw [← Hq1.out, HV.out] at hif
          have K6 := Lib.hid (K5.out.trans hK6)
          have B6 := Lib.hid (B5.out.kp hK6 (by simp; omega))
          have hP6 := P5.out.kp hK6 (by simp; omega)
          have z1 := hP6.cell 1
          have y1 := hP6.frozen 1
          obtain ⟨w7, hw7⟩ : ∃ x, w6.setCell ⟨g, 1, none⟩ (.string (Txt vl)) = x := ⟨_, rfl⟩
          have R7 := Lib.hid (show Rdr b s i6 p6 e6 w7 from by rw [← hw7]; exact hR6.far (p := ⟨g, 1, none⟩) (by show b ≠ g; omega) _)
          have K7 := Lib.hid (show Kp [b] w w7 from by rw [← hw7]; exact K6.out.setCell (p := ⟨g, 1, none⟩) (.inr (by show _ ≤ g; omega)) _)
          have B7 := Lib.hid (show Blk w7 w.heap.size 75 #[.string ⟨#[]⟩, .string ⟨#[]⟩, .bool false] from by rw [← hw7]; exact B6.out.far (p := ⟨g, 1, none⟩) (by show w.heap.size ≠ g; omega) _)
          have P7 := Lib.hid (show Blk w7 g 75 #[.string (Txt (lowL nm)), .string (Txt vl), .bool true] from by rw [← hw7]; exact hP6.set_ 1 _)
          have Hif := Lib.hid hif
          clear hR6 hK6 hP6 hif K6 B6 R5 K5 B5 P5
          go_upto_region 15 with fail
          try rw [hw7]
          clear z1 y1 hw7 hw5
          have z1 := P7.out.cell 1
          cases hE : decide (vl = [])
          case' false =>
            have bE : ((Txt vl).toList == ([] : List UInt8)) = false := (emp_D _).trans hE
            have HL := Lib.hid (vlJ_no 1 q te i6 p2 p6 e2 e6 V vl (fun h => of_decide_eq_false hE h.2) Hif.out)
            obtain ⟨p8, hp8⟩ : ∃ x, p6 = x := ⟨_, rfl⟩
            obtain ⟨e8, he8⟩ : ∃ x, e6 = x := ⟨_, rfl⟩
            go_upto_region 17 with fail
            obtain ⟨w8, hw8⟩ : ∃ x, w7 = x := ⟨_, rfl⟩
            rw [hp8, he8] at HL R7
            rw [hw8] at R7 K7 B7 P7 ⊢
            have R8 := R7
            have K8 := K7
            have B8 := B7
            have P8 := P7
            clear R7 K7 B7 P7 hp8 he8 hw8 z1
          case' true =>
            have bE : ((Txt vl).toList == ([] : List UInt8)) = true := (emp_D _).trans hE
            have HL := Lib.hid (vlJ_yes 1 q te i6 p2 p6 e2 e6 s.data.toList V HV.out (by rw [len_list]; exact hte) (by omega) vl rfl (of_decide_eq_true hE) Hif.out)
            have hq1 : IntKind.i64.wrap ((q : Int) + 1) = (q1 : Int) := by have := Hq1.out; rw [IntWalk.i64_in _ (by omega)]; omega
            go_wp2_with fail
            refine (rfail_any b i6 p6 q1 s e6 5 _ R7.out).mono ?_
            rintro e w8 ⟨rfl, hR8, hK8⟩
            rw [Hq1.out] at HL
            obtain ⟨p8, hp8⟩ : ∃ x, (if e6 = 0 then q1 else p6) = x := ⟨_, rfl⟩
            obtain ⟨e8, he8⟩ : ∃ x, (if e6 = 0 then 5 else e6) = x := ⟨_, rfl⟩
            rw [hp8, he8] at HL hR8
            have R8 := Lib.hid hR8
            have K8 := Lib.hid (K7.out.trans hK8)
            have B8 := Lib.hid (B7.out.kp hK8 (by simp; omega))
            have P8 := Lib.hid (P7.out.kp hK8 (by simp; omega))
            clear hR8 hK8 hp8 he8 R7 K7 B7 P7 z1 hq1
          all_goals
            have f1 := R8.out.fr 1
            have c1 := R8.out.c1
            obtain ⟨w9, hw9⟩ : ∃ x, w8.setCell ⟨b, 1, none⟩ (.int .i64 te) = x := ⟨_, rfl⟩
            have R9 := Lib.hid (show Rdr b s te p8 e8 w9 from by rw [← hw9]; exact R8.out.at1 te)
            have K9 := Lib.hid (show Kp [b] w w9 from by rw [← hw9]; exact K8.out.setCell (p := ⟨b, 1, none⟩) (.inl (by simp)) _)
            have B9 := Lib.hid (show Blk w9 w.heap.size 75 #[.string ⟨#[]⟩, .string ⟨#[]⟩, .bool false] from by rw [← hw9]; exact B8.out.far (p := ⟨b, 1, none⟩) (by show w.heap.size ≠ b; omega) _)
            have P9 := Lib.hid (show Blk w9 g 75 #[.string (Txt (lowL nm)), .string (Txt vl), .bool true] from by rw [← hw9]; exact P8.out.far (p := ⟨b, 1, none⟩) (by show g ≠ b; omega) _)
            go_upto_region 18 with fail
            try rw [hw9]
            clear f1 c1 hw9
            have u0 := P9.out.cell 0
            have u1 := P9.out.cell 1
            have u2 := P9.out.cell 2
            have d0 := B9.out.cell 0
            have d1 := B9.out.cell 1
            have d2 := B9.out.cell 2
            have g0 := B9.out.frozen 0
            have g1 := B9.out.frozen 1
            have g2 := B9.out.frozen 2
            go_wp2_with fail
            refine bodyPost_ret (results_cell_row rfl _ _ w.heap.size 75 _ (0, 0) _ rfl (blk3 B9.out _ _ _) Tryz.underlying75 rfl infoPrm) rfl ?_
            exact ⟨lowL nm, vl, true, p8, e8, rfl, by omega, hvl, ((Blk.far (Blk.far (Blk.far R9.out (p := ⟨w.heap.size, 0, none⟩) (by show b ≠ w.heap.size; omega) _) (p := ⟨w.heap.size, 1, none⟩) (by show b ≠ w.heap.size; omega) _) (p := ⟨w.heap.size, 2, none⟩) (by show b ≠ w.heap.size; omega) _)), kp3 K9.out (Nat.le_refl _) _ _ _, pmJ_end 1 s.data.toList i te q p2 p8 e2 e8 N V nm vl HM.out HQT.out HN.out HV.out HJ.out HL.out⟩
    · have hj : j = te := by omega
      have hjq : q = te := by have h := He.out; rw [hj] at h; have := endP_ge (· == 61) s.data.toList te; omega
      have HQT := Lib.hid hjq
      clear He
      obtain rfl : q = j := by omega
      have tj : ¬ (q : Int) < (te : Int) := by omega
      clear hjq hj
      go_wp2_with fail
      refine (rcontent_any 1 b i 0 q s 0 w0 R0.out HQ.out.1 HQ.out.2 hs).mono ?_
      rintro e w1 ⟨nm, i1, p1, e1, rfl, hR1, hK1, hif⟩
      have hnl := rdc_len 1 s i q i1 0 p1 0 e1 nm hif
      rw [HN.out] at hif
      have R1 := Lib.hid hR1
      have K1 := Lib.hid ((K0.out).to_ hK1 (by intro y hy; left; exact hy))
      have B1 := Lib.hid (B0.out.kp hK1 (by simp; omega))
      have Hif := Lib.hid hif
      clear hR1 hK1 hif
      cases hE : decide (nm = [])
      case' false =>
        have bE : ((Txt nm).toList == ([] : List UInt8)) = false := (emp_D _).trans hE
        have HJ := Lib.hid (nmJ_full i q i1 p1 e1 N nm (of_decide_eq_false hE) Hif.out)
        obtain ⟨p2, hp2⟩ : ∃ x, p1 = x := ⟨_, rfl⟩
        obtain ⟨e2, he2⟩ : ∃ x, e1 = x := ⟨_, rfl⟩
        obtain ⟨w2, hw2⟩ : ∃ x, w1 = x := ⟨_, rfl⟩
        rw [hp2, he2] at HJ
        rw [hw2, hp2, he2] at R1
        rw [hw2] at K1 B1 ⊢
        have R2 := R1
        have K2 := K1
        have B2 := B1
        clear hE hp2 he2 hw2 R1 K1 B1 Hif
      case' true =>
        have bE : ((Txt nm).toList == ([] : List UInt8)) = true := (emp_D _).trans hE
        have HJ := Lib.hid (nmJ_emp i q i1 p1 e1 N nm (of_decide_eq_true hE) Hif.out)
        go_wp2_with fail
        refine (rfail_any b i1 p1 i s e1 5 _ R1.out).mono ?_
        rintro e w2 ⟨rfl, hR2, hK2⟩
        obtain ⟨p2, hp2⟩ : ∃ x, (if e1 = 0 then i else p1) = x := ⟨_, rfl⟩
        obtain ⟨e2, he2⟩ : ∃ x, (if e1 = 0 then 5 else e1) = x := ⟨_, rfl⟩
        rw [hp2, he2] at HJ hR2
        have R2 := Lib.hid hR2
        have K2 := Lib.hid (K1.out.trans hK2)
        have B2 := Lib.hid (B1.out.kp hK2 (by simp; omega))
        clear hE hp2 he2 hR2 hK2 R1 K1 B1 Hif
      all_goals
        go_wp2_with fail
        refine (rlowK nm (by omega) _).mono ?_
        rintro e w3 ⟨rfl, hK3⟩
        have R3 := Lib.hid (R2.out.kp hK3 (by simp))
        have K3 := Lib.hid (K2.out.nil_to hK3)
        have B3 := Lib.hid (B2.out.kp hK3 (by simp))
        have hsz3 := K3.out.size
        have hbw3 := R3.out.lt
        have hgw3 := B3.out.lt
        go_upto_region 9 with fail
        obtain ⟨g, hg⟩ : ∃ g, w3.heap.size = g := ⟨_, rfl⟩
        obtain ⟨w4, hw4⟩ : ∃ x, w3.alloc (.cells #[.string (Txt (lowL nm)), .string ⟨#[]⟩, .bool false] 75) = x := ⟨_, rfl⟩
        try rw [hw4, hg]
        have R4 := Lib.hid (show Rdr b s i1 p2 e2 w4 from by rw [← hw4]; exact Blk.alloc R3.out _)
        have K4 := Lib.hid (show Kp [b] w w4 from by rw [← hw4]; exact K3.out.alloc _)
        have B4 := Lib.hid (show Blk w4 w.heap.size 75 #[.string ⟨#[]⟩, .string ⟨#[]⟩, .bool false] from by rw [← hw4]; exact Blk.alloc B3.out _)
        have P4 := Lib.hid (show Blk w4 g 75 #[.string (Txt (lowL nm)), .string ⟨#[]⟩, .bool false] from by rw [← hw4, ← hg]; exact Blk.new w3 _ _)
        have hlow : (lowL nm).length = nm.length := by unfold lowL; simp
        clear hK3 R2 K2 B2 bE
        have bq : ((q : Int) == (te : Int)) = true := by rw [HQT.out]; simp
        have lq : ¬ (q : Int) < (te : Int) := by have := HQT.out; omega
        have HL := Lib.hid (pmJ_one s.data.toList i te q p2 e2 N V nm HM.out HQT.out HN.out HV.out HJ.out)
        obtain ⟨p8, hp8⟩ : ∃ x, p2 = x := ⟨_, rfl⟩
        obtain ⟨e8, he8⟩ : ∃ x, e2 = x := ⟨_, rfl⟩
        go_upto_region 17 with fail
        try rw [hw4]
        obtain ⟨w8, hw8⟩ : ∃ x, w4 = x := ⟨_, rfl⟩
        rw [hp8, he8] at HL R4
        rw [hw8] at R4 K4 B4 P4 ⊢
        have R8 := R4
        have K8 := K4
        have B8 := B4
        have P8 := P4
        clear R4 K4 B4 P4 hp8 he8 hw8
        have f1 := R8.out.fr 1
        have c1 := R8.out.c1
        obtain ⟨w9, hw9⟩ : ∃ x, w8.setCell ⟨b, 1, none⟩ (.int .i64 te) = x := ⟨_, rfl⟩
        have R9 := Lib.hid (show Rdr b s te p8 e8 w9 from by rw [← hw9]; exact R8.out.at1 te)
        have K9 := Lib.hid (show Kp [b] w w9 from by rw [← hw9]; exact K8.out.setCell (p := ⟨b, 1, none⟩) (.inl (by simp)) _)
        have B9 := Lib.hid (show Blk w9 w.heap.size 75 #[.string ⟨#[]⟩, .string ⟨#[]⟩, .bool false] from by rw [← hw9]; exact B8.out.far (p := ⟨b, 1, none⟩) (by show w.heap.size ≠ b; omega) _)
        have P9 := Lib.hid (show Blk w9 g 75 #[.string (Txt (lowL nm)), .string ⟨#[]⟩, .bool false] from by rw [← hw9]; exact P8.out.far (p := ⟨b, 1, none⟩) (by show g ≠ b; omega) _)
        go_upto_region 18 with fail
        try rw [hw9]
        clear f1 c1 hw9
        have u0 := P9.out.cell 0
        have u1 := P9.out.cell 1
        have u2 := P9.out.cell 2
        have d0 := B9.out.cell 0
        have d1 := B9.out.cell 1
        have d2 := B9.out.cell 2
        have g0 := B9.out.frozen 0
        have g1 := B9.out.frozen 1
        have g2 := B9.out.frozen 2
        go_wp2_with fail
        refine bodyPost_ret (results_cell_row rfl _ _ w.heap.size 75 _ (0, 0) _ rfl (blk3 B9.out _ _ _) Tryz.underlying75 rfl infoPrm) rfl ?_
        exact ⟨lowL nm, [], false, p8, e8, rfl, by omega, by simp, ((Blk.far (Blk.far (Blk.far R9.out (p := ⟨w.heap.size, 0, none⟩) (by show b ≠ w.heap.size; omega) _) (p := ⟨w.heap.size, 1, none⟩) (by show b ≠ w.heap.size; omega) _) (p := ⟨w.heap.size, 2, none⟩) (by show b ≠ w.heap.size; omega) _)), kp3 K9.out (Nat.le_refl _) _ _ _, HL.out⟩
set_option maxRecDepth 100000 in
set_option maxHeartbeats 16000000 in
theorem rparam_2 (b i te : Nat) (s : ByteArray) (w : World) (R : Rdr b s i 0 0 w) (hi : i ≤ te) (hte : te ≤ s.size) (hs : s.size ≤ 2097152) :
    Calls Tryz.prog 152 #[.pointer (some ⟨b, 0, none⟩), .int .i64 te, .int .i64 2] w (RdPm 2 b s i te w) := by
  have hbw := R.lt
  obtain ⟨q, hq⟩ : ∃ q, min (endP (· == 61) s.data.toList i) te = q := ⟨_, rfl⟩
  obtain ⟨N, hN⟩ : ∃ N, wrdR 2 (slc s.data.toList i q) = N := ⟨_, rfl⟩
  obtain ⟨V, hV⟩ : ∃ V, wrdR 2 (slc s.data.toList (q + 1) te) = V := ⟨_, rfl⟩
  have HQ := Lib.hid (show i ≤ q ∧ q ≤ s.size from ⟨by have := endP_ge (· == 61) s.data.toList i; omega, by omega⟩)
  have HM := Lib.hid hq
  have HN := Lib.hid hN
  have HV := Lib.hid hV
  obtain ⟨w0, hw0⟩ : ∃ x, w.alloc (.cells #[.string ⟨#[]⟩, .string ⟨#[]⟩, .bool false] 75) = x := ⟨_, rfl⟩
  have R0 := Lib.hid (show Rdr b s i 0 0 w0 from by rw [← hw0]; exact Blk.alloc R _)
  have K0 := Lib.hid (show Kp [b] w w0 from by rw [← hw0]; exact (Kp.refl _ _).alloc _)
  have B0 := Lib.hid (show Blk w0 w.heap.size 75 #[.string ⟨#[]⟩, .string ⟨#[]⟩, .bool false] from by rw [← hw0]; exact Blk.new w _ _)
  have c0 := R0.out.c0
  have c1 := R0.out.c1
  clear R hq hN hV
  go_enter Tryz.func152, Tryz.ntmps152
  go_wp2_with fail
  go_loop [7] (fun k => ∃ j : Nat, i ≤ j ∧ j ≤ te ∧ k = .int .i64 j ∧ min (endP (· == 61) s.data.toList j) te = q) (fun k => te - (intOf k).toNat)
  case atStart => exact ⟨i, Nat.le_refl _, hi, rfl, HM.out⟩
  case round =>
    obtain ⟨j, hij, hjt, rfl, he⟩ := hrel
    have He := Lib.hid he
    clear he
    by_cases hjte : j < te
    · have hjs : j < s.size := by omega
      obtain ⟨x, hx⟩ : ∃ x : Int, (s[j].toNat : Int) = x := ⟨_, rfl⟩
      cases hpc : (x == 61)
      · have HNx := Lib.hid (by have h := He.out; rw [endP_next (· == 61) s j hjs (by rw [hx]; exact hpc)] at h; exact h : min (endP (· == 61) s.data.toList (j + 1)) te = q)
        have hpc2 : ((s[j].toNat : Int) != 61) = true := by rw [bne, hx, hpc]; rfl
        clear hpc hx
        go_wp2_with fail
        go_round
        case rel => exact ⟨j + 1, by omega, by omega, by go_num, HNx.out⟩
        case measure => simp [intOf]; omega
      · have hjq : q = j := by have h := He.out; rw [endP_at_k (· == 61) s j hjs (by rw [hx]; exact hpc)] at h; omega
        have hpc2 : ((s[j].toNat : Int) != 61) = false := by rw [bne, hx, hpc]; rfl
        have HQT := Lib.hid (show ¬ q = te from by omega)
        clear hpc hx He
        subst hjq
        go_wp2_with fail
        refine (rcontent_any 2 b i 0 q s 0 w0 R0.out HQ.out.1 HQ.out.2 hs).mono ?_
        rintro e w1 ⟨nm, i1, p1, e1, rfl, hR1, hK1, hif⟩
        have hnl := rdc_len 2 s i q i1 0 p1 0 e1 nm hif
        rw [HN.out] at hif
        have R1 := Lib.hid hR1
        have K1 := Lib.hid ((K0.out).to_ hK1 (by intro y hy; left; exact hy))
        have B1 := Lib.hid (B0.out.kp hK1 (by simp; omega))
        have Hif := Lib.hid hif
        clear hR1 hK1 hif
        cases hE : decide (nm = [])
        case' false =>
          have bE : ((Txt nm).toList == ([] : List UInt8)) = false := (emp_D _).trans hE
          have HJ := Lib.hid (nmJ_full i q i1 p1 e1 N nm (of_decide_eq_false hE) Hif.out)
          obtain ⟨p2, hp2⟩ : ∃ x, p1 = x := ⟨_, rfl⟩
          obtain ⟨e2, he2⟩ : ∃ x, e1 = x := ⟨_, rfl⟩
          obtain ⟨w2, hw2⟩ : ∃ x, w1 = x := ⟨_, rfl⟩
          rw [hp2, he2] at HJ
          rw [hw2, hp2, he2] at R1
          rw [hw2] at K1 B1 ⊢
          have R2 := R1
          have K2 := K1
          have B2 := B1
          clear hE hp2 he2 hw2 R1 K1 B1 Hif
        case' true =>
          have bE : ((Txt nm).toList == ([] : List UInt8)) = true := (emp_D _).trans hE
          have HJ := Lib.hid (nmJ_emp i q i1 p1 e1 N nm (of_decide_eq_true hE) Hif.out)
          go_wp2_with fail
          refine (rfail_any b i1 p1 i s e1 5 _ R1.out).mono ?_
          rintro e w2 ⟨rfl, hR2, hK2⟩
          obtain ⟨p2, hp2⟩ : ∃ x, (if e1 = 0 then i else p1) = x := ⟨_, rfl⟩
          obtain ⟨e2, he2⟩ : ∃ x, (if e1 = 0 then 5 else e1) = x := ⟨_, rfl⟩
          rw [hp2, he2] at HJ hR2
          have R2 := Lib.hid hR2
          have K2 := Lib.hid (K1.out.trans hK2)
          have B2 := Lib.hid (B1.out.kp hK2 (by simp; omega))
          clear hE hp2 he2 hR2 hK2 R1 K1 B1 Hif
        all_goals
          go_wp2_with fail
          refine (rlowK nm (by omega) _).mono ?_
          rintro e w3 ⟨rfl, hK3⟩
          have R3 := Lib.hid (R2.out.kp hK3 (by simp))
          have K3 := Lib.hid (K2.out.nil_to hK3)
          have B3 := Lib.hid (B2.out.kp hK3 (by simp))
          have hsz3 := K3.out.size
          have hbw3 := R3.out.lt
          have hgw3 := B3.out.lt
          go_upto_region 9 with fail
          obtain ⟨g, hg⟩ : ∃ g, w3.heap.size = g := ⟨_, rfl⟩
          obtain ⟨w4, hw4⟩ : ∃ x, w3.alloc (.cells #[.string (Txt (lowL nm)), .string ⟨#[]⟩, .bool false] 75) = x := ⟨_, rfl⟩
          try rw [hw4, hg]
          have R4 := Lib.hid (show Rdr b s i1 p2 e2 w4 from by rw [← hw4]; exact Blk.alloc R3.out _)
          have K4 := Lib.hid (show Kp [b] w w4 from by rw [← hw4]; exact K3.out.alloc _)
          have B4 := Lib.hid (show Blk w4 w.heap.size 75 #[.string ⟨#[]⟩, .string ⟨#[]⟩, .bool false] from by rw [← hw4]; exact Blk.alloc B3.out _)
          have P4 := Lib.hid (show Blk w4 g 75 #[.string (Txt (lowL nm)), .string ⟨#[]⟩, .bool false] from by rw [← hw4, ← hg]; exact Blk.new w3 _ _)
          have hlow : (lowL nm).length = nm.length := by unfold lowL; simp
          clear hK3 R2 K2 B2 bE
          have bq : ((q : Int) == (te : Int)) = false := by rw [beq_eq_false_iff_ne]; have := HQT.out; omega
          have lq : (q : Int) < (te : Int) := by have := HQT.out; omega
          obtain ⟨q1, hq1n⟩ : ∃ x, q + 1 = x := ⟨_, rfl⟩
          have Hq1 := Lib.hid hq1n
          have hq1 : IntKind.i64.wrap ((q : Int) + 1) = (q1 : Int) := by rw [IntWalk.i64_in _ (by omega)]; omega
          have hqs : q1 ≤ te := by have := HQT.out; omega
          have hqq : q < q1 := by omega
          clear hq1n
          have f1 := R4.out.fr 1
          have c1 := R4.out.c1
          have z2 := P4.out.cell 2
          have y2 := P4.out.frozen 2
          obtain ⟨w5, hw5⟩ : ∃ x, (w4.setCell ⟨b, 1, none⟩ (.int .i64 (q1 : Int))).setCell ⟨g, 2, none⟩ (.bool true) = x := ⟨_, rfl⟩
          have R5 := Lib.hid (show Rdr b s q1 p2 e2 w5 from by rw [← hw5]; exact (R4.out.at1 q1).far (p := ⟨g, 2, none⟩) (by show b ≠ g; omega) _)
          have K5 := Lib.hid (show Kp [b] w w5 from by rw [← hw5]; exact (K4.out.setCell (p := ⟨b, 1, none⟩) (.inl (by simp)) _).setCell (p := ⟨g, 2, none⟩) (.inr (by show _ ≤ g; omega)) _)
          have B5 := Lib.hid (show Blk w5 w.heap.size 75 #[.string ⟨#[]⟩, .string ⟨#[]⟩, .bool false] from by rw [← hw5]; exact (B4.out.far (p := ⟨b, 1, none⟩) (by show w.heap.size ≠ b; omega) _).far (p := ⟨g, 2, none⟩) (by show w.heap.size ≠ g; omega) _)
          have P5 := Lib.hid (show Blk w5 g 75 #[.string (Txt (lowL nm)), .string ⟨#[]⟩, .bool true] from by rw [← hw5]; exact (P4.out.far (p := ⟨b, 1, none⟩) (by show g ≠ b; omega) _).set_ 2 _)
          clear R4 K4 B4 P4
          go_upto_region 14 with fail
          try rw [hw5]
          clear f1 c1 z2 y2 hq1
          go_wp2_with fail
          refine (rcontent_any 2 b q1 p2 te s e2 _ R5.out hqs hte hs).mono ?_
          rintro e w6 ⟨vl, i6, p6, e6, rfl, hR6, hK6, hif⟩
          have hvl := rdc_len 2 s q1 te i6 p2 p6 e2 e6 vl hif
          rw [← Hq1.out, HV.out] at hif
          have K6 := Lib.hid (K5.out.trans hK6)
          have B6 := Lib.hid (B5.out.kp hK6 (by simp; omega))
          have hP6 := P5.out.kp hK6 (by simp; omega)
          have z1 := hP6.cell 1
          have y1 := hP6.frozen 1
          obtain ⟨w7, hw7⟩ : ∃ x, w6.setCell ⟨g, 1, none⟩ (.string (Txt vl)) = x := ⟨_, rfl⟩
          have R7 := Lib.hid (show Rdr b s i6 p6 e6 w7 from by rw [← hw7]; exact hR6.far (p := ⟨g, 1, none⟩) (by show b ≠ g; omega) _)
          have K7 := Lib.hid (show Kp [b] w w7 from by rw [← hw7]; exact K6.out.setCell (p := ⟨g, 1, none⟩) (.inr (by show _ ≤ g; omega)) _)
          have B7 := Lib.hid (show Blk w7 w.heap.size 75 #[.string ⟨#[]⟩, .string ⟨#[]⟩, .bool false] from by rw [← hw7]; exact B6.out.far (p := ⟨g, 1, none⟩) (by show w.heap.size ≠ g; omega) _)
          have P7 := Lib.hid (show Blk w7 g 75 #[.string (Txt (lowL nm)), .string (Txt vl), .bool true] from by rw [← hw7]; exact hP6.set_ 1 _)
          have Hif := Lib.hid hif
          clear hR6 hK6 hP6 hif K6 B6 R5 K5 B5 P5
          go_upto_region 15 with fail
          try rw [hw7]
          clear z1 y1 hw7 hw5
          have z1 := P7.out.cell 1
          have HL := Lib.hid (vlJ_no 2 q te i6 p2 p6 e2 e6 V vl (fun h => absurd h.1 (by decide)) Hif.out)
          obtain ⟨p8, hp8⟩ : ∃ x, p6 = x := ⟨_, rfl⟩
          obtain ⟨e8, he8⟩ : ∃ x, e6 = x := ⟨_, rfl⟩
          go_upto_region 17 with fail
          obtain ⟨w8, hw8⟩ : ∃ x, w7 = x := ⟨_, rfl⟩
          rw [hp8, he8] at HL R7
          rw [hw8] at R7 K7 B7 P7 ⊢
          have R8 := R7
          have K8 := K7
          have B8 := B7
          have P8 := P7
          clear R7 K7 B7 P7 hp8 he8 hw8 z1
          have f1 := R8.out.fr 1
          have c1 := R8.out.c1
          obtain ⟨w9, hw9⟩ : ∃ x, w8.setCell ⟨b, 1, none⟩ (.int .i64 te) = x := ⟨_, rfl⟩
          have R9 := Lib.hid (show Rdr b s te p8 e8 w9 from by rw [← hw9]; exact R8.out.at1 te)
          have K9 := Lib.hid (show Kp [b] w w9 from by rw [← hw9]; exact K8.out.setCell (p := ⟨b, 1, none⟩) (.inl (by simp)) _)
          have B9 := Lib.hid (show Blk w9 w.heap.size 75 #[.string ⟨#[]⟩, .string ⟨#[]⟩, .bool false] from by rw [← hw9]; exact B8.out.far (p := ⟨b, 1, none⟩) (by show w.heap.size ≠ b; omega) _)
          have P9 := Lib.hid (show Blk w9 g 75 #[.string (Txt (lowL nm)), .string (Txt vl), .bool true] from by rw [← hw9]; exact P8.out.far (p := ⟨b, 1, none⟩) (by show g ≠ b; omega) _)
          go_upto_region 18 with fail
          try rw [hw9]
          clear f1 c1 hw9
          have u0 := P9.out.cell 0
          have u1 := P9.out.cell 1
          have u2 := P9.out.cell 2
          have d0 := B9.out.cell 0
          have d1 := B9.out.cell 1
          have d2 := B9.out.cell 2
          have g0 := B9.out.frozen 0
          have g1 := B9.out.frozen 1
          have g2 := B9.out.frozen 2
          go_wp2_with fail
          refine bodyPost_ret (results_cell_row rfl _ _ w.heap.size 75 _ (0, 0) _ rfl (blk3 B9.out _ _ _) Tryz.underlying75 rfl infoPrm) rfl ?_
          exact ⟨lowL nm, vl, true, p8, e8, rfl, by omega, hvl, ((Blk.far (Blk.far (Blk.far R9.out (p := ⟨w.heap.size, 0, none⟩) (by show b ≠ w.heap.size; omega) _) (p := ⟨w.heap.size, 1, none⟩) (by show b ≠ w.heap.size; omega) _) (p := ⟨w.heap.size, 2, none⟩) (by show b ≠ w.heap.size; omega) _)), kp3 K9.out (Nat.le_refl _) _ _ _, pmJ_end 2 s.data.toList i te q p2 p8 e2 e8 N V nm vl HM.out HQT.out HN.out HV.out HJ.out HL.out⟩
    · have hj : j = te := by omega
      have hjq : q = te := by have h := He.out; rw [hj] at h; have := endP_ge (· == 61) s.data.toList te; omega
      have HQT := Lib.hid hjq
      clear He
      obtain rfl : q = j := by omega
      have tj : ¬ (q : Int) < (te : Int) := by omega
      clear hjq hj
      go_wp2_with fail
      refine (rcontent_any 2 b i 0 q s 0 w0 R0.out HQ.out.1 HQ.out.2 hs).mono ?_
      rintro e w1 ⟨nm, i1, p1, e1, rfl, hR1, hK1, hif⟩
      have hnl := rdc_len 2 s i q i1 0 p1 0 e1 nm hif
      rw [HN.out] at hif
      have R1 := Lib.hid hR1
      have K1 := Lib.hid ((K0.out).to_ hK1 (by intro y hy; left; exact hy))
      have B1 := Lib.hid (B0.out.kp hK1 (by simp; omega))
      have Hif := Lib.hid hif
      clear hR1 hK1 hif
      cases hE : decide (nm = [])
      case' false =>
        have bE : ((Txt nm).toList == ([] : List UInt8)) = false := (emp_D _).trans hE
        have HJ := Lib.hid (nmJ_full i q i1 p1 e1 N nm (of_decide_eq_false hE) Hif.out)
        obtain ⟨p2, hp2⟩ : ∃ x, p1 = x := ⟨_, rfl⟩
        obtain ⟨e2, he2⟩ : ∃ x, e1 = x := ⟨_, rfl⟩
        obtain ⟨w2, hw2⟩ : ∃ x, w1 = x := ⟨_, rfl⟩
        rw [hp2, he2] at HJ
        rw [hw2, hp2, he2] at R1
        rw [hw2] at K1 B1 ⊢
        have R2 := R1
        have K2 := K1
        have B2 := B1
        clear hE hp2 he2 hw2 R1 K1 B1 Hif
      case' true =>
        have bE : ((Txt nm).toList == ([] : List UInt8)) = true := (emp_D _).trans hE
        have HJ := Lib.hid (nmJ_emp i q i1 p1 e1 N nm (of_decide_eq_true hE) Hif.out)
        go_wp2_with fail
        refine (rfail_any b i1 p1 i s e1 5 _ R1.out).mono ?_
        rintro e w2 ⟨rfl, hR2, hK2⟩
        obtain ⟨p2, hp2⟩ : ∃ x, (if e1 = 0 then i else p1) = x := ⟨_, rfl⟩
        obtain ⟨e2, he2⟩ : ∃ x, (if e1 = 0 then 5 else e1) = x := ⟨_, rfl⟩
        rw [hp2, he2] at HJ hR2
        have R2 := Lib.hid hR2
        have K2 := Lib.hid (K1.out.trans hK2)
        have B2 := Lib.hid (B1.out.kp hK2 (by simp; omega))
        clear hE hp2 he2 hR2 hK2 R1 K1 B1 Hif
      all_goals
        go_wp2_with fail
        refine (rlowK nm (by omega) _).mono ?_
        rintro e w3 ⟨rfl, hK3⟩
        have R3 := Lib.hid (R2.out.kp hK3 (by simp))
        have K3 := Lib.hid (K2.out.nil_to hK3)
        have B3 := Lib.hid (B2.out.kp hK3 (by simp))
        have hsz3 := K3.out.size
        have hbw3 := R3.out.lt
        have hgw3 := B3.out.lt
        go_upto_region 9 with fail
        obtain ⟨g, hg⟩ : ∃ g, w3.heap.size = g := ⟨_, rfl⟩
        obtain ⟨w4, hw4⟩ : ∃ x, w3.alloc (.cells #[.string (Txt (lowL nm)), .string ⟨#[]⟩, .bool false] 75) = x := ⟨_, rfl⟩
        try rw [hw4, hg]
        have R4 := Lib.hid (show Rdr b s i1 p2 e2 w4 from by rw [← hw4]; exact Blk.alloc R3.out _)
        have K4 := Lib.hid (show Kp [b] w w4 from by rw [← hw4]; exact K3.out.alloc _)
        have B4 := Lib.hid (show Blk w4 w.heap.size 75 #[.string ⟨#[]⟩, .string ⟨#[]⟩, .bool false] from by rw [← hw4]; exact Blk.alloc B3.out _)
        have P4 := Lib.hid (show Blk w4 g 75 #[.string (Txt (lowL nm)), .string ⟨#[]⟩, .bool false] from by rw [← hw4, ← hg]; exact Blk.new w3 _ _)
        have hlow : (lowL nm).length = nm.length := by unfold lowL; simp
        clear hK3 R2 K2 B2 bE
        have bq : ((q : Int) == (te : Int)) = true := by rw [HQT.out]; simp
        have lq : ¬ (q : Int) < (te : Int) := by have := HQT.out; omega
        go_wp2_with fail
        refine (rfail_any b i1 p2 te s e2 5 _ R4.out).mono ?_
        rintro e w8 ⟨rfl, hR8, hK8⟩
        have HL := Lib.hid (pmJ_two s.data.toList i te q p2 e2 N V nm [] false HM.out HQT.out HN.out HV.out HJ.out)
        obtain ⟨p8, hp8⟩ : ∃ x, (if e2 = 0 then te else p2) = x := ⟨_, rfl⟩
        obtain ⟨e8, he8⟩ : ∃ x, (if e2 = 0 then 5 else e2) = x := ⟨_, rfl⟩
        rw [hp8, he8] at HL hR8
        have R8 := Lib.hid hR8
        have K8 := Lib.hid (K4.out.trans hK8)
        have B8 := Lib.hid (B4.out.kp hK8 (by simp; omega))
        have P8 := Lib.hid (P4.out.kp hK8 (by simp; omega))
        clear hR8 hK8 hp8 he8 R4 K4 B4 P4
        have f1 := R8.out.fr 1
        have c1 := R8.out.c1
        obtain ⟨w9, hw9⟩ : ∃ x, w8.setCell ⟨b, 1, none⟩ (.int .i64 te) = x := ⟨_, rfl⟩
        have R9 := Lib.hid (show Rdr b s te p8 e8 w9 from by rw [← hw9]; exact R8.out.at1 te)
        have K9 := Lib.hid (show Kp [b] w w9 from by rw [← hw9]; exact K8.out.setCell (p := ⟨b, 1, none⟩) (.inl (by simp)) _)
        have B9 := Lib.hid (show Blk w9 w.heap.size 75 #[.string ⟨#[]⟩, .string ⟨#[]⟩, .bool false] from by rw [← hw9]; exact B8.out.far (p := ⟨b, 1, none⟩) (by show w.heap.size ≠ b; omega) _)
        have P9 := Lib.hid (show Blk w9 g 75 #[.string (Txt (lowL nm)), .string ⟨#[]⟩, .bool false] from by rw [← hw9]; exact P8.out.far (p := ⟨b, 1, none⟩) (by show g ≠ b; omega) _)
        go_upto_region 18 with fail
        try rw [hw9]
        clear f1 c1 hw9
        have u0 := P9.out.cell 0
        have u1 := P9.out.cell 1
        have u2 := P9.out.cell 2
        have d0 := B9.out.cell 0
        have d1 := B9.out.cell 1
        have d2 := B9.out.cell 2
        have g0 := B9.out.frozen 0
        have g1 := B9.out.frozen 1
        have g2 := B9.out.frozen 2
        go_wp2_with fail
        refine bodyPost_ret (results_cell_row rfl _ _ w.heap.size 75 _ (0, 0) _ rfl (blk3 B9.out _ _ _) Tryz.underlying75 rfl infoPrm) rfl ?_
        exact ⟨lowL nm, [], false, p8, e8, rfl, by omega, by simp, ((Blk.far (Blk.far (Blk.far R9.out (p := ⟨w.heap.size, 0, none⟩) (by show b ≠ w.heap.size; omega) _) (p := ⟨w.heap.size, 1, none⟩) (by show b ≠ w.heap.size; omega) _) (p := ⟨w.heap.size, 2, none⟩) (by show b ≠ w.heap.size; omega) _)), kp3 K9.out (Nat.le_refl _) _ _ _, HL.out⟩
end Ad
end Go.Proofs.YtonbkedjlbhpfaaGreatDoor
