/- Contracts of the reference's Same and SameParams, of Equal, of awake; how long the parts of a URI are. -/
import Derived.Test.YtmmjfofdnpafkaaGreatDoorM7
/- Contracts of the reference's SameParams, Same and SameAddress. Texts and lists have at most 2^32 bytes or elements. -/
namespace Go.Proofs.YtmmjfofdnpafkaaGreatDoor
namespace Ad
open Go.RowKit Lx

/-- A truth value, and nothing that was there is changed. -/
def BoK (x : Bool) (w : World) (e : Ending) (w' : World) : Prop := e = .returned (.bool x) ∧ Kp [] w w'
theorem txt_beq (a b : List UInt8) (h : a ≠ b) : ((Txt a).toList == (Txt b).toList) = false := by
  rw [Lib.toList_data, Lib.toList_data, beq_eq_false_iff_ne]; exact h
theorem txt_beqT (a b : List UInt8) (h : a = b) : ((Txt a).toList == (Txt b).toList) = true := by rw [h]; exact beq_self_eq_true _
theorem prm_ne (a b c a' b' c') (h : ¬ ((a : List UInt8) = a' ∧ (b : List UInt8) = b' ∧ (c : Bool) = c')) (s t : List Prm) : (((a, b, c) :: s) == ((a', b', c') :: t)) = false := by
  rw [beq_eq_false_iff_ne]
  intro e
  injection e with e1 e2
  injection e1 with e3 e4
  injection e4 with e5 e6
  exact h ⟨e3, e5, e6⟩
theorem prm_eq (p : Prm) (s t : List Prm) : ((p :: s) == (p :: t)) = (s == t) := by
  rw [List.cons_beq_cons, beq_self_eq_true, Bool.true_and]
set_option maxRecDepth 100000 in
set_option maxHeartbeats 4000000 in
theorem sameP_any (B1 B2 : Nat) (va vb : Value) (l m : List Prm) (w : World) (hA : PmIn B1 w va l) (hB : PmIn B2 w vb m) (h1 : B1 ≤ w.heap.size) (h2 : B2 ≤ w.heap.size) (hll : l.length ≤ 4294967296) (hml : m.length ≤ 4294967296) :
    Calls Tryz.prog 47 #[va, vb] w (BoK (l == m) w) := by
  obtain ⟨A1, k1, rfl⟩ := hA.form
  obtain ⟨A2, k2, rfl⟩ := hB.form
  obtain ⟨R, hR⟩ : ∃ R, (l == m) = R := ⟨_, rfl⟩
  have HR := Lib.hid hR
  have HA := Lib.hid hA
  have HB := Lib.hid hB
  clear hA hB
  by_cases hl : l.length = m.length
  · have bl : ((l.length : Int) != (m.length : Int)) = false := by rw [hl]; simp
    have HL := Lib.hid hl
    have hx : (l.drop 0 == m.drop 0) = R := hR
    have HX := Lib.hid hx
    rw [hR]
    clear hl hR hx
    go_enter Tryz.func47, Tryz.ntmps47
    go_wp2_with fail
    go_loopg [5] (l.length + 1) (fun gg i wr => ∃ (j : Nat), j ≤ l.length ∧ l.length - j < gg ∧ i = .int .i64 j ∧ (l.drop j == m.drop j) = R ∧ Kp [] w wr)
    case atStart => exact ⟨0, by omega, by omega, rfl, HX.out, Kp.refl _ _⟩
    case round =>
      obtain ⟨j, hj, hg, rfl, hr, hK⟩ := hrel
      have PA := Lib.hid (HA.out.kp hK h1 (by simp))
      have PB := Lib.hid (HB.out.kp hK h2 (by simp))
      by_cases hlt : j < l.length
      · have hlt2 : j < m.length := by rw [← HL.out]; exact hlt
        rw [drop_cons l j hlt, drop_cons m j hlt2] at hr
        obtain ⟨p1, p2, p3, hp⟩ : ∃ a b c, l[j]! = (a, b, c) := ⟨_, _, _, rfl⟩
        obtain ⟨q1, q2, q3, hq⟩ : ∃ a b c, m[j]! = (a, b, c) := ⟨_, _, _, rfl⟩
        rw [hp, hq] at hr
        have hsp : l[j]? = some (p1, p2, p3) := by rw [← hp]; exact getD_some l j hlt
        have hsq : m[j]? = some (q1, q2, q3) := by rw [← hq]; exact getD_some m j hlt2
        obtain ⟨_, kk1, rfl, hc1, ⟨h0, hv⟩ | ⟨b1, o1, hv, hb1, hcell1⟩⟩ := PA.out
        · omega
        · injection hv with hA1 _ hc12
          subst hA1
          obtain ⟨_, kk2, rfl, hc2, ⟨h0, hv⟩ | ⟨b2, o2, hv, hb2, hcell2⟩⟩ := PB.out
          · omega
          · injection hv with hA2 _ hc22
            subst hA2
            have c0 : wr.cell? ⟨b1, o1 + j * 3, none⟩ = some (.string (Txt p1)) := hcell1 _ _ (pcl_at l j _ hsp 0 _ rfl)
            have c1 : wr.cell? ⟨b1, o1 + j * 3 + 1, none⟩ = some (.string (Txt p2)) := by rw [Nat.add_assoc]; exact hcell1 _ _ (pcl_at l j _ hsp 1 _ rfl)
            have c2 : wr.cell? ⟨b1, o1 + j * 3 + 2, none⟩ = some (.bool p3) := by rw [Nat.add_assoc]; exact hcell1 _ _ (pcl_at l j _ hsp 2 _ rfl)
            have e0 : wr.cell? ⟨b2, o2 + j * 3, none⟩ = some (.string (Txt q1)) := hcell2 _ _ (pcl_at m j _ hsq 0 _ rfl)
            have e1 : wr.cell? ⟨b2, o2 + j * 3 + 1, none⟩ = some (.string (Txt q2)) := by rw [Nat.add_assoc]; exact hcell2 _ _ (pcl_at m j _ hsq 1 _ rfl)
            have e2 : wr.cell? ⟨b2, o2 + j * 3 + 2, none⟩ = some (.bool q3) := by rw [Nat.add_assoc]; exact hcell2 _ _ (pcl_at m j _ hsq 2 _ rfl)
            clear hcell1 hcell2 hc1 hc2 hc12 hc22 hp hq hsp hsq
            by_cases hx1 : p1 = q1
            · have t1 := txt_beqT p1 q1 hx1
              have HX1 := Lib.hid hx1
              clear hx1
              by_cases hx2 : p2 = q2
              · have t2 := txt_beqT p2 q2 hx2
                have HX2 := Lib.hid hx2
                clear hx2
                by_cases hx3 : p3 = q3
                · have t3 : (p3 == q3) = true := by rw [hx3]; exact beq_self_eq_true _
                  have HX := Lib.hid (show (l.drop (j + 1) == m.drop (j + 1)) = R from by rw [← hr, HX1.out, HX2.out, hx3, prm_eq])
                  clear hx3 hr
                  go_wp2_with fail
                  go_quiet (fail)
                  go_wp2_with fail
                  go_roundg (l.length - j)
                  case measure => omega
                  case rel => exact ⟨j + 1, by omega, by omega, rfl, HX.out, hK.drewN _⟩
                · have t3 : (p3 == q3) = false := beq_eq_false_iff_ne.2 hx3
                  have HX := Lib.hid (hr.symm.trans (prm_ne _ _ _ _ _ _ (fun h => hx3 h.2.2) _ _))
                  clear hr
                  go_wp2_with fail
                  go_quiet (fail)
                  go_wp2_with fail
                  go_ret
                  rw [HX.out]
                  exact ⟨rfl, hK.drewN _⟩
              · have t2 := txt_beq p2 q2 hx2
                have HX := Lib.hid (hr.symm.trans (prm_ne _ _ _ _ _ _ (fun h => hx2 h.2.1) _ _))
                clear hr
                go_wp2_with fail
                go_quiet (fail)
                go_wp2_with fail
                go_ret
                rw [HX.out]
                exact ⟨rfl, hK.drewN _⟩
            · have t1 := txt_beq p1 q1 hx1
              have HX := Lib.hid (hr.symm.trans (prm_ne _ _ _ _ _ _ (fun h => hx1 h.1) _ _))
              clear hr
              go_wp2_with fail
              go_quiet (fail)
              go_wp2_with fail
              go_ret
              rw [HX.out]
              exact ⟨rfl, hK.drewN _⟩
      · have HX := Lib.hid (show R = true from by
          rw [← hr, List.drop_eq_nil_of_le (by omega), List.drop_eq_nil_of_le (by have := HL.out; omega)]; rfl)
        clear hr
        go_wp2_with fail
        go_ret
        rw [HX.out]
        exact ⟨rfl, hK⟩
  · have bl : ((l.length : Int) != (m.length : Int)) = true := by rw [bne_iff_ne]; omega
    have HX := Lib.hid (show (l == m) = false from beq_eq_false_iff_ne.2 (fun e => hl (by rw [e])))
    clear hl hR
    go_enter Tryz.func47, Tryz.ntmps47
    go_wp2_with fail
    go_ret
    rw [HX.out]
    exact ⟨rfl, Kp.refl _ _⟩
end Ad
end Go.Proofs.YtmmjfofdnpafkaaGreatDoor
/- Contracts of slices.Equal at lists of parameters and of Equal of package address. Texts have at most 2^21 bytes. -/
namespace Go.Proofs.YtmmjfofdnpafkaaGreatDoor
namespace Ad
open Go.RowKit Lx

end Ad
end Go.Proofs.YtmmjfofdnpafkaaGreatDoor
/- Contract of awake of package dialtonelaw02: it returns true, and nothing that was there is changed. -/
namespace Go.Proofs.YtmmjfofdnpafkaaGreatDoor
namespace Ad
open Go.RowKit Lx

/-- A block that holds a URI. -/
def UBox (w : World) (g : Nat) (u : Uri) : Prop := ∃ (a1 : Option Addr) (c1 : Nat) (a2 : Option Addr) (c2 : Nat),
  Blk w g 24 #[.string (Txt u.scheme), .string (Txt u.user), .string (Txt u.host), .int .i64 u.port, .slice a1 u.params.length c1, .slice a2 u.heads.length c2] ∧ PmIn w.heap.size w (.slice a1 u.params.length c1) u.params ∧ PmIn w.heap.size w (.slice a2 u.heads.length c2) u.heads
theorem UBox.kpn {w w' : World} {g : Nat} {u : Uri} (h : UBox w g u) (k : Kp [] w w') : UBox w' g u := by
  obtain ⟨a1, c1, a2, c2, hb, h1, h2⟩ := h
  exact ⟨a1, c1, a2, c2, hb.kp k (by simp), h1.grow k (by intro y hy; cases hy), h2.grow k (by intro y hy; cases hy)⟩
theorem UBox.new {w : World} {S U H : ByteArray} {P : Int} {a1 : Option Addr} {n1 c1 : Nat} {a2 : Option Addr} {n2 c2 : Nat} {u : Uri} (h : UriIn w.heap.size w (.agg #[.string S, .string U, .string H, .int .i64 P, .slice a1 n1 c1, .slice a2 n2 c2]) u) :
    UBox (w.alloc (.cells #[.string S, .string U, .string H, .int .i64 P, .slice a1 n1 c1, .slice a2 n2 c2] 24)) w.heap.size u := by
  obtain ⟨vp, vh, he, hp, hh⟩ := h
  injection he with he
  simp only [Array.mk.injEq, List.cons.injEq, and_true] at he
  obtain ⟨e1, e2, e3, e4, e5, e6⟩ := he
  subst e5 e6
  obtain ⟨A1, C1, f1⟩ := hp.form
  obtain ⟨A2, C2, f2⟩ := hh.form
  have k := (Kp.refl [] w).alloc (.cells #[.string S, .string U, .string H, .int .i64 P, .slice a1 n1 c1, .slice a2 n2 c2] 24)
  have hp' := hp.grow k (by intro y hy; cases hy)
  have hh' := hh.grow k (by intro y hy; cases hy)
  have hB := Blk.new w 24 #[.string S, .string U, .string H, .int .i64 P, .slice a1 n1 c1, .slice a2 n2 c2]
  rw [e1, e2, e3, e4, f1, f2] at hB
  rw [f1] at hp'
  rw [f2] at hh'
  injection f1 with f11 f12 f13
  injection f2 with f21 f22 f23
  subst f11 f12 f13 f21 f22 f23
  rw [← e1, ← e2, ← e3, ← e4] at hB
  exact ⟨_, _, _, _, by rw [e1, e2, e3, e4] at hB; rw [e1, e2, e3, e4]; exact hB, by rw [e1, e2, e3, e4] at hp'; rw [e1, e2, e3, e4]; exact hp', by rw [e1, e2, e3, e4] at hh'; rw [e1, e2, e3, e4]; exact hh'⟩
theorem UBox.in {w : World} {g : Nat} {u : Uri} (h : UBox w g u) : ∃ (a1 : Option Addr) (c1 : Nat) (a2 : Option Addr) (c2 : Nat),
    (∀ i, w.cell? ⟨g, i, none⟩ = #[Value.string (Txt u.scheme), .string (Txt u.user), .string (Txt u.host), .int .i64 u.port, .slice a1 u.params.length c1, .slice a2 u.heads.length c2][i]?) ∧ UriIn w.heap.size w (.agg #[.string (Txt u.scheme), .string (Txt u.user), .string (Txt u.host), .int .i64 u.port, .slice a1 u.params.length c1, .slice a2 u.heads.length c2]) u := by
  obtain ⟨a1, c1, a2, c2, hb, h1, h2⟩ := h
  exact ⟨a1, c1, a2, c2, fun i => hb.cell i, _, _, rfl, h1, h2⟩
/-- Parameters in a block of their own. -/
theorem PmIn.blk {w : World} {g : Nat} {t : TypeId} {l : List Prm} (h : Blk w g t (pcl l).toArray) : PmIn w.heap.size w (.slice (some ⟨g, 0, none⟩) l.length l.length) l :=
  ⟨_, _, rfl, Nat.le_refl _, .inr ⟨g, 0, rfl, h.lt, fun j u hu => by rw [Nat.zero_add, h.cell j]; simpa using hu⟩⟩

/-- A block that holds an address. -/
def ABox (w : World) (g : Nat) (a : Adr) : Prop := ∃ (a1 : Option Addr) (c1 : Nat) (a2 : Option Addr) (c2 : Nat) (a3 : Option Addr) (c3 : Nat),
  Blk w g 26 #[.string (Txt a.display), .string (Txt a.uri.scheme), .string (Txt a.uri.user), .string (Txt a.uri.host), .int .i64 a.uri.port, .slice a1 a.uri.params.length c1, .slice a2 a.uri.heads.length c2, .slice a3 a.params.length c3] ∧ PmIn w.heap.size w (.slice a1 a.uri.params.length c1) a.uri.params ∧ PmIn w.heap.size w (.slice a2 a.uri.heads.length c2) a.uri.heads ∧ PmIn w.heap.size w (.slice a3 a.params.length c3) a.params
theorem ABox.kpn {w w' : World} {g : Nat} {a : Adr} (h : ABox w g a) (k : Kp [] w w') : ABox w' g a := by
  obtain ⟨a1, c1, a2, c2, a3, c3, hb, h1, h2, h3⟩ := h
  exact ⟨a1, c1, a2, c2, a3, c3, hb.kp k (by simp), h1.grow k (by intro y hy; cases hy), h2.grow k (by intro y hy; cases hy), h3.grow k (by intro y hy; cases hy)⟩
theorem ABox.new {w : World} {a : Adr} {a1 : Option Addr} {c1 : Nat} {a2 : Option Addr} {c2 : Nat} {a3 : Option Addr} {c3 : Nat} (h1 : PmIn w.heap.size w (.slice a1 a.uri.params.length c1) a.uri.params) (h2 : PmIn w.heap.size w (.slice a2 a.uri.heads.length c2) a.uri.heads) (h3 : PmIn w.heap.size w (.slice a3 a.params.length c3) a.params) :
    ABox (w.alloc (.cells #[.string (Txt a.display), .string (Txt a.uri.scheme), .string (Txt a.uri.user), .string (Txt a.uri.host), .int .i64 a.uri.port, .slice a1 a.uri.params.length c1, .slice a2 a.uri.heads.length c2, .slice a3 a.params.length c3] 26)) w.heap.size a := by
  have k := (Kp.refl [] w).alloc (.cells #[.string (Txt a.display), .string (Txt a.uri.scheme), .string (Txt a.uri.user), .string (Txt a.uri.host), .int .i64 a.uri.port, .slice a1 a.uri.params.length c1, .slice a2 a.uri.heads.length c2, .slice a3 a.params.length c3] 26)
  exact ⟨a1, c1, a2, c2, a3, c3, Blk.new w _ _, h1.grow k (by intro y hy; cases hy), h2.grow k (by intro y hy; cases hy), h3.grow k (by intro y hy; cases hy)⟩
theorem ABox.in {w : World} {g : Nat} {a : Adr} (h : ABox w g a) : ∃ (a1 : Option Addr) (c1 : Nat) (a2 : Option Addr) (c2 : Nat) (a3 : Option Addr) (c3 : Nat),
    (∀ i, w.cell? ⟨g, i, none⟩ = #[Value.string (Txt a.display), .string (Txt a.uri.scheme), .string (Txt a.uri.user), .string (Txt a.uri.host), .int .i64 a.uri.port, .slice a1 a.uri.params.length c1, .slice a2 a.uri.heads.length c2, .slice a3 a.params.length c3][i]?) ∧ UriIn w.heap.size w (.agg #[.string (Txt a.uri.scheme), .string (Txt a.uri.user), .string (Txt a.uri.host), .int .i64 a.uri.port, .slice a1 a.uri.params.length c1, .slice a2 a.uri.heads.length c2]) a.uri ∧ PmIn w.heap.size w (.slice a3 a.params.length c3) a.params := by
  obtain ⟨a1, c1, a2, c2, a3, c3, hb, h1, h2, h3⟩ := h
  exact ⟨a1, c1, a2, c2, a3, c3, fun i => hb.cell i, ⟨_, _, rfl, h1, h2⟩, h3⟩
end Ad
end Go.Proofs.YtmmjfofdnpafkaaGreatDoor
/- Plain facts of the layer address: how long the parts of a URI are that is read, or of a normal form. No program in them. -/
namespace Go.Proofs.YtmmjfofdnpafkaaGreatDoor
namespace Ad
open Lx
def SzL (m : Nat) (l : List Prm) : Prop := ∀ p ∈ l, p.1.length ≤ m ∧ p.2.1.length ≤ m
theorem slc_lel (l : List UInt8) (a b : Nat) : (slc l a b).length ≤ l.length := by unfold slc; simp; omega
theorem wrd_slc (k : Int) (l : List UInt8) (a b : Nat) : (wrdR k (slc l a b)).1.length ≤ l.length := Nat.le_trans (wrdR_len k _ _ (Nat.le_refl _)) (slc_lel l a b)
theorem prR_sz (cls : Int) (l : List UInt8) (k te : Nat) : (prR cls l k te).1.1.length ≤ l.length ∧ (prR cls l k te).1.2.1.length ≤ l.length := by
  unfold prR
  split
  · simp
  · split
    · simp
    · split
      · split
        · simp
        · dsimp only; rw [lowL_len]; exact ⟨wrd_slc _ _ _ _, by simp⟩
      · split
        · simp
        · split
          · simp
          · dsimp only; rw [lowL_len]; exact ⟨wrd_slc _ _ _ _, wrd_slc _ _ _ _⟩
theorem prsF_sz (bg ends : Int → Bool) (cls : Int) (l : List UInt8) : ∀ (n k : Nat) (acc : List Prm), SzL l.length acc → SzL l.length (prsF bg ends cls n l k acc).1 := by
  intro n
  induction n with
  | zero => intro k acc h; exact h
  | succ n ih =>
    intro k acc h
    rw [prsF]
    split
    · exact h
    · split
      · intro p hp; cases hp
      · split
        · intro p hp; cases hp
        · refine ih _ _ ?_
          intro p hp
          rcases List.mem_append.1 hp with hp | hp
          · exact h p hp
          · rw [List.mem_singleton.1 hp]; exact prR_sz _ _ _ _
theorem srt_szl (m : Nat) (l : List Prm) (h : SzL m l) : SzL m (srt l) := fun p hp => h p ((srt_perm l).mem_iff.1 hp)
theorem prms_sz (ends : Int → Bool) (l : List UInt8) (k : Nat) : SzL l.length (srt (prmsR ends l k).1) := srt_szl _ _ (prsF_sz _ _ _ _ _ _ _ (fun p hp => by cases hp))
theorem heads_sz (l : List UInt8) (k : Nat) : SzL l.length (srt (headsR l k).1) := srt_szl _ _ (prsF_sz _ _ _ _ _ _ _ (fun p hp => by cases hp))
theorem usrR_sz (l : List UInt8) (k : Nat) : (usrR l k).1.length ≤ l.length := by
  unfold usrR
  split
  · simp
  · split
    · simp
    · split
      · simp
      · exact wrd_slc _ _ _ _
theorem telR_sz (l : List UInt8) (k : Nat) : (telR l k).1.length ≤ l.length + 1 := by
  have a1 := (telS_le false (slc l (k + 1) (endP (· == 59) l k))).1
  have a2 := (telS_le false (slc l (k + 1) (endP (· == 59) l k))).2
  have b1 := (telS_le true (slc l k (endP (· == 59) l k))).1
  have b2 := (telS_le true (slc l k (endP (· == 59) l k))).2
  have c1 := slc_lel l (k + 1) (endP (· == 59) l k)
  have c2 := slc_lel l k (endP (· == 59) l k)
  unfold telR
  split
  · split
    · simp
    · split
      · simp
      · split
        · simp
        · dsimp only; rw [List.length_cons]; omega
  · split
    · simp
    · split
      · simp
      · split
        · simp
        · dsimp only; omega
theorem hstR_sz (l : List UInt8) (k : Nat) : (hstR l k).1.length ≤ l.length + 86 := by
  unfold hstR
  split
  · rename_i h hh
    have := hostO_len _ _ hh
    have := slc_lel l k (hstTo l k)
    dsimp only; omega
  · simp
structure SzB (m : Nat) (u : Uri) : Prop where
  scheme : u.scheme.length ≤ 4
  user : u.user.length ≤ m + 1
  host : u.host.length ≤ m + 86
  params : u.params.length ≤ 16
  heads : u.heads.length ≤ 16
  ps : SzL m u.params
  hs : SzL m u.heads
theorem sipR_sz (s l : List UInt8) (k : Nat) : (sipR s l k).1.user.length ≤ l.length ∧ (sipR s l k).1.host.length ≤ l.length + 86 ∧ SzL l.length (sipR s l k).1.params ∧ SzL l.length (sipR s l k).1.heads := by
  have hn : ∀ (m : Nat), SzL m nilU.params ∧ SzL m nilU.heads := fun m => ⟨fun p hp => (by cases hp), fun p hp => (by cases hp)⟩
  unfold sipR
  split
  · exact ⟨by simp [nilU], by simp [nilU], (hn _).1, (hn _).2⟩
  · split
    · exact ⟨by simp [nilU], by simp [nilU], (hn _).1, (hn _).2⟩
    · split
      · exact ⟨by simp [nilU], by simp [nilU], (hn _).1, (hn _).2⟩
      · split
        · exact ⟨by simp [nilU], by simp [nilU], (hn _).1, (hn _).2⟩
        · split
          · exact ⟨by simp [nilU], by simp [nilU], (hn _).1, (hn _).2⟩
          · exact ⟨usrR_sz _ _, hstR_sz _ _, prms_sz _ _ _, heads_sz _ _⟩
theorem telU_sz (l : List UInt8) (k : Nat) : (telU l k).1.user.length ≤ l.length + 1 ∧ (telU l k).1.host.length ≤ l.length + 86 ∧ SzL l.length (telU l k).1.params ∧ SzL l.length (telU l k).1.heads := by
  have hn : ∀ (m : Nat), SzL m nilU.params ∧ SzL m nilU.heads := fun m => ⟨fun p hp => (by cases hp), fun p hp => (by cases hp)⟩
  unfold telU
  split
  · exact ⟨by simp [nilU], by simp [nilU], (hn _).1, (hn _).2⟩
  · split
    · exact ⟨by simp [nilU], by simp [nilU], (hn _).1, (hn _).2⟩
    · exact ⟨telR_sz _ _, by simp, prms_sz _ _ _, (hn _).2⟩
/-- How long the parts of a URI are that is read. -/
theorem parse_sz (l : List UInt8) (h : (parse l).2.2 = 0) : SzB l.length (parse l).1 := by
  have hN := (parse_NF l h).1
  have hs : (parse l).1.scheme.length ≤ 4 := by
    rcases hN.kind with ⟨hk | hk, _⟩ | ⟨hk, _⟩ <;> rw [hk] <;> decide
  have key : (parse l).1.user.length ≤ l.length + 1 ∧ (parse l).1.host.length ≤ l.length + 86 ∧ SzL l.length (parse l).1.params ∧ SzL l.length (parse l).1.heads := by
    have hn : ∀ (m : Nat), SzL m nilU.params ∧ SzL m nilU.heads := fun m => ⟨fun p hp => (by cases hp), fun p hp => (by cases hp)⟩
    unfold parse
    split
    · exact ⟨by simp [nilU], by simp [nilU], (hn _).1, (hn _).2⟩
    · split
      · exact ⟨by simp [nilU], by simp [nilU], (hn _).1, (hn _).2⟩
      · split
        · obtain ⟨a, b, c, d⟩ := sipR_sz (lowL (l.take (endP (· == 58) l 0))) l (endP (· == 58) l 0 + 1)
          exact ⟨by omega, b, c, d⟩
        · split
          · exact telU_sz _ _
          · exact ⟨by simp [nilU], by simp [nilU], (hn _).1, (hn _).2⟩
  exact ⟨hs, key.1, key.2.1, hN.params.len, hN.heads.len, key.2.2.1, key.2.2.2⟩
theorem parse_short (l : List UInt8) (h : (parse l).2.2 = 0) : l.length ≤ 1024 := by
  refine Nat.le_of_not_lt fun hlt => ?_
  unfold parse at h
  rw [if_pos hlt] at h
  exact absurd h (show ¬ (4 : Int) = 0 by decide)
theorem SzB.szU {m : Nat} {u : Uri} (h : SzB m u) (hm : m ≤ 1048000) : SzU u ∧ u.host.length ≤ 1048576 := by
  have h1 := h.scheme; have h2 := h.user; have h3 := h.host; have h4 := h.params; have h5 := h.heads
  exact ⟨⟨by omega, by omega, by omega, by omega, by omega, fun p hp => by have := h.ps p hp; omega, fun p hp => by have := h.hs p hp; omega⟩, by omega⟩
end Ad
end Go.Proofs.YtmmjfofdnpafkaaGreatDoor
