/- Contract of the reference's reader's list (dialtoneref02). A text has at most 2^21 bytes. -/
import Derived.Test.YtonbkedjlbhpfaaGreatDoorAdVr
namespace Go.Proofs.YtonbkedjlbhpfaaGreatDoor
namespace Ad
open Go.RowKit Lx

theorem rparam_any (cls : Int) (hcls : cls = 1 ∨ cls = 2) (b i te : Nat) (s : ByteArray) (w : World) (R : Rdr b s i 0 0 w) (hi : i ≤ te) (hte : te ≤ s.size) (hs : s.size ≤ 2097152) :
    Calls Tryz.prog 152 #[.pointer (some ⟨b, 0, none⟩), .int .i64 te, .int .i64 cls] w (RdPm cls b s i te w) := by
  rcases hcls with rfl | rfl
  · exact rparam_1 b i te s w R hi hte hs
  · exact rparam_2 b i te s w R hi hte hs
/-- What is known at the head of a round. -/
def LiJ (bg ends : Int → Bool) (cls : Int) (l : List UInt8) (T : List Prm × Nat × Int) (m : Int) (j : Nat) (acc : List Prm) (p : Nat) (e : Int) : Prop :=
  (e ≠ 0 → T.2 = (p, e)) ∧ (e = 0 → p = 0 ∧ acc.length ≤ 16 ∧ (∀ q ∈ acc, lowL q.1 = q.1) ∧ (atB l j == m) = bg (atB l j) ∧ ∃ f, l.length - j < f ∧ prsF bg ends cls f l j acc = T)
/-- Behind list. -/
def RdL (bg : Int → Bool) (b : Nat) (s : ByteArray) (T : List Prm × Nat × Int) (w : World) (en : Ending) (w' : World) : Prop :=
  ∃ v lst i' p' e', en = .returned v ∧ PmIn w'.heap.size w' v lst ∧ i' ≤ s.size ∧ Rdr b s i' p' e' w' ∧ Kp [b] w w' ∧ (e' ≠ 0 → T.2 = (p', e')) ∧ (e' = 0 → p' = 0 ∧ lst = srt T.1 ∧ T.2 = (i', 0) ∧ bg (atB s.data.toList i') = false)
theorem liJ_err (bg ends : Int → Bool) (cls : Int) (hcls : cls = 1 ∨ cls = 2) (l : List UInt8) (T : List Prm × Nat × Int) (m m2 : Int) (j te p2 : Nat) (e2 : Int) (acc : List Prm) (nm vl : List UInt8) (hs : Bool) (te_ : endP ends l (j + 1) = te) (hte : te ≤ l.length) (hm : (atB l j == m) = true)
    (hag : ∀ c : Int, (c = -1 ∨ ends c = true) → (c == m2) = bg c) (J : LiJ bg ends cls l T m j acc 0 0)
    (h1 : e2 ≠ 0 → (prR cls l (j + 1) te).2 = (p2, e2)) (h2 : e2 = 0 → p2 = 0 ∧ prR cls l (j + 1) te = ((nm, vl, hs), te, 0)) (x : Int) (hx : roomL acc nm = x) :
    LiJ bg ends cls l T m2 te (acc ++ [(nm, vl, hs)]) (if x = 0 then p2 else if e2 = 0 then j + 1 else p2) (if x = 0 then e2 else if e2 = 0 then x else e2) := by
  obtain ⟨_, ha, hlo, hb, f, hf, hT⟩ := J.2 rfl
  have hbg : bg (atB l j) = true := by rw [← hb]; exact hm
  obtain ⟨n, rfl⟩ : ∃ n, f = n + 1 := ⟨f - 1, by omega⟩
  have hj : j + 1 ≤ te := by rw [← te_]; exact endP_ge _ _ _
  by_cases he : e2 = 0
  · obtain ⟨hp, hpr⟩ := h2 he
    subst he; subst hp
    have hok : (prR cls l (j + 1) (endP ends l (j + 1))).2.2 = 0 := by rw [te_, hpr]
    have hlow : lowL nm = nm := by have := (prR_ok cls hcls l (j + 1) te (by rw [hpr])).2; rw [hpr] at this; exact this
    have hro := roomL_eq acc nm hlo hlow ha
    rw [hx] at hro
    by_cases hx0 : x = 0
    · rw [if_pos hx0, if_pos hx0]
      refine ⟨fun h => absurd rfl h, fun _ => ⟨rfl, ?_, ?_, ?_, n, by omega, ?_⟩⟩
      · have : acc.length ≠ 16 := by
          intro h16
          rw [hx0] at hro
          unfold room at hro
          by_cases hany : (acc.any fun q => q.1 == nm) = true
          · rw [if_pos hany] at hro; exact absurd hro (by decide)
          · rw [if_neg hany, if_pos h16] at hro; exact absurd hro (by decide)
        rw [List.length_append, List.length_singleton]; omega
      · intro q hq
        rcases List.mem_append.1 hq with h | h
        · exact hlo q h
        · rw [List.mem_singleton.1 h]; exact hlow
      · refine hag _ ?_
        by_cases htl : te < l.length
        · right; have := endP_at ends l (j + 1) (by rw [te_]; exact htl); rw [te_] at this; exact this
        · left; exact atB_end _ _ (by omega)
      · rw [← hT, prsF_step bg ends cls n l j acc hbg hok (by rw [te_, hpr, ← hro, hx0]), te_, hpr]
    · rw [if_neg hx0, if_neg hx0, if_pos rfl, if_pos rfl]
      refine ⟨fun _ => ?_, fun h => absurd h hx0⟩
      rw [← hT, prsF_err3 bg ends cls n l j acc hbg hok (by rw [te_, hpr, ← hro]; exact hx0), te_, hpr, ← hro]
  · have hpr := h1 he
    have hT2 : T.2 = (p2, e2) := by
      rw [← hT, prsF_err2 bg ends cls n l j acc hbg (by rw [te_, hpr]; exact he), te_, hpr]
    have e1 : (if x = 0 then p2 else if e2 = 0 then j + 1 else p2) = p2 := by rw [if_neg he]; split <;> rfl
    have e3 : (if x = 0 then e2 else if e2 = 0 then x else e2) = e2 := by rw [if_neg he]; split <;> rfl
    rw [e1, e3]
    exact ⟨fun _ => hT2, fun h => absurd h he⟩
theorem liJ_end (bg ends : Int → Bool) (cls : Int) (l : List UInt8) (T : List Prm × Nat × Int) (m : Int) (j : Nat) (acc : List Prm) (p : Nat) (e : Int) (J : LiJ bg ends cls l T m j acc p e) (hm : e = 0 → (atB l j == m) = false) :
    (e ≠ 0 → T.2 = (p, e)) ∧ (e = 0 → p = 0 ∧ srt acc = srt T.1 ∧ T.2 = (j, 0) ∧ bg (atB l j) = false) := by
  refine ⟨J.1, fun he => ?_⟩
  obtain ⟨hp, _, _, hb, f, hf, hT⟩ := J.2 he
  have hbg : bg (atB l j) = false := by rw [← hb]; exact hm he
  obtain ⟨n, rfl⟩ : ∃ n, f = n + 1 := ⟨f - 1, by omega⟩
  rw [prsF_end bg ends cls n l j acc hbg] at hT
  rw [← hT]
  exact ⟨hp, rfl, rfl, hbg⟩
theorem ris_all (b i p : Nat) (s : ByteArray) (e c : Int) (w : World) (R : Rdr b s i p e w) (hi : i ≤ s.size) (hs : s.size ≤ 2097152) (hc : 0 ≤ c) :
    Calls Tryz.prog 151 #[.pointer (some ⟨b, 0, none⟩), .int .u8 c] w (BoK (decide (e = 0) && (atB s.data.toList i == c)) w) := by
  by_cases he : e = 0
  · subst he
    have h := ris_any b i p s c w R hi hs hc
    rw [decide_eq_true rfl, Bool.true_and]; exact h
  · rw [decide_eq_false he, Bool.false_and]; exact ris_err b i p s e c w R he
theorem Rdr.alloc_ {b i p : Nat} {s : ByteArray} {e : Int} {w : World} (h : Rdr b s i p e w) (o : Obj) : Rdr b s i p e (w.alloc o) := Blk.alloc h o
theorem Blk.grown7 {b i p : Nat} {s : ByteArray} {e : Int} {w w' : World} {row : Option Nat} (h : Rdr b s i p e w) (k : w.grownBy w' row) (hr : ∀ g, row = some g → g ≠ b) : Rdr b s i p e w' := by
  unfold Rdr Blk at h ⊢
  rw [k.block b (Blk.lt h) (fun e => hr _ e.symm rfl)]
  exact h
set_option maxRecDepth 100000 in
set_option maxHeartbeats 16000000 in
theorem rlist_any (bg ends : Int → Bool) (cls first again : Int) (stops : ByteArray) (b i p0 : Nat) (x0 : Int) (s : ByteArray) (T : List Prm × Nat × Int) (w : World) (R : Rdr b s i p0 x0 w) (hi : i ≤ s.size) (hs : s.size ≤ 2097152) (hcls : cls = 1 ∨ cls = 2) (hst : stops.size ≤ 100) (hp : ∀ c : Int, memB stops.data.toList c = ends c) (hfi : 0 ≤ first) (hga : 0 ≤ again)
    (hag : ∀ c : Int, (c = -1 ∨ ends c = true) → (c == again) = bg c) (J : LiJ bg ends cls s.data.toList T first i [] p0 x0) :
    Calls Tryz.prog 76 #[.pointer (some ⟨b, 0, none⟩), .int .u8 first, .int .u8 again, .string stops, .int .i64 cls] w (RdL bg b s T w) := by
  have hbw := R.lt
  have HRd := Lib.hid R
  have HJ := Lib.hid J
  have HAg := Lib.hid hag
  have Hcl := Lib.hid hcls
  obtain ⟨i0, hi0, hz0, hz1, hz2⟩ := info_parts infoPrm3
  have HUn := Lib.hid (fun (k : Nat) (hk : k ≤ s.size) wz (h : Rdr b s k 0 0 wz) => runtil_any ends b k 0 s stops 0 wz h hk hs hst hp)
  have HIs := Lib.hid (fun (k q : Nat) (x m : Int) wz (h : Rdr b s k q x wz) (hk : k ≤ s.size) (hm : 0 ≤ m) => ris_all b k q s x m wz h hk hs hm)
  clear R J hag hp hcls
  go_enter Tryz.func76, Tryz.ntmps76
  go_wp2_with fail
  go_loopg [11, 12] (s.size - i + 1) (fun gg out nx wr => ∃ (j : Nat) (acc : List Prm) (vA : Option Addr) (vC : Nat) (m : Int) (q : Nat) (x : Int), j ≤ s.size ∧ s.size - j < gg ∧ acc.length ≤ j - i ∧ i ≤ j ∧ 0 ≤ m ∧ out = .slice vA acc.length vC ∧ nx = .int .u8 m ∧ wr.ownsRow w.heap.size 75 3 (.slice vA acc.length vC) acc.length (pcl acc) ∧ Kp [b] w wr ∧ Rdr b s j q x wr ∧ SzP acc ∧ LiJ bg ends cls s.data.toList T m j acc q x)
  case atStart => exact ⟨i, [], none, 0, first, p0, x0, hi, by omega, by simp, Nat.le_refl _, hfi, rfl, rfl, by simpa [pcl] using World.ownsRow_nil w w.heap.size 75 3, Kp.refl _ _, HRd.out, (fun p hp => by cases hp), HJ.out⟩
  case round =>
    obtain ⟨j, acc, vA, vC, m, q, x, hj, hg, hal, hij, hm, rfl, rfl, hown, hK, hR, hz, hJ⟩ := hrel
    obtain ⟨w0, rfl⟩ : ∃ w0, w0 = wr := ⟨_, rfl⟩
    have Ho := Lib.hid hown
    have K0 := Lib.hid hK
    have R0 := Lib.hid hR
    have Hz := Lib.hid hz
    have J0 := Lib.hid hJ
    have hsz := hK.size
    clear hown hK hR hz hJ
    obtain ⟨Bo, hBo⟩ : ∃ B, (decide (x = 0) && (atB s.data.toList j == m)) = B := ⟨_, rfl⟩
    have HI := Lib.hid (by have h := HIs.out j q x m w0 R0.out hj hm; rw [hBo] at h; exact h : Calls Tryz.prog 151 #[.pointer (some ⟨b, 0, none⟩), .int .u8 m] w0 (BoK Bo w0))
    cases Bo
    · have HE := Lib.hid (liJ_end bg ends cls s.data.toList T m j acc q x J0.out (fun hx => by rw [hx, decide_eq_true rfl, Bool.true_and] at hBo; exact hBo))
      clear hBo
      go_wp2_with fail
      refine HI.out.mono ?_
      rintro e w1 ⟨rfl, hK1⟩
      have R1 := Lib.hid (R0.out.kp hK1 (by simp))
      have O1 := Lib.hid (own_kp Ho.out hK1 (by simp))
      have K1 := Lib.hid (K0.out.nil_to hK1)
      clear hK1
      have HSo := Lib.hid (rSorted_any w1.heap.size (.slice vA acc.length vC) acc w1 (own_pm O1.out) (Nat.le_refl _) (by omega))
      go_wp2_with fail
      refine HSo.out.mono ?_
      rintro e w2 ⟨v5, rfl, hp5, hk5⟩
      have H5 := Lib.hid hp5
      have R2 := Lib.hid (R1.out.kp hk5 (by simp))
      have K2 := Lib.hid (K1.out.nil_to hk5)
      clear hp5 hk5
      go_wp2_with fail
      go_ret
      exact ⟨_, srt acc, j, q, x, rfl, H5.out, hj, R2.out, K2.out, HE.out.1, HE.out.2⟩
    · obtain ⟨hx0, hbm⟩ : x = 0 ∧ (atB s.data.toList j == m) = true := by
        rw [Bool.and_eq_true] at hBo; exact ⟨of_decide_eq_true hBo.1, hBo.2⟩
      subst hx0
      have hq0 : q = 0 := (J0.out.2 rfl).1
      subst hq0
      have hac : acc.length ≤ 16 := (J0.out.2 rfl).2.1
      have hjs : j < s.size := by
        have := atB_lt s.data.toList j (by intro h; rw [h] at hbm; have := (beq_iff_eq.1 hbm); omega)
        rwa [len_list] at this
      have Hbm := Lib.hid hbm
      obtain ⟨te, hte⟩ : ∃ n, endP ends s.data.toList (j + 1) = n := ⟨_, rfl⟩
      have g0 : j + 1 ≤ te := by rw [← hte]; exact endP_ge _ _ _
      have l0 : te ≤ s.size := by rw [← hte, ← len_list]; exact endP_le _ _ _ (by rw [len_list]; omega)
      obtain ⟨j1, hj1n⟩ : ∃ x, j + 1 = x := ⟨_, rfl⟩
      have Hj1 := Lib.hid hj1n
      have hjj : j < j1 := by omega
      have hjs1 : j1 ≤ s.size := by omega
      have Hte := Lib.hid hte
      rw [hj1n] at hte g0
      have HUj := Lib.hid (fun wz (h : Rdr b s j1 0 0 wz) => (by have h2 := HUn.out j1 hjs1 wz h; rw [hte] at h2; exact h2 : Calls Tryz.prog 72 #[.pointer (some ⟨b, 0, none⟩), .string stops] wz (InK (te : Nat) wz)))
      clear hBo hbm hte hj1n
      go_wp2_with fail
      refine HI.out.mono ?_
      rintro e w1 ⟨rfl, hK1⟩
      have R1 := Lib.hid (R0.out.kp hK1 (by simp))
      have O1 := Lib.hid (own_kp Ho.out hK1 (by simp))
      have K1 := Lib.hid (K0.out.nil_to hK1)
      have c1 := R1.out.c1
      have f1 := R1.out.fr 1
      have hj1 : IntKind.i64.wrap ((j : Int) + 1) = (j1 : Int) := by have := Hj1.out; rw [IntWalk.i64_in _ (by omega)]; omega
      obtain ⟨w2, hw2⟩ : ∃ x, w1.setCell ⟨b, 1, none⟩ (.int .i64 (j1 : Int)) = x := ⟨_, rfl⟩
      have R2 := Lib.hid (show Rdr b s j1 0 0 w2 from by rw [← hw2]; exact R1.out.at1 j1)
      have K2 := Lib.hid (show Kp [b] w w2 from by rw [← hw2]; exact K1.out.setCell (p := ⟨b, 1, none⟩) (.inl (by simp)) _)
      have O2 := Lib.hid (show w2.ownsRow w.heap.size 75 3 (.slice vA acc.length vC) acc.length (pcl acc) from by rw [← hw2]; exact own_kp O1.out ((Kp.refl [b] w1).setCell (p := ⟨b, 1, none⟩) (.inl (by simp)) _) (by simp; omega))
      clear hK1 R1 O1 K1 R0 Ho K0 HI
      go_upto_region 5 with fail
      try rw [hw2]
      clear hw2 c1 f1 hj1
      have c1 := R2.out.c1
      go_wp2_with fail
      refine (HUj.out _ R2.out).mono ?_
      rintro e w3 ⟨rfl, hK3⟩
      have R3 := Lib.hid (R2.out.kp hK3 (by simp))
      have K3 := Lib.hid (K2.out.nil_to hK3)
      have O3 := Lib.hid (own_kp O2.out hK3 (by simp))
      clear hK3 R2 K2 O2 c1
      go_wp2_with fail
      refine (rparam_any cls Hcl.out b j1 te s _ R3.out g0 l0 hs).mono ?_
      rintro e w4 ⟨nm, vl, hs2, p4, e4, rfl, hnl, hvl, hR4, hK4, h41, h42⟩
      have R4 := Lib.hid hR4
      have K4 := Lib.hid (K3.out.trans hK4)
      have O4 := Lib.hid (own_kp O3.out hK4 (by simp; omega))
      have hsz4 := K4.out.size
      have hR4l := hR4.lt
      obtain ⟨xr, hxr⟩ : ∃ x, roomL acc nm = x := ⟨_, rfl⟩
      rw [← Hj1.out] at h41 h42
      have HJ4 := Lib.hid (liJ_err bg ends cls Hcl.out s.data.toList T m again j te p4 e4 acc nm vl hs2 Hte.out (by rw [len_list]; exact l0) Hbm.out HAg.out J0.out h41 h42 xr hxr)
      rw [Hj1.out] at HJ4
      obtain ⟨g, hgg⟩ : ∃ g, w4.heap.size = g := ⟨_, rfl⟩
      obtain ⟨w5, hw5⟩ : ∃ x, w4.alloc (.cells #[.string (Txt nm), .string (Txt vl), .bool hs2] 75) = x := ⟨_, rfl⟩
      have hKA : Kp [] w4 w5 := by rw [← hw5]; exact (Kp.refl _ _).alloc _
      have R5 := Lib.hid (R4.out.kp hKA (by simp))
      have K5 := Lib.hid (K4.out.nil_to hKA)
      have O5 := Lib.hid (own_kp O4.out hKA (by simp))
      have P5 := Lib.hid (show Blk w5 g 75 #[.string (Txt nm), .string (Txt vl), .bool hs2] from by rw [← hw5, ← hgg]; exact Blk.new w4 _ _)
      have HRo := Lib.hid (by have h := rroom_any w5.heap.size (.slice vA acc.length vC) acc nm w5 (own_pm O5.out) (Nat.le_refl _) Hz.out (by omega) (by omega); rw [hxr] at h; exact h : Calls Tryz.prog 153 #[.slice vA acc.length vC, .string (Txt nm)] w5 (ErK xr w5))
      have u0 := P5.out.cell 0
      have Hnl := Lib.hid hnl
      have Hvl := Lib.hid hvl
      clear hR4 hK4 h41 h42 hxr hKA R3 K3 O3 R4 K4 O4 J0
      rw [show encP (nm, vl, hs2) = .agg #[.string (Txt nm), .string (Txt vl), .bool hs2] from rfl]
      go_wp2_with fail
      refine HRo.out.mono ?_
      rintro e w6 ⟨rfl, hK6⟩
      have R6 := Lib.hid (R5.out.kp hK6 (by simp))
      have K6 := Lib.hid (K5.out.nil_to hK6)
      have O6 := Lib.hid (own_kp O5.out hK6 (by simp))
      have P6 := Lib.hid (P5.out.kp hK6 (by simp))
      clear hK6 R5 K5 O5 P5 u0 hw5
      by_cases hx0 : xr = 0
      · have bx : (xr != 0) = false := by rw [hx0]; rfl
        have HJ6 := Lib.hid (by have h := HJ4.out; rw [if_pos hx0, if_pos hx0] at h; exact h)
        clear hx0
        obtain ⟨p7, hp7⟩ : ∃ x, p4 = x := ⟨_, rfl⟩
        obtain ⟨e7, he7⟩ : ∃ x, e4 = x := ⟨_, rfl⟩
        rw [hp7, he7] at HJ6 R6
        go_upto_region 11 with fail
        obtain ⟨w7, hw7⟩ : ∃ x, w6 = x := ⟨_, rfl⟩
        rw [hw7] at R6 K6 O6 P6 ⊢
        have R7 := R6
        have K7 := K6
        have O7 := O6
        have P7 := P6
        clear R6 K6 O6 P6 hp7 he7 hw7
        have u0 := P7.out.cell 0
        have u1 := P7.out.cell 1
        have u2 := P7.out.cell 2
        have hsz7 := K7.out.size
        have hnb : ∀ k, Value.ownBlock (.slice vA acc.length vC) = some k → k ≠ b := fun k hk => by have := (O7.out.lt k hk).1; omega
        have Hnb := Lib.hid hnb
        clear hnb
        go_wp2_with (at_builtin; refine wpList_append_own _ rfl _ _ 22 rfl w.heap.size 75 i0 (.agg #[.string .empty, .string .empty, .bool false]) 3 40 Tryz.underlying22 hi0 hz0 hz1 hz2 rfl (by decide) _ _ _ rfl (O7.out.alloc _) ⟨w7.heap.size, 0, none⟩ 1 1 [.string (Txt nm), .string (Txt vl), .bool hs2] rfl rfl (cell_three_new _ _ _ _ _) (by simp [Value.oneCell']) ?c3 ?c4 ?c5 ?_)
        case c3 => unfold maxLen; omega
        case c4 => omega
        case c5 => simp; omega
        intro v' w9 hown' hgrow _
        have K9 := Lib.hid ((K7.out.alloc (.cells #[.string (Txt nm), .string (Txt vl), .bool hs2] 75)).grown hgrow (fun g hg => .inr (O7.out.lt g hg).1))
        have R9 := Lib.hid (Blk.grown7 (R7.out.alloc_ _) hgrow (fun k hk => Hnb.out k hk) : Rdr b s te p7 e7 w9)
        have HO9 := (by simpa [pcl, pc1, Txt] using hown' : w9.ownsRow w.heap.size 75 3 v' (acc ++ [(nm, vl, hs2)]).length (pcl (acc ++ [(nm, vl, hs2)])))
        obtain ⟨vA', vC', rfl⟩ := own_form HO9
        have HO9 := Lib.hid HO9
        clear hown' hgrow u0 u1 u2
        go_wp2_with fail
        go_roundg (s.size - j)
        case measure => omega
        case rel => exact ⟨te, acc ++ [(nm, vl, hs2)], vA', vC', again, p7, e7, l0, by omega, by rw [List.length_append, List.length_singleton]; omega, by omega, hga, rfl, rfl, HO9.out, K9.out, R9.out, (fun z hz => by
            rcases List.mem_append.1 hz with h | h
            · exact Hz.out z h
            · rw [List.mem_singleton.1 h]; exact ⟨by have := Hnl.out; show nm.length ≤ _; omega, by have := Hvl.out; show vl.length ≤ _; omega⟩), HJ6.out⟩
      · have bx : (xr != 0) = true := by rw [bne_iff_ne]; exact hx0
        have HJ6 := Lib.hid (by have h := HJ4.out; rw [if_neg hx0, if_neg hx0] at h; exact h)
        clear hx0
        go_wp2_with fail
        refine (rfail_any b te p4 j1 s e4 xr _ R6.out).mono ?_
        rintro e w7 ⟨rfl, hR7, hK7⟩
        obtain ⟨p7, hp7⟩ : ∃ x, (if e4 = 0 then j1 else p4) = x := ⟨_, rfl⟩
        obtain ⟨e7, he7⟩ : ∃ x, (if e4 = 0 then xr else e4) = x := ⟨_, rfl⟩
        rw [hp7, he7] at HJ6 hR7
        have R7 := Lib.hid hR7
        have K7 := Lib.hid (K6.out.trans hK7)
        have O7 := Lib.hid (own_kp O6.out hK7 (by simp; omega))
        have P7 := Lib.hid (P6.out.kp hK7 (by simp; omega))
        clear hR7 hK7 R6 K6 O6 P6 hp7 he7
        go_upto_region 11 with fail
        have u0 := P7.out.cell 0
        have u1 := P7.out.cell 1
        have u2 := P7.out.cell 2
        have hsz7 := K7.out.size
        have hnb : ∀ k, Value.ownBlock (.slice vA acc.length vC) = some k → k ≠ b := fun k hk => by have := (O7.out.lt k hk).1; omega
        have Hnb := Lib.hid hnb
        clear hnb
        go_wp2_with (at_builtin; refine wpList_append_own _ rfl _ _ 22 rfl w.heap.size 75 i0 (.agg #[.string .empty, .string .empty, .bool false]) 3 40 Tryz.underlying22 hi0 hz0 hz1 hz2 rfl (by decide) _ _ _ rfl (O7.out.alloc _) ⟨w7.heap.size, 0, none⟩ 1 1 [.string (Txt nm), .string (Txt vl), .bool hs2] rfl rfl (cell_three_new _ _ _ _ _) (by simp [Value.oneCell']) ?c3 ?c4 ?c5 ?_)
        case c3 => unfold maxLen; omega
        case c4 => omega
        case c5 => simp; omega
        intro v' w9 hown' hgrow _
        have K9 := Lib.hid ((K7.out.alloc (.cells #[.string (Txt nm), .string (Txt vl), .bool hs2] 75)).grown hgrow (fun g hg => .inr (O7.out.lt g hg).1))
        have R9 := Lib.hid (Blk.grown7 (R7.out.alloc_ _) hgrow (fun k hk => Hnb.out k hk) : Rdr b s te p7 e7 w9)
        have HO9 := (by simpa [pcl, pc1, Txt] using hown' : w9.ownsRow w.heap.size 75 3 v' (acc ++ [(nm, vl, hs2)]).length (pcl (acc ++ [(nm, vl, hs2)])))
        obtain ⟨vA', vC', rfl⟩ := own_form HO9
        have HO9 := Lib.hid HO9
        clear hown' hgrow u0 u1 u2
        go_wp2_with fail
        go_roundg (s.size - j)
        case measure => omega
        case rel => exact ⟨te, acc ++ [(nm, vl, hs2)], vA', vC', again, p7, e7, l0, by omega, by rw [List.length_append, List.length_singleton]; omega, by omega, hga, rfl, rfl, HO9.out, K9.out, R9.out, (fun z hz => by
            rcases List.mem_append.1 hz with h | h
            · exact Hz.out z h
            · rw [List.mem_singleton.1 h]; exact ⟨by have := Hnl.out; show nm.length ≤ _; omega, by have := Hvl.out; show vl.length ≤ _; omega⟩), HJ6.out⟩
end Ad
end Go.Proofs.YtonbkedjlbhpfaaGreatDoor
