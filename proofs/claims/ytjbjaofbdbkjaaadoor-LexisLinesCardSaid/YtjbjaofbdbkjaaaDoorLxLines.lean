/- The law of LexisLines. Condition: the library's variable bytealg.MaxLen holds an int. -/
import Derived.Test.YtjbjaofbdbkjaaaDoorLxLSpec
import Derived.Test.YtjbjaofbdbkjaaaDoorLxSame
import Derived.Test.YtjbjaofbdbkjaaaDoorLxAwake
namespace Go.Proofs.YtjbjaofbdbkjaaaDoor
namespace Lx
open Go.RowKit

def at0L (l : List UInt8) (j : Nat) : Int := match l[j]? with | some c => (c.toNat : Int) | none => 0
theorem at0_L (s : ByteArray) (i : Nat) : at0 s i = at0L s.data.toList i := by
  by_cases h : i < s.data.toList.length
  · rw [at0_list s i h]; unfold at0L; rw [List.getElem?_eq_getElem h]
  · unfold at0 at0L
    rw [List.getElem?_eq_none (by omega), dif_neg (by rw [len_list] at h; exact h)]
def brkL (l : List UInt8) (j : Nat) : Bool := at0L l j == 32 && !blankI (at0L l (j - 1)) && !blankI (at0L l (j + 1))
theorem at0L_take (l : List UInt8) (k j : Nat) (h : j < k) : at0L (l.take k) j = at0L l j := by unfold at0L; rw [List.getElem?_take_of_lt h]
theorem at0L_drop (l : List UInt8) (k j : Nat) : at0L (l.drop k) j = at0L l (k + j) := by unfold at0L; rw [List.getElem?_drop]
theorem at0L_app (x y : List UInt8) (j : Nat) (h : j < x.length) : at0L (x ++ y) j = at0L x j := by unfold at0L; rw [List.getElem?_append_left h]
theorem at0L_app_right (x y : List UInt8) (j : Nat) : at0L (x ++ y) (x.length + j) = at0L y j := by unfold at0L; rw [List.getElem?_append_right (by omega)]; congr 2; omega
/-- Lines that are no longer than width, or have no break. -/
inductive Lns (w : Int) : List UInt8 → Prop
  | nil : Lns w []
  | cons (x R : List UInt8) : NoC x → (w < (x.length : Int) → ∀ j, 1 ≤ j → j + 1 < x.length → brkL x j = false) → Lns w R → Lns w (x ++ crlf ++ R)
theorem fold_lns (w : Int) (h0 : 0 ≤ w) (n : Nat) : ∀ (s : ByteArray), s.size ≤ n → NoC s.data.toList → Lns w (foldF w n s) := by
  induction n with
  | zero =>
    intro s hs hn
    rcases fold_step w 0 s hs h0 with ⟨hF, h1⟩ | ⟨k, m, hm, _⟩
    · rw [hF]
      have := Lns.cons (w := w) s.data.toList [] hn (fun h j h2 h3 => by rw [len_list] at h3; omega) Lns.nil
      simpa using this
    · omega
  | succ n ih =>
    intro s hs hn
    rcases fold_step w (n + 1) s hs h0 with ⟨hF, h1⟩ | ⟨k, m, hm, hk, hk1, hk2, hb, hm2, hd, hF⟩
    · rw [hF]
      have hlong : w < (s.data.toList.length : Int) → ∀ j, 1 ≤ j → j + 1 < s.data.toList.length → brkL s.data.toList j = false := by
        intro h j h2 h3
        rw [len_list] at h h3
        have h4 : brkF s w 1 0 = 0 := by
          rcases h1 with h1 | h1
          · omega
          · exact h1
        have := brkF_first s w _ 1 (Nat.le_refl _) (Nat.le_refl _) (.inl h4) j h2 h3 (fun h => absurd h4 h)
        unfold brkAt at this
        rw [at0_L, at0_L, at0_L] at this
        exact this
      have := Lns.cons (w := w) s.data.toList [] hn hlong Lns.nil
      simpa using this
    · obtain rfl : m = n := by omega
      have hl := len_list s
      rw [hF]
      refine Lns.cons _ _ (noC_take hn k) ?_ (ih _ hm2 (by rw [hd]; exact noC_drop hn k))
      intro h j h2 h3
      have hkl : (s.data.toList.take k).length = k := by simp; omega
      rw [hkl] at h h3
      have := brkF_first s w _ 1 (Nat.le_refl _) (Nat.le_refl _) (.inr (by rw [hk]; exact h)) j h2 (by omega) (fun _ => by rw [hk]; omega)
      unfold brkAt at this
      rw [at0_L, at0_L, at0_L] at this
      unfold brkL
      rw [at0L_take _ _ _ (by omega), at0L_take _ _ _ (by omega), at0L_take _ _ _ (by omega)]
      exact this
theorem noC_at (x : List UInt8) (h : NoC x) (j : Nat) (hj : j < x.length) : at0L x j ≠ 13 := by
  unfold at0L
  rw [List.getElem?_eq_getElem hj]
  dsimp only
  intro e
  have := h x[j] (List.getElem_mem hj)
  rw [show ((x[j].toNat : Nat) : Int) = 13 from e] at this
  revert this; decide
/-- What is known where a CR is met. -/
theorem lns_at (w : Int) (T : List UInt8) (f i : Nat) (hf : f ≤ i + 1) (hfl : f ≤ T.length) (hL : Lns w (T.drop f)) (hno : ∀ j, f ≤ j → j < i → at0L T j ≠ 13) (h10 : 0 < f → at0L T (f - 1) = 10) (hi : at0L T i = 13) :
    f ≤ i ∧ i + 2 ≤ T.length ∧ Lns w (T.drop (i + 2)) ∧ at0L T (i + 1) = 10 ∧ (w < ((i - f : Nat) : Int) → ∀ k, f + 1 ≤ k → k + 1 < i → (at0L T k == 32 && !blankI (at0L T (k - 1)) && !blankI (at0L T (k + 1))) = false) := by
  have hfi : f ≤ i := by
    rcases Nat.lt_or_ge i f with h | h
    · exfalso
      have := h10 (by omega)
      rw [show f - 1 = i by omega, hi] at this
      omega
    · exact h
  generalize hd : T.drop f = D at hL
  cases hL with
  | nil =>
    exfalso
    have : T.length ≤ f := by have := congrArg List.length hd; simp at this; omega
    unfold at0L at hi
    rw [List.getElem?_eq_none (by omega)] at hi
    simp at hi
  | cons x R hx hl hR =>
    have hat : ∀ j, at0L T (f + j) = at0L (x ++ crlf ++ R) j := by intro j; rw [← hd, at0L_drop]
    have hlen : T.length = f + x.length + 2 + R.length := by have := congrArg List.length hd; simp [crlf] at this; omega
    have hcr : at0L T (f + x.length) = 13 := by
      rw [hat, List.append_assoc]
      have := at0L_app_right x (crlf ++ R) 0
      rw [Nat.add_zero] at this
      rw [this]; rfl
    have hie : i = f + x.length := by
      rcases Nat.lt_trichotomy i (f + x.length) with h | h | h
      · exfalso
        have h1 := hat (i - f)
        rw [show f + (i - f) = i by omega, hi, List.append_assoc, at0L_app _ _ _ (by omega)] at h1
        exact noC_at x hx _ (by omega) h1.symm
      · exact h
      · exact absurd hcr (hno _ (by omega) h)
    have hR2 : T.drop (i + 2) = R := by
      have : T.drop (i + 2) = (T.drop f).drop (x.length + 2) := by rw [List.drop_drop]; congr 1; omega
      rw [this, hd, List.append_assoc, ← List.drop_drop, List.drop_left' rfl]; rfl
    refine ⟨hfi, by omega, by rw [hR2]; exact hR, ?_, ?_⟩
    · have := hat (x.length + 1)
      rw [show f + (x.length + 1) = i + 1 by omega, List.append_assoc, at0L_app_right] at this
      rw [this]; rfl
    · intro hw k hk1 hk2
      have hw' : w < (x.length : Int) := by omega
      have := hl hw' (k - f) (by omega) (by omega)
      have e : ∀ j, j < x.length → at0L T (f + j) = at0L x j := by intro j hj; rw [hat, List.append_assoc, at0L_app _ _ _ hj]
      unfold brkL at this
      rw [← e _ (by omega), ← e _ (by omega), ← e _ (by omega), show f + (k - f) = k by omega, show f + (k - f - 1) = k - 1 by omega, show f + (k - f + 1) = k + 1 by omega] at this
      exact this
theorem foldF_size (w : Int) (h0 : 0 ≤ w) (n : Nat) : ∀ (s : ByteArray), s.size ≤ n → (foldF w n s).length ≤ 3 * s.size + 2 := by
  induction n with
  | zero => intro s _; show (s.data.toList ++ crlf).length ≤ _; rw [List.length_append, len_list]; simp [crlf]; omega
  | succ n ih =>
    intro s hs
    rcases fold_step w (n + 1) s hs h0 with ⟨hF, h1⟩ | ⟨k, m, hm, hk, hk1, hk2, hb, hm2, hd, hF⟩
    · rw [hF, List.length_append, len_list]; simp [crlf]; omega
    · obtain rfl : m = n := by omega
      have hl := len_list s
      have := ih (s.extract k s.size) hm2
      have h9 := len_list (s.extract k s.size)
      rw [hd, List.length_drop] at h9
      rw [hF, List.length_append, List.length_append, List.length_take]
      simp [crlf]; omega

theorem u16_lo {x : Int} (h : (Lit.int .u16 x).wf = true) : 0 ≤ x := by
  have : 0 ≤ x ∧ x ≤ 65535 := by simpa [Lit.wf, IntKind.min, IntKind.max, IntKind.signed, IntKind.bits] using h
  exact this.1
theorem u16_hi {x : Int} (h : (Lit.int .u16 x).wf = true) : x ≤ 65535 := by
  have : 0 ≤ x ∧ x ≤ 65535 := by simpa [Lit.wf, IntKind.min, IntKind.max, IntKind.signed, IntKind.bits] using h
  exact this.2
theorem piece_cells (s : ByteArray) : (#[.int .i64 0, .string s] : Array Value).toList = pcells [(0, s.data.toList)] := by
  show [Value.int .i64 0, .string s] = [.int .i64 0, .string ⟨s.data.toList.toArray⟩]
  rw [← str_self s]
set_option maxRecDepth 100000 in
set_option maxHeartbeats 4000000 in
theorem lines_law (s : ByteArray) (wd : Int) (m : Int) (w : World) (hs : s.size ≤ maxLen) (hw0 : 0 ≤ wd) (hw1 : wd ≤ 65535) (hm : w.cell? ⟨0, 0, none⟩ = some (.int .i64 m)) :
    Calls Tryd.prog 9 #[.string s, .int .u16 wd] w fun e w' => e = .returned (.bool true) ∧ Below w.heap.size w w' := by
  have h0 := cell_lt hm
  have Hm := Lib.hid hm
  have Hml := Lib.hid hs
  unfold maxLen at hs
  clear hm
  by_cases hbig : 5000 < s.size
  · go_enter Tryd.func9, Tryd.ntmps9
    go_wp2_with fail
    refine (awake_any m _ Hm.out).mono ?_
    rintro e w' ⟨rfl, hB9⟩
    go_wp2_with fail
    go_ret
    exact ⟨rfl, hB9⟩
  · obtain ⟨WD, hWD⟩ : ∃ x, 20 + wd % 981 = x := ⟨_, rfl⟩
    have hlo : 20 ≤ WD := by omega
    have hhi : WD ≤ 1000 := by omega
    have HWD := Lib.hid hWD
    clear hWD
    have hEdef : foE s WD = if hasCtl s.data.toList || !decide (Lib.trimS s.data.toList blk = s.data.toList) then 5 else 0 := by unfold foE; rw [if_neg (by omega)]
    cases hc : (hasCtl s.data.toList || !decide (Lib.trimS s.data.toList blk = s.data.toList))
    · have hE : foE s WD = 0 := by rw [hEdef, hc]; rfl
      have hT : foT s WD = foldF WD s.size s := by unfold foT; rw [hE]; simp
      rw [Bool.or_eq_false_iff] at hc
      have hn := hasCtl_no _ hc.1
      have htr : Lib.trimS s.data.toList blk = s.data.toList := by have := hc.2; simpa using this
      obtain ⟨u1, u2, u3⟩ := fold_unfold WD (by omega) s s.size (Nat.le_refl _) hn htr
      have hlns := fold_lns WD (by omega) s.size s (Nat.le_refl _) hn
      have hTs := foldF_size WD (by omega) s.size s (Nat.le_refl _)
      obtain ⟨T, hTT⟩ : ∃ T : ByteArray, ⟨(foT s WD).toArray⟩ = T := ⟨_, rfl⟩
      have hTl : T.data.toList = foldF WD s.size s := by rw [← hTT, hT]
      rw [← hTl] at u1 u2 u3 hlns hTs
      rw [len_list] at hTs
      have HU1 := Lib.hid u1
      have HU2 := Lib.hid u2
      have HU3 := Lib.hid u3
      have HLn := Lib.hid hlns
      have HE := Lib.hid hE
      have HTT := Lib.hid hTT
      have hb0 : ((0 : Int) != 0) = false := rfl
      clear hEdef hc hE hT hn htr u1 u2 u3 hlns hTT hTl
      go_enter Tryd.func9, Tryd.ntmps9
      go_wp2_with fail
      rw [HWD.out]
      refine (fold_any s WD w (by omega)).mono ?_
      rintro e w1 ⟨rfl, hB1⟩
      rw [HE.out, HTT.out]
      have hs1 := hB1.size
      go_wp2_with fail
      refine (unfold_any T m w1 (by omega) ((hB1.cell (p := ⟨0, 0, none⟩) h0).trans Hm.out)).mono ?_
      rintro e w2 ⟨v, rfl, hr, hB2⟩
      rw [HU2.out, HU3.out]
      rw [HU1.out] at hr
      have hB2' := hB1.trans (hB2.mono hs1)
      have hs2 := hB2'.size
      have hp := PcIn.of_row hr
      have Hp := Lib.hid hp
      obtain ⟨va, vc, rfl, _⟩ := id hp
      clear hr hp
      go_wp2_with fail
      have hal := (Below.refl w2.heap.size w2).alloc (Nat.le_refl _) (.cells #[.int .i64 0, .string s] 43)
      refine (same_any _ _ [(0, s.data.toList)] [(0, s.data.toList)] _ (Hp.out.below hal) (PcIn.new w2 [(0, s.data.toList)] _ (by rw [← piece_cells])) (by simp) (by simp)).mono ?_
      rintro e w3 ⟨rfl, n, rfl⟩
      rw [show decide ([((0 : Nat), s.data.toList)] = [(0, s.data.toList)]) = true from by simp]
      have hBa := hB2'.trans (hal.mono hs2)
      have hB3 : Below w.heap.size w ((w2.alloc (.cells #[.int .i64 0, .string s] 43)).drewN n) := ⟨hBa.os, hBa.tape, hBa.output, hBa.size, hBa.block⟩
      have hs3 := hB3.size
      have Haw := Lib.hid (awake_any m _ ((hB3.cell (p := ⟨0, 0, none⟩) h0).trans Hm.out))
      have Hat : Hid (∀ j (h : j < T.size), at0L T.data.toList j = (T[j].toNat : Int)) := Lib.hid (fun j h => by rw [← at0_L, at0_eq])
      have HB3 := Lib.hid hB3
      clear hB3 hBa hal hB2' hB2 hB1
      go_wp2_with fail
      go_loop [11, 12, 13] (fun fr i _ => ∃ f j : Nat, fr = .int .i64 f ∧ i = .int .i64 j ∧ f ≤ j + 1 ∧ f ≤ T.size ∧ j ≤ T.size ∧ Lns WD (T.data.toList.drop f) ∧ (∀ x, f ≤ x → x < j → at0L T.data.toList x ≠ 13) ∧ (0 < f → at0L T.data.toList (f - 1) = 10)) (fun _ i _ => T.size - (intOf i).toNat)
      case atStart => exact ⟨0, 0, rfl, rfl, by omega, by omega, by omega, HLn.out, fun x h1 h2 => by omega, fun h => by omega⟩
      case round =>
        obtain ⟨f, j, rfl, rfl, hfj, hfl, hjl, hL, hno, h10⟩ := hrel
        have HL := Lib.hid hL
        have Hno := Lib.hid hno
        have H10 := Lib.hid h10
        clear hL hno h10
        by_cases hlt : j + 1 < T.size
        · by_cases h13 : T[j].toNat = 13
          · have b13 : ((T[j].toNat : Int) != 13) = false := by simp; omega
            obtain ⟨k1, k2, k3, k4, k5⟩ := lns_at WD T.data.toList f j hfj (by rw [len_list]; exact hfl) HL.out Hno.out H10.out (by rw [Hat.out j (by omega)]; omega)
            rw [len_list] at k2
            have K3 := Lib.hid k3
            have K4 := Lib.hid k4
            have K5 := Lib.hid k5
            clear k3 k4 k5 h13
            by_cases hlong : WD < (j : Int) - (f : Int)
            · have K5' := Lib.hid (K5.out (by omega))
              go_wp2_with fail
              go_loop [13] (fun v => ∃ c : Nat, f ≤ c ∧ c ≤ j ∧ v = .int .i64 ((c : Int) + 1)) (fun v => j + 1 - (intOf v).toNat)
              case atStart => exact ⟨f, Nat.le_refl _, k1, rfl⟩
              case round =>
                obtain ⟨c, hfc, hcj, rfl⟩ := hrel
                by_cases hck : c + 2 < j
                · have hq := K5'.out (c + 1) (by omega) (by omega)
                  rw [Nat.add_sub_cancel, Hat.out (c + 1) (by omega), Hat.out c (by omega), Hat.out (c + 1 + 1) (by omega)] at hq
                  cases h32 : ((T[c + 1].toNat : Int) == 32)
                  · clear hq
                    go_wp2_with fail
                    go_round
                    case rel => exact ⟨c + 1, by omega, by omega, by go_num⟩
                    case measure => simp [intOf]; omega
                  · cases hp1 : blankI (T[c].toNat : Int)
                    · have hp2 : blankI (T[c + 2].toNat : Int) = true := by
                        rw [h32, hp1] at hq
                        simpa using hq
                      have Hp1 := Lib.hid hp1
                      have Hp2 := Lib.hid hp2
                      clear hq hp1 hp2
                      go_wp2_with fail
                      refine (rblank_any _ _).mono ?_
                      rintro e w' ⟨rfl, rfl⟩
                      rw [Hp1.out]
                      go_wp2_with fail
                      refine (rblank_any _ _).mono ?_
                      rintro e w' ⟨rfl, rfl⟩
                      rw [Hp2.out]
                      go_wp2_with fail
                      go_round
                      case rel => exact ⟨c + 1, by omega, by omega, by go_num⟩
                      case measure => simp [intOf]; omega
                    · have Hp1 := Lib.hid hp1
                      clear hq hp1
                      go_wp2_with fail
                      refine (rblank_any _ _).mono ?_
                      rintro e w' ⟨rfl, rfl⟩
                      rw [Hp1.out]
                      go_wp2_with fail
                      go_round
                      case rel => exact ⟨c + 1, by omega, by omega, by go_num⟩
                      case measure => simp [intOf]; omega
                · go_wp2_with fail
                  go_round
                  case rel => exact ⟨j + 2, j + 1, by go_num, by go_num, by omega, by omega, by omega, K3.out, fun x h1 h2 => by omega, fun _ => K4.out⟩
                  case measure => simp [intOf]; omega
            · go_wp2_with fail
              go_round
              case rel => exact ⟨j + 2, j + 1, by go_num, by go_num, by omega, by omega, by omega, K3.out, fun x h1 h2 => by omega, fun _ => K4.out⟩
              case measure => simp [intOf]; omega
          · have b13 : ((T[j].toNat : Int) != 13) = true := by simp; omega
            have Hne := Lib.hid (by rw [Hat.out j (by omega)]; omega : at0L T.data.toList j ≠ 13)
            clear h13
            go_wp2_with fail
            go_round
            case rel =>
              refine ⟨f, j + 1, rfl, by go_num, by omega, by omega, by omega, HL.out, fun x h1 h2 => ?_, H10.out⟩
              rcases Nat.lt_or_ge x j with h | h
              · exact Hno.out x h1 h
              · obtain rfl : x = j := by omega
                exact Hne.out
            case measure => simp [intOf]; omega
        · go_wp2_with fail
          refine Haw.out.mono ?_
          rintro e w' ⟨rfl, hB9⟩
          go_wp2_with fail
          go_ret
          exact ⟨rfl, HB3.out.trans (hB9.mono hs3)⟩
    · have hE : foE s WD = 5 := by rw [hEdef, hc]; rfl
      have hT : foT s WD = [] := by unfold foT; rw [hE]; simp
      have HE := Lib.hid hE
      have HT := Lib.hid hT
      clear hEdef hc hE hT
      go_enter Tryd.func9, Tryd.ntmps9
      go_wp2_with fail
      rw [HWD.out]
      refine (fold_any s WD w (by omega)).mono ?_
      rintro e w1 ⟨rfl, hB1⟩
      rw [HE.out, HT.out]
      have hs1 := hB1.size
      go_wp2_with fail
      refine (awake_any m _ ((hB1.cell (p := ⟨0, 0, none⟩) h0).trans Hm.out)).mono ?_
      rintro e w' ⟨rfl, hB9⟩
      go_wp2_with fail
      go_ret
      exact ⟨rfl, hB1.trans (hB9.mono hs1)⟩
end Lx
end Go.Proofs.YtjbjaofbdbkjaaaDoor
