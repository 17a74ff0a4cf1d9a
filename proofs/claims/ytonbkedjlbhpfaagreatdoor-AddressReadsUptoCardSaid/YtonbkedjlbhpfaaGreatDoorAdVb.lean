/- Contracts of the reference's telephone and telephoned (dialtoneref02). A text has at most 2^21 bytes. -/
import Derived.Test.YtonbkedjlbhpfaaGreatDoorAdVa
namespace Go.Proofs.YtonbkedjlbhpfaaGreatDoor
namespace Ad
open Go.RowKit Lx

/-- What is kept of a number from an offset on, and how many bytes may stand there; behind a plus sign at offset i if there is one. -/
def telF (l : List UInt8) (i te : Nat) (plus : Bool) (j : Nat) : List UInt8 × Nat :=
  if plus = true ∧ j = i then (43 :: (telS false (slc l (i + 1) te)).1, (telS false (slc l (i + 1) te)).2 + 1) else telS (!plus) (slc l j te)
theorem telF_no (l : List UInt8) (i te : Nat) : telF l i te false i = telS true (slc l i te) := by
  unfold telF
  rw [if_neg (by simp)]
  rfl
theorem telF_yes (l : List UInt8) (i te : Nat) : telF l i te true i = (43 :: (telS false (slc l (i + 1) te)).1, (telS false (slc l (i + 1) te)).2 + 1) := by
  unfold telF
  rw [if_pos ⟨rfl, rfl⟩]
theorem telR_F (l : List UInt8) (i te : Nat) (ht : endP (· == 59) l i = te) (plus : Bool) (hp : (atB l i == 43) = plus) :
    telR l i = if (telF l i te plus i).2 < te - i then ([], i + (telF l i te plus i).2, 5) else if (telF l i te plus i).1.length ≤ (if plus then 1 else 0) then ([], i, 5) else if 30 + (if plus then 1 else 0) < (telF l i te plus i).1.length then ([], i, 4) else ((telF l i te plus i).1, te, 0) := by
  unfold telR
  rw [ht]
  cases plus
  · have h43 : ¬ atB l i = 43 := by rw [beq_eq_false_iff_ne] at hp; exact hp
    rw [if_neg h43, telF_no]
    have e2 : ((telS true (slc l i te)).1.length ≤ if false = true then 1 else 0) ↔ (telS true (slc l i te)).1 = [] := by rw [if_neg (by decide), Nat.le_zero, List.length_eq_zero_iff]
    have e3 : (30 + if false = true then 1 else 0) = 30 := rfl
    simp only [e2, e3]
  · have h43 : atB l i = 43 := by simpa using hp
    have hlt := atB_lt l i (by rw [h43]; decide)
    have hte : i < te := by
      rw [← ht]
      rcases Nat.lt_or_ge i (endP (· == 59) l i) with h | h
      · exact h
      · have he : endP (· == 59) l i = i := Nat.le_antisymm h (endP_ge _ _ _)
        have := endP_at (· == 59) l i (by rw [he]; exact hlt)
        rw [he, h43] at this
        exact absurd this (by decide)
    rw [if_pos h43, telF_yes]
    obtain ⟨a, n⟩ := telS false (slc l (i + 1) te)
    show (if n < te - (i + 1) then _ else if a = [] then _ else if 30 < a.length then _ else _) = (if n + 1 < te - i then _ else if (43 :: a).length ≤ 1 then _ else if 31 < (43 :: a).length then _ else _)
    have e1 : (n + 1 < te - i) = (n < te - (i + 1)) := propext (by omega)
    have e2 : ((43 :: a).length ≤ 1) = (a = []) := propext (by rw [← List.length_eq_zero_iff, List.length_cons]; omega)
    have e3 : (31 < (43 :: a).length) = (30 < a.length) := propext (by rw [List.length_cons]; omega)
    rw [show i + 1 + n = i + (n + 1) from by omega]
    simp only [e1, e2, e3]
/-- Behind a reader's method that gives a text. -/
def RdT (b : Nat) (s : ByteArray) (r : List UInt8 × Nat × Int) (w : World) (e : Ending) (w' : World) : Prop :=
  ∃ t i', e = .returned (.string t) ∧ i' ≤ s.size ∧ Rdr b s i' (if r.2.2 = 0 then 0 else r.2.1) r.2.2 w' ∧ Kp [b] w w' ∧ (r.2.2 = 0 → t = Txt r.1 ∧ i' = r.2.1)
theorem telF_keep (l : List UInt8) (s : ByteArray) (hs : s.data.toList = l) (i te j : Nat) (plus : Bool) (h : j < te) (hte : te ≤ s.size) (hij : i ≤ j) (hpi : plus = true → atB l i = 43)
    (hk : (digitI (s[j]'(by omega)).toNat || ((!plus && locC (s[j]'(by omega)).toNat) || (plus && decide (j = i)))) = true) : telF l i te plus j = ((s[j]'(by omega)) :: (telF l i te plus (j + 1)).1, (telF l i te plus (j + 1)).2 + 1) := by
  subst hs
  have hjs : j < s.size := by omega
  have e1 : telF s.data.toList i te plus (j + 1) = telS (!plus) (slc s.data.toList (j + 1) te) := by unfold telF; rw [if_neg (by omega)]
  rw [e1]
  unfold telF
  by_cases hc : plus = true ∧ j = i
  · obtain ⟨rfl, rfl⟩ := hc
    rw [if_pos ⟨rfl, rfl⟩]
    have h43 := hpi rfl
    rw [atB_get s j hjs] at h43
    have : s[j] = 43 := UInt8.toNat_inj.1 (by have : (43 : UInt8).toNat = 43 := rfl; omega)
    rw [this]; rfl
  · rw [if_neg hc, slc_step s j te h hte]
    have hk2 : (digitI s[j].toNat || (!plus && locC s[j].toNat)) = true := by
      cases plus
      · simpa using hk
      · have : ¬ j = i := fun h => hc ⟨rfl, h⟩
        simpa [this] using hk
    exact telS_dig _ _ _ hk2
theorem telF_skip (l : List UInt8) (s : ByteArray) (hs : s.data.toList = l) (i te j : Nat) (plus : Bool) (h : j < te) (hte : te ≤ s.size) (hij : i ≤ j)
    (hk : (digitI (s[j]'(by omega)).toNat || ((!plus && locC (s[j]'(by omega)).toNat) || (plus && decide (j = i)))) = false) (hp : sepC (s[j]'(by omega)).toNat = true) : telF l i te plus j = ((telF l i te plus (j + 1)).1, (telF l i te plus (j + 1)).2 + 1) := by
  subst hs
  rw [Bool.or_eq_false_iff, Bool.or_eq_false_iff] at hk
  have hc : ¬ (plus = true ∧ j = i) := fun h => by have := hk.2.2; rw [h.1, h.2] at this; simp at this
  unfold telF
  rw [if_neg hc]
  rw [if_neg (by omega), slc_step s j te h hte]
  exact telS_sep _ _ _ (by rw [hk.1, hk.2.1]; rfl) hp
theorem telF_bad (l : List UInt8) (s : ByteArray) (hs : s.data.toList = l) (i te j : Nat) (plus : Bool) (h : j < te) (hte : te ≤ s.size) (hij : i ≤ j)
    (hk : (digitI (s[j]'(by omega)).toNat || ((!plus && locC (s[j]'(by omega)).toNat) || (plus && decide (j = i)))) = false) (hp : sepC (s[j]'(by omega)).toNat = false) : telF l i te plus j = ([], 0) := by
  subst hs
  rw [Bool.or_eq_false_iff, Bool.or_eq_false_iff] at hk
  have hc : ¬ (plus = true ∧ j = i) := fun h => by have := hk.2.2; rw [h.1, h.2] at this; simp at this
  unfold telF
  rw [if_neg hc, slc_step s j te h hte]
  exact telS_bad _ _ _ (by rw [hk.1, hk.2.1]; rfl) hp
theorem telF_end (l : List UInt8) (i te : Nat) (plus : Bool) (h : plus = true → i < te) : telF l i te plus te = ([], 0) := by
  unfold telF
  rw [if_neg (fun hh => by have := h hh.1; omega), slc_nil _ _ _ (Nat.le_refl _)]
  rfl
theorem own_form1 {w : World} {base : Nat} {v : Value} {l : List UInt8} (h : w.ownsRow base 5 1 v l.length (Lib.byteCells l)) : ∃ p c, v = .slice p l.length c := by
  rcases h.2 with ⟨rfl, hz⟩ | ⟨g, cap, cur, rfl, _⟩
  · exact ⟨none, 0, by rw [hz]⟩
  · exact ⟨_, cap, rfl⟩
theorem own_kp1b {w w' : World} {B : Nat} {v : Value} {n : Nat} {xs : List Value} {X : List Nat} (h : w.ownsRow B 5 1 v n xs) (k : Kp X w w') (hX : ∀ x ∈ X, x < B) : w'.ownsRow B 5 1 v n xs := own_kp h k hX
theorem memSep (c : Int) : memB (ByteArray.mk #[45, 46, 40, 41]).data.toList c = sepC c := by
  unfold memB sepC
  simp only [List.any_cons, List.any_nil, Bool.or_false]
  have e : ∀ n : Nat, ((n : Int) == c) = (c == (n : Int)) := fun n => by rw [Bool.eq_iff_iff]; simp only [beq_iff_eq]; exact eq_comm
  rw [show (((45 : UInt8).toNat : Int)) = 45 from rfl, show (((46 : UInt8).toNat : Int)) = 46 from rfl, show (((40 : UInt8).toNat : Int)) = 40 from rfl, show (((41 : UInt8).toNat : Int)) = 41 from rfl]
  rw [show ((45 : Int) == c) = (c == 45) from e 45, show ((46 : Int) == c) = (c == 46) from e 46, show ((40 : Int) == c) = (c == 40) from e 40, show ((41 : Int) == c) = (c == 41) from e 41]
theorem mem59 (c : Int) : memB (ByteArray.mk #[59]).data.toList c = (c == 59) := by
  unfold memB
  simp only [List.any_cons, List.any_nil, Bool.or_false]
  rw [Bool.eq_iff_iff]; simp only [beq_iff_eq]; exact eq_comm
set_option maxRecDepth 100000 in
set_option maxHeartbeats 16000000 in
theorem rtelephone_any (b i : Nat) (s : ByteArray) (w : World) (R : Rdr b s i 0 0 w) (hi : i ≤ s.size) (hs : s.size ≤ 2097152) :
    Calls Tryz.prog 77 #[.pointer (some ⟨b, 0, none⟩)] w (RdT b s (telR s.data.toList i) w) := by
  obtain ⟨i0, hi0, hz0, hz1, hz2⟩ := info_parts infoByte
  have hbw := R.lt
  obtain ⟨te, hte0⟩ : ∃ n, endP (· == 59) s.data.toList i = n := ⟨_, rfl⟩
  have hte : te ≤ s.size := by rw [← hte0, ← len_list]; exact endP_le _ _ _ (by rw [len_list]; exact hi)
  have hite : i ≤ te := by rw [← hte0]; exact endP_ge _ _ _
  obtain ⟨pl, hpl⟩ : ∃ x, (atB s.data.toList i == 43) = x := ⟨_, rfl⟩
  have HUn := Lib.hid (by have h := runtil_any (· == 59) b i 0 s ⟨#[59]⟩ 0 w R hi hs (by decide) mem59; rw [hte0] at h; exact h)
  have HIs := Lib.hid (fun wz (h : Rdr b s i 0 0 wz) => (by have h := ris_any b i 0 s 43 wz h hi hs (by decide); rw [hpl] at h; exact h : Calls Tryz.prog 151 #[.pointer (some ⟨b, 0, none⟩), .int .u8 43] wz (BoK pl wz)))
  have HRes := Lib.hid (telR_F s.data.toList i te hte0 pl hpl)
  have c1 := R.c1
  have HRd := Lib.hid R
  have H43 := Lib.hid (fun (h : pl = true) => (by have h2 := hpl.trans h; simpa using h2 : atB s.data.toList i = 43))
  have Hit := Lib.hid (fun (h : pl = true) => (by
    have h43 := H43.out h
    have hlt := atB_lt s.data.toList i (by rw [h43]; decide)
    rcases Nat.lt_or_ge i te with h1 | h1
    · exact h1
    · have he : endP (· == 59) s.data.toList i = i := by omega
      have := endP_at (· == 59) s.data.toList i (by rw [he]; exact hlt)
      rw [he, h43] at this
      exact absurd this (by decide) : i < te))
  clear hte0 hpl R
  go_enter Tryz.func77, Tryz.ntmps77
  go_wp2_with fail
  refine HUn.out.mono ?_
  rintro e w1 ⟨rfl, hK1⟩
  have R1 := Lib.hid (HRd.out.kp hK1 (by simp))
  have K1 := Lib.hid hK1
  clear c1 hK1
  go_wp2_with fail
  refine (HIs.out _ R1.out).mono ?_
  rintro e w2 ⟨rfl, hK2⟩
  have K2 := Lib.hid (K1.out.trans hK2)
  have R2 := Lib.hid (R1.out.kp hK2 (by simp))
  have c1 := R2.out.c1
  clear hK2
  cases pl
  · go_wp2_with fail
    go_loopg [6, 7, 8] (te - i + 1) (fun gg v k _ wr => ∃ (j : Nat) (acc : List UInt8), i ≤ j ∧ j ≤ te ∧ te - j < gg ∧ acc.length ≤ j - i ∧ k = .int .i64 j ∧ acc ++ (telF s.data.toList i te false j).1 = (telF s.data.toList i te false i).1 ∧ (j - i) + (telF s.data.toList i te false j).2 = (telF s.data.toList i te false i).2 ∧ wr.ownsRow w.heap.size 5 1 v acc.length (Lib.byteCells acc) ∧ Kp [] w wr)
    case atStart => exact ⟨i, [], by omega, by omega, by omega, by simp, rfl, rfl, by omega, World.ownsRow_nil _ _ _ _, K2.out⟩
    case round =>
      obtain ⟨j, acc, hij, hjte, hg, ha, rfl, hu, hn, hown, hK⟩ := hrel
      have Hu := Lib.hid hu
      have Hn := Lib.hid hn
      have Ho := Lib.hid hown
      have HK := Lib.hid hK
      have hsz := hK.size
      have Rr := Lib.hid (HRd.out.kp hK (by simp))
      have r0 := Rr.out.c0
      clear hu hn hown hK c1
      by_cases hjt : j < te
      · have hjs : j < s.size := by omega
        have hjs1 : (j : Int) < (s.size : Int) := by omega
        obtain ⟨d, hd⟩ : ∃ x, digitI s[j].toNat = x := ⟨_, rfl⟩
        have HD := Lib.hid hd
        cases d
        · have e42 : ((s[j].toNat : Int) == 42) = decide (s[j].toNat = 42) := by rw [Bool.eq_iff_iff]; simp; omega
          have e35 : ((s[j].toNat : Int) == 35) = decide (s[j].toNat = 35) := by rw [Bool.eq_iff_iff]; simp; omega
          have el : locC s[j].toNat = (decide (s[j].toNat = 42) || decide (s[j].toNat = 35)) := by unfold locC; rw [e42, e35]
          by_cases h42 : s[j].toNat = 42
          · rw [decide_eq_true h42] at e42 el
            have HK1 : (digitI s[j].toNat || ((!false && locC s[j].toNat) || (false && decide (j = i)))) = true := by rw [hd, el]; rfl
            clear hd el h42
            have HF := Lib.hid (telF_keep s.data.toList s rfl i te j false hjt hte hij (fun h => H43.out h) HK1)
            go_wp2_with fail
            refine (rdigit_any _ _).mono ?_
            rintro e w' ⟨rfl, rfl⟩
            rw [HD.out]
            go_wp2_with (at_builtin; refine wpList_append_own _ rfl _ _ 113 rfl w.heap.size 5 i0 (.int .u8 0) 1 1 Tryz.underlying113 hi0 hz0 hz1 hz2 rfl (by decide) _ _ _ rfl (Ho.out.alloc _) ⟨wr.heap.size, 0, none⟩ 1 1 [.int .u8 (s[j].toNat : Int)] rfl rfl (cell_one_new _ _ _) (by simp [Value.oneCell']) ?c3 ?c4 ?c5 ?_)
            case c3 => unfold maxLen; omega
            case c4 => omega
            case c5 => simp; omega
            intro v4 w4 hown' hgrow _
            have HO4 := Lib.hid (by simpa [Lib.byteCells] using hown' : w4.ownsRow w.heap.size 5 1 v4 (acc ++ [s[j]]).length (Lib.byteCells (acc ++ [s[j]])))
            have K4 := Lib.hid ((HK.out.alloc (.cells #[.int .u8 (s[j].toNat : Int)] 5)).grown hgrow (fun k' hk' => .inr (Ho.out.lt k' hk').1))
            clear hown' hgrow
            go_wp2_with fail
            go_roundg (te - j)
            case measure => omega
            case rel => exact ⟨j + 1, acc ++ [s[j]], by omega, by omega, by omega, by simp; omega, by go_num, by rw [← Hu.out, HF.out]; simp, by rw [← Hn.out, HF.out]; dsimp only; omega, HO4.out, K4.out⟩
          · rw [decide_eq_false h42] at e42 el
            by_cases h35 : s[j].toNat = 35
            · rw [decide_eq_true h35] at e35 el
              have HK1 : (digitI s[j].toNat || ((!false && locC s[j].toNat) || (false && decide (j = i)))) = true := by rw [hd, el]; rfl
              clear hd el h35 h42
              have HF := Lib.hid (telF_keep s.data.toList s rfl i te j false hjt hte hij (fun h => H43.out h) HK1)
              go_wp2_with fail
              refine (rdigit_any _ _).mono ?_
              rintro e w' ⟨rfl, rfl⟩
              rw [HD.out]
              go_wp2_with (at_builtin; refine wpList_append_own _ rfl _ _ 113 rfl w.heap.size 5 i0 (.int .u8 0) 1 1 Tryz.underlying113 hi0 hz0 hz1 hz2 rfl (by decide) _ _ _ rfl (Ho.out.alloc _) ⟨wr.heap.size, 0, none⟩ 1 1 [.int .u8 (s[j].toNat : Int)] rfl rfl (cell_one_new _ _ _) (by simp [Value.oneCell']) ?c3 ?c4 ?c5 ?_)
              case c3 => unfold maxLen; omega
              case c4 => omega
              case c5 => simp; omega
              intro v4 w4 hown' hgrow _
              have HO4 := Lib.hid (by simpa [Lib.byteCells] using hown' : w4.ownsRow w.heap.size 5 1 v4 (acc ++ [s[j]]).length (Lib.byteCells (acc ++ [s[j]])))
              have K4 := Lib.hid ((HK.out.alloc (.cells #[.int .u8 (s[j].toNat : Int)] 5)).grown hgrow (fun k' hk' => .inr (Ho.out.lt k' hk').1))
              clear hown' hgrow
              go_wp2_with fail
              go_roundg (te - j)
              case measure => omega
              case rel => exact ⟨j + 1, acc ++ [s[j]], by omega, by omega, by omega, by simp; omega, by go_num, by rw [← Hu.out, HF.out]; simp, by rw [← Hn.out, HF.out]; dsimp only; omega, HO4.out, K4.out⟩
            · rw [decide_eq_false h35] at e35 el
              have HK0 : (digitI s[j].toNat || ((!false && locC s[j].toNat) || (false && decide (j = i)))) = false := by rw [hd, el]; rfl
              clear hd el h35 h42
              obtain ⟨sc, hsc⟩ : ∃ x, sepC s[j].toNat = x := ⟨_, rfl⟩
              have HSp := Lib.hid (fun wz => (by have h := rcontains_any ⟨#[45, 46, 40, 41]⟩ (s[j].toNat : Int) wz (by decide); rw [memSep] at h; rw [hsc] at h; exact h : Calls Tryz.prog 148 #[.string ⟨#[45, 46, 40, 41]⟩, .int .u8 (s[j].toNat : Int)] wz (Ret (.bool sc) wz)))
              cases sc
              · have HF := Lib.hid (telF_bad s.data.toList s rfl i te j false hjt hte hij HK0 hsc)
                have HR := Lib.hid (HRes.out.trans (by have h1 := Hn.out; rw [HF.out] at h1; dsimp only at h1; rw [if_pos (by omega), show i + (telF s.data.toList i te false i).2 = j from by omega]) : telR s.data.toList i = ([], j, 5))
                clear hsc
                go_wp2_with fail
                refine (rdigit_any _ _).mono ?_
                rintro e w' ⟨rfl, rfl⟩
                rw [HD.out]
                go_wp2_with fail
                refine (HSp.out _).mono ?_
                rintro e w' ⟨rfl, rfl⟩
                go_wp2_with fail
                refine (rfail_yes b i 0 j s 5 _ (HRd.out.kp HK.out (by simp))).mono ?_
                rintro e w5 ⟨rfl, hR5, hK5⟩
                have R5 := Lib.hid hR5
                have K5 := Lib.hid ((HK.out.mono (Y := [b]) (by simp)).trans hK5)
                clear hR5 hK5
                go_wp2_with fail
                go_ret
                unfold RdT
                rw [HR.out]
                exact ⟨_, i, rfl, hi, R5.out, K5.out, fun h => by simp at h⟩
              · have HF := Lib.hid (telF_skip s.data.toList s rfl i te j false hjt hte hij HK0 hsc)
                clear hsc
                go_wp2_with fail
                refine (rdigit_any _ _).mono ?_
                rintro e w' ⟨rfl, rfl⟩
                rw [HD.out]
                go_wp2_with fail
                refine (HSp.out _).mono ?_
                rintro e w' ⟨rfl, rfl⟩
                go_wp2_with fail
                go_roundg (te - j)
                case measure => omega
                case rel => exact ⟨j + 1, acc, by omega, by omega, by omega, by omega, by go_num, by rw [← Hu.out, HF.out], by rw [← Hn.out, HF.out]; dsimp only; omega, Ho.out, HK.out⟩
        · have HK1 : (digitI s[j].toNat || ((!false && locC s[j].toNat) || (false && decide (j = i)))) = true := by rw [hd]; rfl
          clear hd
          have HF := Lib.hid (telF_keep s.data.toList s rfl i te j false hjt hte hij (fun h => H43.out h) HK1)
          go_wp2_with fail
          refine (rdigit_any _ _).mono ?_
          rintro e w' ⟨rfl, rfl⟩
          rw [HD.out]
          go_wp2_with (at_builtin; refine wpList_append_own _ rfl _ _ 113 rfl w.heap.size 5 i0 (.int .u8 0) 1 1 Tryz.underlying113 hi0 hz0 hz1 hz2 rfl (by decide) _ _ _ rfl (Ho.out.alloc _) ⟨wr.heap.size, 0, none⟩ 1 1 [.int .u8 (s[j].toNat : Int)] rfl rfl (cell_one_new _ _ _) (by simp [Value.oneCell']) ?c3 ?c4 ?c5 ?_)
          case c3 => unfold maxLen; omega
          case c4 => omega
          case c5 => simp; omega
          intro v4 w4 hown' hgrow _
          have HO4 := Lib.hid (by simpa [Lib.byteCells] using hown' : w4.ownsRow w.heap.size 5 1 v4 (acc ++ [s[j]]).length (Lib.byteCells (acc ++ [s[j]])))
          have K4 := Lib.hid ((HK.out.alloc (.cells #[.int .u8 (s[j].toNat : Int)] 5)).grown hgrow (fun k' hk' => .inr (Ho.out.lt k' hk').1))
          clear hown' hgrow
          go_wp2_with fail
          go_roundg (te - j)
          case measure => omega
          case rel => exact ⟨j + 1, acc ++ [s[j]], by omega, by omega, by omega, by simp; omega, by go_num, by rw [← Hu.out, HF.out]; simp, by rw [← Hn.out, HF.out]; dsimp only; omega, HO4.out, K4.out⟩
      · have hj : j = te := by omega
        have HE := Lib.hid (telF_end s.data.toList i te false (fun h => Hit.out h))
        have HU2 := Lib.hid (by have h := Hu.out; rw [hj, HE.out] at h; simpa using h : acc = (telF s.data.toList i te false i).1)
        have HN2 := Lib.hid (by have h := Hn.out; rw [hj, HE.out] at h; dsimp only at h; omega : te - i = (telF s.data.toList i te false i).2)
        have HR0 := Lib.hid (HRes.out.trans (by rw [if_neg (by rw [← HN2.out]; omega), ← HU2.out]) : telR s.data.toList i = if acc.length ≤ (if false then 1 else 0) then ([], i, 5) else if 30 + (if false then 1 else 0) < acc.length then ([], i, 4) else (acc, te, 0))
        have hcv := conv_row Ho.out
        obtain ⟨nn, hnn⟩ : ∃ n, acc.length = n := ⟨_, rfl⟩
        obtain ⟨vA, vC, hv⟩ := own_form1 Ho.out
        subst hv
        rw [hnn] at hcv HR0 ⊢
        simp only [Bool.false_eq_true, if_false] at HR0
        have hnn0 : 0 ≤ nn ∨ nn < 0 := by omega
        have Hnn := Lib.hid hnn
        clear hnn
        by_cases hz : nn ≤ 0
        · have HR := Lib.hid (HR0.out.trans (if_pos hz))
          go_wp2_with fail
          refine (rfail_yes b i 0 i s 5 _ Rr.out).mono ?_
          rintro e w5 ⟨rfl, hR5, hK5⟩
          have c1 := hR5.c1
          have f1 := hR5.fr 1
          have R6 := Lib.hid (hR5.at1 te)
          have K6 := Lib.hid (((HK.out.mono (Y := [b]) (by simp)).trans hK5).setCell (p := ⟨b, 1, none⟩) (.inl (by simp)) (.int .i64 te))
          have hOw := own_kp1b Ho.out ((hK5.trans ((Kp.refl [b] w5).setCell (p := ⟨b, 1, none⟩) (.inl (by simp)) (.int .i64 te)))) (by simp; omega)
          have hcv2 := conv_row hOw
          rw [Hnn.out] at hcv2
          clear hR5 hK5 hOw hcv
          go_wp2_with fail
          go_ret
          unfold RdT
          rw [HR.out]
          exact ⟨_, te, rfl, hte, R6.out, K6.out, fun h => by simp at h⟩
        · by_cases h30 : 30 < nn
          · have HR := Lib.hid (HR0.out.trans ((if_neg hz).trans (if_pos (by omega))))
            go_wp2_with fail
            refine (rfail_yes b i 0 i s 4 _ Rr.out).mono ?_
            rintro e w5 ⟨rfl, hR5, hK5⟩
            have c1 := hR5.c1
            have f1 := hR5.fr 1
            have R6 := Lib.hid (hR5.at1 te)
            have K6 := Lib.hid (((HK.out.mono (Y := [b]) (by simp)).trans hK5).setCell (p := ⟨b, 1, none⟩) (.inl (by simp)) (.int .i64 te))
            have hOw := own_kp1b Ho.out ((hK5.trans ((Kp.refl [b] w5).setCell (p := ⟨b, 1, none⟩) (.inl (by simp)) (.int .i64 te)))) (by simp; omega)
            have hcv2 := conv_row hOw
            rw [Hnn.out] at hcv2
            clear hR5 hK5 hOw hcv
            go_wp2_with fail
            go_ret
            unfold RdT
            rw [HR.out]
            exact ⟨_, te, rfl, hte, R6.out, K6.out, fun h => by simp at h⟩
          · have HR := Lib.hid (HR0.out.trans ((if_neg hz).trans (if_neg (by omega))))
            have c1 := Rr.out.c1
            have f1 := Rr.out.fr 1
            have R6 := Lib.hid (Rr.out.at1 te)
            have K6 := Lib.hid ((HK.out.mono (Y := [b]) (by simp)).setCell (p := ⟨b, 1, none⟩) (.inl (by simp)) (.int .i64 te))
            have hOw := own_kp1b Ho.out ((Kp.refl [b] wr).setCell (p := ⟨b, 1, none⟩) (.inl (by simp)) (.int .i64 te)) (by simp; omega)
            have hcv2 := conv_row hOw
            rw [Hnn.out] at hcv2
            clear hOw hcv
            go_wp2_with fail
            go_ret
            unfold RdT
            rw [HR.out]
            exact ⟨_, te, rfl, hte, R6.out, K6.out, fun _ => ⟨rfl, rfl⟩⟩
  · go_wp2_with fail
    go_loopg [6, 7, 8] (te - i + 1) (fun gg v k _ wr => ∃ (j : Nat) (acc : List UInt8), i ≤ j ∧ j ≤ te ∧ te - j < gg ∧ acc.length ≤ j - i ∧ k = .int .i64 j ∧ acc ++ (telF s.data.toList i te true j).1 = (telF s.data.toList i te true i).1 ∧ (j - i) + (telF s.data.toList i te true j).2 = (telF s.data.toList i te true i).2 ∧ wr.ownsRow w.heap.size 5 1 v acc.length (Lib.byteCells acc) ∧ Kp [] w wr)
    case atStart => exact ⟨i, [], by omega, by omega, by omega, by simp, rfl, rfl, by omega, World.ownsRow_nil _ _ _ _, K2.out⟩
    case round =>
      obtain ⟨j, acc, hij, hjte, hg, ha, rfl, hu, hn, hown, hK⟩ := hrel
      have Hu := Lib.hid hu
      have Hn := Lib.hid hn
      have Ho := Lib.hid hown
      have HK := Lib.hid hK
      have hsz := hK.size
      have Rr := Lib.hid (HRd.out.kp hK (by simp))
      have r0 := Rr.out.c0
      clear hu hn hown hK c1
      by_cases hjt : j < te
      · have hjs : j < s.size := by omega
        have hjs1 : (j : Int) < (s.size : Int) := by omega
        obtain ⟨d, hd⟩ : ∃ x, digitI s[j].toNat = x := ⟨_, rfl⟩
        have HD := Lib.hid hd
        cases d
        · by_cases hji : j = i
          · have bji : ((j : Int) == (i : Int)) = true := by rw [hji]; exact beq_self_eq_true _
            have HK1 : (digitI s[j].toNat || ((!true && locC s[j].toNat) || (true && decide (j = i)))) = true := by rw [hd, decide_eq_true hji]; simp
            clear hd hji
            have HF := Lib.hid (telF_keep s.data.toList s rfl i te j true hjt hte hij (fun _ => H43.out trivial) HK1)
            go_wp2_with fail
            refine (rdigit_any _ _).mono ?_
            rintro e w' ⟨rfl, rfl⟩
            rw [HD.out]
            go_wp2_with (at_builtin; refine wpList_append_own _ rfl _ _ 113 rfl w.heap.size 5 i0 (.int .u8 0) 1 1 Tryz.underlying113 hi0 hz0 hz1 hz2 rfl (by decide) _ _ _ rfl (Ho.out.alloc _) ⟨wr.heap.size, 0, none⟩ 1 1 [.int .u8 (s[j].toNat : Int)] rfl rfl (cell_one_new _ _ _) (by simp [Value.oneCell']) ?c3 ?c4 ?c5 ?_)
            case c3 => unfold maxLen; omega
            case c4 => omega
            case c5 => simp; omega
            intro v4 w4 hown' hgrow _
            have HO4 := Lib.hid (by simpa [Lib.byteCells] using hown' : w4.ownsRow w.heap.size 5 1 v4 (acc ++ [s[j]]).length (Lib.byteCells (acc ++ [s[j]])))
            have K4 := Lib.hid ((HK.out.alloc (.cells #[.int .u8 (s[j].toNat : Int)] 5)).grown hgrow (fun k' hk' => .inr (Ho.out.lt k' hk').1))
            clear hown' hgrow
            go_wp2_with fail
            go_roundg (te - j)
            case measure => omega
            case rel => exact ⟨j + 1, acc ++ [s[j]], by omega, by omega, by omega, by simp; omega, by go_num, by rw [← Hu.out, HF.out]; simp, by rw [← Hn.out, HF.out]; dsimp only; omega, HO4.out, K4.out⟩
          · have bji : ((j : Int) == (i : Int)) = false := by rw [beq_eq_false_iff_ne]; omega
            have HK0 : (digitI s[j].toNat || ((!true && locC s[j].toNat) || (true && decide (j = i)))) = false := by rw [hd, decide_eq_false hji]; simp
            clear hd hji
            obtain ⟨sc, hsc⟩ : ∃ x, sepC s[j].toNat = x := ⟨_, rfl⟩
            have HSp := Lib.hid (fun wz => (by have h := rcontains_any ⟨#[45, 46, 40, 41]⟩ (s[j].toNat : Int) wz (by decide); rw [memSep] at h; rw [hsc] at h; exact h : Calls Tryz.prog 148 #[.string ⟨#[45, 46, 40, 41]⟩, .int .u8 (s[j].toNat : Int)] wz (Ret (.bool sc) wz)))
            cases sc
            · have HF := Lib.hid (telF_bad s.data.toList s rfl i te j true hjt hte hij HK0 hsc)
              have HR := Lib.hid (HRes.out.trans (by have h1 := Hn.out; rw [HF.out] at h1; dsimp only at h1; rw [if_pos (by omega), show i + (telF s.data.toList i te true i).2 = j from by omega]) : telR s.data.toList i = ([], j, 5))
              clear hsc
              go_wp2_with fail
              refine (rdigit_any _ _).mono ?_
              rintro e w' ⟨rfl, rfl⟩
              rw [HD.out]
              go_wp2_with fail
              refine (HSp.out _).mono ?_
              rintro e w' ⟨rfl, rfl⟩
              go_wp2_with fail
              refine (rfail_yes b i 0 j s 5 _ (HRd.out.kp HK.out (by simp))).mono ?_
              rintro e w5 ⟨rfl, hR5, hK5⟩
              have R5 := Lib.hid hR5
              have K5 := Lib.hid ((HK.out.mono (Y := [b]) (by simp)).trans hK5)
              clear hR5 hK5
              go_wp2_with fail
              go_ret
              unfold RdT
              rw [HR.out]
              exact ⟨_, i, rfl, hi, R5.out, K5.out, fun h => by simp at h⟩
            · have HF := Lib.hid (telF_skip s.data.toList s rfl i te j true hjt hte hij HK0 hsc)
              clear hsc
              go_wp2_with fail
              refine (rdigit_any _ _).mono ?_
              rintro e w' ⟨rfl, rfl⟩
              rw [HD.out]
              go_wp2_with fail
              refine (HSp.out _).mono ?_
              rintro e w' ⟨rfl, rfl⟩
              go_wp2_with fail
              go_roundg (te - j)
              case measure => omega
              case rel => exact ⟨j + 1, acc, by omega, by omega, by omega, by omega, by go_num, by rw [← Hu.out, HF.out], by rw [← Hn.out, HF.out]; dsimp only; omega, Ho.out, HK.out⟩
        · have HK1 : (digitI s[j].toNat || ((!true && locC s[j].toNat) || (true && decide (j = i)))) = true := by rw [hd]; rfl
          clear hd
          have HF := Lib.hid (telF_keep s.data.toList s rfl i te j true hjt hte hij (fun _ => H43.out trivial) HK1)
          go_wp2_with fail
          refine (rdigit_any _ _).mono ?_
          rintro e w' ⟨rfl, rfl⟩
          rw [HD.out]
          go_wp2_with (at_builtin; refine wpList_append_own _ rfl _ _ 113 rfl w.heap.size 5 i0 (.int .u8 0) 1 1 Tryz.underlying113 hi0 hz0 hz1 hz2 rfl (by decide) _ _ _ rfl (Ho.out.alloc _) ⟨wr.heap.size, 0, none⟩ 1 1 [.int .u8 (s[j].toNat : Int)] rfl rfl (cell_one_new _ _ _) (by simp [Value.oneCell']) ?c3 ?c4 ?c5 ?_)
          case c3 => unfold maxLen; omega
          case c4 => omega
          case c5 => simp; omega
          intro v4 w4 hown' hgrow _
          have HO4 := Lib.hid (by simpa [Lib.byteCells] using hown' : w4.ownsRow w.heap.size 5 1 v4 (acc ++ [s[j]]).length (Lib.byteCells (acc ++ [s[j]])))
          have K4 := Lib.hid ((HK.out.alloc (.cells #[.int .u8 (s[j].toNat : Int)] 5)).grown hgrow (fun k' hk' => .inr (Ho.out.lt k' hk').1))
          clear hown' hgrow
          go_wp2_with fail
          go_roundg (te - j)
          case measure => omega
          case rel => exact ⟨j + 1, acc ++ [s[j]], by omega, by omega, by omega, by simp; omega, by go_num, by rw [← Hu.out, HF.out]; simp, by rw [← Hn.out, HF.out]; dsimp only; omega, HO4.out, K4.out⟩
      · have hj : j = te := by omega
        have HE := Lib.hid (telF_end s.data.toList i te true (fun _ => Hit.out trivial))
        have HU2 := Lib.hid (by have h := Hu.out; rw [hj, HE.out] at h; simpa using h : acc = (telF s.data.toList i te true i).1)
        have HN2 := Lib.hid (by have h := Hn.out; rw [hj, HE.out] at h; dsimp only at h; omega : te - i = (telF s.data.toList i te true i).2)
        have HR0 := Lib.hid (HRes.out.trans (by rw [if_neg (by rw [← HN2.out]; omega), ← HU2.out]; simp) : telR s.data.toList i = if acc.length ≤ (if true then 1 else 0) then ([], i, 5) else if 30 + (if true then 1 else 0) < acc.length then ([], i, 4) else (acc, te, 0))
        have hcv := conv_row Ho.out
        obtain ⟨nn, hnn⟩ : ∃ n, acc.length = n := ⟨_, rfl⟩
        obtain ⟨vA, vC, hv⟩ := own_form1 Ho.out
        subst hv
        rw [hnn] at hcv HR0 ⊢
        simp only [if_true] at HR0
        have hnn1 : 1 ≤ nn := by
          have h := HU2.out
          rw [telF_yes] at h
          rw [← hnn, h]
          exact Nat.le_add_left _ _
        have Hnn := Lib.hid hnn
        clear hnn
        obtain ⟨m, hm⟩ : ∃ m, nn - 1 = m := ⟨_, rfl⟩
        have hnn30 : nn ≤ 2097153 := by have h2 := Hnn.out; have h3 := hs; omega
        have hw : IntKind.i64.wrap ((nn : Int) - 1) = (m : Int) := by rw [IntWalk.i64_in _ (by omega)]; omega
        have Hm := Lib.hid (show nn = m + 1 from by omega)
        clear hm hnn1
        by_cases hz : m < 1
        · have HR := Lib.hid (HR0.out.trans (if_pos (by have := Hm.out; omega)))
          go_wp2_with fail
          refine (rfail_yes b i 0 i s 5 _ Rr.out).mono ?_
          rintro e w5 ⟨rfl, hR5, hK5⟩
          have c1 := hR5.c1
          have f1 := hR5.fr 1
          have R6 := Lib.hid (hR5.at1 te)
          have K6 := Lib.hid (((HK.out.mono (Y := [b]) (by simp)).trans hK5).setCell (p := ⟨b, 1, none⟩) (.inl (by simp)) (.int .i64 te))
          have hOw := own_kp1b Ho.out ((hK5.trans ((Kp.refl [b] w5).setCell (p := ⟨b, 1, none⟩) (.inl (by simp)) (.int .i64 te)))) (by simp; omega)
          have hcv2 := conv_row hOw
          rw [Hnn.out] at hcv2
          clear hR5 hK5 hOw hcv
          go_wp2_with fail
          go_ret
          unfold RdT
          rw [HR.out]
          exact ⟨_, te, rfl, hte, R6.out, K6.out, fun h => by simp at h⟩
        · by_cases h30 : 30 < m
          · have HR := Lib.hid (HR0.out.trans ((if_neg (by have := Hm.out; omega)).trans (if_pos (by have := Hm.out; omega))))
            go_wp2_with fail
            refine (rfail_yes b i 0 i s 4 _ Rr.out).mono ?_
            rintro e w5 ⟨rfl, hR5, hK5⟩
            have c1 := hR5.c1
            have f1 := hR5.fr 1
            have R6 := Lib.hid (hR5.at1 te)
            have K6 := Lib.hid (((HK.out.mono (Y := [b]) (by simp)).trans hK5).setCell (p := ⟨b, 1, none⟩) (.inl (by simp)) (.int .i64 te))
            have hOw := own_kp1b Ho.out ((hK5.trans ((Kp.refl [b] w5).setCell (p := ⟨b, 1, none⟩) (.inl (by simp)) (.int .i64 te)))) (by simp; omega)
            have hcv2 := conv_row hOw
            rw [Hnn.out] at hcv2
            clear hR5 hK5 hOw hcv
            go_wp2_with fail
            go_ret
            unfold RdT
            rw [HR.out]
            exact ⟨_, te, rfl, hte, R6.out, K6.out, fun h => by simp at h⟩
          · have HR := Lib.hid (HR0.out.trans ((if_neg (by have := Hm.out; omega)).trans (if_neg (by have := Hm.out; omega))))
            have c1 := Rr.out.c1
            have f1 := Rr.out.fr 1
            have R6 := Lib.hid (Rr.out.at1 te)
            have K6 := Lib.hid ((HK.out.mono (Y := [b]) (by simp)).setCell (p := ⟨b, 1, none⟩) (.inl (by simp)) (.int .i64 te))
            have hOw := own_kp1b Ho.out ((Kp.refl [b] wr).setCell (p := ⟨b, 1, none⟩) (.inl (by simp)) (.int .i64 te)) (by simp; omega)
            have hcv2 := conv_row hOw
            rw [Hnn.out] at hcv2
            clear hOw hcv
            go_wp2_with fail
            go_ret
            unfold RdT
            rw [HR.out]
            exact ⟨_, te, rfl, hte, R6.out, K6.out, fun _ => ⟨rfl, rfl⟩⟩
end Ad
end Go.Proofs.YtonbkedjlbhpfaaGreatDoor
