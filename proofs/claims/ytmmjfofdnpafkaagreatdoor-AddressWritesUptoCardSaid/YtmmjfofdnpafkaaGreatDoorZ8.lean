/- Texts of one set of library modules: AdVb, AdVc, AdVf, AdVg, AdVh, AdVi, AdVk, AdVl. -/
import Derived.Test.YtmmjfofdnpafkaaGreatDoorZ7
import Derived.Test.YtmmjfofdnpafkaaGreatDoorZ6
namespace Go.Proofs.YtmmjfofdnpafkaaGreatDoor
namespace Ad
open Go.RowKit Lx
def telF (l : List UInt8) (i te : Nat) (plus : Bool) (j : Nat) : List UInt8 × Nat :=
 if plus = true ∧ j = i then (43 :: (telS false (slc l (i + 1) te)).1, (telS false (slc l (i + 1) te)).2 + 1) else telS (!plus) (slc l j te)
theorem telF_no (l : List UInt8) (i te : Nat) : telF l i te false i = telS true (slc l i te) := by
 unfold telF
 rw [if_neg (by simp)]
 rfl
theorem telF_yes (l : List UInt8) (i te : Nat) : telF l i te true i = (43 :: (telS false (slc l (i + 1) te)).1, (telS false (slc l (i + 1) te)).2 + 1) := by
 unfold telF
 rw [if_pos ⟨rfl, rfl⟩]
theorem telR_F (l : List UInt8) (i te : Nat) (ht : endP (· == 59) l i = te) (plus : Bool) (hp : (atB l i == 43) = plus) :
   telR l i = if (telF l i te plus i).2 < te - i then ([], i + (telF l i te plus i).2, 5) else if (telF l i te plus i).1.length ≤ (if plus then 1 else 0) then ([], i, 5) else if 30 + (if plus then 1 else 0) < (telF l i te plus i).1.length then ([], i, 4) else ((telF l i te plus i).1, te, 0) := by
 unfold telR
 rw [ht]
 cases plus
 ·have h43 : ¬ atB l i = 43 := by rw [beq_eq_false_iff_ne] at hp; exact hp
  rw [if_neg h43, telF_no]
  have e2 : ((telS true (slc l i te)).1.length ≤ if false = true then 1 else 0) ↔ (telS true (slc l i te)).1 = [] := by rw [if_neg (by decide), Nat.le_zero, List.length_eq_zero_iff]
  have e3 : (30 + if false = true then 1 else 0) = 30 := rfl
  simp only [e2, e3]
 ·have h43 : atB l i = 43 := by simpa using hp
  have hlt := atB_lt l i (by rw [h43]; decide)
  have hte : i < te := by
   rw [← ht]
   rcases Nat.lt_or_ge i (endP (· == 59) l i) with h | h
   ·exact h
   ·have he : endP (· == 59) l i = i := Nat.le_antisymm h (endP_ge _ _ _)
    have := endP_at (· == 59) l i (by rw [he]; exact hlt)
    rw [he, h43] at this
    exact absurd this (by decide)
  rw [if_pos h43, telF_yes]
  obtain ⟨a, n⟩ := telS false (slc l (i + 1) te)
  show (if n < te - (i + 1) then _ else if a = [] then _ else if 30 < a.length then _ else _) = (if n + 1 < te - i then _ else if (43 :: a).length ≤ 1 then _ else if 31 < (43 :: a).length then _ else _)
  have e1 : (n + 1 < te - i) = (n < te - (i + 1)) := propext (by omega)
  have e2 : ((43 :: a).length ≤ 1) = (a = []) := propext (by rw [← List.length_eq_zero_iff, List.length_cons]; omega)
  have e3 : (31 < (43 :: a).length) = (30 < a.length) := propext (by rw [List.length_cons]; omega)
  rw [show i + 1 + n = i + (n + 1) from by omega]
  simp only [e1, e2, e3]
def RdT (b : Nat) (s : ByteArray) (r : List UInt8 × Nat × Int) (w : World) (e : Ending) (w' : World) : Prop :=
 ∃ t i', e = .returned (.string t) ∧ i' ≤ s.size ∧ Rdr b s i' (if r.2.2 = 0 then 0 else r.2.1) r.2.2 w' ∧ Kp [b] w w' ∧ (r.2.2 = 0 → t = Txt r.1 ∧ i' = r.2.1)
theorem telF_keep (l : List UInt8) (s : ByteArray) (hs : s.data.toList = l) (i te j : Nat) (plus : Bool) (h : j < te) (hte : te ≤ s.size) (hij : i ≤ j) (hpi : plus = true → atB l i = 43)
   (hk : (digitI (s[j]'(by omega)).toNat || ((!plus && locC (s[j]'(by omega)).toNat) || (plus && decide (j = i)))) = true) : telF l i te plus j = ((s[j]'(by omega)) :: (telF l i te plus (j + 1)).1, (telF l i te plus (j + 1)).2 + 1) := by
 subst hs
 have hjs : j < s.size := by omega
 have e1 : telF s.data.toList i te plus (j + 1) = telS (!plus) (slc s.data.toList (j + 1) te) := by unfold telF; rw [if_neg (by omega)]
 rw [e1]
 unfold telF
 by_cases hc : plus = true ∧ j = i
 ·obtain ⟨rfl, rfl⟩ := hc
  rw [if_pos ⟨rfl, rfl⟩]
  have h43 := hpi rfl
  rw [atB_get s j hjs] at h43
  have : s[j] = 43 := UInt8.toNat_inj.1 (by have : (43 : UInt8).toNat = 43 := rfl; omega)
  rw [this]; rfl
 ·rw [if_neg hc, slc_step s j te h hte]
  have hk2 : (digitI s[j].toNat || (!plus && locC s[j].toNat)) = true := by
   cases plus
   ·simpa using hk
   ·have : ¬ j = i := fun h => hc ⟨rfl, h⟩
    simpa [this] using hk
  exact telS_dig _ _ _ hk2
theorem telF_skip (l : List UInt8) (s : ByteArray) (hs : s.data.toList = l) (i te j : Nat) (plus : Bool) (h : j < te) (hte : te ≤ s.size) (hij : i ≤ j)
   (hk : (digitI (s[j]'(by omega)).toNat || ((!plus && locC (s[j]'(by omega)).toNat) || (plus && decide (j = i)))) = false) (hp : sepC (s[j]'(by omega)).toNat = true) : telF l i te plus j = ((telF l i te plus (j + 1)).1, (telF l i te plus (j + 1)).2 + 1) := by
 subst hs
 rw [Bool.or_eq_false_iff, Bool.or_eq_false_iff] at hk
 have hc : ¬ (plus = true ∧ j = i) := fun h => by have := hk.2.2; rw [h.1, h.2] at this; simp at this
 unfold telF
 rw [if_neg hc]
 rw [if_neg (by omega), slc_step s j te h hte]
 exact telS_sep _ _ _ (by rw [hk.1, hk.2.1]; rfl) hp
theorem telF_bad (l : List UInt8) (s : ByteArray) (hs : s.data.toList = l) (i te j : Nat) (plus : Bool) (h : j < te) (hte : te ≤ s.size) (hij : i ≤ j)
   (hk : (digitI (s[j]'(by omega)).toNat || ((!plus && locC (s[j]'(by omega)).toNat) || (plus && decide (j = i)))) = false) (hp : sepC (s[j]'(by omega)).toNat = false) : telF l i te plus j = ([], 0) := by
 subst hs
 rw [Bool.or_eq_false_iff, Bool.or_eq_false_iff] at hk
 have hc : ¬ (plus = true ∧ j = i) := fun h => by have := hk.2.2; rw [h.1, h.2] at this; simp at this
 unfold telF
 rw [if_neg hc, slc_step s j te h hte]
 exact telS_bad _ _ _ (by rw [hk.1, hk.2.1]; rfl) hp
theorem telF_end (l : List UInt8) (i te : Nat) (plus : Bool) (h : plus = true → i < te) : telF l i te plus te = ([], 0) := by
 unfold telF
 rw [if_neg (fun hh => by have := h hh.1; omega), slc_nil _ _ _ (Nat.le_refl _)]
 rfl
theorem own_form1 {w : World} {base : Nat} {v : Value} {l : List UInt8} (h : w.ownsRow base 5 1 v l.length (Lib.byteCells l)) : ∃ p c, v = .slice p l.length c := by
 rcases h.2 with ⟨rfl, hz⟩ | ⟨g, cap, cur, rfl, _⟩
 ·exact ⟨none, 0, by rw [hz]⟩
 ·exact ⟨_, cap, rfl⟩
theorem own_kp1b {w w' : World} {B : Nat} {v : Value} {n : Nat} {xs : List Value} {X : List Nat} (h : w.ownsRow B 5 1 v n xs) (k : Kp X w w') (hX : ∀ x ∈ X, x < B) : w'.ownsRow B 5 1 v n xs := own_kp h k hX
theorem memSep (c : Int) : memB (ByteArray.mk #[45, 46, 40, 41]).data.toList c = sepC c := by
 unfold memB sepC
 simp only [List.any_cons, List.any_nil, Bool.or_false]
 have e : ∀ n : Nat, ((n : Int) == c) = (c == (n : Int)) := fun n => by rw [Bool.eq_iff_iff]; simp only [beq_iff_eq]; exact eq_comm
 rw [show (((45 : UInt8).toNat : Int)) = 45 from rfl, show (((46 : UInt8).toNat : Int)) = 46 from rfl, show (((40 : UInt8).toNat : Int)) = 40 from rfl, show (((41 : UInt8).toNat : Int)) = 41 from rfl]
 rw [show ((45 : Int) == c) = (c == 45) from e 45, show ((46 : Int) == c) = (c == 46) from e 46, show ((40 : Int) == c) = (c == 40) from e 40, show ((41 : Int) == c) = (c == 41) from e 41]
theorem mem59 (c : Int) : memB (ByteArray.mk #[59]).data.toList c = (c == 59) := by
 unfold memB
 simp only [List.any_cons, List.any_nil, Bool.or_false]
 rw [Bool.eq_iff_iff]; simp only [beq_iff_eq]; exact eq_comm
set_option maxRecDepth 100000 in
set_option maxHeartbeats 16000000 in
theorem rtelephone_any (b i : Nat) (s : ByteArray) (w : World) (R : Rdr b s i 0 0 w) (hi : i ≤ s.size) (hs : s.size ≤ 2097152) :
   Calls Tryz.prog 294 #[.pointer (some ⟨b, 0, none⟩)] w (RdT b s (telR s.data.toList i) w) := by
 obtain ⟨i0, hi0, hz0, hz1, hz2⟩ := info_parts infoByte
 have hbw := R.lt
 obtain ⟨te, hte0⟩ : ∃ n, endP (· == 59) s.data.toList i = n := ⟨_, rfl⟩
 have hte : te ≤ s.size := by rw [← hte0, ← len_list]; exact endP_le _ _ _ (by rw [len_list]; exact hi)
 have hite : i ≤ te := by rw [← hte0]; exact endP_ge _ _ _
 obtain ⟨pl, hpl⟩ : ∃ x, (atB s.data.toList i == 43) = x := ⟨_, rfl⟩
 have HUn := Lib.hid (by have h := runtil_any (· == 59) b i 0 s ⟨#[59]⟩ 0 w R hi hs (by decide) mem59; rw [hte0] at h; exact h)
 have HIs := Lib.hid (fun wz (h : Rdr b s i 0 0 wz) => (by have h := ris_any b i 0 s 43 wz h hi hs (by decide); rw [hpl] at h; exact h : Calls Tryz.prog 336 #[.pointer (some ⟨b, 0, none⟩), .int .u8 43] wz (BoK pl wz)))
 have HRes := Lib.hid (telR_F s.data.toList i te hte0 pl hpl)
 have c1 := R.c1
 have HRd := Lib.hid R
 have H43 := Lib.hid (fun (h : pl = true) => (by have h2 := hpl.trans h; simpa using h2 : atB s.data.toList i = 43))
 have Hit := Lib.hid (fun (h : pl = true) => (by
  have h43 := H43.out h
  have hlt := atB_lt s.data.toList i (by rw [h43]; decide)
  rcases Nat.lt_or_ge i te with h1 | h1
  ·exact h1
  ·have he : endP (· == 59) s.data.toList i = i := by omega
   have := endP_at (· == 59) s.data.toList i (by rw [he]; exact hlt)
   rw [he, h43] at this
   exact absurd this (by decide) : i < te))
 clear hte0 hpl R
 go_enter Tryz.func294, Tryz.ntmps294
 go_wp2_with fail
 refine HUn.out.mono ?_
 rintro e w1 ⟨rfl, hK1⟩
 have R1 := Lib.hid (HRd.out.kp hK1 (by simp))
 have K1 := Lib.hid hK1
 clear c1 hK1
 go_wp2_with fail
 refine (HIs.out _ R1.out).mono ?_
 rintro e w2 ⟨rfl, hK2⟩
 have K2 := Lib.hid (K1.out.trans hK2)
 have R2 := Lib.hid (R1.out.kp hK2 (by simp))
 have c1 := R2.out.c1
 clear hK2
 cases pl
 ·go_wp2_with fail
  go_loopg [6, 7, 8] (te - i + 1) (fun gg v k _ wr => ∃ (j : Nat) (acc : List UInt8), i ≤ j ∧ j ≤ te ∧ te - j < gg ∧ acc.length ≤ j - i ∧ k = .int .i64 j ∧ acc ++ (telF s.data.toList i te false j).1 = (telF s.data.toList i te false i).1 ∧ (j - i) + (telF s.data.toList i te false j).2 = (telF s.data.toList i te false i).2 ∧ wr.ownsRow w.heap.size 5 1 v acc.length (Lib.byteCells acc) ∧ Kp [] w wr)
  case atStart => exact ⟨i, [], by omega, by omega, by omega, by simp, rfl, rfl, by omega, World.ownsRow_nil _ _ _ _, K2.out⟩
  case round =>
   obtain ⟨j, acc, hij, hjte, hg, ha, rfl, hu, hn, hown, hK⟩ := hrel
   have Hu := Lib.hid hu
   have Hn := Lib.hid hn
   have Ho := Lib.hid hown
   have HK := Lib.hid hK
   have hsz := hK.size
   have Rr := Lib.hid (HRd.out.kp hK (by simp))
   have r0 := Rr.out.c0
   clear hu hn hown hK c1
   by_cases hjt : j < te
   ·have hjs : j < s.size := by omega
    have hjs1 : (j : Int) < (s.size : Int) := by omega
    obtain ⟨d, hd⟩ : ∃ x, digitI s[j].toNat = x := ⟨_, rfl⟩
    have HD := Lib.hid hd
    cases d
    ·have e42 : ((s[j].toNat : Int) == 42) = decide (s[j].toNat = 42) := by rw [Bool.eq_iff_iff]; simp; omega
     have e35 : ((s[j].toNat : Int) == 35) = decide (s[j].toNat = 35) := by rw [Bool.eq_iff_iff]; simp; omega
     have el : locC s[j].toNat = (decide (s[j].toNat = 42) || decide (s[j].toNat = 35)) := by unfold locC; rw [e42, e35]
     by_cases h42 : s[j].toNat = 42
     ·rw [decide_eq_true h42] at e42 el
      have HK1 : (digitI s[j].toNat || ((!false && locC s[j].toNat) || (false && decide (j = i)))) = true := by rw [hd, el]; rfl
      clear hd el h42
      have HF := Lib.hid (telF_keep s.data.toList s rfl i te j false hjt hte hij (fun h => H43.out h) HK1)
      go_wp2_with fail
      refine (rdigit_any _ _).mono ?_
      rintro e w' ⟨rfl, rfl⟩
      rw [HD.out]
      go_wp2_with (at_builtin; refine wpList_append_own _ rfl _ _ 118 rfl w.heap.size 5 i0 (.int .u8 0) 1 1 Tryz.underlying118 hi0 hz0 hz1 hz2 rfl (by decide) _ _ _ rfl (Ho.out.alloc _) ⟨wr.heap.size, 0, none⟩ 1 1 [.int .u8 (s[j].toNat : Int)] rfl rfl (cell_one_new _ _ _) (by simp [Value.oneCell']) ?c3 ?c4 ?c5 ?_)
      case c3 => unfold maxLen; omega
      case c4 => omega
      case c5 => simp; omega
      intro v4 w4 hown' hgrow _
      have HO4 := Lib.hid (by simpa [Lib.byteCells] using hown' : w4.ownsRow w.heap.size 5 1 v4 (acc ++ [s[j]]).length (Lib.byteCells (acc ++ [s[j]])))
      have K4 := Lib.hid ((HK.out.alloc (.cells #[.int .u8 (s[j].toNat : Int)] 5)).grown hgrow (fun k' hk' => .inr (Ho.out.lt k' hk').1))
      clear hown' hgrow
      go_wp2_with fail
      go_roundg (te - j)
      case measure => omega
      case rel => exact ⟨j + 1, acc ++ [s[j]], by omega, by omega, by omega, by simp; omega, by go_num, by rw [← Hu.out, HF.out]; simp, by rw [← Hn.out, HF.out]; dsimp only; omega, HO4.out, K4.out⟩
     ·rw [decide_eq_false h42] at e42 el
      by_cases h35 : s[j].toNat = 35
      ·rw [decide_eq_true h35] at e35 el
       have HK1 : (digitI s[j].toNat || ((!false && locC s[j].toNat) || (false && decide (j = i)))) = true := by rw [hd, el]; rfl
       clear hd el h35 h42
       have HF := Lib.hid (telF_keep s.data.toList s rfl i te j false hjt hte hij (fun h => H43.out h) HK1)
       go_wp2_with fail
       refine (rdigit_any _ _).mono ?_
       rintro e w' ⟨rfl, rfl⟩
       rw [HD.out]
       go_wp2_with (at_builtin; refine wpList_append_own _ rfl _ _ 118 rfl w.heap.size 5 i0 (.int .u8 0) 1 1 Tryz.underlying118 hi0 hz0 hz1 hz2 rfl (by decide) _ _ _ rfl (Ho.out.alloc _) ⟨wr.heap.size, 0, none⟩ 1 1 [.int .u8 (s[j].toNat : Int)] rfl rfl (cell_one_new _ _ _) (by simp [Value.oneCell']) ?c3 ?c4 ?c5 ?_)
       case c3 => unfold maxLen; omega
       case c4 => omega
       case c5 => simp; omega
       intro v4 w4 hown' hgrow _
       have HO4 := Lib.hid (by simpa [Lib.byteCells] using hown' : w4.ownsRow w.heap.size 5 1 v4 (acc ++ [s[j]]).length (Lib.byteCells (acc ++ [s[j]])))
       have K4 := Lib.hid ((HK.out.alloc (.cells #[.int .u8 (s[j].toNat : Int)] 5)).grown hgrow (fun k' hk' => .inr (Ho.out.lt k' hk').1))
       clear hown' hgrow
       go_wp2_with fail
       go_roundg (te - j)
       case measure => omega
       case rel => exact ⟨j + 1, acc ++ [s[j]], by omega, by omega, by omega, by simp; omega, by go_num, by rw [← Hu.out, HF.out]; simp, by rw [← Hn.out, HF.out]; dsimp only; omega, HO4.out, K4.out⟩
      ·rw [decide_eq_false h35] at e35 el
       have HK0 : (digitI s[j].toNat || ((!false && locC s[j].toNat) || (false && decide (j = i)))) = false := by rw [hd, el]; rfl
       clear hd el h35 h42
       obtain ⟨sc, hsc⟩ : ∃ x, sepC s[j].toNat = x := ⟨_, rfl⟩
       have HSp := Lib.hid (fun wz => (by have h := rcontains_any ⟨#[45, 46, 40, 41]⟩ (s[j].toNat : Int) wz (by decide); rw [memSep] at h; rw [hsc] at h; exact h : Calls Tryz.prog 295 #[.string ⟨#[45, 46, 40, 41]⟩, .int .u8 (s[j].toNat : Int)] wz (Ret (.bool sc) wz)))
       cases sc
       ·have HF := Lib.hid (telF_bad s.data.toList s rfl i te j false hjt hte hij HK0 hsc)
        have HR := Lib.hid (HRes.out.trans (by have h1 := Hn.out; rw [HF.out] at h1; dsimp only at h1; rw [if_pos (by omega), show i + (telF s.data.toList i te false i).2 = j from by omega]) : telR s.data.toList i = ([], j, 5))
        clear hsc
        go_wp2_with fail
        refine (rdigit_any _ _).mono ?_
        rintro e w' ⟨rfl, rfl⟩
        rw [HD.out]
        go_wp2_with fail
        refine (HSp.out _).mono ?_
        rintro e w' ⟨rfl, rfl⟩
        go_wp2_with fail
        refine (rfail_yes b i 0 j s 5 _ (HRd.out.kp HK.out (by simp))).mono ?_
        rintro e w5 ⟨rfl, hR5, hK5⟩
        have R5 := Lib.hid hR5
        have K5 := Lib.hid ((HK.out.mono (Y := [b]) (by simp)).trans hK5)
        clear hR5 hK5
        go_wp2_with fail
        go_ret
        unfold RdT
        rw [HR.out]
        exact ⟨_, i, rfl, hi, R5.out, K5.out, fun h => by simp at h⟩
       ·have HF := Lib.hid (telF_skip s.data.toList s rfl i te j false hjt hte hij HK0 hsc)
        clear hsc
        go_wp2_with fail
        refine (rdigit_any _ _).mono ?_
        rintro e w' ⟨rfl, rfl⟩
        rw [HD.out]
        go_wp2_with fail
        refine (HSp.out _).mono ?_
        rintro e w' ⟨rfl, rfl⟩
        go_wp2_with fail
        go_roundg (te - j)
        case measure => omega
        case rel => exact ⟨j + 1, acc, by omega, by omega, by omega, by omega, by go_num, by rw [← Hu.out, HF.out], by rw [← Hn.out, HF.out]; dsimp only; omega, Ho.out, HK.out⟩
    ·have HK1 : (digitI s[j].toNat || ((!false && locC s[j].toNat) || (false && decide (j = i)))) = true := by rw [hd]; rfl
     clear hd
     have HF := Lib.hid (telF_keep s.data.toList s rfl i te j false hjt hte hij (fun h => H43.out h) HK1)
     go_wp2_with fail
     refine (rdigit_any _ _).mono ?_
     rintro e w' ⟨rfl, rfl⟩
     rw [HD.out]
     go_wp2_with (at_builtin; refine wpList_append_own _ rfl _ _ 118 rfl w.heap.size 5 i0 (.int .u8 0) 1 1 Tryz.underlying118 hi0 hz0 hz1 hz2 rfl (by decide) _ _ _ rfl (Ho.out.alloc _) ⟨wr.heap.size, 0, none⟩ 1 1 [.int .u8 (s[j].toNat : Int)] rfl rfl (cell_one_new _ _ _) (by simp [Value.oneCell']) ?c3 ?c4 ?c5 ?_)
     case c3 => unfold maxLen; omega
     case c4 => omega
     case c5 => simp; omega
     intro v4 w4 hown' hgrow _
     have HO4 := Lib.hid (by simpa [Lib.byteCells] using hown' : w4.ownsRow w.heap.size 5 1 v4 (acc ++ [s[j]]).length (Lib.byteCells (acc ++ [s[j]])))
     have K4 := Lib.hid ((HK.out.alloc (.cells #[.int .u8 (s[j].toNat : Int)] 5)).grown hgrow (fun k' hk' => .inr (Ho.out.lt k' hk').1))
     clear hown' hgrow
     go_wp2_with fail
     go_roundg (te - j)
     case measure => omega
     case rel => exact ⟨j + 1, acc ++ [s[j]], by omega, by omega, by omega, by simp; omega, by go_num, by rw [← Hu.out, HF.out]; simp, by rw [← Hn.out, HF.out]; dsimp only; omega, HO4.out, K4.out⟩
   ·have hj : j = te := by omega
    have HE := Lib.hid (telF_end s.data.toList i te false (fun h => Hit.out h))
    have HU2 := Lib.hid (by have h := Hu.out; rw [hj, HE.out] at h; simpa using h : acc = (telF s.data.toList i te false i).1)
    have HN2 := Lib.hid (by have h := Hn.out; rw [hj, HE.out] at h; dsimp only at h; omega : te - i = (telF s.data.toList i te false i).2)
    have HR0 := Lib.hid (HRes.out.trans (by rw [if_neg (by rw [← HN2.out]; omega), ← HU2.out]) : telR s.data.toList i = if acc.length ≤ (if false then 1 else 0) then ([], i, 5) else if 30 + (if false then 1 else 0) < acc.length then ([], i, 4) else (acc, te, 0))
    have hcv := conv_row Ho.out
    obtain ⟨nn, hnn⟩ : ∃ n, acc.length = n := ⟨_, rfl⟩
    obtain ⟨vA, vC, hv⟩ := own_form1 Ho.out
    subst hv
    rw [hnn] at hcv HR0 ⊢
    simp only [Bool.false_eq_true, if_false] at HR0
    have hnn0 : 0 ≤ nn ∨ nn < 0 := by omega
    have Hnn := Lib.hid hnn
    clear hnn
    by_cases hz : nn ≤ 0
    ·have HR := Lib.hid (HR0.out.trans (if_pos hz))
     go_wp2_with fail
     refine (rfail_yes b i 0 i s 5 _ Rr.out).mono ?_
     rintro e w5 ⟨rfl, hR5, hK5⟩
     have c1 := hR5.c1
     have f1 := hR5.fr 1
     have R6 := Lib.hid (hR5.at1 te)
     have K6 := Lib.hid (((HK.out.mono (Y := [b]) (by simp)).trans hK5).setCell (p := ⟨b, 1, none⟩) (.inl (by simp)) (.int .i64 te))
     have hOw := own_kp1b Ho.out ((hK5.trans ((Kp.refl [b] w5).setCell (p := ⟨b, 1, none⟩) (.inl (by simp)) (.int .i64 te)))) (by simp; omega)
     have hcv2 := conv_row hOw
     rw [Hnn.out] at hcv2
     clear hR5 hK5 hOw hcv
     go_wp2_with fail
     go_ret
     unfold RdT
     rw [HR.out]
     exact ⟨_, te, rfl, hte, R6.out, K6.out, fun h => by simp at h⟩
    ·by_cases h30 : 30 < nn
     ·have HR := Lib.hid (HR0.out.trans ((if_neg hz).trans (if_pos (by omega))))
      go_wp2_with fail
      refine (rfail_yes b i 0 i s 4 _ Rr.out).mono ?_
      rintro e w5 ⟨rfl, hR5, hK5⟩
      have c1 := hR5.c1
      have f1 := hR5.fr 1
      have R6 := Lib.hid (hR5.at1 te)
      have K6 := Lib.hid (((HK.out.mono (Y := [b]) (by simp)).trans hK5).setCell (p := ⟨b, 1, none⟩) (.inl (by simp)) (.int .i64 te))
      have hOw := own_kp1b Ho.out ((hK5.trans ((Kp.refl [b] w5).setCell (p := ⟨b, 1, none⟩) (.inl (by simp)) (.int .i64 te)))) (by simp; omega)
      have hcv2 := conv_row hOw
      rw [Hnn.out] at hcv2
      clear hR5 hK5 hOw hcv
      go_wp2_with fail
      go_ret
      unfold RdT
      rw [HR.out]
      exact ⟨_, te, rfl, hte, R6.out, K6.out, fun h => by simp at h⟩
     ·have HR := Lib.hid (HR0.out.trans ((if_neg hz).trans (if_neg (by omega))))
      have c1 := Rr.out.c1
      have f1 := Rr.out.fr 1
      have R6 := Lib.hid (Rr.out.at1 te)
      have K6 := Lib.hid ((HK.out.mono (Y := [b]) (by simp)).setCell (p := ⟨b, 1, none⟩) (.inl (by simp)) (.int .i64 te))
      have hOw := own_kp1b Ho.out ((Kp.refl [b] wr).setCell (p := ⟨b, 1, none⟩) (.inl (by simp)) (.int .i64 te)) (by simp; omega)
      have hcv2 := conv_row hOw
      rw [Hnn.out] at hcv2
      clear hOw hcv
      go_wp2_with fail
      go_ret
      unfold RdT
      rw [HR.out]
      exact ⟨_, te, rfl, hte, R6.out, K6.out, fun _ => ⟨rfl, rfl⟩⟩
 ·go_wp2_with fail
  go_loopg [6, 7, 8] (te - i + 1) (fun gg v k _ wr => ∃ (j : Nat) (acc : List UInt8), i ≤ j ∧ j ≤ te ∧ te - j < gg ∧ acc.length ≤ j - i ∧ k = .int .i64 j ∧ acc ++ (telF s.data.toList i te true j).1 = (telF s.data.toList i te true i).1 ∧ (j - i) + (telF s.data.toList i te true j).2 = (telF s.data.toList i te true i).2 ∧ wr.ownsRow w.heap.size 5 1 v acc.length (Lib.byteCells acc) ∧ Kp [] w wr)
  case atStart => exact ⟨i, [], by omega, by omega, by omega, by simp, rfl, rfl, by omega, World.ownsRow_nil _ _ _ _, K2.out⟩
  case round =>
   obtain ⟨j, acc, hij, hjte, hg, ha, rfl, hu, hn, hown, hK⟩ := hrel
   have Hu := Lib.hid hu
   have Hn := Lib.hid hn
   have Ho := Lib.hid hown
   have HK := Lib.hid hK
   have hsz := hK.size
   have Rr := Lib.hid (HRd.out.kp hK (by simp))
   have r0 := Rr.out.c0
   clear hu hn hown hK c1
   by_cases hjt : j < te
   ·have hjs : j < s.size := by omega
    have hjs1 : (j : Int) < (s.size : Int) := by omega
    obtain ⟨d, hd⟩ : ∃ x, digitI s[j].toNat = x := ⟨_, rfl⟩
    have HD := Lib.hid hd
    cases d
    ·by_cases hji : j = i
     ·have bji : ((j : Int) == (i : Int)) = true := by rw [hji]; exact beq_self_eq_true _
      have HK1 : (digitI s[j].toNat || ((!true && locC s[j].toNat) || (true && decide (j = i)))) = true := by rw [hd, decide_eq_true hji]; simp
      clear hd hji
      have HF := Lib.hid (telF_keep s.data.toList s rfl i te j true hjt hte hij (fun _ => H43.out trivial) HK1)
      go_wp2_with fail
      refine (rdigit_any _ _).mono ?_
      rintro e w' ⟨rfl, rfl⟩
      rw [HD.out]
      go_wp2_with (at_builtin; refine wpList_append_own _ rfl _ _ 118 rfl w.heap.size 5 i0 (.int .u8 0) 1 1 Tryz.underlying118 hi0 hz0 hz1 hz2 rfl (by decide) _ _ _ rfl (Ho.out.alloc _) ⟨wr.heap.size, 0, none⟩ 1 1 [.int .u8 (s[j].toNat : Int)] rfl rfl (cell_one_new _ _ _) (by simp [Value.oneCell']) ?c3 ?c4 ?c5 ?_)
      case c3 => unfold maxLen; omega
      case c4 => omega
      case c5 => simp; omega
      intro v4 w4 hown' hgrow _
      have HO4 := Lib.hid (by simpa [Lib.byteCells] using hown' : w4.ownsRow w.heap.size 5 1 v4 (acc ++ [s[j]]).length (Lib.byteCells (acc ++ [s[j]])))
      have K4 := Lib.hid ((HK.out.alloc (.cells #[.int .u8 (s[j].toNat : Int)] 5)).grown hgrow (fun k' hk' => .inr (Ho.out.lt k' hk').1))
      clear hown' hgrow
      go_wp2_with fail
      go_roundg (te - j)
      case measure => omega
      case rel => exact ⟨j + 1, acc ++ [s[j]], by omega, by omega, by omega, by simp; omega, by go_num, by rw [← Hu.out, HF.out]; simp, by rw [← Hn.out, HF.out]; dsimp only; omega, HO4.out, K4.out⟩
     ·have bji : ((j : Int) == (i : Int)) = false := by rw [beq_eq_false_iff_ne]; omega
      have HK0 : (digitI s[j].toNat || ((!true && locC s[j].toNat) || (true && decide (j = i)))) = false := by rw [hd, decide_eq_false hji]; simp
      clear hd hji
      obtain ⟨sc, hsc⟩ : ∃ x, sepC s[j].toNat = x := ⟨_, rfl⟩
      have HSp := Lib.hid (fun wz => (by have h := rcontains_any ⟨#[45, 46, 40, 41]⟩ (s[j].toNat : Int) wz (by decide); rw [memSep] at h; rw [hsc] at h; exact h : Calls Tryz.prog 295 #[.string ⟨#[45, 46, 40, 41]⟩, .int .u8 (s[j].toNat : Int)] wz (Ret (.bool sc) wz)))
      cases sc
      ·have HF := Lib.hid (telF_bad s.data.toList s rfl i te j true hjt hte hij HK0 hsc)
       have HR := Lib.hid (HRes.out.trans (by have h1 := Hn.out; rw [HF.out] at h1; dsimp only at h1; rw [if_pos (by omega), show i + (telF s.data.toList i te true i).2 = j from by omega]) : telR s.data.toList i = ([], j, 5))
       clear hsc
       go_wp2_with fail
       refine (rdigit_any _ _).mono ?_
       rintro e w' ⟨rfl, rfl⟩
       rw [HD.out]
       go_wp2_with fail
       refine (HSp.out _).mono ?_
       rintro e w' ⟨rfl, rfl⟩
       go_wp2_with fail
       refine (rfail_yes b i 0 j s 5 _ (HRd.out.kp HK.out (by simp))).mono ?_
       rintro e w5 ⟨rfl, hR5, hK5⟩
       have R5 := Lib.hid hR5
       have K5 := Lib.hid ((HK.out.mono (Y := [b]) (by simp)).trans hK5)
       clear hR5 hK5
       go_wp2_with fail
       go_ret
       unfold RdT
       rw [HR.out]
       exact ⟨_, i, rfl, hi, R5.out, K5.out, fun h => by simp at h⟩
      ·have HF := Lib.hid (telF_skip s.data.toList s rfl i te j true hjt hte hij HK0 hsc)
       clear hsc
       go_wp2_with fail
       refine (rdigit_any _ _).mono ?_
       rintro e w' ⟨rfl, rfl⟩
       rw [HD.out]
       go_wp2_with fail
       refine (HSp.out _).mono ?_
       rintro e w' ⟨rfl, rfl⟩
       go_wp2_with fail
       go_roundg (te - j)
       case measure => omega
       case rel => exact ⟨j + 1, acc, by omega, by omega, by omega, by omega, by go_num, by rw [← Hu.out, HF.out], by rw [← Hn.out, HF.out]; dsimp only; omega, Ho.out, HK.out⟩
    ·have HK1 : (digitI s[j].toNat || ((!true && locC s[j].toNat) || (true && decide (j = i)))) = true := by rw [hd]; rfl
     clear hd
     have HF := Lib.hid (telF_keep s.data.toList s rfl i te j true hjt hte hij (fun _ => H43.out trivial) HK1)
     go_wp2_with fail
     refine (rdigit_any _ _).mono ?_
     rintro e w' ⟨rfl, rfl⟩
     rw [HD.out]
     go_wp2_with (at_builtin; refine wpList_append_own _ rfl _ _ 118 rfl w.heap.size 5 i0 (.int .u8 0) 1 1 Tryz.underlying118 hi0 hz0 hz1 hz2 rfl (by decide) _ _ _ rfl (Ho.out.alloc _) ⟨wr.heap.size, 0, none⟩ 1 1 [.int .u8 (s[j].toNat : Int)] rfl rfl (cell_one_new _ _ _) (by simp [Value.oneCell']) ?c3 ?c4 ?c5 ?_)
     case c3 => unfold maxLen; omega
     case c4 => omega
     case c5 => simp; omega
     intro v4 w4 hown' hgrow _
     have HO4 := Lib.hid (by simpa [Lib.byteCells] using hown' : w4.ownsRow w.heap.size 5 1 v4 (acc ++ [s[j]]).length (Lib.byteCells (acc ++ [s[j]])))
     have K4 := Lib.hid ((HK.out.alloc (.cells #[.int .u8 (s[j].toNat : Int)] 5)).grown hgrow (fun k' hk' => .inr (Ho.out.lt k' hk').1))
     clear hown' hgrow
     go_wp2_with fail
     go_roundg (te - j)
     case measure => omega
     case rel => exact ⟨j + 1, acc ++ [s[j]], by omega, by omega, by omega, by simp; omega, by go_num, by rw [← Hu.out, HF.out]; simp, by rw [← Hn.out, HF.out]; dsimp only; omega, HO4.out, K4.out⟩
   ·have hj : j = te := by omega
    have HE := Lib.hid (telF_end s.data.toList i te true (fun _ => Hit.out trivial))
    have HU2 := Lib.hid (by have h := Hu.out; rw [hj, HE.out] at h; simpa using h : acc = (telF s.data.toList i te true i).1)
    have HN2 := Lib.hid (by have h := Hn.out; rw [hj, HE.out] at h; dsimp only at h; omega : te - i = (telF s.data.toList i te true i).2)
    have HR0 := Lib.hid (HRes.out.trans (by rw [if_neg (by rw [← HN2.out]; omega), ← HU2.out]; simp) : telR s.data.toList i = if acc.length ≤ (if true then 1 else 0) then ([], i, 5) else if 30 + (if true then 1 else 0) < acc.length then ([], i, 4) else (acc, te, 0))
    have hcv := conv_row Ho.out
    obtain ⟨nn, hnn⟩ : ∃ n, acc.length = n := ⟨_, rfl⟩
    obtain ⟨vA, vC, hv⟩ := own_form1 Ho.out
    subst hv
    rw [hnn] at hcv HR0 ⊢
    simp only [if_true] at HR0
    have hnn1 : 1 ≤ nn := by
     have h := HU2.out
     rw [telF_yes] at h
     rw [← hnn, h]
     exact Nat.le_add_left _ _
    have Hnn := Lib.hid hnn
    clear hnn
    obtain ⟨m, hm⟩ : ∃ m, nn - 1 = m := ⟨_, rfl⟩
    have hnn30 : nn ≤ 2097153 := by have h2 := Hnn.out; have h3 := hs; omega
    have hw : IntKind.i64.wrap ((nn : Int) - 1) = (m : Int) := by rw [IntWalk.i64_in _ (by omega)]; omega
    have Hm := Lib.hid (show nn = m + 1 from by omega)
    clear hm hnn1
    by_cases hz : m < 1
    ·have HR := Lib.hid (HR0.out.trans (if_pos (by have := Hm.out; omega)))
     go_wp2_with fail
     refine (rfail_yes b i 0 i s 5 _ Rr.out).mono ?_
     rintro e w5 ⟨rfl, hR5, hK5⟩
     have c1 := hR5.c1
     have f1 := hR5.fr 1
     have R6 := Lib.hid (hR5.at1 te)
     have K6 := Lib.hid (((HK.out.mono (Y := [b]) (by simp)).trans hK5).setCell (p := ⟨b, 1, none⟩) (.inl (by simp)) (.int .i64 te))
     have hOw := own_kp1b Ho.out ((hK5.trans ((Kp.refl [b] w5).setCell (p := ⟨b, 1, none⟩) (.inl (by simp)) (.int .i64 te)))) (by simp; omega)
     have hcv2 := conv_row hOw
     rw [Hnn.out] at hcv2
     clear hR5 hK5 hOw hcv
     go_wp2_with fail
     go_ret
     unfold RdT
     rw [HR.out]
     exact ⟨_, te, rfl, hte, R6.out, K6.out, fun h => by simp at h⟩
    ·by_cases h30 : 30 < m
     ·have HR := Lib.hid (HR0.out.trans ((if_neg (by have := Hm.out; omega)).trans (if_pos (by have := Hm.out; omega))))
      go_wp2_with fail
      refine (rfail_yes b i 0 i s 4 _ Rr.out).mono ?_
      rintro e w5 ⟨rfl, hR5, hK5⟩
      have c1 := hR5.c1
      have f1 := hR5.fr 1
      have R6 := Lib.hid (hR5.at1 te)
      have K6 := Lib.hid (((HK.out.mono (Y := [b]) (by simp)).trans hK5).setCell (p := ⟨b, 1, none⟩) (.inl (by simp)) (.int .i64 te))
      have hOw := own_kp1b Ho.out ((hK5.trans ((Kp.refl [b] w5).setCell (p := ⟨b, 1, none⟩) (.inl (by simp)) (.int .i64 te)))) (by simp; omega)
      have hcv2 := conv_row hOw
      rw [Hnn.out] at hcv2
      clear hR5 hK5 hOw hcv
      go_wp2_with fail
      go_ret
      unfold RdT
      rw [HR.out]
      exact ⟨_, te, rfl, hte, R6.out, K6.out, fun h => by simp at h⟩
     ·have HR := Lib.hid (HR0.out.trans ((if_neg (by have := Hm.out; omega)).trans (if_neg (by have := Hm.out; omega))))
      have c1 := Rr.out.c1
      have f1 := Rr.out.fr 1
      have R6 := Lib.hid (Rr.out.at1 te)
      have K6 := Lib.hid ((HK.out.mono (Y := [b]) (by simp)).setCell (p := ⟨b, 1, none⟩) (.inl (by simp)) (.int .i64 te))
      have hOw := own_kp1b Ho.out ((Kp.refl [b] wr).setCell (p := ⟨b, 1, none⟩) (.inl (by simp)) (.int .i64 te)) (by simp; omega)
      have hcv2 := conv_row hOw
      rw [Hnn.out] at hcv2
      clear hOw hcv
      go_wp2_with fail
      go_ret
      unfold RdT
      rw [HR.out]
      exact ⟨_, te, rfl, hte, R6.out, K6.out, fun _ => ⟨rfl, rfl⟩⟩
end Ad
end Go.Proofs.YtmmjfofdnpafkaaGreatDoor
namespace Go.Proofs.YtmmjfofdnpafkaaGreatDoor
namespace Ad
open Go.RowKit Lx
set_option maxRecDepth 100000 in
set_option maxHeartbeats 1000000 in
theorem rtelephoned_any (l : List UInt8) (w : World) (hl : l.length ≤ 2097152) :
   Calls Tryz.prog 229 #[.string (Txt l)] w (BoK (isNum l) w) := by
 have KA := Lib.hid ((Kp.refl [] w).alloc (.cells #[.string (Txt l), .int .i64 0, .int .i64 0, .int .u8 0] 260))
 have RA := Lib.hid (show Rdr w.heap.size (Txt l) 0 0 0 (w.alloc (.cells #[.string (Txt l), .int .i64 0, .int .i64 0, .int .u8 0] 260)) from Blk.new w _ _)
 obtain ⟨r1, r2, x, hr⟩ : ∃ a b c, telR l 0 = (a, b, c) := ⟨_, _, _, rfl⟩
 have HI := Lib.hid (by unfold isNum; rw [hr] : isNum l = (decide (x = 0) && decide (r1 = l)))
 have HR := Lib.hid hr
 clear hr
 go_enter Tryz.func229, Tryz.ntmps229
 go_wp2_with fail
 refine (rtelephone_any w.heap.size 0 (Txt l) _ RA.out (Nat.zero_le _) (by rw [txt_size]; exact hl)).mono ?_
 rintro e w1 ⟨t, i', rfl, hi', hR1, hK1, hx⟩
 rw [txt_list, HR.out] at hR1 hx
 dsimp only at hR1 hx
 have HB := Lib.hid (KA.out.to_ hK1 (by intro y hy; simp at hy; subst hy; right; omega))
 have u3 := hR1.c3
 have Hx := Lib.hid hx
 clear hR1 hK1 hx hi'
 by_cases hx0 : x = 0
 ·subst hx0
  obtain ⟨ht, _⟩ := Hx.out (by trivial)
  subst ht
  have HF := Lib.hid (by rw [HI.out, str_beq, decide_eq_true rfl, Bool.true_and]; exact dec_beq _ _ : isNum l = ((Txt r1).toList == (Txt l).toList))
  go_wp2_with fail
  go_ret
  exact ⟨ret_bool HF.out.symm, HB.out⟩
 ·have bx : (x == 0) = false := beq_eq_false_iff_ne.2 hx0
  have HF := Lib.hid (by rw [HI.out, decide_eq_false hx0]; rfl : isNum l = false)
  clear hx0
  go_wp2_with fail
  go_ret
  exact ⟨ret_bool HF.out.symm, HB.out⟩
end Ad
end Go.Proofs.YtmmjfofdnpafkaaGreatDoor
namespace Go.Proofs.YtmmjfofdnpafkaaGreatDoor
namespace Ad
open Go.RowKit Lx
theorem num_ctl (l : List UInt8) (h : isNum l = true) : hasCtl l = false := by
 have key : ∀ c : Int, (digitI c || locC c) = true ∨ c = 43 → ctlI c = false := by
  intro c h
  unfold digitI locC at h
  unfold ctlI
  simp at h ⊢
  omega
 unfold hasCtl
 rw [List.any_eq_false]
 intro c hc
 rw [Bool.not_eq_true]
 rcases num_kinds l h with ⟨t, rfl, _, _, _, ht⟩ | ⟨_, _, _, _, hs⟩
 ·rcases List.mem_cons.1 hc with rfl | hc
  ·exact key _ (.inr rfl)
  ·exact key _ (.inl (by rw [ht c hc]; rfl))
 ·exact key _ (.inl (hs c hc))
theorem normal_no1 (S U H : List UInt8) (P : Int) (ps hs : List Prm) (h : (nmF 1 ps []).isSome = false) : normal ⟨S, U, H, P, ps, hs⟩ = none := by
 unfold normal
 rw [Option.isSome_eq_false_iff, Option.isNone_iff_eq_none] at h
 dsimp only
 rw [h]
theorem normal_no2 (S U H : List UInt8) (P : Int) (ps hs : List Prm) (h : (nmF 2 hs []).isSome = false) : normal ⟨S, U, H, P, ps, hs⟩ = none := by
 unfold normal
 rw [Option.isSome_eq_false_iff, Option.isNone_iff_eq_none] at h
 dsimp only
 rw [h]
 cases nmF 1 ps [] <;> rfl
theorem normal_in (S U H : List UInt8) (P : Int) (ps hs : List Prm) (h1 : (nmF 1 ps []).isSome = true) (h2 : (nmF 2 hs []).isSome = true) :
   normal ⟨S, U, H, P, ps, hs⟩ = (if lowL S = sipL ∨ lowL S = sipsL then
    (match hostO H with
     | some h => if 0 ≤ P ∧ P ≤ 65535 ∧ hasCtl U = false then some ⟨lowL S, U, h, P, srt (lowA ps), srt (lowA hs)⟩ else none
     | none => none)
   else if lowL S = telL then
    (if isNum U = true ∧ H = [] ∧ P = 0 ∧ hs = [] then some ⟨telL, U, [], 0, srt (lowA ps), []⟩ else none)
   else none) := by
 obtain ⟨p, hp⟩ := Option.isSome_iff_exists.1 h1
 obtain ⟨q, hq⟩ := Option.isSome_iff_exists.1 h2
 have e1 := nmF_low 1 ps p hp
 have e2 := nmF_low 2 hs q hq
 subst e1 e2
 unfold normal
 dsimp only
 rw [hp, hq]
 rfl
theorem normal_ctl (S U H : List UInt8) (P : Int) (ps hs : List Prm) (h1 : (nmF 1 ps []).isSome = true) (h2 : (nmF 2 hs []).isSome = true) (hc : hasCtl U = true) : normal ⟨S, U, H, P, ps, hs⟩ = none := by
 rw [normal_in S U H P ps hs h1 h2]
 by_cases hs1 : lowL S = sipL ∨ lowL S = sipsL
 ·rw [if_pos hs1]
  cases hostO H with
  | none => rfl
  | some h => dsimp only; rw [if_neg (by rw [hc]; simp)]
 ·rw [if_neg hs1]
  by_cases ht : lowL S = telL
  ·rw [if_pos ht, if_neg]
   intro h
   have := num_ctl U h.1
   rw [hc] at this
   cases this
  ·rw [if_neg ht]
set_option maxRecDepth 100000 in
set_option maxHeartbeats 8000000 in
theorem rNormal_any (B : Nat) (v : Value) (u : Uri) (w : World) (hU : UriIn B w v u) (hB : B ≤ w.heap.size) (hz : SzU u) :
   Calls Tryz.prog 136 #[v] w (NoP (normal u) w) := by
 obtain ⟨vp, vh, rfl, hp, hh⟩ := hU
 obtain ⟨a1, c1, rfl⟩ := hp.form
 obtain ⟨a2, c2, rfl⟩ := hh.form
 obtain ⟨S, U, H, P, ps, hs⟩ := u
 dsimp only at *
 have hzS := hz.scheme
 have hzU := hz.user
 have hzH := hz.host
 have hzp := hz.params
 have hzh := hz.heads
 dsimp only at hzS hzU hzH hzp hzh
 have hzps := Lib.hid (show SzP ps from hz.ps)
 have hzhs := Lib.hid (show SzP hs from hz.hs)
 have KA := Lib.hid ((Kp.refl [] w).alloc (.cells #[.string (Txt S), .string (Txt U), .string (Txt H), .int .i64 P, .slice a1 ps.length c1, .slice a2 hs.length c2] 24))
 have BA0 := Blk.new w 24 #[.string (Txt S), .string (Txt U), .string (Txt H), .int .i64 P, .slice a1 ps.length c1, .slice a2 hs.length c2]
 have hsA : (w.alloc (.cells #[.string (Txt S), .string (Txt U), .string (Txt H), .int .i64 P, .slice a1 ps.length c1, .slice a2 hs.length c2] 24)).heap.size = w.heap.size + 1 := by simp
 have BB0 := BA0.alloc (.cells zU 24)
 have ZB0 := Blk.new (w.alloc (.cells #[.string (Txt S), .string (Txt U), .string (Txt H), .int .i64 P, .slice a1 ps.length c1, .slice a2 hs.length c2] 24)) 24 zU
 rw [hsA] at ZB0
 have KB0 := KA.out.alloc (.cells zU 24)
 obtain ⟨w1, hw1⟩ : ∃ w1, (w.alloc (.cells #[.string (Txt S), .string (Txt U), .string (Txt H), .int .i64 P, .slice a1 ps.length c1, .slice a2 hs.length c2] 24)).alloc (.cells zU 24) = w1 := ⟨_, rfl⟩
 rw [hw1] at BB0 ZB0 KB0
 have B1 := Lib.hid BB0
 have Z1 := Lib.hid (show Zub w1 (w.heap.size + 1) from ZB0)
 have K1 := Lib.hid KB0
 have P1 := Lib.hid (hp.kp KB0 hB (by simp))
 have H1 := Lib.hid (hh.kp KB0 hB (by simp))
 have hs1 := KB0.size
 have b0 := BB0.cell 0
 have hne : ¬ w.heap.size + 1 = w.heap.size := by omega
 have hLo := Lib.hid (fun wz => rlowK S hzS wz)
 obtain ⟨L, hL⟩ : ∃ L, lowL S = L := ⟨_, rfl⟩
 have HL := Lib.hid hL
 rw [hL] at hLo
 clear hp hh BA0 ZB0 BB0 KB0 hsA hz hL
 go_enter Tryz.func136, Tryz.ntmps136
 go_wp2_with fail
 refine (hLo.out _).mono ?_
 rintro e w2 ⟨rfl, hK2⟩
 have B2 := Lib.hid (B1.out.kp hK2 (by simp))
 have Z2 := Lib.hid (show Zub _ _ from Z1.out.kp hK2 (by simp))
 have P2 := Lib.hid (P1.out.kp hK2 (by omega) (by simp))
 have H2 := Lib.hid (H1.out.kp hK2 (by omega) (by simp))
 have K2 := Lib.hid (K1.out.trans hK2)
 have hs2 := hK2.size
 clear hK2 b0
 have b0 := B2.out.cell 0
 have f0 := B2.out.frozen 0
 have hk3 := (Kp.refl [w.heap.size] w2).setCell (p := ⟨w.heap.size, 0, none⟩) (.inl (by simp)) (.string (Txt L))
 have B30 := show Blk (w2.setCell ⟨w.heap.size, 0, none⟩ (.string (Txt L))) w.heap.size 24 #[.string (Txt L), .string (Txt U), .string (Txt H), .int .i64 P, .slice a1 ps.length c1, .slice a2 hs.length c2] from B2.out.set_ 0 (.string (Txt L))
 have Z30 := show Zub (w2.setCell ⟨w.heap.size, 0, none⟩ (.string (Txt L))) (w.heap.size + 1) from Z2.out.kp hk3 (by simp)
 have K30 := K2.out.setCell (p := ⟨w.heap.size, 0, none⟩) (.inr (Nat.le_refl _)) (.string (Txt L))
 have P30 := P2.out.kp hk3 (by omega) (by intro y hy; rw [List.mem_singleton.1 hy]; exact hB)
 have H30 := H2.out.kp hk3 (by omega) (by intro y hy; rw [List.mem_singleton.1 hy]; exact hB)
 go_upto_region 2 with fail
 obtain ⟨w3, hw3⟩ : ∃ w3, w2.setCell ⟨w.heap.size, 0, none⟩ (.string (Txt L)) = w3 := ⟨_, rfl⟩
 rw [hw3] at hk3 B30 Z30 K30 P30 H30 ⊢
 have hs3 := hk3.size
 have B3 := Lib.hid B30
 have Z3 := Lib.hid Z30
 have K3 := Lib.hid K30
 have P3 := Lib.hid P30
 have H3 := Lib.hid H30
 clear hw3 hk3 B30 Z30 K30 P30 H30
 clear b0 f0
 have b4 := B3.out.cell 4
 have b5 := B3.out.cell 5
 have b1 := B3.out.cell 1
 obtain ⟨X1, hX1⟩ : ∃ X, (nmF 1 ps []).isSome = X := ⟨_, rfl⟩
 have HN1 := Lib.hid (by have h := rnamed_par B _ ps w3 P3.out (by omega) hzps.out hzp; rw [hX1] at h; exact h)
 have HX1 := Lib.hid hX1
 clear hX1
 cases X1
 ·have HF := Lib.hid (normal_no1 S U H P ps hs HX1.out)
  go_wp2_with fail
  refine HN1.out.mono ?_
  rintro e w4 ⟨rfl, hK4⟩
  have B4 := Lib.hid (B3.out.kp hK4 (by simp))
  have Z4 := Lib.hid (show Zub _ _ from Z3.out.kp hK4 (by simp))
  have K4 := Lib.hid (K3.out.trans hK4)
  have hs4 := hK4.size
  clear hK4 b4 b5 b1
  have d0 := Z4.out.cell 0
  have g0 := Z4.out.frozen 0
  have d1 := Z4.out.cell 1
  have g1 := Z4.out.frozen 1
  have d2 := Z4.out.cell 2
  have g2 := Z4.out.frozen 2
  have d3 := Z4.out.cell 3
  have g3 := Z4.out.frozen 3
  have d4 := Z4.out.cell 4
  have g4 := Z4.out.frozen 4
  have d5 := Z4.out.cell 5
  have g5 := Z4.out.frozen 5
  go_wp2_with fail
  refine bodyPost_ret (results_two rfl _ _ (w.heap.size + 1) 24 _ (0, 0) _ rfl (blk6 Z4.out _ _ _ _ _ _) Tryz.underlying24 rfl infoUri) rfl ?_
  rw [HF.out]
  exact ⟨_, rfl, UriIn.nil _ _, (kp6 K4.out (.inr (by omega)) _ _ _ _ _ _).nilBelow⟩
 go_wp2_with fail
 refine HN1.out.mono ?_
 rintro e w4 ⟨rfl, hK4⟩
 have B4 := Lib.hid (B3.out.kp hK4 (by simp))
 have Z4 := Lib.hid (show Zub _ _ from Z3.out.kp hK4 (by simp))
 have P4 := Lib.hid (P3.out.kp hK4 (by omega) (by simp))
 have H4 := Lib.hid (H3.out.kp hK4 (by omega) (by simp))
 have K4 := Lib.hid (K3.out.trans hK4)
 have hs4 := hK4.size
 clear hK4 b4 b5 b1 HN1
 have b5 := B4.out.cell 5
 have b1 := B4.out.cell 1
 obtain ⟨X2, hX2⟩ : ∃ X, (nmF 2 hs []).isSome = X := ⟨_, rfl⟩
 have HN2 := Lib.hid (by have h := rnamed_hds B _ hs w4 H4.out (by omega) hzhs.out hzh; rw [hX2] at h; exact h)
 have HX2 := Lib.hid hX2
 clear hX2
 cases X2
 ·have HF := Lib.hid (normal_no2 S U H P ps hs HX2.out)
  go_wp2_with fail
  refine HN2.out.mono ?_
  rintro e w5 ⟨rfl, hK5⟩
  have B5 := Lib.hid (B4.out.kp hK5 (by simp))
  have Z5 := Lib.hid (show Zub _ _ from Z4.out.kp hK5 (by simp))
  have K5 := Lib.hid (K4.out.trans hK5)
  have hs5 := hK5.size
  clear hK5 b5 b1
  have d0 := Z5.out.cell 0
  have g0 := Z5.out.frozen 0
  have d1 := Z5.out.cell 1
  have g1 := Z5.out.frozen 1
  have d2 := Z5.out.cell 2
  have g2 := Z5.out.frozen 2
  have d3 := Z5.out.cell 3
  have g3 := Z5.out.frozen 3
  have d4 := Z5.out.cell 4
  have g4 := Z5.out.frozen 4
  have d5 := Z5.out.cell 5
  have g5 := Z5.out.frozen 5
  go_wp2_with fail
  refine bodyPost_ret (results_two rfl _ _ (w.heap.size + 1) 24 _ (0, 0) _ rfl (blk6 Z5.out _ _ _ _ _ _) Tryz.underlying24 rfl infoUri) rfl ?_
  rw [HF.out]
  exact ⟨_, rfl, UriIn.nil _ _, (kp6 K5.out (.inr (by omega)) _ _ _ _ _ _).nilBelow⟩
 go_wp2_with fail
 refine HN2.out.mono ?_
 rintro e w5 ⟨rfl, hK5⟩
 have B5 := Lib.hid (B4.out.kp hK5 (by simp))
 have Z5 := Lib.hid (show Zub _ _ from Z4.out.kp hK5 (by simp))
 have P5 := Lib.hid (P4.out.kp hK5 (by omega) (by simp))
 have H5 := Lib.hid (H4.out.kp hK5 (by omega) (by simp))
 have K5 := Lib.hid (K4.out.trans hK5)
 have hs5 := hK5.size
 clear hK5 b5 b1 HN2
 have b1 := B5.out.cell 1
 obtain ⟨CC, hC⟩ : ∃ C, hasCtl U = C := ⟨_, rfl⟩
 have HP0 := Lib.hid (fun wz => rplainK U CC hC hzU wz)
 have HC := Lib.hid hC
 clear hC
 cases CC
 case true =>
  have HF := Lib.hid (normal_ctl S U H P ps hs HX1.out HX2.out HC.out)
  go_wp2_with fail
  refine (HP0.out _).mono ?_
  rintro e w6 ⟨rfl, hK6⟩
  have B6 := Lib.hid (B5.out.kp hK6 (by simp))
  have Z6 := Lib.hid (show Zub _ _ from Z5.out.kp hK6 (by simp))
  have K6 := Lib.hid (K5.out.trans hK6)
  have hs6 := hK6.size
  clear hK6 b1
  have d0 := Z6.out.cell 0
  have g0 := Z6.out.frozen 0
  have d1 := Z6.out.cell 1
  have g1 := Z6.out.frozen 1
  have d2 := Z6.out.cell 2
  have g2 := Z6.out.frozen 2
  have d3 := Z6.out.cell 3
  have g3 := Z6.out.frozen 3
  have d4 := Z6.out.cell 4
  have g4 := Z6.out.frozen 4
  have d5 := Z6.out.cell 5
  have g5 := Z6.out.frozen 5
  go_wp2_with fail
  refine bodyPost_ret (results_two rfl _ _ (w.heap.size + 1) 24 _ (0, 0) _ rfl (blk6 Z6.out _ _ _ _ _ _) Tryz.underlying24 rfl infoUri) rfl ?_
  rw [HF.out]
  exact ⟨_, rfl, UriIn.nil _ _, (kp6 K6.out (.inr (by omega)) _ _ _ _ _ _).nilBelow⟩
 have HV := Lib.hid (by have h := normal_in S U H P ps hs HX1.out HX2.out; rw [HL.out] at h; exact h)
 go_wp2_with fail
 refine (HP0.out _).mono ?_
 rintro e w6 ⟨rfl, hK6⟩
 have B6 := Lib.hid (B5.out.kp hK6 (by simp))
 have Z6 := Lib.hid (show Zub _ _ from Z5.out.kp hK6 (by simp))
 have P6 := Lib.hid (P5.out.kp hK6 (by omega) (by simp))
 have H6 := Lib.hid (H5.out.kp hK6 (by omega) (by simp))
 have K6 := Lib.hid (K5.out.trans hK6)
 have hs6 := hK6.size
 clear hK6 b1 HP0
 have b4 := B6.out.cell 4
 go_wp2_with fail
 refine (rlowered_any B _ ps w6 P6.out (by omega) hzps.out hzp).mono ?_
 rintro e w7 ⟨v7, rfl, hQ7, hK7⟩
 obtain ⟨A7, n7, rfl⟩ := hQ7.form
 obtain ⟨p7, hp7⟩ : ∃ x, srt (lowA ps) = x := ⟨_, rfl⟩
 have Hp7 := Lib.hid hp7
 rw [hp7] at hQ7 ⊢
 have Q7 := Lib.hid hQ7
 have B7 := Lib.hid (B6.out.kp hK7 (by simp))
 have Z7 := Lib.hid (show Zub _ _ from Z6.out.kp hK7 (by simp))
 have H7 := Lib.hid (H6.out.kp hK7 (by omega) (by simp))
 have K7 := Lib.hid (K6.out.trans hK7)
 have hs7 := hK7.size
 clear hK7 hQ7 hp7 b4
 have b4 := B7.out.cell 4
 have f4 := B7.out.frozen 4
 have hk8 := (Kp.refl [w.heap.size] w7).setCell (p := ⟨w.heap.size, 4, none⟩) (.inl (by simp)) (.slice A7 p7.length n7)
 have B80 := show Blk (w7.setCell ⟨w.heap.size, 4, none⟩ (.slice A7 p7.length n7)) w.heap.size 24 #[.string (Txt L), .string (Txt U), .string (Txt H), .int .i64 P, .slice A7 p7.length n7, .slice a2 hs.length c2] from B7.out.set_ 4 (.slice A7 p7.length n7)
 have Z80 := show Zub (w7.setCell ⟨w.heap.size, 4, none⟩ (.slice A7 p7.length n7)) (w.heap.size + 1) from Z7.out.kp hk8 (by simp)
 have K80 := K7.out.setCell (p := ⟨w.heap.size, 4, none⟩) (.inr (Nat.le_refl _)) (.slice A7 p7.length n7)
 have H80 := H7.out.kp hk8 (by omega) (by intro y hy; rw [List.mem_singleton.1 hy]; exact hB)
 have Q80 := Q7.out.grow hk8 (by intro y hy; rw [List.mem_singleton.1 hy]; exact NoB.urb B7.out)
 go_upto_region 5 with fail
 obtain ⟨w8, hw8⟩ : ∃ w8, w7.setCell ⟨w.heap.size, 4, none⟩ (.slice A7 p7.length n7) = w8 := ⟨_, rfl⟩
 rw [hw8] at hk8 B80 Z80 K80 H80 Q80 ⊢
 have hs8 := hk8.size
 have B8 := Lib.hid B80
 have Z8 := Lib.hid Z80
 have K8 := Lib.hid K80
 have H8 := Lib.hid H80
 have Q8 := Lib.hid Q80
 clear hw8 hk8 B80 Z80 K80 H80 Q80
 clear b4 f4
 have b5 := B8.out.cell 5
 go_wp2_with fail
 refine (rlowered_any B _ hs w8 H8.out (by omega) hzhs.out hzh).mono ?_
 rintro e w9 ⟨v9, rfl, hR9, hK9⟩
 obtain ⟨A9, n9, rfl⟩ := hR9.form
 obtain ⟨p9, hp9⟩ : ∃ x, srt (lowA hs) = x := ⟨_, rfl⟩
 have Hp9 := Lib.hid hp9
 rw [hp9] at hR9 ⊢
 have R9 := Lib.hid hR9
 have B9 := Lib.hid (B8.out.kp hK9 (by simp))
 have Z9 := Lib.hid (show Zub _ _ from Z8.out.kp hK9 (by simp))
 have Q9 := Lib.hid (Q8.out.grow hK9 (by intro y hy; cases hy))
 have K9 := Lib.hid (K8.out.trans hK9)
 have hs9 := hK9.size
 clear hK9 hR9 hp9 b5
 have b5 := B9.out.cell 5
 have f5 := B9.out.frozen 5
 have hk10 := (Kp.refl [w.heap.size] w9).setCell (p := ⟨w.heap.size, 5, none⟩) (.inl (by simp)) (.slice A9 p9.length n9)
 have B100 := show Blk (w9.setCell ⟨w.heap.size, 5, none⟩ (.slice A9 p9.length n9)) w.heap.size 24 #[.string (Txt L), .string (Txt U), .string (Txt H), .int .i64 P, .slice A7 p7.length n7, .slice A9 p9.length n9] from B9.out.set_ 5 (.slice A9 p9.length n9)
 have Z100 := show Zub (w9.setCell ⟨w.heap.size, 5, none⟩ (.slice A9 p9.length n9)) (w.heap.size + 1) from Z9.out.kp hk10 (by simp)
 have K100 := K9.out.setCell (p := ⟨w.heap.size, 5, none⟩) (.inr (Nat.le_refl _)) (.slice A9 p9.length n9)
 have Q100 := Q9.out.grow hk10 (by intro y hy; rw [List.mem_singleton.1 hy]; exact NoB.urb B9.out)
 have R100 := R9.out.grow hk10 (by intro y hy; rw [List.mem_singleton.1 hy]; exact NoB.urb B9.out)
 go_upto_region 6 with fail
 obtain ⟨w10, hw10⟩ : ∃ w10, w9.setCell ⟨w.heap.size, 5, none⟩ (.slice A9 p9.length n9) = w10 := ⟨_, rfl⟩
 rw [hw10] at hk10 B100 Z100 K100 Q100 R100 ⊢
 have hs10 := hk10.size
 have B10 := Lib.hid B100
 have Z10 := Lib.hid Z100
 have K10 := Lib.hid K100
 have Q10 := Lib.hid Q100
 have R10 := Lib.hid R100
 clear hw10 hk10 B100 Z100 K100 Q100 R100
 clear b5 f5
 have b0 := B10.out.cell 0
 have b2 := B10.out.cell 2
 have b3 := B10.out.cell 3
 have eL : (Txt L).toList = L := by rw [Lib.toList_data]; rfl
 by_cases hsip : L = sipL ∨ L = sipsL
 ·rcases hsip with hsip | hsip
  ·have bs1 : ((Txt L).toList == [115, 105, 112]) = true := by rw [eL, hsip]; rfl
   clear eL
   have HW := Lib.hid (HV.out.trans (if_pos (.inl hsip)))
   clear hsip
   obtain ⟨oh, hoh⟩ : ∃ o, hostO H = o := ⟨_, rfl⟩
   have HHo := Lib.hid (by have h := rHost_any (Txt H) w10 (by rw [txt_size]; exact hzH); rw [txt_list, hoh] at h; exact h)
   have HO := Lib.hid hoh
   clear hoh
   rcases oh with _ | h
   ·have HF := Lib.hid (HW.out.trans (by rw [HO.out]))
    go_wp2_with fail
    refine HHo.out.mono ?_
    rintro e w11 ⟨rfl, hB11⟩
    have hK11 := (Kp.refl [] w10).below hB11
    have B11 := Lib.hid (B10.out.kp hK11 (by simp))
    have Z11 := Lib.hid (show Zub _ _ from Z10.out.kp hK11 (by simp))
    have Q11 := Lib.hid (Q10.out.grow hK11 (by intro y hy; cases hy))
    have R11 := Lib.hid (R10.out.grow hK11 (by intro y hy; cases hy))
    have K11 := Lib.hid (K10.out.trans hK11)
    have hs11 := hK11.size
    clear hK11 hB11 b0 b2 b3
    have b3 := B11.out.cell 3
    have d0 := Z11.out.cell 0
    have g0 := Z11.out.frozen 0
    have d1 := Z11.out.cell 1
    have g1 := Z11.out.frozen 1
    have d2 := Z11.out.cell 2
    have g2 := Z11.out.frozen 2
    have d3 := Z11.out.cell 3
    have g3 := Z11.out.frozen 3
    have d4 := Z11.out.cell 4
    have g4 := Z11.out.frozen 4
    have d5 := Z11.out.cell 5
    have g5 := Z11.out.frozen 5
    go_wp2_with fail
    refine bodyPost_ret (results_two rfl _ _ (w.heap.size + 1) 24 _ (0, 0) _ rfl (blk6 Z11.out _ _ _ _ _ _) Tryz.underlying24 rfl infoUri) rfl ?_
    rw [HF.out]
    exact ⟨_, rfl, UriIn.nil _ _, (kp6 K11.out (.inr (by omega)) _ _ _ _ _ _).nilBelow⟩
   ·by_cases hp0 : 0 ≤ P
    ·by_cases hp1 : P ≤ 65535
     ·have HF := Lib.hid (HW.out.trans (by rw [HO.out]; dsimp only; rw [if_pos ⟨hp0, hp1, HC.out⟩, Hp7.out, Hp9.out]) : normal ⟨S, U, H, P, ps, hs⟩ = some ⟨L, U, h, P, p7, p9⟩)
      go_wp2_with fail
      refine HHo.out.mono ?_
      rintro e w11 ⟨rfl, hB11⟩
      have hK11 := (Kp.refl [] w10).below hB11
      have B11 := Lib.hid (B10.out.kp hK11 (by simp))
      have Z11 := Lib.hid (show Zub _ _ from Z10.out.kp hK11 (by simp))
      have Q11 := Lib.hid (Q10.out.grow hK11 (by intro y hy; cases hy))
      have R11 := Lib.hid (R10.out.grow hK11 (by intro y hy; cases hy))
      have K11 := Lib.hid (K10.out.trans hK11)
      have hs11 := hK11.size
      clear hK11 hB11 b0 b2 b3
      have b3 := B11.out.cell 3
      have b2 := B11.out.cell 2
      have f2 := B11.out.frozen 2
      have hk12 := (Kp.refl [w.heap.size] w11).setCell (p := ⟨w.heap.size, 2, none⟩) (.inl (by simp)) (.string (Txt h))
      have B120 := show Blk (w11.setCell ⟨w.heap.size, 2, none⟩ (.string (Txt h))) w.heap.size 24 #[.string (Txt L), .string (Txt U), .string (Txt h), .int .i64 P, .slice A7 p7.length n7, .slice A9 p9.length n9] from B11.out.set_ 2 (.string (Txt h))
      have Z120 := show Zub (w11.setCell ⟨w.heap.size, 2, none⟩ (.string (Txt h))) (w.heap.size + 1) from Z11.out.kp hk12 (by simp)
      have K120 := K11.out.setCell (p := ⟨w.heap.size, 2, none⟩) (.inr (Nat.le_refl _)) (.string (Txt h))
      have Q120 := Q11.out.grow hk12 (by intro y hy; rw [List.mem_singleton.1 hy]; exact NoB.urb B11.out)
      have R120 := R11.out.grow hk12 (by intro y hy; rw [List.mem_singleton.1 hy]; exact NoB.urb B11.out)
      go_upto_region 13 with fail
      obtain ⟨w12, hw12⟩ : ∃ w12, w11.setCell ⟨w.heap.size, 2, none⟩ (.string (Txt h)) = w12 := ⟨_, rfl⟩
      rw [hw12] at hk12 B120 Z120 K120 Q120 R120 ⊢
      have hs12 := hk12.size
      have B12 := Lib.hid B120
      have Z12 := Lib.hid Z120
      have K12 := Lib.hid K120
      have Q12 := Lib.hid Q120
      have R12 := Lib.hid R120
      clear hw12 hk12 B120 Z120 K120 Q120 R120
      clear b2 f2 b3
      have n0 := B12.out.cell 0
      have n1 := B12.out.cell 1
      have n2 := B12.out.cell 2
      have n3 := B12.out.cell 3
      have n4 := B12.out.cell 4
      have n5 := B12.out.cell 5
      have d0 := Z12.out.cell 0
      have g0 := Z12.out.frozen 0
      have d1 := Z12.out.cell 1
      have g1 := Z12.out.frozen 1
      have d2 := Z12.out.cell 2
      have g2 := Z12.out.frozen 2
      have d3 := Z12.out.cell 3
      have g3 := Z12.out.frozen 3
      have d4 := Z12.out.cell 4
      have g4 := Z12.out.frozen 4
      have d5 := Z12.out.cell 5
      have g5 := Z12.out.frozen 5
      have hu := Lib.hid (show UriIn w12.heap.size w12 (.agg #[.string (Txt L), .string (Txt U), .string (Txt h), .int .i64 P, .slice A7 p7.length n7, .slice A9 p9.length n9]) ⟨L, U, h, P, p7, p9⟩ from ⟨_, _, rfl, Q12.out, R12.out⟩)
      go_wp2_with fail
      refine bodyPost_ret (results_two rfl _ _ (w.heap.size + 1) 24 _ (0, 0) _ rfl (blk6 Z12.out _ _ _ _ _ _) Tryz.underlying24 rfl infoUri) rfl ?_
      rw [HF.out]
      exact no_fin (w.heap.size + 1) w w12 _ _ _ _ _ _ _ _ _ _ _ hu.out K12.out (by omega) Z12.out
     ·have HF := Lib.hid (HW.out.trans (by rw [HO.out]; dsimp only; rw [if_neg (fun hh => hp1 hh.2.1)]) : normal ⟨S, U, H, P, ps, hs⟩ = none)
      go_wp2_with fail
      refine HHo.out.mono ?_
      rintro e w11 ⟨rfl, hB11⟩
      have hK11 := (Kp.refl [] w10).below hB11
      have B11 := Lib.hid (B10.out.kp hK11 (by simp))
      have Z11 := Lib.hid (show Zub _ _ from Z10.out.kp hK11 (by simp))
      have Q11 := Lib.hid (Q10.out.grow hK11 (by intro y hy; cases hy))
      have R11 := Lib.hid (R10.out.grow hK11 (by intro y hy; cases hy))
      have K11 := Lib.hid (K10.out.trans hK11)
      have hs11 := hK11.size
      clear hK11 hB11 b0 b2 b3
      have b3 := B11.out.cell 3
      have d0 := Z11.out.cell 0
      have g0 := Z11.out.frozen 0
      have d1 := Z11.out.cell 1
      have g1 := Z11.out.frozen 1
      have d2 := Z11.out.cell 2
      have g2 := Z11.out.frozen 2
      have d3 := Z11.out.cell 3
      have g3 := Z11.out.frozen 3
      have d4 := Z11.out.cell 4
      have g4 := Z11.out.frozen 4
      have d5 := Z11.out.cell 5
      have g5 := Z11.out.frozen 5
      go_wp2_with fail
      refine bodyPost_ret (results_two rfl _ _ (w.heap.size + 1) 24 _ (0, 0) _ rfl (blk6 Z11.out _ _ _ _ _ _) Tryz.underlying24 rfl infoUri) rfl ?_
      rw [HF.out]
      exact ⟨_, rfl, UriIn.nil _ _, (kp6 K11.out (.inr (by omega)) _ _ _ _ _ _).nilBelow⟩
    ·have HF := Lib.hid (HW.out.trans (by rw [HO.out]; dsimp only; rw [if_neg (fun hh => hp0 hh.1)]) : normal ⟨S, U, H, P, ps, hs⟩ = none)
     go_wp2_with fail
     refine HHo.out.mono ?_
     rintro e w11 ⟨rfl, hB11⟩
     have hK11 := (Kp.refl [] w10).below hB11
     have B11 := Lib.hid (B10.out.kp hK11 (by simp))
     have Z11 := Lib.hid (show Zub _ _ from Z10.out.kp hK11 (by simp))
     have Q11 := Lib.hid (Q10.out.grow hK11 (by intro y hy; cases hy))
     have R11 := Lib.hid (R10.out.grow hK11 (by intro y hy; cases hy))
     have K11 := Lib.hid (K10.out.trans hK11)
     have hs11 := hK11.size
     clear hK11 hB11 b0 b2 b3
     have b3 := B11.out.cell 3
     have d0 := Z11.out.cell 0
     have g0 := Z11.out.frozen 0
     have d1 := Z11.out.cell 1
     have g1 := Z11.out.frozen 1
     have d2 := Z11.out.cell 2
     have g2 := Z11.out.frozen 2
     have d3 := Z11.out.cell 3
     have g3 := Z11.out.frozen 3
     have d4 := Z11.out.cell 4
     have g4 := Z11.out.frozen 4
     have d5 := Z11.out.cell 5
     have g5 := Z11.out.frozen 5
     go_wp2_with fail
     refine bodyPost_ret (results_two rfl _ _ (w.heap.size + 1) 24 _ (0, 0) _ rfl (blk6 Z11.out _ _ _ _ _ _) Tryz.underlying24 rfl infoUri) rfl ?_
     rw [HF.out]
     exact ⟨_, rfl, UriIn.nil _ _, (kp6 K11.out (.inr (by omega)) _ _ _ _ _ _).nilBelow⟩
  ·have bs1 : ((Txt L).toList == [115, 105, 112]) = false := by rw [eL, hsip]; rfl
   have bs2 : ((Txt L).toList == [115, 105, 112, 115]) = true := by rw [eL, hsip]; rfl
   clear eL
   have HW := Lib.hid (HV.out.trans (if_pos (.inr hsip)))
   clear hsip
   obtain ⟨oh, hoh⟩ : ∃ o, hostO H = o := ⟨_, rfl⟩
   have HHo := Lib.hid (by have h := rHost_any (Txt H) w10 (by rw [txt_size]; exact hzH); rw [txt_list, hoh] at h; exact h)
   have HO := Lib.hid hoh
   clear hoh
   rcases oh with _ | h
   ·have HF := Lib.hid (HW.out.trans (by rw [HO.out]))
    go_wp2_with fail
    refine HHo.out.mono ?_
    rintro e w11 ⟨rfl, hB11⟩
    have hK11 := (Kp.refl [] w10).below hB11
    have B11 := Lib.hid (B10.out.kp hK11 (by simp))
    have Z11 := Lib.hid (show Zub _ _ from Z10.out.kp hK11 (by simp))
    have Q11 := Lib.hid (Q10.out.grow hK11 (by intro y hy; cases hy))
    have R11 := Lib.hid (R10.out.grow hK11 (by intro y hy; cases hy))
    have K11 := Lib.hid (K10.out.trans hK11)
    have hs11 := hK11.size
    clear hK11 hB11 b0 b2 b3
    have b3 := B11.out.cell 3
    have d0 := Z11.out.cell 0
    have g0 := Z11.out.frozen 0
    have d1 := Z11.out.cell 1
    have g1 := Z11.out.frozen 1
    have d2 := Z11.out.cell 2
    have g2 := Z11.out.frozen 2
    have d3 := Z11.out.cell 3
    have g3 := Z11.out.frozen 3
    have d4 := Z11.out.cell 4
    have g4 := Z11.out.frozen 4
    have d5 := Z11.out.cell 5
    have g5 := Z11.out.frozen 5
    go_wp2_with fail
    refine bodyPost_ret (results_two rfl _ _ (w.heap.size + 1) 24 _ (0, 0) _ rfl (blk6 Z11.out _ _ _ _ _ _) Tryz.underlying24 rfl infoUri) rfl ?_
    rw [HF.out]
    exact ⟨_, rfl, UriIn.nil _ _, (kp6 K11.out (.inr (by omega)) _ _ _ _ _ _).nilBelow⟩
   ·by_cases hp0 : 0 ≤ P
    ·by_cases hp1 : P ≤ 65535
     ·have HF := Lib.hid (HW.out.trans (by rw [HO.out]; dsimp only; rw [if_pos ⟨hp0, hp1, HC.out⟩, Hp7.out, Hp9.out]) : normal ⟨S, U, H, P, ps, hs⟩ = some ⟨L, U, h, P, p7, p9⟩)
      go_wp2_with fail
      refine HHo.out.mono ?_
      rintro e w11 ⟨rfl, hB11⟩
      have hK11 := (Kp.refl [] w10).below hB11
      have B11 := Lib.hid (B10.out.kp hK11 (by simp))
      have Z11 := Lib.hid (show Zub _ _ from Z10.out.kp hK11 (by simp))
      have Q11 := Lib.hid (Q10.out.grow hK11 (by intro y hy; cases hy))
      have R11 := Lib.hid (R10.out.grow hK11 (by intro y hy; cases hy))
      have K11 := Lib.hid (K10.out.trans hK11)
      have hs11 := hK11.size
      clear hK11 hB11 b0 b2 b3
      have b3 := B11.out.cell 3
      have b2 := B11.out.cell 2
      have f2 := B11.out.frozen 2
      have hk12 := (Kp.refl [w.heap.size] w11).setCell (p := ⟨w.heap.size, 2, none⟩) (.inl (by simp)) (.string (Txt h))
      have B120 := show Blk (w11.setCell ⟨w.heap.size, 2, none⟩ (.string (Txt h))) w.heap.size 24 #[.string (Txt L), .string (Txt U), .string (Txt h), .int .i64 P, .slice A7 p7.length n7, .slice A9 p9.length n9] from B11.out.set_ 2 (.string (Txt h))
      have Z120 := show Zub (w11.setCell ⟨w.heap.size, 2, none⟩ (.string (Txt h))) (w.heap.size + 1) from Z11.out.kp hk12 (by simp)
      have K120 := K11.out.setCell (p := ⟨w.heap.size, 2, none⟩) (.inr (Nat.le_refl _)) (.string (Txt h))
      have Q120 := Q11.out.grow hk12 (by intro y hy; rw [List.mem_singleton.1 hy]; exact NoB.urb B11.out)
      have R120 := R11.out.grow hk12 (by intro y hy; rw [List.mem_singleton.1 hy]; exact NoB.urb B11.out)
      go_upto_region 13 with fail
      obtain ⟨w12, hw12⟩ : ∃ w12, w11.setCell ⟨w.heap.size, 2, none⟩ (.string (Txt h)) = w12 := ⟨_, rfl⟩
      rw [hw12] at hk12 B120 Z120 K120 Q120 R120 ⊢
      have hs12 := hk12.size
      have B12 := Lib.hid B120
      have Z12 := Lib.hid Z120
      have K12 := Lib.hid K120
      have Q12 := Lib.hid Q120
      have R12 := Lib.hid R120
      clear hw12 hk12 B120 Z120 K120 Q120 R120
      clear b2 f2 b3
      have n0 := B12.out.cell 0
      have n1 := B12.out.cell 1
      have n2 := B12.out.cell 2
      have n3 := B12.out.cell 3
      have n4 := B12.out.cell 4
      have n5 := B12.out.cell 5
      have d0 := Z12.out.cell 0
      have g0 := Z12.out.frozen 0
      have d1 := Z12.out.cell 1
      have g1 := Z12.out.frozen 1
      have d2 := Z12.out.cell 2
      have g2 := Z12.out.frozen 2
      have d3 := Z12.out.cell 3
      have g3 := Z12.out.frozen 3
      have d4 := Z12.out.cell 4
      have g4 := Z12.out.frozen 4
      have d5 := Z12.out.cell 5
      have g5 := Z12.out.frozen 5
      have hu := Lib.hid (show UriIn w12.heap.size w12 (.agg #[.string (Txt L), .string (Txt U), .string (Txt h), .int .i64 P, .slice A7 p7.length n7, .slice A9 p9.length n9]) ⟨L, U, h, P, p7, p9⟩ from ⟨_, _, rfl, Q12.out, R12.out⟩)
      go_wp2_with fail
      refine bodyPost_ret (results_two rfl _ _ (w.heap.size + 1) 24 _ (0, 0) _ rfl (blk6 Z12.out _ _ _ _ _ _) Tryz.underlying24 rfl infoUri) rfl ?_
      rw [HF.out]
      exact no_fin (w.heap.size + 1) w w12 _ _ _ _ _ _ _ _ _ _ _ hu.out K12.out (by omega) Z12.out
     ·have HF := Lib.hid (HW.out.trans (by rw [HO.out]; dsimp only; rw [if_neg (fun hh => hp1 hh.2.1)]) : normal ⟨S, U, H, P, ps, hs⟩ = none)
      go_wp2_with fail
      refine HHo.out.mono ?_
      rintro e w11 ⟨rfl, hB11⟩
      have hK11 := (Kp.refl [] w10).below hB11
      have B11 := Lib.hid (B10.out.kp hK11 (by simp))
      have Z11 := Lib.hid (show Zub _ _ from Z10.out.kp hK11 (by simp))
      have Q11 := Lib.hid (Q10.out.grow hK11 (by intro y hy; cases hy))
      have R11 := Lib.hid (R10.out.grow hK11 (by intro y hy; cases hy))
      have K11 := Lib.hid (K10.out.trans hK11)
      have hs11 := hK11.size
      clear hK11 hB11 b0 b2 b3
      have b3 := B11.out.cell 3
      have d0 := Z11.out.cell 0
      have g0 := Z11.out.frozen 0
      have d1 := Z11.out.cell 1
      have g1 := Z11.out.frozen 1
      have d2 := Z11.out.cell 2
      have g2 := Z11.out.frozen 2
      have d3 := Z11.out.cell 3
      have g3 := Z11.out.frozen 3
      have d4 := Z11.out.cell 4
      have g4 := Z11.out.frozen 4
      have d5 := Z11.out.cell 5
      have g5 := Z11.out.frozen 5
      go_wp2_with fail
      refine bodyPost_ret (results_two rfl _ _ (w.heap.size + 1) 24 _ (0, 0) _ rfl (blk6 Z11.out _ _ _ _ _ _) Tryz.underlying24 rfl infoUri) rfl ?_
      rw [HF.out]
      exact ⟨_, rfl, UriIn.nil _ _, (kp6 K11.out (.inr (by omega)) _ _ _ _ _ _).nilBelow⟩
    ·have HF := Lib.hid (HW.out.trans (by rw [HO.out]; dsimp only; rw [if_neg (fun hh => hp0 hh.1)]) : normal ⟨S, U, H, P, ps, hs⟩ = none)
     go_wp2_with fail
     refine HHo.out.mono ?_
     rintro e w11 ⟨rfl, hB11⟩
     have hK11 := (Kp.refl [] w10).below hB11
     have B11 := Lib.hid (B10.out.kp hK11 (by simp))
     have Z11 := Lib.hid (show Zub _ _ from Z10.out.kp hK11 (by simp))
     have Q11 := Lib.hid (Q10.out.grow hK11 (by intro y hy; cases hy))
     have R11 := Lib.hid (R10.out.grow hK11 (by intro y hy; cases hy))
     have K11 := Lib.hid (K10.out.trans hK11)
     have hs11 := hK11.size
     clear hK11 hB11 b0 b2 b3
     have b3 := B11.out.cell 3
     have d0 := Z11.out.cell 0
     have g0 := Z11.out.frozen 0
     have d1 := Z11.out.cell 1
     have g1 := Z11.out.frozen 1
     have d2 := Z11.out.cell 2
     have g2 := Z11.out.frozen 2
     have d3 := Z11.out.cell 3
     have g3 := Z11.out.frozen 3
     have d4 := Z11.out.cell 4
     have g4 := Z11.out.frozen 4
     have d5 := Z11.out.cell 5
     have g5 := Z11.out.frozen 5
     go_wp2_with fail
     refine bodyPost_ret (results_two rfl _ _ (w.heap.size + 1) 24 _ (0, 0) _ rfl (blk6 Z11.out _ _ _ _ _ _) Tryz.underlying24 rfl infoUri) rfl ?_
     rw [HF.out]
     exact ⟨_, rfl, UriIn.nil _ _, (kp6 K11.out (.inr (by omega)) _ _ _ _ _ _).nilBelow⟩
 ·have bs1 : ((Txt L).toList == [115, 105, 112]) = false := by rw [eL, beq_eq_false_iff_ne]; exact fun h => hsip (.inl h)
  have bs2 : ((Txt L).toList == [115, 105, 112, 115]) = false := by rw [eL, beq_eq_false_iff_ne]; exact fun h => hsip (.inr h)
  have HW := Lib.hid (HV.out.trans (if_neg hsip))
  by_cases htel : L = telL
  ·have bt : ((Txt L).toList == [116, 101, 108]) = true := by rw [eL, htel]; rfl
   have HW2 := Lib.hid (HW.out.trans (if_pos htel))
   have b1 := B10.out.cell 1
   have b5 := B10.out.cell 5
   have hl9 : p9.length = hs.length := by rw [← Hp9.out, (srt_perm _).length_eq, lowA_len]
   obtain ⟨EH, hEH⟩ : ∃ T, decide (H = []) = T := ⟨_, rfl⟩
   have bH : ((Txt H).toList == ([] : List UInt8)) = EH := (emp_D _).trans hEH
   obtain ⟨Z0, hZ0⟩ : ∃ T, (P == 0) = T := ⟨_, rfl⟩
   obtain ⟨Z9, hZ9⟩ : ∃ T, ((p9.length : Int) == 0) = T := ⟨_, rfl⟩
   obtain ⟨IN, hIN⟩ : ∃ T, isNum U = T := ⟨_, rfl⟩
   have HTl := Lib.hid (by have h := rtelephoned_any U w10 hzU; rw [hIN] at h; exact h)
   have HcH := Lib.hid hEH
   have HcP := Lib.hid hZ0
   have HcN := Lib.hid (show decide (hs.length = 0) = Z9 from by rw [← hZ9, ← hl9, Bool.eq_iff_iff]; simp)
   have HcI := Lib.hid hIN
   have HtL := Lib.hid htel
   clear eL hsip htel hl9 hEH hIN
   cases EH
   ·have HF := Lib.hid (HW2.out.trans (if_neg (fun hh => of_decide_eq_false HcH.out hh.2.1)))
    have d0 := Z10.out.cell 0
    have g0 := Z10.out.frozen 0
    have d1 := Z10.out.cell 1
    have g1 := Z10.out.frozen 1
    have d2 := Z10.out.cell 2
    have g2 := Z10.out.frozen 2
    have d3 := Z10.out.cell 3
    have g3 := Z10.out.frozen 3
    have d4 := Z10.out.cell 4
    have g4 := Z10.out.frozen 4
    have d5 := Z10.out.cell 5
    have g5 := Z10.out.frozen 5
    go_wp2_with fail
    refine bodyPost_ret (results_two rfl _ _ (w.heap.size + 1) 24 _ (0, 0) _ rfl (blk6 Z10.out _ _ _ _ _ _) Tryz.underlying24 rfl infoUri) rfl ?_
    rw [HF.out]
    exact ⟨_, rfl, UriIn.nil _ _, (kp6 K10.out (.inr (by omega)) _ _ _ _ _ _).nilBelow⟩
   ·cases Z0
    ·have HF := Lib.hid (HW2.out.trans (if_neg (fun hh => (beq_eq_false_iff_ne.1 HcP.out) hh.2.2.1)))
     have d0 := Z10.out.cell 0
     have g0 := Z10.out.frozen 0
     have d1 := Z10.out.cell 1
     have g1 := Z10.out.frozen 1
     have d2 := Z10.out.cell 2
     have g2 := Z10.out.frozen 2
     have d3 := Z10.out.cell 3
     have g3 := Z10.out.frozen 3
     have d4 := Z10.out.cell 4
     have g4 := Z10.out.frozen 4
     have d5 := Z10.out.cell 5
     have g5 := Z10.out.frozen 5
     go_wp2_with fail
     refine bodyPost_ret (results_two rfl _ _ (w.heap.size + 1) 24 _ (0, 0) _ rfl (blk6 Z10.out _ _ _ _ _ _) Tryz.underlying24 rfl infoUri) rfl ?_
     rw [HF.out]
     exact ⟨_, rfl, UriIn.nil _ _, (kp6 K10.out (.inr (by omega)) _ _ _ _ _ _).nilBelow⟩
    ·cases Z9
     ·have HF := Lib.hid (HW2.out.trans (if_neg (fun hh => of_decide_eq_false HcN.out (by rw [hh.2.2.2]; rfl))))
      have d0 := Z10.out.cell 0
      have g0 := Z10.out.frozen 0
      have d1 := Z10.out.cell 1
      have g1 := Z10.out.frozen 1
      have d2 := Z10.out.cell 2
      have g2 := Z10.out.frozen 2
      have d3 := Z10.out.cell 3
      have g3 := Z10.out.frozen 3
      have d4 := Z10.out.cell 4
      have g4 := Z10.out.frozen 4
      have d5 := Z10.out.cell 5
      have g5 := Z10.out.frozen 5
      go_wp2_with fail
      refine bodyPost_ret (results_two rfl _ _ (w.heap.size + 1) 24 _ (0, 0) _ rfl (blk6 Z10.out _ _ _ _ _ _) Tryz.underlying24 rfl infoUri) rfl ?_
      rw [HF.out]
      exact ⟨_, rfl, UriIn.nil _ _, (kp6 K10.out (.inr (by omega)) _ _ _ _ _ _).nilBelow⟩
     ·cases IN
      ·have HF := Lib.hid (HW2.out.trans (if_neg (fun hh => by have h2 := hh.1; rw [HcI.out] at h2; cases h2)))
       go_wp2_with fail
       refine HTl.out.mono ?_
       rintro e w11 ⟨rfl, hK11⟩
       have B11 := Lib.hid (B10.out.kp hK11 (by simp))
       have Z11 := Lib.hid (show Zub _ _ from Z10.out.kp hK11 (by simp))
       have K11 := Lib.hid (K10.out.trans hK11)
       have hs11 := hK11.size
       clear hK11 b0 b1 b2 b3 b5
       have d0 := Z11.out.cell 0
       have g0 := Z11.out.frozen 0
       have d1 := Z11.out.cell 1
       have g1 := Z11.out.frozen 1
       have d2 := Z11.out.cell 2
       have g2 := Z11.out.frozen 2
       have d3 := Z11.out.cell 3
       have g3 := Z11.out.frozen 3
       have d4 := Z11.out.cell 4
       have g4 := Z11.out.frozen 4
       have d5 := Z11.out.cell 5
       have g5 := Z11.out.frozen 5
       go_wp2_with fail
       refine bodyPost_ret (results_two rfl _ _ (w.heap.size + 1) 24 _ (0, 0) _ rfl (blk6 Z11.out _ _ _ _ _ _) Tryz.underlying24 rfl infoUri) rfl ?_
       rw [HF.out]
       exact ⟨_, rfl, UriIn.nil _ _, (kp6 K11.out (.inr (by omega)) _ _ _ _ _ _).nilBelow⟩
      ·have hH0 := of_decide_eq_true HcH.out
       have hP0 : P = 0 := by have := HcP.out; simpa using this
       have hs0 : hs = [] := List.eq_nil_of_length_eq_zero (of_decide_eq_true HcN.out)
       have h90 : p9 = [] := by rw [← Hp9.out, hs0]; rfl
       have HF := Lib.hid (HW2.out.trans (by rw [if_pos ⟨HcI.out, hH0, hP0, hs0⟩, Hp7.out, ← HtL.out, ← hH0, ← hP0, ← h90]) : normal ⟨S, U, H, P, ps, hs⟩ = some ⟨L, U, H, P, p7, p9⟩)
       clear hH0 hP0 hs0 h90
       go_wp2_with fail
       refine HTl.out.mono ?_
       rintro e w11 ⟨rfl, hK11⟩
       have B11 := Lib.hid (B10.out.kp hK11 (by simp))
       have Z11 := Lib.hid (show Zub _ _ from Z10.out.kp hK11 (by simp))
       have Q11 := Lib.hid (Q10.out.grow hK11 (by intro y hy; cases hy))
       have R11 := Lib.hid (R10.out.grow hK11 (by intro y hy; cases hy))
       have K11 := Lib.hid (K10.out.trans hK11)
       have hs11 := hK11.size
       clear hK11 b0 b1 b2 b3 b5
       have n0 := B11.out.cell 0
       have n1 := B11.out.cell 1
       have n2 := B11.out.cell 2
       have n3 := B11.out.cell 3
       have n4 := B11.out.cell 4
       have n5 := B11.out.cell 5
       have d0 := Z11.out.cell 0
       have g0 := Z11.out.frozen 0
       have d1 := Z11.out.cell 1
       have g1 := Z11.out.frozen 1
       have d2 := Z11.out.cell 2
       have g2 := Z11.out.frozen 2
       have d3 := Z11.out.cell 3
       have g3 := Z11.out.frozen 3
       have d4 := Z11.out.cell 4
       have g4 := Z11.out.frozen 4
       have d5 := Z11.out.cell 5
       have g5 := Z11.out.frozen 5
       have hu := Lib.hid (show UriIn w11.heap.size w11 (.agg #[.string (Txt L), .string (Txt U), .string (Txt H), .int .i64 P, .slice A7 p7.length n7, .slice A9 p9.length n9]) ⟨L, U, H, P, p7, p9⟩ from ⟨_, _, rfl, Q11.out, R11.out⟩)
       go_wp2_with fail
       refine bodyPost_ret (results_two rfl _ _ (w.heap.size + 1) 24 _ (0, 0) _ rfl (blk6 Z11.out _ _ _ _ _ _) Tryz.underlying24 rfl infoUri) rfl ?_
       rw [HF.out]
       exact no_fin (w.heap.size + 1) w w11 _ _ _ _ _ _ _ _ _ _ _ hu.out K11.out (by omega) Z11.out
  ·have bt : ((Txt L).toList == [116, 101, 108]) = false := by rw [eL, beq_eq_false_iff_ne]; exact htel
   have HF := Lib.hid (HW.out.trans (if_neg htel))
   clear eL hsip htel
   have d0 := Z10.out.cell 0
   have g0 := Z10.out.frozen 0
   have d1 := Z10.out.cell 1
   have g1 := Z10.out.frozen 1
   have d2 := Z10.out.cell 2
   have g2 := Z10.out.frozen 2
   have d3 := Z10.out.cell 3
   have g3 := Z10.out.frozen 3
   have d4 := Z10.out.cell 4
   have g4 := Z10.out.frozen 4
   have d5 := Z10.out.cell 5
   have g5 := Z10.out.frozen 5
   go_wp2_with fail
   refine bodyPost_ret (results_two rfl _ _ (w.heap.size + 1) 24 _ (0, 0) _ rfl (blk6 Z10.out _ _ _ _ _ _) Tryz.underlying24 rfl infoUri) rfl ?_
   rw [HF.out]
   exact ⟨_, rfl, UriIn.nil _ _, (kp6 K10.out (.inr (by omega)) _ _ _ _ _ _).nilBelow⟩
end Ad
end Go.Proofs.YtmmjfofdnpafkaaGreatDoor
namespace Go.Proofs.YtmmjfofdnpafkaaGreatDoor
namespace Ad
open Go.RowKit Lx
theorem wrt_snoc2 (f a : UInt8) (cls : Int) (p : Prm) : ∀ t : List Prm, wrt f a cls (t ++ [p]) = wrt f a cls t ++ ((if t = [] then f else a) :: prP cls p) := by
 intro t
 induction t generalizing f with
 | nil => simp [wrt]
 | cons q t ih =>
   rw [List.cons_append, wrt, wrt, ih a, if_neg (show ¬ (q :: t) = [] from by simp), ite_self]
   simp [List.append_assoc]
theorem prP_len (cls : Int) (q1 q2 : List UInt8) (q3 : Bool) (h1 : q1.length ≤ 2097152) (h2 : q2.length ≤ 2097152) : (prP cls (q1, q2, q3)).length ≤ 12582913 := by
 have e1 := (escp_len cls q1).2
 have e2 := (escp_len cls q2).2
 unfold prP
 dsimp only
 cases q3
 ·simp only [Bool.false_eq_true, if_false, List.length_append, List.length_nil]; omega
 ·simp only [if_true, List.length_append, List.length_cons]; omega
set_option maxRecDepth 100000 in
set_option maxHeartbeats 8000000 in
theorem rwrite_any (f a : UInt8) (cls : Int) (B : Nat) (v : Value) (l : List Prm) (w : World) (hP : PmIn B w v l) (hB : B ≤ w.heap.size) (hz : SzP l) (hl : l.length ≤ 16) :
   Calls Tryz.prog 137 #[v, .string (Txt [f]), .string (Txt [a]), .int .i64 cls] w (TxK (wrt f a cls l) w) := by
 have HPm := Lib.hid hP
 obtain ⟨A, c, rfl⟩ := hP.form
 clear hP
 have HE := Lib.hid (fun (q : List UInt8) (hq : q.length ≤ 2097152) wz => (by have h := rEscape_any cls (Txt q) wz (by rw [txt_size]; omega); rw [txt_list] at h; exact h : Calls Tryz.prog 138 #[.string (Txt q), .int .i64 cls] wz (RetNew (escpL cls q) wz)))
 go_enter Tryz.func137, Tryz.ntmps137
 go_wp2_with fail
 go_loopg [9, 10, 11] (l.length + 1) (fun gg out mk i wr => ∃ (j : Nat) (X : List UInt8), X = wrt f a cls (l.take j) ∧ X.length ≤ j * 12582914 ∧ out = .string (Txt X) ∧ mk = .string (Txt [if j = 0 then f else a]) ∧ j ≤ l.length ∧ l.length - j < gg ∧ i = .int .i64 j ∧ Kp [] w wr)
 case atStart => exact ⟨0, [], by simp [wrt], by simp, rfl, rfl, by omega, by omega, rfl, Kp.refl _ _⟩
 case round =>
  obtain ⟨j, X, hX, hXl, rfl, rfl, hj, hg, rfl, hK⟩ := hrel
  obtain ⟨w0, rfl⟩ : ∃ w0, w0 = wr := ⟨_, rfl⟩
  have HX := Lib.hid hX
  have HK := Lib.hid hK
  have hzr := hK.size
  have PLr := HPm.out.kp hK hB (by simp)
  clear hK hX
  obtain ⟨m, hmk⟩ : ∃ m, (if j = 0 then f else a) = m := ⟨_, rfl⟩
  rw [hmk]
  by_cases hlt : j < l.length
  ·obtain ⟨q1, q2, q3, hq⟩ : ∃ a b c, l[j]! = (a, b, c) := ⟨_, _, _, rfl⟩
   have hm : (q1, q2, q3) ∈ l := by rw [← hq, getElem!_pos l j hlt]; exact List.getElem_mem hlt
   obtain ⟨hq1, hq2⟩ := hz _ hm
   dsimp only at hq1 hq2
   have hsome : l[j]? = some (q1, q2, q3) := by rw [← hq]; exact getD_some l j hlt
   have HSn := Lib.hid (by
    have h := wrt_snoc2 f a cls (q1, q2, q3) (l.take j)
    rw [← HX.out] at h
    have e : l.take (j + 1) = l.take j ++ [(q1, q2, q3)] := by rw [List.take_add_one, hsome]; rfl
    have e2 : (if l.take j = [] then f else a) = m := by
     rw [← hmk]
     by_cases h0 : j = 0
     ·rw [if_pos h0, if_pos (by rw [h0]; rfl)]
     ·rw [if_neg h0, if_neg (by intro h1; have h2 := congrArg List.length h1; rw [List.length_take, List.length_nil] at h2; omega)]
    rw [← e, e2] at h
    exact h : wrt f a cls (l.take (j + 1)) = X ++ (m :: prP cls (q1, q2, q3)))
   obtain ⟨_, c', rfl, hc, ⟨h0, hv⟩ | ⟨bl, o, hv, hbl, hcell⟩⟩ := PLr
   ·omega
   ·injection hv with hA _ hc2
    subst hA
    subst hc2
    have c0 : w0.cell? ⟨bl, o + j * 3, none⟩ = some (.string (Txt q1)) := hcell _ _ (pcl_at l j _ hsome 0 _ rfl)
    have c1 : w0.cell? ⟨bl, o + j * 3 + 1, none⟩ = some (.string (Txt q2)) := by rw [Nat.add_assoc]; exact hcell _ _ (pcl_at l j _ hsome 1 _ rfl)
    have c2 : w0.cell? ⟨bl, o + j * 3 + 2, none⟩ = some (.bool q3) := by rw [Nat.add_assoc]; exact hcell _ _ (pcl_at l j _ hsome 2 _ rfl)
    have hb0 : bl < w0.heap.size := by omega
    have hpl := prP_len cls q1 q2 q3 hq1 hq2
    have e1l := (escp_len cls q1).2
    have e2l := (escp_len cls q2).2
    have HE1 := Lib.hid (fun wz => HE.out q1 hq1 wz)
    have HE2 := Lib.hid (fun wz => HE.out q2 hq2 wz)
    obtain ⟨E1, hE1⟩ : ∃ x, escpL cls q1 = x := ⟨_, rfl⟩
    obtain ⟨E2, hE2⟩ : ∃ x, escpL cls q2 = x := ⟨_, rfl⟩
    rw [hE1] at HE1 e1l
    rw [hE2] at HE2 e2l
    have HPr := Lib.hid (by unfold prP; dsimp only; rw [hE1, hE2] : prP cls (q1, q2, q3) = E1 ++ (if q3 then 61 :: E2 else []))
    have sX : (Txt X).size ≤ 201326624 := by rw [txt_size]; omega
    have sM : (Txt [m]).size ≤ 1 := by rw [txt_size]; exact Nat.le_refl _
    have sA : (Txt X ++ Txt [m]).size ≤ 201326625 := by rw [ByteArray.size_append]; omega
    have sE1 : (Txt E1).size ≤ 6291456 := by rw [txt_size]; omega
    have sE2 : (Txt E2).size ≤ 6291456 := by rw [txt_size]; omega
    have sB : (Txt X ++ Txt [m] ++ Txt E1).size ≤ 207618081 := by rw [ByteArray.size_append]; omega
    have HcB := Lib.hid ((congrArg (· ++ Txt E1) (cat_txt X [m])).trans (cat_txt (X ++ [m]) E1) : Txt X ++ Txt [m] ++ Txt E1 = Txt (X ++ [m] ++ E1))
    have hmk2 := Lib.hid (show (if j + 1 = 0 then f else a) = a from if_neg (by omega))
    clear hcell hc hq hm hsome hE1 hE2 hmk
    cases q3
    ·have HT2 := Lib.hid (HSn.out.trans (by rw [HPr.out]; simp) : wrt f a cls (l.take (j + 1)) = X ++ [m] ++ E1)
     have hlen : (X ++ [m] ++ E1).length ≤ (j + 1) * 12582914 := by simp only [List.length_append, List.length_cons, List.length_nil]; omega
     go_wp2_with fail
     refine (HE1.out _).mono ?_
     rintro e w2 ⟨rfl, hB2⟩
     have hK2 := (Kp.refl [] w0).below hB2
     have K2 := Lib.hid (HK.out.trans hK2)
     have d2 := (hK2.cell (p := ⟨bl, o + j * 3 + 2, none⟩) hb0 (by simp)).trans c2
     clear hK2 hB2 c0 c1 c2
     rw [show (⟨E1.toArray⟩ : ByteArray) = Txt E1 from rfl]
     go_wp2_with fail
     go_roundg (l.length - j)
     case measure => omega
     case rel => exact ⟨j + 1, X ++ [m] ++ E1, HT2.out.symm, hlen, congrArg Value.string HcB.out, by rw [hmk2.out], by omega, by omega, by go_num, K2.out⟩
    ·have HT2 := Lib.hid (HSn.out.trans (by rw [HPr.out]; simp) : wrt f a cls (l.take (j + 1)) = X ++ [m] ++ E1 ++ [61] ++ E2)
     have hlen : (X ++ [m] ++ E1 ++ [61] ++ E2).length ≤ (j + 1) * 12582914 := by simp only [List.length_append, List.length_cons, List.length_nil]; omega
     go_wp2_with fail
     refine (HE1.out _).mono ?_
     rintro e w2 ⟨rfl, hB2⟩
     have hK2 := (Kp.refl [] w0).below hB2
     have K2 := Lib.hid (HK.out.trans hK2)
     have d2 := (hK2.cell (p := ⟨bl, o + j * 3 + 2, none⟩) hb0 (by simp)).trans c2
     have d1 := (hK2.cell (p := ⟨bl, o + j * 3 + 1, none⟩) hb0 (by simp)).trans c1
     clear hK2 hB2 c0 c1 c2
     rw [show (⟨E1.toArray⟩ : ByteArray) = Txt E1 from rfl]
     obtain ⟨Y, hY⟩ : ∃ Y, X ++ [m] ++ E1 = Y := ⟨_, rfl⟩
     have hcB := HcB.out
     rw [hY] at hcB
     have sY : (Txt Y).size ≤ 207618081 := by rw [← hcB]; exact sB
     have sC : (Txt Y ++ (⟨#[61]⟩ : ByteArray)).size ≤ 207618082 := by rw [ByteArray.size_append]; have : (⟨#[61]⟩ : ByteArray).size = 1 := rfl; omega
     have sD : (Txt Y ++ (⟨#[61]⟩ : ByteArray) ++ Txt E2).size ≤ 213909538 := by rw [ByteArray.size_append]; omega
     have HcD := Lib.hid ((congrArg (· ++ Txt E2) (cat_txt Y [61])).trans (cat_txt (Y ++ [61]) E2) : Txt Y ++ (⟨#[61]⟩ : ByteArray) ++ Txt E2 = Txt (Y ++ [61] ++ E2))
     rw [hY] at HT2 hlen
     have HY := Lib.hid hY
     clear hY
     go_upto_region 8 with fail
     clear hcB
     go_wp2_with fail
     refine (HE2.out _).mono ?_
     rintro e w3 ⟨rfl, hB3⟩
     have K3 := Lib.hid (K2.out.below hB3)
     clear hB3 d1 d2
     rw [show (⟨E2.toArray⟩ : ByteArray) = Txt E2 from rfl]
     go_wp2_with fail
     go_roundg (l.length - j)
     case measure => omega
     case rel => exact ⟨j + 1, Y ++ [61] ++ E2, HT2.out.symm, hlen, congrArg Value.string HcD.out, by rw [hmk2.out], by omega, by omega, by go_num, K3.out⟩
  ·have hT := Lib.hid (by rw [List.take_of_length_le (by omega)] : wrt f a cls (l.take j) = wrt f a cls l)
   clear PLr hmk
   go_wp2_with fail
   go_ret
   exact ⟨congrArg (fun z => Ending.returned (.string (Txt z))) (HX.out.trans hT.out), HK.out⟩
end Ad
end Go.Proofs.YtmmjfofdnpafkaaGreatDoor
namespace Go.Proofs.YtmmjfofdnpafkaaGreatDoor
namespace Ad
open Go.RowKit Lx
theorem decL_lt (n : Nat) (h : n < 10) : decL n = [(48 + n).toUInt8] := by rw [decL, if_pos h]
theorem decL_ge (n : Nat) (h : ¬ n < 10) : decL n = decL (n / 10) ++ [(48 + n % 10).toUInt8] := by rw [decL, if_neg h]
theorem decL_len (n : Nat) : n ≤ 65535 → (decL n).length ≤ 20 := by
 have key : ∀ k n : Nat, n < 10 ^ k → (decL n).length ≤ k + 1 := by
  intro k
  induction k with
  | zero => intro n h; rw [decL_lt n (by omega)]; simp
  | succ k ih =>
    intro n h
    by_cases h10 : n < 10
    ·rw [decL_lt n h10]; simp
    ·rw [decL_ge n h10, List.length_append]
     have := ih (n / 10) (by rw [Nat.pow_succ] at h; omega)
     simp; omega
 intro h
 have := key 5 n (by omega)
 omega
theorem digit_cut (d : Nat) (h : d < 10) : (⟨#[48, 49, 50, 51, 52, 53, 54, 55, 56, 57]⟩ : ByteArray).extract d (d + 1) = Txt [(48 + d).toUInt8] := by
 have : d = 0 ∨ d = 1 ∨ d = 2 ∨ d = 3 ∨ d = 4 ∨ d = 5 ∨ d = 6 ∨ d = 7 ∨ d = 8 ∨ d = 9 := by omega
 rcases this with rfl | rfl | rfl | rfl | rfl | rfl | rfl | rfl | rfl | rfl <;> rfl
set_option maxRecDepth 100000 in
set_option maxHeartbeats 8000000 in
theorem rdecimal_any (n : Nat) : n ≤ 65535 → ∀ w : World, Calls Tryz.prog 139 #[.int .i64 n] w (TxK (decL n) w) := by
 induction n using Nat.strongRecOn with
 | _ n ih =>
   intro hn w
   by_cases h : n < 10
   ·have hcut := digit_cut n h
    have hD := decL_lt n h
    obtain ⟨x, hx⟩ : ∃ x : UInt8, (48 + n).toUInt8 = x := ⟨_, rfl⟩
    rw [hx] at hcut hD
    have HD := Lib.hid hD
    clear hx hD
    have h1 : (n : Int) < 10 := by omega
    go_enter Tryz.func139, Tryz.ntmps139
    go_wp2_with fail
    go_ret
    unfold TxK
    rw [HD.out]
    exact ⟨rfl, Kp.refl _ _⟩
   ·have h1 : ¬ (n : Int) < 10 := by omega
    obtain ⟨q, hq⟩ : ∃ q, n / 10 = q := ⟨_, rfl⟩
    obtain ⟨d, hd⟩ : ∃ d, n % 10 = d := ⟨_, rfl⟩
    have hd10 : d < 10 := by omega
    have HD := Lib.hid (by rw [decL_ge n h, hq, hd] : decL n = decL q ++ [(48 + d).toUInt8])
    have HC := Lib.hid (ih q (by omega) (by omega))
    have hw : IntKind.i64.wrap ((n : Int) / 10) = (q : Int) := by rw [IntWalk.i64_in _ (by omega)]; omega
    have hr : (n : Int).tmod 10 = (d : Int) := by rw [Int.tmod_eq_emod_of_nonneg (by omega)]; omega
    have hcut := digit_cut d hd10
    obtain ⟨x, hx⟩ : ∃ x : UInt8, (48 + d).toUInt8 = x := ⟨_, rfl⟩
    rw [hx] at hcut HD
    clear hx
    have hl := decL_len q (by omega)
    have sQ : (Txt (decL q)).size ≤ 20 := by rw [txt_size]; exact hl
    have sD : (Txt [x]).size ≤ 1 := by rw [txt_size]; exact Nat.le_refl _
    have HcB := Lib.hid (cat_txt (decL q) [x])
    clear ih hq hd h hl
    go_enter Tryz.func139, Tryz.ntmps139
    go_wp2_with fail
    refine wp_region_grew (by kernel_rfl) (by kernel_rfl) ?_
    (go_big_quiet_step ((go_at_call 139; exact Calls.grew_of (HC.out _) (fun _ _ h => h))))
    repeat (go_big_quiet_step ((go_at_call 139; exact Calls.grew_of (HC.out _) (fun _ _ h => h))))
    refine wpQuiet_nil ?_
    intro _ hw'
    obtain ⟨nq, hw''⟩ := hw'
    subst hw''
    go_wp2_with fail
    go_ret
    unfold TxK
    rw [HD.out]
    exact ⟨congrArg (fun z => Ending.returned (.string z)) HcB.out, grew_kp _ _⟩
end Ad
end Go.Proofs.YtmmjfofdnpafkaaGreatDoor
namespace Go.Proofs.YtmmjfofdnpafkaaGreatDoor
namespace Ad
open Go.RowKit Lx
theorem wrt_lenB (f a : UInt8) (cls : Int) (l : List Prm) (hz : SzP l) : (wrt f a cls l).length ≤ l.length * 12582914 := by
 induction l generalizing f with
 | nil => simp [wrt]
 | cons p t ih =>
   obtain ⟨q1, q2, q3⟩ := p
   have h1 := hz (q1, q2, q3) (List.mem_cons_self ..)
   have h2 := prP_len cls q1 q2 q3 h1.1 h1.2
   have h3 := ih a (fun q hq => hz q (List.mem_cons_of_mem _ hq))
   rw [wrt]
   simp only [List.cons_append, List.length_cons, List.length_append]
   omega
set_option maxRecDepth 100000 in
set_option maxHeartbeats 8000000 in
theorem rPrint_any (B : Nat) (v : Value) (u : Uri) (w : World) (hU : UriIn B w v u) (hB : B ≤ w.heap.size) (hz : SzU u) (hzh : u.host.length ≤ 1048576) :
   Calls Tryz.prog 68 #[v] w (PrP (printO u) w) := by
 obtain ⟨vp, vh, rfl, hp, hh⟩ := hU
 obtain ⟨a1, c1, rfl⟩ := hp.form
 obtain ⟨a2, c2, rfl⟩ := hh.form
 obtain ⟨S, U, H, P, ps, hs⟩ := u
 dsimp only at hzh hp hh ⊢
 have hKA := (Kp.refl [] w).alloc (.cells #[.string (Txt S), .string (Txt U), .string (Txt H), .int .i64 P, .slice a1 ps.length c1, .slice a2 hs.length c2] 24)
 obtain ⟨wA, hwA⟩ : ∃ wA, w.alloc (.cells #[.string (Txt S), .string (Txt U), .string (Txt H), .int .i64 P, .slice a1 ps.length c1, .slice a2 hs.length c2] 24) = wA := ⟨_, rfl⟩
 have BA := show Blk wA w.heap.size 24 #[.string (Txt S), .string (Txt U), .string (Txt H), .int .i64 P, .slice a1 ps.length c1, .slice a2 hs.length c2] from by rw [← hwA]; exact Blk.new w _ _
 rw [hwA] at hKA
 have KA := Lib.hid hKA
 have HN := Lib.hid (rNormal_any B (.agg #[.string (Txt S), .string (Txt U), .string (Txt H), .int .i64 P, .slice a1 ps.length c1, .slice a2 hs.length c2]) ⟨S, U, H, P, ps, hs⟩ wA ⟨_, _, rfl, hp.kp hKA hB (by simp), hh.kp hKA hB (by simp)⟩ (by have := hKA.size; omega) hz)
 have HPr := Lib.hid (rfl : printO ⟨S, U, H, P, ps, hs⟩ = (normal ⟨S, U, H, P, ps, hs⟩).map textU)
 have HSz := Lib.hid (fun n h => normal_sz ⟨S, U, H, P, ps, hs⟩ n hz hzh h)
 have k0 := BA.cell 0
 have k1 := BA.cell 1
 have k2 := BA.cell 2
 have k3 := BA.cell 3
 have k4 := BA.cell 4
 have k5 := BA.cell 5
 clear hp hh hz hKA BA
 go_enter Tryz.func68, Tryz.ntmps68
 go_wp2_with fail
 refine HN.out.mono ?_
 rintro e w1 ⟨v1, rfl, hU1, hB1⟩
 obtain ⟨nn, hn⟩ : ∃ o, normal ⟨S, U, H, P, ps, hs⟩ = o := ⟨_, rfl⟩
 rw [hn] at hU1
 rw [show (if (normal ⟨S, U, H, P, ps, hs⟩).isSome then (0 : Int) else 2) = (if nn.isSome then 0 else 2) from by rw [hn]]
 cases nn with
 | none =>
   simp only [Option.isSome_none, Bool.false_eq_true, if_false]
   obtain ⟨vp1, vh1, rfl, hp1, hh1⟩ := hU1
   obtain ⟨b1, d1, rfl⟩ := hp1.form
   obtain ⟨b2, d2, rfl⟩ := hh1.form
   have HPn := Lib.hid (by show (normal _).map textU = _; rw [hn]; rfl : printO ⟨S, U, H, P, ps, hs⟩ = none)
   have K1 := Lib.hid (KA.out.below hB1)
   clear hn hp1 hh1 hB1 k0 k1 k2 k3 k4 k5
   go_wp2_with fail
   go_ret2
   rw [HPn.out]
   exact ⟨rfl, (K1.out.alloc _).nilBelow⟩
 | some n =>
   simp only [Option.isSome_some, if_true]
   have hzn := HSz.out n hn
   have HPn0 := Lib.hid (by show (normal _).map textU = _; rw [hn]; rfl : printO ⟨S, U, H, P, ps, hs⟩ = some (textU n))
   obtain ⟨S2, U2, H2, P2, ps2, hs2⟩ := n
   obtain ⟨vp1, vh1, rfl, hp1, hh1⟩ := hU1
   obtain ⟨b1, d1, rfl⟩ := hp1.form
   obtain ⟨b2, d2, rfl⟩ := hh1.form
   dsimp only [Option.getD_some] at hp1 hh1 ⊢
   have zS := hzn.scheme
   have zU := hzn.user
   have zH := hzn.host
   have zP0 := hzn.port0
   have zP1 := hzn.port1
   have zps := hzn.params
   have zhs := hzn.heads
   have Zps := hzn.ps
   have Zhs := hzn.hs
   dsimp only at zS zU zH zP0 zP1 zps zhs Zps Zhs
   obtain ⟨p, rfl⟩ : ∃ p : Nat, P2 = (p : Int) := ⟨P2.toNat, by omega⟩
   have K1 := KA.out.below hB1
   have hKN := (Kp.refl [] w1).alloc (.cells #[.string (Txt S2), .string (Txt U2), .string (Txt H2), .int .i64 p, .slice b1 ps2.length d1, .slice b2 hs2.length d2] 24)
   obtain ⟨w2, hw2⟩ : ∃ w2, w1.alloc (.cells #[.string (Txt S2), .string (Txt U2), .string (Txt H2), .int .i64 p, .slice b1 ps2.length d1, .slice b2 hs2.length d2] 24) = w2 := ⟨_, rfl⟩
   have NN := Lib.hid (show Blk w2 w1.heap.size 24 #[.string (Txt S2), .string (Txt U2), .string (Txt H2), .int .i64 p, .slice b1 ps2.length d1, .slice b2 hs2.length d2] from by rw [← hw2]; exact Blk.new w1 _ _)
   rw [hw2] at hKN
   have K2 := Lib.hid (K1.trans hKN)
   have P2 := Lib.hid (hp1.grow hKN (by intro y hy; cases hy))
   have H2_ := Lib.hid (hh1.grow hKN (by intro y hy; cases hy))
   have lW1 := wrt_lenB 59 59 1 ps2 Zps
   have lW2 := wrt_lenB 63 38 2 hs2 Zhs
   obtain ⟨W1, hW1⟩ : ∃ x, wrt 59 59 1 ps2 = x := ⟨_, rfl⟩
   obtain ⟨W2, hW2⟩ : ∃ x, wrt 63 38 2 hs2 = x := ⟨_, rfl⟩
   have HW1 := Lib.hid (fun (wz : World) (k : Kp [] w2 wz) => (by have h := rwrite_any 59 59 1 w2.heap.size _ ps2 wz (P2.out.kp k (Nat.le_refl _) (by simp)) k.size Zps zps; rw [hW1] at h; exact h : Calls Tryz.prog 137 #[.slice b1 ps2.length d1, .string ⟨#[59]⟩, .string ⟨#[59]⟩, .int .i64 1] wz (TxK W1 wz)))
   have HW2 := Lib.hid (fun (wz : World) (k : Kp [] w2 wz) => (by have h := rwrite_any 63 38 2 w2.heap.size _ hs2 wz (H2_.out.kp k (Nat.le_refl _) (by simp)) k.size Zhs zhs; rw [hW2] at h; exact h : Calls Tryz.prog 137 #[.slice b2 hs2.length d2, .string ⟨#[63]⟩, .string ⟨#[38]⟩, .int .i64 2] wz (TxK W2 wz)))
   rw [hW1] at lW1
   rw [hW2] at lW2
   have hTx := HPn0.out
   unfold textU at hTx
   dsimp only at hTx
   rw [hW1, hW2, Int.toNat_natCast] at hTx
   have HTx := Lib.hid hTx
   have sW1 : (Txt W1).size ≤ 201326624 := by rw [txt_size]; omega
   have sW2 : (Txt W2).size ≤ 201326624 := by rw [txt_size]; omega
   have sS : (Txt S2).size ≤ 4 := by rw [txt_size]; exact zS
   have sU : (Txt U2).size ≤ 2097152 := by rw [txt_size]; exact zU
   have sH : (Txt H2).size ≤ 2097152 := by rw [txt_size]; exact zH
   have eS : (Txt S2).toList = S2 := by rw [Lib.toList_data]; rfl
   clear hn hp1 hh1 hB1 K1 hKN k0 k1 k2 k3 k4 k5 hW1 hW2 lW1 lW2 hTx Zps Zhs zps zhs hzn
   have s0 := NN.out.cell 0
   by_cases ht : S2 = telL
   ·have bt : ((Txt S2).toList == [116, 101, 108]) = true := by rw [eS, ht]; rfl
    have HT := Lib.hid (HTx.out.trans (by rw [if_pos ht]))
    have g1 := grew_cell (NN.out.cell 1)
    have g4 := grew_cell (NN.out.cell 4)
    have Q1 := Lib.hid (fun (n : Gw w2) => Calls.grew_of (HW1.out _ (grew_kp w2 n)) (fun _ _ h => h))
    obtain ⟨T1, hT1⟩ : ∃ T, [116, 101, 108, 58] ++ U2 = T := ⟨_, rfl⟩
    have hc1 : (⟨#[116, 101, 108, 58]⟩ : ByteArray) ++ Txt U2 = Txt T1 := by rw [← hT1]; exact cat_txt [116, 101, 108, 58] U2
    have sT1 : (Txt T1).size ≤ 2097156 := by rw [txt_size, ← hT1, List.length_append]; simp; omega
    have hc2 := Lib.hid (cat_txt T1 W1)
    rw [hT1] at HT
    clear eS ht hT1
    go_upto_region 5 with fail
    refine wp_region_grew (by kernel_rfl) (by kernel_rfl) ?_
    (go_big_quiet_step ((go_at_call 137; with_reducible exact Q1.out _)))
    repeat (go_big_quiet_step ((go_at_call 137; with_reducible exact Q1.out _)))
    refine wpQuiet_nil ?_
    intro _ hw'
    obtain ⟨nq, hw''⟩ := hw'
    subst hw''
    go_wp2_with fail
    go_ret2
    rw [HT.out]
    exact ⟨congrArg (fun z => Ending.returned (.tuple #[.string z, .int .u8 0])) hc2.out, (K2.out.trans (grew_kp _ _)).nilBelow⟩
   ·have bt : ((Txt S2).toList == [116, 101, 108]) = false := by rw [eS, beq_eq_false_iff_ne]; exact ht
    have HT := Lib.hid (HTx.out.trans (by rw [if_neg ht]))
    have s1 := NN.out.cell 1
    have s2 := NN.out.cell 2
    have s3 := NN.out.cell 3
    obtain ⟨T1, hT1⟩ : ∃ T, S2 ++ [58] = T := ⟨_, rfl⟩
    have hc1 : Txt S2 ++ (⟨#[58]⟩ : ByteArray) = Txt T1 := by rw [← hT1]; exact cat_txt S2 [58]
    have sT1 : (Txt T1).size ≤ 5 := by rw [txt_size, ← hT1, List.length_append]; simp; omega
    rw [hT1] at HT
    clear eS ht hT1
    have N2 := Lib.hid NN.out
    have KW2 := Lib.hid (Kp.refl [] w2)
    by_cases hu : U2 = []
    ·have HU := Lib.hid (HT.out.trans (by rw [if_pos hu, List.append_nil]))
     have bu : ((Txt U2).toList == ([] : List UInt8)) = true := (emp_D U2).trans (decide_eq_true hu)
     clear hu
     obtain ⟨T3, hT3⟩ : ∃ T, T1 ++ H2 = T := ⟨_, rfl⟩
     have hc3 : Txt T1 ++ Txt H2 = Txt T3 := by rw [← hT3]; exact cat_txt T1 H2
     have sT3 : (Txt T3).size ≤ 2097157 := by rw [← hc3, ByteArray.size_append]; omega
     rw [hT3] at HU
     clear hT3
     by_cases hp0 : p = 0
     ·have HF := Lib.hid (HU.out.trans (by rw [if_pos (by rw [hp0]; rfl), List.append_nil]))
      have hn0 : ¬ (0 : Int) < (p : Int) := by omega
      clear hp0
      obtain ⟨T7, hT7⟩ : ∃ T, T3 ++ W1 = T := ⟨_, rfl⟩
      have hc7 : Txt T3 ++ Txt W1 = Txt T7 := by rw [← hT7]; exact cat_txt T3 W1
      have sT7 : (Txt T7).size ≤ 203423781 := by rw [← hc7, ByteArray.size_append]; omega
      have hc8 := Lib.hid (cat_txt T7 W2)
      have HG2 := Lib.hid (HF.out.trans (by rw [hT7]) : printO ⟨S, U, H, P, ps, hs⟩ = some (T7 ++ W2))
      have g4 := grew_cell (N2.out.cell 4)
      have g5 := grew_cell (N2.out.cell 5)
      have Q1 := Lib.hid (fun (n : Gw w2) => Calls.grew_of (HW1.out _ (KW2.out.trans (grew_kp w2 n))) (fun _ _ h => h))
      have Q2 := Lib.hid (fun (n : Gw w2) => Calls.grew_of (HW2.out _ (KW2.out.trans (grew_kp w2 n))) (fun _ _ h => h))
      clear hT7
      go_upto_region 12 with fail
      refine wp_region_grew (by kernel_rfl) (by kernel_rfl) ?_
      (go_big_quiet_step ((first | (go_at_call 137; with_reducible exact Q1.out _) | (go_at_call 137; with_reducible exact Q2.out _))))
      repeat (go_big_quiet_step ((first | (go_at_call 137; with_reducible exact Q1.out _) | (go_at_call 137; with_reducible exact Q2.out _))))
      refine wpQuiet_nil ?_
      intro _ hw'
      obtain ⟨nq, hw''⟩ := hw'
      subst hw''
      go_wp2_with fail
      go_ret2
      rw [HG2.out]
      exact ⟨congrArg (fun z => Ending.returned (.tuple #[.string z, .int .u8 0])) hc8.out, (K2.out.trans (grew_kp _ _)).nilBelow⟩
     ·have HF := Lib.hid (HU.out.trans (by rw [if_neg (by omega)]))
      have hn0 : (0 : Int) < (p : Int) := by omega
      clear hp0
      have HD := Lib.hid (fun wz => rdecimal_any p (by omega) wz)
      have lD := decL_len p (by omega)
      obtain ⟨D, hD⟩ : ∃ D, decL p = D := ⟨_, rfl⟩
      rw [hD] at HD lD HF
      obtain ⟨T4, hT4⟩ : ∃ T, T3 ++ [58] = T := ⟨_, rfl⟩
      have hc4 : Txt T3 ++ (⟨#[58]⟩ : ByteArray) = Txt T4 := by rw [← hT4]; exact cat_txt T3 [58]
      have sT4 : (Txt T4).size ≤ 2097158 := by rw [← hc4, ByteArray.size_append]; have : (⟨#[58]⟩ : ByteArray).size = 1 := rfl; omega
      obtain ⟨T5, hT5⟩ : ∃ T, T4 ++ D = T := ⟨_, rfl⟩
      have hc5 : Txt T4 ++ Txt D = Txt T5 := by rw [← hT5]; exact cat_txt T4 D
      have sD : (Txt D).size ≤ 20 := by rw [txt_size]; exact lD
      have sT5 : (Txt T5).size ≤ 2097178 := by rw [← hc5, ByteArray.size_append]; omega
      have HG := Lib.hid (HF.out.trans (by rw [← hT5, ← hT4]; simp) : printO ⟨S, U, H, P, ps, hs⟩ = some (T5 ++ W1 ++ W2))
      clear hT4 hT5 hD lD
      go_wp2_with fail
      refine (HD.out _).mono ?_
      rintro e w9 ⟨rfl, hK9⟩
      have N9 := Lib.hid (N2.out.kp hK9 (by simp))
      have K9 := Lib.hid (K2.out.trans hK9)
      have KW9 := Lib.hid (KW2.out.trans hK9)
      clear hK9 s2 s3
      obtain ⟨T7, hT7⟩ : ∃ T, T5 ++ W1 = T := ⟨_, rfl⟩
      have hc7 : Txt T5 ++ Txt W1 = Txt T7 := by rw [← hT7]; exact cat_txt T5 W1
      have sT7 : (Txt T7).size ≤ 203423802 := by rw [← hc7, ByteArray.size_append]; omega
      have hc8 := Lib.hid (cat_txt T7 W2)
      have HG2 := Lib.hid (HG.out.trans (by rw [hT7]) : printO ⟨S, U, H, P, ps, hs⟩ = some (T7 ++ W2))
      have g4 := grew_cell (N9.out.cell 4)
      have g5 := grew_cell (N9.out.cell 5)
      have Q1 := Lib.hid (fun (n : Gw w9) => Calls.grew_of (HW1.out _ (KW9.out.trans (grew_kp w9 n))) (fun _ _ h => h))
      have Q2 := Lib.hid (fun (n : Gw w9) => Calls.grew_of (HW2.out _ (KW9.out.trans (grew_kp w9 n))) (fun _ _ h => h))
      clear hT7
      go_upto_region 12 with fail
      refine wp_region_grew (by kernel_rfl) (by kernel_rfl) ?_
      (go_big_quiet_step ((first | (go_at_call 137; with_reducible exact Q1.out _) | (go_at_call 137; with_reducible exact Q2.out _))))
      repeat (go_big_quiet_step ((first | (go_at_call 137; with_reducible exact Q1.out _) | (go_at_call 137; with_reducible exact Q2.out _))))
      refine wpQuiet_nil ?_
      intro _ hw'
      obtain ⟨nq, hw''⟩ := hw'
      subst hw''
      go_wp2_with fail
      go_ret2
      rw [HG2.out]
      exact ⟨congrArg (fun z => Ending.returned (.tuple #[.string z, .int .u8 0])) hc8.out, (K9.out.trans (grew_kp _ _)).nilBelow⟩
    ·have HU := Lib.hid (HT.out.trans (by rw [if_neg hu]))
     have bu : ((Txt U2).toList == ([] : List UInt8)) = false := (emp_D U2).trans (decide_eq_false hu)
     have HE := Lib.hid (fun wz => (by have h := rEscape_any 0 (Txt U2) wz (by rw [txt_size]; omega); rw [txt_list] at h; exact h : Calls Tryz.prog 138 #[.string (Txt U2), .int .i64 0] wz (RetNew (escpL 0 U2) wz)))
     have lE := (escp_len 0 U2).2
     obtain ⟨E, hE⟩ : ∃ E, escpL 0 U2 = E := ⟨_, rfl⟩
     rw [hE] at HE lE HU
     obtain ⟨T8, hT8⟩ : ∃ T, T1 ++ E = T := ⟨_, rfl⟩
     have hc8' : Txt T1 ++ Txt E = Txt T8 := by rw [← hT8]; exact cat_txt T1 E
     have sE : (Txt E).size ≤ 6291456 := by rw [txt_size]; omega
     have sT8 : (Txt T8).size ≤ 6291461 := by rw [← hc8', ByteArray.size_append]; omega
     obtain ⟨T2, hT2⟩ : ∃ T, T8 ++ [64] = T := ⟨_, rfl⟩
     have hc2 : Txt T8 ++ (⟨#[64]⟩ : ByteArray) = Txt T2 := by rw [← hT2]; exact cat_txt T8 [64]
     have sT2 : (Txt T2).size ≤ 6291462 := by rw [← hc2, ByteArray.size_append]; have : (⟨#[64]⟩ : ByteArray).size = 1 := rfl; omega
     have HV := Lib.hid (HU.out.trans (by rw [← hT2, ← hT8]; simp) : printO ⟨S, U, H, P, ps, hs⟩ = some (T2 ++ H2 ++ (if (p : Int) = 0 then [] else 58 :: decL p) ++ W1 ++ W2))
     clear hu hE hT8 hT2 lE
     go_wp2_with fail
     refine (HE.out _).mono ?_
     rintro e w3 ⟨rfl, hB3⟩
     have hK3 := (Kp.refl [] w2).below hB3
     have N3 := Lib.hid (N2.out.kp hK3 (by simp))
     have K3 := Lib.hid (K2.out.trans hK3)
     have KW3 := Lib.hid (KW2.out.trans hK3)
     clear hK3 hB3 s0 s1 s2 s3
     have s2 := N3.out.cell 2
     have s3 := N3.out.cell 3
     rw [show (⟨E.toArray⟩ : ByteArray) = Txt E from rfl]
     obtain ⟨T3, hT3⟩ : ∃ T, T2 ++ H2 = T := ⟨_, rfl⟩
     have hc3 : Txt T2 ++ Txt H2 = Txt T3 := by rw [← hT3]; exact cat_txt T2 H2
     have sT3 : (Txt T3).size ≤ 8388614 := by rw [← hc3, ByteArray.size_append]; omega
     rw [hT3] at HV
     clear hT3
     by_cases hp0 : p = 0
     ·have HF := Lib.hid (HV.out.trans (by rw [if_pos (by rw [hp0]; rfl), List.append_nil]))
      have hn0 : ¬ (0 : Int) < (p : Int) := by omega
      clear hp0
      obtain ⟨T7, hT7⟩ : ∃ T, T3 ++ W1 = T := ⟨_, rfl⟩
      have hc7 : Txt T3 ++ Txt W1 = Txt T7 := by rw [← hT7]; exact cat_txt T3 W1
      have sT7 : (Txt T7).size ≤ 209715238 := by rw [← hc7, ByteArray.size_append]; omega
      have hc8 := Lib.hid (cat_txt T7 W2)
      have HG2 := Lib.hid (HF.out.trans (by rw [hT7]) : printO ⟨S, U, H, P, ps, hs⟩ = some (T7 ++ W2))
      have g4 := grew_cell (N3.out.cell 4)
      have g5 := grew_cell (N3.out.cell 5)
      have Q1 := Lib.hid (fun (n : Gw w3) => Calls.grew_of (HW1.out _ (KW3.out.trans (grew_kp w3 n))) (fun _ _ h => h))
      have Q2 := Lib.hid (fun (n : Gw w3) => Calls.grew_of (HW2.out _ (KW3.out.trans (grew_kp w3 n))) (fun _ _ h => h))
      clear hT7
      go_upto_region 12 with fail
      refine wp_region_grew (by kernel_rfl) (by kernel_rfl) ?_
      (go_big_quiet_step ((first | (go_at_call 137; with_reducible exact Q1.out _) | (go_at_call 137; with_reducible exact Q2.out _))))
      repeat (go_big_quiet_step ((first | (go_at_call 137; with_reducible exact Q1.out _) | (go_at_call 137; with_reducible exact Q2.out _))))
      refine wpQuiet_nil ?_
      intro _ hw'
      obtain ⟨nq, hw''⟩ := hw'
      subst hw''
      go_wp2_with fail
      go_ret2
      rw [HG2.out]
      exact ⟨congrArg (fun z => Ending.returned (.tuple #[.string z, .int .u8 0])) hc8.out, (K3.out.trans (grew_kp _ _)).nilBelow⟩
     ·have HF := Lib.hid (HV.out.trans (by rw [if_neg (by omega)]))
      have hn0 : (0 : Int) < (p : Int) := by omega
      clear hp0
      have HD := Lib.hid (fun wz => rdecimal_any p (by omega) wz)
      have lD := decL_len p (by omega)
      obtain ⟨D, hD⟩ : ∃ D, decL p = D := ⟨_, rfl⟩
      rw [hD] at HD lD HF
      obtain ⟨T4, hT4⟩ : ∃ T, T3 ++ [58] = T := ⟨_, rfl⟩
      have hc4 : Txt T3 ++ (⟨#[58]⟩ : ByteArray) = Txt T4 := by rw [← hT4]; exact cat_txt T3 [58]
      have sT4 : (Txt T4).size ≤ 8388615 := by rw [← hc4, ByteArray.size_append]; have : (⟨#[58]⟩ : ByteArray).size = 1 := rfl; omega
      obtain ⟨T5, hT5⟩ : ∃ T, T4 ++ D = T := ⟨_, rfl⟩
      have hc5 : Txt T4 ++ Txt D = Txt T5 := by rw [← hT5]; exact cat_txt T4 D
      have sD : (Txt D).size ≤ 20 := by rw [txt_size]; exact lD
      have sT5 : (Txt T5).size ≤ 8388635 := by rw [← hc5, ByteArray.size_append]; omega
      have HG := Lib.hid (HF.out.trans (by rw [← hT5, ← hT4]; simp) : printO ⟨S, U, H, P, ps, hs⟩ = some (T5 ++ W1 ++ W2))
      clear hT4 hT5 hD lD
      go_wp2_with fail
      refine (HD.out _).mono ?_
      rintro e w9 ⟨rfl, hK9⟩
      have N9 := Lib.hid (N3.out.kp hK9 (by simp))
      have K9 := Lib.hid (K3.out.trans hK9)
      have KW9 := Lib.hid (KW3.out.trans hK9)
      clear hK9 s2 s3
      obtain ⟨T7, hT7⟩ : ∃ T, T5 ++ W1 = T := ⟨_, rfl⟩
      have hc7 : Txt T5 ++ Txt W1 = Txt T7 := by rw [← hT7]; exact cat_txt T5 W1
      have sT7 : (Txt T7).size ≤ 209715259 := by rw [← hc7, ByteArray.size_append]; omega
      have hc8 := Lib.hid (cat_txt T7 W2)
      have HG2 := Lib.hid (HG.out.trans (by rw [hT7]) : printO ⟨S, U, H, P, ps, hs⟩ = some (T7 ++ W2))
      have g4 := grew_cell (N9.out.cell 4)
      have g5 := grew_cell (N9.out.cell 5)
      have Q1 := Lib.hid (fun (n : Gw w9) => Calls.grew_of (HW1.out _ (KW9.out.trans (grew_kp w9 n))) (fun _ _ h => h))
      have Q2 := Lib.hid (fun (n : Gw w9) => Calls.grew_of (HW2.out _ (KW9.out.trans (grew_kp w9 n))) (fun _ _ h => h))
      clear hT7
      go_upto_region 12 with fail
      refine wp_region_grew (by kernel_rfl) (by kernel_rfl) ?_
      (go_big_quiet_step ((first | (go_at_call 137; with_reducible exact Q1.out _) | (go_at_call 137; with_reducible exact Q2.out _))))
      repeat (go_big_quiet_step ((first | (go_at_call 137; with_reducible exact Q1.out _) | (go_at_call 137; with_reducible exact Q2.out _))))
      refine wpQuiet_nil ?_
      intro _ hw'
      obtain ⟨nq, hw''⟩ := hw'
      subst hw''
      go_wp2_with fail
      go_ret2
      rw [HG2.out]
      exact ⟨congrArg (fun z => Ending.returned (.tuple #[.string z, .int .u8 0])) hc8.out, (K9.out.trans (grew_kp _ _)).nilBelow⟩
end Ad
end Go.Proofs.YtmmjfofdnpafkaaGreatDoor
namespace Go.Proofs.YtmmjfofdnpafkaaGreatDoor
namespace Ad
open Go.RowKit Lx
theorem quoteK (l : List UInt8) (C : Bool) (h : hasCtl l = C) (hs : l.length ≤ 1048576) (w : World) : Calls Tryz.prog 70 #[.string (Txt l)] w (fun e w' => e = .returned (.tuple #[.string (Txt (quT l)), .int .u8 (if C then 5 else 0)]) ∧ Kp [] w w') :=
 (rquote_any (Txt l) w (by rw [txt_size]; omega)).mono fun e w' hh => by
   rw [txt_list] at hh
   refine ⟨hh.1.trans ?_, (Kp.refl [] w).below hh.2⟩
   unfold quE
   rw [h]; rfl
set_option maxRecDepth 100000 in
set_option maxHeartbeats 8000000 in
theorem rPrintAddress_any (B : Nat) (v : Value) (a : Adr) (w : World) (hA : AdIn B w v a) (hB : B ≤ w.heap.size) (hz : SzA a) :
   Calls Tryz.prog 18 #[v] w (PrK (adrO a) w) := by
 obtain ⟨vp, vh, vq, rfl, hp, hh, hq⟩ := hA
 obtain ⟨A1, C1, rfl⟩ := hp.form
 obtain ⟨A2, C2, rfl⟩ := hh.form
 obtain ⟨A3, C3, rfl⟩ := hq.form
 have HZ := Lib.hid hz
 have hd := hz.display
 have k1 := hz.params
 obtain ⟨wA, hwA⟩ : ∃ wz_, w.alloc (.cells #[.string (Txt a.display), .string (Txt a.uri.scheme), .string (Txt a.uri.user), .string (Txt a.uri.host), .int .i64 a.uri.port, .slice A1 a.uri.params.length C1, .slice A2 a.uri.heads.length C2, .slice A3 a.params.length C3] 26) = wz_ := ⟨_, rfl⟩
 have hX := ABox.new (hp.more hB) (hh.more hB) (hq.more hB)
 rw [hwA] at hX
 have hK : Kp [] w wA := by rw [← hwA]; exact (Kp.refl [] w).alloc _
 have KA := Lib.hid hK
 have XA := Lib.hid hX
 obtain ⟨R, hR⟩ : ∃ r, adrO a = r := ⟨_, rfl⟩
 have HR := Lib.hid ((adrO_eq a).symm.trans hR)
 rw [hR]
 obtain ⟨on, hon⟩ : ∃ o, printO a.uri = o := ⟨_, rfl⟩
 have HL := Lib.hid (fun x (h : printO a.uri = some x) => printO_len a.uri hz.uri hz.host x h)
 have Hon := Lib.hid hon
 have HPr := Lib.hid (fun (B : Nat) (v : Value) (w : World) (hU : UriIn B w v a.uri) (hB : B ≤ w.heap.size) => (rPrint_any B v a.uri w hU hB hz.uri hz.host).mono fun _ _ h => h.toK)
 rw [hon] at HPr
 obtain ⟨op, hop⟩ : ∃ o, ppO (srt a.params) = o := ⟨_, rfl⟩
 have HLp := Lib.hid (fun x (h : ppO (srt a.params) = some x) => ppO_len (srt a.params) (srt_sz _ hz.ps) x h)
 have Hop := Lib.hid hop
 have HPp := Lib.hid (fun (B : Nat) (v : Value) (w : World) (hU : PmIn B w v (srt a.params)) (hB : B ≤ w.heap.size) => (rPrintParams_any B v (srt a.params) w hU hB (srt_sz _ hz.ps) (by rw [(srt_perm _).length_eq]; exact hz.params)).mono fun _ _ h => h.toK)
 rw [hop] at HPp
 obtain ⟨cc, hcc⟩ : ∃ x, hasCtl a.display = x := ⟨_, rfl⟩
 have Hcc := Lib.hid hcc
 have HQt := Lib.hid (fun wz => quoteK a.display cc hcc hd wz)
 have hql : (quT a.display).length ≤ 2097154 := by
  unfold quT
  have := escL_len a.display
  split
  ·simp
  ·simp only [List.length_append, List.length_cons, List.length_nil]; omega
 obtain ⟨Q, hQ⟩ : ∃ x, quT a.display = x := ⟨_, rfl⟩
 have HQ := Lib.hid hQ
 rw [hQ] at HQt hql
 clear hX hK hp hh hq hz hR hon hop hcc hQ
 obtain ⟨a1, c1, a2, c2, a3, c3, hc, hi, hq⟩ := XA.out.in
 have b0 := hc 0
 have b1 := hc 1
 have b2 := hc 2
 have b3 := hc 3
 have b4 := hc 4
 have b5 := hc 5
 have b6 := hc 6
 have In := Lib.hid hi
 clear hc hi hq
 go_enter Tryz.func18, Tryz.ntmps18
 go_wp2_with fail
 refine (HPr.out _ _ _ In.out (Nat.le_refl _)).mono ?_
 rintro e w1 ⟨rfl, hK1⟩
 have K1 := Lib.hid (KA.out.trans hK1)
 have X1 := Lib.hid (XA.out.kpn hK1)
 clear hK1 b0 b1 b2 b3 b4 b5 b6 In
 obtain ⟨tu, htu⟩ : ∃ t, on.getD [] = t := ⟨_, rfl⟩
 obtain ⟨xu, hxu⟩ : ∃ x : Int, (if on.isSome then 0 else 2) = x := ⟨_, rfl⟩
 have Htu := Lib.hid htu
 have Hxu := Lib.hid hxu
 rw [htu, hxu]
 clear htu hxu
 obtain ⟨a1, c1, a2, c2, a3, c3, hc, hi, hq⟩ := X1.out.in
 have b7 := hc 7
 have Pq := Lib.hid hq
 clear hc hi hq
 go_wp2_with fail
 refine (rSorted_any _ _ a.params _ Pq.out (Nat.le_refl _) k1).mono ?_
 rintro e w3 ⟨v3, rfl, hP3, hK3⟩
 have K3 := Lib.hid (K1.out.trans hK3)
 have X3 := Lib.hid (X1.out.kpn hK3)
 have P3 := Lib.hid hP3
 obtain ⟨A9, C9, rfl⟩ := hP3.form
 obtain ⟨l3, hl3⟩ : ∃ l, srt a.params = l := ⟨_, rfl⟩
 rw [hl3] at P3 HPp ⊢
 clear hK3 hP3 b7 Pq hl3
 go_wp2_with fail
 refine (HPp.out _ _ _ P3.out (Nat.le_refl _)).mono ?_
 rintro e w4 ⟨rfl, hK4⟩
 have K4 := Lib.hid (K3.out.trans hK4)
 have X4 := Lib.hid (X3.out.kpn hK4)
 obtain ⟨tp, htp⟩ : ∃ t, op.getD [] = t := ⟨_, rfl⟩
 obtain ⟨xp, hxp⟩ : ∃ x : Int, (if op.isSome then 0 else 2) = x := ⟨_, rfl⟩
 have Htp := Lib.hid htp
 have Hxp := Lib.hid hxp
 rw [htp, hxp]
 clear hK4 P3 htp hxp
 obtain ⟨a1, c1, a2, c2, a3, c3, hc, hi, hq⟩ := X4.out.in
 have b0 := hc 0
 clear hc hi hq
 obtain ⟨xc, hxc⟩ : ∃ x : Int, (if cc then 5 else 0) = x := ⟨_, rfl⟩
 have Hxc := Lib.hid hxc
 rw [hxc] at HQt
 clear hxc
 go_wp2_with fail
 refine (HQt.out _).mono ?_
 rintro e w5 ⟨rfl, hK5⟩
 have K5 := Lib.hid (K4.out.trans hK5)
 have X5 := Lib.hid (X4.out.kpn hK5)
 clear hK5 b0
 cases on with
 | none =>
   have hx := Hxu.out
   simp at hx
   subst hx
   have HN := Lib.hid (by rw [← HR.out, Hon.out] : R = none)
   go_wp2_with fail
   go_ret2
   exact PrK.none HN.out K5.out
 | some u =>
   have hx := Hxu.out
   simp at hx
   subst hx
   cases op with
   | none =>
     have hx := Hxp.out
     simp at hx
     subst hx
     have HN := Lib.hid (by rw [← HR.out, Hon.out, Hop.out] : R = none)
     go_wp2_with fail
     go_ret2
     exact PrK.none HN.out K5.out
   | some p =>
     have hx := Hxp.out
     simp at hx
     subst hx
     cases cc with
     | true =>
       have hx := Hxc.out
       simp at hx
       subst hx
       have HN := Lib.hid (by rw [← HR.out, Hon.out, Hop.out]; exact if_pos Hcc.out : R = none)
       go_wp2_with fail
       go_ret2
       exact PrK.none HN.out K5.out
     | false =>
       have hx := Hxc.out
       simp at hx
       subst hx
       have hul := HL.out u Hon.out
       have hpl := HLp.out p Hop.out
       have e1 := Htu.out
       have e2 := Htp.out
       dsimp only [Option.getD_some] at e1 e2
       subst e1 e2
       have HY := Lib.hid (by rw [← HR.out, Hon.out, Hop.out]; exact if_neg (by rw [Hcc.out]; decide) : R = some (dspL a.display ++ [60] ++ u ++ [62] ++ p))
       obtain ⟨a1, c1, a2, c2, a3, c3, hc, hi, hq⟩ := X5.out.in
       have b0 := hc 0
       clear hc hi hq
       have su : (Txt u).size ≤ 1073741824 := by rw [txt_size]; exact hul
       have sp : (Txt p).size ≤ 100663360 := by rw [txt_size]; exact hpl
       by_cases hde : a.display = []
       ·have be : ((Txt a.display).toList == ([] : List UInt8)) = true := by rw [hde]; decide +kernel
        have HD := Lib.hid (by unfold dspL; rw [if_pos hde] : dspL a.display = [])
        have s2 : ((⟨#[60]⟩ : ByteArray) ++ Txt u).size ≤ 1073741825 := by rw [ByteArray.size_append]; have := sz_one 60; omega
        have s3 : ((⟨#[60]⟩ : ByteArray) ++ Txt u ++ (⟨#[62]⟩ : ByteArray)).size ≤ 1073741826 := by rw [ByteArray.size_append]; have := sz_one 62; omega
        have Hcat := Lib.hid ((congrArg (fun z => z ++ (⟨#[62]⟩ : ByteArray) ++ Txt p) (cat_txt [60] u)).trans ((congrArg (fun z => z ++ Txt p) (cat_txt _ [62])).trans (cat_txt _ p)) : (⟨#[60]⟩ : ByteArray) ++ Txt u ++ (⟨#[62]⟩ : ByteArray) ++ Txt p = Txt ([60] ++ u ++ [62] ++ p))
        have HY2 := Lib.hid (by rw [HY.out, HD.out, List.nil_append] : R = some ([60] ++ u ++ [62] ++ p))
        clear hde
        go_wp2_with fail
        go_ret2
        exact PrK.some HY2.out Hcat.out K5.out
       ·have be : ((Txt a.display).toList == ([] : List UInt8)) = false := emp_no _ hde
        have hq : quT a.display = [34] ++ escL a.display ++ [34] := by unfold quT; rw [if_neg (by rw [Hcc.out]; decide)]
        have HD := Lib.hid (by unfold dspL; rw [if_neg hde, ← HQ.out, hq]; simp : dspL a.display = Q ++ [32])
        have sq : (Txt Q).size ≤ 2097154 := by rw [txt_size]; exact hql
        have e32 : (⟨#[32, 60]⟩ : ByteArray).size = 2 := rfl
        have s1 : (Txt Q ++ (⟨#[32, 60]⟩ : ByteArray)).size ≤ 2097156 := by rw [ByteArray.size_append]; omega
        have s2 : (Txt Q ++ (⟨#[32, 60]⟩ : ByteArray) ++ Txt u).size ≤ 1075838980 := by rw [ByteArray.size_append]; omega
        have s3 : (Txt Q ++ (⟨#[32, 60]⟩ : ByteArray) ++ Txt u ++ (⟨#[62]⟩ : ByteArray)).size ≤ 1075838981 := by rw [ByteArray.size_append]; have := sz_one 62; omega
        have Hcat := Lib.hid ((congrArg (fun z => z ++ Txt u ++ (⟨#[62]⟩ : ByteArray) ++ Txt p) (cat_txt Q [32, 60])).trans ((congrArg (fun z => z ++ (⟨#[62]⟩ : ByteArray) ++ Txt p) (cat_txt _ u)).trans ((congrArg (fun z => z ++ Txt p) (cat_txt _ [62])).trans (cat_txt _ p))) : Txt Q ++ (⟨#[32, 60]⟩ : ByteArray) ++ Txt u ++ (⟨#[62]⟩ : ByteArray) ++ Txt p = Txt (Q ++ [32, 60] ++ u ++ [62] ++ p))
        have HY2 := Lib.hid (by rw [HY.out, HD.out]; simp : R = some (Q ++ [32, 60] ++ u ++ [62] ++ p))
        clear hde hq e32
        go_wp2_with fail
        go_ret2
        exact PrK.some HY2.out Hcat.out K5.out
end Ad
end Go.Proofs.YtmmjfofdnpafkaaGreatDoor
namespace Go.Proofs.YtmmjfofdnpafkaaGreatDoor
namespace Ad
open Go.RowKit Lx
set_option maxRecDepth 100000 in
set_option maxHeartbeats 16000000 in
theorem writes_law (B : Nat) (v : Value) (a : Adr) (w : World) (hA : AdIn B w v a) (hB : B ≤ w.heap.size) (hz : SzA a) (E : Env w) :
   Calls Tryz.prog 3 #[v] w (BoK true w) := by
 obtain ⟨vp, vh, vq, rfl, hp, hh, hq⟩ := hA
 obtain ⟨A1, C1, rfl⟩ := hp.form
 obtain ⟨A2, C2, rfl⟩ := hh.form
 obtain ⟨A3, C3, rfl⟩ := hq.form
 have HZ := Lib.hid hz
 have k1 := hz.params
 have k2 := hz.uri.params
 have k3 := hz.uri.heads
 obtain ⟨wA, hwA⟩ : ∃ wz_, w.alloc (.cells #[.string (Txt a.display), .string (Txt a.uri.scheme), .string (Txt a.uri.user), .string (Txt a.uri.host), .int .i64 a.uri.port, .slice A1 a.uri.params.length C1, .slice A2 a.uri.heads.length C2, .slice A3 a.params.length C3] 26) = wz_ := ⟨_, rfl⟩
 have hK : Kp [] w wA := by rw [← hwA]; exact (Kp.refl [] w).alloc _
 have BA := Lib.hid (show Blk wA w.heap.size 26 #[.string (Txt a.display), .string (Txt a.uri.scheme), .string (Txt a.uri.user), .string (Txt a.uri.host), .int .i64 a.uri.port, .slice A1 a.uri.params.length C1, .slice A2 a.uri.heads.length C2, .slice A3 a.params.length C3] from by rw [← hwA]; exact Blk.new w _ _)
 have P1 := Lib.hid ((hp.more hB).grow hK (by intro y hy; cases hy))
 have P2 := Lib.hid ((hh.more hB).grow hK (by intro y hy; cases hy))
 have P3 := Lib.hid ((hq.more hB).grow hK (by intro y hy; cases hy))
 have KK := Lib.hid hK
 have EE := Lib.hid (E.kp hK (by simp))
 clear hK hp hh hq hz E
 by_cases h40 : 40 < a.uri.params.length + a.uri.heads.length + a.params.length
 ·have b0 := BA.out.cell 0
  have b1 := BA.out.cell 1
  have b2 := BA.out.cell 2
  have b3 := BA.out.cell 3
  have b4 := BA.out.cell 4
  have b5 := BA.out.cell 5
  have b6 := BA.out.cell 6
  have b7 := BA.out.cell 7
  go_enter Tryz.func3, Tryz.ntmps3
  go_wp2_with fail
  refine (awake_any _ EE.out).mono ?_
  rintro e w1 ⟨rfl, hK⟩
  have KK2 := Lib.hid (KK.out.trans hK)
  clear hK
  go_wp2_with fail
  go_ret
  exact ⟨rfl, KK2.out⟩
 ·obtain ⟨R, hR⟩ : ∃ r, adrO a = r := ⟨_, rfl⟩
  have HR := Lib.hid hR
  clear hR
  have b0 := BA.out.cell 0
  have b1 := BA.out.cell 1
  have b2 := BA.out.cell 2
  have b3 := BA.out.cell 3
  have b4 := BA.out.cell 4
  have b5 := BA.out.cell 5
  have b6 := BA.out.cell 6
  have b7 := BA.out.cell 7
  go_enter Tryz.func3, Tryz.ntmps3
  go_wp2_with fail
  refine (printAddress_any _ _ a _ ⟨_, _, _, rfl, P1.out, P2.out, P3.out⟩ (Nat.le_refl _) HZ.out EE.out).mono ?_
  rintro e w4 ⟨rfl, hK⟩
  rw [HR.out]
  have BB := Lib.hid (BA.out.kp hK (by simp))
  have Q1 := Lib.hid (P1.out.grow hK (by intro y hy; cases hy))
  have Q2 := Lib.hid (P2.out.grow hK (by intro y hy; cases hy))
  have Q3 := Lib.hid (P3.out.grow hK (by intro y hy; cases hy))
  have KB := Lib.hid (KK.out.trans hK)
  have EB := Lib.hid (EE.out.kp hK (by simp))
  obtain ⟨t, ht⟩ : ∃ t, R.getD [] = t := ⟨_, rfl⟩
  obtain ⟨x, hx⟩ : ∃ x : Int, (if R.isSome then 0 else 2) = x := ⟨_, rfl⟩
  have Ht := Lib.hid ht
  have Hx := Lib.hid hx
  rw [ht, hx]
  have bt : ((Txt t).toList == (Txt t).toList) = true := beq_self_eq_true _
  have bx : (x == x) = true := beq_self_eq_true _
  clear hK ht hx b0 b1 b2 b3 b4 b5 b6 b7
  have b0 := BB.out.cell 0
  have b1 := BB.out.cell 1
  have b2 := BB.out.cell 2
  have b3 := BB.out.cell 3
  have b4 := BB.out.cell 4
  have b5 := BB.out.cell 5
  have b6 := BB.out.cell 6
  have b7 := BB.out.cell 7
  go_wp2_with fail
  refine (rPrintAddress_any _ _ a _ ⟨_, _, _, rfl, Q1.out, Q2.out, Q3.out⟩ (Nat.le_refl _) HZ.out).mono ?_
  rintro e w5 ⟨rfl, hK⟩
  rw [HR.out, Ht.out, Hx.out]
  have KC := Lib.hid (KB.out.trans hK)
  have EC := Lib.hid (EB.out.kp hK (by simp))
  clear hK b0 b1 b2 b3 b4 b5 b6 b7
  go_wp2_with fail
  refine (awake_any _ EC.out).mono ?_
  rintro e w6 ⟨rfl, hK⟩
  have KD := Lib.hid (KC.out.trans hK)
  clear hK
  go_wp2_with fail
  go_ret
  exact ⟨rfl, KD.out⟩
end Ad
end Go.Proofs.YtmmjfofdnpafkaaGreatDoor
