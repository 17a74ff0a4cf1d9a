/- Texts of one set of library modules: HeY. -/
import Derived.Test.YtbcaindpbeaheaaGreatDoorZ22
import Derived.Lib.OthersKept
namespace Go.Proofs.YtbcaindpbeaheaaGreatDoor
namespace Ad
open Go.RowKit Lx
theorem vr_of (r : Int) (h : Utf8.valid r = true) : Lib.validRune r = true := by
 have := validRune_eq r
 rw [h] at this
 exact this.symm
theorem decode_hi (s : ByteArray) (pos : Nat) (h : pos < s.size) (ha : 128 ≤ (s[pos]'h).toNat) :
   ((Utf8.decode s pos).1 = 65533 ∨ Lib.validRune (Utf8.decode s pos).1 = true) ∧ pos + (Utf8.decode s pos).2 ≤ s.size ∧ ∀ k, pos < k → k < pos + (Utf8.decode s pos).2 → 128 ≤ (s.get! k).toNat := by
 have hn : ¬ (s[pos]'h).toNat < 128 := by omega
 have hb : (s[pos]'h).toNat < 256 := (s[pos]'h).toNat_lt
 simp only [Utf8.decode, get_at s pos h, hn, if_false]
 split
 ·rename_i h2
  simp only [Bool.and_eq_true, decide_eq_true_eq, beq_iff_eq] at h2
  split
  ·refine ⟨.inr ?_, by dsimp only; omega, fun k h1 h3 => ?_⟩
   ·refine vr_of _ ?_; simp [Utf8.valid]; omega
   ·obtain rfl : k = pos + 1 := by dsimp only at h3; omega
    omega
  ·exact ⟨.inl rfl, by dsimp only; omega, fun k h1 h2 => by dsimp only at h2; omega⟩
 ·split
  ·rename_i h2
   simp only [Bool.and_eq_true, decide_eq_true_eq, beq_iff_eq] at h2
   split
   ·rename_i h3
    simp only [Bool.and_eq_true, decide_eq_true_eq] at h3
    refine ⟨.inr ?_, by dsimp only; omega, fun k h1 h4 => ?_⟩
    ·exact vr_of _ h3.2
    ·rcases (by dsimp only at h4; omega : k = pos + 1 ∨ k = pos + 2) with rfl | rfl <;> omega
   ·exact ⟨.inl rfl, by dsimp only; omega, fun k h1 h2 => by dsimp only at h2; omega⟩
  ·split
   ·rename_i h2
    simp only [Bool.and_eq_true, decide_eq_true_eq, beq_iff_eq] at h2
    split
    ·rename_i h3
     simp only [Bool.and_eq_true, decide_eq_true_eq] at h3
     refine ⟨.inr ?_, by dsimp only; omega, fun k h1 h4 => ?_⟩
     ·exact vr_of _ h3.2
     ·rcases (by dsimp only at h4; omega : k = pos + 1 ∨ k = pos + 2 ∨ k = pos + 3) with rfl | rfl | rfl <;> omega
    ·exact ⟨.inl rfl, by dsimp only; omega, fun k h1 h2 => by dsimp only at h2; omega⟩
   ·exact ⟨.inl rfl, by dsimp only; omega, fun k h1 h2 => by dsimp only at h2; omega⟩
theorem Kp.iterAt {X : List Nat} {a w : World} (h : Kp X a w) (k : Nat) (hk : a.heap.size ≤ k) (s : ByteArray) (pos : Nat) : Kp X a (w.iterAt k s pos) := by
 refine ⟨h.os, h.tape, h.output, ?_, fun i hi hx => ?_⟩
 ·show _ ≤ (w.heap.setIfInBounds k _).size
  rw [Array.size_setIfInBounds]; exact h.size
 ·show (w.heap.setIfInBounds k _)[i]? = _
  rw [Array.getElem?_setIfInBounds_ne (by omega)]; exact h.block i hi hx
theorem iterAt_at (w : World) (k : Nat) (s : ByteArray) (i pos : Nat) (h : w.heap[k]? = some (.stringIter s i)) : (w.iterAt k s pos).heap[k]? = some (.stringIter s pos) := by
 show (w.heap.setIfInBounds k _)[k]? = _
 rw [Array.getElem?_setIfInBounds_self]
 rw [if_pos (lt_of_some h)]
theorem no_high {s : ByteArray} {ch : List UInt8} {i d : Nat} (hno : Lib.NoAny s.data.toList ch i) (hch : ∀ (j : Nat) b, ch[j]? = some b → b.toNat < 128) (h : ∀ k, i ≤ k → k < i + d → 128 ≤ (s.get! k).toNat) (hd : i + d ≤ s.size) : Lib.NoAny s.data.toList ch (i + d) := by
 intro j b hj hb
 by_cases hji : j < i
 ·exact hno j b hji hb
 ·have hjs : j < s.size := by omega
  have h1 := h j (by omega) hj
  have h2 : s.get! j = s[j] := by have := get_at s j hjs; rwa [Nat.add_zero] at this
  have h3 : s.data.toList[j]? = some s[j] := Lib.data_getElem? s j hjs
  rw [h3] at hb
  obtain rfl := Option.some.inj hb
  cases hc : ch.contains s[j]
  ·rfl
  ·have hm : s[j] ∈ ch := by simpa using hc
   obtain ⟨k, hk⟩ := List.mem_iff_getElem?.1 hm
   have := hch k _ hk
   rw [h2] at h1
   omega
set_option maxRecDepth 1000000 in
set_option maxHeartbeats 8000000 in
theorem index_short (s chars : ByteArray) (w : World) (h8 : s.size ≤ 8) (h2 : 2 ≤ chars.size) (hcs : chars.size ≤ 100) (hac : ∀ (j : Nat) b, chars.data.toList[j]? = some b → b.toNat < 128) :
   Calls Tryz.prog 67 #[.string s, .string chars] w (InK (Lib.indexAny s.data.toList chars.data.toList) w) := by
 have hemp : chars.toList.isEmpty = false := by
  rw [Lib.toList_data]
  cases h : chars.data.toList with
  | nil => have := Lib.size_eq chars; rw [h, List.length_nil] at this; omega
  | cons _ _ => rfl
 have hn1 : ((chars.size : Int) == 1) = false := beq_eq_false_iff_ne.2 (by omega)
 have h8z : decide ((8 : Int) < (s.size : Int)) = false := decide_eq_false (by omega)
 have HSh := Lib.hid (fun wz => (by have h := Tryz.strings_shouldUseASCIISet (s.size : Int) wz; rw [h8z] at h; exact h : Calls Tryz.prog 114 #[.int .i64 (s.size : Int)] wz fun e w' => e = .returned (.bool false) ∧ w' = wz))
 have HA := Lib.hid hac;have H2 := Lib.hid h2;have Hcs := Lib.hid hcs
 have h8' : (s.size : Int) ≤ 8 := by omega
 obtain ⟨B, hB⟩ : ∃ B, w.heap.size = B := ⟨_, rfl⟩
 have HB := Lib.hid hB;clear hac h2 hcs h8z
 go_enter Tryz.func67, Tryz.ntmps67
 go_wp2_with fail
 refine (HSh.out _).mono ?_
 rintro e w1 ⟨rfl, hw⟩
 obtain rfl := hw.symm
 go_wp2_with fail
 go_loopg [9, 10] s.size (fun g _ _ wx => ∃ i : Nat, i + g = s.size ∧ wx.heap[B]? = some (.stringIter s i) ∧ Kp [] w wx ∧ Lib.NoAny s.data.toList chars.data.toList i)
 case atStart => exact ⟨0, by omega, by rw [← hB]; exact World.iter_heap w s 0, Kp.iter _ _ _, Lib.NoAny.zero _ _⟩
 case round =>
  obtain ⟨i, hig, hit, hK, hno⟩ := hrel
  have HN := Lib.hid hno;have HK := Lib.hid hK;have Hit := Lib.hid hit;clear hno hK
  by_cases hi : i < s.size
  case neg =>
   have hnx := fun ty => Lib.run_next_end_at (P := Tryz.prog) wr B s i ty hit hi
   have HF := Lib.hid (Lib.indexAny_none (by have h := HN.out; rw [show i = s.size by omega] at h; rw [← Lib.size_eq]; exact h) : Lib.indexAny s.data.toList chars.data.toList = -1)
   clear hit
   go_wp2_with fail
   go_ret
   rw [HF.out]
   exact ⟨rfl, HK.out⟩
  case pos =>
   obtain ⟨x, hx⟩ : ∃ x : UInt8, s[i]'hi = x := ⟨_, rfl⟩
   have Hx := Lib.hid (by rw [← hx]; exact Lib.data_getElem? s i hi : s.data.toList[i]? = some x)
   have hBw : w.heap.size ≤ B := by omega
   by_cases hx128 : x.toNat < 128
   ·have hnx := fun ty => Lib.run_next_ascii_at (P := Tryz.prog) wr B s i ty hit hi (by rw [hx]; exact hx128)
    rw [hx] at hnx
    obtain ⟨w2, hw2⟩ : ∃ w2, wr.iterAt B s (i + 1) = w2 := ⟨_, rfl⟩
    rw [hw2] at hnx
    have K2 := Lib.hid (show Kp [] w w2 from by rw [← hw2]; exact HK.out.iterAt B hBw s _)
    have I2 := Lib.hid (show w2.heap[B]? = some (.stringIter s (i + 1)) from by rw [← hw2]; exact iterAt_at wr B s i _ hit)
    have HIR := Lib.hid (fun wz => (by have h := Tryz.strings_IndexRune_ascii chars (x.toNat : Int) wz (by omega) (by omega); rw [show ((x.toNat : Int)).toNat.toUInt8 = x by simp] at h; exact h : Calls Tryz.prog 113 #[.string chars, .int .i32 (x.toNat : Int)] wz fun e w' => e = .returned (.int .i64 (Lib.indexByte chars.data.toList x)) ∧ w' = wz))
    have hcon := Lib.contains_iff_indexByte chars.data.toList x
    obtain ⟨z, hz⟩ : ∃ z, Lib.indexByte chars.data.toList x = z := ⟨_, rfl⟩
    rw [hz] at HIR hcon
    clear hit hw2 hz hx
    cases hin : chars.data.toList.contains x
    ·rw [hin] at hcon
     have hlt : ¬ ((0 : Int) ≤ z) := of_decide_eq_false hcon.symm
     clear hcon
     go_wp2_with fail
     refine (HIR.out _).mono ?_
     rintro e w3 ⟨rfl, hw⟩
     obtain rfl := hw.symm
     go_wp2_with fail
     go_roundg (s.size - (i + 1))
     case measure => omega
     case rel => exact ⟨i + 1, by omega, I2.out, K2.out, HN.out.succ Hx.out hin⟩
    ·rw [hin] at hcon
     have hge : (0 : Int) ≤ z := of_decide_eq_true hcon.symm
     have HF := Lib.hid (Lib.indexAny_hit HN.out Hx.out hin : Lib.indexAny s.data.toList chars.data.toList = i)
     clear hcon
     go_wp2_with fail
     refine (HIR.out _).mono ?_
     rintro e w3 ⟨rfl, hw⟩
     obtain rfl := hw.symm
     go_wp2_with fail
     go_ret
     rw [HF.out]
     exact ⟨rfl, K2.out⟩
   ·have hd := decode_high s i hi (by rw [hx]; omega)
    obtain ⟨hd1, hd2, hd3⟩ := decode_hi s i hi (by rw [hx]; omega)
    have hnx := fun ty => Lib.run_next_any_at (P := Tryz.prog) wr B s i ty hit hi
    obtain ⟨r, d, hrd⟩ : ∃ r d, Utf8.decode s i = (r, d) := ⟨_, _, rfl⟩
    rw [hrd] at hd hd1 hd2 hd3 hnx
    dsimp only at hd hd1 hd2 hd3 hnx
    have hno2 : Lib.NoAny s.data.toList chars.data.toList (i + d) := no_high HN.out HA.out (fun k h1 h3 => by
     rcases Nat.eq_or_lt_of_le h1 with h4 | h4
     ·rw [← h4]
      have h2 : s.get! i = s[i] := by have := get_at s i hi; rwa [Nat.add_zero] at this
      rw [h2, hx]; omega
     ·exact hd3 k h4 h3) hd2
    have HN2 := Lib.hid hno2
    have HIR := Lib.hid (fun wz => (by
     by_cases hr : r = 65533
     ·rw [hr]; exact irune_err chars wz HA.out
     ·exact irune_high chars (r : Int) wz Hcs.out HA.out (by omega) (by omega) (by rcases hd1 with h | h; exact absurd h hr; exact h) : Calls Tryz.prog 113 #[.string chars, .int .i32 (r : Int)] wz fun e w' => e = .returned (.int .i64 (-1)) ∧ Kp [] wz w'))
    obtain ⟨w2, hw2⟩ : ∃ w2, wr.iterAt B s (i + d) = w2 := ⟨_, rfl⟩
    rw [hw2] at hnx
    have K2 := Lib.hid (show Kp [] w w2 from by rw [← hw2]; exact HK.out.iterAt B hBw s _)
    have I2 := Lib.hid (show w2.heap[B]? = some (.stringIter s (i + d)) from by rw [← hw2]; exact iterAt_at wr B s i _ hit)
    have Hd := Lib.hid hd.2;have Hd2 := Lib.hid hd2;clear hit hw2 hx hd hd1 hd2 hd3 hno2 hrd
    go_wp2_with fail
    refine (HIR.out _).mono ?_
    rintro e w3 ⟨rfl, hK3⟩
    have K3 := Lib.hid (K2.out.trans hK3)
    have I3 := Lib.hid ((hK3.block B (lt_of_some I2.out) (by simp)).trans I2.out)
    clear hK3
    go_wp2_with fail
    go_roundg (s.size - (i + d))
    case measure => have := Hd.out; have := Hd2.out; omega
    case rel => exact ⟨i + d, by have := Hd2.out; omega, I3.out, K3.out, HN2.out⟩
end Ad
end Go.Proofs.YtbcaindpbeaheaaGreatDoor
