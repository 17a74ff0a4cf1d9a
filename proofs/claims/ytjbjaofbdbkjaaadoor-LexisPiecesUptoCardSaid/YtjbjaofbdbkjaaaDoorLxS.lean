/- Contracts of piece (both packages) and skip. Condition: a text has at most 2^21 bytes. -/
import Derived.Test.YtjbjaofbdbkjaaaDoorLxRU
import Derived.Test.YtjbjaofbdbkjaaaDoorLxQ
namespace Go.Proofs.YtjbjaofbdbkjaaaDoor
namespace Lx
open Go.RowKit

/-- The piece between two offsets. -/
def pcOf (l : List UInt8) (a b : Nat) : Nat × List UInt8 := (a + runL blankI ((l.take b).drop a), Lib.trimS ((l.take b).drop a) blk)
theorem sizePiece : (Tryd.prog.info? 43).map (·.size) = some 2 := by
  obtain ⟨i0, hi, hz0, hz1, hz2⟩ := info_parts infoPiece
  rw [hi, Option.map_some, hz1]
set_option maxRecDepth 100000 in
set_option maxHeartbeats 2000000 in
theorem rpiece_any (s : ByteArray) (a b : Nat) (w : World) (hs : s.size ≤ 2097152) (hab : a ≤ b) (hb : b ≤ s.size) :
    Calls Tryd.prog 57 #[.string s, .int .i64 a, .int .i64 b] w fun e w' => e = .returned (.agg #[.int .i64 (pcOf s.data.toList a b).1, .string ⟨(pcOf s.data.toList a b).2.toArray⟩]) ∧ Below w.heap.size w w' := by
  have hx : (s.extract a b).size ≤ 2097152 := by simp; omega
  obtain ⟨t, ht⟩ : ∃ t, s.extract a b = t := ⟨_, rfl⟩
  rw [ht] at hx
  have hrl := runL_le blankI t.data.toList
  rw [len_list] at hrl
  have htl : t.data.toList = (s.data.toList.take b).drop a := by rw [← ht, Lib.extract_data]; try rw [List.drop_take]
  have HP := Lib.hid (by unfold pcOf; rw [← htl] : pcOf s.data.toList a b = (a + runL blankI t.data.toList, Lib.trimS t.data.toList blk))
  have hbz := Lib.hid (by unfold bhd; simp : bhd blankI t 0 = runL blankI t.data.toList)
  have Ht := Lib.hid ht
  clear ht htl
  rw [HP.out]
  go_enter Tryd.func57, Tryd.ntmps57
  go_wp2_with fail
  rw [Ht.out]
  refine (rblanks_any t 0 _ (by unfold maxLen; omega)).mono ?_
  rintro e w' ⟨rfl, rfl⟩
  rw [bhd_zero, hbz.out]
  go_wp2_with fail
  refine (rtrim_any t _ (by omega)).mono ?_
  rintro e w' ⟨rfl, rfl⟩
  go_wp2_with fail
  refine bodyPost_ret (results_cell_row rfl _ _ w.heap.size 43 _ (0, 0) _ rfl (World.alloc_heap_new w _) Tryd.underlying43 rfl sizePiece) rfl ?_
  exact ⟨congrArg Ending.returned (by rw [Int.natCast_add]), (Below.refl _ w).alloc (Nat.le_refl _) _⟩

theorem trimRight_set (s : ByteArray) (w : World) (hs : s.size ≤ 9223372036854775807) :
    Calls Tryd.prog 72 #[.string s, .string ⟨#[32, 9]⟩] w fun e w' => e = .returned (.string ⟨(Lib.trimRightS s.data.toList blk).toArray⟩) ∧ Below w.heap.size w w' :=
  Any.strings_TrimRight_laid Tryd.lays162 (by kernel_rfl) s ⟨#[32, 9]⟩ w hs (by decide) (ascii_of_all (by decide))
theorem trim_of_left (l : List UInt8) : Lib.trimRightS (l.drop (runL blankI l)) blk = Lib.trimS l blk := by
  rw [drop_run, trimS_eq]
  have e : (blk.contains ·) = bb := by funext c; exact blk_contains c
  unfold Lib.trimRightS
  rw [e]; rfl

set_option maxRecDepth 100000 in
set_option maxHeartbeats 2000000 in
theorem piece_any (s : ByteArray) (a b : Nat) (w : World) (hs : s.size ≤ 2097152) (hab : a ≤ b) (hb : b ≤ s.size) :
    Calls Tryd.prog 55 #[.string s, .int .i64 a, .int .i64 b] w fun e w' => e = .returned (.agg #[.int .i64 (pcOf s.data.toList a b).1, .string ⟨(pcOf s.data.toList a b).2.toArray⟩]) ∧ Below w.heap.size w w' := by
  have hx : (s.extract 0 b).size = b := by simp; try omega
  obtain ⟨t, ht⟩ : ∃ t, s.extract 0 b = t := ⟨_, rfl⟩
  rw [ht] at hx
  have htl : t.data.toList = s.data.toList.take b := by rw [← ht, Lib.extract_data]; rfl
  have hrl := runL_le blankI ((s.data.toList.take b).drop a)
  simp only [List.length_drop, List.length_take, len_list] at hrl
  obtain ⟨n, hn⟩ : ∃ n, a + runL blankI ((s.data.toList.take b).drop a) = n := ⟨_, rfl⟩
  have hbz : bhd blankI t (min (a : Int).toNat t.size) = n := by
    rw [Int.toNat_natCast, Nat.min_eq_left (by omega)]
    unfold bhd
    rw [htl, hn]
  have hy : (s.extract n b).data.toList = ((s.data.toList.take b).drop a).drop (runL blankI ((s.data.toList.take b).drop a)) := by
    rw [Lib.extract_data, List.drop_drop, hn, List.drop_take]
  have hys : (s.extract n b).size ≤ 2097152 := by simp; omega
  obtain ⟨y, hyy⟩ : ∃ y, s.extract n b = y := ⟨_, rfl⟩
  rw [hyy] at hy hys
  have HP := Lib.hid (by unfold pcOf; rw [hn, ← trim_of_left, ← hy] : pcOf s.data.toList a b = (n, Lib.trimRightS y.data.toList blk))
  have Hbz := Lib.hid hbz
  have Ht := Lib.hid ht
  have Hy := Lib.hid hyy
  have hnb : n ≤ b := by omega
  clear ht htl hbz hyy hy hn
  rw [HP.out]
  go_enter Tryd.func55, Tryd.ntmps55
  go_wp2_with fail
  rw [Ht.out]
  refine (blanks_any t a _ (by unfold maxLen; omega)).mono ?_
  rintro e w' ⟨rfl, rfl⟩
  rw [Hbz.out]
  go_wp2_with fail
  rw [Hy.out]
  refine (trimRight_set y _ (by omega)).mono ?_
  rintro e w1 ⟨rfl, hB1⟩
  have hg := (hB1.block w.heap.size (by simp)).trans (World.alloc_heap_new w _)
  have hc0 := Lib.cell_of_heap hg 0
  have hc1 := Lib.cell_of_heap hg 1
  have hf0 : w1.frozen? ⟨w.heap.size, 0, none⟩ = false := by simp [World.frozen?, hg]
  have hf1 : w1.frozen? ⟨w.heap.size, 1, none⟩ = false := by simp [World.frozen?, hg]
  have Hg := Lib.hid hg
  clear hg
  simp at hc0 hc1
  go_wp2_with fail
  refine bodyPost_ret (results_cell_row rfl _ _ w.heap.size 43 #[.int .i64 n, .string ⟨(Lib.trimRightS y.data.toList blk).toArray⟩] (0, 0) _ rfl ?_ Tryd.underlying43 rfl sizePiece) rfl ?_
  · have := Hg.out
    simp [World.setCell, Array.getElem?_modify, this]
  · exact ⟨rfl, ((((Below.refl _ w).alloc (Nat.le_refl _) _).trans (hB1.mono (by simp))).setCell (Nat.le_refl _) _).setCell (Nat.le_refl _) _⟩

/-! ### skip -/
def skR (l : List UInt8) (k : Nat) : Nat × Int :=
  match l.drop k with
  | [] => (k, 6)
  | c :: t => if c.toNat = 34 then qEnd t (k + 1) else if c.toNat = 60 then (if Lib.indexByte (c :: t) 62 < 0 then (l.length, 6) else (k + (Lib.indexByte (c :: t) 62).toNat + 1, 0)) else if c.toNat = 62 then (k, 5) else (k + 1, 0)
theorem indexByte_lt (l : List UInt8) (c : UInt8) : Lib.indexByte l c < l.length ∧ -1 ≤ Lib.indexByte l c := by
  induction l with
  | nil => simp [Lib.indexByte]
  | cons d t ih =>
    unfold Lib.indexByte
    simp only [List.length_cons]
    split
    · omega
    · split <;> omega
theorem skR_at (s : ByteArray) (k : Nat) (h : k < s.size) : skR s.data.toList k = if s[k].toNat = 34 then qEnd (s.data.toList.drop (k + 1)) (k + 1) else if s[k].toNat = 60 then (if Lib.indexByte (s.data.toList.drop k) 62 < 0 then (s.size, 6) else (k + (Lib.indexByte (s.data.toList.drop k) 62).toNat + 1, 0)) else if s[k].toNat = 62 then (k, 5) else (k + 1, 0) := by
  unfold skR
  rw [drop_step s k h, len_list]
theorem skR_ok (s : ByteArray) (k : Nat) (h : k < s.size) (h2 : (skR s.data.toList k).2 = 0) : k < (skR s.data.toList k).1 ∧ (skR s.data.toList k).1 ≤ s.size := by
  rw [skR_at s k h] at h2 ⊢
  by_cases h34 : s[k].toNat = 34
  · rw [if_pos h34] at h2 ⊢
    have := qEnd_part _ _ (k + 1) (qEnd (s.data.toList.drop (k + 1)) (k + 1)).1 (Nat.le_refl _) (by rw [← h2])
    rw [List.length_drop, len_list] at this
    omega
  · rw [if_neg h34] at h2 ⊢
    by_cases h60 : s[k].toNat = 60
    · rw [if_pos h60] at h2 ⊢
      have hi := (indexByte_lt (s.data.toList.drop k) 62).1
      rw [List.length_drop, len_list] at hi
      split at h2
      · simp at h2
      · rename_i hn
        rw [if_neg hn]
        dsimp only
        omega
    · rw [if_neg h60] at h2 ⊢
      split at h2
      · simp at h2
      · rename_i hn
        rw [if_neg hn]
        dsimp only
        omega
theorem uq_at (s : ByteArray) (k : Nat) (h : k < s.size) (h34 : s[k].toNat = 34) : uqN s.data.toList k = (qEnd (s.data.toList.drop (k + 1)) (k + 1)).1 ∧ uqE s.data.toList k = (qEnd (s.data.toList.drop (k + 1)) (k + 1)).2 := by
  have ho : opE 34 s.data.toList k = 0 := by
    unfold opE
    rw [if_neg (by rw [len_list]; omega), Int.toNat_natCast, drop_step s k h]
    dsimp only
    rw [if_pos (by omega)]
  constructor
  · unfold uqN; rw [if_neg (by rw [ho]; simp)]; rfl
  · unfold uqE; rw [if_neg (by rw [ho]; simp)]; rfl

set_option maxRecDepth 100000 in
set_option maxHeartbeats 1000000 in
theorem skip_any (s : ByteArray) (k : Nat) (w : World) (hs : s.size ≤ 2097152) (hk : k < s.size) :
    Calls Tryd.prog 56 #[.string s, .int .i64 k] w (Ret (.tuple #[.int .i64 (skR s.data.toList k).1, .int .u8 (skR s.data.toList k).2]) w) := by
  have Hs := Lib.hid (skR_at s k hk)
  obtain ⟨R, hR⟩ : ∃ R, skR s.data.toList k = R := ⟨_, rfl⟩
  rw [hR] at Hs ⊢
  clear hR
  by_cases h34 : s[k].toNat = 34
  · have HR := Lib.hid (by rw [Hs.out, if_pos h34] : R = qEnd (s.data.toList.drop (k + 1)) (k + 1))
    have Hu := Lib.hid (uq_at s k hk h34)
    have b34 : ((s[k].toNat : Int) == 34) = true := by simp; omega
    clear h34
    go_enter Tryd.func56, Tryd.ntmps56
    go_wp2_with fail
    refine (quotedEnd_any s k _ (by omega)).mono ?_
    rintro e w' ⟨rfl, rfl⟩
    rw [Hu.out.1, Hu.out.2, ← HR.out]
    go_wp2_with fail
    go_ret2
    exact ⟨rfl, rfl⟩
  · have b34 : ((s[k].toNat : Int) == 34) = false := by simp; omega
    by_cases h60 : s[k].toNat = 60
    · have b60 : ((s[k].toNat : Int) == 60) = true := by simp; omega
      obtain ⟨t, ht⟩ : ∃ t, s.extract k s.size = t := ⟨_, rfl⟩
      have htl : t.data.toList = s.data.toList.drop k := by rw [← ht, Lib.extract_data, List.take_of_length_le (by simp)]
      obtain ⟨x, hx⟩ : ∃ x, Lib.indexByte (s.data.toList.drop k) 62 = x := ⟨_, rfl⟩
      have hi := indexByte_lt (s.data.toList.drop k) 62
      rw [List.length_drop, len_list, hx] at hi
      have Hx := Lib.hid (by rw [htl]; exact hx : Lib.indexByte t.data.toList (62 : Int).toNat.toUInt8 = x)
      have HR := Lib.hid (by rw [Hs.out, if_neg h34, if_pos h60, hx] : R = if x < 0 then (s.size, 6) else (k + x.toNat + 1, 0))
      have Ht := Lib.hid ht
      clear h34 h60 ht htl hx
      go_enter Tryd.func56, Tryd.ntmps56
      go_wp2_with fail
      rw [Ht.out]
      refine (Tryd.strings_IndexByte t 62 _).mono ?_
      rintro e w' ⟨rfl, hw⟩
      obtain rfl := hw.symm
      rw [Hx.out]
      by_cases hneg : x < 0
      · have HR' := Lib.hid (by rw [HR.out, if_pos hneg] : R = (s.size, 6))
        go_wp2_with fail
        go_ret2
        exact ⟨by rw [HR'.out]; rfl, rfl⟩
      · have HR' := Lib.hid (by rw [HR.out, if_neg hneg] : R = (k + x.toNat + 1, 0))
        have hx1 : 0 ≤ x := by omega
        have hx2 : x ≤ 2097152 := by omega
        go_wp2_with fail
        go_ret2
        exact ⟨by rw [HR'.out]; exact congrArg (fun y => Ending.returned (.tuple #[.int .i64 y, .int .u8 0])) (by omega), rfl⟩
    · have b60 : ((s[k].toNat : Int) == 60) = false := by simp; omega
      by_cases h62 : s[k].toNat = 62
      · have b62 : ((s[k].toNat : Int) == 62) = true := by simp; omega
        have HR' := Lib.hid (by rw [Hs.out, if_neg h34, if_neg h60, if_pos h62] : R = (k, 5))
        clear h34 h60 h62
        go_enter Tryd.func56, Tryd.ntmps56
        go_wp2_with fail
        go_ret2
        exact ⟨by rw [HR'.out]; rfl, rfl⟩
      · have b62 : ((s[k].toNat : Int) == 62) = false := by simp; omega
        have HR' := Lib.hid (by rw [Hs.out, if_neg h34, if_neg h60, if_neg h62] : R = (k + 1, 0))
        clear h34 h60 h62
        go_enter Tryd.func56, Tryd.ntmps56
        go_wp2_with fail
        go_ret2
        exact ⟨by rw [HR'.out]; rfl, rfl⟩
end Lx
end Go.Proofs.YtjbjaofbdbkjaaaDoor
