/- Texts of one set of library modules: LxRU, LxS, LxSpSpec, LxSp, LxJSpec, LxLSpec, LxPcSpec. -/
import Derived.Test.YtbcaindpbeaheaaGreatDoorZ27
import Derived.Test.YtbcaindpbeaheaaGreatDoorZ29
import Derived.Test.YtbcaindpbeaheaaGreatDoorZ7
import Derived.Test.YtbcaindpbeaheaaGreatDoorZ5
import Derived.Lib.BufferRead
import Derived.Laws.IdiomStrings
import Derived.Maps.AppendAt
import Derived.Test.YtbcaindpbeaheaaGreatDoorZ30
import Derived.Test.YtbcaindpbeaheaaGreatDoorZ24
import Derived.Test.YtbcaindpbeaheaaGreatDoorZ1
namespace Go.Proofs.YtbcaindpbeaheaaGreatDoor
namespace Lx
open Go.RowKit
def RInv (l : List UInt8) (k : Nat) (S : USt) : Prop :=
 k ≤ l.length ∧ (∃ pre, foldU pre = S ∧ pre ++ physL (l.drop k) k = physL l 0) ∧ stray l 0 = stray (l.drop k) k ∧ S.tx.length ≤ k ∧ S.ls.length ≤ k ∧ (0 < k → S.ls ≠ [] ∧ firstBlank l = false ∧ ∃ a, l.take k = a ++ [13, 10])
theorem RInv.start (l : List UInt8) : RInv l 0 ⟨[], []⟩ := ⟨Nat.zero_le _, ⟨[], rfl, rfl⟩, rfl, Nat.le_refl _, Nat.le_refl _, fun h => absurd h (Nat.lt_irrefl _)⟩
theorem RInv.done {l : List UInt8} {k : Nat} {S : USt} (h : RInv l k S) (hk : l.length ≤ k) : unfL l = (endL S).ls ∧ unfAt l = 0 ∧ unfE l = 0 := by
 obtain ⟨h1, ⟨pre, h2, h3⟩, h4, _, _, h6⟩ := h
 have hd : l.drop k = [] := List.drop_eq_nil_of_le hk
 rw [hd, physL_nil, List.append_nil] at h3
 rw [hd, stray_nil] at h4
 have hkl : k = l.length := by omega
 have hfb : firstBlank l = false := by
  rcases Nat.eq_zero_or_pos k with h0 | h0
  ·have : l = [] := List.eq_nil_of_length_eq_zero (by omega)
   rw [this]; rfl
  ·exact (h6 h0).2.1
 have hsf : (!l.isEmpty && !Lib.hasSuffix l crlf) = false := by
  rcases Nat.eq_zero_or_pos k with h0 | h0
  ·have : l = [] := List.eq_nil_of_length_eq_zero (by omega)
   rw [this]; rfl
  ·obtain ⟨a, ha⟩ := (h6 h0).2.2
   rw [List.take_of_length_le hk] at ha
   have : Lib.hasSuffix l crlf = true := by
    unfold Lib.hasSuffix
    rw [List.isSuffixOf_iff_suffix]
    exact ⟨a, ha.symm⟩
   rw [this]; simp
 obtain ⟨u1, u2, u3⟩ := unf_ok l hfb (by rw [h4, hkl]) hsf
 exact ⟨by rw [u1, ← h3, h2], u2, u3⟩
theorem RInv.six {l : List UInt8} {k j : Nat} {S : USt} (h : RInv l k S) (hf : k = 0 → firstBlank l = false) (hk : k < l.length) (he : endR (l.drop k) k = (j, 6)) : unfL l = [] ∧ unfAt l = j ∧ unfE l = 6 ∧ j = l.length := by
 obtain ⟨h1, _, h4, _, _, h6⟩ := h
 obtain ⟨e1, e2, e3⟩ := endR_six _ _ _ he
 rw [List.length_drop] at e1 e2
 have hfb : firstBlank l = false := by
  rcases Nat.eq_zero_or_pos k with h0 | h0
  ·exact hf h0
  ·exact (h6 h0).2.1
 have hs : stray l 0 = l.length := by rw [h4, e2]; omega
 have hne : l.drop k ≠ [] := by intro e; have := congrArg List.length e; simp at this; omega
 have hsf : Lib.hasSuffix l crlf = false := by
  rcases Nat.eq_zero_or_pos k with h0 | h0
  ·rw [h0] at e3; exact suf_none l e3
  ·obtain ⟨a, ha⟩ := (h6 h0).2.2
   have : l = a ++ [13, 10] ++ l.drop k := by rw [← ha, List.take_append_drop]
   rw [this, suf_drop _ _ hne]
   exact suf_none _ e3
 have hie : l.isEmpty = false := by cases l with | nil => simp at hk | cons => rfl
 refine ⟨?_, ?_, ?_, by omega⟩
 ·unfold unfL; rw [hfb, hs, hsf, hie]; simp
 ·unfold unfAt; rw [hfb, hs, hsf, hie]; simp; omega
 ·unfold unfE; rw [hfb, hs, hsf, hie]; simp
theorem row_cont (S : USt) (k : Nat) (p : List UInt8) (hf : fresh p = false) : stepU S (k, p) = ⟨S.ls, join S.tx (Lib.trimS p blk)⟩ := by
 have ha : addL S (k, p) = S := by simp [addL, hf]
 unfold stepU; rw [ha]
theorem RInv.step {l : List UInt8} {k j : Nat} {S : USt} (h : RInv l k S) (hf : k = 0 → firstBlank l = false) (hk : k < l.length) (he : endR (l.drop k) k = (j, 0)) :
   k ≤ j ∧ j + 2 ≤ l.length ∧ fresh ((l.drop k).take (j - k)) = (!blankI (l[k]'hk).toNat) ∧ RInv l (j + 2) (stepU S (k, (l.drop k).take (j - k))) := by
 obtain ⟨h1, ⟨pre, h2, h3⟩, h4, h5, h7, h6⟩ := h
 obtain ⟨e1, e2, e3, e4⟩ := endR_zero _ _ _ he
 rw [List.length_drop] at e2
 have hne : l.drop k ≠ [] := by intro e; have := congrArg List.length e; simp at this; omega
 have hcut : (Lib.cut (l.drop k) crlf).1 = (l.drop k).take (j - k) := by
  unfold Lib.cut; rw [e3, if_pos (by omega)]; simp
 obtain ⟨p, hp⟩ : ∃ p, (l.drop k).take (j - k) = p := ⟨_, rfl⟩
 have hpl : p.length = j - k := by rw [← hp]; simp; omega
 have hph : physL (l.drop k) k = (k, p) :: physL (l.drop (j + 2)) (j + 2) := by
  rw [physL_cons _ _ hne, hcut, hp, hpl, List.drop_drop]
  have : k + (j - k + 2) = j + 2 := by omega
  rw [this]
 have hd : l.drop k = l[k] :: l.drop (k + 1) := List.drop_eq_getElem_cons hk
 have hfr : fresh p = (!blankI (l[k]'hk).toNat) := by
  rcases Nat.eq_zero_or_pos (j - k) with h0 | h0
  ·have : p = [] := List.eq_nil_of_length_eq_zero (by omega)
   rw [this]
   have hpre : crlf.isPrefixOf (l.drop k) = true := by
    have := e3
    rw [hd, index_cons] at this
    rw [hd]
    by_cases hpp : crlf.isPrefixOf (l[k] :: l.drop (k + 1)) = true
    ·exact hpp
    ·rw [if_neg hpp] at this
     have hg := Lib.index_ge (l.drop (k + 1)) crlf
     split at this
     ·omega
     ·rename_i hq; rw [beq_iff_eq] at hq; omega
   rw [hd] at hpre
   obtain ⟨u, hu, _⟩ := crlf_two _ _ hpre
   rw [hu]; rfl
  ·rw [← hp, hd]
   obtain ⟨n, hn⟩ : ∃ n, j - k = n + 1 := ⟨j - k - 1, by omega⟩
   rw [hn]; rfl
 rw [hp]
 have hsl := stepU_len S (k, p)
 dsimp only at hsl
 have hfb : firstBlank l = false := by
  rcases Nat.eq_zero_or_pos k with h0 | h0
  ·exact hf h0
  ·exact (h6 h0).2.1
 refine ⟨e1, by omega, hfr, by omega, ⟨pre ++ [(k, p)], by rw [foldU_snoc, h2], ?_⟩, ?_, by omega, by omega, fun _ => ⟨?_, hfb, ?_⟩⟩
 ·rw [← h3, hph, List.append_assoc]; rfl
 ·rw [h4, e4, List.drop_drop]
  have : k + (j + 2 - k) = j + 2 := by omega
  rw [this]
 ·cases hfp : fresh p
  ·have hS : S.ls ≠ [] := by
     rcases Nat.eq_zero_or_pos k with h0 | h0
     ·exfalso
      have hb : blankI (l[k]'hk).toNat = true := by rw [hfp] at hfr; simpa using hfr.symm
      subst h0
      rw [List.drop_zero] at hd
      rw [hd] at hfb
      have : blankI (l[0]'hk).toNat = false := hfb
      rw [hb] at this; cases this
     ·exact (h6 h0).1
   rw [row_cont S k p hfp]; exact hS
  ·have ha : addL S (k, p) = ⟨(endL S).ls ++ [(k, [])], (endL S).tx⟩ := by simp [addL, hfp]
   unfold stepU; rw [ha]; simp
 ·have hjd : l.drop j = [13, 10] ++ l.drop (j + 2) := by
    have hlj : ∀ (m : List UInt8) (i x : Nat), endR m i = (x, 0) → crlf.isPrefixOf (m.drop (x - i)) = true := by
     intro m
     induction m with
     | nil => intro i x hx; rw [endR_nil] at hx; simp at hx
     | cons c t ih =>
       intro i x hx
       cases hpp : crlf.isPrefixOf (c :: t)
       ·cases hc : (ctlI c.toNat && !(c :: t == [13]))
        ·rw [endR_next c t i hpp hc] at hx
         have h9 := (endR_zero _ _ _ hx).1
         have : x - i = (x - (i + 1)) + 1 := by omega
         rw [this, List.drop_succ_cons]
         exact ih _ _ hx
        ·rw [endR_bad c t i hpp hc] at hx; simp at hx
       ·rw [endR_crlf c t i hpp] at hx
        simp at hx; subst hx; simpa using hpp
    have := hlj _ _ _ he
    rw [List.drop_drop, show k + (j - k) = j by omega] at this
    obtain ⟨u, hu⟩ := List.isPrefixOf_iff_prefix.1 this
    have h9 : l.drop (j + 2) = u := by rw [← List.drop_drop, ← hu]; rfl
    rw [h9]; exact hu.symm
  refine ⟨l.take j, ?_⟩
  rw [List.take_add, hjd]; simp
end Lx
end Go.Proofs.YtbcaindpbeaheaaGreatDoor
namespace Go.Proofs.YtbcaindpbeaheaaGreatDoor
namespace Lx
open Go.RowKit
def pcOf (l : List UInt8) (a b : Nat) : Nat × List UInt8 := (a + runL blankI ((l.take b).drop a), Lib.trimS ((l.take b).drop a) blk)
theorem sizePiece : (Tryz.prog.info? 70).map (·.size) = some 2 := by
 obtain ⟨i0, hi, hz0, hz1, hz2⟩ := info_parts infoPiece
 rw [hi, Option.map_some, hz1]
theorem trimRight_set (s : ByteArray) (w : World) (hs : s.size ≤ 9223372036854775807) :
   Calls Tryz.prog 101 #[.string s, .string ⟨#[32, 9]⟩] w fun e w' => e = .returned (.string ⟨(Lib.trimRightS s.data.toList blk).toArray⟩) ∧ Below w.heap.size w w' :=
 Any.strings_TrimRight_laid Tryz.lays162 (by kernel_rfl) s ⟨#[32, 9]⟩ w hs (by decide) (ascii_of_all (by decide))
theorem trim_of_left (l : List UInt8) : Lib.trimRightS (l.drop (runL blankI l)) blk = Lib.trimS l blk := by
 rw [drop_run, trimS_eq]
 have e : (blk.contains ·) = bb := by funext c; exact blk_contains c
 unfold Lib.trimRightS
 rw [e]; rfl
set_option maxRecDepth 100000 in
set_option maxHeartbeats 2000000 in
theorem piece_any (s : ByteArray) (a b : Nat) (w : World) (hs : s.size ≤ 2097152) (hab : a ≤ b) (hb : b ≤ s.size) :
   Calls Tryz.prog 61 #[.string s, .int .i64 a, .int .i64 b] w fun e w' => e = .returned (.agg #[.int .i64 (pcOf s.data.toList a b).1, .string ⟨(pcOf s.data.toList a b).2.toArray⟩]) ∧ Below w.heap.size w w' := by
 have hx : (s.extract 0 b).size = b := by simp; try omega
 obtain ⟨t, ht⟩ : ∃ t, s.extract 0 b = t := ⟨_, rfl⟩
 rw [ht] at hx
 have htl : t.data.toList = s.data.toList.take b := by rw [← ht, Lib.extract_data]; rfl
 have hrl := runL_le blankI ((s.data.toList.take b).drop a)
 simp only [List.length_drop, List.length_take, len_list] at hrl
 obtain ⟨n, hn⟩ : ∃ n, a + runL blankI ((s.data.toList.take b).drop a) = n := ⟨_, rfl⟩
 have hbz : bhd blankI t (min (a : Int).toNat t.size) = n := by
  rw [Int.toNat_natCast, Nat.min_eq_left (by omega)]
  unfold bhd
  rw [htl, hn]
 have hy : (s.extract n b).data.toList = ((s.data.toList.take b).drop a).drop (runL blankI ((s.data.toList.take b).drop a)) := by
  rw [Lib.extract_data, List.drop_drop, hn, List.drop_take]
 have hys : (s.extract n b).size ≤ 2097152 := by simp; omega
 obtain ⟨y, hyy⟩ : ∃ y, s.extract n b = y := ⟨_, rfl⟩
 rw [hyy] at hy hys
 have HP := Lib.hid (by unfold pcOf; rw [hn, ← trim_of_left, ← hy] : pcOf s.data.toList a b = (n, Lib.trimRightS y.data.toList blk))
 have Hbz := Lib.hid hbz;have Ht := Lib.hid ht;have Hy := Lib.hid hyy
 have hnb : n ≤ b := by omega
 clear ht htl hbz hyy hy hn
 rw [HP.out]
 go_enter Tryz.func61, Tryz.ntmps61
 go_wp2_with fail
 rw [Ht.out]
 refine (blanks_any t a _ (by unfold maxLen; omega)).mono ?_
 rintro e w' ⟨rfl, rfl⟩
 rw [Hbz.out]
 go_wp2_with fail
 rw [Hy.out]
 refine (trimRight_set y _ (by omega)).mono ?_
 rintro e w1 ⟨rfl, hB1⟩
 have hg := (hB1.block w.heap.size (by simp)).trans (World.alloc_heap_new w _)
 have hc0 := Lib.cell_of_heap hg 0;have hc1 := Lib.cell_of_heap hg 1
 have hf0 : w1.frozen? ⟨w.heap.size, 0, none⟩ = false := by simp [World.frozen?, hg]
 have hf1 : w1.frozen? ⟨w.heap.size, 1, none⟩ = false := by simp [World.frozen?, hg]
 have Hg := Lib.hid hg;clear hg
 simp at hc0 hc1
 go_wp2_with fail
 refine bodyPost_ret (results_cell_row rfl _ _ w.heap.size 70 #[.int .i64 n, .string ⟨(Lib.trimRightS y.data.toList blk).toArray⟩] (0, 0) _ rfl ?_ Tryz.underlying70 rfl sizePiece) rfl ?_
 ·have := Hg.out
  simp [World.setCell, Array.getElem?_modify, this]
 ·exact ⟨rfl, ((((Below.refl _ w).alloc (Nat.le_refl _) _).trans (hB1.mono (by simp))).setCell (Nat.le_refl _) _).setCell (Nat.le_refl _) _⟩
def skR (l : List UInt8) (k : Nat) : Nat × Int :=
 match l.drop k with
 | [] => (k, 6)
 | c :: t => if c.toNat = 34 then qEnd t (k + 1) else if c.toNat = 60 then (if Lib.indexByte (c :: t) 62 < 0 then (l.length, 6) else (k + (Lib.indexByte (c :: t) 62).toNat + 1, 0)) else if c.toNat = 62 then (k, 5) else (k + 1, 0)
theorem indexByte_lt (l : List UInt8) (c : UInt8) : Lib.indexByte l c < l.length ∧ -1 ≤ Lib.indexByte l c := by
 induction l with
 | nil => simp [Lib.indexByte]
 | cons d t ih =>
   unfold Lib.indexByte
   simp only [List.length_cons]
   split
   ·omega
   ·split <;> omega
theorem skR_at (s : ByteArray) (k : Nat) (h : k < s.size) : skR s.data.toList k = if s[k].toNat = 34 then qEnd (s.data.toList.drop (k + 1)) (k + 1) else if s[k].toNat = 60 then (if Lib.indexByte (s.data.toList.drop k) 62 < 0 then (s.size, 6) else (k + (Lib.indexByte (s.data.toList.drop k) 62).toNat + 1, 0)) else if s[k].toNat = 62 then (k, 5) else (k + 1, 0) := by
 unfold skR
 rw [drop_step s k h, len_list]
theorem skR_ok (s : ByteArray) (k : Nat) (h : k < s.size) (h2 : (skR s.data.toList k).2 = 0) : k < (skR s.data.toList k).1 ∧ (skR s.data.toList k).1 ≤ s.size := by
 rw [skR_at s k h] at h2 ⊢
 by_cases h34 : s[k].toNat = 34
 ·rw [if_pos h34] at h2 ⊢
  have := qEnd_part _ _ (k + 1) (qEnd (s.data.toList.drop (k + 1)) (k + 1)).1 (Nat.le_refl _) (by rw [← h2])
  rw [List.length_drop, len_list] at this
  omega
 ·rw [if_neg h34] at h2 ⊢
  by_cases h60 : s[k].toNat = 60
  ·rw [if_pos h60] at h2 ⊢
   have hi := (indexByte_lt (s.data.toList.drop k) 62).1
   rw [List.length_drop, len_list] at hi
   split at h2
   ·simp at h2
   ·rename_i hn
    rw [if_neg hn]
    dsimp only
    omega
  ·rw [if_neg h60] at h2 ⊢
   split at h2
   ·simp at h2
   ·rename_i hn
    rw [if_neg hn]
    dsimp only
    omega
theorem uq_at (s : ByteArray) (k : Nat) (h : k < s.size) (h34 : s[k].toNat = 34) : uqN s.data.toList k = (qEnd (s.data.toList.drop (k + 1)) (k + 1)).1 ∧ uqE s.data.toList k = (qEnd (s.data.toList.drop (k + 1)) (k + 1)).2 := by
 have ho : opE 34 s.data.toList k = 0 := by
  unfold opE
  rw [if_neg (by rw [len_list]; omega), Int.toNat_natCast, drop_step s k h]
  dsimp only
  rw [if_pos (by omega)]
 constructor
 ·unfold uqN; rw [if_neg (by rw [ho]; simp)]; rfl
 ·unfold uqE; rw [if_neg (by rw [ho]; simp)]; rfl
set_option maxRecDepth 100000 in
set_option maxHeartbeats 1000000 in
theorem skip_any (s : ByteArray) (k : Nat) (w : World) (hs : s.size ≤ 2097152) (hk : k < s.size) :
   Calls Tryz.prog 62 #[.string s, .int .i64 k] w (Ret (.tuple #[.int .i64 (skR s.data.toList k).1, .int .u8 (skR s.data.toList k).2]) w) := by
 have Hs := Lib.hid (skR_at s k hk)
 obtain ⟨R, hR⟩ : ∃ R, skR s.data.toList k = R := ⟨_, rfl⟩
 rw [hR] at Hs ⊢
 clear hR
 by_cases h34 : s[k].toNat = 34
 ·have HR := Lib.hid (by rw [Hs.out, if_pos h34] : R = qEnd (s.data.toList.drop (k + 1)) (k + 1))
  have Hu := Lib.hid (uq_at s k hk h34)
  have b34 : ((s[k].toNat : Int) == 34) = true := by simp; omega
  clear h34
  go_enter Tryz.func62, Tryz.ntmps62
  go_wp2_with fail
  refine (quotedEnd_any s k _ (by omega)).mono ?_
  rintro e w' ⟨rfl, rfl⟩
  rw [Hu.out.1, Hu.out.2, ← HR.out]
  go_wp2_with fail
  go_ret2
  exact ⟨rfl, rfl⟩
 ·have b34 : ((s[k].toNat : Int) == 34) = false := by simp; omega
  by_cases h60 : s[k].toNat = 60
  ·have b60 : ((s[k].toNat : Int) == 60) = true := by simp; omega
   obtain ⟨t, ht⟩ : ∃ t, s.extract k s.size = t := ⟨_, rfl⟩
   have htl : t.data.toList = s.data.toList.drop k := by rw [← ht, Lib.extract_data, List.take_of_length_le (by simp)]
   obtain ⟨x, hx⟩ : ∃ x, Lib.indexByte (s.data.toList.drop k) 62 = x := ⟨_, rfl⟩
   have hi := indexByte_lt (s.data.toList.drop k) 62
   rw [List.length_drop, len_list, hx] at hi
   have Hx := Lib.hid (by rw [htl]; exact hx : Lib.indexByte t.data.toList (62 : Int).toNat.toUInt8 = x)
   have HR := Lib.hid (by rw [Hs.out, if_neg h34, if_pos h60, hx] : R = if x < 0 then (s.size, 6) else (k + x.toNat + 1, 0))
   have Ht := Lib.hid ht;clear h34 h60 ht htl hx
   go_enter Tryz.func62, Tryz.ntmps62
   go_wp2_with fail
   rw [Ht.out]
   refine (Tryz.strings_IndexByte t 62 _).mono ?_
   rintro e w' ⟨rfl, hw⟩
   obtain rfl := hw.symm
   rw [Hx.out]
   by_cases hneg : x < 0
   ·have HR' := Lib.hid (by rw [HR.out, if_pos hneg] : R = (s.size, 6))
    go_wp2_with fail
    go_ret2
    exact ⟨by rw [HR'.out]; rfl, rfl⟩
   ·have HR' := Lib.hid (by rw [HR.out, if_neg hneg] : R = (k + x.toNat + 1, 0))
    have hx1 : 0 ≤ x := by omega
    have hx2 : x ≤ 2097152 := by omega
    go_wp2_with fail
    go_ret2
    exact ⟨by rw [HR'.out]; exact congrArg (fun y => Ending.returned (.tuple #[.int .i64 y, .int .u8 0])) (by omega), rfl⟩
  ·have b60 : ((s[k].toNat : Int) == 60) = false := by simp; omega
   by_cases h62 : s[k].toNat = 62
   ·have b62 : ((s[k].toNat : Int) == 62) = true := by simp; omega
    have HR' := Lib.hid (by rw [Hs.out, if_neg h34, if_neg h60, if_pos h62] : R = (k, 5))
    clear h34 h60 h62
    go_enter Tryz.func62, Tryz.ntmps62
    go_wp2_with fail
    go_ret2
    exact ⟨by rw [HR'.out]; rfl, rfl⟩
   ·have b62 : ((s[k].toNat : Int) == 62) = false := by simp; omega
    have HR' := Lib.hid (by rw [Hs.out, if_neg h34, if_neg h60, if_neg h62] : R = (k + 1, 0))
    clear h34 h60 h62
    go_enter Tryz.func62, Tryz.ntmps62
    go_wp2_with fail
    go_ret2
    exact ⟨by rw [HR'.out]; rfl, rfl⟩
end Lx
end Go.Proofs.YtbcaindpbeaheaaGreatDoor
namespace Go.Proofs.YtbcaindpbeaheaaGreatDoor
namespace Lx
abbrev SpRes := List (Nat × List UInt8) × Nat × Int
def spR (l : List UInt8) (sep : Int) : Nat → Nat → Nat → List (Nat × List UInt8) → SpRes
 | 0, a, _, acc => (acc ++ [pcOf l a l.length], 0, 0)
 | n + 1, a, k, acc => match l.drop k with
   | [] => (acc ++ [pcOf l a l.length], 0, 0)
   | c :: _ => if (c.toNat : Int) = sep then spR l sep n (k + 1) (k + 1) (acc ++ [pcOf l a k])
     else if (skR l k).2 = 0 then spR l sep n a (skR l k).1 acc else ([], (skR l k).1, (skR l k).2)
def sepBad (sep : Int) : Bool := blankI sep || sep == 34 || sep == 60 || sep == 62
def spF (l : List UInt8) (sep : Int) : SpRes := if sepBad sep then ([], 0, 2) else spR l sep l.length 0 0 []
theorem spR_end (s : ByteArray) (sep : Int) (n a k : Nat) (acc : List (Nat × List UInt8)) (h : s.size ≤ k) : spR s.data.toList sep n a k acc = (acc ++ [pcOf s.data.toList a s.size], 0, 0) := by
 cases n with
 | zero => unfold spR; rw [len_list]
 | succ n => unfold spR; rw [drop_end s k h, len_list]
theorem spR_sep (s : ByteArray) (sep : Int) (n a k : Nat) (acc : List (Nat × List UInt8)) (h : k < s.size) (h2 : (s[k].toNat : Int) = sep) : spR s.data.toList sep (n + 1) a k acc = spR s.data.toList sep n (k + 1) (k + 1) (acc ++ [pcOf s.data.toList a k]) := by
 conv => lhs; unfold spR
 rw [drop_step s k h]
 dsimp only
 rw [if_pos h2]
theorem spR_skip (s : ByteArray) (sep : Int) (n a k : Nat) (acc : List (Nat × List UInt8)) (h : k < s.size) (h2 : ¬ (s[k].toNat : Int) = sep) (h3 : (skR s.data.toList k).2 = 0) : spR s.data.toList sep (n + 1) a k acc = spR s.data.toList sep n a (skR s.data.toList k).1 acc := by
 conv => lhs; unfold spR
 rw [drop_step s k h]
 dsimp only
 rw [if_neg h2, if_pos h3]
theorem spR_err (s : ByteArray) (sep : Int) (n a k : Nat) (acc : List (Nat × List UInt8)) (h : k < s.size) (h2 : ¬ (s[k].toNat : Int) = sep) (h3 : ¬ (skR s.data.toList k).2 = 0) : spR s.data.toList sep (n + 1) a k acc = ([], (skR s.data.toList k).1, (skR s.data.toList k).2) := by
 conv => lhs; unfold spR
 rw [drop_step s k h]
 dsimp only
 rw [if_neg h2, if_neg h3]
theorem spR_len (l : List UInt8) (sep : Int) (n : Nat) : ∀ (a k : Nat) (acc : List (Nat × List UInt8)), (spR l sep n a k acc).1.length ≤ acc.length + n + 1 := by
 induction n with
 | zero => intro a k acc; unfold spR; simp
 | succ n ih =>
   intro a k acc
   unfold spR
   split
   ·simp
   ·split
    ·have := ih (k + 1) (k + 1) (acc ++ [pcOf l a k]); simp at this ⊢; omega
    ·split
     ·have := ih a (skR l k).1 acc; omega
     ·simp
end Lx
end Go.Proofs.YtbcaindpbeaheaaGreatDoor
namespace Go.Proofs.YtbcaindpbeaheaaGreatDoor
namespace Lx
open Go.RowKit
def SplPost (R : SpRes) (w : World) (e : Ending) (w' : World) : Prop :=
 ∃ v, e = .returned (.tuple #[v, .int .i64 (R.2.1 : Nat), .int .u8 R.2.2]) ∧ w'.ownsRow w.heap.size 70 2 v R.1.length (pcells R.1) ∧ Below w.heap.size w w'
set_option maxRecDepth 100000 in
set_option maxHeartbeats 4000000 in
theorem split_any (s : ByteArray) (sep : Int) (w : World) (hs : s.size ≤ 2097152) :
   Calls Tryz.prog 29 #[.string s, .int .u8 sep] w (SplPost (spF s.data.toList sep) w) := by
 obtain ⟨R, hR⟩ : ∃ R, spF s.data.toList sep = R := ⟨_, rfl⟩
 rw [hR]
 cases hb : blankI sep
 ·have Hb := Lib.hid hb
  by_cases hq : sep = 34 ∨ sep = 60 ∨ sep = 62
  ·have HR := Lib.hid (by rw [← hR]; unfold spF sepBad; rw [hb]; rcases hq with rfl | rfl | rfl <;> rfl : R = ([], 0, 2))
   clear hR hb
   rcases hq with rfl | rfl | rfl
   all_goals
    go_enter Tryz.func29, Tryz.ntmps29
    go_wp2_with fail
    refine (blank_any _ _).mono ?_
    rintro e w' ⟨rfl, rfl⟩
    rw [Hb.out]
    go_wp2_with fail
    go_ret3
    refine ⟨_, by rw [HR.out]; rfl, ?_, Below.refl _ _⟩
    rw [HR.out]; exact World.ownsRow_nil _ _ _ _
  ·have b1 : (sep == 34) = false := by rw [beq_eq_false_iff_ne]; omega
   have b2 : (sep == 60) = false := by rw [beq_eq_false_iff_ne]; omega
   have b3 : (sep == 62) = false := by rw [beq_eq_false_iff_ne]; omega
   have HR := Lib.hid (by rw [← hR]; unfold spF sepBad; rw [hb, b1, b2, b3]; simp : R = spR s.data.toList sep s.size 0 0 [])
   clear hR hb hq
   obtain ⟨i0, hi, hz0, hz1, hz2⟩ := info_parts infoPiece
   go_enter Tryz.func29, Tryz.ntmps29
   go_wp2_with fail
   refine (blank_any _ _).mono ?_
   rintro e w' ⟨rfl, rfl⟩
   rw [Hb.out]
   go_wp2_with fail
   go_loopw [7, 8, 9, 10, 11] (fun v f i _ _ wr => ∃ (a k n : Nat) (acc : List (Nat × List UInt8)), a ≤ k ∧ k ≤ s.size ∧ s.size - k ≤ n ∧ acc.length ≤ k ∧ f = .int .i64 a ∧ i = .int .i64 k ∧ spR s.data.toList sep n a k acc = R ∧ wr.ownsRow w.heap.size 70 2 v acc.length (pcells acc) ∧ Below w.heap.size w wr) (fun _ _ i _ _ _ => s.size - (intOf i).toNat)
   case atStart => exact ⟨0, 0, s.size, [], by omega, by omega, by omega, by simp, rfl, rfl, HR.out.symm, World.ownsRow_nil _ _ _ _, Below.refl _ _⟩
   case round =>
    obtain ⟨a, k, n, acc, hak, hk, hn, hal, rfl, rfl, hr, hown, hB⟩ := hrel
    have Hr := Lib.hid hr;have Ho := Lib.hid hown;have hsz := hB.size;clear hr hown
    by_cases hlt : k < s.size
    ·obtain ⟨n, rfl⟩ : ∃ m, n = m + 1 := ⟨n - 1, by omega⟩
     by_cases hse : (s[k].toNat : Int) = sep
     ·have hX := spR_sep s sep n a k acc hlt hse
      have HX := Lib.hid (hX.symm.trans Hr.out)
      have bs : ((s[k].toNat : Int) == sep) = true := by rw [beq_iff_eq]; exact hse
      clear hX hse
      obtain ⟨px, hpx⟩ : ∃ x, (pcOf s.data.toList a k).1 = x := ⟨_, rfl⟩
      obtain ⟨pt, hpt⟩ : ∃ x, (pcOf s.data.toList a k).2 = x := ⟨_, rfl⟩
      have Hpx := Lib.hid hpx;have Hpt := Lib.hid hpt
      have Hpc := Lib.hid (by rw [← hpx, ← hpt] : pcOf s.data.toList a k = (px, pt))
      clear hpx hpt
      go_wp2_with fail
      refine (piece_any s a k _ hs (by omega) (by omega)).mono ?_
      rintro e w2 ⟨rfl, hB2⟩
      rw [Hpx.out, Hpt.out]
      have hs2 := hB2.size
      have Hr2 := Lib.hid ((keep_of_below hB2 []).owns Ho.out (by simp))
      go_wp2_with (at_builtin; refine wpList_append_own _ rfl _ _ 66 rfl w.heap.size 70 i0 (.agg #[.int .i64 0, .string .empty]) 2 24 Tryz.underlying66 hi hz0 hz1 hz2 rfl (by decide) _ _ _ rfl (Hr2.out.alloc _) ⟨w2.heap.size, 0, none⟩ 1 1 [.int .i64 px, .string ⟨pt.toArray⟩] rfl rfl (cell_two_new _ _ _ _) (by simp [Value.oneCell']) ?c3 ?c4 ?c5 ?_)
      case c3 => unfold maxLen; omega
      case c4 => omega
      case c5 => simp; omega
      intro v' w3 hown' hgrow _
      have hB3 := ((hB.trans (hB2.mono (by omega))).alloc (by omega) (.cells #[.int .i64 px, .string ⟨pt.toArray⟩] 70)).grown hgrow (by simp; omega) (fun k' hk' => (Hr2.out.lt k' hk').1)
      have HO3 := Lib.hid (by rw [Hpc.out, pcells_append]; simpa [pcells] using hown' : w3.ownsRow w.heap.size 70 2 v' (acc ++ [pcOf s.data.toList a k]).length (pcells (acc ++ [pcOf s.data.toList a k])))
      clear hown' hgrow
      go_wp2_with fail
      go_roundw
      case rel => exact ⟨k + 1, k + 1, n, _, by omega, by omega, by omega, by simp; omega, by go_num, by go_num, HX.out, HO3.out, hB3⟩
      case measure => simp [intOf]; omega
     ·have bs : ((s[k].toNat : Int) == sep) = false := by rw [beq_eq_false_iff_ne]; exact hse
      by_cases h0 : (skR s.data.toList k).2 = 0
      ·have hX := spR_skip s sep n a k acc hlt hse h0
       have HX := Lib.hid (hX.symm.trans Hr.out);have hok := skR_ok s k hlt h0
       obtain ⟨j, hj⟩ : ∃ j, (skR s.data.toList k).1 = j := ⟨_, rfl⟩
       rw [hj] at hok
       have Hj := Lib.hid hj;have H0 := Lib.hid h0;clear hX h0 hj hse
       go_wp2_with fail
       refine (skip_any s k _ hs hlt).mono ?_
       rintro e w' ⟨rfl, rfl⟩
       rw [Hj.out, H0.out]
       go_wp2_with fail
       go_roundw
       case rel => exact ⟨a, j, n, acc, by omega, by omega, by omega, by omega, rfl, by go_num, by rw [← Hj.out]; exact HX.out, Ho.out, hB⟩
       case measure => simp [intOf]; omega
      ·have hX := spR_err s sep n a k acc hlt hse h0
       have HX := Lib.hid (Hr.out.symm.trans hX)
       obtain ⟨j, hj⟩ : ∃ j, (skR s.data.toList k).1 = j := ⟨_, rfl⟩
       obtain ⟨x, hx⟩ : ∃ j, (skR s.data.toList k).2 = j := ⟨_, rfl⟩
       rw [hx] at h0
       have hxb : (x != 0) = true := by simpa using h0
       have Hj := Lib.hid hj;have Hx := Lib.hid hx;clear hX h0 hj hx hse
       go_wp2_with fail
       refine (skip_any s k _ hs hlt).mono ?_
       rintro e w' ⟨rfl, rfl⟩
       rw [Hj.out, Hx.out]
       go_wp2_with fail
       go_ret3
       refine ⟨_, by rw [HX.out, Hj.out, Hx.out]; rfl, ?_, hB⟩
       rw [HX.out]; exact World.ownsRow_nil _ _ _ _
    ·have hX := spR_end s sep n a k acc (by omega)
     have HX := Lib.hid (Hr.out.symm.trans hX);clear hX
     obtain ⟨px, hpx⟩ : ∃ x, (pcOf s.data.toList a s.size).1 = x := ⟨_, rfl⟩
     obtain ⟨pt, hpt⟩ : ∃ x, (pcOf s.data.toList a s.size).2 = x := ⟨_, rfl⟩
     have Hpx := Lib.hid hpx;have Hpt := Lib.hid hpt
     have Hpc := Lib.hid (by rw [← hpx, ← hpt] : pcOf s.data.toList a s.size = (px, pt))
     clear hpx hpt
     go_wp2_with fail
     refine (piece_any s a s.size _ hs (by omega) (by omega)).mono ?_
     rintro e w2 ⟨rfl, hB2⟩
     rw [Hpx.out, Hpt.out]
     have hs2 := hB2.size
     have Hr2 := Lib.hid ((keep_of_below hB2 []).owns Ho.out (by simp))
     go_wp2_with (at_builtin; refine wpList_append_own _ rfl _ _ 66 rfl w.heap.size 70 i0 (.agg #[.int .i64 0, .string .empty]) 2 24 Tryz.underlying66 hi hz0 hz1 hz2 rfl (by decide) _ _ _ rfl (Hr2.out.alloc _) ⟨w2.heap.size, 0, none⟩ 1 1 [.int .i64 px, .string ⟨pt.toArray⟩] rfl rfl (cell_two_new _ _ _ _) (by simp [Value.oneCell']) ?c3 ?c4 ?c5 ?_)
     case c3 => unfold maxLen; omega
     case c4 => omega
     case c5 => simp; omega
     intro v' w3 hown' hgrow _
     have hB3 := ((hB.trans (hB2.mono (by omega))).alloc (by omega) (.cells #[.int .i64 px, .string ⟨pt.toArray⟩] 70)).grown hgrow (by simp; omega) (fun k' hk' => (Hr2.out.lt k' hk').1)
     have HO3 := Lib.hid (by rw [Hpc.out, pcells_append]; simpa [pcells] using hown' : w3.ownsRow w.heap.size 70 2 v' (acc ++ [pcOf s.data.toList a s.size]).length (pcells (acc ++ [pcOf s.data.toList a s.size])))
     clear hown' hgrow
     go_wp2_with fail
     go_ret3
     refine ⟨_, by rw [HX.out]; rfl, ?_, hB3⟩
     rw [HX.out]; exact HO3.out
 ·have HR := Lib.hid (by rw [← hR]; unfold spF sepBad; rw [hb]; rfl : R = ([], 0, 2))
  have Hb := Lib.hid hb;clear hR hb
  go_enter Tryz.func29, Tryz.ntmps29
  go_wp2_with fail
  refine (blank_any _ _).mono ?_
  rintro e w' ⟨rfl, rfl⟩
  rw [Hb.out]
  go_wp2_with fail
  go_ret3
  refine ⟨_, by rw [HR.out]; rfl, ?_, Below.refl _ _⟩
  rw [HR.out]; exact World.ownsRow_nil _ _ _ _
end Lx
end Go.Proofs.YtbcaindpbeaheaaGreatDoor
namespace Go.Proofs.YtbcaindpbeaheaaGreatDoor
namespace Lx
def Whole (A : List UInt8) : Prop := A = [] ∨ Lib.hasSuffix A crlf = true
theorem index_app (B : List UInt8) : ∀ (A : List UInt8), 0 ≤ Lib.index A crlf → Lib.index (A ++ B) crlf = Lib.index A crlf := by
 intro A
 induction A with
 | nil => intro h; rw [index_nil] at h; omega
 | cons c t ih =>
   intro h
   rw [List.cons_append, index_cons, index_cons] at *
   cases hp : crlf.isPrefixOf (c :: t)
   ·rw [hp] at h
    simp only [Bool.false_eq_true, if_false] at h ⊢
    have ht : 0 ≤ Lib.index t crlf := by
     by_cases h2 : Lib.index t crlf = -1
     ·rw [if_pos (by rw [beq_iff_eq]; exact h2)] at h; omega
     ·have := Lib.index_ge t crlf; omega
    have hpB : crlf.isPrefixOf (c :: (t ++ B)) = false := by
     rw [Bool.eq_false_iff]
     intro hh
     obtain ⟨u, hu, hv⟩ := crlf_two _ _ hh
     cases t with
     | nil => rw [index_nil] at ht; omega
     | cons d u' =>
       rw [List.cons_append] at hv
       injection hv with hv1 hv2
       rw [hu, hv1] at hp
       simp [crlf, List.isPrefixOf] at hp
    rw [hpB, ih ht]
    simp
   ·obtain ⟨u, rfl, rfl⟩ := crlf_two _ _ hp
    simp [crlf, List.isPrefixOf]
def pre (P : List (Nat × List UInt8)) (S : USt) : USt := ⟨P ++ S.ls, S.tx⟩
end Lx
end Go.Proofs.YtbcaindpbeaheaaGreatDoor
namespace Go.Proofs.YtbcaindpbeaheaaGreatDoor
namespace Lx
def NoC (l : List UInt8) : Prop := ∀ c ∈ l, ctlI c.toNat = false
theorem NoC.tail {c : UInt8} {l : List UInt8} (h : NoC (c :: l)) : NoC l := fun d hd => h d (by simp [hd])
def LNB (l : List UInt8) : Prop := ∃ t c, l = t ++ [c] ∧ bb c = false
theorem LNB.drop {l : List UInt8} (h : LNB l) (k : Nat) (hk : k < l.length) : LNB (l.drop k) := by
 obtain ⟨t, c, rfl, hc⟩ := h
 simp at hk
 refine ⟨t.drop k, c, ?_, hc⟩
 rw [List.drop_append_of_le_length (by omega)]
end Lx
end Go.Proofs.YtbcaindpbeaheaaGreatDoor
namespace Go.Proofs.YtbcaindpbeaheaaGreatDoor
namespace Lx
theorem qEnd_local (n : Nat) : ∀ (u y : List UInt8) (i : Nat), u.length ≤ n → qEnd (u ++ y) i = (i + u.length, 0) →
   (∀ y' i', qEnd (u ++ y') i' = (i' + u.length, 0)) ∧ ∃ v, u = v ++ [34] := by
 induction n with
 | zero =>
   intro u y i h he
   have : u = [] := List.eq_nil_of_length_eq_zero (by omega)
   subst this
   have := qEnd_part _ y i i (Nat.le_refl _) (by simpa using he)
   omega
 | succ n ih =>
   intro u y i h he
   cases u with
   | nil =>
     have := qEnd_part _ y i i (Nat.le_refl _) (by simpa using he)
     omega
   | cons c t =>
     simp only [List.length_cons, List.cons_append] at h he ⊢
     by_cases h34 : c.toNat = 34
     ·rw [qEnd_quote _ _ _ h34] at he
      simp at he
      subst he
      refine ⟨fun y' i' => by rw [qEnd_quote _ _ _ h34]; rfl, [], ?_⟩
      have : c = 34 := by rw [← UInt8.toNat_inj]; exact h34
      rw [this]; rfl
     ·by_cases h0 : (stepS (c :: (t ++ y)) i).2 = 0
      ·have hct : ctlI c.toNat = false := by
         cases hc : ctlI c.toNat
         ·rfl
         ·rw [stepS_ctl _ _ _ hc] at h0; simp at h0
       have he2 := he
       rw [qEnd_step _ _ _ h34 h0] at he2
       rcases step_kind _ _ _ h0 with ⟨h92, h1⟩ | ⟨d, u', h92, hdu, h2⟩
       ·rw [h1, show i + 1 - i = 1 by omega, List.drop_succ_cons, List.drop_zero] at he2
        obtain ⟨g1, v, g2⟩ := ih t y (i + 1) (by omega) (by rw [he2]; congr 1; omega)
        refine ⟨fun y' i' => ?_, c :: v, by rw [g2]; rfl⟩
        rw [qEnd_step _ _ _ h34 (by rw [stepS_one _ _ _ hct h92]), stepS_one _ _ _ hct h92, show i' + 1 - i' = 1 by omega, List.drop_succ_cons, List.drop_zero, g1 y' (i' + 1)]
        congr 1; omega
       ·rw [h2, show i + 2 - i = 2 by omega, List.drop_succ_cons, hdu, List.drop_succ_cons, List.drop_zero] at he2
        cases t with
        | nil =>
          have := qEnd_part _ u' (i + 2) (i + 1) (Nat.le_refl _) (by simpa using he2)
          omega
        | cons d' t' =>
          rw [List.cons_append] at hdu
          injection hdu with hd1 hd2
          subst hd1
          have hesc : escI d'.toNat = true := by
           cases hd : escI d'.toNat
           ·rw [List.cons_append, stepS_bad _ _ _ _ hct h92 hd] at h0; simp at h0
           ·rfl
          rw [← hd2] at he2
          simp only [List.length_cons] at h he2 ⊢
          obtain ⟨g1, v, g2⟩ := ih t' y (i + 2) (by omega) (by rw [he2]; congr 1; omega)
          refine ⟨fun y' i' => ?_, c :: d' :: v, by rw [g2]; rfl⟩
          rw [List.cons_append, qEnd_step _ _ _ h34 (by rw [stepS_two _ _ _ _ hct h92 hesc]), stepS_two _ _ _ _ hct h92 hesc, show i' + 2 - i' = 2 by omega, List.drop_succ_cons, List.drop_succ_cons, List.drop_zero, g1 y' (i' + 2)]
          congr 1; omega
      ·rw [qEnd_err _ _ _ h34 h0] at he
       exact absurd (by rw [he]) h0
theorem index_local (c : UInt8) : ∀ (u y : List UInt8), u ≠ [] → Lib.indexByte (u ++ y) c = (u.length : Int) - 1 → (∀ y', Lib.indexByte (u ++ y') c = (u.length : Int) - 1) ∧ ∃ v, u = v ++ [c] := by
 intro u
 induction u with
 | nil => intro y h; exact absurd rfl h
 | cons d t ih =>
   intro y _ he
   rw [List.cons_append] at he
   unfold Lib.indexByte at he
   simp only [List.length_cons] at he ⊢
   cases hd : (d == c)
   ·rw [hd] at he
    simp only [Bool.false_eq_true, if_false] at he
    have ht : t ≠ [] := by
     intro e; subst e
     have := (indexByte_lt ([] ++ y) c).2
     simp only [List.length_nil] at he
     split at he
     ·omega
     ·rename_i h9; rw [beq_iff_eq] at h9; omega
    have h9 : Lib.indexByte (t ++ y) c = (t.length : Int) - 1 := by
     split at he
     ·omega
     ·omega
    obtain ⟨g1, v, g2⟩ := ih y ht h9
    refine ⟨fun y' => ?_, d :: v, by rw [g2]; rfl⟩
    rw [List.cons_append]
    unfold Lib.indexByte
    rw [hd, g1 y']
    have := List.length_pos_iff.2 ht
    simp only [Bool.false_eq_true, if_false]
    rw [if_neg (by rw [beq_iff_eq]; omega)]
    omega
   ·rw [hd] at he
    simp only [if_true] at he
    have ht : t = [] := List.eq_nil_of_length_eq_zero (by omega)
    subst ht
    refine ⟨fun y' => ?_, [], ?_⟩
    ·rw [List.cons_append]; unfold Lib.indexByte; rw [hd]; rfl
    ·have : d = c := by simpa using hd
     rw [this]; rfl
def Tok (sep : Int) (u : List UInt8) : Prop :=
 u ≠ [] ∧ (∀ c t, u = c :: t → ¬ (c.toNat : Int) = sep) ∧ (∀ (s : ByteArray) (k : Nat) (y : List UInt8), s.data.toList.drop k = u ++ y → skR s.data.toList k = (k + u.length, 0)) ∧ ((∃ c, u = [c]) ∨ ∃ v d, u = v ++ [d] ∧ bb d = false)
theorem tok_of (sep : Int) (s : ByteArray) (k j : Nat) (h : k < s.size) (hse : ¬ (s[k].toNat : Int) = sep) (hj : skR s.data.toList k = (j, 0)) : Tok sep ((s.data.toList.drop k).take (j - k)) := by
 have hok := skR_ok s k h (by rw [hj])
 rw [hj] at hok
 dsimp only at hok
 have hl := len_list s
 obtain ⟨u, hu⟩ : ∃ u, (s.data.toList.drop k).take (j - k) = u := ⟨_, rfl⟩
 obtain ⟨y, hy⟩ : ∃ y, (s.data.toList.drop k).drop (j - k) = y := ⟨_, rfl⟩
 have huy : s.data.toList.drop k = u ++ y := by rw [← hu, ← hy, List.take_append_drop]
 have hul : u.length = j - k := by rw [← hu]; simp; omega
 have hd := drop_step s k h
 obtain ⟨t, hut⟩ : ∃ t, u = s[k] :: t := by
  cases u with
  | nil => simp at hul; omega
  | cons c t => rw [hd, List.cons_append] at huy; injection huy with h1 h2; exact ⟨t, by rw [h1]⟩
 have hty : s.data.toList.drop (k + 1) = t ++ y := by rw [hd, hut, List.cons_append] at huy; injection huy
 rw [hu]
 have hlt : t.length + 1 = j - k := by rw [← hul, hut]; rfl
 have hat := skR_at s k h
 rw [hj] at hat
 have hsk : (∀ (s' : ByteArray) (k' : Nat) (y' : List UInt8), s'.data.toList.drop k' = u ++ y' → skR s'.data.toList k' = (k' + u.length, 0)) ∧ ((∃ c, u = [c]) ∨ ∃ v d, u = v ++ [d] ∧ bb d = false) := by
  have hpre : ∀ (s' : ByteArray) (k' : Nat) (y' : List UInt8), s'.data.toList.drop k' = u ++ y' → ∃ h' : k' < s'.size, (s'[k']'h') = s[k] ∧ s'.data.toList.drop (k' + 1) = t ++ y' := by
   intro s' k' y' e
   have h' : k' < s'.size := by
    rcases Nat.lt_or_ge k' s'.size with h9 | h9
    ·exact h9
    ·rw [drop_end s' k' h9, hut] at e; cases e
   refine ⟨h', ?_⟩
   rw [drop_step s' k' h', hut, List.cons_append] at e
   injection e with e1 e2
   exact ⟨e1, e2⟩
  by_cases h34 : s[k].toNat = 34
  ·rw [if_pos h34, hty] at hat
   obtain ⟨g1, v, g2⟩ := qEnd_local _ t y (k + 1) (Nat.le_refl _) (by rw [← hat]; congr 1; omega)
   refine ⟨fun s' k' y' e => ?_, .inr ⟨s[k] :: v, 34, by rw [hut, g2]; rfl, by decide⟩⟩
   obtain ⟨h', e1, e2⟩ := hpre s' k' y' e
   rw [skR_at s' k' h', e1, if_pos h34, e2, g1]
   congr 1; omega
  ·rw [if_neg h34] at hat
   by_cases h60 : s[k].toNat = 60
   ·rw [if_pos h60] at hat
    split at hat
    ·simp at hat
    ·rename_i hn
     have hx : Lib.indexByte (u ++ y) 62 = (u.length : Int) - 1 := by
      rw [← huy]
      injection hat with h9 _
      omega
     obtain ⟨g1, v, g2⟩ := index_local 62 u y (by rw [hut]; simp) hx
     refine ⟨fun s' k' y' e => ?_, .inr ⟨v, 62, g2, by decide⟩⟩
     obtain ⟨h', e1, e2⟩ := hpre s' k' y' e
     rw [skR_at s' k' h', e1, if_neg h34, if_pos h60, e, g1 y']
     rw [if_neg (by omega)]
     congr 1; omega
   ·rw [if_neg h60] at hat
    split at hat
    ·simp at hat
    ·rename_i h62
     have ht : t = [] := by
      injection hat with h9 _
      exact List.eq_nil_of_length_eq_zero (by omega)
     refine ⟨fun s' k' y' e => ?_, .inl ⟨s[k], by rw [hut, ht]⟩⟩
     obtain ⟨h', e1, e2⟩ := hpre s' k' y' e
     rw [skR_at s' k' h', e1, if_neg h34, if_neg h60, if_neg h62, hut, ht]
     rfl
 refine ⟨by rw [hut]; simp, ?_, hsk.1, hsk.2⟩
 intro c t' e
 rw [hut] at e
 injection e with e1 _
 rw [← e1]; exact hse
inductive Sc (sep : Int) : List UInt8 → Prop
 | nil : Sc sep []
 | cons (u v : List UInt8) : Tok sep u → Sc sep v → Sc sep (u ++ v)
theorem Sc.one {sep : Int} {u : List UInt8} (h : Tok sep u) : Sc sep u := by have := Sc.cons u [] h .nil; rwa [List.append_nil] at this
theorem Sc.app {sep : Int} {a b : List UInt8} (h : Sc sep a) (hb : Sc sep b) : Sc sep (a ++ b) := by
 induction h with
 | nil => exact hb
 | cons u v hu _ ih => rw [List.append_assoc]; exact .cons u _ hu ih
def tl (c : UInt8) (ts : List (List UInt8)) : List UInt8 := ts.flatMap fun t => c :: t
def pcs (off : Nat) : List (List UInt8) → List (Nat × List UInt8)
 | [] => []
 | t :: ts => (off + runL blankI t, Lib.trimS t blk) :: pcs (off + t.length + 1) ts
theorem cut_at (l : List UInt8) (a k : Nat) (h : a ≤ k) : l.drop a = (l.take k).drop a ++ l.drop k := by
 have : l.drop a = (l.take k ++ l.drop k).drop a := by rw [List.take_append_drop]
 rw [this]
 rcases Nat.lt_or_ge l.length k with h9 | h9
 ·rw [List.drop_eq_nil_of_le (by omega : l.length ≤ k)]; simp
 ·rw [List.drop_append_of_le_length (by simp; omega)]
theorem cut_two (l : List UInt8) (a k j : Nat) (h : a ≤ k) (h2 : k ≤ j) (h3 : j ≤ l.length) : (l.take j).drop a = (l.take k).drop a ++ (l.drop k).take (j - k) := by
 have e : l.take j = l.take k ++ (l.drop k).take (j - k) := by
  have := List.take_add (l := l) (i := k) (j := j - k)
  rwa [show k + (j - k) = j by omega] at this
 rw [e, List.drop_append_of_le_length (by simp; omega)]
theorem split_parts (s : ByteArray) (c : UInt8) (n : Nat) : ∀ (a k : Nat) (acc L : List (Nat × List UInt8)) (x : Nat), s.size - k ≤ n → a ≤ k → k ≤ s.size → Sc c.toNat ((s.data.toList.take k).drop a) →
   spR s.data.toList c.toNat n a k acc = (L, x, 0) → x = 0 ∧ ∃ t ts, s.data.toList.drop a = t ++ tl c ts ∧ (∀ u, u ∈ t :: ts → Sc c.toNat u) ∧ L = acc ++ pcs a (t :: ts) := by
 have hl := len_list s
 have fin : ∀ (n a k : Nat) (acc L : List (Nat × List UInt8)) (x : Nat), a ≤ k → k = s.size → Sc c.toNat ((s.data.toList.take k).drop a) →
    spR s.data.toList c.toNat n a k acc = (L, x, 0) → x = 0 ∧ ∃ t ts, s.data.toList.drop a = t ++ tl c ts ∧ (∀ u, u ∈ t :: ts → Sc c.toNat u) ∧ L = acc ++ pcs a (t :: ts) := by
  intro n a k acc L x hak hk hsc he
  rw [spR_end s _ n a k acc (by omega)] at he
  injection he with h1 h2
  injection h2 with h2 _
  have htk : s.data.toList.take k = s.data.toList := List.take_of_length_le (by omega)
  rw [htk] at hsc
  refine ⟨h2.symm, s.data.toList.drop a, [], by simp [tl], ?_, ?_⟩
  ·intro u hu; simp at hu; rw [hu]; exact hsc
  ·rw [← h1]
   have : s.data.toList.take s.size = s.data.toList := List.take_of_length_le (by omega)
   unfold pcOf pcs pcs
   rw [this]
 induction n with
 | zero => intro a k acc L x h1 h2 h3 hsc he; exact fin 0 a k acc L x h2 (by omega) hsc he
 | succ n ih =>
   intro a k acc L x h1 h2 h3 hsc he
   by_cases hlt : k < s.size
   ·have hdk := drop_step s k hlt
    by_cases hse : (s[k].toNat : Int) = c.toNat
    ·rw [spR_sep s _ n a k acc hlt hse] at he
     obtain ⟨hx, t, ts, g1, g2, g3⟩ := ih (k + 1) (k + 1) _ L x (by omega) (Nat.le_refl _) (by omega) (by rw [List.drop_eq_nil_of_le (by simp; omega)]; exact .nil) he
     refine ⟨hx, (s.data.toList.take k).drop a, t :: ts, ?_, ?_, ?_⟩
     ·rw [cut_at _ a k h2, hdk, g1]
      have : s[k] = c := by rw [← UInt8.toNat_inj]; omega
      rw [this]; simp [tl]
     ·intro u hu
      rcases List.mem_cons.1 hu with hu | hu
      ·rw [hu]; exact hsc
      ·exact g2 u hu
     ·rw [g3]
      have hlen : ((s.data.toList.take k).drop a).length = k - a := by simp; omega
      conv => rhs; unfold pcs
      rw [hlen, show a + (k - a) + 1 = k + 1 by omega]
      unfold pcOf
      simp
    ·by_cases h0 : (skR s.data.toList k).2 = 0
     ·rw [spR_skip s _ n a k acc hlt hse h0] at he
      have hok := skR_ok s k hlt h0
      obtain ⟨j, hj⟩ : ∃ j, (skR s.data.toList k).1 = j := ⟨_, rfl⟩
      rw [hj] at hok he
      have htok := tok_of c.toNat s k j hlt hse (by rw [← hj, ← h0])
      exact ih a j acc L x (by omega) (by omega) hok.2 (by rw [cut_two _ a k j h2 (by omega) (by omega)]; exact hsc.app (.one htok)) he
     ·rw [spR_err s _ n a k acc hlt hse h0] at he
      injection he with _ h9
      injection h9 with _ h9
      exact absurd h9 h0
   ·exact fin (n + 1) a k acc L x h2 (by omega) hsc he
theorem parts_split (s : ByteArray) (c : UInt8) (n : Nat) : ∀ (a k : Nat) (v : List UInt8) (ts : List (List UInt8)) (acc : List (Nat × List UInt8)), s.size - k ≤ n → a ≤ k → k ≤ s.size → Sc c.toNat v → (∀ u, u ∈ ts → Sc c.toNat u) →
   s.data.toList.drop k = v ++ tl c ts → spR s.data.toList c.toNat n a k acc = (acc ++ pcs a (((s.data.toList.take k).drop a ++ v) :: ts), 0, 0) := by
 have hl := len_list s
 induction n with
 | zero =>
   intro a k v ts acc h1 h2 h3 hv hts hd
   rw [drop_end s k (by omega)] at hd
   obtain ⟨e1, e2⟩ := List.append_eq_nil_iff.1 hd.symm
   have hts0 : ts = [] := by cases ts with | nil => rfl | cons t ts => simp [tl] at e2
   subst e1 hts0
   rw [spR_end s _ 0 a k acc (by omega)]
   have hk : k = s.size := by omega
   unfold pcOf pcs pcs
   rw [hk]; simp
 | succ n ih =>
   intro a k v ts acc h1 h2 h3 hv hts hd
   cases hv with
   | nil =>
     cases ts with
     | nil =>
       have hk : k = s.size := by have := congrArg List.length hd; simp [tl] at this; omega
       rw [spR_end s _ _ a k acc (by omega)]
       unfold pcOf pcs pcs
       rw [hk]; simp
     | cons t ts =>
       have hlt : k < s.size := by have := congrArg List.length hd; simp [tl] at this; omega
       have hdk := drop_step s k hlt
       rw [hdk] at hd
       simp only [tl, List.flatMap_cons, List.nil_append, List.cons_append] at hd
       injection hd with hd1 hd2
       rw [spR_sep s _ n a k acc hlt (by rw [hd1]), ih (k + 1) (k + 1) t ts _ (by omega) (Nat.le_refl _) (by omega) (hts t (by simp)) (fun u hu => hts u (by simp [hu])) hd2]
       have hlen : ((s.data.toList.take k).drop a).length = k - a := by simp; omega
       have hz : (s.data.toList.take (k + 1)).drop (k + 1) = [] := List.drop_eq_nil_of_le (by simp; omega)
       rw [hz, List.nil_append, List.append_nil]
       conv => rhs; unfold pcs
       rw [hlen, show a + (k - a) + 1 = k + 1 by omega]
       unfold pcOf
       simp
   | cons u v' hu hv' =>
     obtain ⟨hne, hsep, htok, _⟩ := hu
     rw [List.append_assoc] at hd
     have hupos := List.length_pos_iff.2 hne;have hlen := congrArg List.length hd
     simp only [List.length_append, List.length_drop] at hlen
     have hlt : k < s.size := by omega
     have hsk := htok s k _ hd;have hdk := drop_step s k hlt
     have hse : ¬ (s[k].toNat : Int) = c.toNat := by
      obtain ⟨d, t, rfl⟩ := List.exists_cons_of_ne_nil hne
      rw [hdk, List.cons_append] at hd
      injection hd with hd1 _
      rw [hd1]; exact hsep d t rfl
     rw [spR_skip s _ n a k acc hlt hse (by rw [hsk]), hsk]
     have hd2 : s.data.toList.drop (k + u.length) = v' ++ tl c ts := by rw [← List.drop_drop, hd, List.drop_left' rfl]
     rw [ih a (k + u.length) v' ts acc (by omega) (by omega) (by omega) hv' hts hd2]
     have e : (s.data.toList.take (k + u.length)).drop a = (s.data.toList.take k).drop a ++ u := by
      rw [cut_two _ a k (k + u.length) h2 (by omega) (by omega), hd, Nat.add_sub_cancel_left, List.take_left' rfl]
     rw [e, List.append_assoc]
def jn (c : UInt8) : List (List UInt8) → List UInt8
 | [] => []
 | y :: ys => y ++ tl c ys
theorem pcs_texts : ∀ (ts : List (List UInt8)) (off : Nat), (pcs off ts).map (·.2) = ts.map (fun t => Lib.trimS t blk) := by
 intro ts
 induction ts with
 | nil => intro off; rfl
 | cons t ts ih => intro off; unfold pcs; rw [List.map_cons, List.map_cons, ih]
theorem pcs_len : ∀ (ts : List (List UInt8)) (off : Nat), (pcs off ts).length = ts.length := by
 intro ts off
 have := congrArg List.length (pcs_texts ts off)
 simpa using this
end Lx
end Go.Proofs.YtbcaindpbeaheaaGreatDoor
