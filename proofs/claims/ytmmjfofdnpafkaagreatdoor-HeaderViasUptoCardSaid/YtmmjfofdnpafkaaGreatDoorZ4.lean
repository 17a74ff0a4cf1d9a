/- Texts of one set of library modules: M4, M5. -/
import Derived.Test.YtmmjfofdnpafkaaGreatDoorZ3
import Derived.Test.YtmmjfofdnpafkaaGreatDoorZ1
import Derived.Deep.RegionHeld3
import Derived.StillTactics
import Derived.StillTailTactics
import Derived.Laws.Pointers
import Derived.Outline
import Derived.Shelf.SlicesQ.IndexFunc
import Derived.Laws.ResultCell
import Derived.Deep.LoopGhost
import Derived.Shelf.SlicesE.Clone
import Derived.Shelf.SlSortFuncK.WholeK
import Derived.Shelf.GgSortFunc.Tiny
import Derived.Deep.RegionWith
import Derived.Sort.CutIn
import Derived.Test.YtmmjfofdnpafkaaGreatDoorZ2
namespace Go.Proofs.YtmmjfofdnpafkaaGreatDoor
namespace Ad
open Go.RowKit Lx
theorem Cur.below {b k : Nat} {s : ByteArray} {w w' : World} (h : Cur b s k w) (hb : Below w.heap.size w w') : Cur b s k w' := Blk.below h hb h.lt
theorem Cur.drewN {b k : Nat} {s : ByteArray} {w : World} (h : Cur b s k w) (n : Nat) : Cur b s k (w.drewN n) := h
def CuP (b : Nat) (s : ByteArray) (k' : Nat) (v : Value) (w : World) (e : Ending) (w' : World) : Prop := e = .returned v ∧ Cur b s k' w' ∧ Kp [b] w w'
def nxt (l : List UInt8) (k : Nat) : Int := if k < l.length then atB l k else 0
theorem atB_get (s : ByteArray) (k : Nat) (h : k < s.size) : atB s.data.toList k = s[k].toNat := by
 unfold atB
 rw [List.getElem?_eq_getElem (by simpa using h)]
 rfl
theorem nxt_lt (s : ByteArray) (k : Nat) (h : k < s.size) : nxt s.data.toList k = s[k].toNat := by
 unfold nxt; rw [if_pos (by rw [len_list]; exact h), atB_get s k h]
theorem nxt_ge (s : ByteArray) (k : Nat) (h : ¬ k < s.size) : nxt s.data.toList k = 0 := by
 unfold nxt; rw [if_neg (by rw [len_list]; exact h)]
theorem nxt_eq (l : List UInt8) (k : Nat) (m : Int) (h0 : m ≠ 0) (h1 : m ≠ -1) : (nxt l k == m) = (atB l k == m) := by
 unfold nxt
 split
 ·rfl
 ·rename_i h
  rw [atB_end l k (by omega), show (0 == m) = false from beq_eq_false_iff_ne.2 (fun e => h0 e.symm), show (-1 == m) = false from beq_eq_false_iff_ne.2 (fun e => h1 e.symm)]
theorem nxt_bd (l : List UInt8) (k : Nat) : 0 ≤ nxt l k ∧ nxt l k < 256 := by
 unfold nxt
 split
 ·rename_i h
  unfold atB
  rw [List.getElem?_eq_getElem h]
  have := (l[k]).toNat_lt
  dsimp only; omega
 ·omega
set_option maxRecDepth 100000 in
set_option maxHeartbeats 400000 in
theorem next_c (b k : Nat) (s : ByteArray) (w : World) (hs : s.size ≤ 2097152) (hk : k ≤ s.size) (C : Cur b s k w) :
   Calls Tryz.prog 214 #[.pointer (some ⟨b, 0, none⟩)] w fun e w' => e = .returned (.int .u8 (nxt s.data.toList k)) ∧ ∃ n, w' = w.drewN n := by
 have c0 := C.c0;have c1 := C.c1
 by_cases h : k < s.size
 ·have HN := Lib.hid (nxt_lt s k h)
  go_enter Tryz.func214, Tryz.ntmps214
  go_wp2_with fail
  go_quiet (fail)
  go_wp2_with fail
  go_quiet (fail)
  go_wp2_with fail
  go_ret
  exact ⟨ret_int (by rw [HN.out]), _, World.drewN_drewN _ _ _⟩
 ·have HN := Lib.hid (nxt_ge s k h)
  go_enter Tryz.func214, Tryz.ntmps214
  go_wp2_with fail
  go_quiet (fail)
  go_wp2_with fail
  go_ret
  exact ⟨ret_int (by rw [HN.out]), _, rfl⟩
theorem next_k (b k : Nat) (s : ByteArray) (w : World) (hs : s.size ≤ 2097152) (hk : k ≤ s.size) (C : Cur b s k w) :
   Calls Tryz.prog 214 #[.pointer (some ⟨b, 0, none⟩)] w (CuP b s k (.int .u8 (nxt s.data.toList k)) w) :=
 (next_c b k s w hs hk C).mono fun _ _ ⟨he, n, hw⟩ => by subst hw; exact ⟨he, C, (Kp.refl _ w).drewN n⟩
set_option maxRecDepth 100000 in
set_option maxHeartbeats 400000 in
theorem fail_k (b k j : Nat) (x : Int) (s : ByteArray) (w : World) (C : Cur b s k w) :
   Calls Tryz.prog 218 #[.pointer (some ⟨b, 0, none⟩), .int .i64 j, .int .u8 x] w (CuP b s j (.int .u8 x) w) := by
 have c1 := C.c1;have f1 := C.f1;have HC := Lib.hid C
 go_enter Tryz.func218, Tryz.ntmps218
 go_wp2_with fail
 go_ret
 exact ⟨rfl, HC.out.set j, (Kp.refl _ w).setCell (p := ⟨b, 1, none⟩) (.inl (by simp)) _⟩
set_option maxRecDepth 100000 in
set_option maxHeartbeats 400000 in
theorem take_yes (b k : Nat) (m : Int) (s : ByteArray) (w : World) (hs : s.size ≤ 2097152) (hk : k < s.size) (C : Cur b s k w) (h : (nxt s.data.toList k == m) = true) :
   Calls Tryz.prog 242 #[.pointer (some ⟨b, 0, none⟩), .int .u8 m] w (CuP b s (k + 1) (.bool true) w) := by
 have ht : (nxt s.data.toList k != m) = false := by rw [bne, h]; rfl
 have HT := Lib.hid ht;clear h ht
 go_enter Tryz.func242, Tryz.ntmps242
 go_wp2_with fail
 refine (next_k b k s _ hs (by omega) C).mono ?_
 rintro e w1 ⟨rfl, C1, hK⟩
 have ht := HT.out;have c1 := C1.c1;have f1 := C1.f1;have HC := Lib.hid C1
 go_wp2_with fail
 go_ret
 exact ⟨rfl, by have := HC.out.set (k + 1); rwa [Int.natCast_add] at this, hK.setCell (p := ⟨b, 1, none⟩) (.inl (by simp)) _⟩
set_option maxRecDepth 100000 in
set_option maxHeartbeats 400000 in
theorem take_no (b k : Nat) (m : Int) (s : ByteArray) (w : World) (hs : s.size ≤ 2097152) (hk : k ≤ s.size) (C : Cur b s k w) (h : (nxt s.data.toList k == m) = false) :
   Calls Tryz.prog 242 #[.pointer (some ⟨b, 0, none⟩), .int .u8 m] w (CuP b s k (.bool false) w) := by
 have ht : (nxt s.data.toList k != m) = true := by rw [bne, h]; rfl
 have HT := Lib.hid ht;clear h ht
 go_enter Tryz.func242, Tryz.ntmps242
 go_wp2_with fail
 refine (next_k b k s _ hs hk C).mono ?_
 rintro e w1 ⟨rfl, C1, hK⟩
 have ht := HT.out
 go_wp2_with fail
 go_ret
 exact ⟨rfl, C1, hK⟩
theorem blkE_bhd (s : ByteArray) (k : Nat) (hk : k ≤ s.size) : bhd blankI s (min (k : Int).toNat s.size) = blkE s.data.toList k := by
 rw [Int.toNat_natCast, Nat.min_eq_left hk]; rfl
set_option maxRecDepth 100000 in
set_option maxHeartbeats 400000 in
theorem blanks_k (b k : Nat) (s : ByteArray) (w : World) (hs : s.size ≤ 2097152) (hk : k ≤ s.size) (C : Cur b s k w) :
   Calls Tryz.prog 212 #[.pointer (some ⟨b, 0, none⟩)] w (CuP b s (blkE s.data.toList k) (.tuple #[]) w) := by
 have c0 := C.c0;have c1 := C.c1;have f1 := C.f1;have HC := Lib.hid C;have HB := Lib.hid (blkE_bhd s k hk)
 go_enter Tryz.func212, Tryz.ntmps212
 go_wp2_with fail
 go_still_tail 12, (by kernel_rfl)
 refine wpStill_step (fun K hK => ?_)
 go_simp
 refine ⟨_, (Lx.blanks_any s k _ (by unfold maxLen; omega)).mono (fun _ _ h => ⟨h.1, h.2.symm⟩), hK _ ?_⟩
 clear hK K
 rw [HB.out]
 repeat still_step
 refine wpStill_nil ?_
 go_wp2_with fail
 refine bodyPost_ret (results_none rfl _ _ _) rfl ?_
 exact ⟨rfl, HC.out.set _, ((Kp.refl _ w).drew).setCell (p := ⟨b, 1, none⟩) (.inl (by simp)) _⟩
theorem tokE_bd (s : ByteArray) (k : Nat) (hk : k ≤ s.size) : k ≤ tokE s.data.toList k ∧ tokE s.data.toList k ≤ s.size := by
 unfold tokE
 have := runL_le tokI (s.data.toList.drop k)
 rw [List.length_drop, len_list] at this; omega
theorem tokE_bhd (s : ByteArray) (k : Nat) (hk : k ≤ s.size) : bhd tokI s (min (k : Int).toNat s.size) = tokE s.data.toList k := by
 rw [Int.toNat_natCast, Nat.min_eq_left hk]; rfl
theorem blkE_bd (s : ByteArray) (k : Nat) (hk : k ≤ s.size) : k ≤ blkE s.data.toList k ∧ blkE s.data.toList k ≤ s.size := by
 unfold blkE
 have := runL_le blankI (s.data.toList.drop k)
 rw [List.length_drop, len_list] at this; omega
theorem slc_txt (s : ByteArray) (a b : Nat) : s.extract a b = Txt (slc s.data.toList a b) := by rw [← txt_self (s.extract a b), slc_data]
set_option maxRecDepth 100000 in
set_option maxHeartbeats 400000 in
theorem token_k (b k : Nat) (s : ByteArray) (w : World) (hs : s.size ≤ 2097152) (hk : k ≤ s.size) (C : Cur b s k w) :
   Calls Tryz.prog 274 #[.pointer (some ⟨b, 0, none⟩)] w (CuP b s (tokE s.data.toList k) (.string (Txt (slc s.data.toList k (tokE s.data.toList k)))) w) := by
 have c0 := C.c0;have c1 := C.c1;have f1 := C.f1;have HC := Lib.hid C;have HB := Lib.hid (tokE_bhd s k hk)
 obtain ⟨t1, t2⟩ := tokE_bd s k hk
 obtain ⟨n, hn⟩ : ∃ n, tokE s.data.toList k = n := ⟨_, rfl⟩
 have HN := Lib.hid hn;have HX := Lib.hid (slc_txt s k n)
 rw [hn] at t1 t2 ⊢
 clear hn
 go_enter Tryz.func274, Tryz.ntmps274
 go_wp2_with fail
 refine (Lx.tokenEnd_any s k _ (by unfold maxLen; omega)).mono ?_
 rintro e w1 ⟨rfl, rfl⟩
 rw [HB.out, HN.out]
 have HC2 := Lib.hid (HC.out.set n)
 have HK2 := Lib.hid ((Kp.refl [b] w).setCell (p := ⟨b, 1, none⟩) (.inl (by simp)) (.int .i64 n))
 go_wp2_with fail
 obtain ⟨w2, hw2⟩ : ∃ w2, w.setCell ⟨b, 1, none⟩ (.int .i64 n) = w2 := ⟨_, rfl⟩
 rw [hw2]
 have C2 : Cur b s n w2 := by rw [← hw2]; exact HC2.out
 have K2 : Kp [b] w w2 := by rw [← hw2]; exact HK2.out
 clear hw2 c0 c1 f1;have c0 := C2.c0;have c1 := C2.c1;have H2 := Lib.hid C2;clear C2
 go_quiet (fail)
 go_wp2_with fail
 go_ret
 exact ⟨ret_s HX.out, H2.out, K2.drewN _⟩
def CuW (b : Nat) (s : ByteArray) (k' : Nat) (t : List UInt8) (x : Int) (w : World) (e : Ending) (w' : World) : Prop := e = .returned (.tuple #[.string (Txt t), .int .u8 x]) ∧ Cur b s k' w' ∧ Kp [b] w w'
set_option maxRecDepth 100000 in
set_option maxHeartbeats 1000000 in
theorem word_bad (cls : Int) (b k t : Nat) (s : ByteArray) (w : World) (hs : s.size ≤ 2097152) (hk : k ≤ t) (ht : t ≤ s.size) (C : Cur b s k w) (E : Env w) (h : (wrdR cls (slc s.data.toList k t)).2 < t - k) :
   Calls Tryz.prog 267 #[.pointer (some ⟨b, 0, none⟩), .int .i64 t, .int .i64 cls] w (CuW b s (k + (wrdR cls (slc s.data.toList k t)).2) [] 5 w) := by
 have c0 := C.c0;have c1 := C.c1;have f1 := C.f1;have HC := Lib.hid C
 obtain ⟨n, hn⟩ : ∃ n, k + (wrdR cls (slc s.data.toList k t)).2 = n := ⟨_, rfl⟩
 have HN := Lib.hid hn
 have hnt : n < t := by omega
 rw [hn]
 clear hn h;have HC2 := Lib.hid (HC.out.set n)
 have HK2 := Lib.hid ((Kp.refl [b] w).setCell (p := ⟨b, 1, none⟩) (.inl (by simp)) (.int .i64 n))
 go_enter Tryz.func267, Tryz.ntmps267
 go_wp2_with fail
 refine (stray_any cls s k t _ (by omega) hk ht E).mono ?_
 rintro e w1 ⟨rfl, rfl⟩
 rw [HN.out]
 go_wp2_with fail
 go_ret2
 exact ⟨rfl, HC2.out, HK2.out⟩
set_option maxRecDepth 100000 in
set_option maxHeartbeats 1000000 in
theorem word_ok (cls : Int) (b k t : Nat) (s : ByteArray) (w : World) (hs : s.size ≤ 2097152) (hk : k ≤ t) (ht : t ≤ s.size) (C : Cur b s k w) (E : Env w) (h : ¬ (wrdR cls (slc s.data.toList k t)).2 < t - k) :
   Calls Tryz.prog 267 #[.pointer (some ⟨b, 0, none⟩), .int .i64 t, .int .i64 cls] w (CuW b s t (wrdR cls (slc s.data.toList k t)).1 0 w) := by
 have c0 := C.c0;have c1 := C.c1;have f1 := C.f1;have HC := Lib.hid C;have hle := wrd_le cls (slc s.data.toList k t)
 have hsl := slc_len s.data.toList k t (by rw [len_list]; exact ht)
 have hn : k + (wrdR cls (slc s.data.toList k t)).2 = t := by omega
 have hfull : (wrdR cls (slc s.data.toList k t)).2 = (slc s.data.toList k t).length := by omega
 obtain ⟨x, hx⟩ : ∃ x, s.extract k t = x := ⟨_, rfl⟩
 have hxs : x.size ≤ 17592186044416 := by rw [← hx]; simp; omega
 have hune : unT x.data.toList = (wrdR cls (slc s.data.toList k t)).1 := by
  rw [← hx, slc_data]
  have := wrd_une cls _ _ (Nat.le_refl _) hfull
  unfold unT; rw [this, if_pos hfull]
 have HN := Lib.hid hn;have HX := Lib.hid hx;have HU := Lib.hid hune;clear hn h hle hsl hfull hx hune;have HC2 := Lib.hid (HC.out.set t)
 have HK2 := Lib.hid ((Kp.refl [b] w).setCell (p := ⟨b, 1, none⟩) (.inl (by simp)) (.int .i64 t))
 go_enter Tryz.func267, Tryz.ntmps267
 go_wp2_with fail
 refine (stray_any cls s k t _ (by omega) hk ht E).mono ?_
 rintro e w1 ⟨rfl, rfl⟩
 rw [HN.out]
 go_wp2_with fail
 rw [HX.out]
 refine (Unescape_any x _ hxs).mono ?_
 rintro e w2 ⟨rfl, hB⟩
 rw [HU.out]
 go_wp2_with fail
 go_ret2
 exact ⟨rfl, HC2.out.below hB, HK2.out.below hB⟩
end Ad
end Go.Proofs.YtmmjfofdnpafkaaGreatDoor
namespace Go.Proofs.YtmmjfofdnpafkaaGreatDoor
namespace Ad
open Go.RowKit Lx
theorem memB_fun (l : List UInt8) (p : Int → Bool) (h : ∀ c, (l.any fun b => (b.toNat : Int) == c) = p c) : memB l = p := funext h
theorem comm_beq (a b : Int) : (a == b) = (b == a) := by rw [Bool.eq_iff_iff, beq_iff_eq, beq_iff_eq]; exact ⟨Eq.symm, Eq.symm⟩
theorem m93 : memB (⟨#[93]⟩ : ByteArray).data.toList = (· == 93) := memB_fun _ _ fun c => by show ((93 : Int) == c || false) = _; rw [Bool.or_false, comm_beq]
theorem m58 : memB (⟨#[58]⟩ : ByteArray).data.toList = (· == 58) := memB_fun _ _ fun c => by show ((58 : Int) == c || false) = _; rw [Bool.or_false, comm_beq]
theorem m64 : memB (⟨#[64]⟩ : ByteArray).data.toList = (· == 64) := memB_fun _ _ fun c => by show ((64 : Int) == c || false) = _; rw [Bool.or_false, comm_beq]
theorem m61 : memB (⟨#[61]⟩ : ByteArray).data.toList = (· == 61) := memB_fun _ _ fun c => by show ((61 : Int) == c || false) = _; rw [Bool.or_false, comm_beq]
theorem m59 : memB (⟨#[59]⟩ : ByteArray).data.toList = (· == 59) := memB_fun _ _ fun c => by show ((59 : Int) == c || false) = _; rw [Bool.or_false, comm_beq]
theorem m38 : memB (⟨#[38]⟩ : ByteArray).data.toList = (· == 38) := memB_fun _ _ fun c => by show ((38 : Int) == c || false) = _; rw [Bool.or_false, comm_beq]
theorem m60 : memB (⟨#[60]⟩ : ByteArray).data.toList = (· == 60) := memB_fun _ _ fun c => by show ((60 : Int) == c || false) = _; rw [Bool.or_false, comm_beq]
theorem m62 : memB (⟨#[62]⟩ : ByteArray).data.toList = (· == 62) := memB_fun _ _ fun c => by show ((62 : Int) == c || false) = _; rw [Bool.or_false, comm_beq]
theorem mSemq : memB (⟨#[59, 63]⟩ : ByteArray).data.toList = semq := memB_fun _ _ fun c => by show ((59 : Int) == c || ((63 : Int) == c || false)) = _; unfold semq; rw [Bool.or_false, comm_beq 59, comm_beq 63]
theorem mHend : memB (⟨#[58, 59, 63]⟩ : ByteArray).data.toList = hendC := memB_fun _ _ fun c => by show ((58 : Int) == c || ((59 : Int) == c || ((63 : Int) == c || false))) = _; unfold hendC; rw [Bool.or_false, comm_beq 58, comm_beq 59, comm_beq 63]
theorem mBare : memB (⟨#[59, 32, 9]⟩ : ByteArray).data.toList = bareC := memB_fun _ _ fun c => by show ((59 : Int) == c || ((32 : Int) == c || ((9 : Int) == c || false))) = _; unfold bareC; rw [Bool.or_false, comm_beq 59, comm_beq 32, comm_beq 9]
theorem mQue : memB (⟨#[63, 44]⟩ : ByteArray).data.toList = queC := memB_fun _ _ fun c => by show ((63 : Int) == c || ((44 : Int) == c || false)) = _; unfold queC; rw [Bool.or_false, comm_beq 63, comm_beq 44]
theorem mHead : memB (⟨#[63, 38]⟩ : ByteArray).data.toList = headC := memB_fun _ _ fun c => by show ((63 : Int) == c || ((38 : Int) == c || false)) = _; unfold headC; rw [Bool.or_false, comm_beq 63, comm_beq 38]
theorem w64 (n : Nat) (h : n ≤ 4194304) : wrap64 ((n : Int) + 1) = (n : Int) + 1 := by unfold wrap64; omega
theorem end_q (p : Int → Bool) (s ends : ByteArray) (k : Nat) (w : World) (hs : s.size ≤ 2097152) (hk : k ≤ s.size) (hp : memB ends.data.toList = p) :
   Calls Tryz.prog 213 #[.string s, .int .i64 k, .string ends] w fun e w' => e = .returned (.int .i64 (endP p s.data.toList k : Nat)) ∧ w' = w :=
 (end_any s ends k w (by omega) hk).mono fun _ _ h => by rw [hp] at h; exact ⟨h.1, h.2.symm⟩
theorem end_m (p : Int → Bool) (s ends : ByteArray) (k : Nat) (w : World) (hs : s.size ≤ 2097152) (hk : k ≤ s.size) (hp : memB ends.data.toList = p) :
   Calls Tryz.prog 213 #[.string s, .int .i64 k, .string ends] w (Ret (.int .i64 (endP p s.data.toList k : Nat)) w) :=
 (end_any s ends k w (by omega) hk).mono fun _ _ h => by rw [hp] at h; exact h
theorem op34 (l : List UInt8) (k : Nat) (h : atB l k = 34) : opE 34 l k = 0 := by
 have hk := atB_lt l k (by rw [h]; decide)
 unfold opE
 rw [if_neg (by omega), Int.toNat_natCast, List.drop_eq_getElem_cons hk]
 dsimp only
 unfold atB at h
 rw [List.getElem?_eq_getElem hk] at h
 dsimp only at h
 rw [if_pos h]
theorem uq34 (l : List UInt8) (k : Nat) (h : atB l k = 34) : uqN l k = ((uqR l k).1 : Nat) ∧ uqE l k = (uqR l k).2 := by
 have := op34 l k h
 unfold uqN uqE
 rw [if_neg (by rw [this]; simp), if_neg (by rw [this]; simp)]
 exact ⟨rfl, rfl⟩
set_option maxRecDepth 100000 in
set_option maxHeartbeats 2000000 in
theorem value_k (b k : Nat) (s : ByteArray) (w : World) (hs : s.size ≤ 2097152) (hk : k ≤ s.size) (C : Cur b s k w) (E : Env w) (hb7 : 7 ≤ b) :
   Calls Tryz.prog 302 #[.pointer (some ⟨b, 0, none⟩)] w (CuW b s (valR s.data.toList k).2.1 (valR s.data.toList k).1 (valR s.data.toList k).2.2 w) := by
 have hb := nxt_bd s.data.toList k;have HE := Lib.hid E
 by_cases h34 : atB s.data.toList k = 34
 ·have HV := Lib.hid (by unfold valR; rw [if_pos h34] : valR s.data.toList k = (uqT s.data.toList k, (uqN s.data.toList k).toNat, uqE s.data.toList k))
  have hn := (uq34 _ _ h34).1
  obtain ⟨n, hn'⟩ : ∃ n, (uqR s.data.toList k).1 = n := ⟨_, rfl⟩
  rw [hn'] at hn
  have HN := Lib.hid hn
  have t34 : (nxt s.data.toList k == 34) = true := by rw [nxt_eq _ _ _ (by decide) (by decide), h34]; rfl
  have T34 := Lib.hid t34;clear h34 hn hn' t34 E
  go_enter Tryz.func302, Tryz.ntmps302
  go_wp2_with fail
  refine (next_k b k s _ hs hk C).mono ?_
  rintro e w1 ⟨rfl, C1, hK1⟩
  have t34 := T34.out;have c0 := C1.c0;have c1 := C1.c1;have HC1 := Lib.hid C1;clear C1 C
  go_wp2_with fail
  go_region_held3 (fun w' => w'.cell? ⟨b, 0, none⟩ = some (.string s) ∧ w'.cell? ⟨b, 1, none⟩ = some (.int .i64 k)) (go_keep)
   ((go_at_call 273; refine (Lx.unquote_any s k _ (by omega)).mono ?_; rintro e w2 ⟨rfl, hB⟩; have C2 : Cur b s k w2 := Cur.below (Cur.drewN HC1.out _) hB; have d0 := C2.c0; have d1 := C2.c1))
  have K2 : Kp [b] w w2 := Kp.below (Kp.drewN hK1 _) hB
  have c1' := C2.c1;have f1' := C2.f1;have HC2 := Lib.hid C2;clear C2 d0 d1 c0 c1
  rw [HN.out]
  go_wp2_with fail
  go_ret2
  rw [HV.out]
  exact ⟨rfl, by rw [HN.out]; exact HC2.out.set n, K2.setCell (p := ⟨b, 1, none⟩) (.inl (by simp)) _⟩
 ·have t34 : (nxt s.data.toList k == 34) = false := by rw [nxt_eq _ _ _ (by decide) (by decide)]; exact beq_eq_false_iff_ne.2 h34
  have T34 := Lib.hid t34
  by_cases h91 : atB s.data.toList k = 91
  ·have t91 : (nxt s.data.toList k == 91) = true := by rw [nxt_eq _ _ _ (by decide) (by decide), h91]; rfl
   have T91 := Lib.hid t91
   obtain ⟨n, hn⟩ : ∃ n, endP (· == 93) s.data.toList k = n := ⟨_, rfl⟩
   have HN := Lib.hid hn
   have hnk : k ≤ n := by rw [← hn]; exact endP_ge _ _ _
   have hns : n ≤ s.size := by rw [← hn, ← len_list]; exact endP_le _ _ _ (by rw [len_list]; exact hk)
   obtain ⟨m, hm⟩ : ∃ m, min (n + 1) s.size = m := ⟨_, rfl⟩
   have HX := Lib.hid (slc_txt s k m)
   have HV : Hid (valR s.data.toList k = match hostO (slc s.data.toList k m) with | some h => (h, m, 0) | none => ([], k, 5)) := by
    have : valR s.data.toList k = match hostO (slc s.data.toList k m) with | some h => (h, m, 0) | none => ([], k, 5) := by
     unfold valR; rw [if_neg h34, if_pos h91, hn, len_list, hm]; rfl
    exact this
   have hkm : k ≤ m := by have := atB_lt s.data.toList k (by rw [h91]; decide); rw [len_list] at this; omega
   have hms : m ≤ s.size := by omega
   have HM := Lib.hid (by omega : min ((n : Int) + 1) (s.size : Int) = (m : Int))
   clear h34 h91 t34 t91 hn E hm
   go_enter Tryz.func302, Tryz.ntmps302
   go_wp2_with fail
   refine (next_k b k s _ hs hk C).mono ?_
   rintro e w1 ⟨rfl, C1, hK1⟩
   have t34 := T34.out;have t91 := T91.out;have c0 := C1.c0;have c1 := C1.c1;have HC1 := Lib.hid C1;clear C1 C
   go_wp2_with fail
   go_quiet ((go_at_call 213; exact Calls.quiet_of_same (end_q (· == 93) s ⟨#[93]⟩ k _ hs hk m93)))
   rw [HN.out, w64 n (by omega), HM.out]
   obtain ⟨w2, hw2⟩ : ∃ w2, w1.drewN nq = w2 := ⟨_, rfl⟩
   rw [hw2]
   have C2 : Cur b s k w2 := by rw [← hw2]; exact HC1.out
   have K2 : Kp [b] w w2 := by rw [← hw2]; exact hK1.drewN _
   have E2 : Env w2 := HE.out.kp K2 (by intro x hx; simp at hx; omega)
   clear hw2 c0 c1;have c0 := C2.c0;have c1 := C2.c1;have H2 := Lib.hid C2;clear C2
   go_wp2_with fail
   go_region_held3 (fun w' => w'.cell? ⟨b, 0, none⟩ = some (.string s) ∧ w'.cell? ⟨b, 1, none⟩ = some (.int .i64 k)) (go_keep)
    ((go_at_call 52; rw [HX.out]; refine (Host_any (Txt (slc s.data.toList k m)) _ (by rw [txt_size]; have := slc_le s.data.toList k m; omega) (Env.drewN E2 _)).mono ?_; rintro e w3 ⟨rfl, hB⟩; have C3 : Cur b s k w3 := Cur.below (Cur.drewN H2.out _) hB; have d0 := C3.c0; have d1 := C3.c1))
   have K3 : Kp [b] w w3 := Kp.below (Kp.drewN K2 _) hB
   rw [txt_list]
   have c1' := C3.c1;have f1' := C3.f1;have HC3 := Lib.hid C3;clear C3 d0 d1 c0 c1
   cases ho : hostO (slc s.data.toList k m) with
   | none =>
     have HR := Lib.hid (HV.out.trans (by rw [ho]))
     clear ho
     go_wp2_with fail
     go_ret2
     rw [HR.out]
     exact ⟨rfl, HC3.out, K3⟩
   | some h =>
     have HR := Lib.hid (HV.out.trans (by rw [ho]))
     clear ho
     go_wp2_with fail
     go_ret2
     rw [HR.out]
     exact ⟨rfl, HC3.out.set m, K3.setCell (p := ⟨b, 1, none⟩) (.inl (by simp)) _⟩
  ·have t91 : (nxt s.data.toList k == 91) = false := by rw [nxt_eq _ _ _ (by decide) (by decide)]; exact beq_eq_false_iff_ne.2 h91
   have T91 := Lib.hid t91
   obtain ⟨n, hn⟩ : ∃ n, tokE s.data.toList k = n := ⟨_, rfl⟩
   have HN := Lib.hid hn
   obtain ⟨n1, n2⟩ := tokE_bd s k hk
   rw [hn] at n1 n2
   by_cases hz : n = k
   ·have HV := Lib.hid (by unfold valR; rw [if_neg h34, if_neg h91, hn, if_pos hz] : valR s.data.toList k = ([], k, 5))
    have hemp : Txt (slc s.data.toList k n) = ⟨#[]⟩ := by rw [slc_nil _ _ _ (by omega)]; rfl
    have HP := Lib.hid hemp;have HZ := Lib.hid hz;clear h34 h91 t34 t91 hn E hz hemp
    go_enter Tryz.func302, Tryz.ntmps302
    go_wp2_with fail
    refine (next_k b k s _ hs hk C).mono ?_
    rintro e w1 ⟨rfl, C1, hK1⟩
    have t34 := T34.out;have t91 := T91.out
    go_wp2_with fail
    refine (token_k b k s _ hs hk C1).mono ?_
    rintro e w2 ⟨rfl, C2, hK2⟩
    rw [HN.out, HP.out]
    rw [HN.out] at C2
    have HC2 := Lib.hid C2;clear C2 C1 C
    go_wp2_with fail
    go_ret2
    rw [HV.out]
    exact ⟨rfl, by have := HC2.out; rwa [HZ.out] at this, hK1.trans hK2⟩
   ·have HV := Lib.hid (by unfold valR; rw [if_neg h34, if_neg h91, hn, if_neg hz] : valR s.data.toList k = (slc s.data.toList k n, n, 0))
    have hxl : 1 ≤ (Txt (slc s.data.toList k n)).size := by rw [txt_size, slc_len _ _ _ (by rw [len_list]; exact n2)]; omega
    have he := isEmpty_no _ hxl;have hne := toList_ne _ hxl;clear h34 h91 t34 t91 hn E hz
    go_enter Tryz.func302, Tryz.ntmps302
    go_wp2_with fail
    refine (next_k b k s _ hs hk C).mono ?_
    rintro e w1 ⟨rfl, C1, hK1⟩
    have t34 := T34.out;have t91 := T91.out
    go_wp2_with fail
    refine (token_k b k s _ hs hk C1).mono ?_
    rintro e w2 ⟨rfl, C2, hK2⟩
    rw [HN.out]
    rw [HN.out] at C2
    have HC2 := Lib.hid C2;clear C2 C1 C
    go_wp2_with fail
    go_ret2
    rw [HV.out]
    exact ⟨rfl, HC2.out, hK1.trans hK2⟩
end Ad
end Go.Proofs.YtmmjfofdnpafkaaGreatDoor
namespace Go.Proofs.YtmmjfofdnpafkaaGreatDoor
namespace Ad
open Go.RowKit Lx
def encP (q : Prm) : Value := .agg (pc1 q).toArray
theorem str_beq (a b : List UInt8) : ((Txt a).toList == (Txt b).toList) = (a == b) := by
 rw [Lib.toList_data, Lib.toList_data]; rfl
set_option maxRecDepth 100000 in
set_option maxHeartbeats 400000 in
theorem same_pred (bp : Nat) (nm : List UInt8) (w : World) (hB : bp < w.heap.size) (hcell : w.cell? ⟨bp, 0, none⟩ = some (.string (Txt nm))) :
   PredBelow Tryz.prog 220 #[.pointer (some ⟨bp, 0, none⟩)] encP (fun q => q.1 == nm) w := fun W x hb => by
 have hc : W.cell? ⟨bp, 0, none⟩ = some (.string (Txt nm)) := (hb.cell (p := ⟨bp, 0, none⟩) hB).trans hcell
 have hBW : bp < W.heap.size := Nat.lt_of_lt_of_le hB hb.size
 have hne : bp ≠ W.heap.size := by omega
 have hr : (W.alloc (.cells (pc1 x).toArray 72)).cell? ⟨bp, 0, none⟩ = some (.string (Txt nm)) := by rw [World.cell?_alloc_lt W _ ⟨bp, 0, none⟩ hBW]; exact hc
 obtain ⟨x1, x2, x3⟩ := x
 have hbz := Lib.hid (hb.alloc hb.size (.cells (pc1 (x1, x2, x3)).toArray 72))
 have HS := Lib.hid (by rw [Lib.toList_data]; rfl : (x1 == (Txt nm).toList) = (x1 == nm))
 unfold encP
 simp only [pc1] at hr hbz ⊢
 go_enter Tryz.func220, Tryz.ntmps220
 go_wp2_with fail
 go_ret
 exact ⟨ret_bool HS.out, hbz.out⟩
theorem getD_some (l : List Prm) (j : Nat) (h : j < l.length) : l[j]? = some l[j]! := by
 rw [List.getElem?_eq_getElem h, getElem!_pos l j h]
theorem containsFunc_zero (A : Option Addr) (c : Nat) (f : Value) (w : World) :
   Calls Tryz.prog 221 #[.slice A 0 c, f] w (Ret (.bool false) w) := by
 have h1 : Calls Tryz.prog 196 #[.slice A 0 c, f] w (Ret (.int .i64 (-1)) w) := by
  go_enter Tryz.func196, Tryz.ntmps196
  go_wp2_with fail
  go_loop [5, 8] (fun _ i => i = .int .i64 0) (fun _ _ => 0)
  case atStart => rfl
  case round =>
   subst hrel
   go_wp2_with fail
   go_ret
   exact ⟨rfl, rfl⟩
 go_enter Tryz.func221, Tryz.ntmps221
 go_wp2_with fail
 refine h1.mono ?_
 rintro e w' ⟨rfl, rfl⟩
 go_wp2_with fail
 go_ret
 exact ⟨rfl, rfl⟩
def anyN (acc : List Prm) (nm : List UInt8) : Bool := acc.any fun q => q.1 == nm
theorem containsFunc_any (B : Nat) (v : Value) (acc : List Prm) (nm : List UInt8) (bp : Nat) (w : World) (hP : PmIn B w v acc) (hB : B ≤ w.heap.size) (hl : acc.length ≤ 4194304) (hbp : bp < w.heap.size) (hcell : w.cell? ⟨bp, 0, none⟩ = some (.string (Txt nm))) :
   Calls Tryz.prog 221 #[v, .func (.func 220) #[] #[.pointer (some ⟨bp, 0, none⟩)]] w fun e w' => e = .returned (.bool (anyN acc nm)) ∧ Below w.heap.size w w' := by
 obtain ⟨n, c, rfl, hc, ⟨h0, rfl⟩ | ⟨b, o, rfl, hb, hcell2⟩⟩ := hP
 ·have : acc = [] := List.eq_nil_of_length_eq_zero h0
  subst this
  refine (containsFunc_zero none c _ w).mono ?_
  rintro e w' ⟨rfl, rfl⟩
  exact ⟨rfl, Below.refl _ _⟩
 ·have eg : ∀ args w, (callFunc 220 args).run Tryz.prog w = .ok (.enter 220 args) w := enters_of Tryz.func220 (by kernel_rfl) rfl
  have hcon := AnyQ.slices_ContainsFunc Tryz.slCon 3 Tryz.isAgg72 Tryz.sizeOf72 pc1 (fun _ => rfl) (fun q => q.1 == nm) 220 #[.pointer (some ⟨bp, 0, none⟩)] eg b o acc.length c acc w
   (same_pred bp nm w hbp hcell) (Nat.le_refl _) (by omega) (by omega) (fun j hj i v hi => by
     have := pcl_at acc j _ (getD_some acc j hj) i v hi
     have := hcell2 _ _ this
     rwa [← Nat.add_assoc] at this)
  rw [List.take_of_length_le (Nat.le_refl _)] at hcon
  exact hcon
set_option maxRecDepth 100000 in
set_option maxHeartbeats 400000 in
theorem mayJoin_any (B : Nat) (v : Value) (acc : List Prm) (q : Prm) (w : World) (hP : PmIn B w v acc) (hB : B ≤ w.heap.size) (hl : acc.length ≤ 4194304) :
   Calls Tryz.prog 130 #[v, encP q] w fun e w' => e = .returned (.int .u8 (room acc q.1)) ∧ Below w.heap.size w w' := by
 obtain ⟨nm, vl, hs⟩ := q
 have hPA : PmIn B (w.alloc (.cells #[.string ⟨nm.toArray⟩, .string ⟨vl.toArray⟩, .bool hs] 72)) v acc := hP.kp ((Kp.refl [] w).alloc _) hB (by simp)
 have hcon := Lib.hid (containsFunc_any B v acc nm w.heap.size _ hPA (by simp; omega) hl (by simp) (by simp [Txt]))
 have hBl := Lib.hid ((Below.refl w.heap.size w).alloc (Nat.le_refl _) (.cells #[.string ⟨nm.toArray⟩, .string ⟨vl.toArray⟩, .bool hs] 72))
 obtain ⟨A, c, rfl⟩ := hP.form
 clear hPA hP
 unfold encP
 simp only [pc1]
 cases ha : anyN acc nm
 ·have HA := Lib.hid ha
  by_cases h16 : acc.length = 16
  ·have HR := Lib.hid (by unfold anyN at ha; unfold room; rw [if_neg (by rw [ha]; simp), if_pos h16] : room acc nm = 4)
   have t16 : ((acc.length : Int) == 16) = true := by rw [h16]; rfl
   clear ha h16
   go_enter Tryz.func130, Tryz.ntmps130
   go_wp2_with fail
   refine hcon.out.mono ?_
   rintro e w1 ⟨rfl, hB1⟩
   rw [HA.out]
   go_wp2_with fail
   go_ret
   exact ⟨ret_int (by rw [HR.out]), hBl.out.trans (hB1.mono (by simp))⟩
  ·have HR := Lib.hid (by unfold anyN at ha; unfold room; rw [if_neg (by rw [ha]; simp), if_neg h16] : room acc nm = 0)
   have t16 : ((acc.length : Int) == 16) = false := by rw [beq_eq_false_iff_ne]; omega
   clear ha h16
   go_enter Tryz.func130, Tryz.ntmps130
   go_wp2_with fail
   refine hcon.out.mono ?_
   rintro e w1 ⟨rfl, hB1⟩
   rw [HA.out]
   go_wp2_with fail
   go_ret
   exact ⟨ret_int (by rw [HR.out]), hBl.out.trans (hB1.mono (by simp))⟩
 ·have HA := Lib.hid ha
  have HR := Lib.hid (by unfold anyN at ha; unfold room; rw [if_pos ha] : room acc nm = 7)
  clear ha
  go_enter Tryz.func130, Tryz.ntmps130
  go_wp2_with fail
  refine hcon.out.mono ?_
  rintro e w1 ⟨rfl, hB1⟩
  rw [HA.out]
  go_wp2_with fail
  go_ret
  exact ⟨ret_int (by rw [HR.out]), hBl.out.trans (hB1.mono (by simp))⟩
theorem results_two {P : Program} {fn : Func} {p u : Tmp} {ty : TypeId} (h : fn.results = #[.cell p ty, .tmp u]) (tmps : Array Value) (w : World) (g : Nat) (t : TypeId) (cs : Array Value) (fr : Nat × Nat) (d : TypeDesc)
   (hp : tmps.getD p undef = .pointer (some ⟨g, 0, none⟩)) (hg : w.heap[g]? = some (.cells cs t fr))
   (hu : P.underlying ty = some d) (hd : (match d with | .struct _ | .array _ _ => true | _ => false) = true) (hi : (P.info? ty).map (·.size) = some cs.size) :
   (results fn tmps).run P w = .ok (.tuple #[.agg cs, tmps.getD u undef]) w := by
 rw [results_cell_tmp h, hp]
 simp [asAddr, run_loadVar_row w g t ty cs fr d hg hu hd hi, Result.andThen]
theorem infoPrm : (Tryz.prog.info? 72).map (·.size) = some 3 := by kernel_rfl
theorem blk3 {w : World} {g : Nat} {a b c : Value} (h : Blk w g 72 #[a, b, c]) (x y z : Value) :
   Blk (((w.setCell ⟨g, 0, none⟩ x).setCell ⟨g, 1, none⟩ y).setCell ⟨g, 2, none⟩ z) g 72 #[x, y, z] := ((h.set_ 0 x).set_ 1 y).set_ 2 z
theorem kp3 {X : List Nat} {a w : World} (h : Kp X a w) {g : Nat} (hg : a.heap.size ≤ g) (x y z : Value) :
   Kp X a (((w.setCell ⟨g, 0, none⟩ x).setCell ⟨g, 1, none⟩ y).setCell ⟨g, 2, none⟩ z) :=
 ((h.setCell (p := ⟨g, 0, none⟩) (.inr hg) x).setCell (p := ⟨g, 1, none⟩) (.inr hg) y).setCell (p := ⟨g, 2, none⟩) (.inr hg) z
theorem cur3 {b k : Nat} {s : ByteArray} {w : World} (h : Cur b s k w) {g : Nat} (hg : b ≠ g) (x y z : Value) :
   Cur b s k (((w.setCell ⟨g, 0, none⟩ x).setCell ⟨g, 1, none⟩ y).setCell ⟨g, 2, none⟩ z) :=
 ((Blk.far h (p := ⟨g, 0, none⟩) hg x).far (p := ⟨g, 1, none⟩) hg y).far (p := ⟨g, 2, none⟩) hg z
def CuQ (b : Nat) (s : ByteArray) (k' : Nat) (q : Prm) (x : Int) (w : World) (e : Ending) (w' : World) : Prop := e = .returned (.tuple #[encP q, .int .u8 x]) ∧ Cur b s k' w' ∧ Kp [b] w w'
theorem kp_alloc_to {X : List Nat} {w w' : World} {o : Obj} (h : Kp X (w.alloc o) w') : Kp X w w' := ((Kp.refl X w).alloc o).trans h
set_option maxRecDepth 100000 in
set_option maxHeartbeats 2000000 in
theorem param_k (b k : Nat) (s : ByteArray) (w : World) (hs : s.size ≤ 2097152) (hk : k ≤ s.size) (C : Cur b s k w) (E : Env w) (hb7 : 7 ≤ b) :
   Calls Tryz.prog 243 #[.pointer (some ⟨b, 0, none⟩)] w (CuQ b s (pmR s.data.toList k).2.1 (pmR s.data.toList k).1 (pmR s.data.toList k).2.2 w) := by
 have hbw := C.lt
 have hbne : b ≠ w.heap.size := by omega
 have CA := Lib.hid (C.alloc (.cells #[.string ⟨#[]⟩, .string ⟨#[]⟩, .bool false] 72))
 have KA := Lib.hid ((Kp.refl [b] w).alloc (.cells #[.string ⟨#[]⟩, .string ⟨#[]⟩, .bool false] 72))
 have BA := Lib.hid (Blk.new w 72 #[.string ⟨#[]⟩, .string ⟨#[]⟩, .bool false])
 have EA := Lib.hid (E.kp KA.out (by simp; omega))
 obtain ⟨n, hn⟩ : ∃ n, tokE s.data.toList k = n := ⟨_, rfl⟩
 obtain ⟨n1, n2⟩ := tokE_bd s k hk
 rw [hn] at n1 n2
 have HN := Lib.hid hn
 by_cases hz : n = k
 ·have HV := Lib.hid (by unfold pmR; rw [hn, if_pos hz] : pmR s.data.toList k = (([], [], false), k, 5))
  have hemp : Txt (slc s.data.toList k n) = ⟨#[]⟩ := by rw [slc_nil _ _ _ (by omega)]; rfl
  have HP := Lib.hid hemp;have HZ := Lib.hid hz;clear hn hz hemp E C
  go_enter Tryz.func243, Tryz.ntmps243
  go_wp2_with fail
  refine (token_k b k s _ hs hk CA.out).mono ?_
  rintro e w1 ⟨rfl, C1, hK1⟩
  rw [HN.out, HP.out]
  rw [HN.out] at C1
  have HC1 := Lib.hid C1
  have B1 := Lib.hid (BA.out.kp hK1 (by simp; omega))
  have d0 := B1.out.cell 0;have d1 := B1.out.cell 1;have d2 := B1.out.cell 2;have g0 := B1.out.frozen 0;have g1 := B1.out.frozen 1;have g2 := B1.out.frozen 2;clear C1
  go_wp2_with fail
  refine bodyPost_ret (results_two rfl _ _ w.heap.size 72 _ (0, 0) _ rfl (blk3 B1.out _ _ _) Tryz.underlying72 rfl infoPrm) rfl ?_
  rw [HV.out]
  exact ⟨rfl, by have := HC1.out; rw [HZ.out] at this; exact cur3 this hbne _ _ _, kp3 (kp_alloc_to hK1) (Nat.le_refl _) _ _ _⟩
 ·have hxl : 1 ≤ (Txt (slc s.data.toList k n)).size := by rw [txt_size, slc_len _ _ _ (by rw [len_list]; exact n2)]; omega
  have hxs : (Txt (slc s.data.toList k n)).size ≤ 2097152 := by rw [txt_size]; have := slc_le s.data.toList k n; omega
  have he := isEmpty_no _ hxl;have hne := toList_ne _ hxl
  obtain ⟨m, hm⟩ : ∃ m, blkE s.data.toList n = m := ⟨_, rfl⟩
  obtain ⟨m1, m2⟩ := blkE_bd s n n2
  rw [hm] at m1 m2
  have HM := Lib.hid hm
  obtain ⟨x, hx⟩ : ∃ x, slc s.data.toList k n = x := ⟨_, rfl⟩
  rw [hx] at hxl hxs he hne
  have HX := Lib.hid hx
  by_cases h61 : atB s.data.toList m = 61
  ·have t61 : (nxt s.data.toList m == 61) = true := by rw [nxt_eq _ _ _ (by decide) (by decide), h61]; rfl
   have hmlt : m < s.size := by have := atB_lt s.data.toList m (by rw [h61]; decide); rwa [len_list] at this
   obtain ⟨j, hj⟩ : ∃ j, blkE s.data.toList (m + 1) = j := ⟨_, rfl⟩
   obtain ⟨j1, j2⟩ := blkE_bd s (m + 1) hmlt
   rw [hj] at j1 j2
   have HJ := Lib.hid hj
   have HV := Lib.hid (by unfold pmR; rw [hn, if_neg hz, hm, if_pos h61, hj, hx] : pmR s.data.toList k = ((lowL x, (valR s.data.toList j).1, true), (valR s.data.toList j).2))
   have T61 := Lib.hid t61;clear hn hz E C hm hx h61 t61 hj
   go_enter Tryz.func243, Tryz.ntmps243
   go_wp2_with fail
   refine (token_k b k s _ hs hk CA.out).mono ?_
   rintro e w1 ⟨rfl, C1, hK1⟩
   rw [HN.out, HX.out]
   rw [HN.out] at C1
   go_wp2_with fail
   refine (blanks_k b n s _ hs n2 C1).mono ?_
   rintro e w2 ⟨rfl, C2, hK2⟩
   rw [HM.out] at C2
   clear C1
   go_wp2_with fail
   refine (take_yes b m 61 s _ hs hmlt C2 T61.out).mono ?_
   rintro e w3 ⟨rfl, C3, hK3⟩
   clear C2
   go_wp2_with fail
   refine (blanks_k b (m + 1) s _ hs hmlt C3).mono ?_
   rintro e w4 ⟨rfl, C4, hK4⟩
   rw [HJ.out] at C4
   clear C3;have K4 := Lib.hid (((hK1.trans hK2).trans hK3).trans hK4)
   have E4 := EA.out.kp K4.out (by simp; omega)
   go_wp2_with fail
   refine (value_k b j s _ hs j2 C4 E4 hb7).mono ?_
   rintro e w5 ⟨rfl, C5, hK5⟩
   have HC5 := Lib.hid C5;clear C4 C5
   go_wp2_with fail
   refine (lower_any (Txt x) _ (by omega)).mono ?_
   rintro e w6 ⟨rfl, hB6⟩
   have K6 := Lib.hid ((K4.out.trans hK5).below hB6);have HC6 := Lib.hid (HC5.out.below hB6)
   have B1 := Lib.hid (BA.out.kp K6.out (by simp; omega))
   have d0 := B1.out.cell 0;have d1 := B1.out.cell 1;have d2 := B1.out.cell 2;have g0 := B1.out.frozen 0;have g1 := B1.out.frozen 1;have g2 := B1.out.frozen 2
   go_wp2_with fail
   refine bodyPost_ret (results_two rfl _ _ w.heap.size 72 _ (0, 0) _ rfl (blk3 B1.out _ _ _) Tryz.underlying72 rfl infoPrm) rfl ?_
   rw [HV.out]
   exact ⟨rfl, cur3 HC6.out hbne _ _ _, kp3 (kp_alloc_to K6.out) (Nat.le_refl _) _ _ _⟩
  ·have t61 : (nxt s.data.toList m == 61) = false := by rw [nxt_eq _ _ _ (by decide) (by decide)]; exact beq_eq_false_iff_ne.2 h61
   have HV := Lib.hid (by unfold pmR; rw [hn, if_neg hz, hm, if_neg h61, hx] : pmR s.data.toList k = ((lowL x, [], false), m, 0))
   have T61 := Lib.hid t61;clear hn hz E C hm hx h61 t61
   go_enter Tryz.func243, Tryz.ntmps243
   go_wp2_with fail
   refine (token_k b k s _ hs hk CA.out).mono ?_
   rintro e w1 ⟨rfl, C1, hK1⟩
   rw [HN.out, HX.out]
   rw [HN.out] at C1
   go_wp2_with fail
   refine (blanks_k b n s _ hs n2 C1).mono ?_
   rintro e w2 ⟨rfl, C2, hK2⟩
   rw [HM.out] at C2
   clear C1
   go_wp2_with fail
   refine (take_no b m 61 s _ hs m2 C2 T61.out).mono ?_
   rintro e w3 ⟨rfl, C3, hK3⟩
   have HC3 := Lib.hid C3;clear C2 C3
   go_wp2_with fail
   refine (lower_any (Txt x) _ (by omega)).mono ?_
   rintro e w6 ⟨rfl, hB6⟩
   have K6 := Lib.hid (((hK1.trans hK2).trans hK3).below hB6);have HC6 := Lib.hid (HC3.out.below hB6)
   have B1 := Lib.hid (BA.out.kp K6.out (by simp; omega))
   have d0 := B1.out.cell 0;have d1 := B1.out.cell 1;have d2 := B1.out.cell 2;have g0 := B1.out.frozen 0;have g1 := B1.out.frozen 1;have g2 := B1.out.frozen 2
   go_wp2_with fail
   refine bodyPost_ret (results_two rfl _ _ w.heap.size 72 _ (0, 0) _ rfl (blk3 B1.out _ _ _) Tryz.underlying72 rfl infoPrm) rfl ?_
   rw [HV.out]
   exact ⟨rfl, cur3 HC6.out hbne _ _ _, kp3 (kp_alloc_to K6.out) (Nat.le_refl _) _ _ _⟩
end Ad
end Go.Proofs.YtmmjfofdnpafkaaGreatDoor
namespace Go.Proofs.YtmmjfofdnpafkaaGreatDoor
namespace Ad
open Go.RowKit Lx
theorem infoPrm3 : (Tryz.prog.info? 72).map (fun i => (i.zero, i.size, i.bytes)) = some (some (.agg #[.string .empty, .string .empty, .bool false]), 3, 40) := by kernel_rfl
theorem own_kp {w w' : World} {B : Nat} {e : TypeId} {size : Nat} {v : Value} {n : Nat} {xs : List Value} {X : List Nat} (h : w.ownsRow B e size v n xs) (k : Kp X w w') (hX : ∀ x ∈ X, x < B) : w'.ownsRow B e size v n xs := by
 refine ⟨h.1, ?_⟩
 rcases h.2 with h0 | ⟨g, cap, cur, hv, hB, hg, rest⟩
 ·exact .inl h0
 ·exact .inr ⟨g, cap, cur, hv, hB, (k.block g (lt_of_some hg) (fun hm => by have := hX g hm; omega)).trans hg, rest⟩
theorem own_pm {w : World} {B : Nat} {v : Value} {acc : List Prm} (h : w.ownsRow B 72 3 v acc.length (pcl acc)) : PmIn w.heap.size w v acc := PmIn.of_own h
theorem cell_three_new (w : World) (a b c : Value) (t : TypeId) : ∀ (j : Nat) (u : Value), [a, b, c][j]? = some u → (w.alloc (.cells #[a, b, c] t)).cell? ((⟨w.heap.size, 0, none⟩ : Addr).add j) = some u := by
 intro j u hu
 have hg := World.alloc_heap_new w (.cells #[a, b, c] t)
 match j, hu with
 | 0, hu => simp at hu; subst hu; simp [Addr.add, Lib.cell_of_heap hg 0]
 | 1, hu => simp at hu; subst hu; simp [Addr.add, Lib.cell_of_heap hg 1]
 | 2, hu => simp at hu; subst hu; simp [Addr.add, Lib.cell_of_heap hg 2]
 | j + 3, hu => simp at hu
theorem val_ok (s : ByteArray) (j : Nat) (hj : j ≤ s.size) (h : (valR s.data.toList j).2.2 = 0) : j ≤ (valR s.data.toList j).2.1 ∧ (valR s.data.toList j).2.1 ≤ s.size := by
 unfold valR at h ⊢
 split
 ·rename_i h34
  rw [if_pos h34] at h
  dsimp only at h ⊢
  have hu := uq34 _ _ h34
  have hjl := atB_lt s.data.toList j (by rw [h34]; decide)
  rw [len_list] at hjl
  rw [hu.2] at h
  rw [hu.1, Int.toNat_natCast]
  have := qEnd_part _ (s.data.toList.drop (j + 1)) (j + 1) (uqR s.data.toList j).1 (Nat.le_refl _) (Prod.ext (by unfold uqR; rw [Int.toNat_natCast]) (by unfold uqR at h; rw [Int.toNat_natCast] at h; exact h))
  rw [List.length_drop, len_list] at this
  omega
 ·rename_i h34
  rw [if_neg h34] at h
  split
  ·rename_i h91
   rw [if_pos h91] at h
   have hjl := atB_lt s.data.toList j (by rw [h91]; decide)
   have := endP_ge (· == 93) s.data.toList j
   cases ho : hostO (slc s.data.toList j (min (endP (· == 93) s.data.toList j + 1) s.data.toList.length)) with
   | none => rw [ho] at h; simp at h
   | some x => rw [len_list] at hjl ⊢; dsimp only; omega
  ·rename_i h91
   rw [if_neg h91] at h
   split
   ·rename_i hz; rw [if_pos hz] at h; simp at h
   ·exact tokE_bd s j hj
theorem pm_ok (s : ByteArray) (k : Nat) (hk : k ≤ s.size) (h : (pmR s.data.toList k).2.2 = 0) : k ≤ (pmR s.data.toList k).2.1 ∧ (pmR s.data.toList k).2.1 ≤ s.size := by
 have t := tokE_bd s k hk;have bl := blkE_bd s _ t.2
 unfold pmR at h ⊢
 split
 ·rename_i hz; rw [if_pos hz] at h; simp at h
 ·rename_i hz; rw [if_neg hz] at h
  split
  ·rename_i h61
   rw [if_pos h61] at h
   have hm := atB_lt s.data.toList _ (by rw [h61]; decide : atB s.data.toList (blkE s.data.toList (tokE s.data.toList k)) ≠ -1)
   rw [len_list] at hm
   have bj := blkE_bd s (blkE s.data.toList (tokE s.data.toList k) + 1) hm
   have := val_ok s _ bj.2 h
   dsimp only; omega
  ·dsimp only; omega
theorem encP_eq (q1 q2 : List UInt8) (q3 : Bool) : encP (q1, q2, q3) = .agg #[.string ⟨q1.toArray⟩, .string ⟨q2.toArray⟩, .bool q3] := rfl
def LiP (b : Nat) (s : ByteArray) (r : List Prm × Nat × Int) (w : World) (e : Ending) (w' : World) : Prop :=
 ∃ v k', e = .returned (.tuple #[v, .int .u8 r.2.2]) ∧ PmIn w'.heap.size w' v r.1 ∧ Cur b s k' w' ∧ (r.2.2 ≠ 0 → k' = r.2.1) ∧ Kp [b] w w' ∧ r.1.length ≤ 16
theorem parF_err1 (n : Nat) (l : List UInt8) (k : Nat) (acc : List Prm) (h1 : k < l.length) (h2 : atB l k ≠ 59) : parF (n + 1) l k acc = ([], k, 5) := by rw [parF, if_neg (by omega), if_pos h2]
theorem parF_err2 (n : Nat) (l : List UInt8) (k : Nat) (acc : List Prm) (h1 : k < l.length) (h2 : atB l k = 59) (h3 : (pmR l (blkE l (k + 1))).2.2 ≠ 0) : parF (n + 1) l k acc = ([], (pmR l (blkE l (k + 1))).2) := by rw [parF, if_neg (by omega), if_neg (by rw [h2]; simp), if_pos h3]
theorem parF_err3 (n : Nat) (l : List UInt8) (k : Nat) (acc : List Prm) (h1 : k < l.length) (h2 : atB l k = 59) (h3 : (pmR l (blkE l (k + 1))).2.2 = 0) (h4 : room acc (pmR l (blkE l (k + 1))).1.1 ≠ 0) : parF (n + 1) l k acc = ([], blkE l (k + 1), room acc (pmR l (blkE l (k + 1))).1.1) := by
 rw [parF, if_neg (by omega), if_neg (by rw [h2]; simp), if_neg (by rw [h3]; simp), if_pos h4]
theorem parF_step (n : Nat) (l : List UInt8) (k : Nat) (acc : List Prm) (h1 : k < l.length) (h2 : atB l k = 59) (h3 : (pmR l (blkE l (k + 1))).2.2 = 0) (h4 : room acc (pmR l (blkE l (k + 1))).1.1 = 0) :
   parF (n + 1) l k acc = parF n l (blkE l (pmR l (blkE l (k + 1))).2.1) (acc ++ [(pmR l (blkE l (k + 1))).1]) := by
 rw [parF, if_neg (by omega), if_neg (by rw [h2]; simp), if_neg (by rw [h3]; simp), if_neg (by rw [h4]; simp)]
theorem parF_end (n : Nat) (l : List UInt8) (k : Nat) (acc : List Prm) (h1 : l.length ≤ k) : parF (n + 1) l k acc = (acc, 0, 0) := by rw [parF, if_pos h1]
set_option maxRecDepth 100000 in
set_option maxHeartbeats 4000000 in
theorem list_k (b k : Nat) (s : ByteArray) (w : World) (hs : s.size ≤ 2097152) (hk : k ≤ s.size) (C : Cur b s k w) (E : Env w) (hb7 : 7 ≤ b) :
   Calls Tryz.prog 149 #[.pointer (some ⟨b, 0, none⟩)] w (LiP b s (parF (s.data.toList.length + 1) s.data.toList (blkE s.data.toList k) []) w) := by
 have hbw := C.lt;have HE := Lib.hid E
 obtain ⟨R, hR⟩ : ∃ R, parF (s.data.toList.length + 1) s.data.toList (blkE s.data.toList k) [] = R := ⟨_, rfl⟩
 have HR := Lib.hid hR
 rw [hR]
 obtain ⟨a, ha⟩ : ∃ a, blkE s.data.toList k = a := ⟨_, rfl⟩
 obtain ⟨a1, a2⟩ := blkE_bd s k hk
 rw [ha] at a1 a2
 have HA := Lib.hid ha
 obtain ⟨i0, hi, hz0, hz1, hz2⟩ := info_parts infoPrm3
 clear hR ha E
 go_enter Tryz.func149, Tryz.ntmps149
 go_wp2_with fail
 refine (blanks_k b k s _ hs hk C).mono ?_
 rintro e w1 ⟨rfl, C1, hK1⟩
 rw [HA.out] at C1
 have HC1 := Lib.hid C1;clear C C1
 go_wp2_with fail
 go_loopg [4, 5, 6, 7, 8] (s.size + 1) (fun gg v _ _ _ _ wr => ∃ (j n : Nat) (acc : List Prm), j ≤ s.size ∧ s.size - j < n ∧ s.size - j < gg ∧ Cur b s j wr ∧ parF n s.data.toList j acc = R ∧ wr.ownsRow w.heap.size 72 3 v acc.length (pcl acc) ∧ acc.length ≤ 16 ∧ Kp [b] w wr)
 case atStart => exact ⟨a, s.data.toList.length + 1, [], a2, by rw [len_list]; omega, by omega, HC1.out, by rw [← HA.out]; exact HR.out, World.ownsRow_nil _ _ _ _, by simp, hK1⟩
 case round =>
  obtain ⟨j, n, acc, hj, hn, hg, hC, hr, hown, hl, hK⟩ := hrel
  have HC := Lib.hid hC;have Hr := Lib.hid hr;have Ho := Lib.hid hown;have hsz := hK.size;have c0 := hC.c0;have c1 := hC.c1;clear hC hr hown
  by_cases hlt : j < s.size
  ·obtain ⟨n, rfl⟩ : ∃ m, n = m + 1 := ⟨n - 1, by omega⟩
   have hlt' : j < s.data.toList.length := by rw [len_list]; exact hlt
   go_wp2_with fail
   go_quiet (fail)
   obtain ⟨w2, hw2⟩ : ∃ w2, wr.drewN nq = w2 := ⟨_, rfl⟩
   rw [hw2]
   have C2 : Cur b s j w2 := by rw [← hw2]; exact HC.out
   have K2 : Kp [b] w w2 := by rw [← hw2]; exact hK.drewN _
   have ho2 := own_kp Ho.out ((Kp.refl [] wr).drewN nq) (by simp)
   rw [hw2] at ho2
   have Ho2 := Lib.hid ho2;clear ho2;have hsz2 := K2.size;clear hw2 c0 c1 hK HC
   by_cases h59 : atB s.data.toList j = 59
   ·have t59 : (nxt s.data.toList j == 59) = true := by rw [nxt_eq _ _ _ (by decide) (by decide), h59]; rfl
    have T59 := Lib.hid t59
    obtain ⟨f, hf⟩ : ∃ f, blkE s.data.toList (j + 1) = f := ⟨_, rfl⟩
    obtain ⟨f1, f2⟩ := blkE_bd s (j + 1) hlt
    rw [hf] at f1 f2
    have HF := Lib.hid hf
    obtain ⟨q1, q2, q3, hq⟩ : ∃ q1 q2 q3, (pmR s.data.toList f).1 = (q1, q2, q3) := ⟨_, _, _, rfl⟩
    obtain ⟨m, hm⟩ : ∃ m, (pmR s.data.toList f).2.1 = m := ⟨_, rfl⟩
    obtain ⟨x, hx⟩ : ∃ x, (pmR s.data.toList f).2.2 = x := ⟨_, rfl⟩
    have HQ := Lib.hid hq;have HM := Lib.hid hm;have HX := Lib.hid hx
    go_wp2_with fail
    refine (take_yes b j 59 s _ hs hlt C2 T59.out).mono ?_
    rintro e w3 ⟨rfl, C3, hK3⟩
    clear C2
    go_wp2_with fail
    refine (blanks_k b (j + 1) s _ hs hlt C3).mono ?_
    rintro e w4 ⟨rfl, C4, hK4⟩
    rw [HF.out] at C4
    have K4 := (K2.trans hK3).trans hK4
    have E4 := HE.out.kp K4 (by simp; omega)
    have c1 := C4.c1
    have Ho4 := Lib.hid (own_kp (own_kp Ho2.out hK3 (by simp; omega)) hK4 (by simp; omega))
    have HC4 := Lib.hid C4;clear C3 C4
    go_wp2_with fail
    refine (param_k b f s _ hs f2 HC4.out E4 hb7).mono ?_
    rintro e w5 ⟨rfl, C5, hK5⟩
    rw [HQ.out, HX.out, encP_eq]
    rw [HM.out] at C5
    have K5 := K4.trans hK5
    have Ho5 := Lib.hid (own_kp Ho4.out hK5 (by simp; omega))
    have HC5 := Lib.hid C5;have hsz5 := K5.size;clear C5;have hsz5' := hK5.size
    have KA := Lib.hid (K5.alloc (.cells #[.string ⟨q1.toArray⟩, .string ⟨q2.toArray⟩, .bool q3] 72))
    have CA := Lib.hid (HC5.out.alloc (.cells #[.string ⟨q1.toArray⟩, .string ⟨q2.toArray⟩, .bool q3] 72))
    have OA := Lib.hid (own_kp Ho5.out ((Kp.refl [] w5).alloc (.cells #[.string ⟨q1.toArray⟩, .string ⟨q2.toArray⟩, .bool q3] 72)) (by simp))
    by_cases hx0 : x = 0
    ·have bx : (x != 0) = false := by rw [hx0]; rfl
     have hpo := pm_ok s f f2 (by rw [hx]; exact hx0)
     rw [hm] at hpo
     by_cases hr0 : room acc q1 = 0
     ·have hl16 : acc.length ≤ 15 := by have := ((room_iff acc q1).1 hr0).2; omega
      obtain ⟨k2, hk2⟩ : ∃ k2, blkE s.data.toList m = k2 := ⟨_, rfl⟩
      obtain ⟨k21, k22⟩ := blkE_bd s m hpo.2
      rw [hk2] at k21 k22
      have HK2 := Lib.hid hk2
      have HX2 := Lib.hid (Hr.out.symm.trans ((parF_step n s.data.toList j acc hlt' h59 (by rw [hf, hx]; exact hx0) (by rw [hf, hq]; exact hr0)).trans (by rw [hf, hq, hm, hk2])))
      have HR0 := Lib.hid hr0
      have hmf : f ≤ m := hpo.1
      clear h59 t59 hf hq hm hx hx0 hr0 hk2 hpo
      go_wp2_with fail
      refine (mayJoin_any _ _ acc (q1, q2, q3) _ (own_pm OA.out) (Nat.le_refl _) (by omega)).mono ?_
      rintro e w6 ⟨rfl, hB6⟩
      rw [HR0.out]
      have K6 := KA.out.below hB6
      have O6 := Lib.hid (own_kp OA.out ((Kp.refl [] _).below hB6) (by simp))
      have C6 := Lib.hid (CA.out.below hB6);have hsz6 := K6.size;have hs6 := hB6.size
      have B6 := Lib.hid ((Blk.new w5 72 #[.string ⟨q1.toArray⟩, .string ⟨q2.toArray⟩, .bool q3]).below hB6 (by simp))
      have d0 := B6.out.cell 0;have d1 := B6.out.cell 1;have d2 := B6.out.cell 2
      go_wp2_with (at_builtin; refine wpList_append_own _ rfl _ _ 22 rfl w.heap.size 72 i0 (.agg #[.string .empty, .string .empty, .bool false]) 3 40 Tryz.underlying22 hi hz0 hz1 hz2 rfl (by decide) _ _ _ rfl (O6.out.alloc _) ⟨w6.heap.size, 0, none⟩ 1 1 [.string ⟨q1.toArray⟩, .string ⟨q2.toArray⟩, .bool q3] rfl rfl (cell_three_new _ _ _ _ _) (by simp [Value.oneCell']) ?c3 ?c4 ?c5 ?_)
      case c3 => unfold maxLen; omega
      case c4 => omega
      case c5 => simp; omega
      intro v' w7 hown' hgrow _
      have K7 := Lib.hid ((K6.alloc (.cells #[.string ⟨q1.toArray⟩, .string ⟨q2.toArray⟩, .bool q3] 72)).grown hgrow (fun g hg => .inr (O6.out.lt g hg).1))
      have hC7 : Cur b s m w7 := by
       have h1 := C6.out.alloc (.cells #[.string ⟨q1.toArray⟩, .string ⟨q2.toArray⟩, .bool q3] 72)
       exact (hgrow.block b h1.lt (fun e => by have := (O6.out.lt b e.symm).1; omega)).trans h1
      have HO7 := Lib.hid (by simpa [pcl, pc1] using hown' : w7.ownsRow w.heap.size 72 3 v' (acc ++ [(q1, q2, q3)]).length (pcl (acc ++ [(q1, q2, q3)])))
      clear hown' hgrow d0 d1 d2
      go_wp2_with fail
      refine (blanks_k b m s _ hs (by omega) hC7).mono ?_
      rintro e w8 ⟨rfl, C8, hK8⟩
      rw [HK2.out] at C8
      have HC8 := Lib.hid C8
      have HO8 := Lib.hid (own_kp HO7.out hK8 (by simp; omega))
      have K8 := Lib.hid (K7.out.trans hK8);clear C8 hC7
      go_wp2_with fail
      go_roundg (s.size - k2 + 1)
      case measure => omega
      case rel => exact ⟨k2, n, acc ++ [(q1, q2, q3)], k22, by omega, by omega, HC8.out, HX2.out.symm, HO8.out, by simp; omega, K8.out⟩
     ·have br : (room acc q1 != 0) = true := by rw [bne_iff_ne]; exact hr0
      have HX2 := Lib.hid (Hr.out.symm.trans ((parF_err3 n s.data.toList j acc hlt' h59 (by rw [hf, hx]; exact hx0) (by rw [hf, hq]; exact hr0)).trans (by rw [hf, hq])))
      have HBr := Lib.hid br;clear h59 t59 hf hq hm hx hx0 hr0 br hpo
      go_wp2_with fail
      refine (mayJoin_any _ _ acc (q1, q2, q3) _ (own_pm OA.out) (Nat.le_refl _) (by omega)).mono ?_
      rintro e w6 ⟨rfl, hB6⟩
      have br := HBr.out;have K6 := Lib.hid (KA.out.below hB6);have C6 := Lib.hid (CA.out.below hB6)
      go_wp2_with fail
      refine (fail_k b m f _ s _ C6.out).mono ?_
      rintro e w7 ⟨rfl, C7, hK7⟩
      have HC7 := Lib.hid C7;clear C7
      go_wp2_with fail
      go_ret2
      exact ⟨_, f, by rw [HX2.out]; rfl, by rw [HX2.out]; exact PmIn.nil _ _, HC7.out, fun _ => by rw [HX2.out], K6.out.trans hK7, by rw [HX2.out]; simp⟩
    ·have bx : (x != 0) = true := by rw [bne_iff_ne]; exact hx0
     have HX2 := Lib.hid (Hr.out.symm.trans ((parF_err2 n s.data.toList j acc hlt' h59 (by rw [hf, hx]; exact hx0)).trans (by rw [hf]; exact congrArg (Prod.mk []) (Prod.ext hm hx) : _ = (([], m, x) : List Prm × Nat × Int))))
     clear h59 t59 hf hq hm hx hx0
     go_wp2_with fail
     go_ret2
     exact ⟨_, m, by rw [HX2.out]; rfl, by rw [HX2.out]; exact PmIn.nil _ _, CA.out, fun _ => by rw [HX2.out], KA.out, by rw [HX2.out]; simp⟩
   ·have t59 : (nxt s.data.toList j == 59) = false := by rw [nxt_eq _ _ _ (by decide) (by decide)]; exact beq_eq_false_iff_ne.2 h59
    have T59 := Lib.hid t59;have HX := Lib.hid (Hr.out.symm.trans (parF_err1 n s.data.toList j acc hlt' h59));clear h59 t59
    go_wp2_with fail
    refine (take_no b j 59 s _ hs (by omega) C2 T59.out).mono ?_
    rintro e w3 ⟨rfl, C3, hK3⟩
    have HC3 := Lib.hid C3;clear C2 C3
    go_wp2_with fail
    go_ret2
    exact ⟨_, j, by rw [HX.out]; rfl, by rw [HX.out]; exact PmIn.nil _ _, HC3.out, fun _ => by rw [HX.out], K2.trans hK3, by rw [HX.out]; simp⟩
  ·obtain ⟨n, rfl⟩ : ∃ m, n = m + 1 := ⟨n - 1, by omega⟩
   have HX := Lib.hid (Hr.out.symm.trans (parF_end n s.data.toList j acc (by rw [len_list]; omega)))
   go_wp2_with fail
   go_quiet (fail)
   go_wp2_with fail
   go_ret2
   exact ⟨_, j, by rw [HX.out]; rfl, by rw [HX.out]; exact PmIn.drewN (PmIn.of_own Ho.out) _, HC.out, fun h => absurd (by rw [HX.out]) h, hK.drewN _, by rw [HX.out]; exact hl⟩
end Ad
end Go.Proofs.YtmmjfofdnpafkaaGreatDoor
namespace Go.Proofs.YtmmjfofdnpafkaaGreatDoor
namespace Ad
open Go.RowKit Lx
theorem parF_facts (l : List UInt8) : ∀ (n k : Nat) (acc : List Prm), ((parF n l k acc).2.2 ≠ 0 → (parF n l k acc).1 = []) ∧ ((parF n l k acc).2.2 = 0 → (parF n l k acc).2.1 = 0) := by
 intro n
 induction n with
 | zero => intro k acc; exact ⟨fun h => absurd rfl h, fun _ => rfl⟩
 | succ n ih =>
   intro k acc
   rw [parF]
   split
   ·exact ⟨fun h => absurd rfl h, fun _ => rfl⟩
   ·split
    ·exact ⟨fun _ => rfl, fun h => by simp at h⟩
    ·split
     ·rename_i h; exact ⟨fun _ => rfl, fun h2 => absurd h2 h⟩
     ·split
      ·rename_i h; exact ⟨fun _ => rfl, fun h2 => absurd h2 h⟩
      ·exact ih _ _
def PaP (r : List Prm × Nat × Int) (w : World) (e : Ending) (w' : World) : Prop :=
 ∃ v, e = .returned (.tuple #[v, .int .i64 r.2.1, .int .u8 r.2.2]) ∧ PmIn w'.heap.size w' v r.1 ∧ Below w.heap.size w w' ∧ r.1.length ≤ 16
theorem curNew (w : World) (s : ByteArray) : Cur w.heap.size s 0 (w.alloc (.cells #[.string s, .int .i64 0] 189)) := Blk.new w _ _
set_option maxRecDepth 100000 in
set_option maxHeartbeats 1000000 in
theorem readL_any (s : ByteArray) (w : World) (hs : s.size ≤ 2097152) (E : Env w) :
   Calls Tryz.prog 148 #[.string s, .func (.func 149) #[] #[]] w (PaP (parR s.data.toList) w) := by
 have ent : ∀ (args : Array Value) (w : World), Sem.run Tryz.prog (callFunc 149 args) w = .ok (.enter 149 args) w := enters_of Tryz.func149 (by kernel_rfl) rfl
 have Ent := Lib.hid ent;have CA := Lib.hid (curNew w s)
 have KA := Lib.hid ((Kp.refl [] w).alloc (.cells #[.string s, .int .i64 0] 189))
 have EA := Lib.hid (E.kp KA.out (by simp))
 have hb7 := E.sz
 have hF := parF_facts s.data.toList (s.data.toList.length + 1) (blkE s.data.toList 0) []
 obtain ⟨r1, r2, r3, hr⟩ : ∃ r1 r2 r3, parF (s.data.toList.length + 1) s.data.toList (blkE s.data.toList 0) [] = (r1, r2, r3) := ⟨_, _, _, rfl⟩
 rw [hr] at hF
 have HR := Lib.hid hr
 have HP := Lib.hid (by unfold parR; exact hr : parR s.data.toList = (r1, r2, r3))
 have HF := Lib.hid hF
 rw [HP.out]
 clear hr ent hF E
 go_enter Tryz.func148, Tryz.ntmps148
 go_wp2_with fail
 refine (list_k w.heap.size 0 s _ hs (Nat.zero_le _) CA.out EA.out hb7).mono ?_
 rintro e w1 ⟨v, k', rfl, hP, hC, hk, hK, hl⟩
 rw [HR.out] at hP hk hl ⊢
 dsimp only at hP hk hl ⊢
 have HB := Lib.hid ((KA.out.trans (Kp.refl _ _)).to_ hK (by intro y hy; simp at hy; right; omega))
 have HPm := Lib.hid hP;have c1 := hC.c1;have Hk := Lib.hid hk;have HC := Lib.hid hC;have hl' := hl;clear hP hk hC
 by_cases h3 : r3 = 0
 ·have b3 : (r3 != 0) = false := by rw [h3]; rfl
  have H2 := Lib.hid (HF.out.2 h3);have H3 := Lib.hid h3;clear h3
  go_wp2_with fail
  go_ret3
  refine ⟨v, ?_, HPm.out, HB.out.nilBelow, hl'⟩
  dsimp only
  rw [show r2 = 0 from H2.out, H3.out]; rfl
 ·have b3 : (r3 != 0) = true := by rw [bne_iff_ne]; exact h3
  have H1 := Lib.hid (HF.out.1 h3);have HK := Lib.hid (Hk.out h3);clear h3
  go_wp2_with fail
  go_quiet (fail)
  go_wp2_with fail
  go_ret3
  refine ⟨.slice none 0 0, ?_, ?_, (HB.out.drewN _).nilBelow, hl'⟩
  ·dsimp only; rw [← HK.out]; rfl
  ·dsimp only; rw [show r1 = [] from H1.out]; exact PmIn.nil _ _
set_option maxRecDepth 100000 in
theorem Params_any (s : ByteArray) (w : World) (hs : s.size ≤ 2097152) (E : Env w) :
   Calls Tryz.prog 75 #[.string s] w (PaP (parR s.data.toList) w) := by
 obtain ⟨r1, r2, r3, hr⟩ : ∃ r1 r2 r3, parR s.data.toList = (r1, r2, r3) := ⟨_, _, _, rfl⟩
 have HR := Lib.hid (readL_any s w hs E)
 rw [hr] at HR ⊢
 go_enter Tryz.func75, Tryz.ntmps75
 go_wp2_with fail
 refine HR.out.mono ?_
 rintro e w1 ⟨v, rfl, hP, hB, hl⟩
 dsimp only at hP hl
 have HPm := Lib.hid hP;have hl' := hl;clear hP
 go_wp2_with fail
 go_ret3
 exact ⟨v, rfl, HPm.out, hB, hl'⟩
end Ad
end Go.Proofs.YtmmjfofdnpafkaaGreatDoor
namespace Go.Proofs.YtmmjfofdnpafkaaGreatDoor
namespace Ad
open Go.RowKit Lx Go.Shelf Go.Lib Go.Sort
def ltP (a b : Prm) : Bool := ltL a.1 b.1
theorem swo_ltP : SWO ltP where
 irrefl := fun x => ltL_irrefl _
 trans := fun x y z h1 h2 => ltL_trans _ _ _ h1 h2
 ntrans := fun x y z h1 h2 => le_trans' z.1 y.1 x.1 h2 h1
theorem bytesLess_ltL : ∀ (a b : List UInt8), Op.bytesLess a b = ltL a b
 | [], [] => rfl
 | [], _ :: _ => rfl
 | _ :: _, [] => rfl
 | a :: s, b :: t => by
   simp only [Op.bytesLess, ltL, bytesLess_ltL s t, UInt8.lt_iff_toNat_lt]
   by_cases h : a.toNat < b.toNat
   ·simp [h]
   ·simp only [h]
    by_cases h2 : b.toNat < a.toNat
    ·simp [h2]; intro e; subst e; omega
    ·have : a = b := UInt8.toNat_inj.1 (by omega)
     simp [this]
noncomputable def prT : TypeInfo := (Tryz.prog.info? 22).get (by kernel_rfl)
noncomputable def prE : TypeInfo := (Tryz.prog.info? 72).get (by kernel_rfl)
theorem prK (n : Nat) (h2 : 2 ≤ n) : Lib.swapperK n prE 25 = 9 := by
 have a : prE.hasPointers = true := by kernel_rfl
 have b : prE.bytes = 40 := by kernel_rfl
 have c : (n == 0) = false := by simp; omega
 have d : (n == 1) = false := by simp; omega
 simp [Lib.swapperK, a, b, c, d]
set_option maxHeartbeats 2000000 in
set_option maxRecDepth 100000 in
theorem less_any (blk off c Bs size : Nat) (W : World) (G : Nat → ByteArray) (hs : W.cell? ⟨Bs, 0, none⟩ = some (.slice (some ⟨blk, off, none⟩) size c))
   (hc : ∀ t, t < size → W.cell? ⟨blk, off + t * 3, none⟩ = some (.string (G t))) (i j : Nat) (hi : i < size) (hj : j < size) (hsz : size < 4611686018427387904) :
   Calls Tryz.prog 133 #[.int .i64 i, .int .i64 j, .pointer (some ⟨Bs, 0, none⟩)] W fun e w' => e = .returned (.bool (Op.bytesLess (G i).toList (G j).toList)) ∧ ∃ q, w' = W.drewN q := by
 have ci := hc i hi;have cj := hc j hj
 go_enter Tryz.func133, Tryz.ntmps133
 go_wp2_with fail
 go_quiet (fail)
 go_wp2_with fail
 go_ret
 exact ⟨rfl, nq, rfl⟩
theorem pc1_cells (d : Array Prm) (t : Nat) (ht : t < d.size * 3) : (pcl d.toList)[t]? = some ((pc1 d[t / 3]!)[t % 3]!) := by
 have h3 : t / 3 < d.size := Nat.div_lt_of_lt_mul (by omega)
 have h := pcl_at d.toList (t / 3) d[t / 3]! (by rw [Array.getElem?_toList, getElem!_pos d _ h3]; simp [h3]) (t % 3) ((pc1 d[t / 3]!)[t % 3]!) (by
  have : t % 3 < (pc1 d[t / 3]!).length := by simp [pc1]; omega
  rw [getElem!_pos (pc1 d[t / 3]!) (t % 3) this, List.getElem?_eq_getElem this])
 rwa [show t / 3 * 3 + t % 3 = t by omega] at h
theorem holds_pcl (w : World) (blk off : Nat) (d : Array Prm) (hc : ∀ (j : Nat) (u : Value), (pcl d.toList)[j]? = some u → w.cell? ⟨blk, off + j, none⟩ = some u) (hf : ∀ j, w.frozen? ⟨blk, off + j, none⟩ = false) :
   HoldsK pc1 3 w blk off d := by
 intro j hj
 rw [size_flatK] at hj
 rw [get_flatK _ _ _ _ hj]
 exact ⟨hc j _ (pc1_cells d j hj), hf j⟩
theorem pcl_of_holds (w : World) (blk off : Nat) (d : Array Prm) (h : HoldsK pc1 3 w blk off d) (j : Nat) (u : Value) (hu : (pcl d.toList)[j]? = some u) : w.cell? ⟨blk, off + j, none⟩ = some u := by
 have hj : j < d.size * 3 := by
  have := (List.getElem?_eq_some_iff.1 hu).1
  rw [pcl_len] at this; simpa using this
 have := (h j (by rw [size_flatK]; exact hj)).1
 rw [get_flatK _ _ _ _ hj] at this
 rw [pc1_cells d j hj] at hu
 rw [this]; exact hu
set_option maxHeartbeats 2000000 in
set_option maxRecDepth 100000 in
theorem sort_any (blk off c Bs : Nat) (d : Array Prm) (h2 : 2 ≤ d.size) (hsz : d.size < 4611686018427387904) (w : World) (hH : HoldsK pc1 3 w blk off d) (hblk : blk < w.heap.size)
   (hBs : w.cell? ⟨Bs, 0, none⟩ = some (.slice (some ⟨blk, off, none⟩) d.size c)) (hB1 : Bs < w.heap.size) (hB2 : Bs ≠ blk) :
   Calls Tryz.prog 132 #[.iface 22 (.slice (some ⟨blk, off, none⟩) d.size c), .func (.func 133) #[] #[.pointer (some ⟨Bs, 0, none⟩)]] w fun e w' =>
    e = .returned (.tuple #[]) ∧ ∃ d' n os, PermIn 0 d.size d d' ∧ SortedIn ltP 0 d.size d' ∧ w' = grow (putRowK pc1 3 (Sort.ahead w n) blk off d') os := by
 have hless : LessReadsK Tryz.prog 133 #[.pointer (some ⟨Bs, 0, none⟩)] pc1 3 ltP blk off d.size w := by
  intro m os dk hs i j hi hj
  have e : sortWorldK pc1 3 w blk off m dk os = putRowK pc1 3 (grow (Sort.ahead w m) os) blk off dk := by
   unfold sortWorldK; rw [putRowK_grow _ _ (Sort.ahead w m) _ blk off _ hblk]
  have hHg : HoldsK pc1 3 (grow (Sort.ahead w m) os) blk off d := holdsK_grow _ _ _ _ blk off d hblk (holdsK_ahead _ _ _ _ _ _ _ hH)
  have h := less_any blk off c Bs d.size (sortWorldK pc1 3 w blk off m dk os) (fun t => ⟨dk[t]!.1.toArray⟩) ?_ (fun t ht => ?_) i j hi hj (by omega)
  ·refine h.mono ?_
   rintro e w' ⟨rfl, hq⟩
   refine ⟨?_, hq⟩
   rw [Lib.toList_data, Lib.toList_data, bytesLess_ltL]; rfl
  ·rw [e, cell?_putRowK_other _ _ _ blk off dk _ (by exact hB2), cell?_grow _ _ _ (by exact hB1)]; exact hBs
  ·rw [e]; exact ((holdsK_putRowK _ _ _ blk off d dk hHg hs).cell (i := t) (c := 0) (by omega) (by omega)).1
 exact Any.sort_Slice_cells_sorted Tryz.laysGg6 22 72 prT prE (by kernel_rfl) (by kernel_rfl) (by kernel_rfl) (by kernel_rfl) 25 (fun _ => by kernel_rfl) pc1 3 (fun _ => rfl) (by kernel_rfl) (fun _ => by kernel_rfl)
  (fun x v hv => by simp [pc1] at hv; rcases hv with rfl | rfl | rfl <;> rfl) ltP swo_ltP 133 _
  (enters_of Tryz.func133 (by kernel_rfl) rfl) blk off c d h2 hsz 283 (by rw [prK _ h2]; kernel_rfl) false
  (fun args W => run_callFunc_extern Tryz.func283 (by kernel_rfl) (by kernel_rfl) (by kernel_rfl) (e := Extern.ReflectliteSwapper.swap false) (by kernel_rfl) args W) w hless hH hblk
set_option maxHeartbeats 2000000 in
set_option maxRecDepth 100000 in
theorem sort_tiny (p : Option Addr) (n c : Nat) (h1 : n ≤ 1) (lf : Fn) (la lb : Array Value) (w : World) :
   Calls Tryz.prog 132 #[.iface 22 (.slice p n c), .func lf la lb] w fun e w' => e = .returned (.tuple #[]) ∧ ∃ os, w' = grow w os := by
 have hn : n = 0 ∨ n = 1 := by omega
 rcases hn with rfl | rfl
 ·exact Any.sort_Slice_tiny Tryz.laysGg6 22 72 prT prE (by kernel_rfl) (by kernel_rfl) (by kernel_rfl) (by kernel_rfl) 25 (fun _ => by kernel_rfl) p 0 c (by omega) 275 (by kernel_rfl) lf la lb w
 ·exact Any.sort_Slice_tiny Tryz.laysGg6 22 72 prT prE (by kernel_rfl) (by kernel_rfl) (by kernel_rfl) (by kernel_rfl) 25 (fun _ => by kernel_rfl) p 1 c (by omega) 276 (by kernel_rfl) lf la lb w
theorem srtd_of (d : Array Prm) (h : SortedIn ltP 0 d.size d) : Srtd d.toList := by
 unfold Srtd
 rw [List.pairwise_iff_getElem]
 intro i j hi hj hij
 have hi' : i < d.size := by simpa using hi
 have hj' : j < d.size := by simpa using hj
 have := h i j (Nat.zero_le _) hij hj'
 rw [getElem!_pos d i hi', getElem!_pos d j hj'] at this
 simpa [ltP] using this
theorem perm_of (d d' : Array Prm) (h : PermIn 0 d.size d d') : d'.toList.Perm d.toList := by
 have h3 := h.2.2
 rw [show d'.extract 0 d.size = d' from by rw [← h.1]; simp, show d.extract 0 d.size = d from by simp] at h3
 exact h3
theorem kp_put (w : World) (blk off n : Nat) (d : Array Prm) (os : Array Obj) : Kp [blk] w (grow (putRowK pc1 3 (Sort.ahead w n) blk off d) os) := by
 refine ⟨rfl, rfl, rfl, ?_, fun k hk hx => ?_⟩
 ·show w.heap.size ≤ ((w.heap.modify blk _) ++ os).size
  rw [Array.size_append, Array.size_modify]; omega
 ·show ((w.heap.modify blk _) ++ os)[k]? = _
  have hx : blk ≠ k := fun h => hx (by simp [h])
  rw [Array.getElem?_append, if_pos (by rw [Array.size_modify]; exact hk), Array.getElem?_modify, if_neg hx]
theorem kp_grow (w : World) (os : Array Obj) : Kp [] w (grow w os) := by
 refine ⟨rfl, rfl, rfl, ?_, fun k hk hx => heap_grow_old w os hk⟩
 show w.heap.size ≤ (w.heap ++ os).size
 rw [Array.size_append]; omega
theorem perm_tiny (l : List Prm) (h : l.length ≤ 1) : Srtd l := by
 unfold Srtd
 match l, h with
 | [], _ => exact .nil
 | [a], _ => exact List.pairwise_singleton _ _
 | a :: b :: t, h => simp at h
def SoP (l : List Prm) (w : World) (e : Ending) (w' : World) : Prop :=
 ∃ v l', e = .returned v ∧ PmIn w'.heap.size w' v l' ∧ l'.Perm l ∧ Srtd l' ∧ Kp [] w w'
def CloP (l : List Prm) (w : World) (e : Ending) (w' : World) : Prop :=
 ∃ v, e = .returned v ∧ w'.ownsRow w.heap.size 72 3 v l.length (pcl l) ∧ Kp [] w w'
theorem pcl_one (l : List Prm) : ∀ u ∈ pcl l, u.oneCell' = true := by
 intro u hu
 simp only [pcl, List.mem_flatMap, pc1] at hu
 obtain ⟨p, _, hp⟩ := hu
 simp at hp
 rcases hp with rfl | rfl | rfl <;> rfl
theorem clone_any (B : Nat) (v : Value) (l : List Prm) (w : World) (hP : PmIn B w v l) (hl : l.length ≤ 4194304) :
   Calls Tryz.prog 116 #[v] w (CloP l w) := by
 obtain ⟨n, c, rfl, hc, ⟨h0, rfl⟩ | ⟨b, o, rfl, hb, hcell⟩⟩ := hP
 ·have hnil : l = [] := List.eq_nil_of_length_eq_zero h0
  subst hnil
  refine (AnyE.slices_Clone_nil Tryz.slClo _ c w).mono ?_
  rintro e w' ⟨rfl, rfl⟩
  exact ⟨_, rfl, World.ownsRow_nil _ _ _ _, Kp.refl _ _⟩
 ·obtain ⟨i0, hi, hz0, hz1, hz2⟩ := info_parts infoPrm3
  refine (AnyE.slices_Clone Tryz.slClo i0 (.agg #[.string .empty, .string .empty, .bool false]) 3 40 hi hz0 hz1 hz2 rfl (by decide) Tryz.sizeOf72 b o l.length c (pcl l) w (pcl_len l) (by unfold maxLen; omega) (by omega) hcell (pcl_one l)).mono ?_
  rintro e w' ⟨v', rfl, hown, _, hB⟩
  exact ⟨v', rfl, hown, (Kp.refl [] w).below hB⟩
end Ad
end Go.Proofs.YtmmjfofdnpafkaaGreatDoor
namespace Go.Proofs.YtmmjfofdnpafkaaGreatDoor
namespace Ad
open Go.RowKit Lx
theorem own_form {w : World} {base : Nat} {v : Value} {l : List Prm} (h : w.ownsRow base 72 3 v l.length (pcl l)) : ∃ p c, v = .slice p l.length c := by
 rcases h.2 with ⟨rfl, hz⟩ | ⟨g, cap, cur, rfl, _⟩
 ·exact ⟨none, 0, by rw [hz]⟩
 ·exact ⟨_, cap, rfl⟩
theorem own_two {w : World} {base : Nat} {v : Value} {l : List Prm} (h : w.ownsRow base 72 3 v l.length (pcl l)) (h2 : 2 ≤ l.length) :
   ∃ g c, v = .slice (some ⟨g, 0, none⟩) l.toArray.size c ∧ base ≤ g ∧ g < w.heap.size ∧ Sort.HoldsK pc1 3 w g 0 l.toArray := by
 rcases h.2 with ⟨rfl, hz⟩ | ⟨g, cap, cur, rfl, hb, hg, hnc, rest⟩
 ·omega
 ·refine ⟨g, cap, by simp, hb, lt_of_some hg, holds_pcl w g 0 l.toArray (fun j u hu => ?_) (fun j => ?_)⟩
  ·have := h.cells (g := g) rfl j u (by simpa using hu)
   rw [Nat.zero_add]
   by_cases hj : j = 0
   ·subst hj; simpa [Addr.add] using this
   ·simpa [Addr.add, hj] using this
  ·simp [World.frozen?, hg]
set_option maxRecDepth 100000 in
set_option maxHeartbeats 1000000 in
theorem sorted_any (B : Nat) (v : Value) (l : List Prm) (w : World) (hP : PmIn B w v l) (hB : B ≤ w.heap.size) (hl : l.length ≤ 4194304) :
   Calls Tryz.prog 66 #[v] w (SoP l w) := by
 obtain ⟨A, cA, rfl⟩ := hP.form
 have BA := Lib.hid (Blk.new w 22 #[.slice A l.length cA])
 have KA := Lib.hid ((Kp.refl [] w).alloc (.cells #[.slice A l.length cA] 22))
 have PA : PmIn B (w.alloc (.cells #[.slice A l.length cA] 22)) (.slice A l.length cA) l := hP.kp KA.out hB (by simp)
 have PA := Lib.hid PA;clear hP
 go_enter Tryz.func66, Tryz.ntmps66
 go_wp2_with fail
 refine (clone_any B _ l _ PA.out hl).mono ?_
 rintro e w1 ⟨v1, rfl, hown, hK1⟩
 have B1 := Lib.hid (BA.out.kp hK1 (by simp))
 have b0 := B1.out.frozen 0
 have d0 : w1.cell? ⟨w.heap.size, 0, none⟩ = some (.slice A l.length cA) := by simpa using B1.out.cell 0
 have B2 := Lib.hid (B1.out.set_ 0 v1)
 have K2 := Lib.hid ((KA.out.trans hK1).setCell (p := ⟨w.heap.size, 0, none⟩) (.inr (Nat.le_refl _)) v1)
 have O2 := Lib.hid (own_kp hown ((Kp.refl [w.heap.size] w1).setCell (p := ⟨w.heap.size, 0, none⟩) (.inl (by simp)) v1) (by simp))
 have c0 := B2.out.cell 0
 obtain ⟨p, c, hv⟩ := own_form hown
 have hsz := K2.out.size;have hlt := B2.out.lt;clear hown
 by_cases h1 : l.length ≤ 1
 ·subst hv
  have c0' : (w1.setCell ⟨w.heap.size, 0, none⟩ (.slice p l.length c)).cell? ⟨w.heap.size, 0, none⟩ = some (.slice p l.length c) := by simpa using c0
  clear c0
  go_wp2_with fail
  refine (sort_tiny p l.length c h1 _ _ _ _).mono ?_
  rintro e w2 ⟨rfl, os, rfl⟩
  have hK3 := kp_grow (w1.setCell ⟨w.heap.size, 0, none⟩ (.slice p l.length c)) os
  have c1 := (B2.out.kp hK3 (by simp)).cell 0
  have c1' : (Sort.grow (w1.setCell ⟨w.heap.size, 0, none⟩ (.slice p l.length c)) os).cell? ⟨w.heap.size, 0, none⟩ = some (.slice p l.length c) := by simpa using c1
  clear c1
  have O3 := Lib.hid (PmIn.of_own (own_kp O2.out hK3 (by simp)))
  have K3 := Lib.hid (K2.out.trans hK3);clear hK3
  go_wp2_with fail
  go_ret
  exact ⟨_, l, rfl, O3.out, .refl _, perm_tiny l h1, K3.out⟩
 ·obtain ⟨g, c', rfl, hg1, hg2, hH⟩ := own_two O2.out (by omega)
  have c0' : (w1.setCell ⟨w.heap.size, 0, none⟩ (.slice (some ⟨g, 0, none⟩) l.toArray.size c')).cell? ⟨w.heap.size, 0, none⟩ = some (.slice (some ⟨g, 0, none⟩) l.toArray.size c') := by simpa using c0
  have C0 := Lib.hid c0';have HH := Lib.hid hH
  have hg1' : w.heap.size < g := by simp at hg1; omega
  clear c0 hH hv
  go_wp2_with fail
  refine (sort_any g 0 c' w.heap.size l.toArray (by simp; omega) (by simp; omega) _ HH.out hg2 C0.out hlt (by omega)).mono ?_
  rintro e w2 ⟨rfl, d', n, os, hPe, hSo, hw2⟩
  have hK3 : Kp [g] (w1.setCell ⟨w.heap.size, 0, none⟩ (.slice (some ⟨g, 0, none⟩) l.toArray.size c')) w2 := by rw [hw2]; exact kp_put _ g 0 n d' os
  have c1 := (B2.out.kp hK3 (by simp; omega)).cell 0
  have c1' : w2.cell? ⟨w.heap.size, 0, none⟩ = some (.slice (some ⟨g, 0, none⟩) l.length c') := by simpa using c1
  clear c1
  have hd : d'.size = l.toArray.size := hPe.1
  have H3 : Sort.HoldsK pc1 3 w2 g 0 d' := by
   rw [hw2]
   refine Sort.holdsK_grow _ _ _ _ g 0 d' ?_ (Sort.holdsK_putRowK _ _ _ g 0 l.toArray d' (Sort.holdsK_ahead _ _ _ _ _ _ _ HH.out) hd)
   show g < (Array.modify _ _ _).size
   rw [Array.size_modify]; exact hg2
  have O3 : PmIn w2.heap.size w2 (.slice (some ⟨g, 0, none⟩) l.length c') d'.toList := by
   refine ⟨l.length, c', by have h9 := hd; simp at h9; simp [h9], ?_, .inr ⟨g, 0, rfl, Nat.lt_of_lt_of_le hg2 hK3.size, fun j u hu => pcl_of_holds _ g 0 d' H3 j u hu⟩⟩
   rcases O2.out.2 with ⟨hq, _⟩ | ⟨g2, cap, cur, hq, _, _, hnc, _⟩
   ·cases hq
   ·injection hq with _ _ hq3; rw [hq3]; exact hnc
  have HO3 := Lib.hid O3
  have K3 := Lib.hid (K2.out.to_ hK3 (by simp; omega))
  have HPe := Lib.hid (perm_of _ _ hPe)
  have HSo := Lib.hid (srtd_of d' (by rw [hd]; exact hSo))
  clear hK3 O3 H3 hPe hSo hw2
  go_wp2_with fail
  go_ret
  exact ⟨_, d'.toList, rfl, HO3.out, by simpa using HPe.out, HSo.out, K3.out⟩
end Ad
end Go.Proofs.YtmmjfofdnpafkaaGreatDoor
namespace Go.Proofs.YtmmjfofdnpafkaaGreatDoor
namespace Ad
open Go.RowKit Lx
theorem wrdR_empty (k : Int) (l : List UInt8) (h : ¬ (wrdR k l).2 < l.length) (h2 : (wrdR k l).1 = []) : l = [] := by
 cases l with
 | nil => rfl
 | cons c t =>
   exfalso
   rw [wrdR.eq_def] at h h2
   dsimp only at h h2
   split at h
   ·rename_i h37
    rw [if_pos h37] at h2
    split at h
    ·rename_i hi; rw [if_pos hi] at h2; simp at h2
    ·simp at h
   ·rename_i h37
    rw [if_neg h37] at h2
    split at h
    ·rename_i a b r
     dsimp only at h2
     split at h
     ·rename_i hi; rw [if_pos hi] at h2; simp at h2
     ·simp at h
    ·simp at h
def PaQ (b : Nat) (s : ByteArray) (r : Prm × Nat × Int) (w : World) (e : Ending) (w' : World) : Prop :=
 ∃ q, e = .returned (.tuple #[encP q, .int .u8 r.2.2]) ∧ (r.2.2 = 0 → q = r.1) ∧ Cur b s r.2.1 w' ∧ Kp [b] w w'
theorem wrdR_len (k : Int) (n : Nat) : ∀ l : List UInt8, l.length ≤ n → (wrdR k l).1.length ≤ l.length := by
 induction n with
 | zero => intro l h; have : l = [] := List.eq_nil_of_length_eq_zero (by omega); subst this; exact Nat.le_refl _
 | succ n ih =>
   intro l h
   cases l with
   | nil => exact Nat.le_refl _
   | cons c t =>
     simp only [List.length_cons] at h ⊢
     rw [wrdR.eq_def]
     dsimp only
     split
     ·split
      ·have := ih t (by omega); simp only [List.length_cons]; omega
      ·simp
     ·split
      ·rename_i a b r
       split
       ·have := ih r (by simp only [List.length_cons] at h; omega)
        simp only [List.length_cons]; omega
       ·simp
      ·simp
def wdR (cls : Int) (l : List UInt8) (k t : Nat) : List UInt8 × Nat × Int :=
 if (wrdR cls (slc l k t)).2 < t - k then ([], k + (wrdR cls (slc l k t)).2, 5) else ((wrdR cls (slc l k t)).1, t, 0)
theorem wdR_len (cls : Int) (l : List UInt8) (k t : Nat) : (wdR cls l k t).1.length ≤ l.length := by
 unfold wdR
 split
 ·simp
 ·have := wrdR_len cls _ (slc l k t) (Nat.le_refl _)
  have h2 : (slc l k t).length ≤ l.length := by unfold slc; simp; omega
  dsimp only; omega
theorem word_k (cls : Int) (b k t : Nat) (s : ByteArray) (w : World) (hs : s.size ≤ 2097152) (hk : k ≤ t) (ht : t ≤ s.size) (C : Cur b s k w) (E : Env w) (c : List UInt8) (k2 : Nat) (x : Int) (h : Hid (wdR cls s.data.toList k t = (c, k2, x))) :
   Calls Tryz.prog 267 #[.pointer (some ⟨b, 0, none⟩), .int .i64 t, .int .i64 cls] w (CuW b s k2 c x w) := by
 have h := h.out
 unfold wdR at h
 split at h
 ·rename_i h1
  injection h with h2 h3
  injection h3 with h3 h4
  subst h2 h3 h4
  exact word_bad cls b k t s w hs hk ht C E h1
 ·rename_i h1
  injection h with h2 h3
  injection h3 with h3 h4
  subst h2 h3 h4
  exact word_ok cls b k t s w hs hk ht C E h1
theorem wdR_bd (cls : Int) (l : List UInt8) (k t : Nat) (hk : k ≤ t) : (wdR cls l k t).2.1 ≤ t := by
 unfold wdR
 split
 ·dsimp only; omega
 ·exact Nat.le_refl _
theorem wdR_ok (cls : Int) (l : List UInt8) (k t : Nat) (h : (wdR cls l k t).2.2 = 0) : (wdR cls l k t).2.1 = t := by
 unfold wdR at h ⊢
 split
 ·rename_i h1; rw [if_pos h1] at h; simp at h
 ·rfl
theorem prR_wd (cls : Int) (l : List UInt8) (k t m : Nat) (ht : t ≤ l.length) (hm : min (endP (· == 61) l k) t = m) (hkm : k ≤ m) (c : List UInt8) (k2 : Nat) (x : Int) (h : wdR cls l k m = (c, k2, x)) :
   prR cls l k t = if x ≠ 0 then (([], [], false), k2, x)
    else if c = [] then (([], [], false), k2, 5)
    else if m = t then (if cls = 2 then (([], [], false), t, 5) else ((lowL c, [], false), t, 0))
    else if (wdR cls l (m + 1) t).2.2 ≠ 0 then (([], [], false), (wdR cls l (m + 1) t).2)
    else if cls = 1 ∧ (wdR cls l (m + 1) t).1 = [] then (([], [], false), t, 5)
    else ((lowL c, (wdR cls l (m + 1) t).1, true), t, 0) := by
 have hmt : m ≤ t := by omega
 unfold prR
 rw [hm]
 unfold wdR at h
 split at h
 ·rename_i h1
  injection h with h2 h3
  injection h3 with h3 h4
  subst h2 h3 h4
  rw [if_pos h1, if_pos (by decide)]
 ·rename_i h1
  injection h with h2 h3
  injection h3 with h3 h4
  subst h2 h3 h4
  rw [if_neg h1, if_neg (show ¬ ((0 : Int) ≠ 0) by decide)]
  by_cases hc : (wrdR cls (slc l k m)).1 = []
  ·have hl := slc_len l k m (by omega)
   have he := wrdR_empty cls (slc l k m) (by rw [hl]; exact h1) hc
   rw [he] at hl
   have : k = m := by simp at hl; omega
   rw [if_pos hc, if_pos hc, this]
  ·rw [if_neg hc, if_neg hc]
   by_cases hmt' : m = t
   ·rw [if_pos hmt', if_pos hmt', hmt']
   ·rw [if_neg hmt', if_neg hmt']
    have hn : endP (· == 61) l k = m := by omega
    rw [hn]
    unfold wdR
    by_cases h5 : (wrdR cls (slc l (m + 1) t)).2 < t - (m + 1)
    ·rw [if_pos h5, if_pos h5, if_pos (show (5 : Int) ≠ 0 by decide)]
    ·rw [if_neg h5, if_neg h5, if_neg (show ¬ ((0 : Int) ≠ 0) by decide)]
set_option maxRecDepth 100000 in
set_option maxHeartbeats 2000000 in
theorem pair_k (cls : Int) (b k t : Nat) (s : ByteArray) (w : World) (hs : s.size ≤ 2097152) (hk : k ≤ t) (ht : t ≤ s.size) (C : Cur b s k w) (E : Env w) (hb7 : 7 ≤ b) :
   Calls Tryz.prog 329 #[.pointer (some ⟨b, 0, none⟩), .int .i64 t, .int .i64 cls] w (PaQ b s (prR cls s.data.toList k t) w) := by
 have hbw := C.lt
 have hbne : b ≠ w.heap.size := by omega
 have CA := Lib.hid (C.alloc (.cells #[.string ⟨#[]⟩, .string ⟨#[]⟩, .bool false] 72))
 have KA := Lib.hid ((Kp.refl [b] w).alloc (.cells #[.string ⟨#[]⟩, .string ⟨#[]⟩, .bool false] 72))
 have BA := Lib.hid (Blk.new w 72 #[.string ⟨#[]⟩, .string ⟨#[]⟩, .bool false])
 have EA := Lib.hid (E.kp KA.out (by simp; omega))
 obtain ⟨n, hn⟩ : ∃ n, endP (· == 61) s.data.toList k = n := ⟨_, rfl⟩
 have hnk : k ≤ n := by rw [← hn]; exact endP_ge _ _ _
 obtain ⟨m, hm⟩ : ∃ m, min n t = m := ⟨_, rfl⟩
 have hkm : k ≤ m := by omega
 have hmt : m ≤ t := by omega
 obtain ⟨c, k2, x, hx⟩ : ∃ c k2 x, wdR cls s.data.toList k m = (c, k2, x) := ⟨_, _, _, rfl⟩
 have hk2 : k2 ≤ m := by have := wdR_bd cls s.data.toList k m hkm; rw [hx] at this; exact this
 have HV := Lib.hid (prR_wd cls s.data.toList k t m (by rw [len_list]; exact ht) (by rw [hn, hm]) hkm c k2 x hx)
 have HX := Lib.hid hx;have HN := Lib.hid hn
 have HM := Lib.hid (by omega : min (n : Int) (t : Int) = (m : Int))
 have hnm : m ≠ t → m = n := by omega
 have HNM := Lib.hid hnm
 have hm9 : m ≤ n := by omega
 have c0 := CA.out.c0;have c1 := CA.out.c1;clear hm hn E C hx hnm
 go_enter Tryz.func329, Tryz.ntmps329
 go_upto_region 1 with fail
 go_cut [8, 9] from 11 to 28 (fun a e wx => a = .string (Txt c) ∧ e = .int .u8 x ∧ Cur b s k2 wx ∧ Kp [b] (w.alloc (.cells #[.string ⟨#[]⟩, .string ⟨#[]⟩, .bool false] 72)) wx)
 case first =>
  go_region_with (first
   | (go_at_call 213; refine (end_m (· == 61) s ⟨#[61]⟩ k _ hs (by omega) m61).mono ?_; rintro e w2 ⟨rfl, rfl⟩; rw [HN.out])
   | (go_at_call 267; rw [HM.out]; refine (word_k cls b k m s _ hs hkm (by omega) ?_ ?_ c k2 x HX).mono ?_; exact Cur.drewN CA.out 1; exact Env.drewN EA.out 1; rintro e w2 ⟨rfl, C2, hK2⟩))
  all_goals (go_wp2_with fail; go_meet; exact ⟨rfl, rfl, C2, ((Kp.refl [b] _).drewN 1).trans hK2⟩)
 case rest =>
  obtain ⟨rfl, rfl, hC, hK1⟩ := hcut
  have B1 := Lib.hid (BA.out.kp hK1 (by simp; omega))
  have d0 := B1.out.cell 0;have d1 := B1.out.cell 1;have d2 := B1.out.cell 2;have g0 := B1.out.frozen 0;have g1 := B1.out.frozen 1;have g2 := B1.out.frozen 2;have K1 := Lib.hid (KA.out.trans hK1);have HC := Lib.hid hC
  have E1 := Lib.hid (EA.out.kp hK1 (by simp; omega))
  have hsz := hK1.size
  have hsz1 : w.heap.size + 1 ≤ wc.heap.size := by simpa using hsz
  clear hC hK1 c0 c1 hsz
  by_cases hx0 : x = 0
  ·subst hx0
   have hkm2 : k2 = m := by have := wdR_ok cls s.data.toList k m (by rw [HX.out]); rw [HX.out] at this; exact this
   subst hkm2
   by_cases hc0 : c = []
   ·have HW := Lib.hid (HV.out.trans (by rw [if_neg (by decide), if_pos hc0]))
    have hemp : Txt c = ⟨#[]⟩ := by rw [hc0]; rfl
    rw [hemp]
    clear hc0 hemp
    go_wp2_with fail
    refine bodyPost_ret (results_two rfl _ _ w.heap.size 72 _ (0, 0) _ rfl (blk3 B1.out _ _ _) Tryz.underlying72 rfl infoPrm) rfl ?_
    rw [HW.out]
    exact ⟨([], [], false), rfl, fun _ => rfl, cur3 HC.out hbne _ _ _, kp3 K1.out (Nat.le_refl _) _ _ _⟩
   ·have hlen : c.length ≤ s.data.toList.length := by have := wdR_len cls s.data.toList k k2; rw [HX.out] at this; exact this
    rw [len_list] at hlen
    have hxl : 1 ≤ (Txt c).size := by rw [txt_size]; cases c with | nil => exact absurd rfl hc0 | cons a b => simp
    have hxs : (Txt c).size ≤ 2097152 := by rw [txt_size]; omega
    have he := isEmpty_no _ hxl;have hne := toList_ne _ hxl
    have HW := Lib.hid (HV.out.trans (by rw [if_neg (by decide), if_neg hc0]))
    clear hc0
    go_wp2_with fail
    refine (lower_any (Txt c) _ (by omega)).mono ?_
    rintro e w3 ⟨rfl, hB3⟩
    rw [txt_list]
    have K3 := K1.out.below hB3;have hs3 := hB3.size;have C3 := HC.out.below hB3
    have PP := Lib.hid (Blk.new w3 72 #[.string ⟨(lowL c).toArray⟩, .string ⟨#[]⟩, .bool false])
    have KP := Lib.hid (K3.alloc (.cells #[.string ⟨(lowL c).toArray⟩, .string ⟨#[]⟩, .bool false] 72))
    have CP := Lib.hid (Cur.alloc C3 (.cells #[.string ⟨(lowL c).toArray⟩, .string ⟨#[]⟩, .bool false] 72))
    have BP := Lib.hid ((B1.out.below hB3 (by omega)).alloc (.cells #[.string ⟨(lowL c).toArray⟩, .string ⟨#[]⟩, .bool false] 72))
    have EP := Lib.hid ((E1.out.kp ((Kp.refl [] wc).below hB3) (by simp)).kp ((Kp.refl [] w3).alloc (.cells #[.string ⟨(lowL c).toArray⟩, .string ⟨#[]⟩, .bool false] 72)) (by simp))
    clear d0 d1 d2 g0 g1 g2 K3 C3;have c1 := CP.out.c1;have d0 := BP.out.cell 0;have d1 := BP.out.cell 1;have d2 := BP.out.cell 2;have g0 := BP.out.frozen 0;have g1 := BP.out.frozen 1;have g2 := BP.out.frozen 2;have p0 := PP.out.cell 0;have p1 := PP.out.cell 1;have p2 := PP.out.cell 2
    by_cases hkt : k2 = t
    ·have bt : ((k2 : Int) == (t : Int)) = true := by rw [hkt]; simp
     by_cases hc2 : cls = 2
     ·have b2 : (cls == 2) = true := by rw [hc2]; rfl
      have HW2 := Lib.hid (HW.out.trans (by rw [if_pos hkt, if_pos hc2]))
      have HKT := Lib.hid hkt;clear hkt hc2
      go_wp2_with fail
      refine bodyPost_ret (results_two rfl _ _ w.heap.size 72 _ (0, 0) _ rfl (blk3 BP.out _ _ _) Tryz.underlying72 rfl infoPrm) rfl ?_
      rw [HW2.out]
      exact ⟨([], [], false), rfl, fun _ => rfl, by have h := CP.out; rw [HKT.out] at h; exact cur3 h hbne _ _ _, kp3 KP.out (Nat.le_refl _) _ _ _⟩
     ·have b2 : (cls == 2) = false := beq_eq_false_iff_ne.2 hc2
      have HW2 := Lib.hid (HW.out.trans (by rw [if_pos hkt, if_neg hc2]))
      have HKT := Lib.hid hkt;clear hkt hc2
      go_wp2_with fail
      refine bodyPost_ret (results_two rfl _ _ w.heap.size 72 _ (0, 0) _ rfl (blk3 BP.out _ _ _) Tryz.underlying72 rfl infoPrm) rfl ?_
      rw [HW2.out]
      exact ⟨(lowL c, [], false), rfl, fun _ => rfl, by have h := CP.out; rw [HKT.out] at h; exact cur3 h hbne _ _ _, kp3 KP.out (Nat.le_refl _) _ _ _⟩
    ·have bt : ((k2 : Int) == (t : Int)) = false := by rw [beq_eq_false_iff_ne]; omega
     have hk1 : k2 + 1 ≤ t := by omega
     obtain ⟨c', k3, x', hx'⟩ : ∃ c' k3 x', wdR cls s.data.toList (k2 + 1) t = (c', k3, x') := ⟨_, _, _, rfl⟩
     have HW2 := Lib.hid (HW.out.trans (by rw [if_neg hkt, hx']))
     have HX' := Lib.hid hx';have f1 := CP.out.f1;have q2 := PP.out.frozen 2;clear hkt hx'
     have hne3 : b ≠ w3.heap.size := by omega
     have hne4 : w.heap.size ≠ w3.heap.size := by omega
     have C4 : Cur b s (k2 + 1) (((w3.alloc (.cells #[.string ⟨(lowL c).toArray⟩, .string ⟨#[]⟩, .bool false] 72)).setCell ⟨b, 1, none⟩ (.int .i64 ((k2 : Int) + 1))).setCell ⟨w3.heap.size, 2, none⟩ (.bool true)) := by
      have h := CP.out.set (k2 + 1)
      rw [Int.natCast_add] at h
      exact Blk.far h (p := ⟨w3.heap.size, 2, none⟩) hne3 _
     have P4 := Lib.hid ((PP.out.far (p := ⟨b, 1, none⟩) (Ne.symm hne3) (.int .i64 ((k2 : Int) + 1))).set_ 2 (.bool true))
     have B4 := Lib.hid ((BP.out.far (p := ⟨b, 1, none⟩) (Ne.symm hbne) (.int .i64 ((k2 : Int) + 1))).far (p := ⟨w3.heap.size, 2, none⟩) hne4 (.bool true))
     have K4 := Lib.hid ((KP.out.setCell (p := ⟨b, 1, none⟩) (.inl (by simp)) (.int .i64 ((k2 : Int) + 1))).setCell (p := ⟨w3.heap.size, 2, none⟩) (.inr (by show w.heap.size ≤ w3.heap.size; omega)) (.bool true))
     have E4 := Lib.hid (EP.out.kp (((Kp.refl [b, w3.heap.size] _).setCell (p := ⟨b, 1, none⟩) (.inl (by simp)) (.int .i64 ((k2 : Int) + 1))).setCell (p := ⟨w3.heap.size, 2, none⟩) (.inl (by simp)) (.bool true)) (by simp; omega))
     have C4 := Lib.hid C4
     go_wp2_with fail
     refine (word_k cls b (k2 + 1) t s _ hs hk1 ht C4.out E4.out c' k3 x' HX').mono ?_
     rintro e w5 ⟨rfl, C5, hK5⟩
     have P5 := Lib.hid (P4.out.kp hK5 (by simp; omega))
     have B5 := Lib.hid (B4.out.kp hK5 (by simp; omega))
     have K6 := Lib.hid ((K4.out.trans hK5).setCell (p := ⟨w3.heap.size, 1, none⟩) (.inr (by show w.heap.size ≤ w3.heap.size; omega)) (.string (Txt c')))
     have C6 := Lib.hid (Blk.far C5 (p := ⟨w3.heap.size, 1, none⟩) hne3 (.string (Txt c')) : Cur b s k3 _)
     have P6 := Lib.hid (P5.out.set_ 1 (.string (Txt c')))
     have B6 := Lib.hid (B5.out.far (p := ⟨w3.heap.size, 1, none⟩) hne4 (.string (Txt c')))
     clear C5 hK5 c1 f1 d0 d1 d2 g0 g1 g2 p0 p1 p2 q2;have n1 := P5.out.frozen 1
     have p0 : (w5.setCell ⟨w3.heap.size, 1, none⟩ (.string (Txt c'))).cell? ⟨w3.heap.size, 0, none⟩ = some (.string ⟨(lowL c).toArray⟩) := P6.out.cell 0
     have p1 : (w5.setCell ⟨w3.heap.size, 1, none⟩ (.string (Txt c'))).cell? ⟨w3.heap.size, 1, none⟩ = some (.string (Txt c')) := P6.out.cell 1
     have p2 : (w5.setCell ⟨w3.heap.size, 1, none⟩ (.string (Txt c'))).cell? ⟨w3.heap.size, 2, none⟩ = some (.bool true) := P6.out.cell 2
     have m1 : w5.cell? ⟨w3.heap.size, 1, none⟩ = some (.string ⟨#[]⟩) := P5.out.cell 1
     have d0 := B6.out.cell 0;have d1 := B6.out.cell 1;have d2 := B6.out.cell 2;have g0 := B6.out.frozen 0;have g1 := B6.out.frozen 1;have g2 := B6.out.frozen 2
     by_cases hx1 : x' = 0
     ·subst hx1
      have hk3 : k3 = t := by have := wdR_ok cls s.data.toList (k2 + 1) t (by rw [HX'.out]); rw [HX'.out] at this; exact this
      have HK3 := Lib.hid hk3;clear hk3
      by_cases hc1 : c' = []
      ·have HC1 := Lib.hid hc1
       have hemp : Txt c' = ⟨#[]⟩ := by rw [hc1]; rfl
       rw [hemp] at p0 p1 p2 d0 d1 d2 g0 g1 g2 C6 K6 B6 ⊢
       by_cases hc2 : cls = 1
       ·have b2 : (cls == 1) = true := by rw [hc2]; rfl
        have HW3 := Lib.hid (HW2.out.trans (by rw [if_neg (by decide), if_pos ⟨hc2, hc1⟩]))
        clear hc1 hc2 hemp
        go_wp2_with fail
        refine bodyPost_ret (results_two rfl _ _ w.heap.size 72 _ (0, 0) _ rfl (blk3 B6.out _ _ _) Tryz.underlying72 rfl infoPrm) rfl ?_
        rw [HW3.out]
        exact ⟨(lowL c, [], true), rfl, fun h => by simp at h, by have h := C6.out; rw [HK3.out] at h; exact cur3 h hbne _ _ _, kp3 K6.out (Nat.le_refl _) _ _ _⟩
       ·have b2 : (cls == 1) = false := beq_eq_false_iff_ne.2 hc2
        have HW3 := Lib.hid (HW2.out.trans (by rw [if_neg (by decide), if_neg (fun h => hc2 h.1)]))
        clear hc1 hc2 hemp
        go_wp2_with fail
        refine bodyPost_ret (results_two rfl _ _ w.heap.size 72 _ (0, 0) _ rfl (blk3 B6.out _ _ _) Tryz.underlying72 rfl infoPrm) rfl ?_
        rw [HW3.out]
        exact ⟨(lowL c, [], true), rfl, fun _ => by rw [HC1.out], by have h := C6.out; rw [HK3.out] at h; exact cur3 h hbne _ _ _, kp3 K6.out (Nat.le_refl _) _ _ _⟩
      ·have hlen : c'.length ≤ s.data.toList.length := by have := wdR_len cls s.data.toList (k2 + 1) t; rw [HX'.out] at this; exact this
       have hxl' : 1 ≤ (Txt c').size := by rw [txt_size]; cases c' with | nil => exact absurd rfl hc1 | cons a b => simp
       have he' := isEmpty_no _ hxl';have hne' := toList_ne _ hxl'
       have HW3 := Lib.hid (HW2.out.trans (by rw [if_neg (by decide), if_neg (fun h => hc1 h.2)]))
       clear hc1
       go_wp2_with fail
       refine bodyPost_ret (results_two rfl _ _ w.heap.size 72 _ (0, 0) _ rfl (blk3 B6.out _ _ _) Tryz.underlying72 rfl infoPrm) rfl ?_
       rw [HW3.out]
       exact ⟨(lowL c, c', true), rfl, fun _ => rfl, by have h := C6.out; rw [HK3.out] at h; exact cur3 h hbne _ _ _, kp3 K6.out (Nat.le_refl _) _ _ _⟩
     ·have bx' : (x' == 0) = false := beq_eq_false_iff_ne.2 hx1
      have HX1 := Lib.hid hx1
      have HW3 := Lib.hid (HW2.out.trans (by rw [if_pos hx1]))
      clear hx1
      go_wp2_with fail
      refine bodyPost_ret (results_two rfl _ _ w.heap.size 72 _ (0, 0) _ rfl (blk3 B6.out _ _ _) Tryz.underlying72 rfl infoPrm) rfl ?_
      rw [HW3.out]
      exact ⟨(lowL c, c', true), rfl, fun h => absurd h HX1.out, cur3 C6.out hbne _ _ _, kp3 K6.out (Nat.le_refl _) _ _ _⟩
  ·have bx : (x != 0) = true := by rw [bne_iff_ne]; exact hx0
   have HW := Lib.hid (HV.out.trans (by rw [if_pos hx0]))
   clear hx0
   go_wp2_with fail
   refine bodyPost_ret (results_two rfl _ _ w.heap.size 72 _ (0, 0) _ rfl (blk3 B1.out _ _ _) Tryz.underlying72 rfl infoPrm) rfl ?_
   rw [HW.out]
   exact ⟨([], [], false), rfl, fun _ => rfl, cur3 HC.out hbne _ _ _, kp3 K1.out (Nat.le_refl _) _ _ _⟩
end Ad
end Go.Proofs.YtmmjfofdnpafkaaGreatDoor
namespace Go.Proofs.YtmmjfofdnpafkaaGreatDoor
namespace Ad
open Go.RowKit Lx
theorem prR_to (cls : Int) (l : List UInt8) (k t : Nat) : (prR cls l k t).2.2 = 0 → (prR cls l k t).2.1 = t := by
 unfold prR
 repeat' split
 all_goals (intro h; first | rfl | (simp at h))
theorem prsF_end (bg es : Int → Bool) (cls : Int) (n : Nat) (l : List UInt8) (k : Nat) (acc : List Prm) (h : bg (atB l k) = false) : prsF bg es cls (n + 1) l k acc = (acc, k, 0) := by rw [prsF, if_pos h]
theorem prsF_err2 (bg es : Int → Bool) (cls : Int) (n : Nat) (l : List UInt8) (k : Nat) (acc : List Prm) (h : bg (atB l k) = true) (h3 : (prR cls l (k + 1) (endP es l (k + 1))).2.2 ≠ 0) :
   prsF bg es cls (n + 1) l k acc = ([], (prR cls l (k + 1) (endP es l (k + 1))).2) := by rw [prsF, if_neg (by rw [h]; decide), if_pos h3]
theorem prsF_err3 (bg es : Int → Bool) (cls : Int) (n : Nat) (l : List UInt8) (k : Nat) (acc : List Prm) (h : bg (atB l k) = true) (h3 : (prR cls l (k + 1) (endP es l (k + 1))).2.2 = 0) (h4 : room acc (prR cls l (k + 1) (endP es l (k + 1))).1.1 ≠ 0) :
   prsF bg es cls (n + 1) l k acc = ([], k + 1, room acc (prR cls l (k + 1) (endP es l (k + 1))).1.1) := by rw [prsF, if_neg (by rw [h]; decide), if_neg (by rw [h3]; decide), if_pos h4]
theorem prsF_step (bg es : Int → Bool) (cls : Int) (n : Nat) (l : List UInt8) (k : Nat) (acc : List Prm) (h : bg (atB l k) = true) (h3 : (prR cls l (k + 1) (endP es l (k + 1))).2.2 = 0) (h4 : room acc (prR cls l (k + 1) (endP es l (k + 1))).1.1 = 0) :
   prsF bg es cls (n + 1) l k acc = prsF bg es cls n l (endP es l (k + 1)) (acc ++ [(prR cls l (k + 1) (endP es l (k + 1))).1]) := by rw [prsF, if_neg (by rw [h]; decide), if_neg (by rw [h3]; decide), if_neg (by rw [h4]; decide)]
def LsP (b : Nat) (s : ByteArray) (r : List Prm × Nat × Int) (w : World) (e : Ending) (w' : World) : Prop :=
 ∃ v, e = .returned (.tuple #[v, .int .u8 r.2.2]) ∧ PmIn w'.heap.size w' v (srt r.1) ∧ Cur b s r.2.1 w' ∧ Kp [b] w w' ∧ r.1.length ≤ 16
set_option maxRecDepth 100000 in
set_option maxHeartbeats 4000000 in
theorem pairs_k (bg es : Int → Bool) (cls : Int) (b k : Nat) (s begins ends : ByteArray) (w : World) (hs : s.size ≤ 2097152) (hk : k ≤ s.size) (C : Cur b s k w) (E : Env w) (hb7 : 7 ≤ b)
   (hbg : memB begins.data.toList = bg) (hes : memB ends.data.toList = es) (hb0 : bg 0 = false) (hb1 : bg (-1) = false) :
   Calls Tryz.prog 268 #[.pointer (some ⟨b, 0, none⟩), .string begins, .string ends, .int .i64 cls] w (LsP b s (prsF bg es cls (s.data.toList.length + 1) s.data.toList k []) w) := by
 have hbw := C.lt;have HE := Lib.hid E;have HC := Lib.hid C;have HBG := Lib.hid hbg;have HES := Lib.hid hes
 have test : ∀ j, decide (0 ≤ Lib.indexByte begins.data.toList (nxt s.data.toList j).toNat.toUInt8) = bg (atB s.data.toList j) := by
  intro j
  have hb := nxt_bd s.data.toList j
  rw [mem_any begins.data.toList _ hb.1 hb.2, hbg]
  unfold nxt
  split
  ·rfl
  ·rename_i h
   rw [hb0]
   have : atB s.data.toList j = -1 := by unfold atB; rw [List.getElem?_eq_none (by omega)]
   rw [this, hb1]
 have HT := Lib.hid test
 have hinb : ∀ j, bg (atB s.data.toList j) = true → j < s.size := by
  intro j h
  rw [← len_list]
  exact atB_lt _ _ (fun e => by rw [e, hb1] at h; cases h)
 have HI := Lib.hid hinb
 obtain ⟨R, hR⟩ : ∃ R, prsF bg es cls (s.data.toList.length + 1) s.data.toList k [] = R := ⟨_, rfl⟩
 have HR := Lib.hid hR
 rw [hR]
 obtain ⟨i0, hi, hz0, hz1, hz2⟩ := info_parts infoPrm3
 clear hR E C hbg hes hb0 hb1 test hinb
 go_enter Tryz.func268, Tryz.ntmps268
 go_wp2_with fail
 go_loopg [10, 11, 12, 13, 14] (s.size + 1) (fun gg v _ _ _ _ wr => ∃ (j n : Nat) (acc : List Prm), j ≤ s.size ∧ s.size - j < n ∧ s.size - j < gg ∧ Cur b s j wr ∧ prsF bg es cls n s.data.toList j acc = R ∧ wr.ownsRow w.heap.size 72 3 v acc.length (pcl acc) ∧ Names acc ∧ acc.length ≤ 16 ∧ Kp [b] w wr)
 case atStart => exact ⟨k, s.data.toList.length + 1, [], hk, by rw [len_list]; omega, by omega, HC.out, HR.out, World.ownsRow_nil _ _ _ _, List.nodup_nil, by simp, Kp.refl _ _⟩
 case round =>
  obtain ⟨j, n, acc, hj, hn, hg, hC, hr, hown, hnm, hl, hK⟩ := hrel
  have Hr := Lib.hid hr;have Ho := Lib.hid hown;have HNm := Lib.hid hnm;have hsz := hK.size;clear hr hown hnm
  obtain ⟨n, rfl⟩ : ∃ m, n = m + 1 := ⟨n - 1, by omega⟩
  go_wp2_with fail
  refine (next_k b j s _ hs hj hC).mono ?_
  rintro e w2 ⟨rfl, C2, hK2⟩
  have K2 := hK.trans hK2;have HC2 := Lib.hid C2
  have Ho2 := Lib.hid (own_kp Ho.out hK2 (by simp; omega))
  have hsz2 := hK2.size;have c0 := C2.c0;have c1 := C2.c1;have f1 := C2.f1;clear C2 hC
  go_wp2_with fail
  refine (Tryz.strings_IndexByte _ _ _).mono ?_
  rintro e w3 ⟨rfl, hw3⟩
  obtain rfl := hw3.symm
  have ht := HT.out j
  cases hbt : bg (atB s.data.toList j)
  ·rw [hbt] at ht
   have HX := Lib.hid (Hr.out.symm.trans (prsF_end bg es cls n _ j acc hbt));clear hbt
   go_wp2_with fail
   refine (sorted_any w2.heap.size _ acc _ (own_pm Ho2.out) (Nat.le_refl _) (by omega)).mono ?_
   rintro e w4 ⟨v', l', rfl, hPm, hPe, hSo, hK4⟩
   have hl' := srt_of l' acc hPe hSo HNm.out
   subst hl'
   obtain ⟨A, cA, rfl⟩ := hPm.form
   have HP := Lib.hid hPm;have HK4 := Lib.hid (K2.nil_to hK4)
   have HC4 := Lib.hid (HC2.out.kp hK4 (by simp))
   clear hPm hPe hSo hK4 c0 c1 f1
   go_wp2_with fail
   go_ret2
   rw [HX.out]
   exact ⟨_, rfl, HP.out, HC4.out, HK4.out, hl⟩
  ·rw [hbt] at ht
   have hlt := HI.out j hbt
   obtain ⟨t, hte⟩ : ∃ t, endP es s.data.toList (j + 1) = t := ⟨_, rfl⟩
   have ht1 : j + 1 ≤ t := by rw [← hte]; exact endP_ge _ _ _
   have ht2 : t ≤ s.size := by rw [← hte, ← len_list]; exact endP_le _ _ _ (by rw [len_list]; omega)
   obtain ⟨q0, m, x, hq⟩ : ∃ q0 m x, prR cls s.data.toList (j + 1) t = (q0, m, x) := ⟨_, _, _, rfl⟩
   have HTE := Lib.hid hte;have HQ := Lib.hid hq;have HBT := Lib.hid hbt;clear hbt hte hq
   go_wp2_with fail
   refine (end_m es s ends (j + 1) _ hs (by omega) HES.out).mono ?_
   rintro e w3 ⟨rfl, hw3⟩
   obtain rfl := hw3.symm
   rw [HTE.out]
   have C3 : Cur b s (j + 1) (w2.setCell ⟨b, 1, none⟩ (.int .i64 ((j : Int) + 1))) := by have h := HC2.out.set (j + 1); rwa [Int.natCast_add] at h
   have hK3 := (Kp.refl [b] w2).setCell (p := ⟨b, 1, none⟩) (.inl (by simp)) (.int .i64 ((j : Int) + 1))
   have K3 := Lib.hid (K2.trans hK3)
   have Ho3 := Lib.hid (own_kp Ho2.out hK3 (by simp; omega))
   have C3 := Lib.hid C3
   have E3 := Lib.hid (HE.out.kp K3.out (by simp; omega))
   have hsz3 := K3.out.size;clear hK3
   go_wp2_with fail
   refine (pair_k cls b (j + 1) t s _ hs ht1 ht2 C3.out E3.out hb7).mono ?_
   rintro e w5 ⟨q, rfl, hq0, hC5, hK5⟩
   rw [HQ.out] at hq0 hC5 ⊢
   dsimp only at hq0 hC5 ⊢
   obtain ⟨q1, q2, q3⟩ := q
   rw [encP_eq]
   have K5 := K3.out.trans hK5
   have Ho5 := Lib.hid (own_kp Ho3.out hK5 (by simp; omega))
   have HC5 := Lib.hid hC5;have hsz5 := K5.size;have hsz5' := hK5.size;have HQ0 := Lib.hid hq0
   have KA := Lib.hid (K5.alloc (.cells #[.string ⟨q1.toArray⟩, .string ⟨q2.toArray⟩, .bool q3] 72))
   have CA := Lib.hid (HC5.out.alloc (.cells #[.string ⟨q1.toArray⟩, .string ⟨q2.toArray⟩, .bool q3] 72))
   have OA := Lib.hid (own_kp Ho5.out ((Kp.refl [] w5).alloc (.cells #[.string ⟨q1.toArray⟩, .string ⟨q2.toArray⟩, .bool q3] 72)) (by simp))
   have PA := Lib.hid (Blk.new w5 72 #[.string ⟨q1.toArray⟩, .string ⟨q2.toArray⟩, .bool q3])
   clear c0 c1 f1 hC5 hq0
   by_cases hx : x = 0
   ·subst hx
    have hq' : q0 = (q1, q2, q3) := (HQ0.out rfl).symm
    subst hq'
    have hmt : m = t := by have := prR_to cls s.data.toList (j + 1) t (by rw [HQ.out]); rw [HQ.out] at this; exact this
    subst hmt
    have p0 := PA.out.cell 0;have p1 := PA.out.cell 1;have p2 := PA.out.cell 2
    by_cases hr0 : room acc q1 = 0
    ·have hri := (room_iff acc q1).1 hr0
     have HNm2 := Lib.hid (names_snoc acc (q1, q2, q3) HNm.out hri.1)
     have hl16 : acc.length ≤ 15 := by have := hri.2; omega
     have HX := Lib.hid (Hr.out.symm.trans ((prsF_step bg es cls n s.data.toList j acc HBT.out (by rw [HTE.out, HQ.out]) (by rw [HTE.out, HQ.out]; exact hr0)).trans (by rw [HTE.out, HQ.out])))
     have HR0 := Lib.hid hr0;clear hr0 hri
     go_wp2_with fail
     refine (mayJoin_any _ _ acc (q1, q2, q3) _ (own_pm OA.out) (Nat.le_refl _) (by omega)).mono ?_
     rintro e w6 ⟨rfl, hB6⟩
     rw [HR0.out]
     have K6 := KA.out.below hB6
     have O6 := Lib.hid (own_kp OA.out ((Kp.refl [] _).below hB6) (by simp))
     have C6 := Lib.hid (CA.out.below hB6);have hsz6 := K6.size;have hs6 := hB6.size
     have B6 := Lib.hid (PA.out.below hB6 (by simp))
     clear p0 p1 p2;have d0 := B6.out.cell 0;have d1 := B6.out.cell 1;have d2 := B6.out.cell 2
     go_wp2_with (at_builtin; refine wpList_append_own _ rfl _ _ 22 rfl w.heap.size 72 i0 (.agg #[.string .empty, .string .empty, .bool false]) 3 40 Tryz.underlying22 hi hz0 hz1 hz2 rfl (by decide) _ _ _ rfl (O6.out.alloc _) ⟨w6.heap.size, 0, none⟩ 1 1 [.string ⟨q1.toArray⟩, .string ⟨q2.toArray⟩, .bool q3] rfl rfl (cell_three_new _ _ _ _ _) (by simp [Value.oneCell']) ?c3 ?c4 ?c5 ?_)
     case c3 => unfold maxLen; omega
     case c4 => omega
     case c5 => simp; omega
     intro v' w7 hown' hgrow _
     have K7 := Lib.hid ((K6.alloc (.cells #[.string ⟨q1.toArray⟩, .string ⟨q2.toArray⟩, .bool q3] 72)).grown hgrow (fun g hg => .inr (O6.out.lt g hg).1))
     have hC7 : Cur b s m w7 := by
      have h1 := C6.out.alloc (.cells #[.string ⟨q1.toArray⟩, .string ⟨q2.toArray⟩, .bool q3] 72)
      exact (hgrow.block b h1.lt (fun e => by have := (O6.out.lt b e.symm).1; omega)).trans h1
     have HC7 := Lib.hid hC7
     have HO7 := Lib.hid (by simpa [pcl, pc1] using hown' : w7.ownsRow w.heap.size 72 3 v' (acc ++ [(q1, q2, q3)]).length (pcl (acc ++ [(q1, q2, q3)])))
     clear hown' hgrow d0 d1 d2 hC7
     go_wp2_with fail
     go_roundg (s.size - m + 1)
     case measure => omega
     case rel => exact ⟨m, n, acc ++ [(q1, q2, q3)], ht2, by omega, by omega, HC7.out, HX.out.symm, HO7.out, HNm2.out, by simp; omega, K7.out⟩
    ·have br : (room acc q1 != 0) = true := by rw [bne_iff_ne]; exact hr0
     have HX := Lib.hid (Hr.out.symm.trans ((prsF_err3 bg es cls n s.data.toList j acc HBT.out (by rw [HTE.out, HQ.out]) (by rw [HTE.out, HQ.out]; exact hr0)).trans (by rw [HTE.out, HQ.out])))
     have HBr := Lib.hid br;clear hr0 br
     go_wp2_with fail
     refine (mayJoin_any _ _ acc (q1, q2, q3) _ (own_pm OA.out) (Nat.le_refl _) (by omega)).mono ?_
     rintro e w6 ⟨rfl, hB6⟩
     have br := HBr.out;have K6 := Lib.hid (KA.out.below hB6);have C6 := Lib.hid (CA.out.below hB6);clear p0 p1 p2
     go_wp2_with fail
     have hfail := fail_k b m (j + 1) (room acc q1) s w6 C6.out
     rw [Int.natCast_add] at hfail
     refine hfail.mono ?_
     rintro e w7 ⟨rfl, C7, hK7⟩
     have HC7 := Lib.hid C7;clear C7 hfail
     go_wp2_with fail
     go_ret2
     rw [HX.out]
     exact ⟨_, rfl, PmIn.nil _ _, HC7.out, K6.out.trans hK7, by simp⟩
   ·have bx : (x != 0) = true := by rw [bne_iff_ne]; exact hx
    have HX := Lib.hid (Hr.out.symm.trans ((prsF_err2 bg es cls n s.data.toList j acc HBT.out (by rw [HTE.out, HQ.out]; exact hx)).trans (by rw [HTE.out, HQ.out])))
    clear hx
    go_wp2_with fail
    go_ret2
    rw [HX.out]
    exact ⟨_, rfl, PmIn.nil _ _, CA.out, KA.out, by simp⟩
end Ad
end Go.Proofs.YtmmjfofdnpafkaaGreatDoor
namespace Go.Proofs.YtmmjfofdnpafkaaGreatDoor
namespace Ad
open Go.RowKit Lx
theorem Cur.far {b k : Nat} {s : ByteArray} {w : World} (h : Cur b s k w) {p : Addr} (hp : b ≠ p.block) (u : Value) : Cur b s k (w.setCell p u) := Blk.far h hp u
def Urb (w : World) (bu : Nat) (S U H P vp vh : Value) : Prop := Blk w bu 24 #[S, U, H, P, vp, vh]
def PtP (b bu : Nat) (s : ByteArray) (k' : Nat) (x : Int) (F : World → Prop) (w : World) (e : Ending) (w' : World) : Prop :=
 e = .returned (.int .u8 x) ∧ Cur b s k' w' ∧ Kp [b, bu] w w' ∧ F w'
def knB (l : List UInt8) : Bool := l == sipL || (l == sipsL || l == telL)
set_option maxRecDepth 100000 in
set_option maxHeartbeats 400000 in
theorem known_any (l : List UInt8) (w : World) : Calls Tryz.prog 209 #[.string (Txt l)] w (Ret (.bool (knB l)) w) := by
 have e : (Txt l).toList = l := by rw [Lib.toList_data]; rfl
 have HE := Lib.hid e;clear e
 go_enter Tryz.func209, Tryz.ntmps209
 go_wp2_with fail
 all_goals
  rw [HE.out] at *
  go_ret
  refine ⟨ret_bool ?_, rfl⟩
  simp_all [knB, sipL, sipsL, telL, Bool.or_assoc]
theorem lower_n (s : ByteArray) (w : World) (hs : s.size ≤ 2097152) :
   Calls Tryz.prog 113 #[.string s] w (RetNew (lowL s.data.toList) w) := lower_any s w (by omega)
def schR (l : List UInt8) : Nat × Int :=
 if endP (· == 58) l 0 = l.length then (l.length, 5) else if knB (lowL (l.take (endP (· == 58) l 0))) then (endP (· == 58) l 0 + 1, 0) else (0, 15)
def SchF (bu : Nat) (l : List UInt8) (x : Int) (U H P vp vh : Value) (w : World) : Prop :=
 ∃ S, Urb w bu (.string (Txt S)) U H P vp vh ∧ (x = 0 → S = lowL (l.take (endP (· == 58) l 0)))
theorem take_slc (s : ByteArray) (n : Nat) : s.extract 0 n = Txt (s.data.toList.take n) := by rw [slc_txt]; rfl
set_option maxRecDepth 100000 in
set_option maxHeartbeats 1000000 in
theorem scheme_k (b bu k : Nat) (s : ByteArray) (S : List UInt8) (U H P vp vh : Value) (w : World) (hs : s.size ≤ 2097152) (C : Cur b s k w) (B : Urb w bu (.string (Txt S)) U H P vp vh) (hne : b ≠ bu) :
   Calls Tryz.prog 200 #[.pointer (some ⟨b, 0, none⟩), .pointer (some ⟨bu, 0, none⟩)] w (PtP b bu s (schR s.data.toList).1 (schR s.data.toList).2 (SchF bu s.data.toList (schR s.data.toList).2 U H P vp vh) w) := by
 have c0 := C.c0;have HC := Lib.hid C;have HB := Lib.hid B;clear C B
 obtain ⟨n, hn⟩ : ∃ n, endP (· == 58) s.data.toList 0 = n := ⟨_, rfl⟩
 have hns : n ≤ s.size := by rw [← hn, ← len_list]; exact endP_le _ _ _ (Nat.zero_le _)
 have HN := Lib.hid hn
 by_cases h : n = s.size
 ·have HV := Lib.hid (by unfold schR; rw [hn, len_list, if_pos h] : schR s.data.toList = (s.size, 5))
  have H9 := Lib.hid h
  have bn : ((n : Int) == (s.size : Int)) = true := by rw [h]; simp
  clear h hn
  rw [HV.out]
  go_enter Tryz.func200, Tryz.ntmps200
  go_wp2_with fail
  have hend := end_m (· == 58) s ⟨#[58]⟩ 0 w hs (Nat.zero_le _) m58
  rw [HN.out] at hend
  refine hend.mono ?_
  rintro e w2 ⟨rfl, rfl⟩
  clear hend
  go_wp2_with fail
  refine (fail_k b k n 5 s _ HC.out).mono ?_
  rintro e w1 ⟨rfl, C1, hK1⟩
  have HC1 := Lib.hid C1
  have HB1 := Lib.hid (HB.out.kp hK1 (by simp; omega))
  clear C1
  go_wp2_with fail
  go_ret
  exact ⟨rfl, by have h := HC1.out; rw [H9.out] at h; exact h, hK1.mono (by simp), S, HB1.out, fun h => by simp at h⟩
 ·have bn : ((n : Int) == (s.size : Int)) = false := by rw [beq_eq_false_iff_ne]; omega
  have hlt : n < s.size := by omega
  have HX := Lib.hid (take_slc s n)
  obtain ⟨y, hy⟩ : ∃ y, s.data.toList.take n = y := ⟨_, rfl⟩
  have hyl : y.length ≤ s.size := by rw [← hy]; simp; omega
  rw [hy] at HX
  obtain ⟨z, hz⟩ : ∃ z, lowL y = z := ⟨_, rfl⟩
  have HZ := Lib.hid hz
  cases hk : knB z
  ·have HV := Lib.hid (by unfold schR; rw [hn, len_list, if_neg h, hy, hz, if_neg (by rw [hk]; decide)] : schR s.data.toList = (0, 15))
   have HK := Lib.hid hk;clear h hn hy hz hk
   rw [HV.out]
   go_enter Tryz.func200, Tryz.ntmps200
   go_wp2_with fail
   have hend := end_m (· == 58) s ⟨#[58]⟩ 0 w hs (Nat.zero_le _) m58
   rw [HN.out] at hend
   refine hend.mono ?_
   rintro e w2 ⟨rfl, rfl⟩
   clear hend
   go_wp2_with fail
   rw [HX.out]
   refine (lower_n (Txt y) _ (by rw [txt_size]; omega)).mono ?_
   rintro e w1 ⟨rfl, hB1⟩
   rw [txt_list, HZ.out]
   have K1 := (Kp.refl [b, bu] w).below hB1
   have HB1 := Lib.hid (HB.out.below hB1 HB.out.lt);have HC1 := Lib.hid (HC.out.below hB1);have f0 := HB1.out.frozen 0;have d0 := HB1.out.cell 0
   go_wp2_with fail
   refine (known_any z _).mono ?_
   rintro e w3 ⟨rfl, rfl⟩
   rw [HK.out]
   have K2 := K1.setCell (p := ⟨bu, 0, none⟩) (.inl (by simp)) (.string ⟨z.toArray⟩)
   have HC2 := Lib.hid (Cur.far HC1.out (p := ⟨bu, 0, none⟩) hne (.string ⟨z.toArray⟩))
   have HB2 := Lib.hid (HB1.out.set_ 0 (.string ⟨z.toArray⟩))
   go_wp2_with fail
   refine (fail_k b k 0 15 s _ HC2.out).mono ?_
   rintro e w4 ⟨rfl, C4, hK4⟩
   have HC4 := Lib.hid C4
   have HB4 := Lib.hid (HB2.out.kp hK4 (by simp; omega))
   have K4 := K2.to_ hK4 (by simp)
   clear C4
   go_wp2_with fail
   go_ret
   exact ⟨rfl, HC4.out, K4, z, HB4.out, fun h => by simp at h⟩
  ·have HV := Lib.hid (by unfold schR; rw [hn, len_list, if_neg h, hy, hz, if_pos hk] : schR s.data.toList = (n + 1, 0))
   have HK := Lib.hid hk
   have HS := Lib.hid (by rw [hn, hy, hz] : lowL (s.data.toList.take (endP (· == 58) s.data.toList 0)) = z)
   clear h hn hy hz hk
   rw [HV.out]
   go_enter Tryz.func200, Tryz.ntmps200
   go_wp2_with fail
   have hend := end_m (· == 58) s ⟨#[58]⟩ 0 w hs (Nat.zero_le _) m58
   rw [HN.out] at hend
   refine hend.mono ?_
   rintro e w2 ⟨rfl, rfl⟩
   clear hend
   go_wp2_with fail
   rw [HX.out]
   refine (lower_n (Txt y) _ (by rw [txt_size]; omega)).mono ?_
   rintro e w1 ⟨rfl, hB1⟩
   rw [txt_list, HZ.out]
   have K1 := (Kp.refl [b, bu] w).below hB1
   have HB1 := Lib.hid (HB.out.below hB1 HB.out.lt);have HC1 := Lib.hid (HC.out.below hB1);have f0 := HB1.out.frozen 0;have d0 := HB1.out.cell 0
   go_wp2_with fail
   refine (known_any z _).mono ?_
   rintro e w3 ⟨rfl, rfl⟩
   rw [HK.out]
   have K2 := K1.setCell (p := ⟨bu, 0, none⟩) (.inl (by simp)) (.string ⟨z.toArray⟩)
   have HC2 := Lib.hid (Cur.far HC1.out (p := ⟨bu, 0, none⟩) hne (.string ⟨z.toArray⟩))
   have HB2 := Lib.hid (HB1.out.set_ 0 (.string ⟨z.toArray⟩));have c1 := HC2.out.c1;have f1 := HC2.out.f1
   go_wp2_with fail
   go_ret
   exact ⟨rfl, by have h := HC2.out.set (n + 1); rwa [Int.natCast_add] at h, K2.setCell (p := ⟨b, 1, none⟩) (.inl (by simp)) _, z, HB2.out.far (p := ⟨b, 1, none⟩) (Ne.symm hne) _, fun _ => HS.out.symm⟩
def UsrF (bu : Nat) (r : List UInt8 × Nat × Int) (S H P vp vh : Value) (w : World) : Prop :=
 ∃ U, Urb w bu S (.string (Txt U)) H P vp vh ∧ (r.2.2 = 0 → U = r.1)
theorem usrR_wd (l : List UInt8) (k n : Nat) (hn : endP (· == 64) l k = n) (c : List UInt8) (k2 : Nat) (x : Int) (h : wdR 0 l k n = (c, k2, x)) :
   usrR l k = if n = l.length then ([], k, 0) else if x ≠ 0 then ([], k2, if atB l k2 = 58 then 15 else 5) else if c = [] then ([], n, 5) else (c, n + 1, 0) := by
 unfold usrR
 rw [hn]
 unfold wdR at h
 split at h
 ·rename_i h1
  injection h with h2 h3
  injection h3 with h3 h4
  subst h2 h3 h4
  rw [if_pos h1, if_pos (show (5 : Int) ≠ 0 by decide)]
 ·rename_i h1
  injection h with h2 h3
  injection h3 with h3 h4
  subst h2 h3 h4
  rw [if_neg h1, if_neg (show ¬ ((0 : Int) ≠ 0) by decide)]
set_option maxRecDepth 100000 in
set_option maxHeartbeats 1000000 in
theorem user_k (b bu k : Nat) (s : ByteArray) (S H P vp vh : Value) (w : World) (hs : s.size ≤ 2097152) (hk : k ≤ s.size) (C : Cur b s k w) (B : Urb w bu S (.string (Txt [])) H P vp vh) (E : Env w) (hne : b ≠ bu) (hb7 : 7 ≤ b) :
   Calls Tryz.prog 201 #[.pointer (some ⟨b, 0, none⟩), .pointer (some ⟨bu, 0, none⟩)] w (PtP b bu s (usrR s.data.toList k).2.1 (usrR s.data.toList k).2.2 (UsrF bu (usrR s.data.toList k) S H P vp vh) w) := by
 have c0 := C.c0;have c1 := C.c1;have HC := Lib.hid C;have HB := Lib.hid B;have HE := Lib.hid E;clear C B E
 obtain ⟨n, hn⟩ : ∃ n, endP (· == 64) s.data.toList k = n := ⟨_, rfl⟩
 have hns : n ≤ s.size := by rw [← hn, ← len_list]; exact endP_le _ _ _ (by rw [len_list]; exact hk)
 have hkn : k ≤ n := by rw [← hn]; exact endP_ge _ _ _
 have HN := Lib.hid hn
 obtain ⟨c, k2, x, hx⟩ : ∃ c k2 x, wdR 0 s.data.toList k n = (c, k2, x) := ⟨_, _, _, rfl⟩
 have hk2 : k2 ≤ n := by have := wdR_bd 0 s.data.toList k n hkn; rw [hx] at this; exact this
 have HX := Lib.hid hx;have hV := usrR_wd s.data.toList k n hn c k2 x hx
 rw [len_list] at hV
 clear hx
 by_cases h : n = s.size
 ·have HV := Lib.hid (hV.trans (by rw [if_pos h]))
  have bn : ((n : Int) == (s.size : Int)) = true := by rw [h]; simp
  clear h hn hV
  rw [HV.out]
  go_enter Tryz.func201, Tryz.ntmps201
  go_wp2_with fail
  go_quiet ((go_at_call 213; exact Calls.quiet_of_same (end_q (· == 64) s ⟨#[64]⟩ k _ hs hk m64)))
  rw [HN.out]
  obtain ⟨w2, hw2⟩ : ∃ w2, w.drewN nq = w2 := ⟨_, rfl⟩
  rw [hw2]
  have C2 : Cur b s k w2 := by rw [← hw2]; exact HC.out
  have K2 : Kp [b, bu] w w2 := by rw [← hw2]; exact (Kp.refl _ _).drewN _
  have B2 := Lib.hid (by rw [← hw2]; exact HB.out : Urb w2 bu S (.string (Txt [])) H P vp vh)
  clear hw2 c0 c1;have c0 := C2.c0;have H2 := Lib.hid C2;clear C2
  go_wp2_with fail
  go_ret
  exact ⟨rfl, H2.out, K2, [], B2.out, fun _ => rfl⟩
 ·have bn : ((n : Int) == (s.size : Int)) = false := by rw [beq_eq_false_iff_ne]; omega
  have hV := hV.trans (by rw [if_neg h])
  by_cases hx0 : x = 0
  ·subst hx0
   have hk2n : k2 = n := by have := wdR_ok 0 s.data.toList k n (by rw [HX.out]); rw [HX.out] at this; exact this
   subst hk2n
   have hV := hV.trans (by rw [if_neg (by decide)])
   by_cases hc0 : c = []
   ·have HV := Lib.hid (hV.trans (by rw [if_pos hc0]))
    have hemp : Txt c = ⟨#[]⟩ := by rw [hc0]; rfl
    have HP := Lib.hid hemp;clear h hn hV hc0 hemp
    rw [HV.out]
    go_enter Tryz.func201, Tryz.ntmps201
    go_wp2_with fail
    go_quiet ((go_at_call 213; exact Calls.quiet_of_same (end_q (· == 64) s ⟨#[64]⟩ k _ hs hk m64)))
    rw [HN.out]
    obtain ⟨w2, hw2⟩ : ∃ w2, w.drewN nq = w2 := ⟨_, rfl⟩
    rw [hw2]
    have C2 : Cur b s k w2 := by rw [← hw2]; exact HC.out
    have K2 : Kp [b, bu] w w2 := by rw [← hw2]; exact (Kp.refl _ _).drewN _
    have B2 := Lib.hid (by rw [← hw2]; exact HB.out : Urb w2 bu S (.string (Txt [])) H P vp vh)
    have E2 := Lib.hid (by rw [← hw2]; exact HE.out.drewN nq : Env w2)
    clear hw2 c0 c1;have c0 := C2.c0;have H2 := Lib.hid C2;clear C2
    go_wp2_with fail
    refine (word_k 0 b k k2 s _ hs hkn hns H2.out E2.out c k2 0 HX).mono ?_
    rintro e w3 ⟨rfl, C3, hK3⟩
    rw [HP.out]
    have HC3 := Lib.hid C3
    have HB3 := Lib.hid (B2.out.kp hK3 (by simp; omega))
    clear C3
    go_wp2_with fail
    go_ret
    exact ⟨rfl, HC3.out, K2.to_ hK3 (by simp), [], HB3.out, fun h => by simp at h⟩
   ·have HV := Lib.hid (hV.trans (by rw [if_neg hc0]))
    have hlen : c.length ≤ s.data.toList.length := by have := wdR_len 0 s.data.toList k k2; rw [HX.out] at this; exact this
    rw [len_list] at hlen
    have hxl : 1 ≤ (Txt c).size := by rw [txt_size]; cases c with | nil => exact absurd rfl hc0 | cons a b => simp
    have he := isEmpty_no _ hxl;have hne' := toList_ne _ hxl
    have hlt : k2 < s.size := by omega
    clear h hn hV hc0
    rw [HV.out]
    go_enter Tryz.func201, Tryz.ntmps201
    go_wp2_with fail
    go_quiet ((go_at_call 213; exact Calls.quiet_of_same (end_q (· == 64) s ⟨#[64]⟩ k _ hs hk m64)))
    rw [HN.out]
    obtain ⟨w2, hw2⟩ : ∃ w2, w.drewN nq = w2 := ⟨_, rfl⟩
    rw [hw2]
    have C2 : Cur b s k w2 := by rw [← hw2]; exact HC.out
    have K2 : Kp [b, bu] w w2 := by rw [← hw2]; exact (Kp.refl _ _).drewN _
    have B2 := Lib.hid (by rw [← hw2]; exact HB.out : Urb w2 bu S (.string (Txt [])) H P vp vh)
    have E2 := Lib.hid (by rw [← hw2]; exact HE.out.drewN nq : Env w2)
    clear hw2 c0 c1;have c0 := C2.c0;have H2 := Lib.hid C2;clear C2
    go_wp2_with fail
    refine (word_k 0 b k k2 s _ hs hkn hns H2.out E2.out c k2 0 HX).mono ?_
    rintro e w3 ⟨rfl, C3, hK3⟩
    have HB3 := Lib.hid (B2.out.kp hK3 (by simp; omega))
    have c1 := C3.c1;have f1 := C3.f1;have u1 := HB3.out.cell 1;have g1 := HB3.out.frozen 1
    have HC4 := Lib.hid (Cur.far C3 (p := ⟨bu, 1, none⟩) hne (.string (Txt c)))
    have HB4 := Lib.hid (HB3.out.set_ 1 (.string (Txt c)))
    have K4 := (K2.to_ hK3 (by simp)).setCell (p := ⟨bu, 1, none⟩) (.inl (by simp)) (.string (Txt c))
    clear C3;have c1' := HC4.out.c1;have f1' := HC4.out.f1
    go_wp2_with fail
    go_ret
    exact ⟨rfl, by have h := HC4.out.set (k2 + 1); rwa [Int.natCast_add] at h, K4.setCell (p := ⟨b, 1, none⟩) (.inl (by simp)) _, c, HB4.out.far (p := ⟨b, 1, none⟩) (Ne.symm hne) _, fun _ => rfl⟩
  ·have bx : (x != 0) = true := by rw [bne_iff_ne]; exact hx0
   have HV := Lib.hid (hV.trans (by rw [if_pos hx0]))
   have hlt : k2 < s.size := by omega
   have hn58 : (nxt s.data.toList k2 == 58) = decide (atB s.data.toList k2 = 58) := by rw [nxt_eq _ _ _ (by decide) (by decide)]; rfl
   by_cases h58 : atB s.data.toList k2 = 58
   ·have HV2 := Lib.hid (HV.out.trans (by rw [if_pos h58]))
    have t58 : (nxt s.data.toList k2 == 58) = true := by rw [hn58]; exact decide_eq_true h58
    have T58 := Lib.hid t58;clear h hn hV hx0 hn58 h58 t58
    rw [HV2.out]
    go_enter Tryz.func201, Tryz.ntmps201
    go_wp2_with fail
    go_quiet ((go_at_call 213; exact Calls.quiet_of_same (end_q (· == 64) s ⟨#[64]⟩ k _ hs hk m64)))
    rw [HN.out]
    obtain ⟨w2, hw2⟩ : ∃ w2, w.drewN nq = w2 := ⟨_, rfl⟩
    rw [hw2]
    have C2 : Cur b s k w2 := by rw [← hw2]; exact HC.out
    have K2 : Kp [b, bu] w w2 := by rw [← hw2]; exact (Kp.refl _ _).drewN _
    have B2 := Lib.hid (by rw [← hw2]; exact HB.out : Urb w2 bu S (.string (Txt [])) H P vp vh)
    have E2 := Lib.hid (by rw [← hw2]; exact HE.out.drewN nq : Env w2)
    clear hw2 c0 c1;have c0 := C2.c0;have H2 := Lib.hid C2;clear C2
    go_wp2_with fail
    refine (word_k 0 b k n s _ hs hkn hns H2.out E2.out c k2 x HX).mono ?_
    rintro e w3 ⟨rfl, C3, hK3⟩
    have HC3 := Lib.hid C3
    have HB3 := Lib.hid (B2.out.kp hK3 (by simp; omega))
    clear C3
    go_wp2_with fail
    refine (next_k b k2 s _ hs (by omega) HC3.out).mono ?_
    rintro e w4 ⟨rfl, C4, hK4⟩
    have t58 := T58.out;have HC4 := Lib.hid C4
    have HB4 := Lib.hid (HB3.out.kp hK4 (by simp; omega))
    clear C4
    go_wp2_with fail
    go_ret
    exact ⟨rfl, HC4.out, K2.to_ (hK3.trans hK4) (by simp), [], HB4.out, fun h => by simp at h⟩
   ·have HV2 := Lib.hid (HV.out.trans (by rw [if_neg h58]))
    have t58 : (nxt s.data.toList k2 == 58) = false := by rw [hn58]; exact decide_eq_false h58
    have T58 := Lib.hid t58
    have hx5 : x = 5 := by
     have hh := HX.out
     unfold wdR at hh
     split at hh
     ·injection hh with _ h3; injection h3 with _ h4; exact h4.symm
     ·injection hh with _ h3; injection h3 with _ h4; exact absurd h4.symm hx0
    have HX5 := Lib.hid hx5;clear h hn hV hx0 hn58 h58 t58 hx5
    rw [HV2.out]
    go_enter Tryz.func201, Tryz.ntmps201
    go_wp2_with fail
    go_quiet ((go_at_call 213; exact Calls.quiet_of_same (end_q (· == 64) s ⟨#[64]⟩ k _ hs hk m64)))
    rw [HN.out]
    obtain ⟨w2, hw2⟩ : ∃ w2, w.drewN nq = w2 := ⟨_, rfl⟩
    rw [hw2]
    have C2 : Cur b s k w2 := by rw [← hw2]; exact HC.out
    have K2 : Kp [b, bu] w w2 := by rw [← hw2]; exact (Kp.refl _ _).drewN _
    have B2 := Lib.hid (by rw [← hw2]; exact HB.out : Urb w2 bu S (.string (Txt [])) H P vp vh)
    have E2 := Lib.hid (by rw [← hw2]; exact HE.out.drewN nq : Env w2)
    clear hw2 c0 c1;have c0 := C2.c0;have H2 := Lib.hid C2;clear C2
    go_wp2_with fail
    refine (word_k 0 b k n s _ hs hkn hns H2.out E2.out c k2 x HX).mono ?_
    rintro e w3 ⟨rfl, C3, hK3⟩
    have HC3 := Lib.hid C3
    have HB3 := Lib.hid (B2.out.kp hK3 (by simp; omega))
    clear C3
    go_wp2_with fail
    refine (next_k b k2 s _ hs (by omega) HC3.out).mono ?_
    rintro e w4 ⟨rfl, C4, hK4⟩
    have t58 := T58.out;have HC4 := Lib.hid C4
    have HB4 := Lib.hid (HB3.out.kp hK4 (by simp; omega))
    clear C4
    go_wp2_with fail
    go_ret
    exact ⟨ret_int (by rw [HX5.out]), HC4.out, K2.to_ (hK3.trans hK4) (by simp), [], HB4.out, fun h => by simp at h⟩
set_option maxRecDepth 100000 in
set_option maxHeartbeats 400000 in
theorem fits_k (b k : Nat) (s : ByteArray) (w : World) (hs : s.size ≤ 2097152) (C : Cur b s k w) :
   Calls Tryz.prog 199 #[.pointer (some ⟨b, 0, none⟩)] w (CuP b s (if 1024 < s.size then 1024 else k) (.int .u8 (if 1024 < s.size then 4 else 0)) w) := by
 have c0 := C.c0;have HC := Lib.hid C;clear C
 by_cases h : 1024 < s.size
 ·have H1 := Lib.hid (if_pos h : (if 1024 < s.size then 1024 else k) = 1024)
  have H2 := Lib.hid (if_pos h : (if 1024 < s.size then (4 : Int) else 0) = 4)
  rw [H1.out, H2.out]
  go_enter Tryz.func199, Tryz.ntmps199
  go_wp2_with fail
  refine (fail_k b k 1024 4 s _ HC.out).mono ?_
  rintro e w1 ⟨rfl, C1, hK1⟩
  have HC1 := Lib.hid C1;clear C1
  go_wp2_with fail
  go_ret
  exact ⟨rfl, HC1.out, hK1⟩
 ·have H1 := Lib.hid (if_neg h : (if 1024 < s.size then 1024 else k) = k)
  have H2 := Lib.hid (if_neg h : (if 1024 < s.size then (4 : Int) else 0) = 0)
  rw [H1.out, H2.out]
  go_enter Tryz.func199, Tryz.ntmps199
  go_wp2_with fail
  go_ret
  exact ⟨rfl, HC.out, Kp.refl _ _⟩
end Ad
end Go.Proofs.YtmmjfofdnpafkaaGreatDoor
namespace Go.Proofs.YtmmjfofdnpafkaaGreatDoor
namespace Ad
open Go.RowKit Lx
def HstF (bu : Nat) (r : List UInt8 × Nat × Int) (S U P vp vh : Value) (w : World) : Prop :=
 ∃ H, Urb w bu S U (.string (Txt H)) P vp vh ∧ (r.2.2 = 0 → H = r.1)
theorem hstR_eq (l : List UInt8) (k t : Nat) (h : hstTo l k = t) : hstR l k = match hostO (slc l k t) with | some h => (h, t, 0) | none => ([], k, 5) := by unfold hstR; rw [h]; rfl
set_option maxRecDepth 100000 in
set_option maxHeartbeats 1000000 in
theorem host_k (b bu k : Nat) (s : ByteArray) (S U P vp vh : Value) (w : World) (hs : s.size ≤ 2097152) (hk : k ≤ s.size) (C : Cur b s k w) (B : Urb w bu S U (.string (Txt [])) P vp vh) (E : Env w) (hne : b ≠ bu) (hb7 : 7 ≤ b) :
   Calls Tryz.prog 202 #[.pointer (some ⟨b, 0, none⟩), .pointer (some ⟨bu, 0, none⟩)] w (PtP b bu s (hstR s.data.toList k).2.1 (hstR s.data.toList k).2.2 (HstF bu (hstR s.data.toList k) S U P vp vh) w) := by
 have c0 := C.c0;have c1 := C.c1;have HC := Lib.hid C;have HB := Lib.hid B;have HE := Lib.hid E;clear C B E
 obtain ⟨n1, hn1⟩ : ∃ n, endP hendC s.data.toList k = n := ⟨_, rfl⟩
 have hns1 : n1 ≤ s.size := by rw [← hn1, ← len_list]; exact endP_le _ _ _ (by rw [len_list]; exact hk)
 have hkn1 : k ≤ n1 := by rw [← hn1]; exact endP_ge _ _ _
 have HN1 := Lib.hid hn1
 have h7u : Kp [b, bu] w w := Kp.refl _ _
 by_cases h91 : atB s.data.toList k = 91
 ·have t91 : (nxt s.data.toList k == 91) = true := by rw [nxt_eq _ _ _ (by decide) (by decide), h91]; rfl
  have T91 := Lib.hid t91
  obtain ⟨n, hn⟩ : ∃ n, endP (· == 93) s.data.toList k = n := ⟨_, rfl⟩
  have HN := Lib.hid hn
  have hnk : k ≤ n := by rw [← hn]; exact endP_ge _ _ _
  have hns : n ≤ s.size := by rw [← hn, ← len_list]; exact endP_le _ _ _ (by rw [len_list]; exact hk)
  obtain ⟨m, hm⟩ : ∃ m, min (n + 1) s.size = m := ⟨_, rfl⟩
  have HX := Lib.hid (slc_txt s k m)
  have HV := Lib.hid (hstR_eq s.data.toList k m (by unfold hstTo; rw [if_pos h91, hn, len_list, hm]))
  have hkm : k ≤ m := by have := atB_lt s.data.toList k (by rw [h91]; decide); rw [len_list] at this; omega
  have hms : m ≤ s.size := by omega
  have HM := Lib.hid (by omega : min ((n : Int) + 1) (s.size : Int) = (m : Int))
  clear h91 t91 hn hn1 hm
  go_enter Tryz.func202, Tryz.ntmps202
  go_wp2_with fail
  go_quiet ((go_at_call 213; exact Calls.quiet_of_same (end_q hendC s ⟨#[58, 59, 63]⟩ k _ hs hk mHend)))
  rw [HN1.out]
  obtain ⟨w2, hw2⟩ : ∃ w2, w.drewN nq = w2 := ⟨_, rfl⟩
  rw [hw2]
  have C2 : Cur b s k w2 := by rw [← hw2]; exact HC.out
  have K2 : Kp [b, bu] w w2 := by rw [← hw2]; exact h7u.drewN _
  have B2 := Lib.hid (by rw [← hw2]; exact HB.out : Urb w2 bu S U (.string (Txt [])) P vp vh)
  have E2 := Lib.hid (by rw [← hw2]; exact HE.out.drewN nq : Env w2)
  clear hw2 c0 c1;have H2 := Lib.hid C2;clear C2
  go_wp2_with fail
  refine (next_k b k s _ hs hk H2.out).mono ?_
  rintro e w3 ⟨rfl, C3, hK3⟩
  have K3 := K2.to_ hK3 (by simp)
  have B3 := Lib.hid (B2.out.kp hK3 (by simp; omega))
  have E3 := Lib.hid (E2.out.kp hK3 (by simp; omega))
  have c0 := C3.c0;have c1 := C3.c1;have H3 := Lib.hid C3;clear C3 hK3;have t91 := T91.out
  go_wp2_with fail
  go_quiet ((go_at_call 213; exact Calls.quiet_of_same (end_q (· == 93) s ⟨#[93]⟩ k _ hs hk m93)))
  rw [HN.out, w64 n (by omega), HM.out]
  obtain ⟨w4, hw4⟩ : ∃ w4, w3.drewN nq = w4 := ⟨_, rfl⟩
  rw [hw4]
  have C4 : Cur b s k w4 := by rw [← hw4]; exact H3.out
  have K4 : Kp [b, bu] w w4 := by rw [← hw4]; exact K3.drewN _
  have B4 := Lib.hid (by rw [← hw4]; exact B3.out : Urb w4 bu S U (.string (Txt [])) P vp vh)
  have E4 : Env w4 := by rw [← hw4]; exact E3.out.drewN _
  clear hw4 c0 c1;have c0 := C4.c0;have c1 := C4.c1;have H4 := Lib.hid C4;clear C4
  go_wp2_with fail
  go_region_held3 (fun w' => w'.cell? ⟨b, 0, none⟩ = some (.string s) ∧ w'.cell? ⟨b, 1, none⟩ = some (.int .i64 k)) (go_keep)
   ((go_at_call 52; rw [HX.out]; refine (Host_any (Txt (slc s.data.toList k m)) _ (by rw [txt_size]; have := slc_le s.data.toList k m; omega) (Env.drewN E4 _)).mono ?_; rintro e w5 ⟨rfl, hB⟩; have C5 : Cur b s k w5 := Cur.below (Cur.drewN H4.out _) hB; have d0 := C5.c0; have d1 := C5.c1))
  have K5 : Kp [b, bu] w w5 := Kp.below (Kp.drewN K4 _) hB
  have B5 := Lib.hid (Blk.below (Blk.drewN B4.out _) hB (Nat.lt_of_lt_of_le B4.out.lt (Nat.le_refl _)))
  rw [txt_list]
  have c1' := C5.c1;have f1' := C5.f1;have HC5 := Lib.hid C5;clear C5 d0 d1 c0 c1
  cases ho : hostO (slc s.data.toList k m) with
  | none =>
    have HR := Lib.hid (HV.out.trans (by rw [ho]))
    clear ho
    go_wp2_with fail
    go_ret
    rw [HR.out]
    exact ⟨rfl, HC5.out, K5, [], B5.out, fun h => by simp at h⟩
  | some h =>
    have HR := Lib.hid (HV.out.trans (by rw [ho]))
    have u2 := B5.out.cell 2;have g2 := B5.out.frozen 2;have B6 := Lib.hid (B5.out.set_ 2 (.string (Txt h)))
    have HC6 := Lib.hid (Cur.far HC5.out (p := ⟨bu, 2, none⟩) hne (.string (Txt h)))
    have c1'' := HC6.out.c1;have f1'' := HC6.out.f1;clear ho
    go_wp2_with fail
    go_ret
    rw [HR.out]
    exact ⟨rfl, HC6.out.set m, (K5.setCell (p := ⟨bu, 2, none⟩) (.inl (by simp)) _).setCell (p := ⟨b, 1, none⟩) (.inl (by simp)) _, h, B6.out.far (p := ⟨b, 1, none⟩) (Ne.symm hne) _, fun _ => rfl⟩
 ·have t91 : (nxt s.data.toList k == 91) = false := by rw [nxt_eq _ _ _ (by decide) (by decide)]; exact beq_eq_false_iff_ne.2 h91
  have T91 := Lib.hid t91
  have HV := Lib.hid (hstR_eq s.data.toList k n1 (by unfold hstTo; rw [if_neg h91, hn1]))
  have HX := Lib.hid (slc_txt s k n1);clear h91 t91 hn1
  go_enter Tryz.func202, Tryz.ntmps202
  go_wp2_with fail
  go_quiet ((go_at_call 213; exact Calls.quiet_of_same (end_q hendC s ⟨#[58, 59, 63]⟩ k _ hs hk mHend)))
  rw [HN1.out]
  obtain ⟨w2, hw2⟩ : ∃ w2, w.drewN nq = w2 := ⟨_, rfl⟩
  rw [hw2]
  have C2 : Cur b s k w2 := by rw [← hw2]; exact HC.out
  have K2 : Kp [b, bu] w w2 := by rw [← hw2]; exact h7u.drewN _
  have B2 := Lib.hid (by rw [← hw2]; exact HB.out : Urb w2 bu S U (.string (Txt [])) P vp vh)
  have E2 := Lib.hid (by rw [← hw2]; exact HE.out.drewN nq : Env w2)
  clear hw2 c0 c1;have H2 := Lib.hid C2;clear C2
  go_wp2_with fail
  refine (next_k b k s _ hs hk H2.out).mono ?_
  rintro e w3 ⟨rfl, C3, hK3⟩
  have K3 := K2.to_ hK3 (by simp)
  have B3 := Lib.hid (B2.out.kp hK3 (by simp; omega))
  have E3 := Lib.hid (E2.out.kp hK3 (by simp; omega))
  have c0 := C3.c0;have c1 := C3.c1;have H3 := Lib.hid C3;clear C3 hK3;have t91 := T91.out;have K4 := K3;have B4 := B3;have E4 := E3.out;have H4 := H3
  go_wp2_with fail
  go_region_held3 (fun w' => w'.cell? ⟨b, 0, none⟩ = some (.string s) ∧ w'.cell? ⟨b, 1, none⟩ = some (.int .i64 k)) (go_keep)
   ((go_at_call 52; rw [HX.out]; refine (Host_any (Txt (slc s.data.toList k n1)) _ (by rw [txt_size]; have := slc_le s.data.toList k n1; omega) (Env.drewN E4 _)).mono ?_; rintro e w5 ⟨rfl, hB⟩; have C5 : Cur b s k w5 := Cur.below (Cur.drewN H4.out _) hB; have d0 := C5.c0; have d1 := C5.c1))
  have K5 : Kp [b, bu] w w5 := Kp.below (Kp.drewN K4 _) hB
  have B5 := Lib.hid (Blk.below (Blk.drewN B4.out _) hB (Nat.lt_of_lt_of_le B4.out.lt (Nat.le_refl _)))
  rw [txt_list]
  have c1' := C5.c1;have f1' := C5.f1;have HC5 := Lib.hid C5;clear C5 d0 d1 c0 c1
  cases ho : hostO (slc s.data.toList k n1) with
  | none =>
    have HR := Lib.hid (HV.out.trans (by rw [ho]))
    clear ho
    go_wp2_with fail
    go_ret
    rw [HR.out]
    exact ⟨rfl, HC5.out, K5, [], B5.out, fun h => by simp at h⟩
  | some h =>
    have HR := Lib.hid (HV.out.trans (by rw [ho]))
    have u2 := B5.out.cell 2;have g2 := B5.out.frozen 2;have B6 := Lib.hid (B5.out.set_ 2 (.string (Txt h)))
    have HC6 := Lib.hid (Cur.far HC5.out (p := ⟨bu, 2, none⟩) hne (.string (Txt h)))
    have c1'' := HC6.out.c1;have f1'' := HC6.out.f1;clear ho
    go_wp2_with fail
    go_ret
    rw [HR.out]
    exact ⟨rfl, HC6.out.set n1, (K5.setCell (p := ⟨bu, 2, none⟩) (.inl (by simp)) _).setCell (p := ⟨b, 1, none⟩) (.inl (by simp)) _, h, B6.out.far (p := ⟨b, 1, none⟩) (Ne.symm hne) _, fun _ => rfl⟩
def PrtF (bu : Nat) (r : Int × Nat × Int) (S U H vp vh : Value) (w : World) : Prop :=
 ∃ P, Urb w bu S U H (.int .i64 P) vp vh ∧ (r.2.2 = 0 → P = r.1)
theorem number_q (s : ByteArray) (w : World) (hs : s.size ≤ 2097152) :
   Calls Tryz.prog 95 #[.string s] w fun e w' => e = .returned (.tuple #[.int .i64 (numN s.data.toList), .int .u8 (numE s.data.toList)]) ∧ w' = w :=
 (Lx.number_any s w (by unfold maxLen; omega)).mono fun _ _ h => ⟨h.1, h.2.symm⟩
theorem prtR_c (l : List UInt8) (k t : Nat) (h : atB l k = 58) (ht : endP semq l (k + 1) = t) (N X : Int) (hN : numN (slc l (k + 1) t) = N) (hX : numE (slc l (k + 1) t) = X) :
   prtR l k = if X ≠ 0 then (0, k + 1, X) else if N < 1 ∨ 65535 < N then (0, k + 1, 3) else (N, t, 0) := by
 unfold prtR; rw [if_pos h, ht, hN, hX]
set_option maxRecDepth 100000 in
set_option maxHeartbeats 1000000 in
theorem port_k (b bu k : Nat) (s : ByteArray) (S U H vp vh : Value) (w : World) (hs : s.size ≤ 2097152) (hk : k ≤ s.size) (C : Cur b s k w) (B : Urb w bu S U H (.int .i64 0) vp vh) (hne : b ≠ bu) :
   Calls Tryz.prog 203 #[.pointer (some ⟨b, 0, none⟩), .pointer (some ⟨bu, 0, none⟩)] w (PtP b bu s (prtR s.data.toList k).2.1 (prtR s.data.toList k).2.2 (PrtF bu (prtR s.data.toList k) S U H vp vh) w) := by
 have c0 := C.c0;have c1 := C.c1;have HC := Lib.hid C;have HB := Lib.hid B;clear C B
 obtain ⟨t, ht⟩ : ∃ n, endP semq s.data.toList k = n := ⟨_, rfl⟩
 have hns1 : t ≤ s.size := by rw [← ht, ← len_list]; exact endP_le _ _ _ (by rw [len_list]; exact hk)
 have hkn1 : k ≤ t := by rw [← ht]; exact endP_ge _ _ _
 have HN1 := Lib.hid ht
 have h7u : Kp [b, bu] w w := Kp.refl _ _
 by_cases h58 : atB s.data.toList k = 58
 ·have t58 : (nxt s.data.toList k == 58) = true := by rw [nxt_eq _ _ _ (by decide) (by decide), h58]; rfl
  have T58 := Lib.hid t58
  have hlt : k < s.size := by have := atB_lt s.data.toList k (by rw [h58]; decide); rwa [len_list] at this
  have h5b : semq s[k].toNat = false := by
   have := atB_get s k hlt
   rw [h58] at this
   rw [← this]; rfl
  have ht1 : endP semq s.data.toList (k + 1) = t := by rw [← ht]; exact (endP_next semq s k hlt h5b).symm
  have hk1t : k + 1 ≤ t := by rw [← ht1]; exact endP_ge _ _ _
  obtain ⟨N, hN⟩ : ∃ N, numN (slc s.data.toList (k + 1) t) = N := ⟨_, rfl⟩
  obtain ⟨X, hX⟩ : ∃ X, numE (slc s.data.toList (k + 1) t) = X := ⟨_, rfl⟩
  have hV0 := prtR_c s.data.toList k t h58 ht1 N X hN hX;have HN := Lib.hid hN;have HE := Lib.hid hX
  have HX := Lib.hid (slc_txt s (k + 1) t)
  clear h58 t58 ht ht1 hN hX h5b
  by_cases hx0 : X = 0
  ·subst hx0
   have hV := hV0.trans (by rw [if_neg (by decide)])
   clear hV0
   by_cases hr : N < 1 ∨ 65535 < N
   ·have HV := Lib.hid (hV.trans (by rw [if_pos hr]))
    clear hV
    by_cases hr1 : N < 1
    ·have br : decide (N < 1) = true := decide_eq_true hr1
     clear hr
     go_enter Tryz.func203, Tryz.ntmps203
     go_wp2_with fail
     go_quiet ((go_at_call 213; exact Calls.quiet_of_same (end_q semq s ⟨#[59, 63]⟩ k _ hs hk mSemq)))
     rw [HN1.out]
     obtain ⟨w2, hw2⟩ : ∃ w2, w.drewN nq = w2 := ⟨_, rfl⟩
     rw [hw2]
     have C2 : Cur b s k w2 := by rw [← hw2]; exact HC.out
     have K2 : Kp [b, bu] w w2 := by rw [← hw2]; exact h7u.drewN _
     have B2 := Lib.hid (by rw [← hw2]; exact HB.out : Urb w2 bu S U H (.int .i64 0) vp vh)
     clear hw2 c0 c1;have H2 := Lib.hid C2;clear C2
     go_wp2_with fail
     refine (take_yes b k 58 s _ hs hlt H2.out T58.out).mono ?_
     rintro e w3 ⟨rfl, C3, hK3⟩
     have K3 := K2.to_ hK3 (by simp)
     have B3 := Lib.hid (B2.out.kp hK3 (by simp; omega))
     have c0 := C3.c0;have c1 := C3.c1;have H3 := Lib.hid C3;clear C3 hK3
     go_wp2_with fail
     go_quiet ((go_at_call 95; rw [HX.out]; exact Calls.quiet_of_same (number_q (Txt (slc s.data.toList (k + 1) t)) _ (by rw [txt_size]; have := slc_le s.data.toList (k + 1) t; omega))))
     rw [txt_list, HN.out, HE.out]
     obtain ⟨w4, hw4⟩ : ∃ w4, w3.drewN nq = w4 := ⟨_, rfl⟩
     rw [hw4]
     have C4 : Cur b s (k + 1) w4 := by rw [← hw4]; exact H3.out
     have K4 : Kp [b, bu] w w4 := by rw [← hw4]; exact K3.drewN _
     have B4 := Lib.hid (by rw [← hw4]; exact B3.out : Urb w4 bu S U H (.int .i64 0) vp vh)
     clear hw4 c0 c1;have H4 := Lib.hid C4;clear C4
     go_wp2_with fail
     go_ret
     rw [HV.out]
     exact ⟨rfl, H4.out, K4, 0, B4.out, fun h => by simp at h⟩
    ·have br : decide (N < 1) = false := decide_eq_false hr1
     have br2 : decide (65535 < N) = true := decide_eq_true (by omega)
     clear hr hr1
     go_enter Tryz.func203, Tryz.ntmps203
     go_wp2_with fail
     go_quiet ((go_at_call 213; exact Calls.quiet_of_same (end_q semq s ⟨#[59, 63]⟩ k _ hs hk mSemq)))
     rw [HN1.out]
     obtain ⟨w2, hw2⟩ : ∃ w2, w.drewN nq = w2 := ⟨_, rfl⟩
     rw [hw2]
     have C2 : Cur b s k w2 := by rw [← hw2]; exact HC.out
     have K2 : Kp [b, bu] w w2 := by rw [← hw2]; exact h7u.drewN _
     have B2 := Lib.hid (by rw [← hw2]; exact HB.out : Urb w2 bu S U H (.int .i64 0) vp vh)
     clear hw2 c0 c1;have H2 := Lib.hid C2;clear C2
     go_wp2_with fail
     refine (take_yes b k 58 s _ hs hlt H2.out T58.out).mono ?_
     rintro e w3 ⟨rfl, C3, hK3⟩
     have K3 := K2.to_ hK3 (by simp)
     have B3 := Lib.hid (B2.out.kp hK3 (by simp; omega))
     have c0 := C3.c0;have c1 := C3.c1;have H3 := Lib.hid C3;clear C3 hK3
     go_wp2_with fail
     go_quiet ((go_at_call 95; rw [HX.out]; exact Calls.quiet_of_same (number_q (Txt (slc s.data.toList (k + 1) t)) _ (by rw [txt_size]; have := slc_le s.data.toList (k + 1) t; omega))))
     rw [txt_list, HN.out, HE.out]
     obtain ⟨w4, hw4⟩ : ∃ w4, w3.drewN nq = w4 := ⟨_, rfl⟩
     rw [hw4]
     have C4 : Cur b s (k + 1) w4 := by rw [← hw4]; exact H3.out
     have K4 : Kp [b, bu] w w4 := by rw [← hw4]; exact K3.drewN _
     have B4 := Lib.hid (by rw [← hw4]; exact B3.out : Urb w4 bu S U H (.int .i64 0) vp vh)
     clear hw4 c0 c1;have H4 := Lib.hid C4;clear C4
     go_wp2_with fail
     go_ret
     rw [HV.out]
     exact ⟨rfl, H4.out, K4, 0, B4.out, fun h => by simp at h⟩
   ·have HV := Lib.hid (hV.trans (by rw [if_neg hr]))
    have br : decide (N < 1) = false := decide_eq_false (by omega)
    have br2 : decide (65535 < N) = false := decide_eq_false (by omega)
    clear hV hr
    go_enter Tryz.func203, Tryz.ntmps203
    go_wp2_with fail
    go_quiet ((go_at_call 213; exact Calls.quiet_of_same (end_q semq s ⟨#[59, 63]⟩ k _ hs hk mSemq)))
    rw [HN1.out]
    obtain ⟨w2, hw2⟩ : ∃ w2, w.drewN nq = w2 := ⟨_, rfl⟩
    rw [hw2]
    have C2 : Cur b s k w2 := by rw [← hw2]; exact HC.out
    have K2 : Kp [b, bu] w w2 := by rw [← hw2]; exact h7u.drewN _
    have B2 := Lib.hid (by rw [← hw2]; exact HB.out : Urb w2 bu S U H (.int .i64 0) vp vh)
    clear hw2 c0 c1;have H2 := Lib.hid C2;clear C2
    go_wp2_with fail
    refine (take_yes b k 58 s _ hs hlt H2.out T58.out).mono ?_
    rintro e w3 ⟨rfl, C3, hK3⟩
    have K3 := K2.to_ hK3 (by simp)
    have B3 := Lib.hid (B2.out.kp hK3 (by simp; omega))
    have c0 := C3.c0;have c1 := C3.c1;have H3 := Lib.hid C3;clear C3 hK3
    go_wp2_with fail
    go_quiet ((go_at_call 95; rw [HX.out]; exact Calls.quiet_of_same (number_q (Txt (slc s.data.toList (k + 1) t)) _ (by rw [txt_size]; have := slc_le s.data.toList (k + 1) t; omega))))
    rw [txt_list, HN.out, HE.out]
    obtain ⟨w4, hw4⟩ : ∃ w4, w3.drewN nq = w4 := ⟨_, rfl⟩
    rw [hw4]
    have C4 : Cur b s (k + 1) w4 := by rw [← hw4]; exact H3.out
    have K4 : Kp [b, bu] w w4 := by rw [← hw4]; exact K3.drewN _
    have B4 := Lib.hid (by rw [← hw4]; exact B3.out : Urb w4 bu S U H (.int .i64 0) vp vh)
    clear hw4 c0 c1;have H4 := Lib.hid C4;clear C4;have u3 := B4.out.cell 3;have g3 := B4.out.frozen 3;have B6 := Lib.hid (B4.out.set_ 3 (.int .i64 N))
    have HC6 := Lib.hid (Cur.far H4.out (p := ⟨bu, 3, none⟩) hne (.int .i64 N))
    have c1'' := HC6.out.c1;have f1'' := HC6.out.f1
    go_wp2_with fail
    go_ret
    rw [HV.out]
    exact ⟨rfl, HC6.out.set t, (K4.setCell (p := ⟨bu, 3, none⟩) (.inl (by simp)) _).setCell (p := ⟨b, 1, none⟩) (.inl (by simp)) _, N, B6.out.far (p := ⟨b, 1, none⟩) (Ne.symm hne) _, fun _ => rfl⟩
  ·have bx : (X != 0) = true := by rw [bne_iff_ne]; exact hx0
   have HV := Lib.hid (hV0.trans (by rw [if_pos hx0]))
   have HX0 := Lib.hid hx0;clear hV0 hx0
   go_enter Tryz.func203, Tryz.ntmps203
   go_wp2_with fail
   go_quiet ((go_at_call 213; exact Calls.quiet_of_same (end_q semq s ⟨#[59, 63]⟩ k _ hs hk mSemq)))
   rw [HN1.out]
   obtain ⟨w2, hw2⟩ : ∃ w2, w.drewN nq = w2 := ⟨_, rfl⟩
   rw [hw2]
   have C2 : Cur b s k w2 := by rw [← hw2]; exact HC.out
   have K2 : Kp [b, bu] w w2 := by rw [← hw2]; exact h7u.drewN _
   have B2 := Lib.hid (by rw [← hw2]; exact HB.out : Urb w2 bu S U H (.int .i64 0) vp vh)
   clear hw2 c0 c1;have H2 := Lib.hid C2;clear C2
   go_wp2_with fail
   refine (take_yes b k 58 s _ hs hlt H2.out T58.out).mono ?_
   rintro e w3 ⟨rfl, C3, hK3⟩
   have K3 := K2.to_ hK3 (by simp)
   have B3 := Lib.hid (B2.out.kp hK3 (by simp; omega))
   have c0 := C3.c0;have c1 := C3.c1;have H3 := Lib.hid C3;clear C3 hK3
   go_wp2_with fail
   go_quiet ((go_at_call 95; rw [HX.out]; exact Calls.quiet_of_same (number_q (Txt (slc s.data.toList (k + 1) t)) _ (by rw [txt_size]; have := slc_le s.data.toList (k + 1) t; omega))))
   rw [txt_list, HN.out, HE.out]
   obtain ⟨w4, hw4⟩ : ∃ w4, w3.drewN nq = w4 := ⟨_, rfl⟩
   rw [hw4]
   have C4 : Cur b s (k + 1) w4 := by rw [← hw4]; exact H3.out
   have K4 : Kp [b, bu] w w4 := by rw [← hw4]; exact K3.drewN _
   have B4 := Lib.hid (by rw [← hw4]; exact B3.out : Urb w4 bu S U H (.int .i64 0) vp vh)
   clear hw4 c0 c1;have H4 := Lib.hid C4;clear C4
   go_wp2_with fail
   go_ret
   rw [HV.out]
   exact ⟨rfl, H4.out, K4, 0, B4.out, fun h => absurd h HX0.out⟩
 ·have t58 : (nxt s.data.toList k == 58) = false := by rw [nxt_eq _ _ _ (by decide) (by decide)]; exact beq_eq_false_iff_ne.2 h58
  have T58 := Lib.hid t58
  by_cases hkt : k < t
  ·have HV := Lib.hid (by unfold prtR; rw [if_neg h58, ht, if_pos hkt] : prtR s.data.toList k = (0, k, 5))
   clear h58 t58 ht
   go_enter Tryz.func203, Tryz.ntmps203
   go_wp2_with fail
   go_quiet ((go_at_call 213; exact Calls.quiet_of_same (end_q semq s ⟨#[59, 63]⟩ k _ hs hk mSemq)))
   rw [HN1.out]
   obtain ⟨w2, hw2⟩ : ∃ w2, w.drewN nq = w2 := ⟨_, rfl⟩
   rw [hw2]
   have C2 : Cur b s k w2 := by rw [← hw2]; exact HC.out
   have K2 : Kp [b, bu] w w2 := by rw [← hw2]; exact h7u.drewN _
   have B2 := Lib.hid (by rw [← hw2]; exact HB.out : Urb w2 bu S U H (.int .i64 0) vp vh)
   clear hw2 c0 c1;have H2 := Lib.hid C2;clear C2
   go_wp2_with fail
   refine (take_no b k 58 s _ hs (by omega) H2.out T58.out).mono ?_
   rintro e w3 ⟨rfl, C3, hK3⟩
   have K3 := K2.to_ hK3 (by simp)
   have B3 := Lib.hid (B2.out.kp hK3 (by simp; omega))
   have c1 := C3.c1;have H3 := Lib.hid C3;clear C3 hK3
   go_wp2_with fail
   go_ret
   rw [HV.out]
   exact ⟨rfl, H3.out, K3, 0, B3.out, fun h => by simp at h⟩
  ·have HV := Lib.hid (by unfold prtR; rw [if_neg h58, ht, if_neg hkt] : prtR s.data.toList k = (0, k, 0))
   clear h58 t58 ht
   go_enter Tryz.func203, Tryz.ntmps203
   go_wp2_with fail
   go_quiet ((go_at_call 213; exact Calls.quiet_of_same (end_q semq s ⟨#[59, 63]⟩ k _ hs hk mSemq)))
   rw [HN1.out]
   obtain ⟨w2, hw2⟩ : ∃ w2, w.drewN nq = w2 := ⟨_, rfl⟩
   rw [hw2]
   have C2 : Cur b s k w2 := by rw [← hw2]; exact HC.out
   have K2 : Kp [b, bu] w w2 := by rw [← hw2]; exact h7u.drewN _
   have B2 := Lib.hid (by rw [← hw2]; exact HB.out : Urb w2 bu S U H (.int .i64 0) vp vh)
   clear hw2 c0 c1;have H2 := Lib.hid C2;clear C2
   go_wp2_with fail
   refine (take_no b k 58 s _ hs (by omega) H2.out T58.out).mono ?_
   rintro e w3 ⟨rfl, C3, hK3⟩
   have K3 := K2.to_ hK3 (by simp)
   have B3 := Lib.hid (B2.out.kp hK3 (by simp; omega))
   have c1 := C3.c1;have H3 := Lib.hid C3;clear C3 hK3
   go_wp2_with fail
   go_ret
   rw [HV.out]
   exact ⟨rfl, H3.out, K3, 0, B3.out, fun _ => rfl⟩
end Ad
end Go.Proofs.YtmmjfofdnpafkaaGreatDoor
namespace Go.Proofs.YtmmjfofdnpafkaaGreatDoor
namespace Ad
open Go.RowKit Lx
def NoB (w : World) (g : Nat) : Prop := ∀ i t, w.cell? ⟨g, i, none⟩ ≠ some (.bool t)
theorem NoB.cur {b k : Nat} {s : ByteArray} {w : World} (h : Cur b s k w) : NoB w b := by
 intro i t hc
 rw [Blk.cell h i] at hc
 match i, hc with
 | 0, hc => simp at hc
 | 1, hc => simp at hc
 | i + 2, hc => simp at hc
theorem NoB.urb {w : World} {bu : Nat} {S U H : ByteArray} {P : Int} {a1 a2 : Option Addr} {n1 c1 n2 c2 : Nat} (h : Urb w bu (.string S) (.string U) (.string H) (.int .i64 P) (.slice a1 n1 c1) (.slice a2 n2 c2)) : NoB w bu := by
 intro i t hc
 rw [Blk.cell h i] at hc
 match i, hc with
 | 0, hc => simp at hc
 | 1, hc => simp at hc
 | 2, hc => simp at hc
 | 3, hc => simp at hc
 | 4, hc => simp at hc
 | 5, hc => simp at hc
 | i + 6, hc => simp at hc
theorem PmIn.kpA {X : List Nat} {w w' : World} {B : Nat} {v : Value} {l : List Prm} (h : PmIn B w v l) (k : Kp X w w') (hB : B ≤ w.heap.size) (hX : ∀ x ∈ X, NoB w x) : PmIn B w' v l := by
 obtain ⟨n, c, hn, hc, h0 | ⟨b, o, e, hb, hcell⟩⟩ := h
 ·exact ⟨n, c, hn, hc, .inl h0⟩
 ·refine ⟨n, c, hn, hc, .inr ⟨b, o, e, hb, fun j u hu => ?_⟩⟩
  have hbx : b ∉ X := by
   intro hm
   cases l with
   | nil => simp [pcl] at hu
   | cons p t => exact hX b hm (o + 2) p.2.2 (hcell 2 (.bool p.2.2) rfl)
  exact (k.cell (p := ⟨b, o + j, none⟩) (by show b < _; omega) hbx).trans (hcell j u hu)
theorem PmIn.grow {w w' : World} {v : Value} {l : List Prm} (h : PmIn w.heap.size w v l) {X : List Nat} (k : Kp X w w') (hX : ∀ x ∈ X, NoB w x) : PmIn w'.heap.size w' v l :=
 (h.kpA k (Nat.le_refl _) hX).more k.size
def PrsF (bu : Nat) (r : List Prm × Nat × Int) (S U H P : Value) (w : World) : Prop :=
 ∃ A n c, Urb w bu S U H P (.slice A n c) (.slice none 0 0) ∧ PmIn w.heap.size w (.slice A n c) (srt r.1)
set_option maxRecDepth 100000 in
set_option maxHeartbeats 1000000 in
theorem params_k (ends : Int → Bool) (b bu k : Nat) (s : ByteArray) (S U H : List UInt8) (P : Int) (w : World) (hs : s.size ≤ 2097152) (hk : k ≤ s.size) (C : Cur b s k w) (B : Urb w bu (.string (Txt S)) (.string (Txt U)) (.string (Txt H)) (.int .i64 P) (.slice none 0 0) (.slice none 0 0)) (E : Env w) (hne : b ≠ bu) (hb7 : 7 ≤ b)
   (hends : ends = if S = telL then (· == 59) else semq) :
   Calls Tryz.prog 204 #[.pointer (some ⟨b, 0, none⟩), .pointer (some ⟨bu, 0, none⟩)] w
    (PtP b bu s (prmsR ends s.data.toList k).2.1 (prmsR ends s.data.toList k).2.2 (PrsF bu (prmsR ends s.data.toList k) (.string (Txt S)) (.string (Txt U)) (.string (Txt H)) (.int .i64 P)) w) := by
 have HC := Lib.hid C;have HB := Lib.hid B;have HE := Lib.hid E;have u0 := B.cell 0
 have eS : (Txt S).toList = S := by rw [Lib.toList_data]; rfl
 clear C B E
 obtain ⟨R, hR⟩ : ∃ R, prmsR ends s.data.toList k = R := ⟨_, rfl⟩
 have HR := Lib.hid hR
 rw [hR]
 clear hR
 by_cases ht : S = telL
 ·have bt : ((Txt S).toList == [116, 101, 108]) = true := by rw [eS, ht]; rfl
  have HEn := Lib.hid (by rw [hends, if_pos ht] : ends = (· == 59))
  clear hends ht eS
  go_enter Tryz.func204, Tryz.ntmps204
  go_wp2_with fail
  refine (pairs_k (· == 59) ends 1 b k s ⟨#[59]⟩ ⟨#[59]⟩ w hs hk HC.out HE.out hb7 m59 (by rw [HEn.out]; exact m59) rfl rfl).mono ?_
  rintro e w2 ⟨v, rfl, hP, hC, hK, hl⟩
  have hR2 : prsF (· == 59) ends 1 (s.data.toList.length + 1) s.data.toList k [] = R := HR.out
  rw [hR2] at hP hC ⊢
  obtain ⟨A, c, rfl⟩ := hP.form
  have HB2 := Lib.hid (HB.out.kp hK (by simp; omega))
  have u4 := HB2.out.cell 4;have g4 := HB2.out.frozen 4;have B3 := Lib.hid (HB2.out.set_ 4 (.slice A (srt R.1).length c))
  have hK3 := (Kp.refl [bu] w2).setCell (p := ⟨bu, 4, none⟩) (.inl (by simp)) (.slice A (srt R.1).length c)
  have P3 := Lib.hid (hP.grow hK3 (by intro x hx; rw [List.mem_singleton.1 hx]; exact NoB.urb HB2.out))
  have C3 := Lib.hid (hC.far (p := ⟨bu, 4, none⟩) hne (.slice A (srt R.1).length c))
  have K3 := Lib.hid ((hK.mono (Y := [b, bu]) (by simp)).setCell (p := ⟨bu, 4, none⟩) (.inl (by simp)) (.slice A (srt R.1).length c))
  clear hP hC hK hK3 hl hR2 u0
  go_wp2_with fail
  go_ret
  exact ⟨rfl, C3.out, K3.out, A, _, c, B3.out, P3.out⟩
 ·have bt : ((Txt S).toList == [116, 101, 108]) = false := by rw [eS]; exact beq_eq_false_iff_ne.2 ht
  have HEn := Lib.hid (by rw [hends, if_neg ht] : ends = semq)
  clear hends ht eS
  go_enter Tryz.func204, Tryz.ntmps204
  go_wp2_with fail
  refine (pairs_k (· == 59) ends 1 b k s ⟨#[59]⟩ ⟨#[59, 63]⟩ w hs hk HC.out HE.out hb7 m59 (by rw [HEn.out]; exact mSemq) rfl rfl).mono ?_
  rintro e w2 ⟨v, rfl, hP, hC, hK, hl⟩
  have hR2 : prsF (· == 59) ends 1 (s.data.toList.length + 1) s.data.toList k [] = R := HR.out
  rw [hR2] at hP hC ⊢
  obtain ⟨A, c, rfl⟩ := hP.form
  have HB2 := Lib.hid (HB.out.kp hK (by simp; omega))
  have u4 := HB2.out.cell 4;have g4 := HB2.out.frozen 4;have B3 := Lib.hid (HB2.out.set_ 4 (.slice A (srt R.1).length c))
  have hK3 := (Kp.refl [bu] w2).setCell (p := ⟨bu, 4, none⟩) (.inl (by simp)) (.slice A (srt R.1).length c)
  have P3 := Lib.hid (hP.grow hK3 (by intro x hx; rw [List.mem_singleton.1 hx]; exact NoB.urb HB2.out))
  have C3 := Lib.hid (hC.far (p := ⟨bu, 4, none⟩) hne (.slice A (srt R.1).length c))
  have K3 := Lib.hid ((hK.mono (Y := [b, bu]) (by simp)).setCell (p := ⟨bu, 4, none⟩) (.inl (by simp)) (.slice A (srt R.1).length c))
  clear hP hC hK hK3 hl hR2 u0
  go_wp2_with fail
  go_ret
  exact ⟨rfl, C3.out, K3.out, A, _, c, B3.out, P3.out⟩
def HdsF (bu : Nat) (r : List Prm × Nat × Int) (S U H P vp : Value) (ps : List Prm) (w : World) : Prop :=
 ∃ A n c, Urb w bu S U H P vp (.slice A n c) ∧ PmIn w.heap.size w vp ps ∧ PmIn w.heap.size w (.slice A n c) (srt r.1)
set_option maxRecDepth 100000 in
set_option maxHeartbeats 1000000 in
theorem heads_k (b bu k : Nat) (s : ByteArray) (S U H : List UInt8) (P : Int) (vp : Value) (ps : List Prm) (w : World) (hs : s.size ≤ 2097152) (hk : k ≤ s.size) (C : Cur b s k w) (B : Urb w bu (.string (Txt S)) (.string (Txt U)) (.string (Txt H)) (.int .i64 P) vp (.slice none 0 0)) (hPs : PmIn w.heap.size w vp ps) (E : Env w) (hne : b ≠ bu) (hb7 : 7 ≤ b) :
   Calls Tryz.prog 205 #[.pointer (some ⟨b, 0, none⟩), .pointer (some ⟨bu, 0, none⟩)] w
    (PtP b bu s (headsR s.data.toList k).2.1 (headsR s.data.toList k).2.2 (HdsF bu (headsR s.data.toList k) (.string (Txt S)) (.string (Txt U)) (.string (Txt H)) (.int .i64 P) vp ps) w) := by
 obtain ⟨A0, c0, rfl⟩ := hPs.form
 have HPs := Lib.hid hPs;have HC := Lib.hid C;have HB := Lib.hid B;have HE := Lib.hid E;clear C B E hPs
 obtain ⟨R, hR⟩ : ∃ R, headsR s.data.toList k = R := ⟨_, rfl⟩
 have HR := Lib.hid hR
 rw [hR]
 clear hR
 go_enter Tryz.func205, Tryz.ntmps205
 go_wp2_with fail
 refine (pairs_k headC (· == 38) 2 b k s ⟨#[63, 38]⟩ ⟨#[38]⟩ w hs hk HC.out HE.out hb7 mHead m38 rfl rfl).mono ?_
 rintro e w2 ⟨v, rfl, hP, hC, hK, hl⟩
 have hR2 : prsF headC (· == 38) 2 (s.data.toList.length + 1) s.data.toList k [] = R := HR.out
 rw [hR2] at hP hC ⊢
 obtain ⟨A, c, rfl⟩ := hP.form
 have HB2 := Lib.hid (HB.out.kp hK (by simp; omega))
 have u5 := HB2.out.cell 5;have g5 := HB2.out.frozen 5;have B3 := Lib.hid (HB2.out.set_ 5 (.slice A (srt R.1).length c))
 have hK3 := (Kp.refl [bu] w2).setCell (p := ⟨bu, 5, none⟩) (.inl (by simp)) (.slice A (srt R.1).length c)
 have hnb : ∀ x ∈ [bu], NoB w2 x := by intro x hx; rw [List.mem_singleton.1 hx]; exact NoB.urb HB2.out
 have P3 := Lib.hid (hP.grow hK3 hnb)
 have Q3 := Lib.hid ((HPs.out.grow hK (by intro x hx; rw [List.mem_singleton.1 hx]; exact NoB.cur HC.out)).grow hK3 hnb)
 have C3 := Lib.hid (hC.far (p := ⟨bu, 5, none⟩) hne (.slice A (srt R.1).length c))
 have K3 := Lib.hid ((hK.mono (Y := [b, bu]) (by simp)).setCell (p := ⟨bu, 5, none⟩) (.inl (by simp)) (.slice A (srt R.1).length c))
 clear hP hC hK hK3 hl hR2 hnb
 go_wp2_with fail
 go_ret
 exact ⟨rfl, C3.out, K3.out, A, _, c, B3.out, Q3.out, P3.out⟩
end Ad
end Go.Proofs.YtmmjfofdnpafkaaGreatDoor
namespace Go.Proofs.YtmmjfofdnpafkaaGreatDoor
namespace Ad
open Go.RowKit Lx
theorem isB_kp {B g : Nat} {bs : List Value} {w w' : World} {X : List Nat} (h : IsB B g bs w) (k : Kp X w w') (hX : ∀ x ∈ X, x < B) : IsB B g bs w' := by
 rcases h with ⟨h1, v, h2, h3, h4⟩ | ⟨h1, v, h2, h3, h4⟩
 ·exact .inl ⟨h1, v, (k.block g (lt_of_some h2) (fun hm => by have := hX g hm; omega)).trans h2, own_kp h3 k hX, h4⟩
 ·exact .inr ⟨h1, v, (k.block g (lt_of_some h2) (fun hm => by have := hX g hm; omega)).trans h2, own_kp h3 k hX, h4⟩
def telQ (plus : List UInt8) (l : List UInt8) (k j t : Nat) (r : List UInt8 × Nat) : List UInt8 × Nat × Int :=
 if r.2 < t - j then ([], j + r.2, 5) else if r.1 = [] then ([], k, 5) else if 30 < r.1.length then ([], k, 4) else (plus ++ r.1, t, 0)
theorem telR_q (l : List UInt8) (k t : Nat) (ht : endP (· == 59) l k = t) :
   telR l k = if atB l k = 43 then telQ [43] l k (k + 1) t (telS false (slc l (k + 1) t)) else telQ [] l k k t (telS true (slc l k t)) := by
 unfold telR telQ; rw [ht]; rfl
theorem telS_dig (o : Bool) (c : UInt8) (t : List UInt8) (h : (digitI c.toNat || (o && locC c.toNat)) = true) : telS o (c :: t) = (c :: (telS o t).1, (telS o t).2 + 1) := by rw [telS, if_pos h]
theorem telS_sep (o : Bool) (c : UInt8) (t : List UInt8) (h : (digitI c.toNat || (o && locC c.toNat)) = false) (h2 : sepC c.toNat = true) : telS o (c :: t) = ((telS o t).1, (telS o t).2 + 1) := by rw [telS, if_neg (by rw [h]; decide), if_pos h2]
theorem telS_bad (o : Bool) (c : UInt8) (t : List UInt8) (h : (digitI c.toNat || (o && locC c.toNat)) = false) (h2 : sepC c.toNat = false) : telS o (c :: t) = ([], 0) := by rw [telS, if_neg (by rw [h]; decide), if_neg (by rw [h2]; decide)]
theorem mSep : memB (⟨#[45, 46, 40, 41]⟩ : ByteArray).data.toList = sepC := memB_fun _ _ fun c => by show ((45 : Int) == c || ((46 : Int) == c || ((40 : Int) == c || ((41 : Int) == c || false)))) = _; unfold sepC; rw [Bool.or_false, comm_beq 45, comm_beq 46, comm_beq 40, comm_beq 41]
theorem mLoc : memB (⟨#[42, 35]⟩ : ByteArray).data.toList = locC := memB_fun _ _ fun c => by show ((42 : Int) == c || ((35 : Int) == c || false)) = _; unfold locC; rw [Bool.or_false, comm_beq 42, comm_beq 35]
theorem sep_neg (c : UInt8) : decide (Lib.indexByte [45, 46, 40, 41] c < 0) = !sepC c.toNat := by
 have h := mem_u8 [45, 46, 40, 41] c
 have e : memB [45, 46, 40, 41] c.toNat = sepC c.toNat := congrFun mSep _
 rw [e] at h
 rw [← h]
 by_cases h0 : 0 ≤ Lib.indexByte [45, 46, 40, 41] c
 ·rw [decide_eq_true h0, decide_eq_false (by omega)]; rfl
 ·rw [decide_eq_false h0, decide_eq_true (by omega)]; rfl
theorem loc_pos (c : UInt8) : decide (0 ≤ Lib.indexByte [42, 35] c) = (true && locC c.toNat) := by
 have h := mem_u8 [42, 35] c
 have e : memB [42, 35] c.toNat = locC c.toNat := congrFun mLoc _
 rw [h, e]; rfl
theorem non_pos (c : UInt8) : decide (0 ≤ Lib.indexByte [] c) = (false && locC c.toNat) := by
 have h := mem_u8 [] c
 rw [h]; rfl
set_option maxRecDepth 100000 in
set_option maxHeartbeats 2000000 in
theorem number_k (b bu k : Nat) (s : ByteArray) (S H P vp vh : Value) (w : World) (hs : s.size ≤ 2097152) (hk : k ≤ s.size) (C : Cur b s k w) (B : Urb w bu S (.string (Txt [])) H P vp vh) (hne : b ≠ bu) :
   Calls Tryz.prog 206 #[.pointer (some ⟨b, 0, none⟩), .pointer (some ⟨bu, 0, none⟩)] w (PtP b bu s (telR s.data.toList k).2.1 (telR s.data.toList k).2.2 (UsrF bu (telR s.data.toList k) S H P vp vh) w) := by
 have c0 := C.c0;have c1 := C.c1;have hbw := C.lt;have hbuw := B.lt;have HC := Lib.hid C;have HB := Lib.hid B;clear C B
 obtain ⟨t, ht⟩ : ∃ n, endP (· == 59) s.data.toList k = n := ⟨_, rfl⟩
 have hts : t ≤ s.size := by rw [← ht, ← len_list]; exact endP_le _ _ _ (by rw [len_list]; exact hk)
 have hkt : k ≤ t := by rw [← ht]; exact endP_ge _ _ _
 have HT := Lib.hid ht;have hV0 := telR_q s.data.toList k t ht
 have h7u : Kp [b, bu] w w := Kp.refl _ _
 by_cases h43 : atB s.data.toList k = 43
 ·have t43 : (nxt s.data.toList k == 43) = true := by rw [nxt_eq _ _ _ (by decide) (by decide), h43]; rfl
  have T43 := Lib.hid t43
  have hlt : k < s.size := by have := atB_lt s.data.toList k (by rw [h43]; decide); rwa [len_list] at this
  have h5b : ((s[k].toNat : Int) == 59) = false := by
   have := atB_get s k hlt
   rw [h43] at this
   rw [← this]; rfl
  have hk1 : k + 1 ≤ t := by
   have h9 := endP_next (· == 59) s k hlt h5b
   rw [ht] at h9
   rw [h9]; exact endP_ge _ _ _
  have HV := Lib.hid (hV0.trans (by rw [if_pos h43]))
  obtain ⟨r1, r2, hr⟩ : ∃ r1 r2, telS false (slc s.data.toList (k + 1) t) = (r1, r2) := ⟨_, _, rfl⟩
  have HR := Lib.hid hr
  rw [hr] at HV
  clear h43 t43 ht hV0 h5b hr
  go_enter Tryz.func206, Tryz.ntmps206
  go_wp2_with fail
  go_quiet ((go_at_call 213; exact Calls.quiet_of_same (end_q (· == 59) s ⟨#[59]⟩ k _ hs hk m59)))
  rw [HT.out]
  obtain ⟨w2, hw2⟩ : ∃ w2, w.drewN nq = w2 := ⟨_, rfl⟩
  rw [hw2]
  have C2 : Cur b s k w2 := by rw [← hw2]; exact HC.out
  have K2 : Kp [b, bu] w w2 := by rw [← hw2]; exact h7u.drewN _
  have B2 := Lib.hid (by rw [← hw2]; exact HB.out : Urb w2 bu S (.string (Txt [])) H P vp vh)
  clear hw2 c0 c1;have H2 := Lib.hid C2;clear C2
  go_wp2_with fail
  refine (take_yes b k 43 s _ hs hlt H2.out T43.out).mono ?_
  rintro e w3 ⟨rfl, C3, hK3⟩
  have K3 := K2.to_ hK3 (by simp)
  have B3 := Lib.hid (B2.out.kp hK3 (by simp; omega))
  have H3 := Lib.hid C3;have hs3 := K3.size;clear C3 hK3
  go_wp2_with fail
  go_loopg [10] (s.size + 1) (fun gg _ wr => ∃ (j : Nat) (acc : List UInt8), (k + 1) ≤ j ∧ j ≤ t ∧ t - j < gg ∧ Cur b s j wr ∧ IsB w3.heap.size w3.heap.size (Lib.byteCells acc) wr ∧ acc.length ≤ j ∧ acc ++ (telS false (slc s.data.toList j t)).1 = r1 ∧ j + (telS false (slc s.data.toList j t)).2 = (k + 1) + r2 ∧ Kp [b] w3 wr)
  case atStart => exact ⟨(k + 1), [], Nat.le_refl _, hk1, by omega, H3.out.alloc _, fresh_isB w3, Nat.zero_le _, by rw [HR.out]; rfl, by rw [HR.out], (Kp.refl [b] w3).alloc _⟩
  case round =>
   obtain ⟨j, acc, hj0, hjt, hg, hC, hI, hal, hr1, hr2, hK⟩ := hrel
   have c0 := hC.c0;have c1 := hC.c1;have f1 := hC.f1;have HC4 := Lib.hid hC;have HI := Lib.hid hI;have hszr := hK.size
   have hlen : (Lib.byteCells acc).length ≤ j := by rw [Lib.byteCells_length]; exact hal
   clear hC hI
   by_cases hlt4 : j < t
   ·have hjs : j < s.size := by omega
    have hst := slc_step s j t hlt4 hts
    rw [hst] at hr1 hr2
    have hsn := sep_neg s[j]
    have hlp := non_pos s[j]
    cases hd : digitI s[j].toNat
    ·cases hl : (false && locC s[j].toNat)
     ·have hdl : (digitI s[j].toNat || (false && locC s[j].toNat)) = false := by rw [hd, hl]; rfl
      cases hsp : sepC s[j].toNat
      ·rw [telS_bad _ _ _ hdl hsp] at hr1 hr2
       have hlt5 : r2 < t - (k + 1) := by simp at hr2; omega
       have hjr : j = (k + 1) + r2 := by simpa using hr2
       have HV2 := Lib.hid (HV.out.trans (by unfold telQ; rw [if_pos hlt5] : _ = (([] : List UInt8), (k + 1) + r2, (5 : Int))))
       have HJ := Lib.hid hjr;have HD := Lib.hid hd
       rw [hsp] at hsn
       rw [hl] at hlp
       have HLP := Lib.hid hlp;have HSN := Lib.hid hsn;clear hd hl hsp hdl hjr hr1 hr2 hst hsn hlp
       go_wp2_with fail
       go_quiet (fail)
       go_wp2_with fail
       refine (adigit_any _ _).mono ?_
       rintro e w5 ⟨rfl, rfl⟩
       rw [HD.out]
       go_wp2_with fail
       refine (Tryz.strings_IndexByte _ _ _).mono ?_
       rintro e w6 ⟨rfl, rfl⟩
       have hlp := HLP.out
       go_wp2_with fail
       refine (Tryz.strings_IndexByte _ _ _).mono ?_
       rintro e w6 ⟨rfl, rfl⟩
       have hsn := HSN.out
       go_wp2_with fail
       go_ret
       rw [HV2.out]
       exact ⟨rfl, by have h := HC4.out; rw [HJ.out] at h; exact h, (K3.to_ hK (by simp)).drewN _, [], Blk.drewN (B3.out.kp hK (by simp; omega)) _, fun h => by simp at h⟩
      ·rw [telS_sep _ _ _ hdl hsp] at hr1 hr2
       have HR1 := Lib.hid hr1;have HR2 := Lib.hid hr2;have HD := Lib.hid hd
       rw [hsp] at hsn
       rw [hl] at hlp
       have HLP := Lib.hid hlp;have HSN := Lib.hid hsn;clear hd hl hsp hdl hr1 hr2 hst hsn hlp
       go_wp2_with fail
       go_quiet (fail)
       go_wp2_with fail
       refine (adigit_any _ _).mono ?_
       rintro e w5 ⟨rfl, rfl⟩
       rw [HD.out]
       go_wp2_with fail
       refine (Tryz.strings_IndexByte _ _ _).mono ?_
       rintro e w6 ⟨rfl, rfl⟩
       have hlp := HLP.out
       go_wp2_with fail
       refine (Tryz.strings_IndexByte _ _ _).mono ?_
       rintro e w6 ⟨rfl, rfl⟩
       have hsn := HSN.out
       go_wp2_with fail
       have hK9 := ((Kp.refl [b] wr).drewN nq).setCell (p := ⟨b, 1, none⟩) (.inl (by simp)) (.int .i64 ((j : Int) + 1))
       go_roundg (t - j)
       case measure => omega
       case rel => exact ⟨j + 1, acc, by omega, by omega, by omega, by have h := (show Cur b s j (wr.drewN nq) from Blk.drewN HC4.out nq).set (j + 1); rwa [Int.natCast_add] at h, isB_kp HI.out hK9 (by simp; omega), by omega, HR1.out, by have := HR2.out; omega, hK.trans hK9⟩
     ·have hdl : (digitI s[j].toNat || (false && locC s[j].toNat)) = true := by rw [hd, hl]; rfl
      rw [telS_dig _ _ _ hdl] at hr1 hr2
      have HR1 := Lib.hid hr1;have HR2 := Lib.hid hr2;have HD := Lib.hid hd
      rw [hl] at hlp
      have HLP := Lib.hid hlp;clear hd hl hdl hr1 hr2 hst hsn hlp
      go_wp2_with fail
      go_quiet (fail)
      go_wp2_with fail
      refine (adigit_any _ _).mono ?_
      rintro e w5 ⟨rfl, rfl⟩
      rw [HD.out]
      go_wp2_with fail
      refine (Tryz.strings_IndexByte _ _ _).mono ?_
      rintro e w6 ⟨rfl, rfl⟩
      have hlp := HLP.out
      go_wp2_with fail
      refine (writeByte_any w3.heap.size w3.heap.size _ _ _ (isB_kp HI.out ((Kp.refl [] wr).drewN nq) (by simp)) (by omega) (by simp; omega)).mono ?_
      rintro e w7 ⟨rfl, hb7, hk7⟩
      have Hb7 := Lib.hid (isB_of hb7 rfl)
      have hC7 : Cur b s j w7 := Blk.below (Blk.drewN HC4.out nq) hk7.below (by omega)
      have hK7 := (hK.drewN nq).kb hk7.below (by omega)
      have c1 := hC7.c1;have f1 := hC7.f1;have HC7 := Lib.hid hC7;clear hb7 hC7
      go_wp2_with fail
      have hK9 := (Kp.refl [b] w7).setCell (p := ⟨b, 1, none⟩) (.inl (by simp)) (.int .i64 ((j : Int) + 1))
      go_roundg (t - j)
      case measure => omega
      case rel => exact ⟨j + 1, acc ++ [s[j]], by omega, by omega, by omega, by have h := HC7.out.set (j + 1); rwa [Int.natCast_add] at h, isB_kp (by rw [← bd_byteCells]; exact Hb7.out) hK9 (by simp; omega), by simp; omega, by rw [List.append_assoc]; exact HR1.out, by have := HR2.out; omega, hK7.trans hK9⟩
    ·have hdl : (digitI s[j].toNat || (false && locC s[j].toNat)) = true := by rw [hd]; rfl
     rw [telS_dig _ _ _ hdl] at hr1 hr2
     have HR1 := Lib.hid hr1;have HR2 := Lib.hid hr2;have HD := Lib.hid hd;clear hd hdl hr1 hr2 hst hsn hlp
     go_wp2_with fail
     go_quiet (fail)
     go_wp2_with fail
     refine (adigit_any _ _).mono ?_
     rintro e w5 ⟨rfl, rfl⟩
     rw [HD.out]
     go_wp2_with fail
     refine (writeByte_any w3.heap.size w3.heap.size _ _ _ (isB_kp HI.out ((Kp.refl [] wr).drewN nq) (by simp)) (by omega) (by simp; omega)).mono ?_
     rintro e w7 ⟨rfl, hb7, hk7⟩
     have Hb7 := Lib.hid (isB_of hb7 rfl)
     have hC7 : Cur b s j w7 := Blk.below (Blk.drewN HC4.out nq) hk7.below (by omega)
     have hK7 := (hK.drewN nq).kb hk7.below (by omega)
     have c1 := hC7.c1;have f1 := hC7.f1;have HC7 := Lib.hid hC7;clear hb7 hC7
     go_wp2_with fail
     have hK9 := (Kp.refl [b] w7).setCell (p := ⟨b, 1, none⟩) (.inl (by simp)) (.int .i64 ((j : Int) + 1))
     go_roundg (t - j)
     case measure => omega
     case rel => exact ⟨j + 1, acc ++ [s[j]], by omega, by omega, by omega, by have h := HC7.out.set (j + 1); rwa [Int.natCast_add] at h, isB_kp (by rw [← bd_byteCells]; exact Hb7.out) hK9 (by simp; omega), by simp; omega, by rw [List.append_assoc]; exact HR1.out, by have := HR2.out; omega, hK7.trans hK9⟩
   ·have hjt' : j = t := by omega
    have hsl : slc s.data.toList j t = [] := slc_nil _ _ _ (by omega)
    rw [hsl] at hr1 hr2
    have hr1' : acc = r1 := by simpa [telS] using hr1
    have hr2' : j = (k + 1) + r2 := by simpa [telS] using hr2
    have hV1 := HV.out.trans (by unfold telQ; rw [if_neg (by omega)])
    subst hr1'
    have HJT := Lib.hid hjt';clear hr1 hr2 hsl hr2' hjt'
    have hlb : (Lib.byteCells acc).length = acc.length := Lib.byteCells_length _
    have HLB := Lib.hid hlb
    have K4 := K3.to_ hK (by simp)
    have B4 := Lib.hid (B3.out.kp hK (by simp; omega))
    clear hlb
    by_cases he0 : acc = []
    ·have HV2 := Lib.hid (hV1.trans (by rw [if_pos he0]))
     have bl : ((Lib.byteCells acc).length : Int) = 0 := by rw [he0]; rfl
     have BL := Lib.hid bl;clear hV1 he0 bl
     go_wp2_with fail
     refine (Tryz.Builder_Len w3.heap.size w3.heap.size _ _ HI.out).mono ?_
     rintro e w5 ⟨rfl, hw5⟩
     obtain rfl := hw5.symm
     rw [BL.out]
     go_wp2_with fail
     refine (fail_k b j k 5 s _ HC4.out).mono ?_
     rintro e w6 ⟨rfl, C6, hK6⟩
     have HC6 := Lib.hid C6
     have HB6 := Lib.hid (B4.out.kp hK6 (by simp; omega))
     clear C6
     go_wp2_with fail
     go_ret
     rw [HV2.out]
     exact ⟨rfl, HC6.out, K4.to_ hK6 (by simp), [], HB6.out, fun h => by simp at h⟩
    ·have hpos : 1 ≤ acc.length := by cases acc with | nil => exact absurd rfl he0 | cons a b => simp
     have bz : ((acc.length : Int) == 0) = false := by rw [beq_eq_false_iff_ne]; omega
     by_cases h30 : 30 < acc.length
     ·have HV2 := Lib.hid (hV1.trans (by rw [if_neg he0, if_pos h30]))
      have b30 : (30 : Int) < (acc.length : Int) := by omega
      clear hV1 he0 h30
      go_wp2_with fail
      refine (Tryz.Builder_Len w3.heap.size w3.heap.size _ _ HI.out).mono ?_
      rintro e w5 ⟨rfl, hw5⟩
      obtain rfl := hw5.symm
      rw [HLB.out]
      go_wp2_with fail
      refine (Tryz.Builder_Len w3.heap.size w3.heap.size _ _ HI.out).mono ?_
      rintro e w5 ⟨rfl, hw5⟩
      obtain rfl := hw5.symm
      rw [HLB.out]
      go_wp2_with fail
      refine (fail_k b j k 4 s _ HC4.out).mono ?_
      rintro e w6 ⟨rfl, C6, hK6⟩
      have HC6 := Lib.hid C6
      have HB6 := Lib.hid (B4.out.kp hK6 (by simp; omega))
      clear C6
      go_wp2_with fail
      go_ret
      rw [HV2.out]
      exact ⟨rfl, HC6.out, K4.to_ hK6 (by simp), [], HB6.out, fun h => by simp at h⟩
     ·have HV2 := Lib.hid (hV1.trans (by rw [if_neg he0, if_neg h30]))
      have b30 : ¬ (30 : Int) < (acc.length : Int) := by omega
      have hb1 : (⟨acc.toArray⟩ : ByteArray).toList.length ≤ 30 := by rw [Lib.toList_data]; simp; omega
      clear hV1 he0 h30
      go_wp2_with fail
      refine (Tryz.Builder_Len w3.heap.size w3.heap.size _ _ HI.out).mono ?_
      rintro e w5 ⟨rfl, hw5⟩
      obtain rfl := hw5.symm
      rw [HLB.out]
      go_wp2_with fail
      refine (Tryz.Builder_Len w3.heap.size w3.heap.size _ _ HI.out).mono ?_
      rintro e w5 ⟨rfl, hw5⟩
      obtain rfl := hw5.symm
      rw [HLB.out]
      go_wp2_with fail
      refine (string_any w3.heap.size w3.heap.size acc _ HI.out (by omega)).mono ?_
      rintro e w6 ⟨rfl, hk6, _⟩
      have K6 := hK.kb hk6.below (Nat.le_refl _)
      have B6 := Lib.hid (B3.out.kp K6 (by simp; omega))
      have C6 := Lib.hid (show Cur b s j w6 from Blk.below HC4.out hk6.below (by omega))
      have u1 := B6.out.cell 1;have g1 := B6.out.frozen 1;have c0 := C6.out.c0
      go_wp2_with fail
      have hcat : (⟨#[43]⟩ : ByteArray) ++ (⟨acc.toArray⟩ : ByteArray) = Txt ([43] ++ acc) := cat_txt [43] acc
      rw [hcat]
      go_ret
      rw [HV2.out]
      exact ⟨rfl, (by have h := C6.out; rw [HJT.out] at h; exact h.far (p := ⟨bu, 1, none⟩) hne _), (K3.to_ K6 (by simp)).setCell (p := ⟨bu, 1, none⟩) (.inl (by simp)) _, [43] ++ acc, B6.out.set_ 1 (.string (Txt ([43] ++ acc))), fun _ => rfl⟩
 ·have t43 : (nxt s.data.toList k == 43) = false := by rw [nxt_eq _ _ _ (by decide) (by decide)]; exact beq_eq_false_iff_ne.2 h43
  have T43 := Lib.hid t43
  have HV := Lib.hid (hV0.trans (by rw [if_neg h43]))
  obtain ⟨r1, r2, hr⟩ : ∃ r1 r2, telS true (slc s.data.toList k t) = (r1, r2) := ⟨_, _, rfl⟩
  have HR := Lib.hid hr
  rw [hr] at HV
  clear h43 t43 ht hV0 hr
  go_enter Tryz.func206, Tryz.ntmps206
  go_wp2_with fail
  go_quiet ((go_at_call 213; exact Calls.quiet_of_same (end_q (· == 59) s ⟨#[59]⟩ k _ hs hk m59)))
  rw [HT.out]
  obtain ⟨w2, hw2⟩ : ∃ w2, w.drewN nq = w2 := ⟨_, rfl⟩
  rw [hw2]
  have C2 : Cur b s k w2 := by rw [← hw2]; exact HC.out
  have K2 : Kp [b, bu] w w2 := by rw [← hw2]; exact h7u.drewN _
  have B2 := Lib.hid (by rw [← hw2]; exact HB.out : Urb w2 bu S (.string (Txt [])) H P vp vh)
  clear hw2 c0 c1;have H2 := Lib.hid C2;clear C2
  go_wp2_with fail
  refine (take_no b k 43 s _ hs hk H2.out T43.out).mono ?_
  rintro e w3 ⟨rfl, C3, hK3⟩
  have K3 := K2.to_ hK3 (by simp)
  have B3 := Lib.hid (B2.out.kp hK3 (by simp; omega))
  have H3 := Lib.hid C3;have hs3 := K3.size;clear C3 hK3
  go_wp2_with fail
  go_loopg [10] (s.size + 1) (fun gg _ wr => ∃ (j : Nat) (acc : List UInt8), k ≤ j ∧ j ≤ t ∧ t - j < gg ∧ Cur b s j wr ∧ IsB w3.heap.size w3.heap.size (Lib.byteCells acc) wr ∧ acc.length ≤ j ∧ acc ++ (telS true (slc s.data.toList j t)).1 = r1 ∧ j + (telS true (slc s.data.toList j t)).2 = k + r2 ∧ Kp [b] w3 wr)
  case atStart => exact ⟨k, [], Nat.le_refl _, hkt, by omega, H3.out.alloc _, fresh_isB w3, Nat.zero_le _, by rw [HR.out]; rfl, by rw [HR.out], (Kp.refl [b] w3).alloc _⟩
  case round =>
   obtain ⟨j, acc, hj0, hjt, hg, hC, hI, hal, hr1, hr2, hK⟩ := hrel
   have c0 := hC.c0;have c1 := hC.c1;have f1 := hC.f1;have HC4 := Lib.hid hC;have HI := Lib.hid hI;have hszr := hK.size
   have hlen : (Lib.byteCells acc).length ≤ j := by rw [Lib.byteCells_length]; exact hal
   clear hC hI
   by_cases hlt4 : j < t
   ·have hjs : j < s.size := by omega
    have hst := slc_step s j t hlt4 hts
    rw [hst] at hr1 hr2
    have hsn := sep_neg s[j]
    have hlp := loc_pos s[j]
    cases hd : digitI s[j].toNat
    ·cases hl : (true && locC s[j].toNat)
     ·have hdl : (digitI s[j].toNat || (true && locC s[j].toNat)) = false := by rw [hd, hl]; rfl
      cases hsp : sepC s[j].toNat
      ·rw [telS_bad _ _ _ hdl hsp] at hr1 hr2
       have hlt5 : r2 < t - k := by simp at hr2; omega
       have hjr : j = k + r2 := by simpa using hr2
       have HV2 := Lib.hid (HV.out.trans (by unfold telQ; rw [if_pos hlt5] : _ = (([] : List UInt8), k + r2, (5 : Int))))
       have HJ := Lib.hid hjr;have HD := Lib.hid hd
       rw [hsp] at hsn
       rw [hl] at hlp
       have HLP := Lib.hid hlp;have HSN := Lib.hid hsn;clear hd hl hsp hdl hjr hr1 hr2 hst hsn hlp
       go_wp2_with fail
       go_quiet (fail)
       go_wp2_with fail
       refine (adigit_any _ _).mono ?_
       rintro e w5 ⟨rfl, rfl⟩
       rw [HD.out]
       go_wp2_with fail
       refine (Tryz.strings_IndexByte _ _ _).mono ?_
       rintro e w6 ⟨rfl, rfl⟩
       have hlp := HLP.out
       go_wp2_with fail
       refine (Tryz.strings_IndexByte _ _ _).mono ?_
       rintro e w6 ⟨rfl, rfl⟩
       have hsn := HSN.out
       go_wp2_with fail
       go_ret
       rw [HV2.out]
       exact ⟨rfl, by have h := HC4.out; rw [HJ.out] at h; exact h, (K3.to_ hK (by simp)).drewN _, [], Blk.drewN (B3.out.kp hK (by simp; omega)) _, fun h => by simp at h⟩
      ·rw [telS_sep _ _ _ hdl hsp] at hr1 hr2
       have HR1 := Lib.hid hr1;have HR2 := Lib.hid hr2;have HD := Lib.hid hd
       rw [hsp] at hsn
       rw [hl] at hlp
       have HLP := Lib.hid hlp;have HSN := Lib.hid hsn;clear hd hl hsp hdl hr1 hr2 hst hsn hlp
       go_wp2_with fail
       go_quiet (fail)
       go_wp2_with fail
       refine (adigit_any _ _).mono ?_
       rintro e w5 ⟨rfl, rfl⟩
       rw [HD.out]
       go_wp2_with fail
       refine (Tryz.strings_IndexByte _ _ _).mono ?_
       rintro e w6 ⟨rfl, rfl⟩
       have hlp := HLP.out
       go_wp2_with fail
       refine (Tryz.strings_IndexByte _ _ _).mono ?_
       rintro e w6 ⟨rfl, rfl⟩
       have hsn := HSN.out
       go_wp2_with fail
       have hK9 := ((Kp.refl [b] wr).drewN nq).setCell (p := ⟨b, 1, none⟩) (.inl (by simp)) (.int .i64 ((j : Int) + 1))
       go_roundg (t - j)
       case measure => omega
       case rel => exact ⟨j + 1, acc, by omega, by omega, by omega, by have h := (show Cur b s j (wr.drewN nq) from Blk.drewN HC4.out nq).set (j + 1); rwa [Int.natCast_add] at h, isB_kp HI.out hK9 (by simp; omega), by omega, HR1.out, by have := HR2.out; omega, hK.trans hK9⟩
     ·have hdl : (digitI s[j].toNat || (true && locC s[j].toNat)) = true := by rw [hd, hl]; rfl
      rw [telS_dig _ _ _ hdl] at hr1 hr2
      have HR1 := Lib.hid hr1;have HR2 := Lib.hid hr2;have HD := Lib.hid hd
      rw [hl] at hlp
      have HLP := Lib.hid hlp;clear hd hl hdl hr1 hr2 hst hsn hlp
      go_wp2_with fail
      go_quiet (fail)
      go_wp2_with fail
      refine (adigit_any _ _).mono ?_
      rintro e w5 ⟨rfl, rfl⟩
      rw [HD.out]
      go_wp2_with fail
      refine (Tryz.strings_IndexByte _ _ _).mono ?_
      rintro e w6 ⟨rfl, rfl⟩
      have hlp := HLP.out
      go_wp2_with fail
      refine (writeByte_any w3.heap.size w3.heap.size _ _ _ (isB_kp HI.out ((Kp.refl [] wr).drewN nq) (by simp)) (by omega) (by simp; omega)).mono ?_
      rintro e w7 ⟨rfl, hb7, hk7⟩
      have Hb7 := Lib.hid (isB_of hb7 rfl)
      have hC7 : Cur b s j w7 := Blk.below (Blk.drewN HC4.out nq) hk7.below (by omega)
      have hK7 := (hK.drewN nq).kb hk7.below (by omega)
      have c1 := hC7.c1;have f1 := hC7.f1;have HC7 := Lib.hid hC7;clear hb7 hC7
      go_wp2_with fail
      have hK9 := (Kp.refl [b] w7).setCell (p := ⟨b, 1, none⟩) (.inl (by simp)) (.int .i64 ((j : Int) + 1))
      go_roundg (t - j)
      case measure => omega
      case rel => exact ⟨j + 1, acc ++ [s[j]], by omega, by omega, by omega, by have h := HC7.out.set (j + 1); rwa [Int.natCast_add] at h, isB_kp (by rw [← bd_byteCells]; exact Hb7.out) hK9 (by simp; omega), by simp; omega, by rw [List.append_assoc]; exact HR1.out, by have := HR2.out; omega, hK7.trans hK9⟩
    ·have hdl : (digitI s[j].toNat || (true && locC s[j].toNat)) = true := by rw [hd]; rfl
     rw [telS_dig _ _ _ hdl] at hr1 hr2
     have HR1 := Lib.hid hr1;have HR2 := Lib.hid hr2;have HD := Lib.hid hd;clear hd hdl hr1 hr2 hst hsn hlp
     go_wp2_with fail
     go_quiet (fail)
     go_wp2_with fail
     refine (adigit_any _ _).mono ?_
     rintro e w5 ⟨rfl, rfl⟩
     rw [HD.out]
     go_wp2_with fail
     refine (writeByte_any w3.heap.size w3.heap.size _ _ _ (isB_kp HI.out ((Kp.refl [] wr).drewN nq) (by simp)) (by omega) (by simp; omega)).mono ?_
     rintro e w7 ⟨rfl, hb7, hk7⟩
     have Hb7 := Lib.hid (isB_of hb7 rfl)
     have hC7 : Cur b s j w7 := Blk.below (Blk.drewN HC4.out nq) hk7.below (by omega)
     have hK7 := (hK.drewN nq).kb hk7.below (by omega)
     have c1 := hC7.c1;have f1 := hC7.f1;have HC7 := Lib.hid hC7;clear hb7 hC7
     go_wp2_with fail
     have hK9 := (Kp.refl [b] w7).setCell (p := ⟨b, 1, none⟩) (.inl (by simp)) (.int .i64 ((j : Int) + 1))
     go_roundg (t - j)
     case measure => omega
     case rel => exact ⟨j + 1, acc ++ [s[j]], by omega, by omega, by omega, by have h := HC7.out.set (j + 1); rwa [Int.natCast_add] at h, isB_kp (by rw [← bd_byteCells]; exact Hb7.out) hK9 (by simp; omega), by simp; omega, by rw [List.append_assoc]; exact HR1.out, by have := HR2.out; omega, hK7.trans hK9⟩
   ·have hjt' : j = t := by omega
    have hsl : slc s.data.toList j t = [] := slc_nil _ _ _ (by omega)
    rw [hsl] at hr1 hr2
    have hr1' : acc = r1 := by simpa [telS] using hr1
    have hr2' : j = k + r2 := by simpa [telS] using hr2
    have hV1 := HV.out.trans (by unfold telQ; rw [if_neg (by omega)])
    subst hr1'
    have HJT := Lib.hid hjt';clear hr1 hr2 hsl hr2' hjt'
    have hlb : (Lib.byteCells acc).length = acc.length := Lib.byteCells_length _
    have HLB := Lib.hid hlb
    have K4 := K3.to_ hK (by simp)
    have B4 := Lib.hid (B3.out.kp hK (by simp; omega))
    clear hlb
    by_cases he0 : acc = []
    ·have HV2 := Lib.hid (hV1.trans (by rw [if_pos he0]))
     have bl : ((Lib.byteCells acc).length : Int) = 0 := by rw [he0]; rfl
     have BL := Lib.hid bl;clear hV1 he0 bl
     go_wp2_with fail
     refine (Tryz.Builder_Len w3.heap.size w3.heap.size _ _ HI.out).mono ?_
     rintro e w5 ⟨rfl, hw5⟩
     obtain rfl := hw5.symm
     rw [BL.out]
     go_wp2_with fail
     refine (fail_k b j k 5 s _ HC4.out).mono ?_
     rintro e w6 ⟨rfl, C6, hK6⟩
     have HC6 := Lib.hid C6
     have HB6 := Lib.hid (B4.out.kp hK6 (by simp; omega))
     clear C6
     go_wp2_with fail
     go_ret
     rw [HV2.out]
     exact ⟨rfl, HC6.out, K4.to_ hK6 (by simp), [], HB6.out, fun h => by simp at h⟩
    ·have hpos : 1 ≤ acc.length := by cases acc with | nil => exact absurd rfl he0 | cons a b => simp
     have bz : ((acc.length : Int) == 0) = false := by rw [beq_eq_false_iff_ne]; omega
     by_cases h30 : 30 < acc.length
     ·have HV2 := Lib.hid (hV1.trans (by rw [if_neg he0, if_pos h30]))
      have b30 : (30 : Int) < (acc.length : Int) := by omega
      clear hV1 he0 h30
      go_wp2_with fail
      refine (Tryz.Builder_Len w3.heap.size w3.heap.size _ _ HI.out).mono ?_
      rintro e w5 ⟨rfl, hw5⟩
      obtain rfl := hw5.symm
      rw [HLB.out]
      go_wp2_with fail
      refine (Tryz.Builder_Len w3.heap.size w3.heap.size _ _ HI.out).mono ?_
      rintro e w5 ⟨rfl, hw5⟩
      obtain rfl := hw5.symm
      rw [HLB.out]
      go_wp2_with fail
      refine (fail_k b j k 4 s _ HC4.out).mono ?_
      rintro e w6 ⟨rfl, C6, hK6⟩
      have HC6 := Lib.hid C6
      have HB6 := Lib.hid (B4.out.kp hK6 (by simp; omega))
      clear C6
      go_wp2_with fail
      go_ret
      rw [HV2.out]
      exact ⟨rfl, HC6.out, K4.to_ hK6 (by simp), [], HB6.out, fun h => by simp at h⟩
     ·have HV2 := Lib.hid (hV1.trans (by rw [if_neg he0, if_neg h30]))
      have b30 : ¬ (30 : Int) < (acc.length : Int) := by omega
      have hb1 : (⟨acc.toArray⟩ : ByteArray).toList.length ≤ 30 := by rw [Lib.toList_data]; simp; omega
      clear hV1 he0 h30
      go_wp2_with fail
      refine (Tryz.Builder_Len w3.heap.size w3.heap.size _ _ HI.out).mono ?_
      rintro e w5 ⟨rfl, hw5⟩
      obtain rfl := hw5.symm
      rw [HLB.out]
      go_wp2_with fail
      refine (Tryz.Builder_Len w3.heap.size w3.heap.size _ _ HI.out).mono ?_
      rintro e w5 ⟨rfl, hw5⟩
      obtain rfl := hw5.symm
      rw [HLB.out]
      go_wp2_with fail
      refine (string_any w3.heap.size w3.heap.size acc _ HI.out (by omega)).mono ?_
      rintro e w6 ⟨rfl, hk6, _⟩
      have K6 := hK.kb hk6.below (Nat.le_refl _)
      have B6 := Lib.hid (B3.out.kp K6 (by simp; omega))
      have C6 := Lib.hid (show Cur b s j w6 from Blk.below HC4.out hk6.below (by omega))
      have u1 := B6.out.cell 1;have g1 := B6.out.frozen 1;have c0 := C6.out.c0
      go_wp2_with fail
      have hcat : (⟨#[]⟩ : ByteArray) ++ (⟨acc.toArray⟩ : ByteArray) = Txt ([] ++ acc) := cat_txt [] acc
      rw [hcat]
      go_ret
      rw [HV2.out]
      exact ⟨rfl, (by have h := C6.out; rw [HJT.out] at h; exact h.far (p := ⟨bu, 1, none⟩) hne _), (K3.to_ K6 (by simp)).setCell (p := ⟨bu, 1, none⟩) (.inl (by simp)) _, [] ++ acc, B6.out.set_ 1 (.string (Txt ([] ++ acc))), fun _ => rfl⟩
end Ad
end Go.Proofs.YtmmjfofdnpafkaaGreatDoor
