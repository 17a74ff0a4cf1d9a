/- Texts of one set of library modules: AdG, AdH. -/
import Derived.Test.YtbcaindpbeaheaaGreatDoorZ11
import Derived.Test.YtbcaindpbeaheaaGreatDoorZ2
import Derived.Deep.RegionHeld3
import Derived.StillTactics
import Derived.StillTailTactics
import Derived.Laws.Pointers
import Derived.Outline
namespace Go.Proofs.YtbcaindpbeaheaaGreatDoor
namespace Ad
open Go.RowKit Lx
theorem Cur.below {b k : Nat} {s : ByteArray} {w w' : World} (h : Cur b s k w) (hb : Below w.heap.size w w') : Cur b s k w' := Blk.below h hb h.lt
theorem Cur.drewN {b k : Nat} {s : ByteArray} {w : World} (h : Cur b s k w) (n : Nat) : Cur b s k (w.drewN n) := h
def CuP (b : Nat) (s : ByteArray) (k' : Nat) (v : Value) (w : World) (e : Ending) (w' : World) : Prop := e = .returned v ∧ Cur b s k' w' ∧ Kp [b] w w'
def nxt (l : List UInt8) (k : Nat) : Int := if k < l.length then atB l k else 0
theorem atB_get (s : ByteArray) (k : Nat) (h : k < s.size) : atB s.data.toList k = s[k].toNat := by
 unfold atB
 rw [List.getElem?_eq_getElem (by simpa using h)]
 rfl
theorem nxt_lt (s : ByteArray) (k : Nat) (h : k < s.size) : nxt s.data.toList k = s[k].toNat := by
 unfold nxt; rw [if_pos (by rw [len_list]; exact h), atB_get s k h]
theorem nxt_ge (s : ByteArray) (k : Nat) (h : ¬ k < s.size) : nxt s.data.toList k = 0 := by
 unfold nxt; rw [if_neg (by rw [len_list]; exact h)]
theorem nxt_eq (l : List UInt8) (k : Nat) (m : Int) (h0 : m ≠ 0) (h1 : m ≠ -1) : (nxt l k == m) = (atB l k == m) := by
 unfold nxt
 split
 ·rfl
 ·rename_i h
  rw [atB_end l k (by omega), show (0 == m) = false from beq_eq_false_iff_ne.2 (fun e => h0 e.symm), show (-1 == m) = false from beq_eq_false_iff_ne.2 (fun e => h1 e.symm)]
theorem nxt_bd (l : List UInt8) (k : Nat) : 0 ≤ nxt l k ∧ nxt l k < 256 := by
 unfold nxt
 split
 ·rename_i h
  unfold atB
  rw [List.getElem?_eq_getElem h]
  have := (l[k]).toNat_lt
  dsimp only; omega
 ·omega
set_option maxRecDepth 100000 in
set_option maxHeartbeats 400000 in
theorem next_c (b k : Nat) (s : ByteArray) (w : World) (hs : s.size ≤ 2097152) (hk : k ≤ s.size) (C : Cur b s k w) :
   Calls Tryz.prog 127 #[.pointer (some ⟨b, 0, none⟩)] w fun e w' => e = .returned (.int .u8 (nxt s.data.toList k)) ∧ ∃ n, w' = w.drewN n := by
 have c0 := C.c0;have c1 := C.c1
 by_cases h : k < s.size
 ·have HN := Lib.hid (nxt_lt s k h)
  go_enter Tryz.func127, Tryz.ntmps127
  go_wp2_with fail
  go_quiet (fail)
  go_wp2_with fail
  go_quiet (fail)
  go_wp2_with fail
  go_ret
  exact ⟨ret_int (by rw [HN.out]), _, World.drewN_drewN _ _ _⟩
 ·have HN := Lib.hid (nxt_ge s k h)
  go_enter Tryz.func127, Tryz.ntmps127
  go_wp2_with fail
  go_quiet (fail)
  go_wp2_with fail
  go_ret
  exact ⟨ret_int (by rw [HN.out]), _, rfl⟩
theorem next_k (b k : Nat) (s : ByteArray) (w : World) (hs : s.size ≤ 2097152) (hk : k ≤ s.size) (C : Cur b s k w) :
   Calls Tryz.prog 127 #[.pointer (some ⟨b, 0, none⟩)] w (CuP b s k (.int .u8 (nxt s.data.toList k)) w) :=
 (next_c b k s w hs hk C).mono fun _ _ ⟨he, n, hw⟩ => by subst hw; exact ⟨he, C, (Kp.refl _ w).drewN n⟩
set_option maxRecDepth 100000 in
set_option maxHeartbeats 400000 in
theorem fail_k (b k j : Nat) (x : Int) (s : ByteArray) (w : World) (C : Cur b s k w) :
   Calls Tryz.prog 121 #[.pointer (some ⟨b, 0, none⟩), .int .i64 j, .int .u8 x] w (CuP b s j (.int .u8 x) w) := by
 have c1 := C.c1;have f1 := C.f1;have HC := Lib.hid C
 go_enter Tryz.func121, Tryz.ntmps121
 go_wp2_with fail
 go_ret
 exact ⟨rfl, HC.out.set j, (Kp.refl _ w).setCell (p := ⟨b, 1, none⟩) (.inl (by simp)) _⟩
set_option maxRecDepth 100000 in
set_option maxHeartbeats 400000 in
theorem take_yes (b k : Nat) (m : Int) (s : ByteArray) (w : World) (hs : s.size ≤ 2097152) (hk : k < s.size) (C : Cur b s k w) (h : (nxt s.data.toList k == m) = true) :
   Calls Tryz.prog 119 #[.pointer (some ⟨b, 0, none⟩), .int .u8 m] w (CuP b s (k + 1) (.bool true) w) := by
 have ht : (nxt s.data.toList k != m) = false := by rw [bne, h]; rfl
 have HT := Lib.hid ht;clear h ht
 go_enter Tryz.func119, Tryz.ntmps119
 go_wp2_with fail
 refine (next_k b k s _ hs (by omega) C).mono ?_
 rintro e w1 ⟨rfl, C1, hK⟩
 have ht := HT.out;have c1 := C1.c1;have f1 := C1.f1;have HC := Lib.hid C1
 go_wp2_with fail
 go_ret
 exact ⟨rfl, by have := HC.out.set (k + 1); rwa [Int.natCast_add] at this, hK.setCell (p := ⟨b, 1, none⟩) (.inl (by simp)) _⟩
set_option maxRecDepth 100000 in
set_option maxHeartbeats 400000 in
theorem take_no (b k : Nat) (m : Int) (s : ByteArray) (w : World) (hs : s.size ≤ 2097152) (hk : k ≤ s.size) (C : Cur b s k w) (h : (nxt s.data.toList k == m) = false) :
   Calls Tryz.prog 119 #[.pointer (some ⟨b, 0, none⟩), .int .u8 m] w (CuP b s k (.bool false) w) := by
 have ht : (nxt s.data.toList k != m) = true := by rw [bne, h]; rfl
 have HT := Lib.hid ht;clear h ht
 go_enter Tryz.func119, Tryz.ntmps119
 go_wp2_with fail
 refine (next_k b k s _ hs hk C).mono ?_
 rintro e w1 ⟨rfl, C1, hK⟩
 have ht := HT.out
 go_wp2_with fail
 go_ret
 exact ⟨rfl, C1, hK⟩
theorem blkE_bhd (s : ByteArray) (k : Nat) (hk : k ≤ s.size) : bhd blankI s (min (k : Int).toNat s.size) = blkE s.data.toList k := by
 rw [Int.toNat_natCast, Nat.min_eq_left hk]; rfl
set_option maxRecDepth 100000 in
set_option maxHeartbeats 400000 in
theorem blanks_k (b k : Nat) (s : ByteArray) (w : World) (hs : s.size ≤ 2097152) (hk : k ≤ s.size) (C : Cur b s k w) :
   Calls Tryz.prog 118 #[.pointer (some ⟨b, 0, none⟩)] w (CuP b s (blkE s.data.toList k) (.tuple #[]) w) := by
 have c0 := C.c0;have c1 := C.c1;have f1 := C.f1;have HC := Lib.hid C;have HB := Lib.hid (blkE_bhd s k hk)
 go_enter Tryz.func118, Tryz.ntmps118
 go_wp2_with fail
 go_still_tail 12, (by kernel_rfl)
 refine wpStill_step (fun K hK => ?_)
 go_simp
 refine ⟨_, (Lx.blanks_any s k _ (by unfold maxLen; omega)).mono (fun _ _ h => ⟨h.1, h.2.symm⟩), hK _ ?_⟩
 clear hK K
 rw [HB.out]
 repeat still_step
 refine wpStill_nil ?_
 go_wp2_with fail
 refine bodyPost_ret (results_none rfl _ _ _) rfl ?_
 exact ⟨rfl, HC.out.set _, ((Kp.refl _ w).drew).setCell (p := ⟨b, 1, none⟩) (.inl (by simp)) _⟩
theorem tokE_bd (s : ByteArray) (k : Nat) (hk : k ≤ s.size) : k ≤ tokE s.data.toList k ∧ tokE s.data.toList k ≤ s.size := by
 unfold tokE
 have := runL_le tokI (s.data.toList.drop k)
 rw [List.length_drop, len_list] at this; omega
theorem tokE_bhd (s : ByteArray) (k : Nat) (hk : k ≤ s.size) : bhd tokI s (min (k : Int).toNat s.size) = tokE s.data.toList k := by
 rw [Int.toNat_natCast, Nat.min_eq_left hk]; rfl
theorem blkE_bd (s : ByteArray) (k : Nat) (hk : k ≤ s.size) : k ≤ blkE s.data.toList k ∧ blkE s.data.toList k ≤ s.size := by
 unfold blkE
 have := runL_le blankI (s.data.toList.drop k)
 rw [List.length_drop, len_list] at this; omega
theorem slc_txt (s : ByteArray) (a b : Nat) : s.extract a b = Txt (slc s.data.toList a b) := by rw [← txt_self (s.extract a b), slc_data]
set_option maxRecDepth 100000 in
set_option maxHeartbeats 400000 in
theorem token_k (b k : Nat) (s : ByteArray) (w : World) (hs : s.size ≤ 2097152) (hk : k ≤ s.size) (C : Cur b s k w) :
   Calls Tryz.prog 164 #[.pointer (some ⟨b, 0, none⟩)] w (CuP b s (tokE s.data.toList k) (.string (Txt (slc s.data.toList k (tokE s.data.toList k)))) w) := by
 have c0 := C.c0;have c1 := C.c1;have f1 := C.f1;have HC := Lib.hid C;have HB := Lib.hid (tokE_bhd s k hk)
 obtain ⟨t1, t2⟩ := tokE_bd s k hk
 obtain ⟨n, hn⟩ : ∃ n, tokE s.data.toList k = n := ⟨_, rfl⟩
 have HN := Lib.hid hn;have HX := Lib.hid (slc_txt s k n)
 rw [hn] at t1 t2 ⊢
 clear hn
 go_enter Tryz.func164, Tryz.ntmps164
 go_wp2_with fail
 refine (Lx.tokenEnd_any s k _ (by unfold maxLen; omega)).mono ?_
 rintro e w1 ⟨rfl, rfl⟩
 rw [HB.out, HN.out]
 have HC2 := Lib.hid (HC.out.set n)
 have HK2 := Lib.hid ((Kp.refl [b] w).setCell (p := ⟨b, 1, none⟩) (.inl (by simp)) (.int .i64 n))
 go_wp2_with fail
 obtain ⟨w2, hw2⟩ : ∃ w2, w.setCell ⟨b, 1, none⟩ (.int .i64 n) = w2 := ⟨_, rfl⟩
 rw [hw2]
 have C2 : Cur b s n w2 := by rw [← hw2]; exact HC2.out
 have K2 : Kp [b] w w2 := by rw [← hw2]; exact HK2.out
 clear hw2 c0 c1 f1;have c0 := C2.c0;have c1 := C2.c1;have H2 := Lib.hid C2;clear C2
 go_quiet (fail)
 go_wp2_with fail
 go_ret
 exact ⟨ret_s HX.out, H2.out, K2.drewN _⟩
def CuW (b : Nat) (s : ByteArray) (k' : Nat) (t : List UInt8) (x : Int) (w : World) (e : Ending) (w' : World) : Prop := e = .returned (.tuple #[.string (Txt t), .int .u8 x]) ∧ Cur b s k' w' ∧ Kp [b] w w'
set_option maxRecDepth 100000 in
set_option maxHeartbeats 1000000 in
theorem word_bad (cls : Int) (b k t : Nat) (s : ByteArray) (w : World) (hs : s.size ≤ 2097152) (hk : k ≤ t) (ht : t ≤ s.size) (C : Cur b s k w) (E : Env w) (h : (wrdR cls (slc s.data.toList k t)).2 < t - k) :
   Calls Tryz.prog 253 #[.pointer (some ⟨b, 0, none⟩), .int .i64 t, .int .i64 cls] w (CuW b s (k + (wrdR cls (slc s.data.toList k t)).2) [] 5 w) := by
 have c0 := C.c0;have c1 := C.c1;have f1 := C.f1;have HC := Lib.hid C
 obtain ⟨n, hn⟩ : ∃ n, k + (wrdR cls (slc s.data.toList k t)).2 = n := ⟨_, rfl⟩
 have HN := Lib.hid hn
 have hnt : n < t := by omega
 rw [hn]
 clear hn h;have HC2 := Lib.hid (HC.out.set n)
 have HK2 := Lib.hid ((Kp.refl [b] w).setCell (p := ⟨b, 1, none⟩) (.inl (by simp)) (.int .i64 n))
 go_enter Tryz.func253, Tryz.ntmps253
 go_wp2_with fail
 refine (stray_any cls s k t _ (by omega) hk ht E).mono ?_
 rintro e w1 ⟨rfl, rfl⟩
 rw [HN.out]
 go_wp2_with fail
 go_ret2
 exact ⟨rfl, HC2.out, HK2.out⟩
set_option maxRecDepth 100000 in
set_option maxHeartbeats 1000000 in
theorem word_ok (cls : Int) (b k t : Nat) (s : ByteArray) (w : World) (hs : s.size ≤ 2097152) (hk : k ≤ t) (ht : t ≤ s.size) (C : Cur b s k w) (E : Env w) (h : ¬ (wrdR cls (slc s.data.toList k t)).2 < t - k) :
   Calls Tryz.prog 253 #[.pointer (some ⟨b, 0, none⟩), .int .i64 t, .int .i64 cls] w (CuW b s t (wrdR cls (slc s.data.toList k t)).1 0 w) := by
 have c0 := C.c0;have c1 := C.c1;have f1 := C.f1;have HC := Lib.hid C;have hle := wrd_le cls (slc s.data.toList k t)
 have hsl := slc_len s.data.toList k t (by rw [len_list]; exact ht)
 have hn : k + (wrdR cls (slc s.data.toList k t)).2 = t := by omega
 have hfull : (wrdR cls (slc s.data.toList k t)).2 = (slc s.data.toList k t).length := by omega
 obtain ⟨x, hx⟩ : ∃ x, s.extract k t = x := ⟨_, rfl⟩
 have hxs : x.size ≤ 17592186044416 := by rw [← hx]; simp; omega
 have hune : unT x.data.toList = (wrdR cls (slc s.data.toList k t)).1 := by
  rw [← hx, slc_data]
  have := wrd_une cls _ _ (Nat.le_refl _) hfull
  unfold unT; rw [this, if_pos hfull]
 have HN := Lib.hid hn;have HX := Lib.hid hx;have HU := Lib.hid hune;clear hn h hle hsl hfull hx hune;have HC2 := Lib.hid (HC.out.set t)
 have HK2 := Lib.hid ((Kp.refl [b] w).setCell (p := ⟨b, 1, none⟩) (.inl (by simp)) (.int .i64 t))
 go_enter Tryz.func253, Tryz.ntmps253
 go_wp2_with fail
 refine (stray_any cls s k t _ (by omega) hk ht E).mono ?_
 rintro e w1 ⟨rfl, rfl⟩
 rw [HN.out]
 go_wp2_with fail
 rw [HX.out]
 refine (Unescape_any x _ hxs).mono ?_
 rintro e w2 ⟨rfl, hB⟩
 rw [HU.out]
 go_wp2_with fail
 go_ret2
 exact ⟨rfl, HC2.out.below hB, HK2.out.below hB⟩
end Ad
end Go.Proofs.YtbcaindpbeaheaaGreatDoor
namespace Go.Proofs.YtbcaindpbeaheaaGreatDoor
namespace Ad
open Go.RowKit Lx
theorem memB_fun (l : List UInt8) (p : Int → Bool) (h : ∀ c, (l.any fun b => (b.toNat : Int) == c) = p c) : memB l = p := funext h
theorem comm_beq (a b : Int) : (a == b) = (b == a) := by rw [Bool.eq_iff_iff, beq_iff_eq, beq_iff_eq]; exact ⟨Eq.symm, Eq.symm⟩
theorem m93 : memB (⟨#[93]⟩ : ByteArray).data.toList = (· == 93) := memB_fun _ _ fun c => by show ((93 : Int) == c || false) = _; rw [Bool.or_false, comm_beq]
theorem m58 : memB (⟨#[58]⟩ : ByteArray).data.toList = (· == 58) := memB_fun _ _ fun c => by show ((58 : Int) == c || false) = _; rw [Bool.or_false, comm_beq]
theorem m64 : memB (⟨#[64]⟩ : ByteArray).data.toList = (· == 64) := memB_fun _ _ fun c => by show ((64 : Int) == c || false) = _; rw [Bool.or_false, comm_beq]
theorem m61 : memB (⟨#[61]⟩ : ByteArray).data.toList = (· == 61) := memB_fun _ _ fun c => by show ((61 : Int) == c || false) = _; rw [Bool.or_false, comm_beq]
theorem m59 : memB (⟨#[59]⟩ : ByteArray).data.toList = (· == 59) := memB_fun _ _ fun c => by show ((59 : Int) == c || false) = _; rw [Bool.or_false, comm_beq]
theorem m38 : memB (⟨#[38]⟩ : ByteArray).data.toList = (· == 38) := memB_fun _ _ fun c => by show ((38 : Int) == c || false) = _; rw [Bool.or_false, comm_beq]
theorem m60 : memB (⟨#[60]⟩ : ByteArray).data.toList = (· == 60) := memB_fun _ _ fun c => by show ((60 : Int) == c || false) = _; rw [Bool.or_false, comm_beq]
theorem m62 : memB (⟨#[62]⟩ : ByteArray).data.toList = (· == 62) := memB_fun _ _ fun c => by show ((62 : Int) == c || false) = _; rw [Bool.or_false, comm_beq]
theorem mSemq : memB (⟨#[59, 63]⟩ : ByteArray).data.toList = semq := memB_fun _ _ fun c => by show ((59 : Int) == c || ((63 : Int) == c || false)) = _; unfold semq; rw [Bool.or_false, comm_beq 59, comm_beq 63]
theorem mHend : memB (⟨#[58, 59, 63]⟩ : ByteArray).data.toList = hendC := memB_fun _ _ fun c => by show ((58 : Int) == c || ((59 : Int) == c || ((63 : Int) == c || false))) = _; unfold hendC; rw [Bool.or_false, comm_beq 58, comm_beq 59, comm_beq 63]
theorem mBare : memB (⟨#[59, 32, 9]⟩ : ByteArray).data.toList = bareC := memB_fun _ _ fun c => by show ((59 : Int) == c || ((32 : Int) == c || ((9 : Int) == c || false))) = _; unfold bareC; rw [Bool.or_false, comm_beq 59, comm_beq 32, comm_beq 9]
theorem mQue : memB (⟨#[63, 44]⟩ : ByteArray).data.toList = queC := memB_fun _ _ fun c => by show ((63 : Int) == c || ((44 : Int) == c || false)) = _; unfold queC; rw [Bool.or_false, comm_beq 63, comm_beq 44]
theorem mHead : memB (⟨#[63, 38]⟩ : ByteArray).data.toList = headC := memB_fun _ _ fun c => by show ((63 : Int) == c || ((38 : Int) == c || false)) = _; unfold headC; rw [Bool.or_false, comm_beq 63, comm_beq 38]
theorem w64 (n : Nat) (h : n ≤ 4194304) : wrap64 ((n : Int) + 1) = (n : Int) + 1 := by unfold wrap64; omega
theorem end_q (p : Int → Bool) (s ends : ByteArray) (k : Nat) (w : World) (hs : s.size ≤ 2097152) (hk : k ≤ s.size) (hp : memB ends.data.toList = p) :
   Calls Tryz.prog 126 #[.string s, .int .i64 k, .string ends] w fun e w' => e = .returned (.int .i64 (endP p s.data.toList k : Nat)) ∧ w' = w :=
 (end_any s ends k w (by omega) hk).mono fun _ _ h => by rw [hp] at h; exact ⟨h.1, h.2.symm⟩
theorem end_m (p : Int → Bool) (s ends : ByteArray) (k : Nat) (w : World) (hs : s.size ≤ 2097152) (hk : k ≤ s.size) (hp : memB ends.data.toList = p) :
   Calls Tryz.prog 126 #[.string s, .int .i64 k, .string ends] w (Ret (.int .i64 (endP p s.data.toList k : Nat)) w) :=
 (end_any s ends k w (by omega) hk).mono fun _ _ h => by rw [hp] at h; exact h
theorem op34 (l : List UInt8) (k : Nat) (h : atB l k = 34) : opE 34 l k = 0 := by
 have hk := atB_lt l k (by rw [h]; decide)
 unfold opE
 rw [if_neg (by omega), Int.toNat_natCast, List.drop_eq_getElem_cons hk]
 dsimp only
 unfold atB at h
 rw [List.getElem?_eq_getElem hk] at h
 dsimp only at h
 rw [if_pos h]
theorem uq34 (l : List UInt8) (k : Nat) (h : atB l k = 34) : uqN l k = ((uqR l k).1 : Nat) ∧ uqE l k = (uqR l k).2 := by
 have := op34 l k h
 unfold uqN uqE
 rw [if_neg (by rw [this]; simp), if_neg (by rw [this]; simp)]
 exact ⟨rfl, rfl⟩
set_option maxRecDepth 100000 in
set_option maxHeartbeats 2000000 in
theorem value_k (b k : Nat) (s : ByteArray) (w : World) (hs : s.size ≤ 2097152) (hk : k ≤ s.size) (C : Cur b s k w) (E : Env w) (hb7 : 7 ≤ b) :
   Calls Tryz.prog 165 #[.pointer (some ⟨b, 0, none⟩)] w (CuW b s (valR s.data.toList k).2.1 (valR s.data.toList k).1 (valR s.data.toList k).2.2 w) := by
 have hb := nxt_bd s.data.toList k;have HE := Lib.hid E
 by_cases h34 : atB s.data.toList k = 34
 ·have HV := Lib.hid (by unfold valR; rw [if_pos h34] : valR s.data.toList k = (uqT s.data.toList k, (uqN s.data.toList k).toNat, uqE s.data.toList k))
  have hn := (uq34 _ _ h34).1
  obtain ⟨n, hn'⟩ : ∃ n, (uqR s.data.toList k).1 = n := ⟨_, rfl⟩
  rw [hn'] at hn
  have HN := Lib.hid hn
  have t34 : (nxt s.data.toList k == 34) = true := by rw [nxt_eq _ _ _ (by decide) (by decide), h34]; rfl
  have T34 := Lib.hid t34;clear h34 hn hn' t34 E
  go_enter Tryz.func165, Tryz.ntmps165
  go_wp2_with fail
  refine (next_k b k s _ hs hk C).mono ?_
  rintro e w1 ⟨rfl, C1, hK1⟩
  have t34 := T34.out;have c0 := C1.c0;have c1 := C1.c1;have HC1 := Lib.hid C1;clear C1 C
  go_wp2_with fail
  go_region_held3 (fun w' => w'.cell? ⟨b, 0, none⟩ = some (.string s) ∧ w'.cell? ⟨b, 1, none⟩ = some (.int .i64 k)) (go_keep)
   ((go_at_call 166; refine (Lx.unquote_any s k _ (by omega)).mono ?_; rintro e w2 ⟨rfl, hB⟩; have C2 : Cur b s k w2 := Cur.below (Cur.drewN HC1.out _) hB; have d0 := C2.c0; have d1 := C2.c1))
  have K2 : Kp [b] w w2 := Kp.below (Kp.drewN hK1 _) hB
  have c1' := C2.c1;have f1' := C2.f1;have HC2 := Lib.hid C2;clear C2 d0 d1 c0 c1
  rw [HN.out]
  go_wp2_with fail
  go_ret2
  rw [HV.out]
  exact ⟨rfl, by rw [HN.out]; exact HC2.out.set n, K2.setCell (p := ⟨b, 1, none⟩) (.inl (by simp)) _⟩
 ·have t34 : (nxt s.data.toList k == 34) = false := by rw [nxt_eq _ _ _ (by decide) (by decide)]; exact beq_eq_false_iff_ne.2 h34
  have T34 := Lib.hid t34
  by_cases h91 : atB s.data.toList k = 91
  ·have t91 : (nxt s.data.toList k == 91) = true := by rw [nxt_eq _ _ _ (by decide) (by decide), h91]; rfl
   have T91 := Lib.hid t91
   obtain ⟨n, hn⟩ : ∃ n, endP (· == 93) s.data.toList k = n := ⟨_, rfl⟩
   have HN := Lib.hid hn
   have hnk : k ≤ n := by rw [← hn]; exact endP_ge _ _ _
   have hns : n ≤ s.size := by rw [← hn, ← len_list]; exact endP_le _ _ _ (by rw [len_list]; exact hk)
   obtain ⟨m, hm⟩ : ∃ m, min (n + 1) s.size = m := ⟨_, rfl⟩
   have HX := Lib.hid (slc_txt s k m)
   have HV : Hid (valR s.data.toList k = match hostO (slc s.data.toList k m) with | some h => (h, m, 0) | none => ([], k, 5)) := by
    have : valR s.data.toList k = match hostO (slc s.data.toList k m) with | some h => (h, m, 0) | none => ([], k, 5) := by
     unfold valR; rw [if_neg h34, if_pos h91, hn, len_list, hm]; rfl
    exact this
   have hkm : k ≤ m := by have := atB_lt s.data.toList k (by rw [h91]; decide); rw [len_list] at this; omega
   have hms : m ≤ s.size := by omega
   have HM := Lib.hid (by omega : min ((n : Int) + 1) (s.size : Int) = (m : Int))
   clear h34 h91 t34 t91 hn E hm
   go_enter Tryz.func165, Tryz.ntmps165
   go_wp2_with fail
   refine (next_k b k s _ hs hk C).mono ?_
   rintro e w1 ⟨rfl, C1, hK1⟩
   have t34 := T34.out;have t91 := T91.out;have c0 := C1.c0;have c1 := C1.c1;have HC1 := Lib.hid C1;clear C1 C
   go_wp2_with fail
   go_quiet ((go_at_call 126; exact Calls.quiet_of_same (end_q (· == 93) s ⟨#[93]⟩ k _ hs hk m93)))
   rw [HN.out, w64 n (by omega), HM.out]
   obtain ⟨w2, hw2⟩ : ∃ w2, w1.drewN nq = w2 := ⟨_, rfl⟩
   rw [hw2]
   have C2 : Cur b s k w2 := by rw [← hw2]; exact HC1.out
   have K2 : Kp [b] w w2 := by rw [← hw2]; exact hK1.drewN _
   have E2 : Env w2 := HE.out.kp K2 (by intro x hx; simp at hx; omega)
   clear hw2 c0 c1;have c0 := C2.c0;have c1 := C2.c1;have H2 := Lib.hid C2;clear C2
   go_wp2_with fail
   go_region_held3 (fun w' => w'.cell? ⟨b, 0, none⟩ = some (.string s) ∧ w'.cell? ⟨b, 1, none⟩ = some (.int .i64 k)) (go_keep)
    ((go_at_call 50; rw [HX.out]; refine (Host_any (Txt (slc s.data.toList k m)) _ (by rw [txt_size]; have := slc_le s.data.toList k m; omega) (Env.drewN E2 _)).mono ?_; rintro e w3 ⟨rfl, hB⟩; have C3 : Cur b s k w3 := Cur.below (Cur.drewN H2.out _) hB; have d0 := C3.c0; have d1 := C3.c1))
   have K3 : Kp [b] w w3 := Kp.below (Kp.drewN K2 _) hB
   rw [txt_list]
   have c1' := C3.c1;have f1' := C3.f1;have HC3 := Lib.hid C3;clear C3 d0 d1 c0 c1
   cases ho : hostO (slc s.data.toList k m) with
   | none =>
     have HR := Lib.hid (HV.out.trans (by rw [ho]))
     clear ho
     go_wp2_with fail
     go_ret2
     rw [HR.out]
     exact ⟨rfl, HC3.out, K3⟩
   | some h =>
     have HR := Lib.hid (HV.out.trans (by rw [ho]))
     clear ho
     go_wp2_with fail
     go_ret2
     rw [HR.out]
     exact ⟨rfl, HC3.out.set m, K3.setCell (p := ⟨b, 1, none⟩) (.inl (by simp)) _⟩
  ·have t91 : (nxt s.data.toList k == 91) = false := by rw [nxt_eq _ _ _ (by decide) (by decide)]; exact beq_eq_false_iff_ne.2 h91
   have T91 := Lib.hid t91
   obtain ⟨n, hn⟩ : ∃ n, tokE s.data.toList k = n := ⟨_, rfl⟩
   have HN := Lib.hid hn
   obtain ⟨n1, n2⟩ := tokE_bd s k hk
   rw [hn] at n1 n2
   by_cases hz : n = k
   ·have HV := Lib.hid (by unfold valR; rw [if_neg h34, if_neg h91, hn, if_pos hz] : valR s.data.toList k = ([], k, 5))
    have hemp : Txt (slc s.data.toList k n) = ⟨#[]⟩ := by rw [slc_nil _ _ _ (by omega)]; rfl
    have HP := Lib.hid hemp;have HZ := Lib.hid hz;clear h34 h91 t34 t91 hn E hz hemp
    go_enter Tryz.func165, Tryz.ntmps165
    go_wp2_with fail
    refine (next_k b k s _ hs hk C).mono ?_
    rintro e w1 ⟨rfl, C1, hK1⟩
    have t34 := T34.out;have t91 := T91.out
    go_wp2_with fail
    refine (token_k b k s _ hs hk C1).mono ?_
    rintro e w2 ⟨rfl, C2, hK2⟩
    rw [HN.out, HP.out]
    rw [HN.out] at C2
    have HC2 := Lib.hid C2;clear C2 C1 C
    go_wp2_with fail
    go_ret2
    rw [HV.out]
    exact ⟨rfl, by have := HC2.out; rwa [HZ.out] at this, hK1.trans hK2⟩
   ·have HV := Lib.hid (by unfold valR; rw [if_neg h34, if_neg h91, hn, if_neg hz] : valR s.data.toList k = (slc s.data.toList k n, n, 0))
    have hxl : 1 ≤ (Txt (slc s.data.toList k n)).size := by rw [txt_size, slc_len _ _ _ (by rw [len_list]; exact n2)]; omega
    have he := isEmpty_no _ hxl;have hne := toList_ne _ hxl;clear h34 h91 t34 t91 hn E hz
    go_enter Tryz.func165, Tryz.ntmps165
    go_wp2_with fail
    refine (next_k b k s _ hs hk C).mono ?_
    rintro e w1 ⟨rfl, C1, hK1⟩
    have t34 := T34.out;have t91 := T91.out
    go_wp2_with fail
    refine (token_k b k s _ hs hk C1).mono ?_
    rintro e w2 ⟨rfl, C2, hK2⟩
    rw [HN.out]
    rw [HN.out] at C2
    have HC2 := Lib.hid C2;clear C2 C1 C
    go_wp2_with fail
    go_ret2
    rw [HV.out]
    exact ⟨rfl, HC2.out, hK1.trans hK2⟩
end Ad
end Go.Proofs.YtbcaindpbeaheaaGreatDoor
