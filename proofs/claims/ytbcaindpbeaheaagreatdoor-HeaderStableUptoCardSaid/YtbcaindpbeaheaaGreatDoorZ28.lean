/- Texts of one set of library modules: HeD. -/
import Derived.Test.YtbcaindpbeaheaaGreatDoorZ23
import Derived.Test.YtbcaindpbeaheaaGreatDoorZ26
import Derived.Test.YtbcaindpbeaheaaGreatDoorZ27
import Derived.Test.YtbcaindpbeaheaaGreatDoorZ16
import Derived.Test.YtbcaindpbeaheaaGreatDoorZ19
import Derived.Lib.IndexAny
namespace Go.Proofs.YtbcaindpbeaheaaGreatDoor
namespace Ad
open Go.RowKit Lx
def trS (l : List UInt8) : List UInt8 := Lib.trimS l blk
theorem rd_len (p : UInt8 → Bool) (l : List UInt8) : (rd p l).length ≤ l.length := by
 unfold rd
 have := (List.dropWhile_suffix (l := l.reverse) p).length_le
 simpa using this
theorem trS_len (l : List UInt8) : (trS l).length ≤ l.length := by
 unfold trS
 rw [trimS_eq]
 have h1 := rd_len bb (l.dropWhile bb)
 have h2 := (List.dropWhile_suffix (l := l) bb).length_le
 omega
set_option maxRecDepth 100000 in
set_option maxHeartbeats 1000000 in
theorem trimmed_big (s : ByteArray) (w : World) (hs : s.size ≤ 4194304) :
   Calls Tryz.prog 34 #[.string s] w (TxK (trS s.data.toList) w) := by
 have HT := Lib.hid (fun wz => trim_set s wz (by omega))
 go_enter Tryz.func34, Tryz.ntmps34
 go_wp2_with fail
 refine (HT.out _).mono ?_
 rintro e w1 ⟨rfl, hB⟩
 have K1 := Lib.hid ((Kp.refl [] w).below hB)
 clear hB
 go_wp2_with fail
 go_ret
 exact ⟨rfl, K1.out⟩
theorem trimmed_any (s : ByteArray) (w : World) (hs : s.size ≤ 2097152) :
   Calls Tryz.prog 34 #[.string s] w (TxK (trS s.data.toList) w) := trimmed_big s w (by omega)
theorem mem_contains (ch : List UInt8) (b : UInt8) : ch.contains b = memB ch b.toNat := by
 unfold memB
 rw [List.contains_eq_any_beq]
 congr 1
 funext c
 rw [Bool.eq_iff_iff]
 simp only [beq_iff_eq]
 constructor
 ·intro h; rw [h]
 ·intro h
  exact (UInt8.toNat_inj.1 (by omega)).symm
theorem indexAny_endP (ch : List UInt8) : ∀ l : List UInt8, Lib.indexAny l ch = if endP (memB ch) l 0 < l.length then (endP (memB ch) l 0 : Int) else -1 := by
 intro l
 unfold endP
 rw [List.drop_zero, Nat.zero_add]
 induction l with
 | nil => rfl
 | cons b t ih =>
   have hr : runL (fun c => !memB ch c) (b :: t) = if memB ch b.toNat then 0 else runL (fun c => !memB ch c) t + 1 := by
    rw [runL]; cases memB ch b.toNat <;> rfl
   rw [hr, Lib.indexAny, mem_contains, List.length_cons]
   cases hb : memB ch b.toNat
   ·simp only [Bool.false_eq_true, if_false]
    rw [ih]
    clear ih hr hb
    generalize runL (fun c => !memB ch c) t = n
    by_cases h : n < t.length
    ·have e : ((n : Int) == -1) = false := by rw [beq_eq_false_iff_ne]; omega
     simp [h, e]
    ·simp [h]
   ·simp
theorem zero_ascii : ∀ w, (zeroValue 149).run Tryz.prog w = .ok (.agg (Array.replicate 256 (.bool false))) w :=
 (zero_of_info (P := Tryz.prog) (t := 149) (n := 256) (by kernel_rfl)).1
theorem indexAny_any (s ends : ByteArray) (w : World) (hs : s.size ≤ 4194304) (he : ends.size ≤ 100) (h2 : 2 ≤ ends.size) (hac : ∀ (j : Nat) b, ends.data.toList[j]? = some b → b.toNat < 128) :
   Calls Tryz.prog 67 #[.string s, .string ends] w (InK (Lib.indexAny s.data.toList ends.data.toList) w) := by
 by_cases h8 : 8 < s.size
 ·refine (Tryz.strings_IndexAny_long zero_ascii s ends w h2 h8 (by omega) (by omega) hac).mono ?_
  rintro e w' ⟨rfl, rfl⟩
  exact ⟨rfl, ((Kp.refl [] w).alloc _).alloc _⟩
 ·exact index_short s ends w (by omega) h2 he hac
def Tx2 (a b : List UInt8) (w : World) (e : Ending) (w' : World) : Prop := e = .returned (.tuple #[.string (Txt a), .string (Txt b)]) ∧ Kp [] w w'
set_option maxRecDepth 100000 in
set_option maxHeartbeats 2000000 in
theorem cutBefore_big (p : Int → Bool) (s ends : ByteArray) (w : World) (hs : s.size ≤ 4194304) (he : ends.size ≤ 100) (h2 : 2 ≤ ends.size) (hac : ∀ (j : Nat) b, ends.data.toList[j]? = some b → b.toNat < 128) (hp : ∀ c : Int, memB ends.data.toList c = p c) :
   Calls Tryz.prog 35 #[.string s, .string ends] w (Tx2 (s.data.toList.take (endP p s.data.toList 0)) (s.data.toList.drop (endP p s.data.toList 0)) w) := by
 have hfun : memB ends.data.toList = p := funext hp
 obtain ⟨k, hk⟩ : ∃ k, endP p s.data.toList 0 = k := ⟨_, rfl⟩
 have lk : k ≤ s.size := by rw [← hk, ← len_list]; exact endP_le _ _ _ (Nat.zero_le _)
 have HI := Lib.hid (fun wz => (by have h := indexAny_any s ends wz hs he h2 hac; rw [indexAny_endP, hfun, hk, len_list] at h; exact h : Calls Tryz.prog 67 #[.string s, .string ends] wz (InK (if k < s.size then (k : Int) else -1) wz)))
 have H1 := Lib.hid (take_slc s k)
 have H2 := Lib.hid (by rw [slc_txt, slc_full _ _ _ (by rw [len_list]; exact Nat.le_refl _)] : s.extract k s.size = Txt (s.data.toList.drop k))
 rw [hk]
 clear hk hfun hac hp
 have hk64 : (k : Int) ≤ (s.size : Int) := by omega
 by_cases hks : k < s.size
 ·rw [if_pos hks] at HI
  go_enter Tryz.func35, Tryz.ntmps35
  go_wp2_with fail
  refine (HI.out _).mono ?_
  rintro e w1 ⟨rfl, hK1⟩
  have K1 := Lib.hid hK1;clear hK1
  go_upto_region 4 with fail
  go_quiet (fail)
  go_wp2_with fail
  go_ret2
  unfold Tx2
  rw [← H1.out, ← H2.out]
  exact ⟨rfl, K1.out.drewN _⟩
 ·rw [if_neg hks] at HI
  have hke : k = s.size := by omega
  subst hke
  have e1 : s.extract 0 s.size = s := by simp
  have e2 : s.extract s.size s.size = ByteArray.empty := by simp
  have E1 := Lib.hid e1;have E2 := Lib.hid e2;clear hks e1 e2
  go_enter Tryz.func35, Tryz.ntmps35
  go_wp2_with fail
  refine (HI.out _).mono ?_
  rintro e w1 ⟨rfl, hK1⟩
  have K1 := Lib.hid hK1;clear hK1
  go_upto_region 4 with fail
  go_quiet (fail)
  go_wp2_with fail
  go_ret2
  unfold Tx2
  rw [← H1.out, ← H2.out, E1.out, E2.out]
  exact ⟨rfl, K1.out.drewN _⟩
theorem cutBefore_any (p : Int → Bool) (s ends : ByteArray) (w : World) (hs : s.size ≤ 2097152) (he : ends.size ≤ 100) (h2 : 2 ≤ ends.size) (hac : ∀ (j : Nat) b, ends.data.toList[j]? = some b → b.toNat < 128) (hp : ∀ c : Int, memB ends.data.toList c = p c) :
   Calls Tryz.prog 35 #[.string s, .string ends] w (Tx2 (s.data.toList.take (endP p s.data.toList 0)) (s.data.toList.drop (endP p s.data.toList 0)) w) := cutBefore_big p s ends w (by omega) he h2 hac hp
theorem mem_blank (c : Int) : memB (ByteArray.mk #[32, 9]).data.toList c = blankI c := by
 unfold memB blankI
 simp only [List.any_cons, List.any_nil, Bool.or_false]
 have e : ∀ n : Nat, ((n : Int) == c) = (c == (n : Int)) := fun n => by rw [Bool.eq_iff_iff]; simp only [beq_iff_eq]; exact eq_comm
 rw [show (((32 : UInt8).toNat : Int)) = 32 from rfl, show (((9 : UInt8).toNat : Int)) = 9 from rfl]
 rw [show ((32 : Int) == c) = (c == 32) from e 32, show ((9 : Int) == c) = (c == 9) from e 9]
def leadR (l : List UInt8) : Int × List UInt8 × Int :=
 (numN ((trS l).take (endP blankI (trS l) 0)), trS ((trS l).drop (endP blankI (trS l) 0)), numE ((trS l).take (endP blankI (trS l) 0)))
def LeP (r : Int × List UInt8 × Int) (w : World) (e : Ending) (w' : World) : Prop := e = .returned (.tuple #[.int .i64 r.1, .string (Txt r.2.1), .int .u8 r.2.2]) ∧ Kp [] w w'
set_option maxRecDepth 100000 in
set_option maxHeartbeats 2000000 in
theorem leading_any (s : ByteArray) (w : World) (hs : s.size ≤ 2097152) :
   Calls Tryz.prog 39 #[.string s] w (LeP (leadR s.data.toList) w) := by
 obtain ⟨t, ht⟩ : ∃ t, trS s.data.toList = t := ⟨_, rfl⟩
 have htl : t.length ≤ 2097152 := by rw [← ht]; have := trS_len s.data.toList; rw [len_list] at this; omega
 obtain ⟨k, hk⟩ : ∃ k, endP blankI t 0 = k := ⟨_, rfl⟩
 have HT := Lib.hid (fun wz => (by have h := trimmed_any s wz hs; rw [ht] at h; exact h : Calls Tryz.prog 34 #[.string s] wz (TxK t wz)))
 have HC := Lib.hid (fun wz => (by have h := cutBefore_any blankI (Txt t) ⟨#[32, 9]⟩ wz (by rw [txt_size]; exact htl) (by decide) (by decide) (ascii_of_all (by decide)) mem_blank; rw [txt_list, hk] at h; exact h : Calls Tryz.prog 35 #[.string (Txt t), .string ⟨#[32, 9]⟩] wz (Tx2 (t.take k) (t.drop k) wz)))
 have HN := Lib.hid (fun wz => (by have h := number_q (Txt (t.take k)) wz (by rw [txt_size, List.length_take]; omega); rw [txt_list] at h; exact h))
 have HR := Lib.hid (fun wz => (by have h := trimmed_any (Txt (t.drop k)) wz (by rw [txt_size, List.length_drop]; omega); rw [txt_list] at h; exact h : Calls Tryz.prog 34 #[.string (Txt (t.drop k))] wz (TxK (trS (t.drop k)) wz)))
 have HV := Lib.hid (by unfold leadR; rw [ht, hk] : leadR s.data.toList = (numN (t.take k), trS (t.drop k), numE (t.take k)))
 clear ht hk htl
 go_enter Tryz.func39, Tryz.ntmps39
 go_wp2_with fail
 refine (HT.out _).mono ?_
 rintro e w1 ⟨rfl, hK1⟩
 have K1 := Lib.hid hK1;clear hK1
 go_wp2_with fail
 refine (HC.out _).mono ?_
 rintro e w2 ⟨rfl, hK2⟩
 have K2 := Lib.hid (K1.out.trans hK2);clear hK2
 go_wp2_with fail
 refine (HN.out _).mono ?_
 rintro e w3 ⟨rfl, hw3⟩
 obtain rfl := hw3.symm
 go_wp2_with fail
 refine (HR.out _).mono ?_
 rintro e w4 ⟨rfl, hK4⟩
 have K4 := Lib.hid (K2.out.trans hK4);clear hK4
 go_wp2_with fail
 go_ret3
 unfold LeP
 rw [HV.out]
 exact ⟨rfl, K4.out⟩
def cseqR (l : List UInt8) : Int × List UInt8 × Int :=
 if (leadR l).2.2 ≠ 0 then (0, [], (leadR l).2.2) else if tokB (leadR l).2.1 then ((leadR l).1, (leadR l).2.1, 0) else (0, [], 5)
theorem lead_len (l : List UInt8) : (leadR l).2.1.length ≤ l.length := by
 unfold leadR
 have h1 := trS_len ((trS l).drop (endP blankI (trS l) 0));have h2 := trS_len l
 rw [List.length_drop] at h1
 dsimp only; omega
set_option maxRecDepth 100000 in
set_option maxHeartbeats 2000000 in
theorem cseq_any (s : ByteArray) (w : World) (hs : s.size ≤ 2097152) :
   Calls Tryz.prog 12 #[.string s] w (LeP (cseqR s.data.toList) w) := by
 have hll := lead_len s.data.toList
 rw [len_list] at hll
 have HL := Lib.hid (fun wz => leading_any s wz hs)
 obtain ⟨n, m, x, hr⟩ : ∃ a b c, leadR s.data.toList = (a, b, c) := ⟨_, _, _, rfl⟩
 rw [hr] at HL hll
 have HV := Lib.hid (by unfold cseqR; rw [hr] : cseqR s.data.toList = if x ≠ 0 then (0, [], x) else if tokB m then (n, m, 0) else (0, [], 5))
 dsimp only at hll
 have HTk := Lib.hid (fun wz => tok_n m wz (by omega))
 clear hr hll
 by_cases hx : x = 0
 ·have HV1 := Lib.hid (HV.out.trans (if_neg (fun h => h hx)))
  have bx : (x == 0) = true := by rw [hx]; rfl
  have bx2 : (x != 0) = false := by rw [hx]; rfl
  clear hx
  cases ht : tokB m
  ·have HF := Lib.hid (by rw [HV1.out, ht]; rfl : cseqR s.data.toList = (0, [], 5))
   rw [ht] at HTk
   clear ht
   go_enter Tryz.func12, Tryz.ntmps12
   go_wp2_with fail
   refine (HL.out _).mono ?_
   rintro e w1 ⟨rfl, hK1⟩
   have K1 := Lib.hid hK1;clear hK1
   go_wp2_with fail
   refine (HTk.out _).mono ?_
   rintro e w2 ⟨rfl, hw2⟩
   obtain rfl := hw2
   go_wp2_with fail
   go_ret3
   unfold LeP
   rw [HF.out]
   exact ⟨rfl, K1.out⟩
  ·have HF := Lib.hid (by rw [HV1.out, ht]; rfl : cseqR s.data.toList = (n, m, 0))
   rw [ht] at HTk
   clear ht
   go_enter Tryz.func12, Tryz.ntmps12
   go_wp2_with fail
   refine (HL.out _).mono ?_
   rintro e w1 ⟨rfl, hK1⟩
   have K1 := Lib.hid hK1;clear hK1
   go_wp2_with fail
   refine (HTk.out _).mono ?_
   rintro e w2 ⟨rfl, hw2⟩
   obtain rfl := hw2
   go_wp2_with fail
   go_ret3
   unfold LeP
   rw [HF.out]
   exact ⟨rfl, K1.out⟩
 ·have HF := Lib.hid (HV.out.trans (if_pos hx))
  have bx : (x == 0) = false := by rw [beq_eq_false_iff_ne]; exact hx
  have bx2 : (x != 0) = true := by rw [bne_iff_ne]; exact hx
  clear hx
  go_enter Tryz.func12, Tryz.ntmps12
  go_wp2_with fail
  refine (HL.out _).mono ?_
  rintro e w1 ⟨rfl, hK1⟩
  have K1 := Lib.hid hK1;clear hK1
  go_wp2_with fail
  go_ret3
  unfold LeP
  rw [HF.out]
  exact ⟨rfl, K1.out⟩
end Ad
end Go.Proofs.YtbcaindpbeaheaaGreatDoor
