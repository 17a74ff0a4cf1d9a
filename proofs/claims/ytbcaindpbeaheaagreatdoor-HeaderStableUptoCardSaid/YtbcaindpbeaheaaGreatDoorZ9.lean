/- Texts of one set of library modules: AdB. -/
import Derived.Test.YtbcaindpbeaheaaGreatDoorZ8
import Derived.IntWalk
import Derived.Test.YtbcaindpbeaheaaGreatDoorZ2
namespace Go.Proofs.YtbcaindpbeaheaaGreatDoor
namespace Ad
open Go.RowKit Lx
theorem ctlFn2 : ClassFn 46 ctlI := ⟨fun _ _ => by kernel_rfl, fun c w _ _ => control_any c w⟩
theorem letFn2 : ClassFn 147 letterI := ⟨fun _ _ => by kernel_rfl, fun c w _ _ => aletter_any c w⟩
set_option maxRecDepth 100000 in
set_option maxHeartbeats 400000 in
theorem acontains_any (f : Nat) (p : Int → Bool) (hf : ClassFn f p) (s : ByteArray) (w : World) (hs : s.size ≤ 70368744177664) :
   Calls Tryz.prog 45 #[.string s, .func (.func f) #[] #[]] w (Ret (.bool (anyC p s.data.toList)) w) := by
 go_enter Tryz.func45, Tryz.ntmps45
 go_wp2_with fail
 go_loop [5, 8] (fun _ i => ∃ k : Nat, k ≤ s.size ∧ i = .int .i64 k ∧ anyC p (s.data.toList.drop k) = anyC p s.data.toList) (fun _ i => s.size - (intOf i).toNat)
 case atStart => exact ⟨0, by omega, rfl, rfl⟩
 case round =>
  obtain ⟨k, hk, rfl, he⟩ := hrel
  have He := Lib.hid he;clear he
  by_cases hlt : k < s.size
  ·have Hd := Lib.hid (drop_step s k hlt)
   cases hb : p s[k].toNat
   ·have Hb := Lib.hid hb
    clear hb
    go_wp2_with fail
    rw [hf.ent, Oper.upon_enter]
    refine (hf.calls _ _ (byte_lo _) (byte_hi _)).mono ?_
    rintro e w' ⟨rfl, rfl⟩
    rw [Hb.out]
    go_wp2_with fail
    go_round
    case rel => exact ⟨k + 1, by omega, by go_num, by rw [← He.out, Hd.out]; simp [anyC, Hb.out]⟩
    case measure => simp [intOf]; omega
   ·have Hb := Lib.hid hb
    clear hb
    go_wp2_with fail
    rw [hf.ent, Oper.upon_enter]
    refine (hf.calls _ _ (byte_lo _) (byte_hi _)).mono ?_
    rintro e w' ⟨rfl, rfl⟩
    rw [Hb.out]
    go_wp2_with fail
    go_ret
    exact ⟨ret_bool (by rw [← He.out, Hd.out]; simp [anyC, Hb.out]), rfl⟩
  ·have HF := Lib.hid (by rw [← He.out, drop_end s k (by omega)]; rfl : anyC p s.data.toList = false)
   go_wp2_with fail
   go_ret
   exact ⟨ret_bool (by rw [HF.out]), rfl⟩
set_option maxRecDepth 100000 in
set_option maxHeartbeats 400000 in
theorem lower_any (s : ByteArray) (w : World) (hs : s.size ≤ 17592186044416) :
   Calls Tryz.prog 91 #[.string s] w (RetNew (lowL s.data.toList) w) := by
 go_enter Tryz.func91, Tryz.ntmps91
 go_wp2_with fail
 go_loopw [4, 5, 8] (fun _ _ i wr => ∃ (j : Nat), j ≤ s.size ∧ i = .int .i64 j ∧ IsB w.heap.size w.heap.size (Lib.byteCells (lowL (s.data.toList.take j))) wr ∧ Below w.heap.size w wr) (fun _ _ i _ => s.size - (intOf i).toNat)
 case atStart => exact ⟨0, by omega, rfl, fresh_isB w, (Below.refl _ w).alloc (Nat.le_refl _) _⟩
 case round =>
  obtain ⟨j, hj, rfl, hb, hB⟩ := hrel
  have Hb := Lib.hid hb;have hsz := hB.size
  have hlen : (Lib.byteCells (lowL (s.data.toList.take j))).length ≤ j := by rw [Lib.byteCells_length, lowL_len]; simp; omega
  clear hb
  by_cases hlt : j < s.size
  ·have Ht := Lib.hid (by rw [take_snoc s j hlt]; simp [lowL] : lowL (s.data.toList.take (j + 1)) = lowL (s.data.toList.take j) ++ [lowB s[j]])
   have hn := lowB_nat s[j]
   by_cases hu : 65 ≤ s[j].toNat ∧ s[j].toNat ≤ 90
   ·rw [if_pos hu] at hn
    have Hn := Lib.hid (by omega : ((lowB s[j]).toNat : Int) = (s[j].toNat : Int) + 32)
    obtain ⟨u1, u2⟩ := hu
    clear hn
    go_wp2_with fail
    refine (writeByte_any w.heap.size w.heap.size _ _ _ Hb.out (by omega) (by omega)).mono ?_
    rintro e w1 ⟨rfl, hb1, hk1⟩
    have Hb1 := Lib.hid (isB_of hb1 rfl);clear hb1
    go_wp2_with fail
    go_roundw
    case rel => exact ⟨j + 1, by omega, by go_num, by rw [Ht.out, ← bd_byteCells, Hn.out]; exact Hb1.out, hB.trans hk1.below⟩
    case measure => simp [intOf]; omega
   ·rw [if_neg hu] at hn
    have Hn := Lib.hid (by omega : ((lowB s[j]).toNat : Int) = (s[j].toNat : Int))
    clear hn
    by_cases u1 : 65 ≤ s[j].toNat
    ·have u2 : ¬ s[j].toNat ≤ 90 := fun h => hu ⟨u1, h⟩
     clear hu
     go_wp2_with fail
     refine (writeByte_any w.heap.size w.heap.size _ _ _ Hb.out (by omega) (by omega)).mono ?_
     rintro e w1 ⟨rfl, hb1, hk1⟩
     have Hb1 := Lib.hid (isB_of hb1 rfl);clear hb1
     go_wp2_with fail
     go_roundw
     case rel => exact ⟨j + 1, by omega, by go_num, by rw [Ht.out, ← bd_byteCells, Hn.out]; exact Hb1.out, hB.trans hk1.below⟩
     case measure => simp [intOf]; omega
    ·clear hu
     go_wp2_with fail
     refine (writeByte_any w.heap.size w.heap.size _ _ _ Hb.out (by omega) (by omega)).mono ?_
     rintro e w1 ⟨rfl, hb1, hk1⟩
     have Hb1 := Lib.hid (isB_of hb1 rfl);clear hb1
     go_wp2_with fail
     go_roundw
     case rel => exact ⟨j + 1, by omega, by go_num, by rw [Ht.out, ← bd_byteCells, Hn.out]; exact Hb1.out, hB.trans hk1.below⟩
     case measure => simp [intOf]; omega
  ·have Hacc := Lib.hid (by rw [List.take_of_length_le (by rw [len_list]; omega)] : lowL (s.data.toList.take j) = lowL s.data.toList)
   go_wp2_with fail
   refine (string_any w.heap.size w.heap.size _ _ Hb.out (by omega)).mono ?_
   rintro e w1 ⟨rfl, hk1, _⟩
   go_wp2_with fail
   go_ret
   exact ⟨by rw [← Hacc.out]; rfl, hB.trans hk1.below⟩
def escN (l : List UInt8) : Int := if 0 ≤ escV l then escV l else 0
def escBo (l : List UInt8) : Bool := decide (0 ≤ escV l)
theorem esc_no (l : List UInt8) (h : escV l < 0) : escN l = 0 ∧ escBo l = false := by
 unfold escN escBo; rw [if_neg (by omega)]; exact ⟨rfl, decide_eq_false (by omega)⟩
theorem esc_yes (l : List UInt8) (h : 0 ≤ escV l) : escN l = escV l ∧ escBo l = true := by
 unfold escN escBo; rw [if_pos h]; exact ⟨rfl, decide_eq_true h⟩
theorem escV_short (l : List UInt8) (h : l.length < 3) : escV l < 0 := by
 match l with
 | [] => decide
 | [_] => simp [escV]
 | [_, _] => simp [escV]
 | _ :: _ :: _ :: _ => simp at h; omega
theorem list3 (s : ByteArray) (h : 3 ≤ s.size) : ∃ r, s.data.toList = s[0] :: s[1] :: s[2] :: r := by
 have h0 := drop_step s 0 (by omega)
 have h1 := drop_step s 1 (by omega)
 have h2 := drop_step s 2 (by omega)
 rw [List.drop_zero] at h0
 exact ⟨_, h0.trans (congrArg (s[0] :: ·) (h1.trans (congrArg (s[1] :: ·) h2)))⟩
theorem hexC_iff (c : Int) : hexC c = true ↔ 0 ≤ hexV c := by unfold hexC; rw [decide_eq_true_iff]
theorem shl_or (x y : Nat) (hx : x ≤ 15) (hy : y ≤ 15) : bits .or .u8 ((x : Int) * 16) (y : Int) = 16 * (x : Int) + (y : Int) := by
 have key : ∀ a : Fin 16, ∀ b : Fin 16, bits .or .u8 (((a.val : Nat) : Int) * 16) ((b.val : Nat) : Int) = 16 * ((a.val : Nat) : Int) + ((b.val : Nat) : Int) := by decide +kernel
 exact key ⟨x, by omega⟩ ⟨y, by omega⟩
set_option maxRecDepth 100000 in
set_option maxHeartbeats 400000 in
theorem escape_any (s : ByteArray) (w : World) (hs : s.size ≤ 17592186044416) :
   Calls Tryz.prog 259 #[.string s] w (Ret (.tuple #[.int .u8 (escN s.data.toList), .bool (escBo s.data.toList)]) w) := by
 by_cases h3 : s.size < 3
 ·have HE := Lib.hid (esc_no _ (escV_short _ (by rw [len_list]; exact h3)))
  go_enter Tryz.func259, Tryz.ntmps259
  go_wp2_with fail
  go_ret2
  exact ⟨ret_ib HE.out.1.symm HE.out.2.symm, rfl⟩
 ·obtain ⟨r, hr⟩ := list3 s (by omega)
  have hV := congrArg escV hr
  rw [escV_def] at hV
  by_cases h37 : s[0].toNat = 37
  ·have t37 : ((s[0].toNat : Int) != 37) = false := by rw [h37]; rfl
   cases ha : hexC s[1].toNat
   ·have hn : ¬ 0 ≤ hexV s[1].toNat := fun h => by rw [(hexC_iff _).2 h] at ha; cases ha
    rw [if_neg (fun h => hn h.2.1)] at hV
    have HE := Lib.hid (esc_no _ (by rw [hV]; decide))
    have Ha := Lib.hid ha;clear hV hr ha h37
    cases hb : hexC s[2].toNat
    all_goals
     have Hb := Lib.hid hb;clear hb
     go_enter Tryz.func259, Tryz.ntmps259
     go_wp2_with fail
     refine (hexValue_any _ _ (byte_lo _) (byte_hi _)).mono ?_
     rintro e w' ⟨rfl, rfl⟩
     rw [Ha.out]
     go_wp2_with fail
     refine (hexValue_any _ _ (byte_lo _) (byte_hi _)).mono ?_
     rintro e w' ⟨rfl, rfl⟩
     rw [Hb.out]
     go_wp2_with fail
     go_ret2
     exact ⟨ret_ib HE.out.1.symm HE.out.2.symm, rfl⟩
   ·cases hb : hexC s[2].toNat
    ·have hn : ¬ 0 ≤ hexV s[2].toNat := fun h => by rw [(hexC_iff _).2 h] at hb; cases hb
     rw [if_neg (fun h => hn h.2.2)] at hV
     have HE := Lib.hid (esc_no _ (by rw [hV]; decide))
     have Ha := Lib.hid ha;have Hb := Lib.hid hb;clear hV hr ha hb h37
     go_enter Tryz.func259, Tryz.ntmps259
     go_wp2_with fail
     refine (hexValue_any _ _ (byte_lo _) (byte_hi _)).mono ?_
     rintro e w' ⟨rfl, rfl⟩
     rw [Ha.out]
     go_wp2_with fail
     refine (hexValue_any _ _ (byte_lo _) (byte_hi _)).mono ?_
     rintro e w' ⟨rfl, rfl⟩
     rw [Hb.out]
     go_wp2_with fail
     go_ret2
     exact ⟨ret_ib HE.out.1.symm HE.out.2.symm, rfl⟩
    ·have ha' := (hexC_iff _).1 ha
     have hb' := (hexC_iff _).1 hb
     rw [if_pos ⟨h37, ha', hb'⟩] at hV
     have HE := Lib.hid (esc_yes _ (by rw [hV]; omega))
     have HV := Lib.hid hV;have Ha := Lib.hid ha;have Hb := Lib.hid hb;have hA := hexN_pos _ ha';have hB := hexN_pos _ hb'
     have b1 := hexV_bd s[1].toNat
     have b2 := hexV_bd s[2].toNat
     have HA := Lib.hid hA;have HB := Lib.hid hB;clear hV hr ha hb h37 hA hB
     obtain ⟨x, hx⟩ : ∃ x : Nat, hexV s[1].toNat = x := ⟨(hexV s[1].toNat).toNat, by omega⟩
     obtain ⟨y, hy⟩ : ∃ y : Nat, hexV s[2].toNat = y := ⟨(hexV s[2].toNat).toNat, by omega⟩
     have HX := Lib.hid hx;have HY := Lib.hid hy
     have x15 : x ≤ 15 := by omega
     have y15 : y ≤ 15 := by omega
     clear ha' hb' b1 b2 hx hy
     go_enter Tryz.func259, Tryz.ntmps259
     go_wp2_with fail
     refine (hexValue_any _ _ (byte_lo _) (byte_hi _)).mono ?_
     rintro e w' ⟨rfl, rfl⟩
     rw [Ha.out, HA.out, HX.out]
     go_wp2_with fail
     refine (hexValue_any _ _ (byte_lo _) (byte_hi _)).mono ?_
     rintro e w' ⟨rfl, rfl⟩
     rw [Hb.out, HB.out, HY.out]
     go_wp2_with fail
     go_ret2
     exact ⟨ret_ib (by rw [HE.out.1, HV.out, HX.out, HY.out]; exact shl_or x y x15 y15) HE.out.2.symm, rfl⟩
  ·have t37 : ((s[0].toNat : Int) != 37) = true := by rw [bne_iff_ne]; omega
   rw [if_neg (fun h => h37 h.1)] at hV
   have HE := Lib.hid (esc_no _ (by rw [hV]; decide))
   clear hV hr h37
   go_enter Tryz.func259, Tryz.ntmps259
   go_wp2_with fail
   go_ret2
   exact ⟨ret_ib HE.out.1.symm HE.out.2.symm, rfl⟩
theorem toU8 (c : UInt8) : ((c.toNat : Int)).toNat.toUInt8 = c := by rw [Int.toNat_natCast, ← UInt8.toNat_inj]; simp
theorem mem_u8 (l : List UInt8) (c : UInt8) : decide (0 ≤ Lib.indexByte l c) = memB l c.toNat := by
 have := mem_any l c.toNat (byte_lo _) (byte_hi _)
 rwa [toU8] at this
theorem endP_at_k (p : Int → Bool) (s : ByteArray) (k : Nat) (h : k < s.size) (hp : p s[k].toNat = true) : endP p s.data.toList k = k := by
 unfold endP; rw [drop_step s k h, runL, hp]; simp
theorem endP_next (p : Int → Bool) (s : ByteArray) (k : Nat) (h : k < s.size) (hp : p s[k].toNat = false) : endP p s.data.toList k = endP p s.data.toList (k + 1) := by
 unfold endP; rw [drop_step s k h, runL, hp]; simp; omega
theorem endP_out (p : Int → Bool) (s : ByteArray) (k : Nat) (h : s.size ≤ k) : endP p s.data.toList k = k := by
 unfold endP; rw [drop_end s k h]; simp [runL]
set_option maxRecDepth 100000 in
set_option maxHeartbeats 400000 in
theorem end_any (s ends : ByteArray) (k : Nat) (w : World) (hs : s.size ≤ 17592186044416) (hk : k ≤ s.size) :
   Calls Tryz.prog 126 #[.string s, .int .i64 k, .string ends] w (Ret (.int .i64 (endP (memB ends.data.toList) s.data.toList k : Nat)) w) := by
 go_enter Tryz.func126, Tryz.ntmps126
 go_wp2_with fail
 go_loop [1] (fun i => ∃ j : Nat, j ≤ s.size ∧ i = .int .i64 j ∧ endP (memB ends.data.toList) s.data.toList j = endP (memB ends.data.toList) s.data.toList k) (fun i => s.size - (intOf i).toNat)
 case atStart => exact ⟨k, hk, rfl, rfl⟩
 case round =>
  obtain ⟨j, hj, rfl, he⟩ := hrel
  have He := Lib.hid he;clear he
  by_cases hlt : j < s.size
  ·have hm := Lib.hid (mem_u8 ends.data.toList s[j])
   cases hb : memB ends.data.toList s[j].toNat
   ·have H1 := Lib.hid (endP_next _ s j hlt hb)
    have hneg : decide (Lib.indexByte ends.data.toList s[j] < 0) = true := by
     have := hm.out; rw [hb] at this; rw [decide_eq_false_iff_not] at this; exact decide_eq_true (by omega)
    have Hneg := Lib.hid hneg;clear hb hneg
    go_wp2_with fail
    refine (Tryz.strings_IndexByte _ _ _).mono ?_
    rintro e w' ⟨rfl, rfl⟩
    have hneg := Hneg.out
    go_wp2_with fail
    go_round
    case rel => exact ⟨j + 1, by omega, by go_num, by rw [← H1.out, He.out]⟩
    case measure => simp [intOf]; omega
   ·have H1 := Lib.hid (endP_at_k _ s j hlt hb)
    have hneg : decide (Lib.indexByte ends.data.toList s[j] < 0) = false := by
     have := hm.out; rw [hb] at this; rw [decide_eq_true_iff] at this; exact decide_eq_false (by omega)
    have Hneg := Lib.hid hneg;clear hb hneg
    go_wp2_with fail
    refine (Tryz.strings_IndexByte _ _ _).mono ?_
    rintro e w' ⟨rfl, rfl⟩
    have hneg := Hneg.out
    go_wp2_with fail
    go_ret
    exact ⟨ret_int (by rw [← He.out, H1.out]), rfl⟩
  ·have H1 := Lib.hid (endP_out (memB ends.data.toList) s j (by omega))
   go_wp2_with fail
   go_ret
   exact ⟨ret_int (by rw [← He.out, H1.out]), rfl⟩
theorem hex_tab (n : Nat) (h : n < 16) : (⟨#[48, 49, 50, 51, 52, 53, 54, 55, 56, 57, 65, 66, 67, 68, 69, 70]⟩ : ByteArray)[n]'h = hexD n := by
 have key : ∀ a : Fin 16, (⟨#[48, 49, 50, 51, 52, 53, 54, 55, 56, 57, 65, 66, 67, 68, 69, 70]⟩ : ByteArray)[a.val]'a.isLt = hexD a.val := by decide +kernel
 exact key ⟨n, h⟩
set_option maxRecDepth 100000 in
set_option maxHeartbeats 1000000 in
theorem Escape_any (k : Int) (s : ByteArray) (w : World) (hs : s.size ≤ 17592186044416) (E : Env w) :
   Calls Tryz.prog 135 #[.string s, .int .i64 k] w (RetNew (escpL k s.data.toList) w) := by
 have HE := Lib.hid E
 have hB0 := Lib.hid ((Below.refl w.heap.size w).alloc (Nat.le_refl _) (.cells #[.pointer none, .slice none 0 0] 74))
 clear E
 go_enter Tryz.func135, Tryz.ntmps135
 go_wp2_with fail
 go_loopw [6, 7, 10] (fun _ _ i wr => ∃ (j : Nat), j ≤ s.size ∧ i = .int .i64 j ∧ IsB w.heap.size w.heap.size (Lib.byteCells (escpL k (s.data.toList.take j))) wr ∧ Below w.heap.size w wr) (fun _ _ i _ => s.size - (intOf i).toNat)
 case atStart => exact ⟨0, by omega, rfl, fresh_isB w, hB0.out⟩
 case round =>
  obtain ⟨j, hj, rfl, hb, hB⟩ := hrel
  have Hb := Lib.hid hb;have hsz := hB.size
  have hlen : (Lib.byteCells (escpL k (s.data.toList.take j))).length ≤ 3 * j := by
   have := (escp_len k (s.data.toList.take j)).2
   rw [Lib.byteCells_length]; simp at this; omega
  clear hb
  by_cases hlt : j < s.size
  ·have Ht := Lib.hid (by rw [take_snoc s j hlt]; simp [escpL] : escpL k (s.data.toList.take (j + 1)) = escpL k (s.data.toList.take j) ++ escpB k s[j])
   cases hi : inC k s[j].toNat
   ·have Hi := Lib.hid hi
    clear hi
    have hq : s[j].toNat / 16 < 16 := by have := s[j].toNat_lt; omega
    have hr : s[j].toNat % 16 < 16 := by omega
    go_wp2_with fail
    refine (inClass_any k s[j].toNat _ (byte_lo _) (byte_hi _) (HE.out.below hB)).mono ?_
    rintro e w1 ⟨rfl, rfl⟩
    rw [Hi.out]
    go_wp2_with fail
    refine (writeByte_any w.heap.size w.heap.size _ _ _ Hb.out (by omega) (by omega)).mono ?_
    rintro e w1 ⟨rfl, hb1, hk1⟩
    have Hb1 := Lib.hid (isB_of hb1 rfl);clear hb1
    have hl1 : (Lib.byteCells (escpL k (s.data.toList.take j)) ++ [Value.int .u8 37]).length ≤ 3 * j + 1 := by simp; omega
    have hs1 := hk1.below.size
    go_wp2_with fail
    refine (writeByte_any w.heap.size w.heap.size _ _ _ Hb1.out (by omega) (by omega)).mono ?_
    rintro e w2 ⟨rfl, hb2, hk2⟩
    have Hb2 := Lib.hid (isB_of hb2 rfl);clear hb2
    have hl2 : ∀ v : Value, (Lib.byteCells (escpL k (s.data.toList.take j)) ++ [Value.int .u8 37] ++ [v]).length ≤ 3 * j + 2 := by intro v; simp; omega
    have hs2 := hk2.below.size
    go_wp2_with fail
    refine (writeByte_any w.heap.size w.heap.size _ _ _ Hb2.out (by have := hl2 (.int .u8 (⟨#[48, 49, 50, 51, 52, 53, 54, 55, 56, 57, 65, 66, 67, 68, 69, 70]⟩ : ByteArray)[s[j].toNat / 16].toNat); omega) (by omega)).mono ?_
    rintro e w3 ⟨rfl, hb3, hk3⟩
    have Hb3 := Lib.hid (isB_of hb3 rfl);clear hb3 hl2
    go_wp2_with fail
    go_roundw
    case rel => exact ⟨j + 1, by omega, by go_num, by rw [Ht.out]; unfold escpB; rw [Hi.out, if_neg (by simp)]; have := Hb3.out; rw [hex_tab _ hq, hex_tab _ hr] at this; simpa [Lib.byteCells] using this, ((hB.trans hk1.below).trans hk2.below).trans hk3.below⟩
    case measure => simp [intOf]; omega
   ·have Hi := Lib.hid hi
    clear hi
    go_wp2_with fail
    refine (inClass_any k s[j].toNat _ (byte_lo _) (byte_hi _) (HE.out.below hB)).mono ?_
    rintro e w1 ⟨rfl, rfl⟩
    rw [Hi.out]
    go_wp2_with fail
    refine (writeByte_any w.heap.size w.heap.size _ _ _ Hb.out (by omega) (by omega)).mono ?_
    rintro e w1 ⟨rfl, hb1, hk1⟩
    have Hb1 := Lib.hid (isB_of hb1 rfl);clear hb1
    go_wp2_with fail
    go_roundw
    case rel => exact ⟨j + 1, by omega, by go_num, by rw [Ht.out]; unfold escpB; rw [Hi.out, if_pos rfl, ← bd_byteCells]; exact Hb1.out, hB.trans hk1.below⟩
    case measure => simp [intOf]; omega
  ·have Hacc := Lib.hid (by rw [List.take_of_length_le (by rw [len_list]; omega)] : escpL k (s.data.toList.take j) = escpL k s.data.toList)
   go_wp2_with fail
   refine (string_any w.heap.size w.heap.size _ _ Hb.out (by omega)).mono ?_
   rintro e w1 ⟨rfl, hk1, _⟩
   go_wp2_with fail
   go_ret
   exact ⟨by rw [← Hacc.out]; rfl, hB.trans hk1.below⟩
theorem slc_data (s : ByteArray) (a b : Nat) : (s.extract a b).data.toList = slc s.data.toList a b := by
 rw [Lib.extract_data]; unfold slc; rw [List.drop_take]
theorem drop_data (s : ByteArray) (a : Nat) : (s.extract a s.size).data.toList = s.data.toList.drop a := Lib.extract_to_end s a
theorem slc_step (s : ByteArray) (j b : Nat) (h : j < b) (hb : b ≤ s.size) : slc s.data.toList j b = s[j] :: slc s.data.toList (j + 1) b := by
 unfold slc
 have hl : j < (s.data.toList.take b).length := by simp; omega
 rw [List.drop_eq_getElem_cons hl]
 congr 1
 simp
 rfl
theorem slc_drop (l : List UInt8) (a b n : Nat) : (slc l a b).drop n = slc l (a + n) b := by unfold slc; rw [List.drop_drop]
theorem slc_nil (l : List UInt8) (a b : Nat) (h : b ≤ a) : slc l a b = [] := by unfold slc; exact List.drop_eq_nil_of_le (by simp; omega)
set_option maxRecDepth 100000 in
set_option maxHeartbeats 1000000 in
theorem Unescape_any (s : ByteArray) (w : World) (hs : s.size ≤ 17592186044416) :
   Calls Tryz.prog 257 #[.string s] w (Ret3 (unT s.data.toList) (unN s.data.toList) (unE s.data.toList) w) := by
 have hB0 := Lib.hid ((Below.refl w.heap.size w).alloc (Nat.le_refl _) (.cells #[.pointer none, .slice none 0 0] 74))
 go_enter Tryz.func257, Tryz.ntmps257
 go_wp2_with fail
 go_loopw [6, 7, 8, 9] (fun i _ _ _ wr => ∃ (j : Nat) (acc : List UInt8), j ≤ s.size ∧ acc.length ≤ j ∧ i = .int .i64 j ∧ acc ++ (uneR (s.data.toList.drop j)).1 = (uneR s.data.toList).1 ∧ j + (uneR (s.data.toList.drop j)).2 = (uneR s.data.toList).2 ∧ IsB w.heap.size w.heap.size (Lib.byteCells acc) wr ∧ Below w.heap.size w wr) (fun i _ _ _ _ => s.size - (intOf i).toNat)
 case atStart => exact ⟨0, [], by omega, by simp, rfl, rfl, by simp, fresh_isB w, hB0.out⟩
 case round =>
  obtain ⟨j, acc, hj, ha, rfl, hu, hn, hb, hB⟩ := hrel
  have Hu := Lib.hid hu;have Hn := Lib.hid hn;have Hb := Lib.hid hb;have hsz := hB.size;clear hu hn hb
  by_cases hlt : j < s.size
  ·have hd := drop_step s j hlt
   by_cases h37 : s[j].toNat = 37
   ·have t37 : ((s[j].toNat : Int) == 37) = true := by rw [h37]; rfl
    obtain ⟨t, ht⟩ : ∃ t, s.extract j s.size = t := ⟨_, rfl⟩
    have hts : t.size ≤ 17592186044416 := by rw [← ht]; simp; omega
    have htl : t.data.toList = s.data.toList.drop j := by rw [← ht, drop_data]
    have Ht := Lib.hid ht;clear ht
    by_cases hv : escV t.data.toList < 0
    ·have HE := Lib.hid (esc_no _ hv)
     have hbad : uneR (s.data.toList.drop j) = ([], 0) := by rw [hd]; exact uneR_bad _ _ h37 (by rw [← hd, ← htl]; exact hv)
     have HR := Lib.hid (by have h1 := Hn.out; rw [hbad] at h1; have h2 : (uneR s.data.toList).2 ≠ s.data.toList.length := (by rw [← h1, len_list]; dsimp only; omega); unfold unT unN unE; rw [if_neg h2, if_neg h2, if_neg h2, ← h1]; exact ⟨rfl, rfl, rfl⟩ : unT s.data.toList = [] ∧ unN s.data.toList = j + 0 ∧ unE s.data.toList = 5)
     clear hd h37 htl hv hbad
     go_wp2_with fail
     rw [Ht.out]
     refine (escape_any t _ hts).mono ?_
     rintro e w1 ⟨rfl, rfl⟩
     rw [HE.out.1, HE.out.2]
     go_wp2_with fail
     go_ret3
     exact ⟨ret_3 (by rw [HR.out.1]) (by rw [HR.out.2.1]; rfl) HR.out.2.2.symm, hB⟩
    ·have hv0 : 0 ≤ escV t.data.toList := by omega
     have HE := Lib.hid (esc_yes _ hv0)
     obtain ⟨c', a, b, r, e, h0, h1, h2, h3⟩ := escV_inv _ hv0
     have h3' := h3
     rw [e] at h3'
     have hlen := congrArg List.length (htl.symm.trans e)
     simp only [List.length_drop, len_list, List.length_cons] at hlen
     have hstep : uneR (s.data.toList.drop j) = ((escV t.data.toList).toNat.toUInt8 :: (uneR (s.data.toList.drop (j + 2 + 1))).1, (uneR (s.data.toList.drop (j + 2 + 1))).2 + 3) := by
      rw [← htl, e, uneR_esc c' a b r h0 h1 h2, h3']
      have : s.data.toList.drop (j + 2 + 1) = r := by
       have := congrArg (List.drop 3) (htl.symm.trans e)
       rw [List.drop_drop] at this
       simpa [Nat.add_assoc] using this
      rw [this]
     have hbd := escV_bd t.data.toList
     obtain ⟨x, hx⟩ : ∃ x : Nat, escV t.data.toList = x := ⟨(escV t.data.toList).toNat, by omega⟩
     have x255 : x ≤ 255 := by omega
     have HX := Lib.hid hx
     have hc8 : ((x.toUInt8).toNat : Int) = x := by have := u8_of x (by omega) (by omega); simpa using this
     have HC := Lib.hid hc8
     rw [hx, Int.toNat_natCast] at hstep
     have HS := Lib.hid hstep;clear hd h37 htl hv hv0 h0 h1 h2 h3 h3' e hstep hx hc8 hbd
     go_wp2_with fail
     rw [Ht.out]
     refine (escape_any t _ hts).mono ?_
     rintro e w1 ⟨rfl, rfl⟩
     rw [HE.out.1, HE.out.2, HX.out]
     go_wp2_with fail
     refine (writeByte_any w.heap.size w.heap.size _ _ _ Hb.out (by rw [Lib.byteCells_length]; omega) (by omega)).mono ?_
     rintro e w1 ⟨rfl, hb1, hk1⟩
     have Hb1 := Lib.hid (isB_of hb1 rfl);clear hb1
     go_wp2_with fail
     go_roundw
     case rel => exact ⟨j + 2 + 1, acc ++ [x.toUInt8], by omega, by simp; omega, by go_num, by rw [← Hu.out, HS.out]; simp, by rw [← Hn.out, HS.out]; dsimp only; omega, by rw [← bd_byteCells, HC.out]; exact Hb1.out, hB.trans hk1.below⟩
     case measure => simp [intOf]; omega
   ·have t37 : ((s[j].toNat : Int) == 37) = false := by rw [beq_eq_false_iff_ne]; omega
    have HS := Lib.hid (by rw [hd, uneR_plain _ _ h37] : uneR (s.data.toList.drop j) = (s[j] :: (uneR (s.data.toList.drop (j + 1))).1, (uneR (s.data.toList.drop (j + 1))).2 + 1))
    clear h37 hd
    go_wp2_with fail
    refine (writeByte_any w.heap.size w.heap.size _ _ _ Hb.out (by rw [Lib.byteCells_length]; omega) (by omega)).mono ?_
    rintro e w1 ⟨rfl, hb1, hk1⟩
    have Hb1 := Lib.hid (isB_of hb1 rfl);clear hb1
    go_wp2_with fail
    go_roundw
    case rel => exact ⟨j + 1, acc ++ [s[j]], by omega, by simp; omega, by go_num, by rw [← Hu.out, HS.out]; simp, by rw [← Hn.out, HS.out]; dsimp only; omega, by rw [← bd_byteCells]; exact Hb1.out, hB.trans hk1.below⟩
    case measure => simp [intOf]; omega
  ·have HR := Lib.hid (by
     have h1 := Hn.out; have h3 := Hu.out
     rw [drop_end s j (by omega)] at h1 h3
     simp only [uneR, List.append_nil, Nat.add_zero] at h1 h3
     have h2 : (uneR s.data.toList).2 = s.data.toList.length := (by rw [← h1, len_list]; omega)
     unfold unT unN unE; rw [if_pos h2, if_pos h2, if_pos h2, ← h3]; exact ⟨rfl, rfl, rfl⟩ : unT s.data.toList = acc ∧ unN s.data.toList = 0 ∧ unE s.data.toList = 0)
   go_wp2_with fail
   refine (string_any w.heap.size w.heap.size acc _ Hb.out (by omega)).mono ?_
   rintro e w1 ⟨rfl, hk1, _⟩
   go_wp2_with fail
   go_ret3
   exact ⟨ret_3 (by rw [HR.out.1]) (by rw [HR.out.2.1]; rfl) HR.out.2.2.symm, hB.trans hk1.below⟩
set_option maxRecDepth 100000 in
set_option maxHeartbeats 1000000 in
theorem stray_any (k : Int) (s : ByteArray) (a b : Nat) (w : World) (hs : s.size ≤ 17592186044416) (hab : a ≤ b) (hb : b ≤ s.size) (E : Env w) :
   Calls Tryz.prog 256 #[.string s, .int .i64 a, .int .i64 b, .int .i64 k] w (Ret (.int .i64 (a + (wrdR k (slc s.data.toList a b)).2 : Nat)) w) := by
 have HE := Lib.hid E;clear E
 go_enter Tryz.func256, Tryz.ntmps256
 go_wp2_with fail
 go_loop [1, 9, 10, 14, 23, 32] (fun i _ _ _ _ _ => ∃ j : Nat, j ≤ b ∧ i = .int .i64 j ∧ j + (wrdR k (slc s.data.toList j b)).2 = a + (wrdR k (slc s.data.toList a b)).2) (fun i _ _ _ _ _ => b - (intOf i).toNat)
 case atStart => exact ⟨a, hab, rfl, rfl⟩
 case round =>
  obtain ⟨j, hj, rfl, he⟩ := hrel
  have He := Lib.hid he;clear he
  by_cases hlt : j < b
  ·have hst := slc_step s j b hlt hb
   obtain ⟨t, ht⟩ : ∃ t, s.extract j b = t := ⟨_, rfl⟩
   have hts : t.size ≤ 17592186044416 := by rw [← ht]; simp; omega
   have htl : t.data.toList = slc s.data.toList j b := by rw [← ht, slc_data]
   have Ht := Lib.hid ht;clear ht
   have plain : ∀ w0 : World, Env w0 → True := fun _ _ => trivial
   clear plain
   by_cases hv : 0 ≤ escV t.data.toList ∧ ctlI (escV t.data.toList) = false
   ·obtain ⟨v0, vc⟩ := hv
    have HEy := Lib.hid (esc_yes _ v0);have hbd := escV_bd t.data.toList
    have hlen : j + 3 ≤ b := by
     obtain ⟨c', x, y, r, e, _⟩ := escV_inv _ v0
     have := congrArg List.length (htl.symm.trans e)
     rw [slc_len _ _ _ (by rw [len_list]; exact hb)] at this
     simp at this; omega
    have HS := Lib.hid (by rw [hst, wrdR_esc k _ _ (by rw [← hst, ← htl]; exact v0) (by rw [← hst, ← htl]; exact vc), slc_drop] : (wrdR k (slc s.data.toList j b)).2 = (wrdR k (slc s.data.toList (j + 1 + 2) b)).2 + 3)
    have HV := Lib.hid vc;clear hst htl v0 vc
    go_wp2_with fail
    rw [Ht.out]
    refine (escape_any t _ hts).mono ?_
    rintro e w1 ⟨rfl, rfl⟩
    rw [HEy.out.1, HEy.out.2]
    go_wp2_with fail
    refine (control_any _ _).mono ?_
    rintro e w1 ⟨rfl, rfl⟩
    rw [HV.out]
    go_wp2_with fail
    go_round
    case rel => exact ⟨j + 3, hlen, by go_num, by rw [← He.out, HS.out]; have : j + 1 + 2 = j + 3 := rfl; rw [this]; omega⟩
    case measure => simp [intOf]; omega
   ·have hno : (s[j].toNat = 37 → wrdR k (slc s.data.toList j b) = ([], 0)) := fun h37 => by
      rw [hst]
      refine wrdR_bad k _ _ h37 ?_
      rw [← hst, ← htl]
      by_cases h0 : 0 ≤ escV t.data.toList
      ·right; cases hc : ctlI (escV t.data.toList)
       ·exact absurd ⟨h0, hc⟩ hv
       ·rfl
      ·left; omega
    have key : (inC k s[j].toNat = true → (wrdR k (slc s.data.toList j b)).2 = (wrdR k (slc s.data.toList (j + 1) b)).2 + 1) ∧ (inC k s[j].toNat = false → (wrdR k (slc s.data.toList j b)).2 = 0) := by
     constructor
     ·intro hi
      have h37 : s[j].toNat ≠ 37 := fun h => by rw [h] at hi; exact inC_pct k hi
      rw [hst, wrdR_plain k _ _ h37 hi]
     ·intro hi
      by_cases h37 : s[j].toNat = 37
      ·rw [hno h37]
      ·rw [hst, wrdR_stop k _ _ h37 hi]
    have Key := Lib.hid key;have Hv := Lib.hid hv;clear hst htl hno key hv
    cases hi : inC k s[j].toNat
    ·have HI := Lib.hid hi
     clear hi
     by_cases h0 : 0 ≤ escV t.data.toList
     ·have hc : ctlI (escV t.data.toList) = true := by
        cases hc : ctlI (escV t.data.toList)
        ·exact absurd ⟨h0, hc⟩ Hv.out
        ·rfl
      have HC := Lib.hid hc;have HEy := Lib.hid (esc_yes _ h0);clear hc
      go_wp2_with fail
      rw [Ht.out]
      refine (escape_any t _ hts).mono ?_
      rintro e w1 ⟨rfl, rfl⟩
      rw [HEy.out.1, HEy.out.2]
      go_wp2_with fail
      refine (control_any _ _).mono ?_
      rintro e w1 ⟨rfl, rfl⟩
      rw [HC.out]
      go_wp2_with fail
      refine (inClass_any k s[j].toNat _ (byte_lo _) (byte_hi _) HE.out).mono ?_
      rintro e w1 ⟨rfl, rfl⟩
      rw [HI.out]
      go_wp2_with fail
      go_ret
      exact ⟨ret_int (by rw [← He.out, Key.out.2 HI.out]; rfl), rfl⟩
     ·have HEn := Lib.hid (esc_no t.data.toList (by omega))
      go_wp2_with fail
      rw [Ht.out]
      refine (escape_any t _ hts).mono ?_
      rintro e w1 ⟨rfl, rfl⟩
      rw [HEn.out.1, HEn.out.2]
      go_wp2_with fail
      refine (inClass_any k s[j].toNat _ (byte_lo _) (byte_hi _) HE.out).mono ?_
      rintro e w1 ⟨rfl, rfl⟩
      rw [HI.out]
      go_wp2_with fail
      go_ret
      exact ⟨ret_int (by rw [← He.out, Key.out.2 HI.out]; rfl), rfl⟩
    ·have HI := Lib.hid hi
     clear hi
     by_cases h0 : 0 ≤ escV t.data.toList
     ·have hc : ctlI (escV t.data.toList) = true := by
        cases hc : ctlI (escV t.data.toList)
        ·exact absurd ⟨h0, hc⟩ Hv.out
        ·rfl
      have HC := Lib.hid hc;have HEy := Lib.hid (esc_yes _ h0);clear hc
      go_wp2_with fail
      rw [Ht.out]
      refine (escape_any t _ hts).mono ?_
      rintro e w1 ⟨rfl, rfl⟩
      rw [HEy.out.1, HEy.out.2]
      go_wp2_with fail
      refine (control_any _ _).mono ?_
      rintro e w1 ⟨rfl, rfl⟩
      rw [HC.out]
      go_wp2_with fail
      refine (inClass_any k s[j].toNat _ (byte_lo _) (byte_hi _) HE.out).mono ?_
      rintro e w1 ⟨rfl, rfl⟩
      rw [HI.out]
      go_wp2_with fail
      go_round
      case rel => exact ⟨j + 1, hlt, by go_num, by rw [← He.out, Key.out.1 HI.out]; omega⟩
      case measure => simp [intOf]; omega
     ·have HEn := Lib.hid (esc_no t.data.toList (by omega))
      go_wp2_with fail
      rw [Ht.out]
      refine (escape_any t _ hts).mono ?_
      rintro e w1 ⟨rfl, rfl⟩
      rw [HEn.out.1, HEn.out.2]
      go_wp2_with fail
      refine (inClass_any k s[j].toNat _ (byte_lo _) (byte_hi _) HE.out).mono ?_
      rintro e w1 ⟨rfl, rfl⟩
      rw [HI.out]
      go_wp2_with fail
      go_round
      case rel => exact ⟨j + 1, hlt, by go_num, by rw [← He.out, Key.out.1 HI.out]; omega⟩
      case measure => simp [intOf]; omega
  ·have H1 := Lib.hid (by have := He.out; rw [slc_nil _ _ _ (by omega)] at this; simp only [wrdR] at this; omega : b = a + (wrdR k (slc s.data.toList a b)).2)
   go_wp2_with fail
   go_ret
   exact ⟨ret_int (by have := H1.out; omega), rfl⟩
end Ad
end Go.Proofs.YtbcaindpbeaheaaGreatDoor
