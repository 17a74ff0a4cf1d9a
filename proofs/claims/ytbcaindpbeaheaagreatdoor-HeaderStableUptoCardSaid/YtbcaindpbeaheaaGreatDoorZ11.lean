/- Texts of one set of library modules: AdC, AdD, AdE, AdF. -/
import Derived.Test.YtbcaindpbeaheaaGreatDoorZ9
import Derived.Test.YtbcaindpbeaheaaGreatDoorZ10
namespace Go.Proofs.YtbcaindpbeaheaaGreatDoor
namespace Ad
open Go.RowKit Lx
def Txs (w : World) (b : Nat) (xs : List (List UInt8)) : Prop := ∀ j x, xs[j]? = some x → w.cell? ⟨b, j, none⟩ = some (.string ⟨x.toArray⟩)
def SpP (c : UInt8) (s : ByteArray) (w : World) (e : Ending) (w' : World) : Prop :=
 e = .returned (.slice (some ⟨w.heap.size, 0, none⟩) (pcs c s.data.toList).length (pcs c s.data.toList).length) ∧ Txs w' w.heap.size (pcs c s.data.toList) ∧ Below w.heap.size w w'
theorem txs_row {w : World} {b : Nat} {t : TypeId} {xs : List ByteArray} {cs : Array Value} (h : w.heap[b]? = some (.cells cs t (0, 0))) (hc : ∀ (j : Nat) (x : ByteArray), xs[j]? = some x → cs[j]? = some (Value.string x)) : Txs w b (xs.map (·.data.toList)) := by
 intro j x hx
 rw [List.getElem?_map, Option.map_eq_some_iff] at hx
 obtain ⟨y, hy, rfl⟩ := hx
 rw [Lib.cell_of_heap h, hc j y hy]
theorem split_any (c : UInt8) (s : ByteArray) (w : World) (hs : s.size ≤ 2097152) (E : Env w) :
   Calls Tryz.prog 145 #[.string s, .string ⟨#[c]⟩] w (SpP c s w) := by
 obtain ⟨m, hm⟩ := E.m
 have hd : (Lib.splitB ⟨#[c]⟩ 0 (Lib.countB s ⟨#[c]⟩) s).map (·.data.toList) = pcs c s.data.toList := by
  rw [Lib.splitB_data]; exact split_pcs c s.data.toList
 have hn : Lib.countB s ⟨#[c]⟩ + 1 = (pcs c s.data.toList).length := count_pcs c s.data.toList
 refine (Tryz.strings_Split s ⟨#[c]⟩ m w (by omega) hm (Nat.le_refl 1)).mono ?_
 rintro e w' ⟨rfl, rfl⟩
 rw [hn]
 refine ⟨rfl, ?_, (Below.refl _ w).alloc (Nat.le_refl _) _⟩
 rw [← hd]
 refine txs_row (World.alloc_heap_new w _) ?_
 intro j x hx
 rw [List.getElem?_toArray, List.getElem?_map, hx, Option.map_some]
set_option maxRecDepth 100000 in
theorem lblFn : ClassFn 194 (fun c => !lblC c) := ⟨fun _ _ => by kernel_rfl, fun c w h0 h1 => by
 cases hl : letterI c
 ·cases hd : digitI c
  ·have Hl := Lib.hid hl
   have Hd := Lib.hid hd
   have Hq := Lib.hid (by unfold lblC; rw [hl, hd]; simp [bne] : (!lblC c) = (c != 45))
   clear hl hd
   go_enter Tryz.func194, Tryz.ntmps194
   go_wp2_with fail
   refine (aletter_any _ _).mono ?_
   rintro e w' ⟨rfl, rfl⟩
   rw [Hl.out]
   go_wp2_with fail
   refine (adigit_any _ _).mono ?_
   rintro e w' ⟨rfl, rfl⟩
   rw [Hd.out]
   go_wp2_with fail
   all_goals (go_ret; exact ⟨ret_bool (by rw [Hq.out]), rfl⟩)
  ·have Hl := Lib.hid hl
   have Hd := Lib.hid hd
   have Hq := Lib.hid (by unfold lblC; rw [hd]; simp : (!lblC c) = false)
   clear hl hd
   go_enter Tryz.func194, Tryz.ntmps194
   go_wp2_with fail
   refine (aletter_any _ _).mono ?_
   rintro e w' ⟨rfl, rfl⟩
   rw [Hl.out]
   go_wp2_with fail
   refine (adigit_any _ _).mono ?_
   rintro e w' ⟨rfl, rfl⟩
   rw [Hd.out]
   go_wp2_with fail
   go_ret
   exact ⟨ret_bool (by rw [Hq.out]), rfl⟩
 ·have Hl := Lib.hid hl
  have Hq := Lib.hid (by unfold lblC; rw [hl]; simp : (!lblC c) = false)
  clear hl
  go_enter Tryz.func194, Tryz.ntmps194
  go_wp2_with fail
  refine (aletter_any _ _).mono ?_
  rintro e w' ⟨rfl, rfl⟩
  rw [Hl.out]
  go_wp2_with fail
  go_ret
  exact ⟨ret_bool (by rw [Hq.out]), rfl⟩⟩
set_option maxRecDepth 100000 in
theorem grpFn : ClassFn 218 (fun c => !hexC c) := ⟨fun _ _ => by kernel_rfl, fun c w h0 h1 => by
 go_enter Tryz.func218, Tryz.ntmps218
 go_wp2_with fail
 refine (hexValue_any _ _ h0 h1).mono ?_
 rintro e w' ⟨rfl, rfl⟩
 go_wp2_with fail
 go_ret
 exact ⟨rfl, rfl⟩⟩
theorem any_not (p : Int → Bool) (l : List UInt8) : anyC (fun c => !p c) l = !(l.all fun c => p c.toNat) := by
 unfold anyC; rw [List.all_eq_not_any_not, Bool.not_not]
theorem head_at (s : ByteArray) (h : 0 < s.size) : s.data.toList.headD 0 = s[0] := by
 have := drop_step s 0 h
 rw [List.drop_zero] at this; rw [this]; rfl
theorem last_at (s : ByteArray) (h : 0 < s.size) : s.data.toList.getLastD 0 = s[s.size - 1] := by
 rw [List.getLastD_eq_getLast?, List.getLast?_eq_getElem?]
 have hl : s.data.toList.length - 1 < s.data.toList.length := by rw [len_list]; omega
 rw [List.getElem?_eq_getElem hl]
 simp
 rfl
theorem u8_ne (a : UInt8) (k : Nat) (hk : k < 256) : (a ≠ (k.toUInt8)) ↔ ((a.toNat : Int) != (k : Int)) = true := by
 rw [bne_iff_ne, ne_eq, ne_eq, ← UInt8.toNat_inj]
 have : (k.toUInt8).toNat = k := by simp [Nat.toUInt8]; omega
 rw [this]; omega
set_option maxRecDepth 100000 in
set_option maxHeartbeats 400000 in
theorem isLabel_any (s : ByteArray) (w : World) (hs : s.size ≤ 2097152) :
   Calls Tryz.prog 146 #[.string s] w (Ret (.bool (lblB s.data.toList)) w) := by
 by_cases h1 : 1 ≤ s.size
 ·have he := isEmpty_no s h1
  have hn := toList_ne s h1
  by_cases h63 : s.size ≤ 63
  ·cases hc : anyC (fun c => !lblC c) s.data.toList
   ·have hall : (s.data.toList.all fun c => lblC c.toNat) = true := by rw [any_not] at hc; simpa using hc
    have hL := Lib.hid (by unfold lblB; rw [hall, head_at s h1, last_at s h1]; simp [h1, h63] : lblB s.data.toList = (decide (s[0] ≠ 45) && decide (s[s.size - 1] ≠ 45)))
    have Hc := Lib.hid hc;clear hc hall
    by_cases ha : s[0] = 45
    ·have ta : ((s[0].toNat : Int) != 45) = false := by rw [ha]; rfl
     have HL := Lib.hid (by rw [hL.out]; simp [ha] : lblB s.data.toList = false)
     clear ha hL
     go_enter Tryz.func146, Tryz.ntmps146
     go_wp2_with fail
     refine (acontains_any _ _ lblFn s _ (by omega)).mono ?_
     rintro e w' ⟨rfl, rfl⟩
     rw [Hc.out]
     go_wp2_with fail
     go_ret
     exact ⟨ret_bool (by rw [HL.out]), rfl⟩
    ·have ta : ((s[0].toNat : Int) != 45) = true := (u8_ne _ 45 (by omega)).1 ha
     by_cases hb : s[s.size - 1] = 45
     ·have tb : ((s[s.size - 1].toNat : Int) != 45) = false := by rw [hb]; rfl
      have HL := Lib.hid (by rw [hL.out]; simp [hb] : lblB s.data.toList = false)
      clear ha hb hL
      go_enter Tryz.func146, Tryz.ntmps146
      go_wp2_with fail
      refine (acontains_any _ _ lblFn s _ (by omega)).mono ?_
      rintro e w' ⟨rfl, rfl⟩
      rw [Hc.out]
      go_wp2_with fail
      go_ret
      exact ⟨ret_bool (by rw [HL.out]), rfl⟩
     ·have tb : ((s[s.size - 1].toNat : Int) != 45) = true := (u8_ne _ 45 (by omega)).1 hb
      have HL := Lib.hid (by rw [hL.out]; simp [ha, hb] : lblB s.data.toList = true)
      clear ha hb hL
      go_enter Tryz.func146, Tryz.ntmps146
      go_wp2_with fail
      refine (acontains_any _ _ lblFn s _ (by omega)).mono ?_
      rintro e w' ⟨rfl, rfl⟩
      rw [Hc.out]
      go_wp2_with fail
      go_ret
      exact ⟨ret_bool (by rw [HL.out]), rfl⟩
   ·have hall : (s.data.toList.all fun c => lblC c.toNat) = false := by rw [any_not] at hc; simpa using hc
    have HL := Lib.hid (by unfold lblB; rw [hall]; simp : lblB s.data.toList = false)
    have Hc := Lib.hid hc;clear hc hall
    go_enter Tryz.func146, Tryz.ntmps146
    go_wp2_with fail
    refine (acontains_any _ _ lblFn s _ (by omega)).mono ?_
    rintro e w' ⟨rfl, rfl⟩
    rw [Hc.out]
    go_wp2_with fail
    go_ret
    exact ⟨ret_bool (by rw [HL.out]), rfl⟩
  ·have HL := Lib.hid (by unfold lblB; rw [len_list]; simp [h63] : lblB s.data.toList = false)
   go_enter Tryz.func146, Tryz.ntmps146
   go_wp2_with fail
   go_ret
   exact ⟨ret_bool (by rw [HL.out]), rfl⟩
 ·have he := isEmpty_yes s h1
  have hn := toList_nil s h1
  have HL := Lib.hid (by unfold lblB; rw [len_list]; simp [h1] : lblB s.data.toList = false)
  go_enter Tryz.func146, Tryz.ntmps146
  go_wp2_with fail
  go_ret
  exact ⟨ret_bool (by rw [HL.out]), rfl⟩
set_option maxRecDepth 100000 in
set_option maxHeartbeats 400000 in
theorem isGroup_any (s : ByteArray) (w : World) (hs : s.size ≤ 2097152) :
   Calls Tryz.prog 191 #[.string s] w (Ret (.bool (grpB s.data.toList)) w) := by
 by_cases h1 : 1 ≤ s.size
 ·have he := isEmpty_no s h1
  have hn := toList_ne s h1
  by_cases h4 : s.size ≤ 4
  ·have HL := Lib.hid (by unfold grpB; rw [len_list]; simp [h1, h4, any_not] : grpB s.data.toList = !(anyC (fun c => !hexC c) s.data.toList))
   go_enter Tryz.func191, Tryz.ntmps191
   go_wp2_with fail
   refine (acontains_any _ _ grpFn s _ (by omega)).mono ?_
   rintro e w' ⟨rfl, rfl⟩
   go_wp2_with fail
   go_ret
   exact ⟨ret_bool (by rw [HL.out]), rfl⟩
  ·have HL := Lib.hid (by unfold grpB; rw [len_list]; simp [h4] : grpB s.data.toList = false)
   go_enter Tryz.func191, Tryz.ntmps191
   go_wp2_with fail
   go_ret
   exact ⟨ret_bool (by rw [HL.out]), rfl⟩
 ·have he := isEmpty_yes s h1
  have hn := toList_nil s h1
  have HL := Lib.hid (by unfold grpB; rw [len_list]; simp [h1] : grpB s.data.toList = false)
  go_enter Tryz.func191, Tryz.ntmps191
  go_wp2_with fail
  go_ret
  exact ⟨ret_bool (by rw [HL.out]), rfl⟩
end Ad
end Go.Proofs.YtbcaindpbeaheaaGreatDoor
namespace Go.Proofs.YtbcaindpbeaheaaGreatDoor
namespace Ad
open Go.RowKit Lx
theorem take_all_snoc (p : List UInt8 → Bool) (l : List (List UInt8)) (k : Nat) (x : List UInt8) (h : l[k]? = some x) : (l.take (k + 1)).all p = ((l.take k).all p && p x) := by
 obtain ⟨hk, rfl⟩ := List.getElem?_eq_some_iff.1 h
 rw [List.take_succ_eq_append_getElem hk]; simp only [List.all_append, List.all_cons, List.all_nil, Bool.and_true]
theorem take_all_false (p : List UInt8 → Bool) (l : List (List UInt8)) (k : Nat) (x : List UInt8) (h : l[k]? = some x) (hp : p x = false) : l.all p = false := by
 rw [Bool.eq_false_iff]; intro ha
 have := List.all_eq_true.1 ha x (List.mem_of_getElem? h)
 rw [hp] at this; cases this
theorem pcs_small (c : UInt8) (l x : List UInt8) (h : x ∈ pcs c l) : x.length ≤ l.length := by
 have hj : ∀ (xs : List (List UInt8)), x ∈ xs → x.length ≤ (joinL c xs).length := by
  intro xs
  induction xs with
  | nil => intro h; cases h
  | cons a r ih =>
    intro h
    cases r with
    | nil => rcases List.mem_cons.1 h with rfl | h
             ·exact Nat.le_refl _
             ·cases h
    | cons b r =>
      rw [joinL, List.length_append, List.length_cons]
      rcases List.mem_cons.1 h with rfl | h
      ·omega
      ·have := ih h; omega
 have := hj _ h
 rwa [join_pcs] at this
def Txt (x : List UInt8) : ByteArray := ⟨x.toArray⟩
theorem txt_list (x : List UInt8) : (Txt x).data.toList = x := rfl
theorem txt_size (x : List UInt8) : (Txt x).size = x.length := by rw [← len_list, txt_list]
set_option maxRecDepth 100000 in
set_option maxHeartbeats 400000 in
theorem isName_any (s : ByteArray) (w : World) (hs : s.size ≤ 2097152) (E : Env w) :
   Calls Tryz.prog 90 #[.string s] w fun e w' => e = .returned (.bool (nameB s.data.toList)) ∧ Below w.heap.size w w' := by
 by_cases h255 : s.size ≤ 255
 ·have hsm : ∀ x ∈ pcs 46 s.data.toList, x.length ≤ s.size := fun x hx => by have := pcs_small 46 _ x hx; rwa [len_list] at this
  have Hsm := Lib.hid hsm;have hpl := pcs_len 46 s.data.toList
  rw [len_list] at hpl
  obtain ⟨ps, hps⟩ : ∃ ps, pcs 46 s.data.toList = ps := ⟨_, rfl⟩
  have Hps := Lib.hid hps
  rw [hps] at hpl
  clear hsm hps
  go_enter Tryz.func90, Tryz.ntmps90
  go_wp2_with fail
  refine (split_any 46 s _ hs E).mono ?_
  rintro e w1 ⟨rfl, hT, hB⟩
  rw [Hps.out] at hT ⊢
  have HT := Lib.hid hT;clear hT
  go_wp2_with fail
  go_loop [4, 11] (fun _ i => ∃ k : Nat, k ≤ ps.length ∧ i = .int .i64 k ∧ (ps.take k).all lblB = true) (fun _ i => ps.length - (intOf i).toNat)
  case atStart => exact ⟨0, by omega, rfl, rfl⟩
  case round =>
   obtain ⟨k, hk, rfl, ha⟩ := hrel
   have Ha := Lib.hid ha;clear ha
   by_cases hlt : k < ps.length
   ·obtain ⟨x, hx⟩ : ∃ x, ps[k]? = some x := ⟨_, List.getElem?_eq_getElem hlt⟩
    have hc := HT.out k x hx;have Hx := Lib.hid hx
    have hxs : (Txt x).size ≤ 2097152 := by rw [txt_size]; have := Hsm.out x (by rw [Hps.out]; exact List.mem_of_getElem? hx); omega
    have hc' : w1.cell? ⟨w.heap.size, k, none⟩ = some (.string (Txt x)) := hc
    clear hc hx
    cases hl : lblB x
    ·have HL := Lib.hid (by unfold nameB; rw [Hps.out, take_all_false lblB ps k x Hx.out hl]; simp : nameB s.data.toList = false)
     have Hl := Lib.hid hl;clear hl
     go_wp2_with fail
     refine (isLabel_any (Txt x) _ hxs).mono ?_
     rintro e w' ⟨rfl, rfl⟩
     rw [txt_list, Hl.out]
     go_wp2_with fail
     go_ret
     exact ⟨ret_bool (by rw [HL.out]), hB⟩
    ·have Hl := Lib.hid hl
     have Hn := Lib.hid (take_all_snoc lblB ps k x Hx.out);clear hl
     go_wp2_with fail
     refine (isLabel_any (Txt x) _ hxs).mono ?_
     rintro e w' ⟨rfl, rfl⟩
     rw [txt_list, Hl.out]
     go_wp2_with fail
     go_round
     case rel => exact ⟨k + 1, by omega, by go_num, by rw [Hn.out, Ha.out, Hl.out]; rfl⟩
     case measure => simp [intOf]; omega
   ·have hall : ps.all lblB = true := by have := Ha.out; rwa [List.take_of_length_le (by omega)] at this
    have HN := Lib.hid (by unfold nameB; rw [Hps.out, hall, len_list]; simp [h255] : nameB s.data.toList = (s.data.toList.any fun c => wordC c.toNat))
    have hor : (s.data.toList.any fun c => wordC c.toNat) = (anyC letterI s.data.toList || memB s.data.toList 45) := by
     unfold anyC memB
     rw [Bool.eq_iff_iff]
     simp only [wordC, Bool.or_eq_true, List.any_eq_true]
     constructor
     ·rintro ⟨x, hx, h | h⟩
      ·exact .inl ⟨x, hx, h⟩
      ·exact .inr ⟨x, hx, h⟩
     ·rintro (⟨x, hx, h⟩ | ⟨x, hx, h⟩)
      ·exact ⟨x, hx, .inl h⟩
      ·exact ⟨x, hx, .inr h⟩
    have HO := Lib.hid hor;clear hall hor
    cases hl : anyC letterI s.data.toList
    ·have Hl := Lib.hid hl
     have hm := Lib.hid (mem_u8 s.data.toList 45);clear hl
     go_wp2_with fail
     refine (acontains_any _ _ letFn2 s _ (by omega)).mono ?_
     rintro e w' ⟨rfl, rfl⟩
     rw [Hl.out]
     go_wp2_with fail
     refine (Tryz.strings_IndexByte _ _ _).mono ?_
     rintro e w' ⟨rfl, rfl⟩
     go_wp2_with fail
     go_ret
     exact ⟨ret_bool (by rw [HN.out, HO.out, Hl.out, Bool.false_or]; exact hm.out), hB⟩
    ·have Hl := Lib.hid hl
     clear hl
     go_wp2_with fail
     refine (acontains_any _ _ letFn2 s _ (by omega)).mono ?_
     rintro e w' ⟨rfl, rfl⟩
     rw [Hl.out]
     go_wp2_with fail
     go_ret
     exact ⟨ret_bool (by rw [HN.out, HO.out, Hl.out]; rfl), hB⟩
 ·have HL := Lib.hid (by unfold nameB; rw [len_list]; simp [h255] : nameB s.data.toList = false)
  go_enter Tryz.func90, Tryz.ntmps90
  go_wp2_with fail
  go_ret
  exact ⟨ret_bool (by rw [HL.out]), Below.refl _ _⟩
theorem allD_true_at (s : ByteArray) (k : Nat) (hk : k < s.size) (h : digitI s[k].toNat = false) : allD s.data.toList = false := by
 rw [Bool.eq_false_iff]; intro ha
 have := List.all_eq_true.1 ha s[k] (Array.getElem_mem_toList (xs := s.data) hk)
 rw [h] at this; cases this
set_option maxRecDepth 100000 in
set_option maxHeartbeats 400000 in
theorem isByte_any (s : ByteArray) (w : World) (hs : s.size ≤ 2097152) :
   Calls Tryz.prog 149 #[.string s] w (Ret (.bool (numB s.data.toList)) w) := by
 by_cases h1 : 1 ≤ s.size
 ·have he := isEmpty_no s h1
  have hn := toList_ne s h1
  by_cases h3 : s.size ≤ 3
  ·by_cases hz : s.size ≤ 1 ∨ s[0] ≠ 48
   ·have hnum := Lib.hid (by unfold numB; rw [head_at s h1, len_list]; rcases hz with hz | hz <;> simp [h1, h3, hz] : numB s.data.toList = (allD s.data.toList && decide (valL s.data.toList ≤ 255)))
    have hzt : (decide (1 < s.size) && ((s[0].toNat : Int) == 48)) = false := by
     rcases hz with hz | hz
     ·rw [show decide (1 < s.size) = false from decide_eq_false (by omega)]; rfl
     ·have := (u8_ne s[0] 48 (by omega)).1 hz
      rw [bne_iff_ne] at this
      rw [show ((s[0].toNat : Int) == 48) = false from beq_eq_false_iff_ne.2 this]; simp
    have Hzt := Lib.hid hzt;have HL := Lib.hid (len_list s);clear hzt
    have hz2 : 1 < s.size → ((s[0].toNat : Int) == 48) = false := fun h => by
     rcases hz with hz | hz
     ·omega
     ·have := (u8_ne s[0] 48 (by omega)).1 hz; rw [bne_iff_ne] at this; exact beq_eq_false_iff_ne.2 this
    have Hz2 := Lib.hid hz2;clear hz hz2
    by_cases h1s : 1 < s.size
    all_goals
     try have hz3 := Hz2.out h1s
     go_enter Tryz.func149, Tryz.ntmps149
     go_wp2_with fail
     go_loop [3, 4, 24] (fun n _ i => ∃ k : Nat, k ≤ s.size ∧ i = .int .i64 k ∧ n = .int .i64 (valL (s.data.toList.take k)) ∧ allD (s.data.toList.take k) = true) (fun _ _ i => s.size - (intOf i).toNat)
     case atStart => exact ⟨0, by omega, rfl, rfl, rfl⟩
     case round =>
      obtain ⟨k, hk, rfl, rfl, ha⟩ := hrel
      have hv := valL_small (s.data.toList.take k) ha (by simp; omega)
      have Ha := Lib.hid ha;clear ha
      by_cases hlt : k < s.size
      ·have hsn := Lib.hid (by rw [take_snoc s k hlt, valL_snoc] : valL (s.data.toList.take (k + 1)) = valL (s.data.toList.take k) * 10 + ((s[k].toNat : Int) - 48))
       have hsd := Lib.hid (by rw [take_snoc s k hlt, allD_snoc] : allD (s.data.toList.take (k + 1)) = (allD (s.data.toList.take k) && digitI s[k].toNat))
       cases hd : digitI s[k].toNat
       ·have HF := Lib.hid (by rw [hnum.out, allD_true_at s k hlt hd]; rfl : numB s.data.toList = false)
        have Hd := Lib.hid hd;clear hd
        go_wp2_with fail
        refine (adigit_any _ _).mono ?_
        rintro e w' ⟨rfl, rfl⟩
        rw [Hd.out]
        go_wp2_with fail
        go_ret
        exact ⟨ret_bool (by rw [HF.out]), rfl⟩
       ·have hd' : 48 ≤ (s[k].toNat : Int) ∧ (s[k].toNat : Int) ≤ 57 := by simpa [digitI] using hd
        obtain ⟨d1, d2⟩ := hd'
        have Hd := Lib.hid hd;clear hd
        go_wp2_with fail
        refine (adigit_any _ _).mono ?_
        rintro e w' ⟨rfl, rfl⟩
        rw [Hd.out]
        go_wp2_with fail
        go_round
        case rel => exact ⟨k + 1, by omega, by go_num, by rw [hsn.out], by rw [hsd.out, Ha.out, Hd.out]; rfl⟩
        case measure => simp [intOf]; omega
      ·have hF := Lib.hid (by have := Ha.out; rw [List.take_of_length_le (by rw [HL.out]; omega)] at this; rw [hnum.out, this, List.take_of_length_le (by rw [HL.out]; omega)]; rfl : numB s.data.toList = decide (valL (s.data.toList.take k) ≤ 255))
       go_wp2_with fail
       go_ret
       exact ⟨ret_bool (by rw [hF.out]), rfl⟩
   ·have hz' : ¬ s.size ≤ 1 ∧ s[0] = 48 := by
      constructor
      ·intro h; exact hz (.inl h)
      ·exact Decidable.byContradiction fun h => hz (.inr h)
    obtain ⟨hz1, hz2⟩ := hz'
    have t0 : ((s[0].toNat : Int) == 48) = true := by rw [hz2]; rfl
    have h1s : 1 < s.size := by omega
    have HF := Lib.hid (by unfold numB; rw [head_at s h1, len_list]; simp [hz1, hz2] : numB s.data.toList = false)
    clear hz hz2
    go_enter Tryz.func149, Tryz.ntmps149
    go_wp2_with fail
    go_ret
    exact ⟨ret_bool (by rw [HF.out]), rfl⟩
  ·have HF := Lib.hid (by unfold numB; rw [len_list]; simp [h3] : numB s.data.toList = false)
   go_enter Tryz.func149, Tryz.ntmps149
   go_wp2_with fail
   go_ret
   exact ⟨ret_bool (by rw [HF.out]), rfl⟩
 ·have he := isEmpty_yes s h1
  have hn := toList_nil s h1
  have HF := Lib.hid (by unfold numB; rw [len_list]; simp [h1] : numB s.data.toList = false)
  go_enter Tryz.func149, Tryz.ntmps149
  go_wp2_with fail
  go_ret
  exact ⟨ret_bool (by rw [HF.out]), rfl⟩
end Ad
end Go.Proofs.YtbcaindpbeaheaaGreatDoor
namespace Go.Proofs.YtbcaindpbeaheaaGreatDoor
namespace Ad
open Go.RowKit Lx
def SpN (c : UInt8) (n : Nat) (s : ByteArray) (w : World) (e : Ending) (w' : World) : Prop :=
 ∃ (l : List (List UInt8)) (cap : Nat), e = .returned (.slice (some ⟨w.heap.size, 0, none⟩) l.length cap) ∧ ((pcs c s.data.toList).length ≤ n → l = pcs c s.data.toList) ∧ (n < (pcs c s.data.toList).length → l.length = n) ∧ l.length ≤ cap ∧
  Blk w' w.heap.size 9 (Lib.cellsOf (l.map Txt) cap) ∧ Below w.heap.size w w'
theorem txt_self (s : ByteArray) : Txt s.data.toList = s := by cases s; simp [Txt]
theorem splitN_any (c : UInt8) (n : Nat) (hn : 1 ≤ n) (hn2 : n ≤ 100) (s : ByteArray) (w : World) (hs : s.size ≤ 2097152) (E : Env w) :
   Calls Tryz.prog 148 #[.string s, .string ⟨#[c]⟩, .int .i64 n] w (SpN c n s w) := by
 obtain ⟨m, hm⟩ := E.m
 have hd : (Lib.splitB ⟨#[c]⟩ 0 (min n (s.size + 1) - 1) s).map (·.data.toList) = Lib.splitK [c] 0 (min n (s.data.toList.length + 1) - 1) s.data.toList := by
  rw [Lib.splitB_data, len_list]
 have hsp := splitN_pcs c s.data.toList n hn
 rw [← hd] at hsp
 have hle : (Lib.splitB ⟨#[c]⟩ 0 (min n (s.size + 1) - 1) s).length ≤ min n (s.size + 1) := by
  have := Lib.splitB_length_le ⟨#[c]⟩ 0 (min n (s.size + 1) - 1) s
  omega
 have hself : ((Lib.splitB ⟨#[c]⟩ 0 (min n (s.size + 1) - 1) s).map (·.data.toList)).map Txt = Lib.splitB ⟨#[c]⟩ 0 (min n (s.size + 1) - 1) s := by
  rw [List.map_map]
  conv => rhs; rw [← List.map_id (Lib.splitB ⟨#[c]⟩ 0 (min n (s.size + 1) - 1) s)]
  exact List.map_congr_left (fun x _ => txt_self x)
 refine (Tryz.strings_SplitN s ⟨#[c]⟩ n m w (by omega) hm (Nat.le_refl 1) hn (by omega)).mono ?_
 rintro e w' ⟨rfl, rfl⟩
 refine ⟨(Lib.splitB ⟨#[c]⟩ 0 (min n (s.size + 1) - 1) s).map (·.data.toList), min n (s.size + 1), by rw [List.length_map], hsp.1, hsp.2, by rw [List.length_map]; exact hle, ?_, (Below.refl _ w).alloc (Nat.le_refl _) _⟩
 rw [hself]
 exact Blk.new w _ _
theorem cellsOf_at (l : List (List UInt8)) (N k : Nat) (x : List UInt8) (h : l[k]? = some x) : (Lib.cellsOf (l.map Txt) N)[k]? = some (.string (Txt x)) := by
 unfold Lib.cellsOf
 have hk := (List.getElem?_eq_some_iff.1 h).1
 rw [List.getElem?_toArray, List.getElem?_append_left (by simpa using hk), List.getElem?_map, List.getElem?_map, h]; rfl
theorem cellsOf_put (l : List (List UInt8)) (N k : Nat) (y : List UInt8) (h : k < l.length) : (Lib.cellsOf (l.map Txt) N).setIfInBounds k (.string (Txt y)) = Lib.cellsOf ((l.set k y).map Txt) N := by
 unfold Lib.cellsOf
 rw [List.setIfInBounds_toArray, List.length_map, List.length_map, List.length_set, List.set_append_left _ _ (by simpa using h), List.map_set, List.map_set]
set_option maxRecDepth 100000 in
set_option maxHeartbeats 400000 in
theorem isFour_any (s : ByteArray) (w : World) (hs : s.size ≤ 2097152) (E : Env w) :
   Calls Tryz.prog 92 #[.string s] w fun e w' => e = .returned (.bool (fourB s.data.toList)) ∧ Below w.heap.size w w' := by
 have hsm : ∀ x ∈ pcs 46 s.data.toList, x.length ≤ s.size := fun x hx => by have := pcs_small 46 _ x hx; rwa [len_list] at this
 have Hsm := Lib.hid hsm;clear hsm
 go_enter Tryz.func92, Tryz.ntmps92
 go_wp2_with fail
 refine (splitN_any 46 5 (by omega) (by omega) s _ hs E).mono ?_
 rintro e w1 ⟨ps, cap, rfl, h1, h2, hcap, hBk, hB⟩
 have H1 := Lib.hid h1;have H2 := Lib.hid h2;have HBk := Lib.hid hBk;clear h1 h2 hBk
 by_cases h4 : ps.length = 4
 ·have hps : pcs 46 s.data.toList = ps := by
    rcases Nat.lt_or_ge 5 (pcs 46 s.data.toList).length with h | h
    ·have := H2.out h; omega
    ·exact (H1.out h).symm
  have Hps := Lib.hid hps
  have h4b : ((ps.length : Int) != 4) = false := by rw [h4]; rfl
  have HF := Lib.hid (by unfold fourB; rw [hps, h4]; simp : fourB s.data.toList = ps.all numB)
  have H4 := Lib.hid h4;clear hps h4
  have hl4 : ps.length ≤ 4 := by rw [H4.out]; exact Nat.le_refl _
  go_wp2_with fail
  go_loop [5, 13] (fun _ i => ∃ k : Nat, k ≤ ps.length ∧ i = .int .i64 k ∧ (ps.take k).all numB = true) (fun _ i => ps.length - (intOf i).toNat)
  case atStart => exact ⟨0, by omega, rfl, rfl⟩
  case round =>
   obtain ⟨k, hk, rfl, ha⟩ := hrel
   have Ha := Lib.hid ha;clear ha
   by_cases hlt : k < ps.length
   ·obtain ⟨x, hx⟩ : ∃ x, ps[k]? = some x := ⟨_, List.getElem?_eq_getElem hlt⟩
    have hc := HBk.out.cell k
    rw [cellsOf_at ps cap k x hx] at hc
    have Hx := Lib.hid hx
    have hxs : (Txt x).size ≤ 2097152 := by rw [txt_size]; have := Hsm.out x (by rw [Hps.out]; exact List.mem_of_getElem? hx); omega
    clear hx
    cases hl : numB x
    ·have HL := Lib.hid (by rw [HF.out, take_all_false numB ps k x Hx.out hl] : fourB s.data.toList = false)
     have Hl := Lib.hid hl;clear hl
     go_wp2_with fail
     refine (isByte_any (Txt x) _ hxs).mono ?_
     rintro e w' ⟨rfl, rfl⟩
     rw [txt_list, Hl.out]
     go_wp2_with fail
     go_ret
     exact ⟨ret_bool (by rw [HL.out]), hB⟩
    ·have Hl := Lib.hid hl
     have Hn := Lib.hid (take_all_snoc numB ps k x Hx.out);clear hl
     go_wp2_with fail
     refine (isByte_any (Txt x) _ hxs).mono ?_
     rintro e w' ⟨rfl, rfl⟩
     rw [txt_list, Hl.out]
     go_wp2_with fail
     go_round
     case rel => exact ⟨k + 1, by omega, by go_num, by rw [Hn.out, Ha.out, Hl.out]; rfl⟩
     case measure => simp [intOf]; omega
   ·have hall := Lib.hid (by have := Ha.out; rw [List.take_of_length_le (by omega)] at this; rw [HF.out, this] : fourB s.data.toList = true)
    go_wp2_with fail
    go_ret
    exact ⟨ret_bool (by rw [hall.out]), hB⟩
 ·have HF := Lib.hid (by
    unfold fourB
    have : (pcs 46 s.data.toList).length ≠ 4 := by
     intro h
     have := H1.out (by omega)
     rw [this] at h4; exact h4 h
    simp [this] : fourB s.data.toList = false)
  have h4b : ((ps.length : Int) != 4) = true := by rw [bne_iff_ne]; omega
  clear h4
  go_wp2_with fail
  go_ret
  exact ⟨ret_bool (by rw [HF.out]), hB⟩
def grps8 (l : List UInt8) : Option (List (List UInt8)) := if l = [] then some [] else if (pcs 58 l).length ≤ 8 then (if (pcs 58 l).all grpB then some ((pcs 58 l).map grpN) else none) else none
theorem grps8_spec (l : List UInt8) : grps8 l = match grps l with | some x => if x.length ≤ 8 then some x else none | none => none := by
 unfold grps8 grps
 split
 ·rfl
 ·by_cases h : (pcs 58 l).all grpB = true
  ·rw [if_pos h]; simp
  ·rw [if_neg h]; simp
def StIn (w : World) (v : Value) (xs : List (List UInt8)) : Prop :=
 (xs = [] ∧ ∃ a c, v = .slice a 0 c) ∨ (xs ≠ [] ∧ ∃ b c, v = .slice (some ⟨b, 0, none⟩) xs.length c ∧ xs.length ≤ c ∧ b < w.heap.size ∧ Txs w b xs)
def GrP (s : ByteArray) (w : World) (e : Ending) (w' : World) : Prop :=
 (∃ v xs, grps8 s.data.toList = some xs ∧ e = .returned (.tuple #[v, .bool true]) ∧ StIn w' v xs ∧ Below w.heap.size w w') ∨ (grps8 s.data.toList = none ∧ e = .returned (.tuple #[.slice none 0 0, .bool false]) ∧ Below w.heap.size w w')
theorem trimB_S (l : List UInt8) (c : UInt8) : Lib.trimLeftB l c = Lib.trimLeftS l [c] := by
 unfold Lib.trimLeftB Lib.trimLeftS
 congr 1; funext x; rw [Bool.eq_iff_iff]; simp
theorem isEmpty_data (s : ByteArray) (h : s.data.toList = []) : ¬ 1 ≤ s.size := by rw [← len_list, h]; simp
theorem not_empty_data (s : ByteArray) (h : s.data.toList ≠ []) : 1 ≤ s.size := by rw [← len_list]; exact List.length_pos_iff.2 h
theorem grp_parts (x : List UInt8) (h : grpB x = true) : 1 ≤ x.length ∧ x.length ≤ 4 := by
 unfold grpB at h; simp only [Bool.and_eq_true, decide_eq_true_eq] at h; exact ⟨h.1.1, h.1.2⟩
theorem cat_txt (a b : List UInt8) : Txt a ++ Txt b = Txt (a ++ b) := by
 unfold Txt
 apply ByteArray.ext
 rw [ByteArray.data_append]
 simp
theorem strip_cat (x : List UInt8) (h : 1 ≤ x.length) (s : ByteArray) (hs : s = Txt x) : (⟨(Lib.trimLeftB s.data.toList.dropLast 48).toArray⟩ : ByteArray) ++ s.extract (s.size - 1) s.size = Txt (stripZ x) := by
 subst hs
 have hne : x ≠ [] := by rintro rfl; simp at h
 have e2 : (Txt x).extract ((Txt x).size - 1) (Txt x).size = Txt [x.getLast hne] := by
  rw [← txt_self ((Txt x).extract ((Txt x).size - 1) (Txt x).size), drop_data, txt_list, txt_size]
  congr 1
  rw [List.drop_eq_getElem_cons (by omega), List.getLast_eq_getElem, List.drop_eq_nil_of_le (by omega)]
 rw [e2, txt_list, trimB_S, ← strip_trim x hne]
 exact cat_txt _ _
def grpAt (ps : List (List UInt8)) (k : Nat) : List (List UInt8) := (ps.take k).map grpN ++ ps.drop k
theorem grpAt_len (ps : List (List UInt8)) (k : Nat) (h : k ≤ ps.length) : (grpAt ps k).length = ps.length := by
 unfold grpAt; simp; omega
theorem grpAt_get (ps : List (List UInt8)) (k : Nat) (x : List UInt8) (h : ps[k]? = some x) : (grpAt ps k)[k]? = some x := by
 have hk := (List.getElem?_eq_some_iff.1 h).1
 unfold grpAt
 have hl : ((ps.take k).map grpN).length = k := by simp; omega
 rw [List.getElem?_append_right (by omega), hl, Nat.sub_self, List.getElem?_drop]; simpa using h
theorem grpAt_set (ps : List (List UInt8)) (k : Nat) (x : List UInt8) (h : ps[k]? = some x) : (grpAt ps k).set k (grpN x) = grpAt ps (k + 1) := by
 obtain ⟨hk, rfl⟩ := List.getElem?_eq_some_iff.1 h
 unfold grpAt
 have hl : ((ps.take k).map grpN).length = k := by simp; omega
 rw [List.set_append_right _ _ (by omega), hl, Nat.sub_self, List.drop_eq_getElem_cons hk, List.set_cons_zero, List.take_succ_eq_append_getElem hk, List.map_append, List.append_assoc]
 rfl
set_option maxRecDepth 100000 in
set_option maxHeartbeats 1000000 in
theorem groups_any (s : ByteArray) (w : World) (hs : s.size ≤ 2097152) (E : Env w) :
   Calls Tryz.prog 144 #[.string s] w (GrP s w) := by
 by_cases h1 : 1 ≤ s.size
 ·have he := isEmpty_no s h1
  have hn := toList_ne s h1
  have hne : s.data.toList ≠ [] := fun h => isEmpty_data s h h1
  have Hne := Lib.hid hne
  have hsm : ∀ x ∈ pcs 58 s.data.toList, x.length ≤ s.size := fun x hx => by have := pcs_small 58 _ x hx; rwa [len_list] at this
  have Hsm := Lib.hid hsm;clear hsm hne
  go_enter Tryz.func144, Tryz.ntmps144
  go_wp2_with fail
  refine (splitN_any 58 9 (by omega) (by omega) s _ hs E).mono ?_
  rintro e w1 ⟨ps, cap, rfl, h1', h2, hcap, hBk, hB⟩
  have H1 := Lib.hid h1';have H2 := Lib.hid h2;have HBk := Lib.hid hBk;clear h1' h2 hBk
  by_cases h8 : ps.length ≤ 8
  ·have hps : pcs 58 s.data.toList = ps := by
     rcases Nat.lt_or_ge 9 (pcs 58 s.data.toList).length with h | h
     ·have := H2.out h; omega
     ·exact (H1.out h).symm
   have Hps := Lib.hid hps
   have h8i : (ps.length : Int) ≤ 8 := by omega
   clear hps
   go_wp2_with fail
   go_loopw [5, 6, 7, 17] (fun _ _ _ i wr => ∃ k : Nat, k ≤ ps.length ∧ i = .int .i64 k ∧ (ps.take k).all grpB = true ∧ Blk wr w.heap.size 9 (Lib.cellsOf ((grpAt ps k).map Txt) cap) ∧ Below w.heap.size w wr) (fun _ _ _ i _ => ps.length - (intOf i).toNat)
   case atStart => exact ⟨0, by omega, rfl, rfl, HBk.out, hB⟩
   case round =>
    obtain ⟨k, hk, rfl, ha, hBr, hB2⟩ := hrel
    have Ha := Lib.hid ha;have HBr := Lib.hid hBr;clear ha hBr
    by_cases hlt : k < ps.length
    ·obtain ⟨x, hx⟩ : ∃ x, ps[k]? = some x := ⟨_, List.getElem?_eq_getElem hlt⟩
     have hc := HBr.out.cell k
     rw [cellsOf_at _ cap k x (grpAt_get ps k x hx)] at hc
     have Hx := Lib.hid hx
     have hxl := Hsm.out x (by rw [Hps.out]; exact List.mem_of_getElem? hx)
     have hxs : (Txt x).size ≤ 2097152 := by rw [txt_size]; omega
     clear hx
     cases hl : grpB x
     ·have HL := Lib.hid (by unfold grps8; rw [if_neg Hne.out, Hps.out, if_pos h8, take_all_false grpB ps k x Hx.out hl]; rfl : grps8 s.data.toList = none)
      have Hl := Lib.hid hl;clear hl
      go_wp2_with fail
      refine (isGroup_any (Txt x) _ hxs).mono ?_
      rintro e w' ⟨rfl, rfl⟩
      rw [txt_list, Hl.out]
      go_wp2_with fail
      go_ret2
      exact .inr ⟨HL.out, rfl, hB2⟩
     ·have hp := grp_parts x hl
      have Hl := Lib.hid hl;have Hn := Lib.hid (take_all_snoc grpB ps k x Hx.out)
      obtain ⟨t, ht⟩ : ∃ t, Txt x = t := ⟨_, rfl⟩
      have hts : t.size = x.length := by rw [← ht, txt_size]
      have Hcat := Lib.hid (strip_cat x hp.1 t ht.symm)
      have hx1 : 1 ≤ t.size := by omega
      have hx4 : t.size ≤ 4 := by omega
      rw [ht] at hc hxs
      have Htl := Lib.hid (by rw [← ht, txt_list] : t.data.toList = x)
      have hsz := hB2.size
      have htl4 : (Lib.trimLeftB t.data.toList.dropLast 48).length ≤ 4 := by
       unfold Lib.trimLeftB
       have := (List.dropWhile_sublist (fun b : UInt8 => b == 48) (l := t.data.toList.dropLast)).length_le
       rw [List.length_dropLast, len_list] at this; omega
      clear hl hts ht hp
      go_wp2_with fail
      refine (isGroup_any t _ hxs).mono ?_
      rintro e w' ⟨rfl, rfl⟩
      rw [Htl.out, Hl.out]
      go_wp2_with fail
      refine (Tryz.strings_TrimLeft_one _ 48 (by decide) _).mono ?_
      rintro e w' ⟨rfl, rfl⟩
      go_wp2_with fail
      rw [Hcat.out]
      have hsl := stripZ_len x;have hbl := HBr.out.lt
      refine (lower_any (Txt (stripZ x)) _ (by rw [txt_size]; omega)).mono ?_
      rintro e w2 ⟨rfl, hb2⟩
      have HB2 := Lib.hid (HBr.out.below hb2 hbl);have hc2 := HB2.out.cell k
      rw [cellsOf_at _ cap k x (grpAt_get ps k x Hx.out)] at hc2
      have hf2 := HB2.out.frozen k
      go_wp2_with fail
      go_roundw
      case rel => exact ⟨k + 1, by omega, by go_num, by rw [Hn.out, Ha.out, Hl.out]; rfl, by
       have := HB2.out.set_ k (.string (Txt (grpN x)))
       rw [cellsOf_put _ cap k _ (by rw [grpAt_len ps k (by omega)]; exact hlt), grpAt_set ps k x Hx.out] at this
       exact this, (hB2.trans (hb2.mono hsz)).setCell (p := ⟨w.heap.size, k, none⟩) (Nat.le_refl _) _⟩
      case measure => simp [intOf]; omega
    ·have hk' : k = ps.length := by omega
     have HL := Lib.hid (by unfold grps8; rw [if_neg Hne.out, Hps.out, if_pos h8, if_pos (by have := Ha.out; rwa [List.take_of_length_le (by omega)] at this)] : grps8 s.data.toList = some (ps.map grpN))
     have HAt := Lib.hid (by unfold grpAt; rw [List.take_of_length_le (by omega), List.drop_eq_nil_of_le (by omega), List.append_nil] : grpAt ps k = ps.map grpN)
     clear hk'
     go_wp2_with fail
     go_ret2
     refine .inl ⟨_, _, HL.out, rfl, .inr ⟨?_, w.heap.size, cap, ?_, ?_, ?_, ?_⟩, hB2⟩
     ·intro h
      rw [List.map_eq_nil_iff] at h
      exact pcs_ne 58 s.data.toList (by rw [Hps.out]; exact h)
     ·rw [List.length_map]; rfl
     ·rw [List.length_map]; exact hcap
     ·exact HBr.out.lt
     ·intro j y hy
      rw [← HAt.out] at hy
      rw [HBr.out.cell j, cellsOf_at _ cap j y hy]; rfl
  ·have HF := Lib.hid (by
     unfold grps8
     have : ¬ (pcs 58 s.data.toList).length ≤ 8 := by
      intro h
      have := H1.out (by omega)
      rw [this] at h8; exact h8 h
     rw [if_neg Hne.out, if_neg this] : grps8 s.data.toList = none)
   have h8i : 8 < (ps.length : Int) := by omega
   go_wp2_with fail
   go_ret2
   exact .inr ⟨HF.out, rfl, hB⟩
 ·have he := isEmpty_yes s h1
  have hn := toList_nil s h1
  have hF := Lib.hid (by unfold grps8; rw [if_pos (List.eq_nil_of_length_eq_zero (by rw [len_list]; omega))] : grps8 s.data.toList = some [])
  go_enter Tryz.func144, Tryz.ntmps144
  go_wp2_with fail
  go_ret2
  exact .inl ⟨_, [], hF.out, rfl, .inl ⟨rfl, _, _, rfl⟩, Below.refl _ _⟩
end Ad
end Go.Proofs.YtbcaindpbeaheaaGreatDoor
namespace Go.Proofs.YtbcaindpbeaheaaGreatDoor
namespace Ad
open Go.RowKit Lx
theorem joinL_len (c : UInt8) (xs : List (List UInt8)) (m : Nat) (h : ∀ x ∈ xs, x.length ≤ m) : (joinL c xs).length ≤ xs.length * (m + 1) := by
 induction xs with
 | nil => simp [joinL]
 | cons a r ih =>
   have ha := h a (List.mem_cons_self ..)
   have ih := ih (fun x hx => h x (List.mem_cons_of_mem _ hx))
   cases r with
   | nil => simp [joinL]; omega
   | cons b r =>
     rw [joinL, List.length_append, List.length_cons]
     simp only [List.length_cons] at ih ⊢
     rw [Nat.add_mul]; omega
theorem join_any (c : UInt8) (v : Value) (xs : List (List UInt8)) (w : World) (h : StIn w v xs) (hl : xs.length ≤ 4194304) (hj : (joinL c xs).length ≤ 140737488355328) :
   Calls Tryz.prog 10 #[v, .string ⟨#[c]⟩] w (RetNew (joinL c xs) w) := by
 rcases h with ⟨rfl, a, cap, rfl⟩ | ⟨hne, b, cap, rfl, hc, hb, hT⟩
 ·refine (Tryz.strings_Join_none a cap _ w).mono ?_
  rintro e w' ⟨rfl, rfl⟩
  exact ⟨rfl, Below.refl _ _⟩
 ·have hmap : (xs.map Txt).map (·.data.toList) = xs := by
    rw [List.map_map]
    conv => rhs; rw [← List.map_id xs]
    exact List.map_congr_left (fun x _ => txt_list x)
  have key := Tryz.strings_Join b 0 cap (xs.map Txt) ⟨#[c]⟩ w (fun j x hx => by
   rw [List.getElem?_map, Option.map_eq_some_iff] at hx
   obtain ⟨y, hy, rfl⟩ := hx
   rw [Nat.zero_add]; exact hT j y hy) hb (by rw [List.length_map]; omega) (by rw [List.length_map]; exact hc) (by rw [hmap]; show (Lib.join xs [c]).length ≤ _; rw [join_joinL]; exact hj)
  rw [List.length_map, hmap] at key
  refine key.mono ?_
  rintro e w' ⟨rfl, hB⟩
  exact ⟨by show _ = Ending.returned (.string ⟨(joinL c xs).toArray⟩); rw [← join_joinL], hB⟩
theorem StIn.below {w w' : World} {v : Value} {xs : List (List UInt8)} (h : StIn w v xs) (hb : Below w.heap.size w w') : StIn w' v xs := by
 rcases h with h | ⟨hne, b, c, hv, hc, hbl, hT⟩
 ·exact .inl h
 ·exact .inr ⟨hne, b, c, hv, hc, Nat.lt_of_lt_of_le hbl hb.size, fun j x hx => (hb.cell (p := ⟨b, j, none⟩) hbl).trans (hT j x hx)⟩
theorem StIn.len {w : World} {v : Value} {xs : List (List UInt8)} (h : StIn w v xs) : ∃ a c, v = .slice a xs.length c := by
 rcases h with ⟨rfl, a, c, rfl⟩ | ⟨_, b, c, rfl, _⟩
 ·exact ⟨a, c, rfl⟩
 ·exact ⟨_, c, rfl⟩
theorem StIn.form {w : World} {a : Option Addr} {n c : Nat} {xs : List (List UInt8)} (h : StIn w (.slice a n c) xs) : n = xs.length := by
 obtain ⟨a', c', e⟩ := h.len
 injection e
def brO (l : List UInt8) : Option (List UInt8) := if l.tail.getLast? = some 93 then (six l.tail.dropLast).map fun x => [91] ++ x ++ [93] else none
theorem six_gap (l a b : List UInt8) (h : cut2 l = some (a, b)) : six l = match grps8 a, grps8 b with | some x, some y => if x.length + y.length < 8 then some (joinL 58 x ++ [58, 58] ++ joinL 58 y) else none | _, _ => none := by
 unfold six
 rw [h]
 dsimp only
 rw [grps8_spec, grps8_spec]
 cases ha : grps a with
 | none => rfl
 | some x =>
   cases hb : grps b with
   | none =>
     dsimp only
     by_cases hx : x.length ≤ 8
     ·rw [if_pos hx]
     ·rw [if_neg hx]
   | some y =>
     dsimp only
     by_cases hx : x.length ≤ 8
     ·by_cases hy : y.length ≤ 8
      ·rw [if_pos hx, if_pos hy]
      ·rw [if_pos hx, if_neg hy, if_neg (by omega)]
     ·rw [if_neg hx, if_neg (by omega)]
theorem six_plain (l : List UInt8) (h : cut2 l = none) : six l = match grps8 l with | some x => if x.length = 8 then some (joinL 58 x) else none | none => none := by
 unfold six
 rw [h]
 dsimp only
 rw [grps8_spec]
 cases ha : grps l with
 | none => rfl
 | some x =>
   dsimp only
   by_cases hx : x.length ≤ 8
   ·rw [if_pos hx]
   ·rw [if_neg hx, if_neg (by omega)]
theorem suffix_last (l : List UInt8) : Lib.hasSuffix l [93] = decide (l.getLast? = some 93) := by
 unfold Lib.hasSuffix
 rw [Bool.eq_iff_iff, List.isSuffixOf_iff_suffix, decide_eq_true_iff]
 constructor
 ·rintro ⟨t, rfl⟩; simp
 ·intro h
  have hne : l ≠ [] := by rintro rfl; cases h
  rw [List.getLast?_eq_some_getLast hne] at h
  injection h with h
  exact ⟨l.dropLast, by rw [← h]; exact List.dropLast_concat_getLast hne⟩
theorem trim_last (l : List UInt8) (h : l.getLast? = some 93) : Lib.trimSuffix l [93] = l.dropLast := by
 unfold Lib.trimSuffix
 rw [suffix_last, if_pos (by simpa using h), List.dropLast_eq_take]; rfl
theorem tail_data (s : ByteArray) : (s.extract 1 s.size).data.toList = s.data.toList.tail := by
 rw [drop_data, List.drop_one]
def HoP (o : Option (List UInt8)) (w : World) (e : Ending) (w' : World) : Prop := e = .returned (.tuple #[.string (Txt (o.getD [])), .bool o.isSome]) ∧ Below w.heap.size w w'
theorem grps8_len (l : List UInt8) (x : List (List UInt8)) (h : grps8 l = some x) : x.length ≤ 8 ∧ (∀ g ∈ x, g.length ≤ 4) ∧ (joinL 58 x).length ≤ 40 := by
 have hx : x.length ≤ 8 ∧ (∀ g ∈ x, g.length ≤ 4) := by
  unfold grps8 at h
  split at h
  ·cases h; simp
  ·split at h
   ·rename_i hl
    split at h
    ·rename_i ha
     cases h
     refine ⟨by rw [List.length_map]; exact hl, ?_⟩
     intro g hg
     rw [List.mem_map] at hg
     obtain ⟨y, hy, rfl⟩ := hg
     have h1 := (grp_parts y (List.all_eq_true.1 ha y hy)).2
     unfold grpN
     rw [lowL_len]
     have := stripZ_len y; omega
    ·cases h
   ·cases h
 refine ⟨hx.1, hx.2, ?_⟩
 have := joinL_len 58 x 4 hx.2
 have := hx.1
 omega
theorem cutS_yes (t : ByteArray) (ins : List UInt8) (w : World) (hs : t.size ≤ 2097152) (h : t.data.toList.getLast? = some 93) (hi : t.data.toList.dropLast = ins) :
   Calls Tryz.prog 143 #[.string t, .string ⟨#[93]⟩] w (Ret (.tuple #[.string (Txt ins), .bool true]) w) := by
 refine (Tryz.strings_CutSuffix t ⟨#[93]⟩ w (by omega)).mono ?_
 rintro e w' ⟨rfl, rfl⟩
 refine ⟨ret_sb ?_ ?_, rfl⟩
 ·show (⟨(Lib.trimSuffix t.data.toList [93]).toArray⟩ : ByteArray) = Txt ins
  rw [trim_last _ h, hi]; rfl
 ·show Lib.hasSuffix t.data.toList [93] = true
  rw [suffix_last]; simpa using h
theorem cutS_no (t : ByteArray) (w : World) (hs : t.size ≤ 2097152) (h : t.data.toList.getLast? ≠ some 93) :
   Calls Tryz.prog 143 #[.string t, .string ⟨#[93]⟩] w fun e w' => (∃ x, e = .returned (.tuple #[.string x, .bool false])) ∧ w = w' := by
 refine (Tryz.strings_CutSuffix t ⟨#[93]⟩ w (by omega)).mono ?_
 rintro e w' ⟨rfl, rfl⟩
 refine ⟨⟨_, ret_sb rfl ?_⟩, rfl⟩
 show Lib.hasSuffix t.data.toList [93] = false
 rw [suffix_last]; simpa using h
def CutP (a b : List UInt8) (g : Bool) (w : World) (e : Ending) (w' : World) : Prop := e = .returned (.tuple #[.string (Txt a), .string (Txt b), .bool g]) ∧ Below w.heap.size w w'
theorem cut_any (x a b : List UInt8) (g : Bool) (w : World) (hs : x.length ≤ 2097152) (E : Env w) (h : Lib.cut x [58, 58] = (a, b, g)) :
   Calls Tryz.prog 99 #[.string (Txt x), .string ⟨#[58, 58]⟩] w (CutP a b g w) := by
 obtain ⟨m, hm⟩ := E.m
 refine (Tryz.strings_Cut (Txt x) ⟨#[58, 58]⟩ m w (by rw [txt_size]; omega) hm).mono ?_
 rintro e w' ⟨rfl, n, rfl⟩
 refine ⟨?_, (Kp.refl [] w).drewN n |>.nilBelow⟩
 have : Lib.cut (Txt x).data.toList (⟨#[58, 58]⟩ : ByteArray).data.toList = (a, b, g) := h
 rw [this]; rfl
theorem sixcat (x y : List UInt8) (m : List UInt8) : (((⟨#[91]⟩ : ByteArray) ++ (⟨x.toArray⟩ : ByteArray)) ++ (⟨m.toArray⟩ : ByteArray)) ++ (⟨y.toArray⟩ : ByteArray) ++ (⟨#[93]⟩ : ByteArray) = Txt ([91] ++ (x ++ m ++ y) ++ [93]) := by
 have h1 : (⟨#[91]⟩ : ByteArray) = Txt [91] := rfl
 have h2 : (⟨#[93]⟩ : ByteArray) = Txt [93] := rfl
 show Txt [91] ++ Txt x ++ Txt m ++ Txt y ++ Txt [93] = _
 rw [cat_txt, cat_txt, cat_txt, cat_txt]
 congr 1
theorem len_le_of_cut (l a b : List UInt8) (h : cut2 l = some (a, b)) : a.length ≤ l.length ∧ b.length ≤ l.length := by
 induction l generalizing a b with
 | nil => simp [cut2] at h
 | cons c t ih =>
   cases t with
   | nil => simp [cut2] at h
   | cons d r =>
     rw [cut2] at h
     split at h
     ·cases h; simp; omega
     ·rw [Option.map_eq_some_iff] at h
      obtain ⟨q, hq, e⟩ := h
      cases e
      have := ih q.1 q.2 hq
      simp only [List.length_cons] at this ⊢; omega
set_option maxRecDepth 100000 in
set_option maxHeartbeats 2000000 in
theorem bracket_any (s : ByteArray) (w : World) (hs : s.size ≤ 2097152) (h1 : 1 ≤ s.size) (E : Env w) :
   Calls Tryz.prog 89 #[.string s] w (HoP (brO s.data.toList) w) := by
 obtain ⟨t, ht⟩ : ∃ t, s.extract 1 s.size = t := ⟨_, rfl⟩
 have htl : t.data.toList = s.data.toList.tail := by rw [← ht, tail_data]
 have hts : t.size ≤ 2097152 := by rw [← ht]; simp; omega
 have Ht := Lib.hid ht;clear ht
 by_cases hc : t.data.toList.getLast? = some 93
 ·obtain ⟨ins, hi⟩ : ∃ ins, t.data.toList.dropLast = ins := ⟨_, rfl⟩
  have hil : ins.length ≤ 2097152 := by rw [← hi, List.length_dropLast, len_list]; omega
  have hbr : brO s.data.toList = (six ins).map fun x => [91] ++ x ++ [93] := by unfold brO; rw [← htl, if_pos hc, hi]
  have Hbr := Lib.hid hbr;have HK := Lib.hid (cutS_yes t ins w hts hc hi);have hcut := cut_cut2 ins;clear hc hi hbr htl
  cases h2 : cut2 ins with
  | none =>
    rw [h2] at hcut
    have HS := Lib.hid (six_plain ins h2);have HC := Lib.hid hcut;clear hcut h2
    go_enter Tryz.func89, Tryz.ntmps89
    go_wp2_with fail
    rw [Ht.out]
    refine HK.out.mono ?_
    rintro e w' ⟨rfl, rfl⟩
    go_wp2_with fail
    refine (cut_any ins ins [] false _ hil E HC.out).mono ?_
    rintro e w1 ⟨rfl, hB1⟩
    have E1 := E.below hB1
    go_wp2_with fail
    refine (groups_any (Txt ins) _ (by rw [txt_size]; omega) E1).mono ?_
    rintro e w2 (⟨v, xs, hg, rfl, hS, hB2⟩ | ⟨hg, rfl, hB2⟩)
    ·rw [txt_list] at hg
     have hb := grps8_len ins xs hg;have hj := hb.2.2;have hx8 := hb.1
     have HF := Lib.hid (HS.out.trans (by rw [hg]))
     obtain ⟨a1, c1, rfl⟩ := hS.len
     have HSt := Lib.hid hS;have E2 := E1.below hB2;clear hg hb hS
     go_wp2_with fail
     refine (groups_any (Txt []) _ (by rw [txt_size]; simp) E2).mono ?_
     rintro e w3 (⟨v, ys, hg, rfl, hS, hB3⟩ | ⟨hg, rfl, hB3⟩)
     ·have hy : ys = [] := by rw [txt_list] at hg; exact (Option.some.inj hg).symm
      subst hy
      obtain ⟨a2, c2, rfl⟩ := hS.len
      have HSt2 := Lib.hid hS;have HSt1 := Lib.hid (HSt.out.below hB3);clear hg hS
      by_cases h8 : xs.length = 8
      ·have h8b : ((xs.length : Int) != 8) = false := by rw [h8]; rfl
       have HR := Lib.hid (by rw [Hbr.out, HF.out, if_pos h8]; rfl : brO s.data.toList = some ([91] ++ joinL 58 xs ++ [93]))
       have hj8 : (joinL 58 ([] : List (List UInt8))).length ≤ 40 := by decide
       clear h8
       go_wp2_with fail
       refine (join_any 58 _ xs _ HSt1.out (by omega) (by omega)).mono ?_
       rintro e w4 ⟨rfl, hB4⟩
       have HSt3 := Lib.hid (HSt2.out.below hB4)
       go_wp2_with fail
       refine (join_any 58 _ [] _ HSt3.out (by simp) (by simp [joinL])).mono ?_
       rintro e w5 ⟨rfl, hB5⟩
       go_wp2_with fail
       go_ret2
       refine ⟨?_, ?_⟩
       ·rw [HR.out]
        refine ret_sb ?_ rfl
        have := sixcat (joinL 58 xs) [] []
        simpa [Txt, joinL] using this
       ·exact hB1.trans ((hB2.mono hB1.size).trans ((hB3.mono (Nat.le_trans hB1.size hB2.size)).trans ((hB4.mono (Nat.le_trans hB1.size (Nat.le_trans hB2.size hB3.size))).trans (hB5.mono (Nat.le_trans hB1.size (Nat.le_trans hB2.size (Nat.le_trans hB3.size hB4.size)))))))
      ·have h8b : ((xs.length : Int) != 8) = true := by rw [bne_iff_ne]; omega
       have HR := Lib.hid (by rw [Hbr.out, HF.out, if_neg h8]; rfl : brO s.data.toList = none)
       clear h8
       go_wp2_with fail
       go_ret2
       refine ⟨?_, ?_⟩
       ·rw [HR.out]; exact ret_sb rfl rfl
       ·exact hB1.trans ((hB2.mono hB1.size).trans (hB3.mono (Nat.le_trans hB1.size hB2.size)))
     ·rw [txt_list] at hg; cases hg
    ·rw [txt_list] at hg
     have HR := Lib.hid (by rw [Hbr.out, HS.out, hg]; rfl : brO s.data.toList = none)
     have E2 := E1.below hB2;clear hg
     go_wp2_with fail
     refine (groups_any (Txt []) _ (by rw [txt_size]; simp) E2).mono ?_
     rintro e w3 (⟨v, ys, hg, rfl, hS, hB3⟩ | ⟨hg, rfl, hB3⟩)
     ·obtain ⟨a2, c2, rfl⟩ := hS.len
      have hy : ys = [] := by rw [txt_list] at hg; exact (Option.some.inj hg).symm
      subst hy
      clear hg hS
      go_wp2_with fail
      go_ret2
      refine ⟨?_, ?_⟩
      ·rw [HR.out]; exact ret_sb rfl rfl
      ·exact hB1.trans ((hB2.mono hB1.size).trans (hB3.mono (Nat.le_trans hB1.size hB2.size)))
     ·rw [txt_list] at hg; cases hg
  | some p =>
    obtain ⟨a, b⟩ := p
    rw [h2] at hcut
    have HS := Lib.hid (six_gap ins a b h2);have HC := Lib.hid hcut;have hab := len_le_of_cut ins a b h2;clear hcut h2
    go_enter Tryz.func89, Tryz.ntmps89
    go_wp2_with fail
    rw [Ht.out]
    refine HK.out.mono ?_
    rintro e w' ⟨rfl, rfl⟩
    go_wp2_with fail
    refine (cut_any ins a b true _ hil E HC.out).mono ?_
    rintro e w1 ⟨rfl, hB1⟩
    have E1 := E.below hB1
    go_wp2_with fail
    refine (groups_any (Txt a) _ (by rw [txt_size]; omega) E1).mono ?_
    rintro e w2 (⟨v, xs, hg, rfl, hS, hB2⟩ | ⟨hg, rfl, hB2⟩)
    ·rw [txt_list] at hg
     have hb := grps8_len a xs hg;have hj := hb.2.2;have hx8 := hb.1;have HG := Lib.hid hg
     obtain ⟨a1, c1, rfl⟩ := hS.len
     have HSt := Lib.hid hS;have E2 := E1.below hB2;clear hg hb hS
     go_wp2_with fail
     refine (groups_any (Txt b) _ (by rw [txt_size]; omega) E2).mono ?_
     rintro e w3 (⟨v, ys, hg, rfl, hS, hB3⟩ | ⟨hg, rfl, hB3⟩)
     ·rw [txt_list] at hg
      have hb := grps8_len b ys hg;have hj2 := hb.2.2;have hy8 := hb.1
      have HF := Lib.hid (HS.out.trans (by rw [HG.out, hg]))
      obtain ⟨a2, c2, rfl⟩ := hS.len
      have HSt2 := Lib.hid hS;have HSt1 := Lib.hid (HSt.out.below hB3);clear hg hS hb
      by_cases h8 : xs.length + ys.length < 8
      ·have h8b : (xs.length : Int) + (ys.length : Int) < 8 := by omega
       have HR := Lib.hid (by rw [Hbr.out, HF.out]; dsimp only; rw [if_pos h8]; rfl : brO s.data.toList = some ([91] ++ (joinL 58 xs ++ [58, 58] ++ joinL 58 ys) ++ [93]))
       clear h8
       go_wp2_with fail
       refine (join_any 58 _ xs _ HSt1.out (by omega) (by omega)).mono ?_
       rintro e w4 ⟨rfl, hB4⟩
       have HSt3 := Lib.hid (HSt2.out.below hB4)
       go_wp2_with fail
       refine (join_any 58 _ ys _ HSt3.out (by omega) (by omega)).mono ?_
       rintro e w5 ⟨rfl, hB5⟩
       go_wp2_with fail
       go_ret2
       refine ⟨?_, ?_⟩
       ·rw [HR.out]
        refine ret_sb ?_ rfl
        exact sixcat (joinL 58 xs) (joinL 58 ys) [58, 58]
       ·exact hB1.trans ((hB2.mono hB1.size).trans ((hB3.mono (Nat.le_trans hB1.size hB2.size)).trans ((hB4.mono (Nat.le_trans hB1.size (Nat.le_trans hB2.size hB3.size))).trans (hB5.mono (Nat.le_trans hB1.size (Nat.le_trans hB2.size (Nat.le_trans hB3.size hB4.size)))))))
      ·have h8b : 8 ≤ (xs.length : Int) + (ys.length : Int) := by omega
       have HR := Lib.hid (by rw [Hbr.out, HF.out]; dsimp only; rw [if_neg h8]; rfl : brO s.data.toList = none)
       clear h8
       go_wp2_with fail
       go_ret2
       refine ⟨?_, ?_⟩
       ·rw [HR.out]; exact ret_sb rfl rfl
       ·exact hB1.trans ((hB2.mono hB1.size).trans (hB3.mono (Nat.le_trans hB1.size hB2.size)))
     ·rw [txt_list] at hg
      have HR := Lib.hid (by rw [Hbr.out, HS.out, HG.out, hg]; rfl : brO s.data.toList = none)
      clear hg
      go_wp2_with fail
      go_ret2
      refine ⟨?_, ?_⟩
      ·rw [HR.out]; exact ret_sb rfl rfl
      ·exact hB1.trans ((hB2.mono hB1.size).trans (hB3.mono (Nat.le_trans hB1.size hB2.size)))
    ·rw [txt_list] at hg
     have HR := Lib.hid (by rw [Hbr.out, HS.out, hg]; rfl : brO s.data.toList = none)
     have E2 := E1.below hB2;clear hg
     go_wp2_with fail
     refine (groups_any (Txt b) _ (by rw [txt_size]; omega) E2).mono ?_
     rintro e w3 (⟨v, ys, hg, rfl, hS, hB3⟩ | ⟨hg, rfl, hB3⟩)
     ·obtain ⟨a2, c2, rfl⟩ := hS.len
      clear hg hS
      go_wp2_with fail
      go_ret2
      refine ⟨?_, ?_⟩
      ·rw [HR.out]; exact ret_sb rfl rfl
      ·exact hB1.trans ((hB2.mono hB1.size).trans (hB3.mono (Nat.le_trans hB1.size hB2.size)))
     ·clear hg
      go_wp2_with fail
      go_ret2
      refine ⟨?_, ?_⟩
      ·rw [HR.out]; exact ret_sb rfl rfl
      ·exact hB1.trans ((hB2.mono hB1.size).trans (hB3.mono (Nat.le_trans hB1.size hB2.size)))
 ·have HR := Lib.hid (by unfold brO; rw [← htl, if_neg hc] : brO s.data.toList = none)
  have HK := Lib.hid (cutS_no t w hts hc);clear hc htl
  go_enter Tryz.func89, Tryz.ntmps89
  go_wp2_with fail
  rw [Ht.out]
  refine HK.out.mono ?_
  rintro e w' ⟨⟨x, rfl⟩, rfl⟩
  go_wp2_with fail
  go_ret2
  refine ⟨?_, Below.refl _ _⟩
  rw [HR.out]; exact ret_sb rfl rfl
theorem prefix_head (l : List UInt8) : Lib.hasPrefix l [91] = decide (l.head? = some 91) := by
 unfold Lib.hasPrefix
 cases l with
 | nil => rfl
 | cons c t =>
   simp only [List.isPrefixOf, Bool.and_true, List.head?_cons, Option.some.injEq]
   rw [Bool.eq_iff_iff, beq_iff_eq, decide_eq_true_iff]; exact ⟨Eq.symm, Eq.symm⟩
theorem hasP_any (s : ByteArray) (w : World) : Calls Tryz.prog 54 #[.string s, .string ⟨#[91]⟩] w (Ret (.bool (decide (s.data.toList.head? = some 91))) w) := by
 refine (Tryz.strings_HasPrefix s ⟨#[91]⟩ w).mono ?_
 rintro e w' ⟨rfl, rfl⟩
 refine ⟨ret_bool ?_, rfl⟩
 exact prefix_head s.data.toList
set_option maxRecDepth 100000 in
set_option maxHeartbeats 400000 in
theorem Host_any (s : ByteArray) (w : World) (hs : s.size ≤ 2097152) (E : Env w) :
   Calls Tryz.prog 50 #[.string s] w (HoP (hostO s.data.toList) w) := by
 have HE := Lib.hid E
 by_cases h91 : s.data.toList.head? = some 91
 ·have h1 : 1 ≤ s.size := not_empty_data s (by rintro h; rw [h] at h91; cases h91)
  have HH := Lib.hid (by unfold hostO; rw [if_pos h91]; rfl : hostO s.data.toList = brO s.data.toList)
  have Hp := Lib.hid (decide_eq_true h91);clear h91 E
  go_enter Tryz.func50, Tryz.ntmps50
  go_wp2_with fail
  refine (hasP_any s _).mono ?_
  rintro e w' ⟨rfl, rfl⟩
  rw [Hp.out]
  go_wp2_with fail
  refine (bracket_any s _ hs h1 HE.out).mono ?_
  rintro e w1 ⟨rfl, hB⟩
  go_wp2_with fail
  go_ret2
  exact ⟨by rw [HH.out]; rfl, hB⟩
 ·have Hp := Lib.hid (decide_eq_false h91)
  cases hn : nameB s.data.toList
  ·cases hf : fourB s.data.toList
   ·have HH := Lib.hid (by unfold hostO; rw [if_neg h91, if_neg (by rw [hn]; simp), if_neg (by rw [hf]; simp)] : hostO s.data.toList = none)
    have Hn := Lib.hid hn;have Hf := Lib.hid hf;clear h91 E hn hf
    go_enter Tryz.func50, Tryz.ntmps50
    go_wp2_with fail
    refine (hasP_any s _).mono ?_
    rintro e w' ⟨rfl, rfl⟩
    rw [Hp.out]
    go_wp2_with fail
    refine (isName_any s _ hs HE.out).mono ?_
    rintro e w1 ⟨rfl, hB⟩
    rw [Hn.out]
    go_wp2_with fail
    refine (isFour_any s _ hs (HE.out.below hB)).mono ?_
    rintro e w2 ⟨rfl, hB2⟩
    rw [Hf.out]
    go_wp2_with fail
    go_ret2
    exact ⟨by rw [HH.out]; rfl, hB.trans (hB2.mono hB.size)⟩
   ·have HH := Lib.hid (by unfold hostO; rw [if_neg h91, if_neg (by rw [hn]; simp), if_pos hf] : hostO s.data.toList = some s.data.toList)
    have Hn := Lib.hid hn;have Hf := Lib.hid hf;clear h91 E hn hf
    go_enter Tryz.func50, Tryz.ntmps50
    go_wp2_with fail
    refine (hasP_any s _).mono ?_
    rintro e w' ⟨rfl, rfl⟩
    rw [Hp.out]
    go_wp2_with fail
    refine (isName_any s _ hs HE.out).mono ?_
    rintro e w1 ⟨rfl, hB⟩
    rw [Hn.out]
    go_wp2_with fail
    refine (isFour_any s _ hs (HE.out.below hB)).mono ?_
    rintro e w2 ⟨rfl, hB2⟩
    rw [Hf.out]
    go_wp2_with fail
    go_ret2
    exact ⟨by rw [HH.out]; exact ret_sb (txt_self s).symm rfl, hB.trans (hB2.mono hB.size)⟩
  ·have HH := Lib.hid (by unfold hostO; rw [if_neg h91, if_pos hn] : hostO s.data.toList = some (lowL s.data.toList))
   have Hn := Lib.hid hn;clear h91 E hn
   go_enter Tryz.func50, Tryz.ntmps50
   go_wp2_with fail
   refine (hasP_any s _).mono ?_
   rintro e w' ⟨rfl, rfl⟩
   rw [Hp.out]
   go_wp2_with fail
   refine (isName_any s _ hs HE.out).mono ?_
   rintro e w1 ⟨rfl, hB⟩
   rw [Hn.out]
   go_wp2_with fail
   refine (lower_any s _ (by omega)).mono ?_
   rintro e w2 ⟨rfl, hB2⟩
   go_wp2_with fail
   go_ret2
   exact ⟨by rw [HH.out]; rfl, hB.trans (hB2.mono hB.size)⟩
end Ad
end Go.Proofs.YtbcaindpbeaheaaGreatDoor
