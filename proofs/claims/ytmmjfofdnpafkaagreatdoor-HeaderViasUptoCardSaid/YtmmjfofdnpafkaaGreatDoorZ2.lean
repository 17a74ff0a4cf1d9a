/- Texts of one set of library modules: M2. -/
import Derived.Test.YtmmjfofdnpafkaaGreatDoorZ1
import Derived.Test.YtmmjfofdnpafkaaGreatDoorShelf
import Derived.RegionTactic
import Derived.WalkKit
import Derived.WalkSpells
import Derived.WalkLawsBesides
import Derived.Deep.QuietTactic
import Derived.BigQuiet
import Derived.Lib.Hide
import Derived.KernelRfl
import Derived.LoopTactic
import Derived.Shelf.Abstract
import Derived.Lib.Strings
import Derived.WalkMore
import Derived.Outline
import Derived.Lib.BufferRead
import Derived.Laws.IdiomStrings
import Derived.Maps.AppendAt
namespace Go.Proofs.YtmmjfofdnpafkaaGreatDoor
namespace Lx
open Go.RowKit Go.Shelf
theorem sizeBuilder : (Tryz.prog.info? 131).map (·.size) = some 2 := by kernel_rfl
theorem liesBuilder : liesAt Tryz.prog Tryz.prog.depth 131 (2 / Tryz.prog.cellsOf 131) 0 131 1 = true := by kernel_rfl
theorem infoByte : (Tryz.prog.info? 5).map (fun i => (i.zero, i.size, i.bytes)) = some (some (.int .u8 0), 1, 1) := by kernel_rfl
abbrev BAt := Lib.BuilderAt 131 5
abbrev IsB := Lib.IsBuilder 131 5
structure Kb (B : Nat) (w w' : World) : Prop where
 below : Below B w w'
 keep : KeepTy [131, 5] w w'
theorem Kb.refl (B : Nat) (w : World) : Kb B w w := ⟨Below.refl _ _, KeepTy.refl _ _⟩
theorem Kb.trans {B : Nat} {a b c : World} (h : Kb B a b) (k : Kb B b c) : Kb B a c := ⟨h.below.trans k.below, h.keep.trans k.keep⟩
theorem Kb.mono {B B' : Nat} {a b : World} (h : Kb B a b) (hB : B' ≤ B) : Kb B' a b := ⟨h.below.mono hB, h.keep⟩
theorem isB_row {B b : Nat} {bs : List Value} {w : World} (h : IsB B b bs w) : ∃ p v, B ≤ b ∧ w.heap[b]? = some (.cells #[.pointer p, v] 131 (0, 0)) ∧ w.ownsRow B 5 1 v bs.length bs ∧ v.ownBlock ≠ some b := by
 rcases h with ⟨h1, v, h2, h3, h4⟩ | ⟨h1, v, h2, h3, h4⟩
 ·exact ⟨_, v, h1, h2, h3, h4⟩
 ·exact ⟨_, v, h1, h2, h3, h4⟩
theorem isB_of {B b : Nat} {p : Value} {bs : List Value} {w : World} (h : BAt B b p bs w) (hp : p = .pointer (some ⟨b, 0, none⟩)) : IsB B b bs w := by subst hp; exact .inr h
set_option maxHeartbeats 1000000 in
set_option maxRecDepth 100000 in
theorem copyCheck_used (b : Nat) (w : World) (h0 : w.cell? ⟨b, 0, none⟩ = some (.pointer (some ⟨b, 0, none⟩))) :
   Calls Tryz.prog 210 #[.pointer (some ⟨b, 0, none⟩)] w fun e w' => e = .returned (.tuple #[]) ∧ w' = w := by
 obtain ⟨j, hj, _⟩ := Option.map_eq_some_iff.1 sizeBuilder
 go_enter Tryz.func210, Tryz.ntmps210
 go_wp2
 rw [Lib.run_neq_ptr_same w _ Tryz.underlying129 hj]
 go_wp2
 go_end0
 exact ⟨rfl, rfl⟩
set_option maxHeartbeats 1000000 in
set_option maxRecDepth 100000 in
theorem copyCheck_fresh (b : Nat) (w : World) (h0 : w.cell? ⟨b, 0, none⟩ = some (.pointer none)) (hsh : w.shape? b = some (131, 2)) (hfz : w.frozen? ⟨b, 0, none⟩ = false) :
   Calls Tryz.prog 210 #[.pointer (some ⟨b, 0, none⟩)] w fun e w' => e = .returned (.tuple #[]) ∧ w' = w.setCell ⟨b, 0, none⟩ (.pointer (some ⟨b, 0, none⟩)) := by
 obtain ⟨j, hj, hjs⟩ := Option.map_eq_some_iff.1 sizeBuilder
 go_enter Tryz.func210, Tryz.ntmps210
 go_wp2
 rw [Lib.run_to_unsafe w ⟨b, 0, none⟩ Tryz.underlying129 Tryz.underlying204 hj (by rw [hjs]; decide) hsh (Nat.zero_lt_succ 1)]
 simp only [Result.andThen]
 rw [Oper.upon_value]
 go_wp2
 rw [run_callFunc_extern Tryz.func271 (by kernel_rfl) (by kernel_rfl) (by kernel_rfl) (e := Extern.AbiNoEscape.same) (by kernel_rfl)]
 rw [Lib.run_noEscape]
 simp only [Result.andThen]
 rw [Oper.upon_value]
 go_wp2
 rw [Lib.run_from_unsafe w ⟨b, 0, none⟩ Tryz.underlying204 Tryz.underlying129 hj hsh liesBuilder]
 simp only [Result.andThen]
 rw [Oper.upon_value]
 go_wp2
 go_end0
 exact ⟨rfl, rfl⟩
theorem copyCheck_any (B b : Nat) (bs : List Value) (w : World) (h : IsB B b bs w) :
   Calls Tryz.prog 210 #[.pointer (some ⟨b, 0, none⟩)] w fun e w' => e = .returned (.tuple #[]) ∧ (BAt B b (.pointer (some ⟨b, 0, none⟩)) bs w' ∧ Kb B w w') := by
 rcases h with h | h
 ·refine (copyCheck_fresh b w h.cell0 h.shape h.frozen0).mono ?_
  rintro e w' ⟨rfl, rfl⟩
  obtain ⟨_, v, hbk, _⟩ := id h
  exact ⟨rfl, h.used _, (Below.refl B w).setCell (p := ⟨b, 0, none⟩) h.1 _, (KeepTy.refl _ w).setCell (p := ⟨b, 0, none⟩) hbk (by simp) _⟩
 ·refine (copyCheck_used b w h.cell0).mono ?_
  rintro e w' ⟨rfl, rfl⟩
  exact ⟨rfl, h, Kb.refl B _⟩
set_option maxHeartbeats 2000000 in
set_option maxRecDepth 100000 in
theorem writeByte_any (B b : Nat) (bs : List Value) (c : Int) (w : World) (h : IsB B b bs w) (hlen : bs.length + 1 ≤ 140737488355328) (hBw : B ≤ w.heap.size) :
   Calls Tryz.prog 123 #[.pointer (some ⟨b, 0, none⟩), .int .u8 c] w fun e w' => e = .returned .nilIface ∧ (BAt B b (.pointer (some ⟨b, 0, none⟩)) (bs ++ [.int .u8 c]) w' ∧ Kb B w w') := by
 obtain ⟨i0, hi, hz0, hz1, hz2⟩ := info_parts infoByte
 go_enter Tryz.func123, Tryz.ntmps123
 go_wp2_with (go_at_call 210; refine (copyCheck_any B b bs _ h).mono ?_)
 rintro e w1 ⟨rfl, h1, hb1, hk1⟩
 obtain ⟨hB, v, hbk, hown, hne⟩ := h1
 have c0 : w1.cell? ⟨b, 0, none⟩ = some (.pointer (some ⟨b, 0, none⟩)) := by rw [Lib.cell_of_heap hbk]; rfl
 have c1 : w1.cell? ⟨b, 1, none⟩ = some v := by rw [Lib.cell_of_heap hbk]; rfl
 go_wp2_with (at_builtin; refine wpList_append_own _ rfl _ _ 118 rfl B 5 i0 (.int .u8 0) 1 1 Tryz.underlying118 hi hz0 hz1 hz2 rfl (by decide) _ _ _ rfl (hown.alloc _) ⟨w1.heap.size, 0, none⟩ 1 1 [.int .u8 c] rfl rfl ?c1 ?c2 ?c3 ?c4 ?c5 ?_)
 case c1 =>
  intro j u hj
  match j, hj with
  | 0, hj => simp at hj; subst hj; simp [Addr.add]
 case c2 => intro u hu; simp at hu; subst hu; rfl
 case c3 => unfold maxLen; omega
 case c4 => omega
 case c5 => have := hb1.size; simp; omega
 intro v' w2 hown' hgrow _
 have hlt : b < w1.heap.size := by
  rcases Nat.lt_or_ge b w1.heap.size with h' | h'
  ·exact h'
  ·simp [Array.getElem?_eq_none h'] at hbk
 have hb2 : w2.heap[b]? = some (.cells #[.pointer (some ⟨b, 0, none⟩), v] 131 (0, 0)) := by
  rw [hgrow.block b (by simp; omega) (fun e => hne e.symm), Lib.alloc_old w1 _ b hlt]
  exact hbk
 have d0 : w2.cell? ⟨b, 0, none⟩ = some (.pointer (some ⟨b, 0, none⟩)) := by rw [Lib.cell_of_heap hb2]; rfl
 have d1 : w2.cell? ⟨b, 1, none⟩ = some v := by rw [Lib.cell_of_heap hb2]; rfl
 have f1 : w2.frozen? ⟨b, 1, none⟩ = false := Lib.frozen_of_heap hb2 1
 obtain ⟨g, cap, rfl⟩ : ∃ g cap, v' = .slice (some ⟨g, 0, none⟩) (bs.length + 1) cap := by
  rcases hown'.2 with ⟨_, h0⟩ | ⟨g, cap, cur, hv, _⟩
  ·omega
  ·exact ⟨g, cap, hv⟩
 go_wp2
 go_ret
 refine ⟨rfl, ?_, ?_⟩
 ·exact Lib.BuilderAt.put (T := 131) (e := 5) hB hb2 (bs' := bs ++ [.int .u8 c]) (by simpa using hown') (by decide)
 ·exact ⟨((hb1.alloc (by have := hb1.size; omega) _).grown hgrow (by have := hb1.size; simp; omega) (fun k hk => (hown.lt k hk).1)).setCell (p := ⟨b, 1, none⟩) hB _, ((hk1.alloc _).grown hgrow (fun k hk => by obtain ⟨cs, T, fr, h1, h2⟩ := own_row (hown.alloc _) k hk; exact ⟨cs, T, fr, h1, by simp at h2; simp [h2]⟩)).setCell (p := ⟨b, 1, none⟩) hb2 (by simp) _⟩
set_option maxHeartbeats 2000000 in
set_option maxRecDepth 100000 in
theorem writeString_any (B b : Nat) (bs : List Value) (s : ByteArray) (w : World) (h : IsB B b bs w) (hlen : bs.length + s.size ≤ 140737488355328) (hBw : B ≤ w.heap.size) :
   Calls Tryz.prog 122 #[.pointer (some ⟨b, 0, none⟩), .string s] w fun e w' => e = .returned (.tuple #[.int .i64 s.size, .nilIface]) ∧ (BAt B b (.pointer (some ⟨b, 0, none⟩)) (bs ++ Lib.strCells s) w' ∧ Kb B w w') := by
 obtain ⟨i0, hi, hz0, hz1, hz2⟩ := info_parts infoByte
 go_enter Tryz.func122, Tryz.ntmps122
 go_wp2_with (go_at_call 210; refine (copyCheck_any B b bs _ h).mono ?_)
 rintro e w1 ⟨rfl, h1, hb1, hk1⟩
 obtain ⟨hB, v, hbk, hown, hne⟩ := h1
 have c0 : w1.cell? ⟨b, 0, none⟩ = some (.pointer (some ⟨b, 0, none⟩)) := by rw [Lib.cell_of_heap hbk]; rfl
 have c1 : w1.cell? ⟨b, 1, none⟩ = some v := by rw [Lib.cell_of_heap hbk]; rfl
 go_wp2_with (at_builtin; refine Lib.wpList_append_own_string _ rfl _ _ 118 9 rfl B 5 i0 Tryz.underlying118 Tryz.underlying9 hi hz0 hz1 hz2 _ _ _ rfl hown s rfl ?c3 ?c4 ?c5 ?_)
 case c3 => unfold maxLen; omega
 case c4 => omega
 case c5 => have := hb1.size; omega
 intro v' w2 hown' hgrow _
 have hlt : b < w1.heap.size := by
  rcases Nat.lt_or_ge b w1.heap.size with h' | h'
  ·exact h'
  ·simp [Array.getElem?_eq_none h'] at hbk
 have hb2 : w2.heap[b]? = some (.cells #[.pointer (some ⟨b, 0, none⟩), v] 131 (0, 0)) := by
  rw [hgrow.block b hlt (fun e => hne e.symm)]
  exact hbk
 have d0 : w2.cell? ⟨b, 0, none⟩ = some (.pointer (some ⟨b, 0, none⟩)) := by rw [Lib.cell_of_heap hb2]; rfl
 have d1 : w2.cell? ⟨b, 1, none⟩ = some v := by rw [Lib.cell_of_heap hb2]; rfl
 have f1 : w2.frozen? ⟨b, 1, none⟩ = false := Lib.frozen_of_heap hb2 1
 obtain ⟨ao, n', cap, rfl⟩ : ∃ ao n' cap, v' = .slice ao n' cap := by
  rcases hown'.2 with ⟨hv, _⟩ | ⟨g, cap, cur, hv, _⟩
  ·exact ⟨_, _, _, hv⟩
  ·exact ⟨_, _, _, hv⟩
 go_wp2
 go_ret2
 refine ⟨rfl, ?_, ?_⟩
 ·exact Lib.BuilderAt.put (T := 131) (e := 5) hB hb2 (bs' := bs ++ Lib.strCells s) (by simpa [Lib.strCells_length] using hown') (by decide)
 ·exact ⟨(hb1.grown hgrow (by have := hb1.size; omega) (fun k hk => (hown.lt k hk).1)).setCell (p := ⟨b, 1, none⟩) hB _, (hk1.grown hgrow (fun k hk => by obtain ⟨cs, T, fr, h1, h2⟩ := own_row hown k hk; exact ⟨cs, T, fr, h1, by simp at h2; simp [h2]⟩)).setCell (p := ⟨b, 1, none⟩) hb2 (by simp) _⟩
theorem unsafeString_none (W : World) (q : Option Addr) : (Builtin.unsafeString_ #[196, 3] 9 #[.pointer q, .int .i64 0]).run Tryz.prog W = .ok (.string .empty) W :=
 Lib.run_unsafeString_none W _ _ _ q
theorem cellsByte : Tryz.prog.cellsOf 5 = 1 := by kernel_rfl
def Str (B b : Nat) (l : List UInt8) (w : World) (e : Ending) (w' : World) : Prop := e = .returned (.string ⟨l.toArray⟩) ∧ Kb B w w' ∧ w'.heap[b]? = w.heap[b]?
set_option maxHeartbeats 1000000 in
set_option maxRecDepth 100000 in
theorem string_some (B b g cap : Nat) (p : Value) (cur : Array Value) (l : List UInt8) (w : World) (h0 : l ≠ []) (hgb : g ≠ b) (hbg : B ≤ g) (hbk : w.heap[b]? = some (.cells #[p, .slice (some ⟨g, 0, none⟩) l.length cap] 131 (0, 0)))
   (hg : w.heap[g]? = some (.cells cur 5 (0, 0))) (hnc : l.length ≤ cap) (hcm : cap ≤ maxLen) (hcs : cur.size = cap * 1) (hown : w.ownsRow B 5 1 (.slice (some ⟨g, 0, none⟩) l.length cap) l.length (Lib.byteCells l)) :
   Calls Tryz.prog 126 #[.pointer (some ⟨b, 0, none⟩)] w (Str B b l w) := by
 have hl0 : l.length ≠ 0 := by simpa using h0
 have c1 : w.drew.cell? ⟨b, 1, none⟩ = some (.slice (some ⟨g, 0, none⟩) l.length cap) := by
  have : w.drew.heap[b]? = some (.cells #[p, .slice (some ⟨g, 0, none⟩) l.length cap] 131 (0, 0)) := hbk
  rw [Lib.cell_of_heap this]; rfl
 have hSD : (Builtin.unsafeSliceData_ #[118] 196 #[.slice (some ⟨g, 0, none⟩) l.length cap]).run Tryz.prog w.drew = .ok (.pointer (some ⟨g, 0, none⟩)) w.drew :=
  Lib.run_unsafeSliceData_row _ _ _ _ _ _ (by omega)
 have hUS : (Builtin.unsafeString_ #[196, 3] 9 #[.pointer (some ⟨g, 0, none⟩), .int .i64 l.length]).run Tryz.prog w.drew = .ok (.string ⟨l.toArray⟩) (w.drew.freeze ⟨g, 0, none⟩ l.length) := by
  refine Lib.run_unsafeString_row w.drew 196 3 9 5 Tryz.underlying196 cellsByte g cur.size (by have hg' : w.drew.heap[g]? = some (.cells cur 5 (0, 0)) := hg; simp [World.shape?, hg']) l h0 (by omega) (by unfold maxLen at hcm; omega) ?_
  intro j x hx
  have := hown.cells (g := g) rfl j (.int .u8 x.toNat) (by simp [Lib.byteCells, hx])
  exact this
 have hfb : (w.drew.freeze ⟨g, 0, none⟩ l.length).heap[b]? = w.heap[b]? := by
  unfold World.freeze
  rw [if_neg hl0]
  simp only [Array.getElem?_modify]
  rw [if_neg hgb]; rfl
 have hkf : KeepTy [131, 5] w (w.drew.freeze ⟨g, 0, none⟩ l.length) := (KeepTy.refl _ w).drew.freeze (p := ⟨g, 0, none⟩) hg (by simp) _
 have Hfb := Lib.hid hfb;have Hown := Lib.hid hown;have Hcs := Lib.hid hcs;have Hg := Lib.hid hg;have Hbk := Lib.hid hbk;clear hfb hown hcs hg hbk
 go_enter Tryz.func126, Tryz.ntmps126
 go_wp2
 go_region
 all_goals (go_wp2; go_ret; exact ⟨rfl, ⟨Lib.below_freeze (Below.drew (Below.refl B w)) (p := ⟨g, 0, none⟩) hbg _, hkf⟩, Hfb.out⟩)
set_option maxHeartbeats 2000000 in
set_option maxRecDepth 100000 in
theorem string_nil (B b : Nat) (p : Value) (w : World) (hbk : w.heap[b]? = some (.cells #[p, .slice none 0 0] 131 (0, 0))) :
   Calls Tryz.prog 126 #[.pointer (some ⟨b, 0, none⟩)] w (Str B b [] w) := by
 have hUS := unsafeString_none
 have c1 : w.drew.cell? ⟨b, 1, none⟩ = some (.slice none 0 0) := by
  have : w.drew.heap[b]? = some (.cells #[p, .slice none 0 0] 131 (0, 0)) := hbk
  rw [Lib.cell_of_heap this]; rfl
 have hSD : (Builtin.unsafeSliceData_ #[118] 196 #[.slice none 0 0]).run Tryz.prog w.drew = .ok (.pointer none) w.drew := rfl
 clear hbk
 go_enter Tryz.func126, Tryz.ntmps126
 go_wp2
 go_region
 all_goals (go_wp2; go_ret; exact ⟨rfl, ⟨Below.drew (Below.refl B w), (KeepTy.refl _ w).drew⟩, rfl⟩)
set_option maxHeartbeats 2000000 in
set_option maxRecDepth 100000 in
theorem string_noroom (B b g : Nat) (p : Value) (cur : Array Value) (w : World) (hBw : B ≤ w.heap.size) (hbk : w.heap[b]? = some (.cells #[p, .slice (some ⟨g, 0, none⟩) 0 0] 131 (0, 0))) (hg : w.heap[g]? = some (.cells cur 5 (0, 0))) :
   Calls Tryz.prog 126 #[.pointer (some ⟨b, 0, none⟩)] w (Str B b [] w) := by
 have hUS := unsafeString_none
 have hlt : b < w.heap.size := lt_of_some hbk
 have c1 : w.drew.cell? ⟨b, 1, none⟩ = some (.slice (some ⟨g, 0, none⟩) 0 0) := by
  have : w.drew.heap[b]? = some (.cells #[p, .slice (some ⟨g, 0, none⟩) 0 0] 131 (0, 0)) := hbk
  rw [Lib.cell_of_heap this]; rfl
 have hSD : (Builtin.unsafeSliceData_ #[118] 196 #[.slice (some ⟨g, 0, none⟩) 0 0]).run Tryz.prog w.drew = .ok (.pointer (some ⟨w.drew.heap.size, 0, none⟩)) (w.drew.alloc (.view ⟨g, 0, none⟩ 5)) :=
  Lib.run_unsafeSliceData_zero w.drew _ _ 5 Tryz.underlying196 ⟨g, 0, none⟩ 0 (5, cur.size) (by have hg' : w.drew.heap[g]? = some (.cells cur 5 (0, 0)) := hg; simp [World.shape?, hg'])
 have hold : (w.drew.alloc (.view ⟨g, 0, none⟩ 5)).heap[b]? = w.heap[b]? := Lib.alloc_old w.drew _ b hlt
 have c2 : (w.drew.alloc (.view ⟨g, 0, none⟩ 5)).cell? ⟨b, 1, none⟩ = some (.slice (some ⟨g, 0, none⟩) 0 0) := by
  have : (w.drew.alloc (.view ⟨g, 0, none⟩ 5)).heap[b]? = _ := hold.trans hbk
  rw [Lib.cell_of_heap this]; rfl
 have c3 : (w.alloc (.view ⟨g, 0, none⟩ 5)).drew.cell? ⟨b, 1, none⟩ = some (.slice (some ⟨g, 0, none⟩) 0 0) := c2
 have c0 : w.cell? ⟨b, 1, none⟩ = some (.slice (some ⟨g, 0, none⟩) 0 0) := c1
 have Hold := Lib.hid hold;clear hbk hold hg
 go_enter Tryz.func126, Tryz.ntmps126
 go_wp2
 go_region
 all_goals (go_wp2; go_ret; exact ⟨rfl, ⟨(Below.drew (Below.refl B w)).alloc hBw _, (KeepTy.refl _ w).drew.alloc _⟩, Hold.out⟩)
set_option maxHeartbeats 2000000 in
set_option maxRecDepth 100000 in
theorem string_room (B b g cap : Nat) (p : Value) (w : World) (hc0 : cap ≠ 0) (hbk : w.heap[b]? = some (.cells #[p, .slice (some ⟨g, 0, none⟩) 0 cap] 131 (0, 0))) :
   Calls Tryz.prog 126 #[.pointer (some ⟨b, 0, none⟩)] w (Str B b [] w) := by
 have hUS := unsafeString_none
 have c1 : w.drew.cell? ⟨b, 1, none⟩ = some (.slice (some ⟨g, 0, none⟩) 0 cap) := by
  have : w.drew.heap[b]? = some (.cells #[p, .slice (some ⟨g, 0, none⟩) 0 cap] 131 (0, 0)) := hbk
  rw [Lib.cell_of_heap this]; rfl
 have hSD : (Builtin.unsafeSliceData_ #[118] 196 #[.slice (some ⟨g, 0, none⟩) 0 cap]).run Tryz.prog w.drew = .ok (.pointer (some ⟨g, 0, none⟩)) w.drew :=
  Lib.run_unsafeSliceData_row _ _ _ _ _ _ hc0
 clear hc0 hbk
 go_enter Tryz.func126, Tryz.ntmps126
 go_wp2
 go_region
 all_goals (go_wp2; go_ret; exact ⟨rfl, ⟨Below.drew (Below.refl B w), (KeepTy.refl _ w).drew⟩, rfl⟩)
theorem string_any (B b : Nat) (l : List UInt8) (w : World) (h : IsB B b (Lib.byteCells l) w) (hBw : B ≤ w.heap.size) :
   Calls Tryz.prog 126 #[.pointer (some ⟨b, 0, none⟩)] w (Str B b l w) := by
 obtain ⟨p, v, hB, hbk, hown, hne⟩ := isB_row h
 rw [Lib.byteCells_length] at hown
 rcases hown.2 with ⟨rfl, hz⟩ | ⟨g, cap, cur, rfl, hbg, hg, hnc, hcm, hcs, htake⟩
 ·have hl : l = [] := List.eq_nil_of_length_eq_zero hz
  subst hl
  exact string_nil B b _ w hbk
 ·have hgb : g ≠ b := fun e => hne (by simp [Value.ownBlock, e])
  cases l with
  | nil =>
    by_cases hc0 : cap = 0
    ·subst hc0
     exact string_noroom B b g _ cur w hBw hbk hg
    ·exact string_room B b g cap _ w hc0 hbk
  | cons x r => exact string_some B b g cap _ cur (x :: r) w (by simp) hgb hbg hbk hg hnc hcm hcs hown
end Lx
end Go.Proofs.YtmmjfofdnpafkaaGreatDoor
namespace Go.Proofs.YtmmjfofdnpafkaaGreatDoor
namespace Lx
open Go.RowKit
theorem blank_any (c : Int) (w : World) : Calls Tryz.prog 164 #[.int .u8 c] w (Ret (.bool (blankI c)) w) := by
 go_enter Tryz.func164, Tryz.ntmps164
 go_wp2
 all_goals (go_ret; exact ⟨by simp [blankI, *], rfl⟩)
theorem ctl_any (c : Int) (w : World) : Calls Tryz.prog 135 #[.int .u8 c] w (Ret (.bool (ctlI c)) w) := by
 go_enter Tryz.func135, Tryz.ntmps135
 go_wp2
 all_goals (go_ret; exact ⟨by simp [ctlI, *] <;> omega, rfl⟩)
theorem digit_any (c : Int) (w : World) : Calls Tryz.prog 163 #[.int .u8 c] w (Ret (.bool (digitI c)) w) := by
 go_enter Tryz.func163, Tryz.ntmps163
 go_wp2
 all_goals (go_ret; exact ⟨by simp [digitI, *] <;> omega, rfl⟩)
theorem letter_any (c : Int) (w : World) : Calls Tryz.prog 256 #[.int .u8 c] w (Ret (.bool (letterI c)) w) := by
 go_enter Tryz.func256, Tryz.ntmps256
 go_wp2
 all_goals (go_ret; exact ⟨by simp [letterI, *] <;> omega, rfl⟩)
theorem esc_any (c : Int) (w : World) : Calls Tryz.prog 353 #[.int .u8 c] w (Ret (.bool (escI c)) w) := by
 go_enter Tryz.func353, Tryz.ntmps353
 go_wp2
 all_goals (go_ret; exact ⟨by simp [escI, *] <;> omega, rfl⟩)
theorem indexByte_cons (b : UInt8) (t : List UInt8) (c : UInt8) : Lib.indexByte (b :: t) c = if b == c then 0 else if Lib.indexByte t c == -1 then -1 else Lib.indexByte t c + 1 := rfl
theorem indexByte_any (l : List UInt8) (c : UInt8) : 0 ≤ Lib.indexByte l c ↔ (l.any fun b => b == c) = true := by
 induction l with
 | nil => simp [Lib.indexByte]
 | cons b t ih =>
   have hb := Lib.indexByte_ge t c
   rw [List.any_cons, Bool.or_eq_true, ← ih, indexByte_cons]
   by_cases h : (b == c) = true
   ·simp [h]
   ·rw [if_neg h]
    by_cases h2 : Lib.indexByte t c = -1
    ·rw [if_pos (by simpa using h2)]
     constructor
     ·intro h3; omega
     ·rintro (h3 | h3)
      ·exact absurd h3 h
      ·omega
    ·rw [if_neg (by simpa using h2)]
     constructor
     ·intro _; right; omega
     ·intro _; omega
theorem u8_eq (b : UInt8) (c : Int) (h0 : 0 ≤ c) (h1 : c < 256) : (b == c.toNat.toUInt8) = ((b.toNat : Int) == c) := by
 have hb := b.toNat_lt
 rw [Bool.eq_iff_iff, beq_iff_eq, beq_iff_eq, ← UInt8.toNat_inj]
 simp only [Nat.toUInt8, UInt8.toNat_ofNat']
 omega
theorem mark_any (c : Int) (h0 : 0 ≤ c) (h1 : c < 256) : decide (0 ≤ Lib.indexByte [45, 46, 33, 37, 42, 95, 43, 39, 126, 96] c.toNat.toUInt8) = markI c := by
 rw [Bool.eq_iff_iff, decide_eq_true_iff, indexByte_any]
 unfold markI marksL
 have : (fun b : UInt8 => b == c.toNat.toUInt8) = fun b => ((b.toNat : Int) == c) := by funext b; exact u8_eq b c h0 h1
 rw [this]
set_option maxRecDepth 100000 in
set_option maxHeartbeats 400000 in
theorem tok_any (c : Int) (w : World) (h0 : 0 ≤ c) (h1 : c < 256) : Calls Tryz.prog 173 #[.int .u8 c] w (Ret (.bool (tokI c)) w) := by
 have hm := Lib.hid (mark_any c h0 h1)
 cases hl : letterI c
 ·cases hd : digitI c
  ·have Hl := Lib.hid hl
   have Hd := Lib.hid hd;clear hl hd
   go_enter Tryz.func173, Tryz.ntmps173
   go_wp2_with fail
   refine (letter_any _ _).mono ?_
   rintro e w' ⟨rfl, rfl⟩
   rw [Hl.out]
   go_wp2_with fail
   refine (digit_any _ _).mono ?_
   rintro e w' ⟨rfl, rfl⟩
   rw [Hd.out]
   go_wp2_with fail
   refine (Tryz.strings_IndexByte _ _ _).mono ?_
   rintro e w' ⟨rfl, rfl⟩
   go_wp2_with fail
   go_ret
   exact ⟨ret_bool (by rw [hm.out]; simp [tokI, Hl.out, Hd.out]), rfl⟩
  ·have Hl := Lib.hid hl
   have Hd := Lib.hid hd;clear hl hd
   go_enter Tryz.func173, Tryz.ntmps173
   go_wp2_with fail
   refine (letter_any _ _).mono ?_
   rintro e w' ⟨rfl, rfl⟩
   rw [Hl.out]
   go_wp2_with fail
   refine (digit_any _ _).mono ?_
   rintro e w' ⟨rfl, rfl⟩
   rw [Hd.out]
   go_wp2_with fail
   go_ret
   exact ⟨ret_bool (by simp [tokI, Hl.out, Hd.out]), rfl⟩
 ·have Hl := Lib.hid hl
  clear hl
  go_enter Tryz.func173, Tryz.ntmps173
  go_wp2_with fail
  refine (letter_any _ _).mono ?_
  rintro e w' ⟨rfl, rfl⟩
  rw [Hl.out]
  go_wp2_with fail
  go_ret
  exact ⟨ret_bool (by simp [tokI, Hl.out]), rfl⟩
structure ClassFn (f : Nat) (p : Int → Bool) : Prop where
 ent : ∀ (c : Int) (w : World), Sem.run Tryz.prog (callFunc f #[.int .u8 c]) w = .ok (.enter f #[.int .u8 c]) w
 calls : ∀ (c : Int) (w : World), 0 ≤ c → c < 256 → Calls Tryz.prog f #[.int .u8 c] w (Ret (.bool (p c)) w)
theorem tokFn : ClassFn 173 tokI := ⟨fun _ _ => by kernel_rfl, fun c w h0 h1 => tok_any c w h0 h1⟩
theorem blankFn : ClassFn 164 blankI := ⟨fun _ _ => by kernel_rfl, fun c w _ _ => blank_any c w⟩
theorem digitFn : ClassFn 163 digitI := ⟨fun _ _ => by kernel_rfl, fun c w _ _ => digit_any c w⟩
theorem ctlFn : ClassFn 135 ctlI := ⟨fun _ _ => by kernel_rfl, fun c w _ _ => ctl_any c w⟩
theorem byte_lo (b : UInt8) : (0 : Int) ≤ (b.toNat : Int) := by omega
theorem byte_hi (b : UInt8) : (b.toNat : Int) < 256 := by have := b.toNat_lt; omega
set_option maxRecDepth 100000 in
set_option maxHeartbeats 400000 in
theorem behind_any (f : Nat) (p : Int → Bool) (hf : ClassFn f p) (s : ByteArray) (i : Int) (w : World) (hs : s.size ≤ maxLen) :
   Calls Tryz.prog 162 #[.string s, .int .i64 i, .func (.func f) #[] #[]] w (Ret (.int .i64 (bhd p s (min i.toNat s.size) : Nat)) w) := by
 unfold maxLen at hs
 go_enter Tryz.func162, Tryz.ntmps162
 go_wp2
 all_goals
  go_loop [1] (fun i' => ∃ k : Nat, k ≤ s.size ∧ i' = .int .i64 k ∧ bhd p s k = bhd p s (min i.toNat s.size)) (fun i' => s.size - (intOf i').toNat)
  case atStart => exact ⟨min i.toNat s.size, by omega, by first | (congr 1; omega) | (congr 1; simp; omega), rfl⟩
  case round =>
   obtain ⟨k, hk, rfl, he⟩ := hrel
   have He := Lib.hid he;clear he
   by_cases hlt : k < s.size
   ·cases hb : p s[k].toNat
    ·have H1 := Lib.hid (bhd_no p s k hlt hb)
     have H2 := Lib.hid hb;clear hb
     go_wp2_with fail
     rw [hf.ent, Oper.upon_enter]
     refine (hf.calls _ _ (byte_lo _) (byte_hi _)).mono ?_
     rintro e w' ⟨rfl, rfl⟩
     rw [H2.out]
     go_wp2_with fail
     go_ret
     exact ⟨ret_int (by rw [← He.out, H1.out]), rfl⟩
    ·have H1 := Lib.hid (bhd_yes p s k hlt hb)
     have H2 := Lib.hid hb;clear hb
     go_wp2_with fail
     rw [hf.ent, Oper.upon_enter]
     refine (hf.calls _ _ (byte_lo _) (byte_hi _)).mono ?_
     rintro e w' ⟨rfl, rfl⟩
     rw [H2.out]
     go_wp2_with fail
     go_round
     case rel => exact ⟨k + 1, by omega, by go_num, by rw [← H1.out, He.out]⟩
     case measure => simp [intOf]; omega
   ·have H1 := Lib.hid (bhd_end p s k (by omega))
    go_wp2
    go_ret
    exact ⟨ret_int (by rw [← He.out, H1.out]), rfl⟩
set_option maxRecDepth 100000 in
theorem tokenEnd_any (s : ByteArray) (i : Int) (w : World) (hs : s.size ≤ maxLen) :
   Calls Tryz.prog 100 #[.string s, .int .i64 i] w (Ret (.int .i64 (bhd tokI s (min i.toNat s.size) : Nat)) w) := by
 go_enter Tryz.func100, Tryz.ntmps100
 go_wp2_with fail
 refine (behind_any _ _ tokFn s i w hs).mono ?_
 rintro e w' ⟨rfl, rfl⟩
 go_wp2_with fail
 go_ret
 exact ⟨rfl, rfl⟩
set_option maxRecDepth 100000 in
theorem blanks_any (s : ByteArray) (i : Int) (w : World) (hs : s.size ≤ maxLen) :
   Calls Tryz.prog 144 #[.string s, .int .i64 i] w (Ret (.int .i64 (bhd blankI s (min i.toNat s.size) : Nat)) w) := by
 go_enter Tryz.func144, Tryz.ntmps144
 go_wp2_with fail
 refine (behind_any _ _ blankFn s i w hs).mono ?_
 rintro e w' ⟨rfl, rfl⟩
 go_wp2_with fail
 go_ret
 exact ⟨rfl, rfl⟩
theorem bhd_zero (p : Int → Bool) (s : ByteArray) : bhd p s (min (0 : Int).toNat s.size) = bhd p s 0 := by simp
def tokenB (s : ByteArray) : Bool := decide (1 ≤ s.size) && decide (bhd tokI s 0 = s.size)
theorem cast_beq (a b : Nat) : ((a : Int) == (b : Int)) = decide (a = b) := by
 rw [Bool.eq_iff_iff, beq_iff_eq, decide_eq_true_iff]; omega
theorem toList_ne (s : ByteArray) (h : 1 ≤ s.size) : ¬ s.toList = [] := by
 rw [Lib.toList_data]; intro hh
 have := len_list s
 rw [hh] at this; simp at this; omega
theorem toList_nil (s : ByteArray) (h : ¬ 1 ≤ s.size) : s.toList = [] := by
 rw [Lib.toList_data]; exact List.eq_nil_of_length_eq_zero (by have := len_list s; omega)
theorem isEmpty_no (s : ByteArray) (h : 1 ≤ s.size) : s.toList.isEmpty = false := by
 have := toList_ne s h
 cases hl : s.toList <;> simp_all
theorem isEmpty_yes (s : ByteArray) (h : ¬ 1 ≤ s.size) : s.toList.isEmpty = true := by rw [toList_nil s h]; rfl
set_option maxRecDepth 100000 in
theorem token_any (s : ByteArray) (w : World) (hs : s.size ≤ maxLen) :
   Calls Tryz.prog 85 #[.string s] w (Ret (.bool (tokenB s)) w) := by
 by_cases h1 : 1 ≤ s.size
 ·have he := isEmpty_no s h1
  have hn := toList_ne s h1;have Hs := Lib.hid hs;have H1 := Lib.hid h1;clear hs h1
  go_enter Tryz.func85, Tryz.ntmps85
  go_wp2_with fail
  refine (tokenEnd_any _ _ _ Hs.out).mono ?_
  rintro e w' ⟨rfl, rfl⟩
  rw [bhd_zero]
  go_wp2_with fail
  go_ret
  exact ⟨ret_bool (by rw [cast_beq]; simp [tokenB, H1.out]), rfl⟩
 ·have he := isEmpty_yes s h1
  have hn := toList_nil s h1;have Hs := Lib.hid hs;have H1 := Lib.hid h1;clear hs h1
  go_enter Tryz.func85, Tryz.ntmps85
  go_wp2_with fail
  go_ret
  exact ⟨ret_bool (by simp [tokenB]; intro h; exact absurd h H1.out), rfl⟩
end Lx
end Go.Proofs.YtmmjfofdnpafkaaGreatDoor
namespace Go.Proofs.YtmmjfofdnpafkaaGreatDoor
namespace Lx
open Go.RowKit
theorem runL_digits (s : ByteArray) : bhd digitI s (min (0 : Int).toNat s.size) = s.size ↔ allD s.data.toList = true := by
 rw [bhd_zero, ← runL_all, len_list]; simp [bhd]
theorem allD_take (l : List UInt8) (k : Nat) (h : allD l = true) : allD (l.take k) = true := by
 simp only [allD, List.all_eq_true] at h ⊢
 intro x hx; exact h x (List.mem_of_mem_take hx)
theorem allD_at (s : ByteArray) (h : allD s.data.toList = true) (k : Nat) (hk : k < s.size) : 48 ≤ (s[k].toNat : Int) ∧ (s[k].toNat : Int) ≤ 57 := by
 simp only [allD, List.all_eq_true] at h
 have : s[k] ∈ s.data.toList := Array.getElem_mem_toList (xs := s.data) hk
 have := h _ this
 simpa [digitI] using this
set_option maxRecDepth 100000 in
set_option maxHeartbeats 400000 in
theorem number_any (s : ByteArray) (w : World) (hs : s.size ≤ maxLen) :
   Calls Tryz.prog 95 #[.string s] w (Ret (.tuple #[.int .i64 (numN s.data.toList), .int .u8 (numE s.data.toList)]) w) := by
 have hL := len_list s
 by_cases h1 : s.size < 1
 ·have hb := num_bad s.data.toList (by omega)
  have Hb := Lib.hid hb;clear hb hL
  unfold maxLen at hs
  go_enter Tryz.func95, Tryz.ntmps95
  go_wp2_with fail
  go_ret2
  exact ⟨ret_ii Hb.out.1.symm Hb.out.2.symm, rfl⟩
 by_cases h2 : 10 < s.size
 ·have hb := num_bad s.data.toList (by omega)
  have Hb := Lib.hid hb;clear hb hL
  unfold maxLen at hs
  go_enter Tryz.func95, Tryz.ntmps95
  go_wp2_with fail
  go_ret2
  exact ⟨ret_ii Hb.out.1.symm Hb.out.2.symm, rfl⟩
 have hle := bhd_le digitI s (min (0 : Int).toNat s.size) (by omega)
 cases h3 : allD s.data.toList
 ·have hb := num_bad s.data.toList (by simp [h3])
  have Hb := Lib.hid hb
  have hlt : bhd digitI s (min (0 : Int).toNat s.size) < s.size := by
   have := runL_digits s
   rw [h3] at this
   have : ¬ bhd digitI s (min (0 : Int).toNat s.size) = s.size := fun h => by have := this.1 h; cases this
   omega
  generalize hB : bhd digitI s (min (0 : Int).toNat s.size) = B at hlt hle
  have HB := Lib.hid hB;have Hs := Lib.hid hs;clear hb hL hB h3
  unfold maxLen at hs
  go_enter Tryz.func95, Tryz.ntmps95
  go_wp2_with fail
  refine (behind_any _ _ digitFn _ _ _ Hs.out).mono ?_
  rintro e w' ⟨rfl, rfl⟩
  rw [HB.out]
  go_wp2_with fail
  go_ret2
  exact ⟨ret_ii Hb.out.1.symm Hb.out.2.symm, rfl⟩
 ·have hEq : bhd digitI s (min (0 : Int).toNat s.size) = s.size := (runL_digits s).2 h3
  have HE := Lib.hid hEq;have H3 := Lib.hid h3;have HL := Lib.hid hL;have Hs := Lib.hid hs;clear hL hEq h3 hle
  unfold maxLen at hs
  go_enter Tryz.func95, Tryz.ntmps95
  go_wp2_with fail
  refine (behind_any _ _ digitFn _ _ _ Hs.out).mono ?_
  rintro e w' ⟨rfl, rfl⟩
  rw [HE.out]
  go_wp2_with fail
  go_loop [4, 5, 23] (fun n _ i => ∃ k : Nat, k ≤ s.size ∧ i = .int .i64 k ∧ n = .int .i64 (valL (s.data.toList.take k))) (fun _ _ i => s.size - (intOf i).toNat)
  case atStart => exact ⟨0, by omega, rfl, rfl⟩
  case round =>
   obtain ⟨k, hk, rfl, rfl⟩ := hrel
   by_cases hlt : k < s.size
   ·have hd := allD_at s H3.out k hlt
    have hv := valL_small (s.data.toList.take k) (allD_take _ _ H3.out) (by simp; omega)
    have hsn := Lib.hid (by rw [take_snoc s k hlt, valL_snoc] : valL (s.data.toList.take (k + 1)) = valL (s.data.toList.take k) * 10 + ((s[k].toNat : Int) - 48))
    go_wp2_with fail
    go_round
    case rel => exact ⟨k + 1, by omega, by go_num, by rw [hsn.out]⟩
    case measure => simp [intOf]; omega
   ·obtain rfl : k = s.size := by omega
    have htk := Lib.hid (by rw [List.take_of_length_le (by rw [HL.out]; exact Nat.le_refl _)] : valL (s.data.toList.take s.size) = valL s.data.toList)
    by_cases hbig : 2147483647 < valL (s.data.toList.take s.size)
    ·have Hb := Lib.hid (num_big s.data.toList (by rw [HL.out]; omega) (by rw [HL.out]; omega) H3.out (by rw [← htk.out]; exact hbig))
     go_wp2_with fail
     go_ret2
     exact ⟨ret_ii Hb.out.1.symm Hb.out.2.symm, rfl⟩
    ·have Hb := Lib.hid (num_ok s.data.toList (by rw [HL.out]; omega) (by rw [HL.out]; omega) H3.out (by rw [← htk.out]; omega))
     go_wp2_with fail
     go_ret2
     exact ⟨ret_ii (by rw [Hb.out.1, htk.out]) Hb.out.2.symm, rfl⟩
end Lx
end Go.Proofs.YtmmjfofdnpafkaaGreatDoor
namespace Go.Proofs.YtmmjfofdnpafkaaGreatDoor
namespace Lx
open Go.RowKit
theorem opE_out (mark : Int) (l : List UInt8) (a : Int) (h : a < 0 ∨ (l.length : Int) < a) : opN l a = 0 ∧ opE mark l a = 2 := by unfold opN opE; rw [if_pos h, if_pos h]; exact ⟨rfl, rfl⟩
theorem opN_in (l : List UInt8) (k : Nat) (h : k ≤ l.length) : opN l k = k := by unfold opN; rw [if_neg (by omega)]
theorem opE_end (mark : Int) (l : List UInt8) (k : Nat) (h : k = l.length) : opE mark l k = 5 := by
 unfold opE; rw [if_neg (by omega)]
 have : l.drop (k : Int).toNat = [] := List.drop_eq_nil_of_le (by simp; omega)
 rw [this]
theorem opE_at (mark : Int) (s : ByteArray) (k : Nat) (h : k < s.size) : opE mark s.data.toList k = if (s[k].toNat : Int) = mark then 0 else 5 := by
 unfold opE; rw [if_neg (by rw [len_list]; omega), Int.toNat_natCast, drop_step s k h]
set_option maxRecDepth 100000 in
set_option maxHeartbeats 400000 in
theorem opens_any (s : ByteArray) (a mark : Int) (w : World) (_hs : s.size ≤ maxLen) :
   Calls Tryz.prog 311 #[.string s, .int .i64 a, .int .u8 mark] w (Ret (.tuple #[.int .i64 (opN s.data.toList a), .int .u8 (opE mark s.data.toList a)]) w) := by
 unfold maxLen at _hs
 by_cases h1 : a < 0
 ·have H := Lib.hid (opE_out mark s.data.toList a (.inl h1))
  go_enter Tryz.func311, Tryz.ntmps311
  go_wp2_with fail
  go_ret2
  exact ⟨ret_ii H.out.1.symm H.out.2.symm, rfl⟩
 by_cases h2 : (s.size : Int) < a
 ·have H := Lib.hid (opE_out mark s.data.toList a (.inr (by rw [len_list]; exact h2)))
  go_enter Tryz.func311, Tryz.ntmps311
  go_wp2_with fail
  go_ret2
  exact ⟨ret_ii H.out.1.symm H.out.2.symm, rfl⟩
 obtain ⟨k, rfl⟩ := Int.eq_ofNat_of_zero_le (by omega : 0 ≤ a)
 have H1 := Lib.hid (opN_in s.data.toList k (by rw [len_list]; omega))
 rcases Nat.lt_or_ge k s.size with h3 | h3
 ·have h4 : ((k : Int) == (s.size : Int)) = false := by rw [beq_eq_false_iff_ne]; omega
  have HE := Lib.hid (opE_at mark s k h3)
  by_cases h5 : (s[k].toNat : Int) = mark
  ·have h6 : ((s[k].toNat : Int) != mark) = false := by simp [h5]
   have H5 := Lib.hid h5;clear h5
   go_enter Tryz.func311, Tryz.ntmps311
   go_wp2_with fail
   go_ret2
   exact ⟨ret_ii H1.out.symm (by rw [HE.out, if_pos H5.out]), rfl⟩
  ·have h6 : ((s[k].toNat : Int) != mark) = true := by simp [h5]
   have H5 := Lib.hid h5;clear h5
   go_enter Tryz.func311, Tryz.ntmps311
   go_wp2_with fail
   go_ret2
   exact ⟨ret_ii H1.out.symm (by rw [HE.out, if_neg H5.out]), rfl⟩
 ·have h4 : ((k : Int) == (s.size : Int)) = true := by rw [beq_iff_eq]; omega
  have HE := Lib.hid (opE_end mark s.data.toList k (by rw [len_list]; omega))
  go_enter Tryz.func311, Tryz.ntmps311
  go_wp2_with fail
  go_ret2
  exact ⟨ret_ii H1.out.symm HE.out.symm, rfl⟩
set_option maxRecDepth 100000 in
set_option maxHeartbeats 400000 in
theorem step_any (s : ByteArray) (k : Nat) (w : World) (hs : s.size ≤ 70368744177664) (hk : k < s.size) :
   Calls Tryz.prog 312 #[.string s, .int .i64 k] w (Ret (.tuple #[.int .i64 ((stepS (s.data.toList.drop k) k).1 : Nat), .int .u8 (stepS (s.data.toList.drop k) k).2]) w) := by
 have hd := drop_step s k hk
 cases hc : ctlI s[k].toNat
 ·by_cases h9 : s[k].toNat = 92
  ·have h9b : ((s[k].toNat : Int) != 92) = false := by simp; omega
   rcases Nat.lt_or_ge (k + 1) s.size with h3 | h3
   ·have hd2 := drop_step s (k + 1) h3
    have h4 : (((k : Int) + 1) == (s.size : Int)) = false := by rw [beq_eq_false_iff_ne]; omega
    cases he : escI s[k + 1].toNat
    ·have HR := Lib.hid (by rw [hd, hd2]; exact stepS_bad _ _ _ k hc h9 he : stepS (s.data.toList.drop k) k = (k, 5))
     have Hc := Lib.hid hc;have He := Lib.hid he;clear hd hd2 hc he h9
     go_enter Tryz.func312, Tryz.ntmps312
     go_wp2_with fail
     refine (ctl_any _ _).mono ?_
     rintro e w' ⟨rfl, rfl⟩
     rw [Hc.out]
     go_wp2_with fail
     refine (esc_any _ _).mono ?_
     rintro e w' ⟨rfl, rfl⟩
     rw [He.out]
     go_wp2_with fail
     go_ret2
     exact ⟨ret_ii (by rw [HR.out]) (by rw [HR.out]), rfl⟩
    ·have HR := Lib.hid (by rw [hd, hd2]; exact stepS_two _ _ _ k hc h9 he : stepS (s.data.toList.drop k) k = (k + 2, 0))
     have Hc := Lib.hid hc;have He := Lib.hid he;clear hd hd2 hc he h9
     go_enter Tryz.func312, Tryz.ntmps312
     go_wp2_with fail
     refine (ctl_any _ _).mono ?_
     rintro e w' ⟨rfl, rfl⟩
     rw [Hc.out]
     go_wp2_with fail
     refine (esc_any _ _).mono ?_
     rintro e w' ⟨rfl, rfl⟩
     rw [He.out]
     go_wp2_with fail
     go_ret2
     exact ⟨ret_ii (by rw [HR.out]; simp) (by rw [HR.out]), rfl⟩
   ·have hd2 := drop_end s (k + 1) h3
    have h4 : (((k : Int) + 1) == (s.size : Int)) = true := by rw [beq_iff_eq]; omega
    have HR := Lib.hid (by rw [hd, hd2]; exact stepS_end _ k hc h9 : stepS (s.data.toList.drop k) k = (k + 1, 6))
    have Hc := Lib.hid hc;clear hd hd2 hc h9
    go_enter Tryz.func312, Tryz.ntmps312
    go_wp2_with fail
    refine (ctl_any _ _).mono ?_
    rintro e w' ⟨rfl, rfl⟩
    rw [Hc.out]
    go_wp2_with fail
    go_ret2
    exact ⟨ret_ii (by rw [HR.out]; simp; omega) (by rw [HR.out]), rfl⟩
  ·have h9b : ((s[k].toNat : Int) != 92) = true := by simp; omega
   have HR := Lib.hid (by rw [hd]; exact stepS_one _ _ k hc h9 : stepS (s.data.toList.drop k) k = (k + 1, 0))
   have Hc := Lib.hid hc;clear hd hc h9
   go_enter Tryz.func312, Tryz.ntmps312
   go_wp2_with fail
   refine (ctl_any _ _).mono ?_
   rintro e w' ⟨rfl, rfl⟩
   rw [Hc.out]
   go_wp2_with fail
   go_ret2
   exact ⟨ret_ii (by rw [HR.out]; simp) (by rw [HR.out]), rfl⟩
 ·have HR := Lib.hid (by rw [hd]; exact stepS_ctl _ _ k hc : stepS (s.data.toList.drop k) k = (k, 5))
  have Hc := Lib.hid hc;clear hd hc
  go_enter Tryz.func312, Tryz.ntmps312
  go_wp2_with fail
  refine (ctl_any _ _).mono ?_
  rintro e w' ⟨rfl, rfl⟩
  rw [Hc.out]
  go_wp2_with fail
  go_ret2
  exact ⟨ret_ii (by rw [HR.out]) (by rw [HR.out]), rfl⟩
theorem opE_ok (mark : Int) (s : ByteArray) (a : Int) (h : opE mark s.data.toList a = 0) : ∃ k : Nat, a = k ∧ k < s.size := by
 by_cases h1 : a < 0 ∨ (s.data.toList.length : Int) < a
 ·rw [(opE_out mark _ a h1).2] at h; omega
 ·obtain ⟨k, rfl⟩ := Int.eq_ofNat_of_zero_le (by omega : 0 ≤ a)
  refine ⟨k, rfl, ?_⟩
  rcases Nat.lt_or_ge k s.size with h3 | h3
  ·exact h3
  ·rw [len_list] at h1
   rw [opE_end mark _ k (by rw [len_list]; omega)] at h; omega
set_option maxRecDepth 100000 in
set_option maxHeartbeats 400000 in
theorem quotedEnd_any (s : ByteArray) (a : Int) (w : World) (hs : s.size ≤ 70368744177664) :
   Calls Tryz.prog 252 #[.string s, .int .i64 a] w (Ret (.tuple #[.int .i64 (uqN s.data.toList a), .int .u8 (uqE s.data.toList a)]) w) := by
 by_cases h0 : opE 34 s.data.toList a = 0
 ·obtain ⟨k, rfl, hk⟩ := opE_ok 34 s a h0
  have HN := Lib.hid (by unfold uqN; rw [if_neg (by simp [h0])]; rfl : uqN s.data.toList k = (qEnd (s.data.toList.drop (k + 1)) (k + 1)).1)
  have HE := Lib.hid (by unfold uqE; rw [if_neg (by simp [h0])]; rfl : uqE s.data.toList k = (qEnd (s.data.toList.drop (k + 1)) (k + 1)).2)
  have H0 := Lib.hid h0;clear h0
  go_enter Tryz.func252, Tryz.ntmps252
  go_wp2_with fail
  go_step3
  go_wp2_with fail
  refine (opens_any s _ 34 w (by unfold maxLen; omega)).mono ?_
  rintro e w' ⟨rfl, rfl⟩
  rw [H0.out]
  go_wp2_with fail
  go_step3
  go_wp2_with fail
  go_loop [1] (fun i => ∃ j : Nat, j ≤ s.size ∧ i = .int .i64 j ∧ qEnd (s.data.toList.drop j) j = qEnd (s.data.toList.drop (k + 1)) (k + 1)) (fun i => s.size - (intOf i).toNat)
  case atStart => exact ⟨k + 1, by omega, by go_num, rfl⟩
  case round =>
   obtain ⟨j, hj, rfl, hq⟩ := hrel
   have Hq := Lib.hid hq;clear hq
   by_cases hlt : j < s.size
   ·have Hd := Lib.hid (drop_step s j hlt)
    by_cases h34 : s[j].toNat = 34
    ·have h34b : ((s[j].toNat : Int) == 34) = true := by simp; omega
     have HQ := Lib.hid (by rw [← Hq.out, Hd.out]; exact qEnd_quote _ _ j h34 : qEnd (s.data.toList.drop (k + 1)) (k + 1) = (j + 1, 0))
     have hb : ((j : Int) == (s.size : Int)) = false := by rw [beq_eq_false_iff_ne]; omega
     clear h34
     go_wp2_with fail
     go_ret2
     exact ⟨ret_ii (by rw [HN.out, HQ.out]; simp) (by rw [HE.out, HQ.out]), rfl⟩
    ·have h34b : ((s[j].toNat : Int) == 34) = false := by simp; omega
     have H34 := Lib.hid h34;clear h34
     by_cases hs0 : (stepS (s.data.toList.drop j) j).2 = 0
     ·have hok := stepS_ok _ _ hs0
      have HQ := Lib.hid (by rw [← Hq.out, Hd.out, qEnd_step _ _ j H34.out (by rw [← Hd.out]; exact hs0), ← Hd.out, List.drop_drop] : qEnd (s.data.toList.drop (k + 1)) (k + 1) = qEnd (s.data.toList.drop (j + ((stepS (s.data.toList.drop j) j).1 - j))) (stepS (s.data.toList.drop j) j).1)
      rw [List.length_drop, len_list] at hok
      obtain ⟨j2, hj2⟩ : ∃ j2, (stepS (s.data.toList.drop j) j).1 = j2 := ⟨_, rfl⟩
      rw [hj2] at hok
      have Hj2 := Lib.hid hj2;have Hs0 := Lib.hid hs0;clear hj2 hs0
      go_wp2_with fail
      refine (step_any s j w hs hlt).mono ?_
      rintro e w' ⟨rfl, rfl⟩
      rw [Hj2.out, Hs0.out]
      go_wp2_with fail
      go_round
      case rel => exact ⟨j2, by omega, by go_num, by rw [HQ.out, Hj2.out]; congr 2; omega⟩
      case measure => simp [intOf]; omega
     ·have HQ := Lib.hid (by rw [← Hq.out, Hd.out, qEnd_err _ _ j H34.out (by rw [← Hd.out]; exact hs0), ← Hd.out] : qEnd (s.data.toList.drop (k + 1)) (k + 1) = stepS (s.data.toList.drop j) j)
      obtain ⟨x, hx⟩ : ∃ x, (stepS (s.data.toList.drop j) j).2 = x := ⟨_, rfl⟩
      have hx5 := stepS_e (s.data.toList.drop j) j
      rw [hx] at hx5 hs0
      have hxb : (x != 0) = true := by simpa using hs0
      have Hx := Lib.hid hx;have Hx5 := Lib.hid hx5;clear hx hx5 hs0
      go_wp2_with fail
      refine (step_any s j w hs hlt).mono ?_
      rintro e w' ⟨rfl, rfl⟩
      rw [Hx.out]
      go_wp2_with fail
      rw [Exit.noGoto_ret]
      go_ret2
      exact ⟨ret_ii (by rw [HN.out, HQ.out]) (by rw [HE.out, HQ.out, Hx.out]), rfl⟩
   ·have h6 := Lib.hid (by rw [← Hq.out, drop_end s j (by omega), qEnd_nil] : qEnd (s.data.toList.drop (k + 1)) (k + 1) = (j, 6))
    have hb : ((j : Int) == (s.size : Int)) = true := by rw [beq_iff_eq]; omega
    go_wp2_with fail
    go_ret2
    exact ⟨ret_ii (by rw [HN.out, h6.out]) (by rw [HE.out, h6.out]), rfl⟩
 ·have HN := Lib.hid (by unfold uqN; rw [if_pos h0] : uqN s.data.toList a = opN s.data.toList a)
  have HE := Lib.hid (by unfold uqE; rw [if_pos h0] : uqE s.data.toList a = opE 34 s.data.toList a)
  obtain ⟨x, hx⟩ : ∃ x, opE 34 s.data.toList a = x := ⟨_, rfl⟩
  rw [hx] at h0
  have hxb : (x != 0) = true := by simpa using h0
  have Hx := Lib.hid hx;clear h0 hx
  go_enter Tryz.func252, Tryz.ntmps252
  go_wp2_with fail
  go_step3
  go_wp2_with fail
  refine (opens_any s _ 34 w (by unfold maxLen; omega)).mono ?_
  rintro e w' ⟨rfl, rfl⟩
  rw [Hx.out]
  go_wp2_with fail
  rw [Exit.noGoto_ret]
  go_ret2
  exact ⟨ret_ii HN.out.symm (by rw [HE.out, Hx.out]), rfl⟩
theorem bd_byteCells (l : List UInt8) (c : UInt8) : Lib.byteCells l ++ [.int .u8 (c.toNat : Int)] = Lib.byteCells (l ++ [c]) := by simp [Lib.byteCells]
theorem fresh_isB (w : World) : IsB w.heap.size w.heap.size (Lib.byteCells []) (w.alloc (.cells #[.pointer none, .slice none 0 0] 131)) := Lib.fresh_isBuilder _ _ w
def RetNew (t : List UInt8) (w : World) (e : Ending) (w' : World) : Prop := e = .returned (.string ⟨t.toArray⟩) ∧ Below w.heap.size w w'
set_option maxRecDepth 100000 in
set_option maxHeartbeats 400000 in
theorem unescape_any (s : ByteArray) (w : World) (hs : s.size ≤ 70368744177664) (hok : escOK s.data.toList = true) :
   Calls Tryz.prog 330 #[.string s] w (RetNew (unesc s.data.toList) w) := by
 have Hok := Lib.hid hok;clear hok
 go_enter Tryz.func330, Tryz.ntmps330
 go_wp2_with fail
 go_loopw [4] (fun i wr => ∃ (j : Nat) (acc : List UInt8), j ≤ s.size ∧ acc.length ≤ j ∧ i = .int .i64 j ∧ acc ++ unesc (s.data.toList.drop j) = unesc s.data.toList ∧ escOK (s.data.toList.drop j) = true ∧ IsB w.heap.size w.heap.size (Lib.byteCells acc) wr ∧ Below w.heap.size w wr) (fun i _ => s.size - (intOf i).toNat)
 case atStart => exact ⟨0, [], by omega, by simp, rfl, rfl, Hok.out, fresh_isB w, (Below.refl _ w).alloc (Nat.le_refl _) _⟩
 case round =>
  obtain ⟨j, acc, hj, ha, rfl, hu, he, hb, hB⟩ := hrel
  have Hu := Lib.hid hu;have He := Lib.hid he;have Hb := Lib.hid hb;have hsz := hB.size;clear hu he hb
  by_cases hlt : j < s.size
  ·have Hd := Lib.hid (drop_step s j hlt)
   by_cases h92 : s[j].toNat = 92
   ·have h9b : ((s[j].toNat : Int) == 92) = true := by simp; omega
    have h3 : j + 1 < s.size := by
     rcases Nat.lt_or_ge (j + 1) s.size with h | h
     ·exact h
     ·have := He.out
      rw [Hd.out, drop_end s (j + 1) h, escOK_end _ h92] at this
      cases this
    have Hd2 := Lib.hid (drop_step s (j + 1) h3)
    have HU := Lib.hid (by rw [Hd.out, Hd2.out, unesc_two _ _ _ h92] : unesc (s.data.toList.drop j) = s[j + 1] :: unesc (s.data.toList.drop (j + 1 + 1)))
    have HE := Lib.hid (by rw [Hd.out, Hd2.out, escOK_two _ _ _ h92] : escOK (s.data.toList.drop j) = escOK (s.data.toList.drop (j + 1 + 1)))
    clear h92
    go_wp2_with fail
    refine (writeByte_any w.heap.size w.heap.size _ _ _ Hb.out (by rw [Lib.byteCells_length]; omega) (by omega)).mono ?_
    rintro e w1 ⟨rfl, hb1, hk1⟩
    have Hb1 := Lib.hid (isB_of hb1 rfl);clear hb1
    go_wp2_with fail
    go_roundw
    case rel => exact ⟨j + 1 + 1, acc ++ [s[j + 1]], by omega, by simp; omega, by go_num, by rw [← Hu.out, HU.out]; simp, by rw [← HE.out, He.out], by rw [← bd_byteCells]; exact Hb1.out, hB.trans hk1.below⟩
    case measure => simp [intOf]; omega
   ·have h9b : ((s[j].toNat : Int) == 92) = false := by simp; omega
    have HU := Lib.hid (by rw [Hd.out, unesc_one _ _ h92] : unesc (s.data.toList.drop j) = s[j] :: unesc (s.data.toList.drop (j + 1)))
    have HE := Lib.hid (by rw [Hd.out, escOK_one _ _ h92] : escOK (s.data.toList.drop j) = escOK (s.data.toList.drop (j + 1)))
    clear h92
    go_wp2_with fail
    refine (writeByte_any w.heap.size w.heap.size _ _ _ Hb.out (by rw [Lib.byteCells_length]; omega) (by omega)).mono ?_
    rintro e w1 ⟨rfl, hb1, hk1⟩
    have Hb1 := Lib.hid (isB_of hb1 rfl);clear hb1
    go_wp2_with fail
    go_roundw
    case rel => exact ⟨j + 1, acc ++ [s[j]], by omega, by simp; omega, by go_num, by rw [← Hu.out, HU.out]; simp, by rw [← HE.out, He.out], by rw [← bd_byteCells]; exact Hb1.out, hB.trans hk1.below⟩
    case measure => simp [intOf]; omega
  ·have Hacc := Lib.hid (by rw [← Hu.out, drop_end s j (by omega)]; simp [unesc] : unesc s.data.toList = acc)
   go_wp2_with fail
   refine (string_any w.heap.size w.heap.size acc _ Hb.out (by omega)).mono ?_
   rintro e w1 ⟨rfl, hk1, _⟩
   go_wp2_with fail
   go_ret
   exact ⟨by rw [Hacc.out]; rfl, hB.trans hk1.below⟩
def Ret3 (t : List UInt8) (n e' : Int) (w : World) (e : Ending) (w' : World) : Prop := e = .returned (.tuple #[.string ⟨t.toArray⟩, .int .i64 n, .int .u8 e']) ∧ Below w.heap.size w w'
theorem ret_3 {t u : ByteArray} {n m a b : Int} (h1 : t = u) (h2 : n = m) (h3 : a = b) : Ending.returned (.tuple #[.string t, .int .i64 n, .int .u8 a]) = .returned (.tuple #[.string u, .int .i64 m, .int .u8 b]) := by rw [h1, h2, h3]
set_option maxRecDepth 100000 in
set_option maxHeartbeats 400000 in
theorem unquote_any (s : ByteArray) (a : Int) (w : World) (hs : s.size ≤ 70368744177664) :
   Calls Tryz.prog 273 #[.string s, .int .i64 a] w (Ret3 (uqT s.data.toList a) (uqN s.data.toList a) (uqE s.data.toList a) w) := by
 by_cases h0 : uqE s.data.toList a = 0
 ·have hop : opE 34 s.data.toList a = 0 := by
    by_cases h : opE 34 s.data.toList a = 0
    ·exact h
    ·unfold uqE at h0; rw [if_pos h] at h0; exact absurd h0 h
  obtain ⟨k, rfl, hk⟩ := opE_ok 34 s a hop
  have hr : (uqR s.data.toList k).2 = 0 := by unfold uqE at h0; rw [if_neg (by simp [hop])] at h0; exact h0
  have hN : uqN s.data.toList k = (uqR s.data.toList k).1 := by unfold uqN; rw [if_neg (by simp [hop])]
  have hT : uqT s.data.toList k = qText (s.data.toList.drop (k + 1)) := by unfold uqT; rw [if_neg (by simp [hop, hr])]; simp
  obtain ⟨tq, hto⟩ : ∃ tq, (uqR s.data.toList k).1 = tq := ⟨_, rfl⟩
  have hqe : qEnd (s.data.toList.drop (k + 1)) (k + 1) = (tq, 0) := Prod.ext hto hr
  obtain ⟨b1, b2, b3, b4⟩ := qEnd_part _ _ _ _ (Nat.le_refl _) hqe
  rw [List.length_drop, len_list] at b2
  rw [hto] at hN
  have hpart : (s.extract (k + 1) (tq - 1)).data.toList = (s.data.toList.drop (k + 1)).take (tq - 1 - (k + 1)) := Lib.extract_data _ _ _
  have Hok := Lib.hid (by rw [hpart]; exact b3 : escOK (s.extract (k + 1) (tq - 1)).data.toList = true)
  have Hun := Lib.hid (b4.trans hT.symm);have H0 := Lib.hid h0;have HN := Lib.hid hN;clear hop hr hN hT hto hqe b3 b4 hpart h0
  go_enter Tryz.func273, Tryz.ntmps273
  go_wp2_with fail
  refine (quotedEnd_any s _ w hs).mono ?_
  rintro e w' ⟨rfl, rfl⟩
  rw [H0.out, HN.out]
  go_wp2_with fail
  refine (unescape_any _ _ (by simp; omega) Hok.out).mono ?_
  rintro e w1 ⟨rfl, hB⟩
  go_wp2_with fail
  go_ret3
  exact ⟨ret_3 (by rw [← Hun.out]) HN.out.symm H0.out.symm, hB⟩
 ·have hT : uqT s.data.toList a = [] := by
    unfold uqT
    rw [if_pos]
    unfold uqE at h0
    by_cases h : opE 34 s.data.toList a = 0
    ·rw [if_neg (by simp [h])] at h0; exact .inr h0
    ·exact .inl h
  obtain ⟨x, hx⟩ : ∃ x, uqE s.data.toList a = x := ⟨_, rfl⟩
  rw [hx] at h0
  have hxb : (x != 0) = true := by simpa using h0
  have Hx := Lib.hid hx;have HT := Lib.hid hT;clear h0 hx hT
  go_enter Tryz.func273, Tryz.ntmps273
  go_wp2_with fail
  refine (quotedEnd_any s _ w hs).mono ?_
  rintro e w' ⟨rfl, rfl⟩
  rw [Hx.out]
  go_wp2_with fail
  go_ret3
  exact ⟨ret_3 (by rw [HT.out]) rfl Hx.out.symm, Below.refl _ _⟩
def anyC (p : Int → Bool) (l : List UInt8) : Bool := l.any fun c => p c.toNat
set_option maxRecDepth 100000 in
set_option maxHeartbeats 400000 in
theorem contains_any (f : Nat) (p : Int → Bool) (hf : ClassFn f p) (s : ByteArray) (w : World) (hs : s.size ≤ 70368744177664) :
   Calls Tryz.prog 134 #[.string s, .func (.func f) #[] #[]] w (Ret (.bool (anyC p s.data.toList)) w) := by
 go_enter Tryz.func134, Tryz.ntmps134
 go_wp2_with fail
 go_loop [5, 8] (fun _ i => ∃ k : Nat, k ≤ s.size ∧ i = .int .i64 k ∧ anyC p (s.data.toList.drop k) = anyC p s.data.toList) (fun _ i => s.size - (intOf i).toNat)
 case atStart => exact ⟨0, by omega, rfl, rfl⟩
 case round =>
  obtain ⟨k, hk, rfl, he⟩ := hrel
  have He := Lib.hid he;clear he
  by_cases hlt : k < s.size
  ·have Hd := Lib.hid (drop_step s k hlt)
   cases hb : p s[k].toNat
   ·have Hb := Lib.hid hb
    clear hb
    go_wp2_with fail
    rw [hf.ent, Oper.upon_enter]
    refine (hf.calls _ _ (byte_lo _) (byte_hi _)).mono ?_
    rintro e w' ⟨rfl, rfl⟩
    rw [Hb.out]
    go_wp2_with fail
    go_round
    case rel => exact ⟨k + 1, by omega, by go_num, by rw [← He.out, Hd.out]; simp [anyC, Hb.out]⟩
    case measure => simp [intOf]; omega
   ·have Hb := Lib.hid hb
    clear hb
    go_wp2_with fail
    rw [hf.ent, Oper.upon_enter]
    refine (hf.calls _ _ (byte_lo _) (byte_hi _)).mono ?_
    rintro e w' ⟨rfl, rfl⟩
    rw [Hb.out]
    go_wp2_with fail
    go_ret
    exact ⟨ret_bool (by rw [← He.out, Hd.out]; simp [anyC, Hb.out]), rfl⟩
  ·have HF := Lib.hid (by rw [← He.out, drop_end s k (by omega)]; rfl : anyC p s.data.toList = false)
   go_wp2_with fail
   go_ret
   exact ⟨ret_bool (by rw [HF.out]), rfl⟩
def Ret2 (t : List UInt8) (e' : Int) (w : World) (e : Ending) (w' : World) : Prop := e = .returned (.tuple #[.string ⟨t.toArray⟩, .int .u8 e']) ∧ Below w.heap.size w w'
theorem escL_snoc (l : List UInt8) (c : UInt8) : escL (l ++ [c]) = escL l ++ (if c.toNat = 34 ∨ c.toNat = 92 then [92, c] else [c]) := by simp [escL]
theorem escL_len (l : List UInt8) : (escL l).length ≤ 2 * l.length := by
 induction l with
 | nil => simp [escL]
 | cons c t ih =>
   have : escL (c :: t) = (if c.toNat = 34 ∨ c.toNat = 92 then [92, c] else [c]) ++ escL t := by simp [escL]
   rw [this]
   simp only [List.length_append, List.length_cons]
   split <;> simp <;> omega
set_option maxRecDepth 100000 in
set_option maxHeartbeats 1000000 in
theorem quote_any (s : ByteArray) (w : World) (hs : s.size ≤ 35184372088832) :
   Calls Tryz.prog 67 #[.string s] w (Ret2 (quT s.data.toList) (quE s.data.toList) w) := by
 cases hc : anyC ctlI s.data.toList
 ·have HT := Lib.hid (by unfold quT; rw [if_neg (by rw [show hasCtl s.data.toList = anyC ctlI s.data.toList from rfl, hc]; simp)] : quT s.data.toList = [34] ++ escL s.data.toList ++ [34])
  have HE := Lib.hid (by unfold quE; rw [if_neg (by rw [show hasCtl s.data.toList = anyC ctlI s.data.toList from rfl, hc]; simp)] : quE s.data.toList = 0)
  have Hc := Lib.hid hc;clear hc
  go_enter Tryz.func67, Tryz.ntmps67
  go_wp2_with fail
  refine (contains_any _ _ ctlFn s w (by omega)).mono ?_
  rintro e w' ⟨rfl, rfl⟩
  rw [Hc.out]
  go_wp2_with fail
  refine (writeByte_any w.heap.size w.heap.size _ 34 _ (fresh_isB w) (by simp [Lib.byteCells]) (by simp)).mono ?_
  rintro e w1 ⟨rfl, hb1, hk1⟩
  have Hb1 := Lib.hid (isB_of hb1 rfl)
  have hB1 := ((Below.refl _ w).alloc (Nat.le_refl _) (.cells #[.pointer none, .slice none 0 0] 131)).trans hk1.below
  clear hb1 hk1
  go_wp2_with fail
  go_loopw [5, 11] (fun _ i wr => ∃ j : Nat, j ≤ s.size ∧ i = .int .i64 j ∧ IsB w.heap.size w.heap.size (Lib.byteCells ([34] ++ escL (s.data.toList.take j))) wr ∧ Below w.heap.size w wr) (fun _ i _ => s.size - (intOf i).toNat)
  case atStart => exact ⟨0, by omega, rfl, Hb1.out, hB1⟩
  case round =>
   obtain ⟨j, hj, rfl, hb, hB⟩ := hrel
   have hsz := hB.size;have hel := escL_len (s.data.toList.take j)
   rw [List.length_take, len_list] at hel
   have hlen : (Lib.byteCells ([34] ++ escL (s.data.toList.take j))).length ≤ 2 * s.size + 1 := by
    rw [Lib.byteCells_length, List.length_append, List.length_singleton]; omega
   have Hb := Lib.hid hb;clear hb hel
   by_cases hlt : j < s.size
   ·have HS := Lib.hid (by rw [take_snoc s j hlt, escL_snoc] : escL (s.data.toList.take (j + 1)) = escL (s.data.toList.take j) ++ (if s[j].toNat = 34 ∨ s[j].toNat = 92 then [92, s[j]] else [s[j]]))
    by_cases hq : s[j].toNat = 34 ∨ s[j].toNat = 92
    ·have Hq := Lib.hid hq
     have hfin : ∀ (w5 : World) (x : Int), x = (s[j].toNat : Int) → IsB w.heap.size w.heap.size (Lib.byteCells ([34] ++ escL (s.data.toList.take j)) ++ [.int .u8 92] ++ [.int .u8 x]) w5 → IsB w.heap.size w.heap.size (Lib.byteCells ([34] ++ escL (s.data.toList.take (j + 1)))) w5 := by
      intro w5 x hx h5
      subst hx
      rw [HS.out, if_pos Hq.out]
      simpa [Lib.byteCells] using h5
     have Hfin := Lib.hid hfin;clear hfin
     rcases hq with hq | hq
     ·have q1 : ((s[j].toNat : Int) == 34) = true := by simp; omega
      clear hq
      go_wp2_with fail
      refine (writeByte_any w.heap.size w.heap.size _ 92 _ Hb.out (by omega) (by omega)).mono ?_
      rintro e w3 ⟨rfl, hb3, hk3⟩
      have hs3 := hk3.below.size;have Hb3 := Lib.hid (isB_of hb3 rfl);clear hb3
      go_wp2_with fail
      refine (writeByte_any w.heap.size w.heap.size _ _ _ Hb3.out (by rw [List.length_append, List.length_singleton]; omega) (by omega)).mono ?_
      rintro e w4 ⟨rfl, hb4, hk4⟩
      have Hb4 := Lib.hid (isB_of hb4 rfl);clear hb4
      go_wp2_with fail
      go_roundw
      case rel => exact ⟨j + 1, by omega, by go_num, Hfin.out _ _ rfl Hb4.out, (hB.trans hk3.below).trans hk4.below⟩
      case measure => simp [intOf]; omega
     ·have q1 : ((s[j].toNat : Int) == 34) = false := by simp; omega
      have q2 : ((s[j].toNat : Int) == 92) = true := by simp; omega
      clear hq
      go_wp2_with fail
      refine (writeByte_any w.heap.size w.heap.size _ 92 _ Hb.out (by omega) (by omega)).mono ?_
      rintro e w3 ⟨rfl, hb3, hk3⟩
      have hs3 := hk3.below.size;have Hb3 := Lib.hid (isB_of hb3 rfl);clear hb3
      go_wp2_with fail
      refine (writeByte_any w.heap.size w.heap.size _ _ _ Hb3.out (by rw [List.length_append, List.length_singleton]; omega) (by omega)).mono ?_
      rintro e w4 ⟨rfl, hb4, hk4⟩
      have Hb4 := Lib.hid (isB_of hb4 rfl);clear hb4
      go_wp2_with fail
      go_roundw
      case rel => exact ⟨j + 1, by omega, by go_num, Hfin.out _ _ rfl Hb4.out, (hB.trans hk3.below).trans hk4.below⟩
      case measure => simp [intOf]; omega
    ·have hfin : ∀ (w5 : World), IsB w.heap.size w.heap.size (Lib.byteCells ([34] ++ escL (s.data.toList.take j)) ++ [.int .u8 (s[j].toNat : Int)]) w5 → IsB w.heap.size w.heap.size (Lib.byteCells ([34] ++ escL (s.data.toList.take (j + 1)))) w5 := by
       intro w5 h5
       rw [HS.out, if_neg hq]
       simpa [Lib.byteCells] using h5
     have Hfin := Lib.hid hfin
     have q1 : ((s[j].toNat : Int) == 34) = false := by simp; omega
     have q2 : ((s[j].toNat : Int) == 92) = false := by simp; omega
     clear hfin hq
     go_wp2_with fail
     refine (writeByte_any w.heap.size w.heap.size _ _ _ Hb.out (by omega) (by omega)).mono ?_
     rintro e w4 ⟨rfl, hb4, hk4⟩
     have Hb4 := Lib.hid (isB_of hb4 rfl);clear hb4
     go_wp2_with fail
     go_roundw
     case rel => exact ⟨j + 1, by omega, by go_num, Hfin.out _ Hb4.out, hB.trans hk4.below⟩
     case measure => simp [intOf]; omega
   ·have htk : s.data.toList.take j = s.data.toList := List.take_of_length_le (by rw [len_list]; omega)
    have Hb' := Lib.hid (by rw [← htk]; exact Hb.out : IsB w.heap.size w.heap.size (Lib.byteCells ([34] ++ escL s.data.toList)) wr)
    have hlen' : (Lib.byteCells ([34] ++ escL s.data.toList)).length ≤ 2 * s.size + 1 := by rw [← htk]; exact hlen
    clear htk hlen
    go_wp2_with fail
    refine (writeByte_any w.heap.size w.heap.size _ 34 _ Hb'.out (by omega) (by omega)).mono ?_
    rintro e w4 ⟨rfl, hb4, hk4⟩
    have hs4 := hk4.below.size
    have Hb4 := Lib.hid (by have := isB_of hb4 rfl; rw [show Lib.byteCells ([34] ++ escL s.data.toList) ++ [Value.int .u8 34] = Lib.byteCells ([34] ++ escL s.data.toList ++ [34]) from by simp [Lib.byteCells]] at this; exact this : IsB w.heap.size w.heap.size (Lib.byteCells ([34] ++ escL s.data.toList ++ [34])) w4)
    clear hb4
    go_wp2_with fail
    refine (string_any w.heap.size w.heap.size _ _ Hb4.out (by omega)).mono ?_
    rintro e w5 ⟨rfl, hk5, _⟩
    go_wp2_with fail
    go_ret2
    exact ⟨ret_si (by rw [HT.out]; rfl) HE.out.symm, (hB.trans hk4.below).trans hk5.below⟩
 ·have HT := Lib.hid (by unfold quT; rw [if_pos (show hasCtl s.data.toList = true from hc)] : quT s.data.toList = [])
  have HE := Lib.hid (by unfold quE; rw [if_pos (show hasCtl s.data.toList = true from hc)] : quE s.data.toList = 5)
  have Hc := Lib.hid hc;clear hc
  go_enter Tryz.func67, Tryz.ntmps67
  go_wp2_with fail
  refine (contains_any _ _ ctlFn s w (by omega)).mono ?_
  rintro e w' ⟨rfl, rfl⟩
  rw [Hc.out]
  go_wp2_with fail
  go_ret2
  exact ⟨ret_si (by rw [HT.out]) HE.out.symm, Below.refl _ _⟩
end Lx
end Go.Proofs.YtmmjfofdnpafkaaGreatDoor
namespace Go.Proofs.YtmmjfofdnpafkaaGreatDoor
namespace Lx
open Go.RowKit
theorem rblank_any (c : Int) (w : World) : Calls Tryz.prog 80 #[.int .u8 c] w (Ret (.bool (blankI c)) w) := by
 go_enter Tryz.func80, Tryz.ntmps80
 go_wp2
 all_goals (go_ret; exact ⟨by simp [blankI, *], rfl⟩)
theorem rctl_any (c : Int) (w : World) : Calls Tryz.prog 143 #[.int .u8 c] w (Ret (.bool (ctlI c)) w) := by
 go_enter Tryz.func143, Tryz.ntmps143
 go_wp2
 all_goals (go_ret; exact ⟨by simp [ctlI, *] <;> omega, rfl⟩)
def m9 : List UInt8 := [45, 46, 33, 37, 42, 95, 43, 39, 126]
theorem mark_m9 (c : Int) : markI c = ((m9.any fun b => (b.toNat : Int) == c) || (c == 96)) := by
 have h : ((96 : Int) == c) = (c == 96) := by rw [Bool.eq_iff_iff, beq_iff_eq, beq_iff_eq]; exact eq_comm
 have : markI c = ((m9.any fun b => (b.toNat : Int) == c) || ((96 : Int) == c)) := by simp [markI, marksL, m9, Bool.or_assoc]
 rw [this, h]
theorem tok_letter (c : Int) (h : letterI c = true ∨ digitI c = true) : tokI c = true := by
 rcases h with h | h <;> simp [tokI, h]
theorem tok_mark (c : Int) (h : letterI c = false) (h2 : digitI c = false) : tokI c = ((m9.any fun b => (b.toNat : Int) == c) || (c == 96)) := by
 unfold tokI; rw [h, h2, mark_m9]; rfl
set_option maxRecDepth 100000 in
set_option maxHeartbeats 1000000 in
theorem rtok_any (c : Int) (w : World) : Calls Tryz.prog 150 #[.int .u8 c] w (Ret (.bool (tokI c)) w) := by
 by_cases hA : 65 ≤ c ∧ c ≤ 90
 ·obtain ⟨a1, a2⟩ := hA
  have HT := Lib.hid (tok_letter c (.inl (by simp [letterI, a1, a2])))
  go_enter Tryz.func150, Tryz.ntmps150
  go_wp2
  all_goals (go_ret; exact ⟨ret_bool HT.out.symm, rfl⟩)
 by_cases hB : 97 ≤ c ∧ c ≤ 122
 ·obtain ⟨a1, a2⟩ := hB
  have HT := Lib.hid (tok_letter c (.inl (by simp [letterI, a1, a2])))
  have a3 : 90 < c := by omega
  clear hA
  go_enter Tryz.func150, Tryz.ntmps150
  go_wp2
  all_goals (go_ret; exact ⟨ret_bool HT.out.symm, rfl⟩)
 by_cases hC : 48 ≤ c ∧ c ≤ 57
 ·obtain ⟨a1, a2⟩ := hC
  have HT := Lib.hid (tok_letter c (.inr (by simp [digitI, a1, a2])))
  have a3 : c < 65 := by omega
  clear hA hB
  go_enter Tryz.func150, Tryz.ntmps150
  go_wp2
  all_goals (go_ret; exact ⟨ret_bool HT.out.symm, rfl⟩)
 have hl : letterI c = false := by
  rw [Bool.eq_false_iff]; simp only [letterI, ne_eq, Bool.or_eq_true, Bool.and_eq_true, decide_eq_true_eq]; omega
 have hd : digitI c = false := by
  rw [Bool.eq_false_iff]; simp only [digitI, ne_eq, Bool.and_eq_true, decide_eq_true_eq]; omega
 have HT := Lib.hid (tok_mark c hl hd)
 have h4 : (c < 48 ∧ c < 65) ∨ (57 < c ∧ c < 65) ∨ (90 < c ∧ c < 97) ∨ (122 < c ∧ 90 < c) := by omega
 clear hA hB hC hl hd
 obtain ⟨ms, hms⟩ : ∃ ms : ByteArray, (⟨#[45, 46, 33, 37, 42, 95, 43, 39, 126]⟩ : ByteArray) = ms := ⟨_, rfl⟩
 have hsz : ms.size = 9 := by rw [← hms]; rfl
 have hs1 : ms.size ≤ 9 := by omega
 have hs2 : 9 ≤ ms.size := by omega
 have HL := Lib.hid (by rw [← hms]; rfl : ms.data.toList = m9)
 have HM := Lib.hid hms;clear hsz hms
 rcases h4 with ⟨a1, a2⟩ | ⟨a1, a2⟩ | ⟨a1, a2⟩ | ⟨a1, a2⟩
 all_goals
  go_enter Tryz.func150, Tryz.ntmps150
  go_wp2_with fail
  rw [HM.out]
  go_loop [4] (fun i => ∃ k : Nat, k ≤ ms.size ∧ i = .int .i64 k ∧ ((ms.data.toList.take k).any fun b => (b.toNat : Int) == c) = false) (fun i => ms.size - (intOf i).toNat)
  case atStart => exact ⟨0, by omega, rfl, rfl⟩
  case round =>
   obtain ⟨k, hk, rfl, he⟩ := hrel
   have He := Lib.hid he;clear he
   by_cases hlt : k < ms.size
   ·have HS := Lib.hid (by rw [take_snoc ms k hlt, List.any_append, He.out]; simp : ((ms.data.toList.take (k + 1)).any fun b => (b.toNat : Int) == c) = ((ms[k].toNat : Int) == c))
    cases hb : ((ms[k].toNat : Int) == c)
    ·go_wp2_with fail
     go_round
     case rel => exact ⟨k + 1, by omega, by go_num, by rw [HS.out]; exact hb⟩
     case measure => simp [intOf]; omega
    ·have HF := Lib.hid (by
       rw [HT.out, ← HL.out]
       have h1 : ((ms.data.toList.take (k + 1)).any fun b => (b.toNat : Int) == c) = true := by rw [HS.out]; exact hb
       have h2 : (ms.data.toList.any fun b => (b.toNat : Int) == c) = true := by
        rw [List.any_eq_true] at h1 ⊢
        obtain ⟨x, hx, hp⟩ := h1
        exact ⟨x, List.mem_of_mem_take hx, hp⟩
       rw [h2]; rfl : tokI c = true)
     go_wp2_with fail
     go_ret
     exact ⟨ret_bool HF.out.symm, rfl⟩
   ·have HF := Lib.hid (by
      rw [HT.out, ← HL.out]
      have h1 := He.out
      rw [List.take_of_length_le (by rw [len_list]; omega)] at h1
      rw [h1, Bool.false_or] : tokI c = (c == 96))
    go_wp2_with fail
    go_ret
    exact ⟨ret_bool HF.out.symm, rfl⟩
set_option maxRecDepth 100000 in
set_option maxHeartbeats 400000 in
theorem rtokenEnd_any (s : ByteArray) (i : Int) (w : World) (hs : s.size ≤ maxLen) :
   Calls Tryz.prog 77 #[.string s, .int .i64 i] w (Ret (.int .i64 (bhd tokI s (min i.toNat s.size) : Nat)) w) := by
 unfold maxLen at hs
 go_enter Tryz.func77, Tryz.ntmps77
 go_wp2
 all_goals
  go_loop [5] (fun i' => ∃ k : Nat, k ≤ s.size ∧ i' = .int .i64 k ∧ bhd tokI s k = bhd tokI s (min i.toNat s.size)) (fun i' => s.size - (intOf i').toNat)
  case atStart => exact ⟨min i.toNat s.size, by omega, by first | (congr 1; omega) | (congr 1; simp; omega), rfl⟩
  case round =>
   obtain ⟨k, hk, rfl, he⟩ := hrel
   have He := Lib.hid he;clear he
   by_cases hlt : k < s.size
   ·cases hb : tokI s[k].toNat
    ·have H1 := Lib.hid (bhd_no tokI s k hlt hb)
     have H2 := Lib.hid hb;clear hb
     go_wp2_with fail
     refine (rtok_any _ _).mono ?_
     rintro e w' ⟨rfl, rfl⟩
     rw [H2.out]
     go_wp2_with fail
     go_ret
     exact ⟨ret_int (by rw [← He.out, H1.out]), rfl⟩
    ·have H1 := Lib.hid (bhd_yes tokI s k hlt hb)
     have H2 := Lib.hid hb;clear hb
     go_wp2_with fail
     refine (rtok_any _ _).mono ?_
     rintro e w' ⟨rfl, rfl⟩
     rw [H2.out]
     go_wp2_with fail
     go_round
     case rel => exact ⟨k + 1, by omega, by go_num, by rw [← H1.out, He.out]⟩
     case measure => simp [intOf]; omega
   ·have H1 := Lib.hid (bhd_end tokI s k (by omega))
    go_wp2
    go_ret
    exact ⟨ret_int (by rw [← He.out, H1.out]), rfl⟩
set_option maxRecDepth 100000 in
set_option maxHeartbeats 400000 in
theorem rblanks_any (s : ByteArray) (i : Int) (w : World) (hs : s.size ≤ maxLen) :
   Calls Tryz.prog 78 #[.string s, .int .i64 i] w (Ret (.int .i64 (bhd blankI s (min i.toNat s.size) : Nat)) w) := by
 unfold maxLen at hs
 go_enter Tryz.func78, Tryz.ntmps78
 go_wp2
 all_goals
  go_loop [5] (fun i' => ∃ k : Nat, k ≤ s.size ∧ i' = .int .i64 k ∧ bhd blankI s k = bhd blankI s (min i.toNat s.size)) (fun i' => s.size - (intOf i').toNat)
  case atStart => exact ⟨min i.toNat s.size, by omega, by first | (congr 1; omega) | (congr 1; simp; omega), rfl⟩
  case round =>
   obtain ⟨k, hk, rfl, he⟩ := hrel
   have He := Lib.hid he;clear he
   by_cases hlt : k < s.size
   ·cases hb : blankI s[k].toNat
    ·have H1 := Lib.hid (bhd_no blankI s k hlt hb)
     have H2 := Lib.hid hb;clear hb
     go_wp2_with fail
     refine (rblank_any _ _).mono ?_
     rintro e w' ⟨rfl, rfl⟩
     rw [H2.out]
     go_wp2_with fail
     go_ret
     exact ⟨ret_int (by rw [← He.out, H1.out]), rfl⟩
    ·have H1 := Lib.hid (bhd_yes blankI s k hlt hb)
     have H2 := Lib.hid hb;clear hb
     go_wp2_with fail
     refine (rblank_any _ _).mono ?_
     rintro e w' ⟨rfl, rfl⟩
     rw [H2.out]
     go_wp2_with fail
     go_round
     case rel => exact ⟨k + 1, by omega, by go_num, by rw [← H1.out, He.out]⟩
     case measure => simp [intOf]; omega
   ·have H1 := Lib.hid (bhd_end blankI s k (by omega))
    go_wp2
    go_ret
    exact ⟨ret_int (by rw [← He.out, H1.out]), rfl⟩
set_option maxRecDepth 100000 in
theorem rtoken_any (s : ByteArray) (w : World) (hs : s.size ≤ maxLen) :
   Calls Tryz.prog 91 #[.string s] w (Ret (.bool (tokenB s)) w) := by
 by_cases h1 : 1 ≤ s.size
 ·have he := isEmpty_no s h1
  have hn := toList_ne s h1;have Hs := Lib.hid hs;have H1 := Lib.hid h1;clear hs h1
  go_enter Tryz.func91, Tryz.ntmps91
  go_wp2_with fail
  refine (rtokenEnd_any _ _ _ Hs.out).mono ?_
  rintro e w' ⟨rfl, rfl⟩
  rw [bhd_zero]
  go_wp2_with fail
  go_ret
  exact ⟨ret_bool (by rw [cast_beq]; simp [tokenB, H1.out]), rfl⟩
 ·have he := isEmpty_yes s h1
  have hn := toList_nil s h1;have Hs := Lib.hid hs;have H1 := Lib.hid h1;clear hs h1
  go_enter Tryz.func91, Tryz.ntmps91
  go_wp2_with fail
  go_ret
  exact ⟨ret_bool (by simp [tokenB]; intro h; exact absurd h H1.out), rfl⟩
theorem valL_ten (l : List UInt8) (h : allD l = true) (hl : l.length ≤ 10) : 0 ≤ valL l ∧ valL l ≤ 9999999999 := by
 have h1 := valL_bd l h
 have h2 : (10 : Int) ^ l.length ≤ 10 ^ 10 := by
  have := Nat.pow_le_pow_right (n := 10) (by omega) hl
  exact_mod_cast this
 have h3 : (10 : Int) ^ 10 = 10000000000 := by decide
 omega
set_option maxRecDepth 100000 in
set_option maxHeartbeats 1000000 in
theorem rnumber_any (s : ByteArray) (w : World) (hs : s.size ≤ maxLen) :
   Calls Tryz.prog 96 #[.string s] w (Ret (.tuple #[.int .i64 (numN s.data.toList), .int .u8 (numE s.data.toList)]) w) := by
 have hL := len_list s;have HL := Lib.hid hL;clear hL
 unfold maxLen at hs
 go_enter Tryz.func96, Tryz.ntmps96
 go_wp2_with fail
 go_loop [4, 5] (fun n i => ∃ k : Nat, k ≤ s.size ∧ k ≤ 10 ∧ i = .int .i64 k ∧ allD (s.data.toList.take k) = true ∧ n = .int .i64 (valL (s.data.toList.take k))) (fun _ i => s.size - (intOf i).toNat)
 case atStart => exact ⟨0, by omega, by omega, rfl, rfl, rfl⟩
 case round =>
  obtain ⟨k, hk, hk10, rfl, hall, rfl⟩ := hrel
  have Hall := Lib.hid hall
  have hvt := valL_ten (s.data.toList.take k) hall (by simp; omega)
  clear hall
  by_cases hlt : k < s.size
  ·by_cases hd : 48 ≤ (s[k].toNat : Int) ∧ (s[k].toNat : Int) ≤ 57
   ·obtain ⟨d1, d2⟩ := hd
    by_cases h10 : 10 ≤ k
    ·have Hb := Lib.hid (num_bad s.data.toList (by rw [HL.out]; omega))
     go_wp2_with fail
     go_ret2
     exact ⟨ret_ii Hb.out.1.symm Hb.out.2.symm, rfl⟩
    ·have hv := valL_small (s.data.toList.take k) Hall.out (by simp; omega)
     have hsn := Lib.hid (by rw [take_snoc s k hlt, valL_snoc] : valL (s.data.toList.take (k + 1)) = valL (s.data.toList.take k) * 10 + ((s[k].toNat : Int) - 48))
     have hsa := Lib.hid (by rw [take_snoc s k hlt, allD_snoc, Hall.out]; simp [digitI, d1, d2] : allD (s.data.toList.take (k + 1)) = true)
     clear hvt
     go_wp2_with fail
     go_round
     case rel => exact ⟨k + 1, by omega, by omega, by go_num, hsa.out, by rw [hsn.out, Int.mul_comm]⟩
     case measure => simp [intOf]; omega
   ·have hf : allD (s.data.toList.take (k + 1)) = false := by
      rw [take_snoc s k hlt, allD_snoc, Hall.out, Bool.true_and, Bool.eq_false_iff]
      simp only [digitI, ne_eq, Bool.and_eq_true, decide_eq_true_eq]; exact hd
    have Hb := Lib.hid (num_bad s.data.toList (.inr (.inr (allD_take_false _ _ hf))));clear hf
    rcases Int.lt_or_le (s[k].toNat : Int) 48 with d | d
    ·go_wp2_with fail
     go_ret2
     exact ⟨ret_ii Hb.out.1.symm Hb.out.2.symm, rfl⟩
    ·have d' : 57 < (s[k].toNat : Int) := by omega
     go_wp2_with fail
     go_ret2
     exact ⟨ret_ii Hb.out.1.symm Hb.out.2.symm, rfl⟩
  ·have htk := Lib.hid (List.take_of_length_le (by rw [HL.out]; omega) : s.data.toList.take k = s.data.toList)
   by_cases h1 : 1 ≤ s.size
   ·have he := isEmpty_no s h1
    have hn := toList_ne s h1
    by_cases hbig : 2147483647 < valL (s.data.toList.take k)
    ·have Hb := Lib.hid (num_big s.data.toList (by rw [HL.out]; omega) (by rw [HL.out]; omega) (by rw [← htk.out]; exact Hall.out) (by rw [← htk.out]; exact hbig))
     go_wp2_with fail
     go_ret2
     exact ⟨ret_ii Hb.out.1.symm Hb.out.2.symm, rfl⟩
    ·have Hb := Lib.hid (num_ok s.data.toList (by rw [HL.out]; omega) (by rw [HL.out]; omega) (by rw [← htk.out]; exact Hall.out) (by rw [← htk.out]; omega))
     have hle : valL (s.data.toList.take k) ≤ 2147483647 := by omega
     clear hbig
     go_wp2_with fail
     go_ret2
     exact ⟨ret_ii (by rw [Hb.out.1, htk.out]) Hb.out.2.symm, rfl⟩
   ·have he := isEmpty_yes s h1
    have hn := toList_nil s h1
    have Hb := Lib.hid (num_bad s.data.toList (by rw [HL.out]; omega))
    go_wp2_with fail
    go_ret2
    exact ⟨ret_ii Hb.out.1.symm Hb.out.2.symm, rfl⟩
end Lx
end Go.Proofs.YtmmjfofdnpafkaaGreatDoor
namespace Go.Proofs.YtmmjfofdnpafkaaGreatDoor
namespace Lx
open Go.RowKit
def roN (mark : Int) (l : List UInt8) (a : Int) : Int := if opE mark l a = 0 then 0 else opN l a
set_option maxRecDepth 100000 in
set_option maxHeartbeats 400000 in
theorem ropens_any (s : ByteArray) (a mark : Int) (w : World) (_hs : s.size ≤ maxLen) :
   Calls Tryz.prog 253 #[.string s, .int .i64 a, .int .u8 mark] w (Ret (.tuple #[.int .i64 (roN mark s.data.toList a), .int .u8 (opE mark s.data.toList a)]) w) := by
 unfold maxLen at _hs
 by_cases h1 : a < 0
 ·have Ho := opE_out mark s.data.toList a (.inl h1)
  have H2 := Lib.hid (by unfold roN; rw [Ho.2, if_neg (by decide), Ho.1] : roN mark s.data.toList a = 0)
  have H := Lib.hid Ho;clear Ho
  go_enter Tryz.func253, Tryz.ntmps253
  go_wp2_with fail
  go_ret2
  exact ⟨ret_ii H2.out.symm H.out.2.symm, rfl⟩
 by_cases h2 : (s.size : Int) < a
 ·have Ho := opE_out mark s.data.toList a (.inr (by rw [len_list]; exact h2))
  have H2 := Lib.hid (by unfold roN; rw [Ho.2, if_neg (by decide), Ho.1] : roN mark s.data.toList a = 0)
  have H := Lib.hid Ho;clear Ho
  go_enter Tryz.func253, Tryz.ntmps253
  go_wp2_with fail
  go_ret2
  exact ⟨ret_ii H2.out.symm H.out.2.symm, rfl⟩
 obtain ⟨k, rfl⟩ := Int.eq_ofNat_of_zero_le (by omega : 0 ≤ a)
 have H1 := Lib.hid (opN_in s.data.toList k (by rw [len_list]; omega))
 rcases Nat.lt_or_ge k s.size with h3 | h3
 ·have h4 : ((k : Int) == (s.size : Int)) = false := by rw [beq_eq_false_iff_ne]; omega
  have HE := Lib.hid (opE_at mark s k h3)
  by_cases h5 : (s[k].toNat : Int) = mark
  ·have h6 : ((s[k].toNat : Int) != mark) = false := by simp [h5]
   have H5 := Lib.hid h5;clear h5
   go_enter Tryz.func253, Tryz.ntmps253
   go_wp2_with fail
   go_ret2
   exact ⟨ret_ii (by unfold roN; rw [HE.out, if_pos H5.out]; rfl) (by rw [HE.out, if_pos H5.out]), rfl⟩
  ·have h6 : ((s[k].toNat : Int) != mark) = true := by simp [h5]
   have H5 := Lib.hid h5;clear h5
   go_enter Tryz.func253, Tryz.ntmps253
   go_wp2_with fail
   go_ret2
   exact ⟨ret_ii (by unfold roN; rw [HE.out, if_neg H5.out, H1.out]; rfl) (by rw [HE.out, if_neg H5.out]), rfl⟩
 ·have h4 : ((k : Int) == (s.size : Int)) = true := by rw [beq_iff_eq]; omega
  have HE := Lib.hid (opE_end mark s.data.toList k (by rw [len_list]; omega))
  go_enter Tryz.func253, Tryz.ntmps253
  go_wp2_with fail
  go_ret2
  exact ⟨ret_ii (by unfold roN; rw [HE.out, H1.out]; rfl) HE.out.symm, rfl⟩
def rsN (l : List UInt8) (k : Nat) : Int := if (stepS l k).2 = 0 then ((stepS l k).1 : Int) - k else 0
def rsT (l : List UInt8) (k : Nat) : Int := if (stepS l k).2 = 0 then 0 else ((stepS l k).1 : Int)
theorem rs_of (l : List UInt8) (k : Nat) (x : Nat) (e : Int) (h : stepS l k = (x, e)) : rsN l k = (if e = 0 then (x : Int) - k else 0) ∧ rsT l k = (if e = 0 then 0 else (x : Int)) ∧ (stepS l k).2 = e := by
 unfold rsN rsT; rw [h]; exact ⟨rfl, rfl, rfl⟩
theorem ret_iii {k k' k'' : IntKind} {a b c d e f : Int} (h : a = b) (h' : c = d) (h'' : e = f) : Ending.returned (.tuple #[.int k a, .int k' c, .int k'' e]) = .returned (.tuple #[.int k b, .int k' d, .int k'' f]) := by rw [h, h', h'']
set_option maxRecDepth 100000 in
set_option maxHeartbeats 400000 in
theorem rstep_any (s : ByteArray) (k : Nat) (w : World) (hs : s.size ≤ 70368744177664) (hk : k ≤ s.size) :
   Calls Tryz.prog 254 #[.string s, .int .i64 k] w (Ret (.tuple #[.int .i64 (rsN (s.data.toList.drop k) k), .int .i64 (rsT (s.data.toList.drop k) k), .int .u8 (stepS (s.data.toList.drop k) k).2]) w) := by
 rcases Nat.lt_or_ge k s.size with hlt | hge
 ·have hd := drop_step s k hlt
  cases hc : ctlI s[k].toNat
  ·by_cases h9 : s[k].toNat = 92
   ·have h9b : ((s[k].toNat : Int) != 92) = false := by simp; omega
    rcases Nat.lt_or_ge (k + 1) s.size with h3 | h3
    ·have hd2 := drop_step s (k + 1) h3
     cases he : escI s[k + 1].toNat
     ·have HR := Lib.hid (rs_of _ _ _ _ (by rw [hd, hd2]; exact stepS_bad _ _ _ k hc h9 he : stepS (s.data.toList.drop k) k = (k, 5)))
      have Hc := Lib.hid hc
      have he2 : (s[k + 1].toNat : Int) < 32 ∨ (32 ≤ (s[k + 1].toNat : Int) ∧ 126 < (s[k + 1].toNat : Int)) := by
       rw [Bool.eq_false_iff] at he
       simp only [escI, ne_eq, Bool.and_eq_true, decide_eq_true_eq] at he
       omega
      clear hd hd2 hc he h9
      rcases he2 with he2 | ⟨he2, he3⟩
      all_goals
       go_enter Tryz.func254, Tryz.ntmps254
       go_wp2_with fail
       refine (rctl_any _ _).mono ?_
       rintro e w' ⟨rfl, rfl⟩
       rw [Hc.out]
       go_wp2_with fail
       go_ret3
       exact ⟨ret_iii (by rw [HR.out.1]; rfl) (by rw [HR.out.2.1]; rfl) HR.out.2.2.symm, rfl⟩
     ·have HR := Lib.hid (rs_of _ _ _ _ (by rw [hd, hd2]; exact stepS_two _ _ _ k hc h9 he : stepS (s.data.toList.drop k) k = (k + 2, 0)))
      have Hc := Lib.hid hc
      simp only [escI, Bool.and_eq_true, decide_eq_true_eq] at he
      obtain ⟨he2, he3⟩ := he
      clear hd hd2 hc h9
      go_enter Tryz.func254, Tryz.ntmps254
      go_wp2_with fail
      refine (rctl_any _ _).mono ?_
      rintro e w' ⟨rfl, rfl⟩
      rw [Hc.out]
      go_wp2_with fail
      go_ret3
      exact ⟨ret_iii (by rw [HR.out.1]; simp; omega) (by rw [HR.out.2.1]; rfl) HR.out.2.2.symm, rfl⟩
    ·have hd2 := drop_end s (k + 1) h3
     have HR := Lib.hid (rs_of _ _ _ _ (by rw [hd, hd2]; exact stepS_end _ k hc h9 : stepS (s.data.toList.drop k) k = (k + 1, 6)))
     have Hc := Lib.hid hc
     have Hk := Lib.hid (show ((s.size : Nat) : Int) = ((k + 1 : Nat) : Int) by omega)
     clear hd hd2 hc h9
     go_enter Tryz.func254, Tryz.ntmps254
     go_wp2_with fail
     refine (rctl_any _ _).mono ?_
     rintro e w' ⟨rfl, rfl⟩
     rw [Hc.out]
     go_wp2_with fail
     go_ret3
     exact ⟨ret_iii (by rw [HR.out.1]; rfl) (by rw [HR.out.2.1, if_neg (by decide)]; exact Hk.out) HR.out.2.2.symm, rfl⟩
   ·have h9b : ((s[k].toNat : Int) != 92) = true := by simp; omega
    have HR := Lib.hid (rs_of _ _ _ _ (by rw [hd]; exact stepS_one _ _ k hc h9 : stepS (s.data.toList.drop k) k = (k + 1, 0)))
    have Hc := Lib.hid hc;clear hd hc h9
    go_enter Tryz.func254, Tryz.ntmps254
    go_wp2_with fail
    refine (rctl_any _ _).mono ?_
    rintro e w' ⟨rfl, rfl⟩
    rw [Hc.out]
    go_wp2_with fail
    go_ret3
    exact ⟨ret_iii (by rw [HR.out.1]; simp; omega) (by rw [HR.out.2.1]; rfl) HR.out.2.2.symm, rfl⟩
  ·have HR := Lib.hid (rs_of _ _ _ _ (by rw [hd]; exact stepS_ctl _ _ k hc : stepS (s.data.toList.drop k) k = (k, 5)))
   have Hc := Lib.hid hc;clear hd hc
   go_enter Tryz.func254, Tryz.ntmps254
   go_wp2_with fail
   refine (rctl_any _ _).mono ?_
   rintro e w' ⟨rfl, rfl⟩
   rw [Hc.out]
   go_wp2_with fail
   go_ret3
   exact ⟨ret_iii (by rw [HR.out.1]; rfl) (by rw [HR.out.2.1]; rfl) HR.out.2.2.symm, rfl⟩
 ·have HR := Lib.hid (rs_of _ _ _ _ (by rw [drop_end s k hge]; rfl : stepS (s.data.toList.drop k) k = (k, 6)))
  have Hk := Lib.hid (show ((s.size : Nat) : Int) = ((k : Nat) : Int) by omega)
  go_enter Tryz.func254, Tryz.ntmps254
  go_wp2_with fail
  go_ret3
  exact ⟨ret_iii (by rw [HR.out.1]; rfl) (by rw [HR.out.2.1, if_neg (by decide)]; exact Hk.out) HR.out.2.2.symm, rfl⟩
theorem conv_row {B : Nat} {v : Value} {l : List UInt8} {w : World} (h : w.ownsRow B 5 1 v l.length (Lib.byteCells l)) : (convert 118 9 v).run Tryz.prog w = .ok (.string ⟨l.toArray⟩) w := by
 rcases h.2 with ⟨rfl, h0⟩ | ⟨g, cap, cur, rfl, hB, hg, hn, hc, hs, htk⟩
 ·have : l = [] := List.eq_nil_of_length_eq_zero h0
  subst this
  exact Lib.run_convert_nil_bytes w _ _ 5 0 Tryz.underlying118 Tryz.underlying5 Tryz.underlying9
 ·exact run_convert_bytes_back w _ _ 5 _ cap l Tryz.underlying118 Tryz.underlying5 Tryz.underlying9 (Lib.bytes_of_row hg (by simpa using htk))
set_option maxRecDepth 100000 in
set_option maxHeartbeats 1000000 in
theorem runquote_any (s : ByteArray) (a : Int) (w : World) (hs : s.size ≤ 70368744177664) :
   Calls Tryz.prog 168 #[.string s, .int .i64 a] w (Ret3 (uqT s.data.toList a) (uqN s.data.toList a) (uqE s.data.toList a) w) := by
 by_cases h0 : opE 34 s.data.toList a = 0
 ·obtain ⟨k, rfl, hk⟩ := opE_ok 34 s a h0
  have HN := Lib.hid (by unfold uqN; rw [if_neg (by simp [h0])]; rfl : uqN s.data.toList k = (qEnd (s.data.toList.drop (k + 1)) (k + 1)).1)
  have HE := Lib.hid (by unfold uqE; rw [if_neg (by simp [h0])]; rfl : uqE s.data.toList k = (qEnd (s.data.toList.drop (k + 1)) (k + 1)).2)
  have HT : Hid (uqT s.data.toList k = if (qEnd (s.data.toList.drop (k + 1)) (k + 1)).2 ≠ 0 then [] else qText (s.data.toList.drop (k + 1))) := Lib.hid (by
   unfold uqT uqR; simp only [h0, Int.toNat_natCast]; simp)
  have H0 := Lib.hid h0;clear h0
  go_enter Tryz.func168, Tryz.ntmps168
  go_wp2_with fail
  refine (ropens_any s _ 34 w (by unfold maxLen; omega)).mono ?_
  rintro e w' ⟨rfl, rfl⟩
  rw [H0.out]
  go_wp2_with fail
  go_loopw [9, 10] (fun v i wr => ∃ (j : Nat) (acc : List UInt8), j ≤ s.size ∧ acc.length ≤ j ∧ i = .int .i64 j ∧ wr.ownsRow w.heap.size 5 1 v acc.length (Lib.byteCells acc) ∧ qEnd (s.data.toList.drop j) j = qEnd (s.data.toList.drop (k + 1)) (k + 1) ∧ acc ++ qText (s.data.toList.drop j) = qText (s.data.toList.drop (k + 1)) ∧ Below w.heap.size w wr) (fun _ i _ => s.size - (intOf i).toNat)
  case atStart => exact ⟨k + 1, [], by omega, by simp, by go_num, World.ownsRow_nil _ _ _ _, rfl, rfl, Below.refl _ _⟩
  case round =>
   obtain ⟨j, acc, hj, hal, rfl, hown, hq, ht, hB⟩ := hrel
   have Hq := Lib.hid hq;have Ht := Lib.hid ht;have Ho := Lib.hid hown;have hsz := hB.size;clear hq ht hown
   by_cases hs0 : (stepS (s.data.toList.drop j) j).2 = 0
   ·have hlt : j < s.size := by
      rcases Nat.lt_or_ge j s.size with h | h
      ·exact h
      ·rw [drop_end s j h] at hs0; simp [stepS] at hs0
    have Hd := Lib.hid (drop_step s j hlt);have hok := stepS_ok _ _ hs0
    rw [List.length_drop, len_list] at hok
    have hkind := step_kind s[j] (s.data.toList.drop (j + 1)) j (by rw [← Hd.out]; exact hs0)
    rw [← Hd.out] at hkind
    obtain ⟨j2, hj2⟩ : ∃ j2, (stepS (s.data.toList.drop j) j).1 = j2 := ⟨_, rfl⟩
    rw [hj2] at hok hkind
    have hN : rsN (s.data.toList.drop j) j = (j2 : Int) - j := by unfold rsN; rw [if_pos hs0, hj2]
    have hTo : rsT (s.data.toList.drop j) j = 0 := by unfold rsT; rw [if_pos hs0]
    rcases hkind with ⟨h92, hk1⟩ | ⟨d, u, h92, hdu, hk2⟩
    ·by_cases h34 : s[j].toNat = 34
     ·have h34b : ((s[j].toNat : Int) == 34) = true := by simp; omega
      have HQ := Lib.hid (by rw [← Hq.out, Hd.out]; exact qEnd_quote _ _ j h34 : qEnd (s.data.toList.drop (k + 1)) (k + 1) = (j + 1, 0))
      have HX := Lib.hid (by rw [← Ht.out, Hd.out, qText_quote _ _ h34, List.append_nil] : qText (s.data.toList.drop (k + 1)) = acc)
      have HNN := Lib.hid (by rw [hN, hk1]; omega : rsN (s.data.toList.drop j) j = 1)
      have HTo := Lib.hid hTo;have Hs0 := Lib.hid hs0;have hcv := conv_row Ho.out;clear hN hTo hs0 hk1 h34 h92 hj2
      go_wp2_with fail
      refine (rstep_any s j _ hs (by omega)).mono ?_
      rintro e w' ⟨rfl, rfl⟩
      rw [HNN.out, HTo.out, Hs0.out]
      go_wp2_with fail
      go_ret3
      exact ⟨ret_3 (by rw [HT.out, HQ.out, if_neg (by simp), HX.out]) (by rw [HN.out, HQ.out]; simp) (by rw [HE.out, HQ.out]), hB⟩
     ·have h34b : ((s[j].toNat : Int) == 34) = false := by simp; omega
      have HQ := Lib.hid (by rw [← Hq.out, Hd.out, qEnd_step _ _ j h34 (by rw [← Hd.out]; exact hs0), ← Hd.out, hj2, hk1, List.drop_drop]; congr 2; omega : qEnd (s.data.toList.drop (k + 1)) (k + 1) = qEnd (s.data.toList.drop (j + 1)) (j + 1))
      have HX := Lib.hid (by rw [← Ht.out, Hd.out, qText_one _ _ h34 h92] : qText (s.data.toList.drop (k + 1)) = acc ++ (s[j] :: qText (s.data.toList.drop (j + 1))))
      have HNN := Lib.hid (by rw [hN, hk1]; omega : rsN (s.data.toList.drop j) j = 1)
      have HTo := Lib.hid hTo;have Hs0 := Lib.hid hs0
      obtain ⟨i0, hi, hz0, hz1, hz2⟩ := info_parts infoByte
      clear hN hTo hs0 hk1 h34 h92 hj2
      go_wp2_with fail
      refine (rstep_any s j _ hs (by omega)).mono ?_
      rintro e w' ⟨rfl, rfl⟩
      rw [HNN.out, HTo.out, Hs0.out]
      go_wp2_with (at_builtin; refine wpList_append_own _ rfl _ _ 118 rfl w.heap.size 5 i0 (.int .u8 0) 1 1 Tryz.underlying118 hi hz0 hz1 hz2 rfl (by decide) _ _ _ rfl (Ho.out.alloc _) ⟨wr.heap.size, 0, none⟩ 1 1 [.int .u8 (s[j].toNat : Int)] rfl rfl (cell_one_new _ _ _) (by simp [Value.oneCell']) ?c3 ?c4 ?c5 ?_)
      case c3 => unfold maxLen; omega
      case c4 => omega
      case c5 => simp; omega
      intro v' w2 hown' hgrow _
      have HO2 := Lib.hid (by rw [bd_byteCells] at hown'; simpa using hown' : w2.ownsRow w.heap.size 5 1 v' (acc ++ [s[j]]).length (Lib.byteCells (acc ++ [s[j]])))
      have hB2 := (hB.alloc (by omega) (.cells #[.int .u8 (s[j].toNat : Int)] 5)).grown hgrow (by simp; omega) (fun k' hk' => (Ho.out.lt k' hk').1)
      clear hown' hgrow
      go_wp2_with fail
      go_roundw
      case rel => exact ⟨j + 1, acc ++ [s[j]], by omega, by simp; omega, by go_num, HO2.out, HQ.out.symm, by rw [HX.out]; simp, hB2⟩
      case measure => simp [intOf]; omega
    ·have h34 : s[j].toNat ≠ 34 := by omega
     have h34b : ((1 : Int) == 2) = false := by decide
     have hlt3 : j + 1 < s.size := by
      have := congrArg List.length hdu
      simp at this; omega
     have hd2 := drop_step s (j + 1) hlt3
     have hdd : d = s[j + 1] ∧ u = s.data.toList.drop (j + 1 + 1) := by
      rw [hdu] at hd2; injection hd2 with h1 h2; exact ⟨h1, h2⟩
     obtain ⟨rfl, rfl⟩ := hdd
     have HQ := Lib.hid (by rw [← Hq.out, Hd.out, qEnd_step _ _ j h34 (by rw [← Hd.out]; exact hs0), ← Hd.out, hj2, hk2, List.drop_drop]; congr 2; omega : qEnd (s.data.toList.drop (k + 1)) (k + 1) = qEnd (s.data.toList.drop (j + 1 + 1)) (j + 2))
     have HX := Lib.hid (by rw [← Ht.out, Hd.out, hdu, qText_two _ _ _ h92] : qText (s.data.toList.drop (k + 1)) = acc ++ (s[j + 1] :: qText (s.data.toList.drop (j + 1 + 1))))
     have HNN := Lib.hid (by rw [hN, hk2]; omega : rsN (s.data.toList.drop j) j = 2)
     have HTo := Lib.hid hTo;have Hs0 := Lib.hid hs0
     obtain ⟨i0, hi, hz0, hz1, hz2⟩ := info_parts infoByte
     clear hN hTo hs0 hk2 h34 h92 hj2 hd2 hdu
     go_wp2_with fail
     refine (rstep_any s j _ hs (by omega)).mono ?_
     rintro e w' ⟨rfl, rfl⟩
     rw [HNN.out, HTo.out, Hs0.out]
     go_wp2_with (at_builtin; refine wpList_append_own _ rfl _ _ 118 rfl w.heap.size 5 i0 (.int .u8 0) 1 1 Tryz.underlying118 hi hz0 hz1 hz2 rfl (by decide) _ _ _ rfl (Ho.out.alloc _) ⟨wr.heap.size, 0, none⟩ 1 1 [.int .u8 (s[j + 1].toNat : Int)] rfl rfl (cell_one_new _ _ _) (by simp [Value.oneCell']) ?c3 ?c4 ?c5 ?_)
     case c3 => unfold maxLen; omega
     case c4 => omega
     case c5 => simp; omega
     intro v' w2 hown' hgrow _
     have HO2 := Lib.hid (by rw [bd_byteCells] at hown'; simpa using hown' : w2.ownsRow w.heap.size 5 1 v' (acc ++ [s[j + 1]]).length (Lib.byteCells (acc ++ [s[j + 1]])))
     have hB2 := (hB.alloc (by omega) (.cells #[.int .u8 (s[j + 1].toNat : Int)] 5)).grown hgrow (by simp; omega) (fun k' hk' => (Ho.out.lt k' hk').1)
     clear hown' hgrow
     go_wp2_with fail
     go_roundw
     case rel => exact ⟨j + 1 + 1, acc ++ [s[j + 1]], by omega, by simp; omega, by go_num, HO2.out, HQ.out.symm, by rw [HX.out]; simp, hB2⟩
     case measure => simp [intOf]; omega
   ·obtain ⟨x, hx⟩ : ∃ x, (stepS (s.data.toList.drop j) j).2 = x := ⟨_, rfl⟩
    have hqe : qEnd (s.data.toList.drop (k + 1)) (k + 1) = stepS (s.data.toList.drop j) j := by
     rw [← Hq.out]
     rcases Nat.lt_or_ge j s.size with h | h
     ·have hd := drop_step s j h
      have h34 : s[j].toNat ≠ 34 := by
       intro h34
       apply hs0
       rw [hd, stepS_one _ _ j (by simp [ctlI, h34]) (by omega)]
      rw [hd, qEnd_err _ _ j h34 (by rw [← hd]; exact hs0)]
     ·rw [drop_end s j h, qEnd_nil]; rfl
    have HTo := Lib.hid (by unfold rsT; rw [if_neg hs0] : rsT (s.data.toList.drop j) j = ((stepS (s.data.toList.drop j) j).1 : Int))
    rw [hx] at hs0
    have hxb : (x != 0) = true := by simpa using hs0
    have HQ := Lib.hid hqe;have Hx := Lib.hid hx;have Hs0 := Lib.hid hs0;clear hqe hx hs0
    go_wp2_with fail
    refine (rstep_any s j _ hs hj).mono ?_
    rintro e w' ⟨rfl, rfl⟩
    rw [HTo.out, Hx.out]
    go_wp2_with fail
    go_ret3
    exact ⟨ret_3 (by rw [HT.out, HQ.out, Hx.out, if_pos Hs0.out]) (by rw [HN.out, HQ.out]) (by rw [HE.out, HQ.out, Hx.out]), hB⟩
 ·have HT := Lib.hid (by unfold uqT; rw [if_pos (.inl h0)] : uqT s.data.toList a = [])
  have HN := Lib.hid (by unfold uqN; rw [if_pos h0] : uqN s.data.toList a = opN s.data.toList a)
  have HE := Lib.hid (by unfold uqE; rw [if_pos h0] : uqE s.data.toList a = opE 34 s.data.toList a)
  have HR := Lib.hid (by unfold roN; rw [if_neg h0] : roN 34 s.data.toList a = opN s.data.toList a)
  obtain ⟨x, hx⟩ : ∃ x, opE 34 s.data.toList a = x := ⟨_, rfl⟩
  rw [hx] at h0
  have hxb : (x != 0) = true := by simpa using h0
  have Hx := Lib.hid hx;clear h0 hx
  go_enter Tryz.func168, Tryz.ntmps168
  go_wp2_with fail
  refine (ropens_any s _ 34 w (by unfold maxLen; omega)).mono ?_
  rintro e w' ⟨rfl, rfl⟩
  rw [HR.out, Hx.out]
  go_wp2_with fail
  go_ret3
  exact ⟨ret_3 (by rw [HT.out]) HN.out.symm (by rw [HE.out, Hx.out]), Below.refl _ _⟩
theorem hasCtl_take (l : List UInt8) (j : Nat) (h : hasCtl (l.take j) = true) : hasCtl l = true := by
 simp only [hasCtl, List.any_eq_true] at h ⊢
 obtain ⟨x, hx, hp⟩ := h
 exact ⟨x, List.mem_of_mem_take hx, hp⟩
theorem hasCtl_snoc (l : List UInt8) (c : UInt8) : hasCtl (l ++ [c]) = (hasCtl l || ctlI c.toNat) := by simp [hasCtl]
set_option maxRecDepth 100000 in
set_option maxHeartbeats 2000000 in
theorem rquote_any (s : ByteArray) (w : World) (hs : s.size ≤ 35184372088832) :
   Calls Tryz.prog 70 #[.string s] w (Ret2 (quT s.data.toList) (quE s.data.toList) w) := by
 obtain ⟨i0, hi, hz0, hz1, hz2⟩ := info_parts infoByte
 go_enter Tryz.func70, Tryz.ntmps70
 go_wp2_with fail
 go_loopw [4, 5] (fun v i wr => ∃ j : Nat, j ≤ s.size ∧ i = .int .i64 j ∧ hasCtl (s.data.toList.take j) = false ∧ wr.ownsRow w.heap.size 5 1 v ([34] ++ escL (s.data.toList.take j)).length (Lib.byteCells ([34] ++ escL (s.data.toList.take j))) ∧ Below w.heap.size w wr) (fun _ i _ => s.size - (intOf i).toNat)
 case atStart => exact ⟨0, by omega, rfl, rfl, World.ownsRow_lit w #[.int .u8 34] 1 (Nat.le_refl _) (by unfold maxLen; omega) rfl, (Below.refl _ w).alloc (Nat.le_refl _) _⟩
 case round =>
  obtain ⟨j, hj, rfl, hct, hown, hB⟩ := hrel
  have hsz := hB.size;have hel := escL_len (s.data.toList.take j)
  rw [List.length_take, len_list] at hel
  have hlen : ([34] ++ escL (s.data.toList.take j)).length ≤ 2 * s.size + 1 := by
   rw [List.length_append, List.length_singleton]; omega
  have Hct := Lib.hid hct;have Ho := Lib.hid hown;clear hct hown hel
  by_cases hlt : j < s.size
  ·have hts := take_snoc s j hlt
   cases hc : ctlI s[j].toNat
   ·have HC := Lib.hid (by rw [hts, hasCtl_snoc, Hct.out, hc]; rfl : hasCtl (s.data.toList.take (j + 1)) = false)
    have Hc := Lib.hid hc
    have HS := Lib.hid (by rw [hts, escL_snoc] : escL (s.data.toList.take (j + 1)) = escL (s.data.toList.take j) ++ (if s[j].toNat = 34 ∨ s[j].toNat = 92 then [92, s[j]] else [s[j]]))
    clear hc hts
    by_cases hq : s[j].toNat = 34 ∨ s[j].toNat = 92
    ·have HE := Lib.hid (by rw [HS.out, if_pos hq]; simp : [34] ++ escL (s.data.toList.take (j + 1)) = ([34] ++ escL (s.data.toList.take j) ++ [92]) ++ [s[j]])
     have hlen2 : ([34] ++ escL (s.data.toList.take j) ++ [92]).length ≤ 2 * s.size + 2 := by rw [List.length_append, List.length_singleton]; omega
     have hqq : (((s[j].toNat : Int) == 34) = true) ∨ (((s[j].toNat : Int) == 34) = false ∧ ((s[j].toNat : Int) == 92) = true) := by
      rcases hq with hq | hq
      ·left; simp; omega
      ·right; constructor <;> simp <;> omega
     clear hq
     rcases hqq with q1 | ⟨q1, q2⟩
     all_goals
      go_wp2_with fail
      refine (rctl_any _ _).mono ?_
      rintro e w' ⟨rfl, rfl⟩
      rw [Hc.out]
      go_wp2_with (at_builtin; refine wpList_append_own _ rfl _ _ 118 rfl w.heap.size 5 i0 (.int .u8 0) 1 1 Tryz.underlying118 hi hz0 hz1 hz2 rfl (by decide) _ _ _ rfl (Ho.out.alloc _) ⟨wr.heap.size, 0, none⟩ 1 1 [.int .u8 92] rfl rfl (cell_one_new _ _ _) (by simp [Value.oneCell']) ?c3 ?c4 ?c5 ?_)
      case c3 => unfold maxLen; omega
      case c4 => omega
      case c5 => simp; omega
      intro v2 w2 hown' hgrow _
      have HO2 := Lib.hid (by simpa [Lib.byteCells] using hown' : w2.ownsRow w.heap.size 5 1 v2 ([34] ++ escL (s.data.toList.take j) ++ [92]).length (Lib.byteCells ([34] ++ escL (s.data.toList.take j) ++ [92])))
      have hB2 := (hB.alloc (by omega) (.cells #[.int .u8 92] 5)).grown hgrow (by simp; omega) (fun k' hk' => (Ho.out.lt k' hk').1)
      have hs2 := hB2.size;clear hown' hgrow
      skip
      go_wp2_with (at_builtin; refine wpList_append_own _ rfl _ _ 118 rfl w.heap.size 5 i0 (.int .u8 0) 1 1 Tryz.underlying118 hi hz0 hz1 hz2 rfl (by decide) _ _ _ rfl (HO2.out.alloc _) ⟨w2.heap.size, 0, none⟩ 1 1 [.int .u8 (s[j].toNat : Int)] rfl rfl (cell_one_new _ _ _) (by simp [Value.oneCell']) ?c3 ?c4 ?c5 ?_)
      case c3 => unfold maxLen; omega
      case c4 => omega
      case c5 => simp; omega
      intro v4 w4 hown' hgrow _
      have HO4 := Lib.hid (by simpa [Lib.byteCells] using hown' : w4.ownsRow w.heap.size 5 1 v4 (([34] ++ escL (s.data.toList.take j) ++ [92]) ++ [s[j]]).length (Lib.byteCells (([34] ++ escL (s.data.toList.take j) ++ [92]) ++ [s[j]])))
      have hB4 := (hB2.alloc (by omega) (.cells #[.int .u8 (s[j].toNat : Int)] 5)).grown hgrow (by simp; omega) (fun k' hk' => (HO2.out.lt k' hk').1)
      have hs4 := hB4.size;clear hown' hgrow
      go_wp2_with fail
      go_roundw
      case rel => exact ⟨j + 1, by omega, by go_num, HC.out, by rw [HE.out]; exact HO4.out, hB4⟩
      case measure => simp [intOf]; omega
    ·have HE := Lib.hid (by rw [HS.out, if_neg hq]; simp : [34] ++ escL (s.data.toList.take (j + 1)) = ([34] ++ escL (s.data.toList.take j)) ++ [s[j]])
     have q1 : ((s[j].toNat : Int) == 34) = false := by simp; omega
     have q2 : ((s[j].toNat : Int) == 92) = false := by simp; omega
     clear hq
     go_wp2_with fail
     refine (rctl_any _ _).mono ?_
     rintro e w' ⟨rfl, rfl⟩
     rw [Hc.out]
     go_wp2_with (at_builtin; refine wpList_append_own _ rfl _ _ 118 rfl w.heap.size 5 i0 (.int .u8 0) 1 1 Tryz.underlying118 hi hz0 hz1 hz2 rfl (by decide) _ _ _ rfl (Ho.out.alloc _) ⟨wr.heap.size, 0, none⟩ 1 1 [.int .u8 (s[j].toNat : Int)] rfl rfl (cell_one_new _ _ _) (by simp [Value.oneCell']) ?c3 ?c4 ?c5 ?_)
     case c3 => unfold maxLen; omega
     case c4 => omega
     case c5 => simp; omega
     intro v4 w4 hown' hgrow _
     have HO4 := Lib.hid (by simpa [Lib.byteCells] using hown' : w4.ownsRow w.heap.size 5 1 v4 ([34] ++ escL (s.data.toList.take j) ++ [s[j]]).length (Lib.byteCells ([34] ++ escL (s.data.toList.take j) ++ [s[j]])))
     have hB4 := (hB.alloc (by omega) (.cells #[.int .u8 (s[j].toNat : Int)] 5)).grown hgrow (by simp; omega) (fun k' hk' => (Ho.out.lt k' hk').1)
     have hs4 := hB4.size;clear hown' hgrow
     go_wp2_with fail
     go_roundw
     case rel => exact ⟨j + 1, by omega, by go_num, HC.out, by rw [HE.out]; exact HO4.out, hB4⟩
     case measure => simp [intOf]; omega
   ·have hct2 : hasCtl s.data.toList = true := hasCtl_take _ (j + 1) (by rw [hts, hasCtl_snoc, hc]; simp)
    have HT := Lib.hid (by unfold quT; rw [if_pos hct2] : quT s.data.toList = [])
    have HE := Lib.hid (by unfold quE; rw [if_pos hct2] : quE s.data.toList = 5)
    have Hc := Lib.hid hc;clear hc hts hct2
    go_wp2_with fail
    refine (rctl_any _ _).mono ?_
    rintro e w' ⟨rfl, rfl⟩
    rw [Hc.out]
    go_wp2_with fail
    go_ret2
    exact ⟨ret_si (by rw [HT.out]) HE.out.symm, hB⟩
  ·have htk : s.data.toList.take j = s.data.toList := List.take_of_length_le (by rw [len_list]; omega)
   rw [htk] at Hct Ho hlen
   have HT := Lib.hid (by unfold quT; rw [if_neg (by rw [Hct.out]; simp)] : quT s.data.toList = [34] ++ escL s.data.toList ++ [34])
   have HE := Lib.hid (by unfold quE; rw [if_neg (by rw [Hct.out]; simp)] : quE s.data.toList = 0)
   clear htk
   go_wp2_with (at_builtin; refine wpList_append_own _ rfl _ _ 118 rfl w.heap.size 5 i0 (.int .u8 0) 1 1 Tryz.underlying118 hi hz0 hz1 hz2 rfl (by decide) _ _ _ rfl (Ho.out.alloc _) ⟨wr.heap.size, 0, none⟩ 1 1 [.int .u8 34] rfl rfl (cell_one_new _ _ _) (by simp [Value.oneCell']) ?c3 ?c4 ?c5 ?_)
   case c3 => unfold maxLen; omega
   case c4 => omega
   case c5 => simp; omega
   intro v4 w4 hown' hgrow _
   have HO4 := Lib.hid (by simpa [Lib.byteCells] using hown' : w4.ownsRow w.heap.size 5 1 v4 ([34] ++ escL s.data.toList ++ [34]).length (Lib.byteCells ([34] ++ escL s.data.toList ++ [34])))
   have hB4 := (hB.alloc (by omega) (.cells #[.int .u8 34] 5)).grown hgrow (by simp; omega) (fun k' hk' => (Ho.out.lt k' hk').1)
   have hs4 := hB4.size;clear hown' hgrow;have hcv := conv_row HO4.out
   go_wp2_with fail
   go_ret2
   exact ⟨ret_si (by rw [HT.out]; rfl) HE.out.symm, hB4⟩
end Lx
end Go.Proofs.YtmmjfofdnpafkaaGreatDoor
