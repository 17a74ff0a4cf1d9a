/- Contracts of strayControl and physicalLines of package lexis. Condition: a text has fewer than 2^32 - 15 bytes (what strings.Cut's contract asks). -/
import Derived.Test.YtjbjaofbdbkjaaaDoorLxUSpec
import Derived.Test.YtjbjaofbdbkjaaaDoorLxBuilder
import Derived.Test.YtjbjaofbdbkjaaaDoorLxA
import Derived.RangeFuncNested
import Derived.RangeFuncBound
import Derived.RangeFuncCalls
import Derived.RangeFuncLeaves
import Derived.RangeFuncBox
import Derived.Shelf.Abstract
import Derived.Shelf.RegionOpen
import Derived.OwnWalkIn
import Derived.TacticsInMore
import Derived.LoopNIn
import Derived.LoopIn
import Derived.Lib.Strings
namespace Go.Proofs.YtjbjaofbdbkjaaaDoor
namespace Lx
open Go.RowKit Go.Shelf
attribute [local go_sem] Oper.semAt_some

theorem ext_data (s : ByteArray) (k : Nat) : (s.extract k s.size).data.toList = s.data.toList.drop k := by
  rw [Lib.extract_data, List.take_of_length_le (by simp)]

theorem pre_eq (s : ByteArray) (k : Nat) : Lib.hasPrefix (s.extract k s.size).data.toList [13, 10] = crlf.isPrefixOf (s.data.toList.drop k) := by
  rw [ext_data]; rfl

set_option maxRecDepth 100000 in
set_option maxHeartbeats 1000000 in
theorem stray_any (s : ByteArray) (w : World) (hs : s.size ≤ maxLen) :
    Calls Tryd.prog 58 #[.string s] w (Ret (.int .i64 (stray s.data.toList 0 : Nat)) w) := by
  unfold maxLen at hs
  go_enter Tryd.func58, Tryd.ntmps58
  go_wp2
  go_loop [3] (fun i => ∃ k : Nat, k ≤ s.size ∧ i = .int .i64 k ∧ stray (s.data.toList.drop k) k = stray s.data.toList 0) (fun i => s.size - (intOf i).toNat)
  case atStart => exact ⟨0, by omega, rfl, rfl⟩
  case round =>
    obtain ⟨k, hk, rfl, he⟩ := hrel
    have He := Lib.hid he
    clear he
    by_cases hlt : k < s.size
    · have hd := drop_step s k hlt
      have Hd := Lib.hid hd
      clear hd
      cases hp : crlf.isPrefixOf (s.data.toList.drop k)
      · have Hp := Lib.hid hp
        clear hp
        cases hc : ctlI s[k].toNat
        · have Hc := Lib.hid hc
          clear hc
          go_wp2_with fail
          refine (Tryd.strings_HasPrefix _ _ _).mono ?_
          rintro e w' ⟨rfl, rfl⟩
          rw [pre_eq, Hp.out]
          go_wp2_with fail
          refine (ctl_any _ _).mono ?_
          rintro e w' ⟨rfl, rfl⟩
          rw [Hc.out]
          go_wp2_with fail
          go_round
          case rel => exact ⟨k + 1, by omega, by go_num, by rw [← He.out, Hd.out, stray_next _ _ _ (by rw [← Hd.out]; exact Hp.out) (by rw [Hc.out]; rfl)]⟩
          case measure => simp [intOf]; omega
        · have Hc := Lib.hid hc
          clear hc
          by_cases hr : s.data.toList.drop k = [13]
          · have Hr := Lib.hid hr
            have hne : (s.extract k s.size).toList = [13] := by rw [Lib.toList_data, ext_data]; exact hr
            clear hr
            go_wp2_with fail
            refine (Tryd.strings_HasPrefix _ _ _).mono ?_
            rintro e w' ⟨rfl, rfl⟩
            rw [pre_eq, Hp.out]
            go_wp2_with fail
            refine (ctl_any _ _).mono ?_
            rintro e w' ⟨rfl, rfl⟩
            rw [Hc.out]
            go_wp2_with fail
            go_round
            case rel => exact ⟨k + 1, by omega, by go_num, by rw [← He.out, Hd.out, stray_next _ _ _ (by rw [← Hd.out]; exact Hp.out) (by rw [← Hd.out, Hr.out]; simp)]⟩
            case measure => simp [intOf]; omega
          · have Hr := Lib.hid hr
            have hne : (!(s.extract k s.size).toList == [13]) = true := by rw [Lib.toList_data, ext_data]; simpa using hr
            clear hr
            go_wp2_with fail
            refine (Tryd.strings_HasPrefix _ _ _).mono ?_
            rintro e w' ⟨rfl, rfl⟩
            rw [pre_eq, Hp.out]
            go_wp2_with fail
            refine (ctl_any _ _).mono ?_
            rintro e w' ⟨rfl, rfl⟩
            rw [Hc.out]
            go_wp2_with fail
            go_ret
            exact ⟨ret_int (by rw [← He.out, Hd.out, stray_bad _ _ _ (by rw [← Hd.out]; exact Hp.out) (by rw [Hc.out, ← Hd.out]; simpa using Hr.out)]), rfl⟩
      · have h2 : k + 2 ≤ s.size := by
          have := (List.isPrefixOf_iff_prefix.1 hp).length_le
          simp [crlf] at this; omega
        have Hp := Lib.hid hp
        clear hp
        go_wp2_with fail
        refine (Tryd.strings_HasPrefix _ _ _).mono ?_
        rintro e w' ⟨rfl, rfl⟩
        rw [pre_eq, Hp.out]
        go_wp2_with fail
        go_round
        case rel => exact ⟨k + 2, by omega, by go_num, by rw [← He.out, Hd.out, stray_crlf _ _ _ (by rw [← Hd.out]; exact Hp.out), List.drop_drop]⟩
        case measure => simp [intOf]; omega
    · have He' : Hid (stray s.data.toList 0 = k) := Lib.hid (by rw [← He.out, drop_end s k (by omega), stray_nil])
      go_wp2
      go_ret
      exact ⟨ret_int (by rw [He'.out]), rfl⟩

theorem cut_le (l sep : List UInt8) : (Lib.cut l sep).1.length ≤ l.length := by
  unfold Lib.cut; split <;> simp <;> omega
theorem gb_setCell (w : World) (b o : Nat) (v : Value) : w.grownBy (w.setCell ⟨b, o, none⟩ v) (some b) :=
  ⟨rfl, rfl, rfl, by simp, fun k _ hk => Below.heap_setCell _ _ _ _ (fun e => hk (by simp [e]))⟩
theorem gb_drewN (w : World) (n : Nat) : w.grownBy (w.drewN n) none := ⟨rfl, rfl, rfl, Nat.le_refl _, fun _ _ _ => rfl⟩
/-- What a round keeps: what lay below n₀, and the block Bs. -/
def KpU (n₀ Bs : Nat) (A B : World) : Prop := Below n₀ A B ∧ B.heap[Bs]? = A.heap[Bs]?
theorem KpU.refl (n₀ Bs : Nat) (A : World) : KpU n₀ Bs A A := ⟨Below.refl _ _, rfl⟩
theorem KpU.trans {n₀ Bs : Nat} {A B C : World} (h : KpU n₀ Bs A B) (k : KpU n₀ Bs B C) : KpU n₀ Bs A C := ⟨h.1.trans k.1, k.2.trans h.2⟩
theorem KpU.put {n₀ Bs : Nat} {w : World} (hn : n₀ ≤ w.heap.size) (hb : Bs < w.heap.size) (W : World) (l : Nat) (o o' : Obj) (hl : w.heap.size ≤ l) (h : W.heap[l]? = some o) (hc : o.isCells = false) (hw : o.isWalk = false) : KpU n₀ Bs W (W.putObj l o') :=
  ⟨belowK_b hn W l o o' hl h hc hw, World.putObj_heap_other (by omega)⟩
/-- A physical line and its offset, of a bounded size. -/
abbrev PL := { x : Nat × List UInt8 // x.1 ≤ 4194304 ∧ x.2.length ≤ 2097152 }
abbrev encU (x : PL) : Array Value := #[.int .i64 (x.1.1 : Int), .string ⟨x.1.2.toArray⟩]

set_option maxRecDepth 100000 in
set_option maxHeartbeats 2000000 in
/-- The iterator of the physical lines, for every body that keeps what lay below n₀. -/
theorem phys_in (l Bs n₀ : Nat) (s : ByteArray) (m : Int) (hs : s.size ≤ 2097152) (h0n : 0 < n₀) (J Jx : List PL → World → Prop)
    (hJ : ∀ a W W', J a W → W.grownBy W' none → J a W')
    (hY : ∀ pre x W, J pre W → pre.length < (physL s.data.toList 0).length → YieldAt Fence.wide 1 Tryd.prog l (encU x) W fun e W' =>
      (e = .returned (.bool true) ∧ J (pre ++ [x]) W' ∧ KpU n₀ Bs W W') ∨ (e = .returned (.bool false) ∧ Jx (pre ++ [x]) W'))
    (W : World) (hB : W.cell? ⟨Bs, 0, none⟩ = some (.string s)) (hm : W.cell? ⟨0, 0, none⟩ = some (.int .i64 m)) (h0 : J [] W) :
    CallsIn Fence.wide 2 Tryd.prog 75 #[.func (.yield l) #[] #[], .pointer (some ⟨Bs, 0, none⟩)] W fun e W' => (∃ v, e = .returned v) ∧
      ((∃ ys : List PL, ys.map (·.1) = physL s.data.toList 0 ∧ J ys W') ∨ (∃ pre, True ∧ Jx pre W')) := by
  refine callsIn_of_wp Tryd.func75 rfl trivial ?_ rfl
  simp only [Tryd.ntmps75, List.size_toArray, List.length_cons, List.length_nil, Nat.reduceAdd, Nat.reduceSub, Array.replicate_succ, Array.replicate_zero, List.push_toArray, List.append_toArray, List.nil_append, List.cons_append]
  gi_wp2
  gi_loopw [3] (fun i wr => ∃ (k : Nat) (pre : List PL), k ≤ s.size + 2 ∧ i = .int .i64 k ∧ pre.map (·.1) ++ physL (s.data.toList.drop k) k = physL s.data.toList 0 ∧ J pre wr ∧ KpU n₀ Bs W wr)
    (fun i _ => s.size + 2 - (intOf i).toNat)
  case atStart => exact ⟨0, [], by omega, rfl, rfl, h0, KpU.refl _ _ _⟩
  case round =>
    obtain ⟨k, pre, hk, rfl, hp, hJs, hb⟩ := hrel
    have hB' : wr.cell? ⟨Bs, 0, none⟩ = some (.string s) := (World.cell?_of_block (a := ⟨Bs, 0, none⟩) hb.2).trans hB
    have hm' : wr.cell? ⟨0, 0, none⟩ = some (.int .i64 m) := (hb.1.cell (p := ⟨0, 0, none⟩) h0n).trans hm
    have Hp := Lib.hid hp
    clear hp
    by_cases hlt : k < s.size
    · have hcut : Lib.cut (s.extract k s.size).data.toList (⟨#[13, 10]⟩ : ByteArray).data.toList = Lib.cut (s.data.toList.drop k) crlf := by rw [ext_data]; rfl
      have Hcut := Lib.hid hcut
      have Hne := Lib.hid (by rw [drop_step s k hlt]; simp : s.data.toList.drop k ≠ [])
      have hpl : (Lib.cut (s.data.toList.drop k) crlf).1.length ≤ s.size - k := by
        have := cut_le (s.data.toList.drop k) crlf
        simpa using this
      obtain ⟨p, hpq⟩ : ∃ p, (Lib.cut (s.data.toList.drop k) crlf).1 = p := ⟨_, rfl⟩
      rw [hpq] at hpl
      have Hpq := Lib.hid hpq
      have hlen : pre.length < (physL s.data.toList 0).length := by rw [← Hp.out, physL_cons _ _ Hne.out]; simp
      have Hlen := Lib.hid hlen
      clear hcut hpq hlen
      gi_wp2_with fail
      refine ⟨trivial, ?_⟩
      refine (callsIn_wide.2 (Tryd.strings_Cut (s.extract k s.size) ⟨#[13, 10]⟩ m _ (by simp; omega) hm')).mono ?_
      rintro e w1 ⟨rfl, nq, rfl⟩
      rw [Hcut.out, Hpq.out]
      generalize (Lib.cut (List.drop k s.data.toList) crlf).2.1 = q1
      generalize (Lib.cut (List.drop k s.data.toList) crlf).2.2 = q2
      obtain ⟨fn, tmps, assign, body, hy, hR⟩ := hY pre ⟨(k, p), by dsimp only; omega, by dsimp only; omega⟩ (wr.drewN nq) (hJ _ _ _ hJs (gb_drewN wr nq)) Hlen.out
      dsimp only [encU] at hy
      gi_wp2
      refine hR.mono ?_
      rintro e W3 (⟨rfl, hJ3, hk3⟩ | ⟨rfl, hJx3⟩)
      · gi_wp2
        go_roundw
        case rel => exact ⟨k + (p.length + 2), pre ++ [⟨(k, p), by dsimp only; omega, by dsimp only; omega⟩], by omega, by go_num, by rw [← Hp.out, physL_cons _ _ Hne.out, Hpq.out, List.drop_drop]; simp, hJ3, (show KpU n₀ Bs W (wr.drewN nq) from ⟨⟨hb.1.os, hb.1.tape, hb.1.output, hb.1.size, hb.1.block⟩, hb.2⟩).trans hk3⟩
        case measure => simp [intOf]; omega
      · gi_wp2
        refine bodyPost_ret (results_none rfl _ _ _) rfl ?_
        exact ⟨⟨_, rfl⟩, .inr ⟨_, trivial, hJx3⟩⟩
    · have Hp' : Hid (pre.map (·.1) = physL s.data.toList 0) := Lib.hid (by rw [← Hp.out, drop_end s k (by omega), physL_nil, List.append_nil])
      gi_wp2
      go_end0
      exact ⟨⟨_, rfl⟩, .inl ⟨pre, Hp'.out, hJs⟩⟩

theorem phys_stops (Bs n₀ : Nat) (s : ByteArray) (m : Int) (w : World) (hs : s.size ≤ 2097152) (hBs : Bs < w.heap.size) (h0n : 0 < n₀) (_hn : n₀ ≤ w.heap.size)
    (hB : w.cell? ⟨Bs, 0, none⟩ = some (.string s)) (hm : w.cell? ⟨0, 0, none⟩ = some (.int .i64 m)) :
    SeqStopsK Fence.wide 2 Tryd.prog 75 #[.pointer (some ⟨Bs, 0, none⟩)] encU (KpU n₀ Bs) (fun ys => ys.map (·.1) = physL s.data.toList 0) (fun _ => True) (physL s.data.toList 0).length w := fun l J Jx W hW hJ _ hY h0 =>
  phys_in l Bs n₀ s m hs h0n J Jx (fun a A B ha hg => hJ a A B none ha hg (fun _ e => by cases e)) hY W ((hW.cell (p := ⟨Bs, 0, none⟩) (by show Bs < _; omega)).trans hB) ((hW.cell (p := ⟨0, 0, none⟩) (by show 0 < _; omega)).trans hm) h0

set_option maxHeartbeats 1000000 in
theorem physLines_in (n : Nat) (s : ByteArray) (w : World) :
    CallsIn Fence.wide n Tryd.prog 60 #[.string s] w fun e w' => e = .returned (.func (.func 75) #[] #[.pointer (some ⟨w.heap.size, 0, none⟩)]) ∧ w' = w.alloc (.cells #[.string s] 9) := by
  refine callsIn_of_wp Tryd.func60 rfl trivial ?_ rfl
  simp only [Tryd.ntmps60, List.size_toArray, List.length_cons, List.length_nil, Nat.reduceAdd, Nat.reduceSub, Array.replicate_succ, Array.replicate_zero, List.push_toArray, List.append_toArray, List.nil_append, List.cons_append]
  gi_wp2
  go_ret
  exact ⟨rfl, rfl⟩

/-! ### endLine -/
def pcells (ls : List (Nat × List UInt8)) : List Value := ls.flatMap fun p => [.int .i64 (p.1 : Int), .string ⟨p.2.toArray⟩]
theorem pcells_length (ls : List (Nat × List UInt8)) : (pcells ls).length = ls.length * 2 := by
  induction ls with
  | nil => rfl
  | cons p t ih => simp [pcells] at ih ⊢; omega

set_option maxRecDepth 100000 in
theorem endLine_none (c : Nat) (a : Option Addr) (b : Nat) (w : World) :
    Calls Tryd.prog 61 #[.slice a 0 c, .pointer (some ⟨b, 0, none⟩)] w (Ret (.tuple #[]) w) := by
  go_enter Tryd.func61, Tryd.ntmps61
  go_wp2
  go_end0
  exact ⟨rfl, rfl⟩

theorem pcells_append (a b : List (Nat × List UInt8)) : pcells (a ++ b) = pcells a ++ pcells b := by simp [pcells]
theorem setLast_snoc (a : List (Nat × List UInt8)) (q : Nat × List UInt8) (tx : List UInt8) : setLast (a ++ [q]) tx = a ++ [(q.1, tx)] := by simp [setLast]
theorem last_split (ls : List (Nat × List UInt8)) (n : Nat) (h : ls.length = n + 1) : ∃ a q, ls = a ++ [q] ∧ a.length = n := by
  have hne : ls ≠ [] := by intro e; subst e; simp at h
  exact ⟨ls.dropLast, ls.getLast hne, (List.dropLast_concat_getLast hne).symm, by simp; omega⟩
theorem pcells_set (ls : List (Nat × List UInt8)) (n : Nat) (tx : List UInt8) (h : ls.length = n + 1) : (pcells ls).set (n * 2 + 1) (.string ⟨tx.toArray⟩) = pcells (setLast ls tx) := by
  obtain ⟨a, q, rfl, ha⟩ := last_split ls n h
  have hl := pcells_length a
  rw [setLast_snoc, pcells_append, pcells_append, List.set_append_right _ _ (by omega)]
  congr 1
  have : n * 2 + 1 - (pcells a).length = 1 := by omega
  rw [this]
  rfl
theorem pcells_at (ls : List (Nat × List UInt8)) (n : Nat) (h : ls.length = n + 1) : ∃ y : ByteArray, (pcells ls)[n * 2 + 1]? = some (.string y) := by
  obtain ⟨a, q, rfl, ha⟩ := last_split ls n h
  have hl := pcells_length a
  refine ⟨⟨q.2.toArray⟩, ?_⟩
  rw [pcells_append, List.getElem?_append_right (by omega)]
  have : n * 2 + 1 - (pcells a).length = 1 := by omega
  rw [this]
  rfl

/-- What endLine leaves. -/
def EndPost (B b : Nat) (v : Value) (ls : List (Nat × List UInt8)) (tx : List UInt8) (w : World) (e : Ending) (w' : World) : Prop :=
  e = .returned (.tuple #[]) ∧ w'.ownsRow B 43 2 v ls.length (pcells (setLast ls tx)) ∧ IsB B b [] w' ∧ KeepTy [59, 5, 43] w w' ∧ Below B w w'

set_option maxRecDepth 100000 in
set_option maxHeartbeats 1000000 in
theorem endLine_some (B b g n cap : Nat) (ls : List (Nat × List UInt8)) (l : List UInt8) (w : World) (hn : ls.length = n + 1) (hsm : n + 1 ≤ 4294967296) (hBw : B ≤ w.heap.size) (hgB : B ≤ g) (hB : IsB B b (Lib.byteCells l) w)
    (hrow : w.ownsRow B 43 2 (.slice (some ⟨g, 0, none⟩) (n + 1) cap) ls.length (pcells ls)) :
    Calls Tryd.prog 61 #[.slice (some ⟨g, 0, none⟩) (n + 1) cap, .pointer (some ⟨b, 0, none⟩)] w (EndPost B b (.slice (some ⟨g, 0, none⟩) (n + 1) cap) ls l w) := by
  rw [hn] at hrow
  obtain ⟨p, v, hBb, hbk, hown, hne⟩ := isB_row hB
  obtain ⟨y, hy⟩ := pcells_at ls n hn
  have hset := pcells_set ls n l hn
  have hgk : ∃ cs fr, w.heap[g]? = some (.cells cs 43 fr) := by
    obtain ⟨cs, T, fr, h1, h2⟩ := own_row hrow g rfl
    simp at h2; subst h2; exact ⟨_, _, h1⟩
  have hgb : g ≠ b := by
    intro e; subst e
    obtain ⟨cs, fr, h1⟩ := hgk
    rw [hbk] at h1; simp at h1
  have HY := Lib.hid hy
  have HS := Lib.hid hset
  have HN := Lib.hid hn
  have HO := Lib.hid hown
  have HK := Lib.hid hbk
  clear hy hset hn hown hbk hgk
  go_enter Tryd.func61, Tryd.ntmps61
  go_wp2_with fail
  refine (string_any B b l w hB hBw).mono ?_
  rintro e w1 ⟨rfl, hkb, hbb⟩
  have hrow1 := hkb.keep.owns hrow (by decide)
  have hc : w1.cell? ⟨g, n * 2 + 1, none⟩ = some (.string y) := (hrow1.cellAt (n * 2 + 1) (by omega)).trans HY.out
  have hf : w1.frozen? ⟨g, n * 2 + 1, none⟩ = false := hrow1.frozenAt _
  have HB1 := Lib.hid (hbb.trans HK.out)
  have HR1 := Lib.hid hrow1
  have HKB := Lib.hid hkb
  clear hbb hrow1 hkb
  obtain ⟨va, vn, vc, rfl⟩ : ∃ a m c, v = .slice a m c := by
    rcases HO.out.2 with ⟨hv, _⟩ | ⟨g', cap', cur, hv, _⟩
    · exact ⟨_, _, _, hv⟩
    · exact ⟨_, _, _, hv⟩
  have hst := HR1.out.stored (n * 2 + 1) (.string ⟨l.toArray⟩)
  rw [HS.out] at hst
  have hb2 : (w1.setCell ⟨g, n * 2 + 1, none⟩ (.string ⟨l.toArray⟩)).heap[b]? = some (.cells #[.pointer p, .slice va vn vc] 59 (0, 0)) :=
    (Below.heap_setCell _ _ _ _ (fun e => hgb e.symm)).trans HB1.out
  have HST := Lib.hid hst
  have HB2 := Lib.hid hb2
  clear hst hb2
  go_wp2_with fail
  refine (reset_any b _ _ _ _ HB2.out ⟨_, _, _, rfl⟩ ⟨_, rfl⟩).mono ?_
  rintro e w3 ⟨rfl, hw3⟩
  have H3 := Lib.hid hw3
  clear hw3
  go_wp2
  go_end0
  refine ⟨rfl, ?_, ?_, ?_, ?_⟩
  · rw [H3.out, HN.out]
    exact (HST.out.1.kept (gb_setCell _ b 0 (.pointer none)) (.inr (by simpa [Value.ownBlock] using hgb))).kept (gb_setCell _ b 1 (.slice none 0 0)) (.inr (by simpa [Value.ownBlock] using hgb))
  · rw [H3.out]
    refine .inl ⟨hBb, .slice none 0 0, ?_, World.ownsRow_nil _ _ _ _, by simp [Value.ownBlock]⟩
    simp [World.setCell, Array.getElem?_modify, HB1.out, hgb]
  · rw [H3.out]
    have k1 := (HKB.out.keep.mono (us := [59, 5, 43]) (by simp +contextual))
    obtain ⟨cs, T, fr, hg1, hT⟩ := own_row HR1.out g rfl
    have k2 := k1.setCell (p := ⟨g, n * 2 + 1, none⟩) hg1 (by simp at hT; simp [hT]) (.string ⟨l.toArray⟩)
    have k3 := k2.setCell (p := ⟨b, 0, none⟩) HB2.out (by simp) (.pointer none)
    refine k3.setCell (p := ⟨b, 1, none⟩) (cs := #[.pointer none, .slice va vn vc]) (T := 59) (fr := (0, 0)) ?_ (by simp) _
    have := HB2.out
    simp [World.setCell, Array.getElem?_modify] at this ⊢
    simp [this]
  · rw [H3.out]
    exact ((HKB.out.below.setCell (p := ⟨g, n * 2 + 1, none⟩) hgB _).setCell (p := ⟨b, 0, none⟩) hBb _).setCell (p := ⟨b, 1, none⟩) hBb _
end Lx
end Go.Proofs.YtjbjaofbdbkjaaaDoor
