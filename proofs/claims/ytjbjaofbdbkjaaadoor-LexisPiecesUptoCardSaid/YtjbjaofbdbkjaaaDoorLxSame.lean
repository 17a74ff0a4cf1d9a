/- The contract of Same of package dialtoneref01: two lists of pieces are the same. Condition: a list has at most 2^32 pieces. -/
import Derived.Test.YtjbjaofbdbkjaaaDoorLxUSpec
import Derived.Test.YtjbjaofbdbkjaaaDoorLxA
import Derived.Test.YtjbjaofbdbkjaaaDoorLxU
namespace Go.Proofs.YtjbjaofbdbkjaaaDoor
namespace Lx
open Go.RowKit

/-- A value that reads as this list of pieces. -/
def PcIn (w : World) (v : Value) (ls : List (Nat × List UInt8)) : Prop :=
  ∃ a c, v = .slice a ls.length c ∧ (ls ≠ [] → ∃ g, a = some ⟨g, 0, none⟩ ∧ ∀ j u, (pcells ls)[j]? = some u → w.cell? ⟨g, j, none⟩ = some u)
theorem pcells_pair (ls : List (Nat × List UInt8)) : ∀ (j : Nat) (x : Nat × List UInt8), ls[j]? = some x → (pcells ls)[j * 2]? = some (.int .i64 (x.1 : Int)) ∧ (pcells ls)[j * 2 + 1]? = some (.string ⟨x.2.toArray⟩) := by
  induction ls with
  | nil => intro j x h; simp at h
  | cons p t ih =>
    intro j x h
    have e : pcells (p :: t) = .int .i64 (p.1 : Int) :: .string ⟨p.2.toArray⟩ :: pcells t := by simp [pcells]
    cases j with
    | zero => simp at h; subst h; rw [e]; simp
    | succ j =>
      have h' := ih j x (by simpa using h)
      rw [e]
      have e2 : (j + 1) * 2 = j * 2 + 1 + 1 := by omega
      rw [e2]
      simpa using h'
theorem PcIn.of_row {w : World} {B : Nat} {v : Value} {ls : List (Nat × List UInt8)} (h : w.ownsRow B 43 2 v ls.length (pcells ls)) : PcIn w v ls := by
  rcases h.2 with ⟨rfl, h0⟩ | ⟨g, cap, cur, rfl, hB, hg, hr⟩
  · refine ⟨none, 0, by rw [h0], fun hne => absurd (List.eq_nil_of_length_eq_zero h0) hne⟩
  · refine ⟨_, _, rfl, fun _ => ⟨g, rfl, fun j u hu => ?_⟩⟩
    have hj : j < ls.length * 2 := by
      have := (List.getElem?_eq_some_iff.1 hu).1
      rw [pcells_length] at this; exact this
    rw [h.cellAt j hj]; exact hu
theorem PcIn.lt {w : World} {a : Option Addr} {n c : Nat} {ls : List (Nat × List UInt8)} (h : PcIn w (.slice a n c) ls) : n = ls.length := by
  obtain ⟨a', c', e, _⟩ := h
  injection e
theorem PcIn.at {w : World} {a : Option Addr} {n c : Nat} {ls : List (Nat × List UInt8)} (h : PcIn w (.slice a n c) ls) (k : Nat) (hk : k < ls.length) :
    ∃ g, a = some ⟨g, 0, none⟩ ∧ w.cell? ⟨g, k * 2, none⟩ = some (.int .i64 (ls[k].1 : Int)) ∧ w.cell? ⟨g, k * 2 + 1, none⟩ = some (.string ⟨ls[k].2.toArray⟩) := by
  obtain ⟨a', c', e, hc⟩ := h
  injection e with e1 e2 e3
  obtain ⟨g, hg, hall⟩ := hc (by intro hn; subst hn; simp at hk)
  have := pcells_pair ls k ls[k] (by simp [hk])
  exact ⟨g, e1.trans hg, hall _ _ this.1, hall _ _ this.2⟩

theorem cell_lt' {w : World} {a : Addr} {v : Value} (h : w.cell? a = some v) : a.block < w.heap.size := by
  rcases Nat.lt_or_ge a.block w.heap.size with h' | h'
  · exact h'
  · simp [World.cell?, Array.getElem?_eq_none h'] at h
theorem PcIn.below {w w' : World} {v : Value} {ls : List (Nat × List UInt8)} (h : PcIn w v ls) (hb : Below w.heap.size w w') : PcIn w' v ls := by
  obtain ⟨a, c, rfl, hc⟩ := h
  refine ⟨a, c, rfl, fun hne => ?_⟩
  obtain ⟨g, hg, hall⟩ := hc hne
  exact ⟨g, hg, fun j u hu => (hb.cell (p := ⟨g, j, none⟩) (cell_lt' (hall j u hu))).trans (hall j u hu)⟩
theorem PcIn.new (w : World) (ls : List (Nat × List UInt8)) (cs : Array Value) (hcs : cs.toList = pcells ls) : PcIn (w.alloc (.cells cs 43)) (.slice (some ⟨w.heap.size, 0, none⟩) ls.length ls.length) ls := by
  refine ⟨_, _, rfl, fun _ => ⟨_, rfl, fun j u hu => ?_⟩⟩
  have hb : (w.alloc (.cells cs 43)).heap[w.heap.size]? = some (.cells cs 43 (0, 0)) := World.alloc_heap_new w _
  rw [Lib.cell_of_heap hb, ← Array.getElem?_toList, hcs]
  exact hu
theorem drewN_two (w : World) (n m : Nat) : (w.drewN n).drewN m = w.drewN (n + m) := by simp [World.drewN, Nat.add_assoc]

set_option maxRecDepth 100000 in
set_option maxHeartbeats 1000000 in
theorem same_any (v1 v2 : Value) (p q : List (Nat × List UInt8)) (w : World) (h1 : PcIn w v1 p) (h2 : PcIn w v2 q) (hl : p.length ≤ 4294967296) (hl2 : q.length ≤ 4294967296) :
    Calls Tryd.prog 31 #[v1, v2] w fun e w' => e = .returned (.bool (decide (p = q))) ∧ ∃ n, w' = w.drewN n := by
  obtain ⟨a1, c1, rfl, _⟩ := id h1
  obtain ⟨a2, c2, rfl, _⟩ := id h2
  by_cases hne : p.length = q.length
  · have hb : ((p.length : Int) != (q.length : Int)) = false := by simp [hne]
    have Hne := Lib.hid hne
    clear hne
    go_enter Tryd.func31, Tryd.ntmps31
    go_wp2_with fail
    go_loopw [5] (fun i wr => ∃ k n : Nat, k ≤ p.length ∧ i = .int .i64 k ∧ p.take k = q.take k ∧ wr = w.drewN n) (fun i _ => p.length - (intOf i).toNat)
    case atStart => exact ⟨0, 0, by omega, rfl, by simp, rfl⟩
    case round =>
      obtain ⟨k, n, hk, rfl, htk, rfl⟩ := hrel
      have Htk := Lib.hid htk
      clear htk
      by_cases hlt : k < p.length
      · have hlt2 : k < q.length := by rw [← Hne.out]; exact hlt
        obtain ⟨g1, rfl, hc1, hd1⟩ := h1.at k hlt
        obtain ⟨g2, rfl, hc2, hd2⟩ := h2.at k hlt2
        obtain ⟨x, hx⟩ : ∃ x, p[k] = x := ⟨_, rfl⟩
        obtain ⟨y, hy⟩ : ∃ y, q[k] = y := ⟨_, rfl⟩
        rw [hx] at hc1 hd1
        rw [hy] at hc2 hd2
        have Hx := Lib.hid hx
        have Hy := Lib.hid hy
        obtain ⟨W, hW⟩ : ∃ W, w.drewN n = W := ⟨_, rfl⟩
        have hc1' : W.cell? ⟨g1, k * 2, none⟩ = some (.int .i64 (x.1 : Int)) := by rw [← hW]; exact hc1
        have hd1' : W.cell? ⟨g1, k * 2 + 1, none⟩ = some (.string ⟨x.2.toArray⟩) := by rw [← hW]; exact hd1
        have hc2' : W.cell? ⟨g2, k * 2, none⟩ = some (.int .i64 (y.1 : Int)) := by rw [← hW]; exact hc2
        have hd2' : W.cell? ⟨g2, k * 2 + 1, none⟩ = some (.string ⟨y.2.toArray⟩) := by rw [← hW]; exact hd2
        rw [hW]
        have HW := Lib.hid hW
        clear hx hy hc1 hd1 hc2 hd2 hW
        have i1 : (k : Int) < (p.length : Int) := by omega
        have i2 : (k : Int) < (q.length : Int) := by omega
        have i3 : (0 : Int) ≤ (k : Int) := by omega
        clear i1 i2 i3
        obtain ⟨xa, xt⟩ := x
        obtain ⟨ya, yt⟩ := y
        dsimp only at hc1' hd1' hc2' hd2'
        by_cases e1 : xa = ya
        · subst e1
          by_cases e2 : xt = yt
          · subst e2
            have HT := Lib.hid (by rw [List.take_succ_eq_append_getElem hlt, List.take_succ_eq_append_getElem hlt2, Htk.out, Hx.out, Hy.out] : p.take (k + 1) = q.take (k + 1))
            go_wp2_with fail
            go_quiet (fail)
            go_wp2_with fail
            go_roundw
            case rel => exact ⟨k + 1, n + nq, by omega, by go_num, HT.out, by rw [← HW.out]; exact drewN_two w n nq⟩
            case measure => simp [intOf]; omega
          · have HF := Lib.hid (by
              rw [eq_comm, decide_eq_false_iff_not]; intro h; subst h
              exact e2 (congrArg Prod.snd (Hx.out.symm.trans Hy.out)) : false = decide (p = q))
            go_wp2_with fail
            go_quiet (fail)
            go_wp2_with fail
            go_ret
            exact ⟨ret_bool HF.out, n + nq, by rw [← HW.out]; exact drewN_two w n nq⟩
        · have e1' : ¬ (xa : Int) = (ya : Int) := by omega
          have HF := Lib.hid (by
            rw [eq_comm, decide_eq_false_iff_not]; intro h; subst h
            exact e1 (congrArg Prod.fst (Hx.out.symm.trans Hy.out)) : false = decide (p = q))
          clear e1
          go_wp2_with fail
          go_quiet (fail)
          go_wp2_with fail
          go_ret
          exact ⟨ret_bool HF.out, n + nq, by rw [← HW.out]; exact drewN_two w n nq⟩
      · have HT := Lib.hid (by
          rw [eq_comm, decide_eq_true_iff]
          rw [List.take_of_length_le (by omega), List.take_of_length_le (by rw [← Hne.out]; omega)] at Htk
          exact Htk.out : true = decide (p = q))
        go_wp2_with fail
        go_ret
        exact ⟨ret_bool HT.out, n, rfl⟩
  · have hb : ((p.length : Int) != (q.length : Int)) = true := by simp; omega
    have Hne := Lib.hid hne
    clear hne
    go_enter Tryd.func31, Tryd.ntmps31
    go_wp2_with fail
    go_ret
    exact ⟨ret_bool (by rw [eq_comm, decide_eq_false_iff_not]; intro h; exact Hne.out (by rw [h])), 0, rfl⟩
end Lx
end Go.Proofs.YtjbjaofbdbkjaaaDoor
