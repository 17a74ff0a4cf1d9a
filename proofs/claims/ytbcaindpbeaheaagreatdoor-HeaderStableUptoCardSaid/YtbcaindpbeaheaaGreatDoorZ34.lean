/- Texts of one set of library modules: HeSb. -/
import Derived.Test.YtbcaindpbeaheaaGreatDoorZ15
import Derived.Test.YtbcaindpbeaheaaGreatDoorZ25
namespace Go.Proofs.YtbcaindpbeaheaaGreatDoor
namespace Ad
open Go.RowKit Lx Go.Shelf
attribute [local go_sem] Oper.semAt_some
abbrev encP1 (p : Prm) : Array Value := #[.agg (pc1 p).toArray]
theorem kp_gb {w w' : World} (h : Kp [] w w') : w.grownBy w' none :=
 ⟨h.os, h.tape, h.output, h.size, fun k hk _ => h.block k hk (by simp)⟩
theorem take_snocP (L : List Prm) (k : Nat) (x : Prm) (h : L[k]? = some x) : L.take (k + 1) = L.take k ++ [x] := by
 rw [List.take_add_one, h]; rfl
theorem pcl_three (L : List Prm) (k : Nat) (x1 x2 : List UInt8) (x3 : Bool) (h : L[k]? = some (x1, x2, x3)) : (pcl L)[k * 3]? = some (.string ⟨x1.toArray⟩) ∧ (pcl L)[k * 3 + 1]? = some (.string ⟨x2.toArray⟩) ∧ (pcl L)[k * 3 + 2]? = some (.bool x3) :=
 ⟨pcl_at L k _ h 0 _ rfl, pcl_at L k _ h 1 _ rfl, pcl_at L k _ h 2 _ rfl⟩
set_option maxRecDepth 100000 in
set_option maxHeartbeats 4000000 in
theorem pvals_in (l Bs n₀ b off cap : Nat) (L : List Prm) (hL : L.length ≤ 4194304) (hb : b < n₀) (J Jx : List Prm → World → Prop)
   (hJ : ∀ a W W', J a W → W.grownBy W' none → J a W')
   (hY : ∀ pre x W, J pre W → pre.length < L.length → YieldAt Fence.wide 1 Tryz.prog l (encP1 x) W fun e W' =>
     (e = .returned (.bool true) ∧ J (pre ++ [x]) W' ∧ Below n₀ W W') ∨ (e = .returned (.bool false) ∧ Jx (pre ++ [x]) W'))
   (W : World) (hn : n₀ ≤ W.heap.size) (hBs : W.cell? ⟨Bs, 0, none⟩ = some (.slice (some ⟨b, off, none⟩) L.length cap)) (hc : ∀ j u, (pcl L)[j]? = some u → W.cell? ⟨b, off + j, none⟩ = some u) (h0 : J [] W) :
   CallsIn Fence.wide 2 Tryz.prog 100 #[.func (.yield l) #[] #[], .pointer (some ⟨Bs, 0, none⟩)] W fun e W' => (∃ v, e = .returned v) ∧
    ((∃ ys : List Prm, ys = L ∧ J ys W') ∨ (∃ pre, True ∧ Jx pre W')) := by
 refine callsIn_of_wp Tryz.func100 rfl trivial ?_ rfl
 simp only [Tryz.ntmps100, List.size_toArray, List.length_cons, List.length_nil, Nat.reduceAdd, Nat.reduceSub, Array.replicate_succ, Array.replicate_zero, List.push_toArray, List.append_toArray, List.nil_append, List.cons_append]
 gi_wp2
 gi_loopw [7] (fun i wr => ∃ k : Nat, k ≤ L.length ∧ i = .int .i64 k ∧ J (L.take k) wr ∧ Below n₀ W wr)
  (fun i _ => L.length - (intOf i).toNat)
 case atStart => exact ⟨0, Nat.zero_le _, rfl, h0, Below.refl _ _⟩
 case round =>
  obtain ⟨k, hk, rfl, hJs, hnx⟩ := hrel
  by_cases hlt : k < L.length
  ·obtain ⟨⟨x1, x2, x3⟩, hx⟩ : ∃ x, L[k]? = some x := ⟨_, List.getElem?_eq_getElem hlt⟩
   have hwsz := hnx.size
   obtain ⟨p0, p1, p2⟩ := pcl_three L k x1 x2 x3 hx
   have c0 : wr.cell? ⟨b, off + k * 3, none⟩ = some (.string ⟨x1.toArray⟩) := (hnx.cell (p := ⟨b, off + k * 3, none⟩) hb).trans (hc _ _ p0)
   have c1 : wr.cell? ⟨b, off + k * 3 + 1, none⟩ = some (.string ⟨x2.toArray⟩) := (hnx.cell (p := ⟨b, off + k * 3 + 1, none⟩) hb).trans (hc _ _ p1)
   have c2 : wr.cell? ⟨b, off + k * 3 + 2, none⟩ = some (.bool x3) := (hnx.cell (p := ⟨b, off + k * 3 + 2, none⟩) hb).trans (hc _ _ p2)
   obtain ⟨W1, hW1⟩ : ∃ W1, wr.alloc (.cells #[.string ⟨x1.toArray⟩, .string ⟨x2.toArray⟩, .bool x3] 109) = W1 := ⟨_, rfl⟩
   have hK1 : Kp [] wr W1 := by rw [← hW1]; exact (Kp.refl [] wr).alloc _
   have hB1 := show Blk W1 wr.heap.size 109 #[.string ⟨x1.toArray⟩, .string ⟨x2.toArray⟩, .bool x3] from by rw [← hW1]; exact Blk.new wr _ _
   have d0 := hB1.cell 0;have d1 := hB1.cell 1;have d2 := hB1.cell 2
   have hBel : Below n₀ wr W1 := by rw [← hW1]; exact (Below.refl _ _).alloc (by omega) _
   obtain ⟨fn, tmps, assign, body, hy, hR⟩ := hY _ (x1, x2, x3) W1 (hJ _ _ _ hJs (kp_gb hK1)) (by rw [List.length_take]; omega)
   have HT := Lib.hid (take_snocP L k _ hx);clear hK1 hB1 p0 p1 p2 hx
   simp only [encP1, pc1] at hy
   gi_wp2
   refine hR.mono ?_
   rintro e W3 (⟨rfl, hJ3, hk3⟩ | ⟨rfl, hJx3⟩)
   ·gi_wp2
    go_roundw
    case rel => exact ⟨k + 1, by omega, by simp, by rw [HT.out]; exact hJ3, hnx.trans (hBel.trans hk3)⟩
    case measure => simp [intOf]; omega
   ·gi_wp2
    refine bodyPost_ret (results_none rfl _ _ _) rfl ?_
    exact ⟨⟨_, rfl⟩, .inr ⟨_, trivial, hJx3⟩⟩
  ·obtain rfl : k = L.length := by omega
   rw [List.take_length] at hJs
   gi_wp2
   go_end0
   exact ⟨⟨_, rfl⟩, .inl ⟨_, rfl, hJs⟩⟩
set_option maxRecDepth 100000 in
set_option maxHeartbeats 1000000 in
theorem pvals_nil (l Bs c : Nat) (A : Option Addr) (J : List Prm → World → Prop) (W : World) (hBs : W.cell? ⟨Bs, 0, none⟩ = some (.slice A 0 c)) (h0 : J [] W) :
   CallsIn Fence.wide 2 Tryz.prog 100 #[.func (.yield l) #[] #[], .pointer (some ⟨Bs, 0, none⟩)] W fun e W' => (∃ v, e = .returned v) ∧ J [] W' := by
 refine callsIn_of_wp Tryz.func100 rfl trivial ?_ rfl
 simp only [Tryz.ntmps100, List.size_toArray, List.length_cons, List.length_nil, Nat.reduceAdd, Nat.reduceSub, Array.replicate_succ, Array.replicate_zero, List.push_toArray, List.append_toArray, List.nil_append, List.cons_append]
 gi_wp2
 gi_loopw [7] (fun i wr => i = .int .i64 0 ∧ J [] wr) (fun _ _ => 0)
 case atStart => exact ⟨rfl, h0⟩
 case round =>
  obtain ⟨rfl, hJs⟩ := hrel
  gi_wp2
  go_end0
  exact ⟨⟨_, rfl⟩, hJs⟩
theorem pvals_stops (Bs n₀ B : Nat) (v : Value) (L : List Prm) (hL : L.length ≤ 4194304) (w : World) (hBs : Bs < w.heap.size) (hn : n₀ ≤ w.heap.size) (hc : w.cell? ⟨Bs, 0, none⟩ = some v) (hP : PmIn B w v L) (hB : B ≤ n₀) :
   SeqStopsK Fence.wide 2 Tryz.prog 100 #[.pointer (some ⟨Bs, 0, none⟩)] encP1 (Below n₀) (fun ys => ys = L) (fun _ => True) L.length w := fun l J Jx W hW hJ _ hY h0 => by
 have hc' := (hW.cell (p := ⟨Bs, 0, none⟩) hBs).trans hc
 have hsz := hW.size
 obtain ⟨n, c, rfl, _, ⟨h1, rfl⟩ | ⟨b, o, rfl, hb, hcell⟩⟩ := hP
 ·have hnil : L = [] := List.eq_nil_of_length_eq_zero h1
  subst hnil
  exact (pvals_nil l Bs _ _ J W hc' h0).mono fun e W' ⟨he, hj⟩ => ⟨he, .inl ⟨_, rfl, hj⟩⟩
 ·exact pvals_in l Bs n₀ b o _ L hL (by omega) J Jx (fun a W1 W2 h hg => hJ a W1 W2 none h hg (fun r hr => by cases hr)) hY W (by omega) hc' (fun j u hu => (hW.cell (p := ⟨b, o + j, none⟩) (by show b < _; omega)).trans (hcell j u hu)) h0
set_option maxRecDepth 100000 in
set_option maxHeartbeats 1000000 in
theorem values_any (A : Option Addr) (n c : Nat) (w : World) : Calls Tryz.prog 56 #[.slice A n c] w fun e w' => e = .returned (.func (.func 100) #[] #[.pointer (some ⟨w.heap.size, 0, none⟩)]) ∧ w' = w.alloc (.cells #[.slice A n c] 36) := by
 go_enter Tryz.func56, Tryz.ntmps56
 go_wp2_with fail
 go_ret
 exact ⟨rfl, rfl⟩
end Ad
end Go.Proofs.YtbcaindpbeaheaaGreatDoor
