/- Texts of one set of library modules: HeSd. -/
import Derived.Test.YtbcaindpbeaheaaGreatDoorZ34
import Derived.Test.YtbcaindpbeaheaaGreatDoorZ18
namespace Go.Proofs.YtbcaindpbeaheaaGreatDoor
namespace Ad
open Go.RowKit Lx Go.Shelf
attribute [local go_sem] Oper.semAt_some
def brnN : List UInt8 := [98, 114, 97, 110, 99, 104]
def nbr (l : List Prm) : List Prm := l.filter fun p => !(p.1 == brnN)
def vps (l : List Prm) (br : List UInt8) : List Prm := nbr l ++ (if br = [] then [] else [(brnN, br, true)])
theorem nbr_len (l : List Prm) : (nbr l).length ≤ l.length := List.length_filter_le _ _
theorem nbr_snoc (l : List Prm) (x : Prm) : nbr (l ++ [x]) = nbr l ++ (if x.1 = brnN then [] else [x]) := by
 unfold nbr
 rw [List.filter_append]
 congr 1
 by_cases h : x.1 = brnN
 ·rw [if_pos h]; simp [h]
 ·rw [if_neg h]; simp [h]
theorem nbr_take (l : List Prm) (k : Nat) : (nbr (l.take k)).length ≤ (nbr l).length := by
 unfold nbr
 exact ((List.take_sublist k l).filter _).length_le
theorem nbr_lt (l : List Prm) (k : Nat) (x : Prm) (h : l[k]? = some x) (hx : ¬ x.1 = brnN) : (nbr (l.take k)).length < (nbr l).length := by
 have h1 := nbr_take l (k + 1)
 rw [take_snocP l k x h, nbr_snoc, if_neg hx] at h1
 simp at h1
 omega
set_option maxRecDepth 100000 in
set_option maxHeartbeats 4000000 in
theorem vpars_in (l Bs n₀ b off cap : Nat) (L : List Prm) (br : List UInt8) (hL : L.length ≤ 4194304) (hbl : br.length ≤ 4194304) (hb : L.length = 0 ∨ b < n₀) (hbs : Bs < n₀) (J Jx : List Prm → World → Prop)
   (hJ : ∀ a W W', J a W → W.grownBy W' none → J a W')
   (hY : ∀ pre x W, J pre W → pre.length < (vps L br).length → YieldAt Fence.wide 1 Tryz.prog l (encP1 x) W fun e W' =>
     (e = .returned (.bool true) ∧ J (pre ++ [x]) W' ∧ Below n₀ W W') ∨ (e = .returned (.bool false) ∧ Jx (pre ++ [x]) W'))
   (A : Option Addr) (hA : L.length = 0 ∨ A = some ⟨b, off, none⟩)
   (W : World) (hn : n₀ ≤ W.heap.size) (hB3 : W.cell? ⟨Bs, 3, none⟩ = some (.string (Txt br))) (hB4 : W.cell? ⟨Bs, 4, none⟩ = some (.slice A L.length cap)) (hc : L.length = 0 ∨ ∀ j u, (pcl L)[j]? = some u → W.cell? ⟨b, off + j, none⟩ = some u) (h0 : J [] W) :
   CallsIn Fence.wide 2 Tryz.prog 96 #[.func (.yield l) #[] #[], .pointer (some ⟨Bs, 0, none⟩)] W fun e W' => (∃ v, e = .returned v) ∧
    ((∃ ys : List Prm, ys = vps L br ∧ J ys W') ∨ (∃ pre, True ∧ Jx pre W')) := by
 refine callsIn_of_wp Tryz.func96 rfl trivial ?_ rfl
 simp only [Tryz.ntmps96, List.size_toArray, List.length_cons, List.length_nil, Nat.reduceAdd, Nat.reduceSub, Array.replicate_succ, Array.replicate_zero, List.push_toArray, List.append_toArray, List.nil_append, List.cons_append]
 gi_wp2
 gi_loopw [8] (fun i wr => ∃ k : Nat, k ≤ L.length ∧ i = .int .i64 k ∧ J (nbr (L.take k)) wr ∧ Below n₀ W wr)
  (fun i _ => L.length - (intOf i).toNat)
 case atStart => exact ⟨0, Nat.zero_le _, rfl, h0, Below.refl _ _⟩
 case round =>
  obtain ⟨k, hk, rfl, hJs, hnx⟩ := hrel
  by_cases hlt : k < L.length
  ·obtain rfl : A = some ⟨b, off, none⟩ := by rcases hA with h | h; omega; exact h
   have hb' : b < n₀ := by omega
   have hc' : ∀ j u, (pcl L)[j]? = some u → W.cell? ⟨b, off + j, none⟩ = some u := by rcases hc with h | h; omega; exact h
   obtain ⟨⟨x1, x2, x3⟩, hx⟩ : ∃ x, L[k]? = some x := ⟨_, List.getElem?_eq_getElem hlt⟩
   have hwsz := hnx.size
   obtain ⟨p0, p1, p2⟩ := pcl_three L k x1 x2 x3 hx
   have c0 : wr.cell? ⟨b, off + k * 3, none⟩ = some (.string ⟨x1.toArray⟩) := (hnx.cell (p := ⟨b, off + k * 3, none⟩) hb').trans (hc' _ _ p0)
   have c1 : wr.cell? ⟨b, off + k * 3 + 1, none⟩ = some (.string ⟨x2.toArray⟩) := (hnx.cell (p := ⟨b, off + k * 3 + 1, none⟩) hb').trans (hc' _ _ p1)
   have c2 : wr.cell? ⟨b, off + k * 3 + 2, none⟩ = some (.bool x3) := (hnx.cell (p := ⟨b, off + k * 3 + 2, none⟩) hb').trans (hc' _ _ p2)
   obtain ⟨W1, hW1⟩ : ∃ W1, wr.alloc (.cells #[.string ⟨x1.toArray⟩, .string ⟨x2.toArray⟩, .bool x3] 109) = W1 := ⟨_, rfl⟩
   have hK1 : Kp [] wr W1 := by rw [← hW1]; exact (Kp.refl [] wr).alloc _
   have hB1 := show Blk W1 wr.heap.size 109 #[.string ⟨x1.toArray⟩, .string ⟨x2.toArray⟩, .bool x3] from by rw [← hW1]; exact Blk.new wr _ _
   have d0 := hB1.cell 0;have d1 := hB1.cell 1;have d2 := hB1.cell 2
   have hBel : Below n₀ wr W1 := by rw [← hW1]; exact (Below.refl _ _).alloc (by omega) _
   have HT := Lib.hid (by rw [take_snocP L k _ hx, nbr_snoc] : nbr (L.take (k + 1)) = nbr (L.take k) ++ (if x1 = brnN then [] else [(x1, x2, x3)]))
   have hJ1 := hJ _ _ _ hJs (kp_gb hK1)
   by_cases hbr : x1 = brnN
   ·have hn1 : ((⟨x1.toArray⟩ : ByteArray).toList == [98, 114, 97, 110, 99, 104]) = true := by rw [Lib.toList_data, hbr]; rfl
    have HB := Lib.hid hbr;clear hK1 hB1 p0 p1 p2 hx hc' hbr
    gi_wp2
    refine ⟨(fun f hf => by cases hf), ?_⟩
    gi_wp2
    go_roundw
    case rel => exact ⟨k + 1, by omega, by simp, by rw [HT.out, if_pos HB.out, List.append_nil]; exact hJ1, hnx.trans hBel⟩
    case measure => simp [intOf]; omega
   ·have hn1 : (!(x1 == [98, 114, 97, 110, 99, 104])) = true := by rw [beq_eq_false_iff_ne.2 (show ¬ x1 = [98, 114, 97, 110, 99, 104] from hbr)]; rfl
    have hn2 : ¬ x1 = [98, 114, 97, 110, 99, 104] := hbr
    have hll := nbr_lt L k _ hx hbr
    obtain ⟨fn, tmps, assign, body, hy, hR⟩ := hY _ (x1, x2, x3) W1 hJ1 (by unfold vps; rw [List.length_append]; omega)
    have HB := Lib.hid hbr;clear hK1 hB1 p0 p1 p2 hx hc' hbr hll
    simp only [encP1, pc1] at hy
    gi_wp2
    refine hR.mono ?_
    rintro e W3 (⟨rfl, hJ3, hk3⟩ | ⟨rfl, hJx3⟩)
    ·gi_wp2
     all_goals exact ⟨⟨k + 1, by omega, by simp, by rw [HT.out, if_neg HB.out]; exact hJ3, hnx.trans (hBel.trans hk3)⟩, by simp [intOf]; omega⟩
    ·gi_wp2
     refine bodyPost_ret (results_none rfl _ _ _) rfl ?_
     exact ⟨⟨_, rfl⟩, .inr ⟨_, trivial, hJx3⟩⟩
  ·obtain rfl : k = L.length := by omega
   rw [List.take_length] at hJs
   have c3 := (hnx.cell (p := ⟨Bs, 3, none⟩) hbs).trans hB3
   by_cases hbe : br = []
   ·have hn1 := emp_yes br hbe
    have HV := Lib.hid (by unfold vps; rw [if_pos hbe, List.append_nil] : vps L br = nbr L)
    clear hbe
    gi_wp2
    go_end0
    exact ⟨⟨_, rfl⟩, .inl ⟨_, HV.out.symm, hJs⟩⟩
   ·have hn1 := emp_no br hbe
    have HV := Lib.hid (by unfold vps; rw [if_neg hbe] : vps L br = nbr L ++ [(brnN, br, true)])
    obtain ⟨fn, tmps, assign, body, hy, hR⟩ := hY _ (brnN, br, true) wr hJs (by rw [HV.out, List.length_append]; simp)
    have hy2 : (Instr.yield l #[.agg #[.string ⟨#[98, 114, 97, 110, 99, 104]⟩, .string (Txt br), .bool true]]).run Tryz.prog wr = .ok (.round l fn tmps assign body) wr := hy
    clear hbe hy
    gi_wp2
    refine hR.mono ?_
    rintro e W3 (⟨rfl, hJ3, hk3⟩ | ⟨rfl, hJx3⟩)
    ·gi_wp2
     go_end0
     exact ⟨⟨_, rfl⟩, .inl ⟨_, HV.out.symm, hJ3⟩⟩
    ·gi_wp2
     go_end0
     exact ⟨⟨_, rfl⟩, .inr ⟨_, trivial, hJx3⟩⟩
theorem vpars_stops (Bs n₀ B : Nat) (v : Value) (L : List Prm) (br : List UInt8) (hL : L.length ≤ 4194304) (hbl : br.length ≤ 4194304) (w : World) (hbs : Bs < n₀) (hn : n₀ ≤ w.heap.size) (h3 : w.cell? ⟨Bs, 3, none⟩ = some (.string (Txt br))) (h4 : w.cell? ⟨Bs, 4, none⟩ = some v) (hP : PmIn B w v L) (hB : B ≤ n₀) :
   SeqStopsK Fence.wide 2 Tryz.prog 96 #[.pointer (some ⟨Bs, 0, none⟩)] encP1 (Below n₀) (fun ys => ys = vps L br) (fun _ => True) (vps L br).length w := fun l J Jx W hW hJ _ hY h0 => by
 have hsz := hW.size
 have h3' := (hW.cell (p := ⟨Bs, 3, none⟩) (by show Bs < _; omega)).trans h3
 have h4' := (hW.cell (p := ⟨Bs, 4, none⟩) (by show Bs < _; omega)).trans h4
 obtain ⟨n, c, rfl, _, ⟨h1, rfl⟩ | ⟨b, o, rfl, hb, hcell⟩⟩ := hP
 ·obtain rfl : L = [] := List.eq_nil_of_length_eq_zero h1
  exact vpars_in l Bs n₀ 0 0 _ [] br hL hbl (.inl h1) hbs J Jx (fun a W1 W2 h hg => hJ a W1 W2 none h hg (fun r hr => by cases hr)) hY _ (.inl h1) W (by omega) h3' h4' (.inl h1) h0
 ·exact vpars_in l Bs n₀ b o _ L br hL hbl (.inr (by omega)) hbs J Jx (fun a W1 W2 h hg => hJ a W1 W2 none h hg (fun r hr => by cases hr)) hY _ (.inr rfl) W (by omega) h3' h4' (.inr fun j u hu => (hW.cell (p := ⟨b, o + j, none⟩) (by show b < _; omega)).trans (hcell j u hu)) h0
end Ad
end Go.Proofs.YtbcaindpbeaheaaGreatDoor
