/- Texts of one set of library modules: HeSa. -/
import Derived.Test.YtbcaindpbeaheaaGreatDoorZ15
import Derived.Shelf.SlSortCmp.WholeK
import Derived.Shelf.SlSortCmp.NoneTotal
namespace Go.Proofs.YtbcaindpbeaheaaGreatDoor
namespace Ad
open Go.RowKit Lx Go.Shelf Go.Lib Go.Sort
theorem cmpB_ltL : ∀ a b : List UInt8, decide (Lib.compareBytes a b < 0) = ltL a b
 | [], [] => rfl
 | [], _ :: _ => rfl
 | _ :: _, [] => rfl
 | a :: s, b :: t => by
   simp only [Lib.compareBytes, ltL, UInt8.lt_iff_toNat_lt]
   by_cases h : a.toNat < b.toNat
   ·rw [if_pos h, if_pos h]; rfl
   ·rw [if_neg h, if_neg h]
    by_cases h2 : b.toNat < a.toNat
    ·rw [if_pos h2, if_pos h2]; rfl
    ·rw [if_neg h2, if_neg h2]; exact cmpB_ltL s t
abbrev cmpP (x y : Prm) : Int := Lib.compareBytes x.1 y.1
theorem ltOf_cmp : ltOf cmpP = ltP := by
 funext x y
 exact cmpB_ltL x.1 y.1
set_option maxRecDepth 100000 in
set_option maxHeartbeats 2000000 in
theorem scmp_any (x y : Prm) (W : World) : Calls Tryz.prog 94 #[.agg (pc1 x).toArray, .agg (pc1 y).toArray] W fun e w' => e = .returned (.int .i64 (cmpP x y)) ∧ ∃ q os', w' = grow (W.drewN q) os' := by
 obtain ⟨x1, x2, x3⟩ := x
 obtain ⟨y1, y2, y3⟩ := y
 have hcon := fun W' => Tryz.strings_Compare ⟨x1.toArray⟩ ⟨y1.toArray⟩ W'
 change ∀ W', Calls Tryz.prog _ _ _ (fun e w' => e = .returned (.int .i64 (cmpP (x1, x2, x3) (y1, y2, y3))) ∧ w' = W') at hcon
 generalize cmpP (x1, x2, x3) (y1, y2, y3) = r at hcon ⊢
 simp only [pc1]
 go_enter Tryz.func94, Tryz.ntmps94
 go_wp2_with (go_at_call 95; refine (hcon _).mono ?_; rintro e w' ⟨rfl, rfl⟩)
 go_ret
 exact ⟨rfl, 0, _, by rw [alloc_eq_grow, alloc_eq_grow, grow_grow]; rfl⟩
set_option maxHeartbeats 2000000 in
set_option maxRecDepth 100000 in
theorem sortF_any (blk c : Nat) (d : Array Prm) (hsz : d.size < 4611686018427387904) (w : World) (hH : HoldsK pc1 3 w blk 0 d) (hblk : blk < w.heap.size) :
   Calls Tryz.prog 151 #[.slice (some ⟨blk, 0, none⟩) d.size c, .func (.func 94) #[] #[]] w fun e w' =>
    e = .returned (.tuple #[]) ∧ ∃ d' n os, PermIn 0 d.size d d' ∧ SortedIn ltP 0 d.size d' ∧ w' = grow (putRowK pc1 3 (Sort.ahead w n) blk 0 d') os := by
 have h := AnyQ.slices_SortFunc Tryz.slSrt 3 Tryz.isAgg109 Tryz.sizeOf109 pc1 (fun _ => rfl) (fun x v hv => by simp [pc1] at hv; rcases hv with rfl | rfl | rfl <;> rfl) cmpP (by rw [ltOf_cmp]; exact swo_ltP) 94 #[] blk 0 c d w
  (enters_of Tryz.func94 (by kernel_rfl) rfl) (fun _ _ _ _ x y => scmp_any x y _) hH hblk hsz
 rw [ltOf_cmp] at h
 exact h
theorem sortF_none (p : Option Addr) (c : Nat) (fv : Value) (w : World) :
   Calls Tryz.prog 151 #[.slice p 0 c, fv] w fun e w' => e = .returned (.tuple #[]) ∧ w' = w :=
 AnyF.slices_SortFunc_none { Tryz.slSrt with } p c fv w
theorem sortO_any (w0 : Nat) (v : Value) (l : List Prm) (w : World) (hown : w.ownsRow w0 109 3 v l.length (pcl l)) (hl : l.length ≤ 4194304) :
   Calls Tryz.prog 151 #[v, .func (.func 94) #[] #[]] w fun e w' =>
    e = .returned (.tuple #[]) ∧ ∃ l' X, l'.Perm l ∧ Srtd l' ∧ PmIn w'.heap.size w' v l' ∧ Kp X w w' ∧ ∀ x ∈ X, w0 ≤ x := by
 by_cases h0 : l.length = 0
 ·obtain ⟨p, c, hv⟩ := own_form hown
  have hP := PmIn.of_own hown
  rw [h0] at hv
  subst hv
  refine (sortF_none p c _ w).mono ?_
  rintro e w' ⟨rfl, rfl⟩
  exact ⟨rfl, l, [], .refl _, perm_tiny l (by omega), hP, Kp.refl _ _, by simp⟩
 ·obtain ⟨g, c, rfl, hg1, hg2, hH⟩ : ∃ g c, v = .slice (some ⟨g, 0, none⟩) l.toArray.size c ∧ w0 ≤ g ∧ g < w.heap.size ∧ Sort.HoldsK pc1 3 w g 0 l.toArray := by
    rcases hown.2 with ⟨rfl, hz⟩ | ⟨g, cap, cur, rfl, hb, hg, hnc, rest⟩
    ·omega
    ·refine ⟨g, cap, by simp, hb, lt_of_some hg, holds_pcl w g 0 l.toArray (fun j u hu => ?_) (fun j => ?_)⟩
     ·have := hown.cells (g := g) rfl j u (by simpa using hu)
      rw [Nat.zero_add]
      by_cases hj : j = 0
      ·subst hj; simpa [Addr.add] using this
      ·simpa [Addr.add, hj] using this
     ·simp [World.frozen?, hg]
  refine (sortF_any g c l.toArray (by simp; omega) w hH hg2).mono ?_
  rintro e w2 ⟨rfl, d', n, os, hPe, hSo, hw2⟩
  have hK3 : Kp [g] w w2 := by rw [hw2]; exact kp_put _ g 0 n d' os
  have hd : d'.size = l.toArray.size := hPe.1
  have H3 : Sort.HoldsK pc1 3 w2 g 0 d' := by
   rw [hw2]
   refine Sort.holdsK_grow _ _ _ _ g 0 d' ?_ (Sort.holdsK_putRowK _ _ _ g 0 l.toArray d' (Sort.holdsK_ahead _ _ _ _ _ _ _ hH) hd)
   show g < (Array.modify _ _ _).size
   rw [Array.size_modify]; exact hg2
  have O3 : PmIn w2.heap.size w2 (.slice (some ⟨g, 0, none⟩) l.toArray.size c) d'.toList := by
   refine ⟨l.length, c, by have h9 := hd; simp at h9; simp [h9], ?_, .inr ⟨g, 0, by simp, Nat.lt_of_lt_of_le hg2 hK3.size, fun j u hu => pcl_of_holds _ g 0 d' H3 j u hu⟩⟩
   rcases hown.2 with ⟨hq, _⟩ | ⟨g2, cap, cur, hq, _, _, hnc, _⟩
   ·cases hq
   ·injection hq with _ _ hq3; rw [hq3]; exact hnc
  exact ⟨rfl, d'.toList, [g], by simpa using perm_of _ _ hPe, srtd_of d' (by rw [hd]; exact hSo), O3, hK3, by simpa using hg1⟩
end Ad
end Go.Proofs.YtbcaindpbeaheaaGreatDoor
