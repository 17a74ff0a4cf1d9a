/- Texts of one set of library modules: AdL, AdM. -/
import Derived.Test.YtbcaindpbeaheaaGreatDoorZ14
import Derived.Test.YtbcaindpbeaheaaGreatDoorZ2
import Derived.Shelf.SlicesE.Clone
import Derived.Shelf.SlSortFuncK.WholeK
import Derived.Shelf.GgSortFunc.Tiny
namespace Go.Proofs.YtbcaindpbeaheaaGreatDoor
namespace Ad
open Go.RowKit Lx Go.Shelf Go.Lib Go.Sort
def ltP (a b : Prm) : Bool := ltL a.1 b.1
theorem swo_ltP : SWO ltP where
 irrefl := fun x => ltL_irrefl _
 trans := fun x y z h1 h2 => ltL_trans _ _ _ h1 h2
 ntrans := fun x y z h1 h2 => le_trans' z.1 y.1 x.1 h2 h1
theorem bytesLess_ltL : ∀ (a b : List UInt8), Op.bytesLess a b = ltL a b
 | [], [] => rfl
 | [], _ :: _ => rfl
 | _ :: _, [] => rfl
 | a :: s, b :: t => by
   simp only [Op.bytesLess, ltL, bytesLess_ltL s t, UInt8.lt_iff_toNat_lt]
   by_cases h : a.toNat < b.toNat
   ·simp [h]
   ·simp only [h]
    by_cases h2 : b.toNat < a.toNat
    ·simp [h2]; intro e; subst e; omega
    ·have : a = b := UInt8.toNat_inj.1 (by omega)
     simp [this]
noncomputable def prT : TypeInfo := (Tryz.prog.info? 36).get (by kernel_rfl)
noncomputable def prE : TypeInfo := (Tryz.prog.info? 109).get (by kernel_rfl)
theorem prK (n : Nat) (h2 : 2 ≤ n) : Lib.swapperK n prE 25 = 9 := by
 have a : prE.hasPointers = true := by kernel_rfl
 have b : prE.bytes = 40 := by kernel_rfl
 have c : (n == 0) = false := by simp; omega
 have d : (n == 1) = false := by simp; omega
 simp [Lib.swapperK, a, b, c, d]
set_option maxHeartbeats 2000000 in
set_option maxRecDepth 100000 in
theorem less_any (blk off c Bs size : Nat) (W : World) (G : Nat → ByteArray) (hs : W.cell? ⟨Bs, 0, none⟩ = some (.slice (some ⟨blk, off, none⟩) size c))
   (hc : ∀ t, t < size → W.cell? ⟨blk, off + t * 3, none⟩ = some (.string (G t))) (i j : Nat) (hi : i < size) (hj : j < size) (hsz : size < 4611686018427387904) :
   Calls Tryz.prog 86 #[.int .i64 i, .int .i64 j, .pointer (some ⟨Bs, 0, none⟩)] W fun e w' => e = .returned (.bool (Op.bytesLess (G i).toList (G j).toList)) ∧ ∃ q, w' = W.drewN q := by
 have ci := hc i hi;have cj := hc j hj
 go_enter Tryz.func86, Tryz.ntmps86
 go_wp2_with fail
 go_quiet (fail)
 go_wp2_with fail
 go_ret
 exact ⟨rfl, nq, rfl⟩
theorem pc1_cells (d : Array Prm) (t : Nat) (ht : t < d.size * 3) : (pcl d.toList)[t]? = some ((pc1 d[t / 3]!)[t % 3]!) := by
 have h3 : t / 3 < d.size := Nat.div_lt_of_lt_mul (by omega)
 have h := pcl_at d.toList (t / 3) d[t / 3]! (by rw [Array.getElem?_toList, getElem!_pos d _ h3]; simp [h3]) (t % 3) ((pc1 d[t / 3]!)[t % 3]!) (by
  have : t % 3 < (pc1 d[t / 3]!).length := by simp [pc1]; omega
  rw [getElem!_pos (pc1 d[t / 3]!) (t % 3) this, List.getElem?_eq_getElem this])
 rwa [show t / 3 * 3 + t % 3 = t by omega] at h
theorem holds_pcl (w : World) (blk off : Nat) (d : Array Prm) (hc : ∀ (j : Nat) (u : Value), (pcl d.toList)[j]? = some u → w.cell? ⟨blk, off + j, none⟩ = some u) (hf : ∀ j, w.frozen? ⟨blk, off + j, none⟩ = false) :
   HoldsK pc1 3 w blk off d := by
 intro j hj
 rw [size_flatK] at hj
 rw [get_flatK _ _ _ _ hj]
 exact ⟨hc j _ (pc1_cells d j hj), hf j⟩
theorem pcl_of_holds (w : World) (blk off : Nat) (d : Array Prm) (h : HoldsK pc1 3 w blk off d) (j : Nat) (u : Value) (hu : (pcl d.toList)[j]? = some u) : w.cell? ⟨blk, off + j, none⟩ = some u := by
 have hj : j < d.size * 3 := by
  have := (List.getElem?_eq_some_iff.1 hu).1
  rw [pcl_len] at this; simpa using this
 have := (h j (by rw [size_flatK]; exact hj)).1
 rw [get_flatK _ _ _ _ hj] at this
 rw [pc1_cells d j hj] at hu
 rw [this]; exact hu
set_option maxHeartbeats 2000000 in
set_option maxRecDepth 100000 in
theorem sort_any (blk off c Bs : Nat) (d : Array Prm) (h2 : 2 ≤ d.size) (hsz : d.size < 4611686018427387904) (w : World) (hH : HoldsK pc1 3 w blk off d) (hblk : blk < w.heap.size)
   (hBs : w.cell? ⟨Bs, 0, none⟩ = some (.slice (some ⟨blk, off, none⟩) d.size c)) (hB1 : Bs < w.heap.size) (hB2 : Bs ≠ blk) :
   Calls Tryz.prog 85 #[.iface 36 (.slice (some ⟨blk, off, none⟩) d.size c), .func (.func 86) #[] #[.pointer (some ⟨Bs, 0, none⟩)]] w fun e w' =>
    e = .returned (.tuple #[]) ∧ ∃ d' n os, PermIn 0 d.size d d' ∧ SortedIn ltP 0 d.size d' ∧ w' = grow (putRowK pc1 3 (Sort.ahead w n) blk off d') os := by
 have hless : LessReadsK Tryz.prog 86 #[.pointer (some ⟨Bs, 0, none⟩)] pc1 3 ltP blk off d.size w := by
  intro m os dk hs i j hi hj
  have e : sortWorldK pc1 3 w blk off m dk os = putRowK pc1 3 (grow (Sort.ahead w m) os) blk off dk := by
   unfold sortWorldK; rw [putRowK_grow _ _ (Sort.ahead w m) _ blk off _ hblk]
  have hHg : HoldsK pc1 3 (grow (Sort.ahead w m) os) blk off d := holdsK_grow _ _ _ _ blk off d hblk (holdsK_ahead _ _ _ _ _ _ _ hH)
  have h := less_any blk off c Bs d.size (sortWorldK pc1 3 w blk off m dk os) (fun t => ⟨dk[t]!.1.toArray⟩) ?_ (fun t ht => ?_) i j hi hj (by omega)
  ·refine h.mono ?_
   rintro e w' ⟨rfl, hq⟩
   refine ⟨?_, hq⟩
   rw [Lib.toList_data, Lib.toList_data, bytesLess_ltL]; rfl
  ·rw [e, cell?_putRowK_other _ _ _ blk off dk _ (by exact hB2), cell?_grow _ _ _ (by exact hB1)]; exact hBs
  ·rw [e]; exact ((holdsK_putRowK _ _ _ blk off d dk hHg hs).cell (i := t) (c := 0) (by omega) (by omega)).1
 exact Any.sort_Slice_cells_sorted Tryz.laysGg6 36 109 prT prE (by kernel_rfl) (by kernel_rfl) (by kernel_rfl) (by kernel_rfl) 25 (fun _ => by kernel_rfl) pc1 3 (fun _ => rfl) (by kernel_rfl) (fun _ => by kernel_rfl)
  (fun x v hv => by simp [pc1] at hv; rcases hv with rfl | rfl | rfl <;> rfl) ltP swo_ltP 86 _
  (enters_of Tryz.func86 (by kernel_rfl) rfl) blk off c d h2 hsz 179 (by rw [prK _ h2]; kernel_rfl) false
  (fun args W => run_callFunc_extern Tryz.func179 (by kernel_rfl) (by kernel_rfl) (by kernel_rfl) (e := Extern.ReflectliteSwapper.swap false) (by kernel_rfl) args W) w hless hH hblk
set_option maxHeartbeats 2000000 in
set_option maxRecDepth 100000 in
theorem sort_tiny (p : Option Addr) (n c : Nat) (h1 : n ≤ 1) (lf : Fn) (la lb : Array Value) (w : World) :
   Calls Tryz.prog 85 #[.iface 36 (.slice p n c), .func lf la lb] w fun e w' => e = .returned (.tuple #[]) ∧ ∃ os, w' = grow w os := by
 have hn : n = 0 ∨ n = 1 := by omega
 rcases hn with rfl | rfl
 ·exact Any.sort_Slice_tiny Tryz.laysGg6 36 109 prT prE (by kernel_rfl) (by kernel_rfl) (by kernel_rfl) (by kernel_rfl) 25 (fun _ => by kernel_rfl) p 0 c (by omega) 171 (by kernel_rfl) lf la lb w
 ·exact Any.sort_Slice_tiny Tryz.laysGg6 36 109 prT prE (by kernel_rfl) (by kernel_rfl) (by kernel_rfl) (by kernel_rfl) 25 (fun _ => by kernel_rfl) p 1 c (by omega) 172 (by kernel_rfl) lf la lb w
theorem srtd_of (d : Array Prm) (h : SortedIn ltP 0 d.size d) : Srtd d.toList := by
 unfold Srtd
 rw [List.pairwise_iff_getElem]
 intro i j hi hj hij
 have hi' : i < d.size := by simpa using hi
 have hj' : j < d.size := by simpa using hj
 have := h i j (Nat.zero_le _) hij hj'
 rw [getElem!_pos d i hi', getElem!_pos d j hj'] at this
 simpa [ltP] using this
theorem perm_of (d d' : Array Prm) (h : PermIn 0 d.size d d') : d'.toList.Perm d.toList := by
 have h3 := h.2.2
 rw [show d'.extract 0 d.size = d' from by rw [← h.1]; simp, show d.extract 0 d.size = d from by simp] at h3
 exact h3
theorem kp_put (w : World) (blk off n : Nat) (d : Array Prm) (os : Array Obj) : Kp [blk] w (grow (putRowK pc1 3 (Sort.ahead w n) blk off d) os) := by
 refine ⟨rfl, rfl, rfl, ?_, fun k hk hx => ?_⟩
 ·show w.heap.size ≤ ((w.heap.modify blk _) ++ os).size
  rw [Array.size_append, Array.size_modify]; omega
 ·show ((w.heap.modify blk _) ++ os)[k]? = _
  have hx : blk ≠ k := fun h => hx (by simp [h])
  rw [Array.getElem?_append, if_pos (by rw [Array.size_modify]; exact hk), Array.getElem?_modify, if_neg hx]
theorem kp_grow (w : World) (os : Array Obj) : Kp [] w (grow w os) := by
 refine ⟨rfl, rfl, rfl, ?_, fun k hk hx => heap_grow_old w os hk⟩
 show w.heap.size ≤ (w.heap ++ os).size
 rw [Array.size_append]; omega
theorem perm_tiny (l : List Prm) (h : l.length ≤ 1) : Srtd l := by
 unfold Srtd
 match l, h with
 | [], _ => exact .nil
 | [a], _ => exact List.pairwise_singleton _ _
 | a :: b :: t, h => simp at h
def SoP (l : List Prm) (w : World) (e : Ending) (w' : World) : Prop :=
 ∃ v l', e = .returned v ∧ PmIn w'.heap.size w' v l' ∧ l'.Perm l ∧ Srtd l' ∧ Kp [] w w'
def CloP (l : List Prm) (w : World) (e : Ending) (w' : World) : Prop :=
 ∃ v, e = .returned v ∧ w'.ownsRow w.heap.size 109 3 v l.length (pcl l) ∧ Kp [] w w'
theorem pcl_one (l : List Prm) : ∀ u ∈ pcl l, u.oneCell' = true := by
 intro u hu
 simp only [pcl, List.mem_flatMap, pc1] at hu
 obtain ⟨p, _, hp⟩ := hu
 simp at hp
 rcases hp with rfl | rfl | rfl <;> rfl
theorem clone_any (B : Nat) (v : Value) (l : List Prm) (w : World) (hP : PmIn B w v l) (hl : l.length ≤ 4194304) :
   Calls Tryz.prog 84 #[v] w (CloP l w) := by
 obtain ⟨n, c, rfl, hc, ⟨h0, rfl⟩ | ⟨b, o, rfl, hb, hcell⟩⟩ := hP
 ·have hnil : l = [] := List.eq_nil_of_length_eq_zero h0
  subst hnil
  refine (AnyE.slices_Clone_nil Tryz.slClo _ c w).mono ?_
  rintro e w' ⟨rfl, rfl⟩
  exact ⟨_, rfl, World.ownsRow_nil _ _ _ _, Kp.refl _ _⟩
 ·obtain ⟨i0, hi, hz0, hz1, hz2⟩ := info_parts infoPrm3
  refine (AnyE.slices_Clone Tryz.slClo i0 (.agg #[.string .empty, .string .empty, .bool false]) 3 40 hi hz0 hz1 hz2 rfl (by decide) Tryz.sizeOf109 b o l.length c (pcl l) w (pcl_len l) (by unfold maxLen; omega) (by omega) hcell (pcl_one l)).mono ?_
  rintro e w' ⟨v', rfl, hown, _, hB⟩
  exact ⟨v', rfl, hown, (Kp.refl [] w).below hB⟩
end Ad
end Go.Proofs.YtbcaindpbeaheaaGreatDoor
namespace Go.Proofs.YtbcaindpbeaheaaGreatDoor
namespace Ad
open Go.RowKit Lx
theorem own_form {w : World} {base : Nat} {v : Value} {l : List Prm} (h : w.ownsRow base 109 3 v l.length (pcl l)) : ∃ p c, v = .slice p l.length c := by
 rcases h.2 with ⟨rfl, hz⟩ | ⟨g, cap, cur, rfl, _⟩
 ·exact ⟨none, 0, by rw [hz]⟩
 ·exact ⟨_, cap, rfl⟩
theorem own_two {w : World} {base : Nat} {v : Value} {l : List Prm} (h : w.ownsRow base 109 3 v l.length (pcl l)) (h2 : 2 ≤ l.length) :
   ∃ g c, v = .slice (some ⟨g, 0, none⟩) l.toArray.size c ∧ base ≤ g ∧ g < w.heap.size ∧ Sort.HoldsK pc1 3 w g 0 l.toArray := by
 rcases h.2 with ⟨rfl, hz⟩ | ⟨g, cap, cur, rfl, hb, hg, hnc, rest⟩
 ·omega
 ·refine ⟨g, cap, by simp, hb, lt_of_some hg, holds_pcl w g 0 l.toArray (fun j u hu => ?_) (fun j => ?_)⟩
  ·have := h.cells (g := g) rfl j u (by simpa using hu)
   rw [Nat.zero_add]
   by_cases hj : j = 0
   ·subst hj; simpa [Addr.add] using this
   ·simpa [Addr.add, hj] using this
  ·simp [World.frozen?, hg]
set_option maxRecDepth 100000 in
set_option maxHeartbeats 1000000 in
theorem sorted_any (B : Nat) (v : Value) (l : List Prm) (w : World) (hP : PmIn B w v l) (hB : B ≤ w.heap.size) (hl : l.length ≤ 4194304) :
   Calls Tryz.prog 48 #[v] w (SoP l w) := by
 obtain ⟨A, cA, rfl⟩ := hP.form
 have BA := Lib.hid (Blk.new w 36 #[.slice A l.length cA])
 have KA := Lib.hid ((Kp.refl [] w).alloc (.cells #[.slice A l.length cA] 36))
 have PA : PmIn B (w.alloc (.cells #[.slice A l.length cA] 36)) (.slice A l.length cA) l := hP.kp KA.out hB (by simp)
 have PA := Lib.hid PA;clear hP
 go_enter Tryz.func48, Tryz.ntmps48
 go_wp2_with fail
 refine (clone_any B _ l _ PA.out hl).mono ?_
 rintro e w1 ⟨v1, rfl, hown, hK1⟩
 have B1 := Lib.hid (BA.out.kp hK1 (by simp))
 have b0 := B1.out.frozen 0
 have d0 : w1.cell? ⟨w.heap.size, 0, none⟩ = some (.slice A l.length cA) := by simpa using B1.out.cell 0
 have B2 := Lib.hid (B1.out.set_ 0 v1)
 have K2 := Lib.hid ((KA.out.trans hK1).setCell (p := ⟨w.heap.size, 0, none⟩) (.inr (Nat.le_refl _)) v1)
 have O2 := Lib.hid (own_kp hown ((Kp.refl [w.heap.size] w1).setCell (p := ⟨w.heap.size, 0, none⟩) (.inl (by simp)) v1) (by simp))
 have c0 := B2.out.cell 0
 obtain ⟨p, c, hv⟩ := own_form hown
 have hsz := K2.out.size;have hlt := B2.out.lt;clear hown
 by_cases h1 : l.length ≤ 1
 ·subst hv
  have c0' : (w1.setCell ⟨w.heap.size, 0, none⟩ (.slice p l.length c)).cell? ⟨w.heap.size, 0, none⟩ = some (.slice p l.length c) := by simpa using c0
  clear c0
  go_wp2_with fail
  refine (sort_tiny p l.length c h1 _ _ _ _).mono ?_
  rintro e w2 ⟨rfl, os, rfl⟩
  have hK3 := kp_grow (w1.setCell ⟨w.heap.size, 0, none⟩ (.slice p l.length c)) os
  have c1 := (B2.out.kp hK3 (by simp)).cell 0
  have c1' : (Sort.grow (w1.setCell ⟨w.heap.size, 0, none⟩ (.slice p l.length c)) os).cell? ⟨w.heap.size, 0, none⟩ = some (.slice p l.length c) := by simpa using c1
  clear c1
  have O3 := Lib.hid (PmIn.of_own (own_kp O2.out hK3 (by simp)))
  have K3 := Lib.hid (K2.out.trans hK3);clear hK3
  go_wp2_with fail
  go_ret
  exact ⟨_, l, rfl, O3.out, .refl _, perm_tiny l h1, K3.out⟩
 ·obtain ⟨g, c', rfl, hg1, hg2, hH⟩ := own_two O2.out (by omega)
  have c0' : (w1.setCell ⟨w.heap.size, 0, none⟩ (.slice (some ⟨g, 0, none⟩) l.toArray.size c')).cell? ⟨w.heap.size, 0, none⟩ = some (.slice (some ⟨g, 0, none⟩) l.toArray.size c') := by simpa using c0
  have C0 := Lib.hid c0';have HH := Lib.hid hH
  have hg1' : w.heap.size < g := by simp at hg1; omega
  clear c0 hH hv
  go_wp2_with fail
  refine (sort_any g 0 c' w.heap.size l.toArray (by simp; omega) (by simp; omega) _ HH.out hg2 C0.out hlt (by omega)).mono ?_
  rintro e w2 ⟨rfl, d', n, os, hPe, hSo, hw2⟩
  have hK3 : Kp [g] (w1.setCell ⟨w.heap.size, 0, none⟩ (.slice (some ⟨g, 0, none⟩) l.toArray.size c')) w2 := by rw [hw2]; exact kp_put _ g 0 n d' os
  have c1 := (B2.out.kp hK3 (by simp; omega)).cell 0
  have c1' : w2.cell? ⟨w.heap.size, 0, none⟩ = some (.slice (some ⟨g, 0, none⟩) l.length c') := by simpa using c1
  clear c1
  have hd : d'.size = l.toArray.size := hPe.1
  have H3 : Sort.HoldsK pc1 3 w2 g 0 d' := by
   rw [hw2]
   refine Sort.holdsK_grow _ _ _ _ g 0 d' ?_ (Sort.holdsK_putRowK _ _ _ g 0 l.toArray d' (Sort.holdsK_ahead _ _ _ _ _ _ _ HH.out) hd)
   show g < (Array.modify _ _ _).size
   rw [Array.size_modify]; exact hg2
  have O3 : PmIn w2.heap.size w2 (.slice (some ⟨g, 0, none⟩) l.length c') d'.toList := by
   refine ⟨l.length, c', by have h9 := hd; simp at h9; simp [h9], ?_, .inr ⟨g, 0, rfl, Nat.lt_of_lt_of_le hg2 hK3.size, fun j u hu => pcl_of_holds _ g 0 d' H3 j u hu⟩⟩
   rcases O2.out.2 with ⟨hq, _⟩ | ⟨g2, cap, cur, hq, _, _, hnc, _⟩
   ·cases hq
   ·injection hq with _ _ hq3; rw [hq3]; exact hnc
  have HO3 := Lib.hid O3
  have K3 := Lib.hid (K2.out.to_ hK3 (by simp; omega))
  have HPe := Lib.hid (perm_of _ _ hPe)
  have HSo := Lib.hid (srtd_of d' (by rw [hd]; exact hSo))
  clear hK3 O3 H3 hPe hSo hw2
  go_wp2_with fail
  go_ret
  exact ⟨_, d'.toList, rfl, HO3.out, by simpa using HPe.out, HSo.out, K3.out⟩
end Ad
end Go.Proofs.YtbcaindpbeaheaaGreatDoor
