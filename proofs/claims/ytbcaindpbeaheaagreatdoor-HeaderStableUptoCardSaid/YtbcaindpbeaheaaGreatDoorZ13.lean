/- Texts of one set of library modules: AdI. -/
import Derived.Test.YtbcaindpbeaheaaGreatDoorZ12
import Derived.Shelf.SlicesQ.IndexFunc
import Derived.Laws.ResultCell
namespace Go.Proofs.YtbcaindpbeaheaaGreatDoor
namespace Ad
open Go.RowKit Lx
def encP (q : Prm) : Value := .agg (pc1 q).toArray
theorem str_beq (a b : List UInt8) : ((Txt a).toList == (Txt b).toList) = (a == b) := by
 rw [Lib.toList_data, Lib.toList_data]; rfl
set_option maxRecDepth 100000 in
set_option maxHeartbeats 400000 in
theorem same_pred (bp : Nat) (nm : List UInt8) (w : World) (hB : bp < w.heap.size) (hcell : w.cell? ⟨bp, 0, none⟩ = some (.string (Txt nm))) :
   PredBelow Tryz.prog 136 #[.pointer (some ⟨bp, 0, none⟩)] encP (fun q => q.1 == nm) w := fun W x hb => by
 have hc : W.cell? ⟨bp, 0, none⟩ = some (.string (Txt nm)) := (hb.cell (p := ⟨bp, 0, none⟩) hB).trans hcell
 have hBW : bp < W.heap.size := Nat.lt_of_lt_of_le hB hb.size
 have hne : bp ≠ W.heap.size := by omega
 have hr : (W.alloc (.cells (pc1 x).toArray 109)).cell? ⟨bp, 0, none⟩ = some (.string (Txt nm)) := by rw [World.cell?_alloc_lt W _ ⟨bp, 0, none⟩ hBW]; exact hc
 obtain ⟨x1, x2, x3⟩ := x
 have hbz := Lib.hid (hb.alloc hb.size (.cells (pc1 (x1, x2, x3)).toArray 109))
 have HS := Lib.hid (by rw [Lib.toList_data]; rfl : (x1 == (Txt nm).toList) = (x1 == nm))
 unfold encP
 simp only [pc1] at hr hbz ⊢
 go_enter Tryz.func136, Tryz.ntmps136
 go_wp2_with fail
 go_ret
 exact ⟨ret_bool HS.out, hbz.out⟩
theorem getD_some (l : List Prm) (j : Nat) (h : j < l.length) : l[j]? = some l[j]! := by
 rw [List.getElem?_eq_getElem h, getElem!_pos l j h]
theorem containsFunc_zero (A : Option Addr) (c : Nat) (f : Value) (w : World) :
   Calls Tryz.prog 137 #[.slice A 0 c, f] w (Ret (.bool false) w) := by
 have h1 : Calls Tryz.prog 122 #[.slice A 0 c, f] w (Ret (.int .i64 (-1)) w) := by
  go_enter Tryz.func122, Tryz.ntmps122
  go_wp2_with fail
  go_loop [5, 8] (fun _ i => i = .int .i64 0) (fun _ _ => 0)
  case atStart => rfl
  case round =>
   subst hrel
   go_wp2_with fail
   go_ret
   exact ⟨rfl, rfl⟩
 go_enter Tryz.func137, Tryz.ntmps137
 go_wp2_with fail
 refine h1.mono ?_
 rintro e w' ⟨rfl, rfl⟩
 go_wp2_with fail
 go_ret
 exact ⟨rfl, rfl⟩
def anyN (acc : List Prm) (nm : List UInt8) : Bool := acc.any fun q => q.1 == nm
theorem containsFunc_any (B : Nat) (v : Value) (acc : List Prm) (nm : List UInt8) (bp : Nat) (w : World) (hP : PmIn B w v acc) (hB : B ≤ w.heap.size) (hl : acc.length ≤ 4194304) (hbp : bp < w.heap.size) (hcell : w.cell? ⟨bp, 0, none⟩ = some (.string (Txt nm))) :
   Calls Tryz.prog 137 #[v, .func (.func 136) #[] #[.pointer (some ⟨bp, 0, none⟩)]] w fun e w' => e = .returned (.bool (anyN acc nm)) ∧ Below w.heap.size w w' := by
 obtain ⟨n, c, rfl, hc, ⟨h0, rfl⟩ | ⟨b, o, rfl, hb, hcell2⟩⟩ := hP
 ·have : acc = [] := List.eq_nil_of_length_eq_zero h0
  subst this
  refine (containsFunc_zero none c _ w).mono ?_
  rintro e w' ⟨rfl, rfl⟩
  exact ⟨rfl, Below.refl _ _⟩
 ·have eg : ∀ args w, (callFunc 136 args).run Tryz.prog w = .ok (.enter 136 args) w := enters_of Tryz.func136 (by kernel_rfl) rfl
  have hcon := AnyQ.slices_ContainsFunc Tryz.slCon 3 Tryz.isAgg109 Tryz.sizeOf109 pc1 (fun _ => rfl) (fun q => q.1 == nm) 136 #[.pointer (some ⟨bp, 0, none⟩)] eg b o acc.length c acc w
   (same_pred bp nm w hbp hcell) (Nat.le_refl _) (by omega) (by omega) (fun j hj i v hi => by
     have := pcl_at acc j _ (getD_some acc j hj) i v hi
     have := hcell2 _ _ this
     rwa [← Nat.add_assoc] at this)
  rw [List.take_of_length_le (Nat.le_refl _)] at hcon
  exact hcon
set_option maxRecDepth 100000 in
set_option maxHeartbeats 400000 in
theorem mayJoin_any (B : Nat) (v : Value) (acc : List Prm) (q : Prm) (w : World) (hP : PmIn B w v acc) (hB : B ≤ w.heap.size) (hl : acc.length ≤ 4194304) :
   Calls Tryz.prog 82 #[v, encP q] w fun e w' => e = .returned (.int .u8 (room acc q.1)) ∧ Below w.heap.size w w' := by
 obtain ⟨nm, vl, hs⟩ := q
 have hPA : PmIn B (w.alloc (.cells #[.string ⟨nm.toArray⟩, .string ⟨vl.toArray⟩, .bool hs] 109)) v acc := hP.kp ((Kp.refl [] w).alloc _) hB (by simp)
 have hcon := Lib.hid (containsFunc_any B v acc nm w.heap.size _ hPA (by simp; omega) hl (by simp) (by simp [Txt]))
 have hBl := Lib.hid ((Below.refl w.heap.size w).alloc (Nat.le_refl _) (.cells #[.string ⟨nm.toArray⟩, .string ⟨vl.toArray⟩, .bool hs] 109))
 obtain ⟨A, c, rfl⟩ := hP.form
 clear hPA hP
 unfold encP
 simp only [pc1]
 cases ha : anyN acc nm
 ·have HA := Lib.hid ha
  by_cases h16 : acc.length = 16
  ·have HR := Lib.hid (by unfold anyN at ha; unfold room; rw [if_neg (by rw [ha]; simp), if_pos h16] : room acc nm = 4)
   have t16 : ((acc.length : Int) == 16) = true := by rw [h16]; rfl
   clear ha h16
   go_enter Tryz.func82, Tryz.ntmps82
   go_wp2_with fail
   refine hcon.out.mono ?_
   rintro e w1 ⟨rfl, hB1⟩
   rw [HA.out]
   go_wp2_with fail
   go_ret
   exact ⟨ret_int (by rw [HR.out]), hBl.out.trans (hB1.mono (by simp))⟩
  ·have HR := Lib.hid (by unfold anyN at ha; unfold room; rw [if_neg (by rw [ha]; simp), if_neg h16] : room acc nm = 0)
   have t16 : ((acc.length : Int) == 16) = false := by rw [beq_eq_false_iff_ne]; omega
   clear ha h16
   go_enter Tryz.func82, Tryz.ntmps82
   go_wp2_with fail
   refine hcon.out.mono ?_
   rintro e w1 ⟨rfl, hB1⟩
   rw [HA.out]
   go_wp2_with fail
   go_ret
   exact ⟨ret_int (by rw [HR.out]), hBl.out.trans (hB1.mono (by simp))⟩
 ·have HA := Lib.hid ha
  have HR := Lib.hid (by unfold anyN at ha; unfold room; rw [if_pos ha] : room acc nm = 7)
  clear ha
  go_enter Tryz.func82, Tryz.ntmps82
  go_wp2_with fail
  refine hcon.out.mono ?_
  rintro e w1 ⟨rfl, hB1⟩
  rw [HA.out]
  go_wp2_with fail
  go_ret
  exact ⟨ret_int (by rw [HR.out]), hBl.out.trans (hB1.mono (by simp))⟩
theorem results_two {P : Program} {fn : Func} {p u : Tmp} {ty : TypeId} (h : fn.results = #[.cell p ty, .tmp u]) (tmps : Array Value) (w : World) (g : Nat) (t : TypeId) (cs : Array Value) (fr : Nat × Nat) (d : TypeDesc)
   (hp : tmps.getD p undef = .pointer (some ⟨g, 0, none⟩)) (hg : w.heap[g]? = some (.cells cs t fr))
   (hu : P.underlying ty = some d) (hd : (match d with | .struct _ | .array _ _ => true | _ => false) = true) (hi : (P.info? ty).map (·.size) = some cs.size) :
   (results fn tmps).run P w = .ok (.tuple #[.agg cs, tmps.getD u undef]) w := by
 rw [results_cell_tmp h, hp]
 simp [asAddr, run_loadVar_row w g t ty cs fr d hg hu hd hi, Result.andThen]
theorem infoPrm : (Tryz.prog.info? 109).map (·.size) = some 3 := by kernel_rfl
theorem blk3 {w : World} {g : Nat} {a b c : Value} (h : Blk w g 109 #[a, b, c]) (x y z : Value) :
   Blk (((w.setCell ⟨g, 0, none⟩ x).setCell ⟨g, 1, none⟩ y).setCell ⟨g, 2, none⟩ z) g 109 #[x, y, z] := ((h.set_ 0 x).set_ 1 y).set_ 2 z
theorem kp3 {X : List Nat} {a w : World} (h : Kp X a w) {g : Nat} (hg : a.heap.size ≤ g) (x y z : Value) :
   Kp X a (((w.setCell ⟨g, 0, none⟩ x).setCell ⟨g, 1, none⟩ y).setCell ⟨g, 2, none⟩ z) :=
 ((h.setCell (p := ⟨g, 0, none⟩) (.inr hg) x).setCell (p := ⟨g, 1, none⟩) (.inr hg) y).setCell (p := ⟨g, 2, none⟩) (.inr hg) z
theorem cur3 {b k : Nat} {s : ByteArray} {w : World} (h : Cur b s k w) {g : Nat} (hg : b ≠ g) (x y z : Value) :
   Cur b s k (((w.setCell ⟨g, 0, none⟩ x).setCell ⟨g, 1, none⟩ y).setCell ⟨g, 2, none⟩ z) :=
 ((Blk.far h (p := ⟨g, 0, none⟩) hg x).far (p := ⟨g, 1, none⟩) hg y).far (p := ⟨g, 2, none⟩) hg z
def CuQ (b : Nat) (s : ByteArray) (k' : Nat) (q : Prm) (x : Int) (w : World) (e : Ending) (w' : World) : Prop := e = .returned (.tuple #[encP q, .int .u8 x]) ∧ Cur b s k' w' ∧ Kp [b] w w'
theorem kp_alloc_to {X : List Nat} {w w' : World} {o : Obj} (h : Kp X (w.alloc o) w') : Kp X w w' := ((Kp.refl X w).alloc o).trans h
set_option maxRecDepth 100000 in
set_option maxHeartbeats 2000000 in
theorem param_k (b k : Nat) (s : ByteArray) (w : World) (hs : s.size ≤ 2097152) (hk : k ≤ s.size) (C : Cur b s k w) (E : Env w) (hb7 : 7 ≤ b) :
   Calls Tryz.prog 120 #[.pointer (some ⟨b, 0, none⟩)] w (CuQ b s (pmR s.data.toList k).2.1 (pmR s.data.toList k).1 (pmR s.data.toList k).2.2 w) := by
 have hbw := C.lt
 have hbne : b ≠ w.heap.size := by omega
 have CA := Lib.hid (C.alloc (.cells #[.string ⟨#[]⟩, .string ⟨#[]⟩, .bool false] 109))
 have KA := Lib.hid ((Kp.refl [b] w).alloc (.cells #[.string ⟨#[]⟩, .string ⟨#[]⟩, .bool false] 109))
 have BA := Lib.hid (Blk.new w 109 #[.string ⟨#[]⟩, .string ⟨#[]⟩, .bool false])
 have EA := Lib.hid (E.kp KA.out (by simp; omega))
 obtain ⟨n, hn⟩ : ∃ n, tokE s.data.toList k = n := ⟨_, rfl⟩
 obtain ⟨n1, n2⟩ := tokE_bd s k hk
 rw [hn] at n1 n2
 have HN := Lib.hid hn
 by_cases hz : n = k
 ·have HV := Lib.hid (by unfold pmR; rw [hn, if_pos hz] : pmR s.data.toList k = (([], [], false), k, 5))
  have hemp : Txt (slc s.data.toList k n) = ⟨#[]⟩ := by rw [slc_nil _ _ _ (by omega)]; rfl
  have HP := Lib.hid hemp;have HZ := Lib.hid hz;clear hn hz hemp E C
  go_enter Tryz.func120, Tryz.ntmps120
  go_wp2_with fail
  refine (token_k b k s _ hs hk CA.out).mono ?_
  rintro e w1 ⟨rfl, C1, hK1⟩
  rw [HN.out, HP.out]
  rw [HN.out] at C1
  have HC1 := Lib.hid C1
  have B1 := Lib.hid (BA.out.kp hK1 (by simp; omega))
  have d0 := B1.out.cell 0;have d1 := B1.out.cell 1;have d2 := B1.out.cell 2;have g0 := B1.out.frozen 0;have g1 := B1.out.frozen 1;have g2 := B1.out.frozen 2;clear C1
  go_wp2_with fail
  refine bodyPost_ret (results_two rfl _ _ w.heap.size 109 _ (0, 0) _ rfl (blk3 B1.out _ _ _) Tryz.underlying109 rfl infoPrm) rfl ?_
  rw [HV.out]
  exact ⟨rfl, by have := HC1.out; rw [HZ.out] at this; exact cur3 this hbne _ _ _, kp3 (kp_alloc_to hK1) (Nat.le_refl _) _ _ _⟩
 ·have hxl : 1 ≤ (Txt (slc s.data.toList k n)).size := by rw [txt_size, slc_len _ _ _ (by rw [len_list]; exact n2)]; omega
  have hxs : (Txt (slc s.data.toList k n)).size ≤ 2097152 := by rw [txt_size]; have := slc_le s.data.toList k n; omega
  have he := isEmpty_no _ hxl;have hne := toList_ne _ hxl
  obtain ⟨m, hm⟩ : ∃ m, blkE s.data.toList n = m := ⟨_, rfl⟩
  obtain ⟨m1, m2⟩ := blkE_bd s n n2
  rw [hm] at m1 m2
  have HM := Lib.hid hm
  obtain ⟨x, hx⟩ : ∃ x, slc s.data.toList k n = x := ⟨_, rfl⟩
  rw [hx] at hxl hxs he hne
  have HX := Lib.hid hx
  by_cases h61 : atB s.data.toList m = 61
  ·have t61 : (nxt s.data.toList m == 61) = true := by rw [nxt_eq _ _ _ (by decide) (by decide), h61]; rfl
   have hmlt : m < s.size := by have := atB_lt s.data.toList m (by rw [h61]; decide); rwa [len_list] at this
   obtain ⟨j, hj⟩ : ∃ j, blkE s.data.toList (m + 1) = j := ⟨_, rfl⟩
   obtain ⟨j1, j2⟩ := blkE_bd s (m + 1) hmlt
   rw [hj] at j1 j2
   have HJ := Lib.hid hj
   have HV := Lib.hid (by unfold pmR; rw [hn, if_neg hz, hm, if_pos h61, hj, hx] : pmR s.data.toList k = ((lowL x, (valR s.data.toList j).1, true), (valR s.data.toList j).2))
   have T61 := Lib.hid t61;clear hn hz E C hm hx h61 t61 hj
   go_enter Tryz.func120, Tryz.ntmps120
   go_wp2_with fail
   refine (token_k b k s _ hs hk CA.out).mono ?_
   rintro e w1 ⟨rfl, C1, hK1⟩
   rw [HN.out, HX.out]
   rw [HN.out] at C1
   go_wp2_with fail
   refine (blanks_k b n s _ hs n2 C1).mono ?_
   rintro e w2 ⟨rfl, C2, hK2⟩
   rw [HM.out] at C2
   clear C1
   go_wp2_with fail
   refine (take_yes b m 61 s _ hs hmlt C2 T61.out).mono ?_
   rintro e w3 ⟨rfl, C3, hK3⟩
   clear C2
   go_wp2_with fail
   refine (blanks_k b (m + 1) s _ hs hmlt C3).mono ?_
   rintro e w4 ⟨rfl, C4, hK4⟩
   rw [HJ.out] at C4
   clear C3;have K4 := Lib.hid (((hK1.trans hK2).trans hK3).trans hK4)
   have E4 := EA.out.kp K4.out (by simp; omega)
   go_wp2_with fail
   refine (value_k b j s _ hs j2 C4 E4 hb7).mono ?_
   rintro e w5 ⟨rfl, C5, hK5⟩
   have HC5 := Lib.hid C5;clear C4 C5
   go_wp2_with fail
   refine (lower_any (Txt x) _ (by omega)).mono ?_
   rintro e w6 ⟨rfl, hB6⟩
   have K6 := Lib.hid ((K4.out.trans hK5).below hB6);have HC6 := Lib.hid (HC5.out.below hB6)
   have B1 := Lib.hid (BA.out.kp K6.out (by simp; omega))
   have d0 := B1.out.cell 0;have d1 := B1.out.cell 1;have d2 := B1.out.cell 2;have g0 := B1.out.frozen 0;have g1 := B1.out.frozen 1;have g2 := B1.out.frozen 2
   go_wp2_with fail
   refine bodyPost_ret (results_two rfl _ _ w.heap.size 109 _ (0, 0) _ rfl (blk3 B1.out _ _ _) Tryz.underlying109 rfl infoPrm) rfl ?_
   rw [HV.out]
   exact ⟨rfl, cur3 HC6.out hbne _ _ _, kp3 (kp_alloc_to K6.out) (Nat.le_refl _) _ _ _⟩
  ·have t61 : (nxt s.data.toList m == 61) = false := by rw [nxt_eq _ _ _ (by decide) (by decide)]; exact beq_eq_false_iff_ne.2 h61
   have HV := Lib.hid (by unfold pmR; rw [hn, if_neg hz, hm, if_neg h61, hx] : pmR s.data.toList k = ((lowL x, [], false), m, 0))
   have T61 := Lib.hid t61;clear hn hz E C hm hx h61 t61
   go_enter Tryz.func120, Tryz.ntmps120
   go_wp2_with fail
   refine (token_k b k s _ hs hk CA.out).mono ?_
   rintro e w1 ⟨rfl, C1, hK1⟩
   rw [HN.out, HX.out]
   rw [HN.out] at C1
   go_wp2_with fail
   refine (blanks_k b n s _ hs n2 C1).mono ?_
   rintro e w2 ⟨rfl, C2, hK2⟩
   rw [HM.out] at C2
   clear C1
   go_wp2_with fail
   refine (take_no b m 61 s _ hs m2 C2 T61.out).mono ?_
   rintro e w3 ⟨rfl, C3, hK3⟩
   have HC3 := Lib.hid C3;clear C2 C3
   go_wp2_with fail
   refine (lower_any (Txt x) _ (by omega)).mono ?_
   rintro e w6 ⟨rfl, hB6⟩
   have K6 := Lib.hid (((hK1.trans hK2).trans hK3).below hB6);have HC6 := Lib.hid (HC3.out.below hB6)
   have B1 := Lib.hid (BA.out.kp K6.out (by simp; omega))
   have d0 := B1.out.cell 0;have d1 := B1.out.cell 1;have d2 := B1.out.cell 2;have g0 := B1.out.frozen 0;have g1 := B1.out.frozen 1;have g2 := B1.out.frozen 2
   go_wp2_with fail
   refine bodyPost_ret (results_two rfl _ _ w.heap.size 109 _ (0, 0) _ rfl (blk3 B1.out _ _ _) Tryz.underlying109 rfl infoPrm) rfl ?_
   rw [HV.out]
   exact ⟨rfl, cur3 HC6.out hbne _ _ _, kp3 (kp_alloc_to K6.out) (Nat.le_refl _) _ _ _⟩
end Ad
end Go.Proofs.YtbcaindpbeaheaaGreatDoor
