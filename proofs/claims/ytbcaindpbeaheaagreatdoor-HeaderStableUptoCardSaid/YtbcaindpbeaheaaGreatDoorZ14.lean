/- Texts of one set of library modules: AdJ, AdK. -/
import Derived.Test.YtbcaindpbeaheaaGreatDoorZ13
import Derived.Deep.LoopGhost
namespace Go.Proofs.YtbcaindpbeaheaaGreatDoor
namespace Ad
open Go.RowKit Lx
theorem infoPrm3 : (Tryz.prog.info? 109).map (fun i => (i.zero, i.size, i.bytes)) = some (some (.agg #[.string .empty, .string .empty, .bool false]), 3, 40) := by kernel_rfl
theorem own_kp {w w' : World} {B : Nat} {e : TypeId} {size : Nat} {v : Value} {n : Nat} {xs : List Value} {X : List Nat} (h : w.ownsRow B e size v n xs) (k : Kp X w w') (hX : ∀ x ∈ X, x < B) : w'.ownsRow B e size v n xs := by
 refine ⟨h.1, ?_⟩
 rcases h.2 with h0 | ⟨g, cap, cur, hv, hB, hg, rest⟩
 ·exact .inl h0
 ·exact .inr ⟨g, cap, cur, hv, hB, (k.block g (lt_of_some hg) (fun hm => by have := hX g hm; omega)).trans hg, rest⟩
theorem own_pm {w : World} {B : Nat} {v : Value} {acc : List Prm} (h : w.ownsRow B 109 3 v acc.length (pcl acc)) : PmIn w.heap.size w v acc := PmIn.of_own h
theorem cell_three_new (w : World) (a b c : Value) (t : TypeId) : ∀ (j : Nat) (u : Value), [a, b, c][j]? = some u → (w.alloc (.cells #[a, b, c] t)).cell? ((⟨w.heap.size, 0, none⟩ : Addr).add j) = some u := by
 intro j u hu
 have hg := World.alloc_heap_new w (.cells #[a, b, c] t)
 match j, hu with
 | 0, hu => simp at hu; subst hu; simp [Addr.add, Lib.cell_of_heap hg 0]
 | 1, hu => simp at hu; subst hu; simp [Addr.add, Lib.cell_of_heap hg 1]
 | 2, hu => simp at hu; subst hu; simp [Addr.add, Lib.cell_of_heap hg 2]
 | j + 3, hu => simp at hu
theorem val_ok (s : ByteArray) (j : Nat) (hj : j ≤ s.size) (h : (valR s.data.toList j).2.2 = 0) : j ≤ (valR s.data.toList j).2.1 ∧ (valR s.data.toList j).2.1 ≤ s.size := by
 unfold valR at h ⊢
 split
 ·rename_i h34
  rw [if_pos h34] at h
  dsimp only at h ⊢
  have hu := uq34 _ _ h34
  have hjl := atB_lt s.data.toList j (by rw [h34]; decide)
  rw [len_list] at hjl
  rw [hu.2] at h
  rw [hu.1, Int.toNat_natCast]
  have := qEnd_part _ (s.data.toList.drop (j + 1)) (j + 1) (uqR s.data.toList j).1 (Nat.le_refl _) (Prod.ext (by unfold uqR; rw [Int.toNat_natCast]) (by unfold uqR at h; rw [Int.toNat_natCast] at h; exact h))
  rw [List.length_drop, len_list] at this
  omega
 ·rename_i h34
  rw [if_neg h34] at h
  split
  ·rename_i h91
   rw [if_pos h91] at h
   have hjl := atB_lt s.data.toList j (by rw [h91]; decide)
   have := endP_ge (· == 93) s.data.toList j
   cases ho : hostO (slc s.data.toList j (min (endP (· == 93) s.data.toList j + 1) s.data.toList.length)) with
   | none => rw [ho] at h; simp at h
   | some x => rw [len_list] at hjl ⊢; dsimp only; omega
  ·rename_i h91
   rw [if_neg h91] at h
   split
   ·rename_i hz; rw [if_pos hz] at h; simp at h
   ·exact tokE_bd s j hj
theorem pm_ok (s : ByteArray) (k : Nat) (hk : k ≤ s.size) (h : (pmR s.data.toList k).2.2 = 0) : k ≤ (pmR s.data.toList k).2.1 ∧ (pmR s.data.toList k).2.1 ≤ s.size := by
 have t := tokE_bd s k hk;have bl := blkE_bd s _ t.2
 unfold pmR at h ⊢
 split
 ·rename_i hz; rw [if_pos hz] at h; simp at h
 ·rename_i hz; rw [if_neg hz] at h
  split
  ·rename_i h61
   rw [if_pos h61] at h
   have hm := atB_lt s.data.toList _ (by rw [h61]; decide : atB s.data.toList (blkE s.data.toList (tokE s.data.toList k)) ≠ -1)
   rw [len_list] at hm
   have bj := blkE_bd s (blkE s.data.toList (tokE s.data.toList k) + 1) hm
   have := val_ok s _ bj.2 h
   dsimp only; omega
  ·dsimp only; omega
theorem encP_eq (q1 q2 : List UInt8) (q3 : Bool) : encP (q1, q2, q3) = .agg #[.string ⟨q1.toArray⟩, .string ⟨q2.toArray⟩, .bool q3] := rfl
def LiP (b : Nat) (s : ByteArray) (r : List Prm × Nat × Int) (w : World) (e : Ending) (w' : World) : Prop :=
 ∃ v k', e = .returned (.tuple #[v, .int .u8 r.2.2]) ∧ PmIn w'.heap.size w' v r.1 ∧ Cur b s k' w' ∧ (r.2.2 ≠ 0 → k' = r.2.1) ∧ Kp [b] w w' ∧ r.1.length ≤ 16
theorem parF_err1 (n : Nat) (l : List UInt8) (k : Nat) (acc : List Prm) (h1 : k < l.length) (h2 : atB l k ≠ 59) : parF (n + 1) l k acc = ([], k, 5) := by rw [parF, if_neg (by omega), if_pos h2]
theorem parF_err2 (n : Nat) (l : List UInt8) (k : Nat) (acc : List Prm) (h1 : k < l.length) (h2 : atB l k = 59) (h3 : (pmR l (blkE l (k + 1))).2.2 ≠ 0) : parF (n + 1) l k acc = ([], (pmR l (blkE l (k + 1))).2) := by rw [parF, if_neg (by omega), if_neg (by rw [h2]; simp), if_pos h3]
theorem parF_err3 (n : Nat) (l : List UInt8) (k : Nat) (acc : List Prm) (h1 : k < l.length) (h2 : atB l k = 59) (h3 : (pmR l (blkE l (k + 1))).2.2 = 0) (h4 : room acc (pmR l (blkE l (k + 1))).1.1 ≠ 0) : parF (n + 1) l k acc = ([], blkE l (k + 1), room acc (pmR l (blkE l (k + 1))).1.1) := by
 rw [parF, if_neg (by omega), if_neg (by rw [h2]; simp), if_neg (by rw [h3]; simp), if_pos h4]
theorem parF_step (n : Nat) (l : List UInt8) (k : Nat) (acc : List Prm) (h1 : k < l.length) (h2 : atB l k = 59) (h3 : (pmR l (blkE l (k + 1))).2.2 = 0) (h4 : room acc (pmR l (blkE l (k + 1))).1.1 = 0) :
   parF (n + 1) l k acc = parF n l (blkE l (pmR l (blkE l (k + 1))).2.1) (acc ++ [(pmR l (blkE l (k + 1))).1]) := by
 rw [parF, if_neg (by omega), if_neg (by rw [h2]; simp), if_neg (by rw [h3]; simp), if_neg (by rw [h4]; simp)]
theorem parF_end (n : Nat) (l : List UInt8) (k : Nat) (acc : List Prm) (h1 : l.length ≤ k) : parF (n + 1) l k acc = (acc, 0, 0) := by rw [parF, if_pos h1]
set_option maxRecDepth 100000 in
set_option maxHeartbeats 4000000 in
theorem list_k (b k : Nat) (s : ByteArray) (w : World) (hs : s.size ≤ 2097152) (hk : k ≤ s.size) (C : Cur b s k w) (E : Env w) (hb7 : 7 ≤ b) :
   Calls Tryz.prog 71 #[.pointer (some ⟨b, 0, none⟩)] w (LiP b s (parF (s.data.toList.length + 1) s.data.toList (blkE s.data.toList k) []) w) := by
 have hbw := C.lt;have HE := Lib.hid E
 obtain ⟨R, hR⟩ : ∃ R, parF (s.data.toList.length + 1) s.data.toList (blkE s.data.toList k) [] = R := ⟨_, rfl⟩
 have HR := Lib.hid hR
 rw [hR]
 obtain ⟨a, ha⟩ : ∃ a, blkE s.data.toList k = a := ⟨_, rfl⟩
 obtain ⟨a1, a2⟩ := blkE_bd s k hk
 rw [ha] at a1 a2
 have HA := Lib.hid ha
 obtain ⟨i0, hi, hz0, hz1, hz2⟩ := info_parts infoPrm3
 clear hR ha E
 go_enter Tryz.func71, Tryz.ntmps71
 go_wp2_with fail
 refine (blanks_k b k s _ hs hk C).mono ?_
 rintro e w1 ⟨rfl, C1, hK1⟩
 rw [HA.out] at C1
 have HC1 := Lib.hid C1;clear C C1
 go_wp2_with fail
 go_loopg [4, 5, 6, 7, 8] (s.size + 1) (fun gg v _ _ _ _ wr => ∃ (j n : Nat) (acc : List Prm), j ≤ s.size ∧ s.size - j < n ∧ s.size - j < gg ∧ Cur b s j wr ∧ parF n s.data.toList j acc = R ∧ wr.ownsRow w.heap.size 109 3 v acc.length (pcl acc) ∧ acc.length ≤ 16 ∧ Kp [b] w wr)
 case atStart => exact ⟨a, s.data.toList.length + 1, [], a2, by rw [len_list]; omega, by omega, HC1.out, by rw [← HA.out]; exact HR.out, World.ownsRow_nil _ _ _ _, by simp, hK1⟩
 case round =>
  obtain ⟨j, n, acc, hj, hn, hg, hC, hr, hown, hl, hK⟩ := hrel
  have HC := Lib.hid hC;have Hr := Lib.hid hr;have Ho := Lib.hid hown;have hsz := hK.size;have c0 := hC.c0;have c1 := hC.c1;clear hC hr hown
  by_cases hlt : j < s.size
  ·obtain ⟨n, rfl⟩ : ∃ m, n = m + 1 := ⟨n - 1, by omega⟩
   have hlt' : j < s.data.toList.length := by rw [len_list]; exact hlt
   go_wp2_with fail
   go_quiet (fail)
   obtain ⟨w2, hw2⟩ : ∃ w2, wr.drewN nq = w2 := ⟨_, rfl⟩
   rw [hw2]
   have C2 : Cur b s j w2 := by rw [← hw2]; exact HC.out
   have K2 : Kp [b] w w2 := by rw [← hw2]; exact hK.drewN _
   have ho2 := own_kp Ho.out ((Kp.refl [] wr).drewN nq) (by simp)
   rw [hw2] at ho2
   have Ho2 := Lib.hid ho2;clear ho2;have hsz2 := K2.size;clear hw2 c0 c1 hK HC
   by_cases h59 : atB s.data.toList j = 59
   ·have t59 : (nxt s.data.toList j == 59) = true := by rw [nxt_eq _ _ _ (by decide) (by decide), h59]; rfl
    have T59 := Lib.hid t59
    obtain ⟨f, hf⟩ : ∃ f, blkE s.data.toList (j + 1) = f := ⟨_, rfl⟩
    obtain ⟨f1, f2⟩ := blkE_bd s (j + 1) hlt
    rw [hf] at f1 f2
    have HF := Lib.hid hf
    obtain ⟨q1, q2, q3, hq⟩ : ∃ q1 q2 q3, (pmR s.data.toList f).1 = (q1, q2, q3) := ⟨_, _, _, rfl⟩
    obtain ⟨m, hm⟩ : ∃ m, (pmR s.data.toList f).2.1 = m := ⟨_, rfl⟩
    obtain ⟨x, hx⟩ : ∃ x, (pmR s.data.toList f).2.2 = x := ⟨_, rfl⟩
    have HQ := Lib.hid hq;have HM := Lib.hid hm;have HX := Lib.hid hx
    go_wp2_with fail
    refine (take_yes b j 59 s _ hs hlt C2 T59.out).mono ?_
    rintro e w3 ⟨rfl, C3, hK3⟩
    clear C2
    go_wp2_with fail
    refine (blanks_k b (j + 1) s _ hs hlt C3).mono ?_
    rintro e w4 ⟨rfl, C4, hK4⟩
    rw [HF.out] at C4
    have K4 := (K2.trans hK3).trans hK4
    have E4 := HE.out.kp K4 (by simp; omega)
    have c1 := C4.c1
    have Ho4 := Lib.hid (own_kp (own_kp Ho2.out hK3 (by simp; omega)) hK4 (by simp; omega))
    have HC4 := Lib.hid C4;clear C3 C4
    go_wp2_with fail
    refine (param_k b f s _ hs f2 HC4.out E4 hb7).mono ?_
    rintro e w5 ⟨rfl, C5, hK5⟩
    rw [HQ.out, HX.out, encP_eq]
    rw [HM.out] at C5
    have K5 := K4.trans hK5
    have Ho5 := Lib.hid (own_kp Ho4.out hK5 (by simp; omega))
    have HC5 := Lib.hid C5;have hsz5 := K5.size;clear C5;have hsz5' := hK5.size
    have KA := Lib.hid (K5.alloc (.cells #[.string ⟨q1.toArray⟩, .string ⟨q2.toArray⟩, .bool q3] 109))
    have CA := Lib.hid (HC5.out.alloc (.cells #[.string ⟨q1.toArray⟩, .string ⟨q2.toArray⟩, .bool q3] 109))
    have OA := Lib.hid (own_kp Ho5.out ((Kp.refl [] w5).alloc (.cells #[.string ⟨q1.toArray⟩, .string ⟨q2.toArray⟩, .bool q3] 109)) (by simp))
    by_cases hx0 : x = 0
    ·have bx : (x != 0) = false := by rw [hx0]; rfl
     have hpo := pm_ok s f f2 (by rw [hx]; exact hx0)
     rw [hm] at hpo
     by_cases hr0 : room acc q1 = 0
     ·have hl16 : acc.length ≤ 15 := by have := ((room_iff acc q1).1 hr0).2; omega
      obtain ⟨k2, hk2⟩ : ∃ k2, blkE s.data.toList m = k2 := ⟨_, rfl⟩
      obtain ⟨k21, k22⟩ := blkE_bd s m hpo.2
      rw [hk2] at k21 k22
      have HK2 := Lib.hid hk2
      have HX2 := Lib.hid (Hr.out.symm.trans ((parF_step n s.data.toList j acc hlt' h59 (by rw [hf, hx]; exact hx0) (by rw [hf, hq]; exact hr0)).trans (by rw [hf, hq, hm, hk2])))
      have HR0 := Lib.hid hr0
      have hmf : f ≤ m := hpo.1
      clear h59 t59 hf hq hm hx hx0 hr0 hk2 hpo
      go_wp2_with fail
      refine (mayJoin_any _ _ acc (q1, q2, q3) _ (own_pm OA.out) (Nat.le_refl _) (by omega)).mono ?_
      rintro e w6 ⟨rfl, hB6⟩
      rw [HR0.out]
      have K6 := KA.out.below hB6
      have O6 := Lib.hid (own_kp OA.out ((Kp.refl [] _).below hB6) (by simp))
      have C6 := Lib.hid (CA.out.below hB6);have hsz6 := K6.size;have hs6 := hB6.size
      have B6 := Lib.hid ((Blk.new w5 109 #[.string ⟨q1.toArray⟩, .string ⟨q2.toArray⟩, .bool q3]).below hB6 (by simp))
      have d0 := B6.out.cell 0;have d1 := B6.out.cell 1;have d2 := B6.out.cell 2
      go_wp2_with (at_builtin; refine wpList_append_own _ rfl _ _ 36 rfl w.heap.size 109 i0 (.agg #[.string .empty, .string .empty, .bool false]) 3 40 Tryz.underlying36 hi hz0 hz1 hz2 rfl (by decide) _ _ _ rfl (O6.out.alloc _) ⟨w6.heap.size, 0, none⟩ 1 1 [.string ⟨q1.toArray⟩, .string ⟨q2.toArray⟩, .bool q3] rfl rfl (cell_three_new _ _ _ _ _) (by simp [Value.oneCell']) ?c3 ?c4 ?c5 ?_)
      case c3 => unfold maxLen; omega
      case c4 => omega
      case c5 => simp; omega
      intro v' w7 hown' hgrow _
      have K7 := Lib.hid ((K6.alloc (.cells #[.string ⟨q1.toArray⟩, .string ⟨q2.toArray⟩, .bool q3] 109)).grown hgrow (fun g hg => .inr (O6.out.lt g hg).1))
      have hC7 : Cur b s m w7 := by
       have h1 := C6.out.alloc (.cells #[.string ⟨q1.toArray⟩, .string ⟨q2.toArray⟩, .bool q3] 109)
       exact (hgrow.block b h1.lt (fun e => by have := (O6.out.lt b e.symm).1; omega)).trans h1
      have HO7 := Lib.hid (by simpa [pcl, pc1] using hown' : w7.ownsRow w.heap.size 109 3 v' (acc ++ [(q1, q2, q3)]).length (pcl (acc ++ [(q1, q2, q3)])))
      clear hown' hgrow d0 d1 d2
      go_wp2_with fail
      refine (blanks_k b m s _ hs (by omega) hC7).mono ?_
      rintro e w8 ⟨rfl, C8, hK8⟩
      rw [HK2.out] at C8
      have HC8 := Lib.hid C8
      have HO8 := Lib.hid (own_kp HO7.out hK8 (by simp; omega))
      have K8 := Lib.hid (K7.out.trans hK8);clear C8 hC7
      go_wp2_with fail
      go_roundg (s.size - k2 + 1)
      case measure => omega
      case rel => exact ⟨k2, n, acc ++ [(q1, q2, q3)], k22, by omega, by omega, HC8.out, HX2.out.symm, HO8.out, by simp; omega, K8.out⟩
     ·have br : (room acc q1 != 0) = true := by rw [bne_iff_ne]; exact hr0
      have HX2 := Lib.hid (Hr.out.symm.trans ((parF_err3 n s.data.toList j acc hlt' h59 (by rw [hf, hx]; exact hx0) (by rw [hf, hq]; exact hr0)).trans (by rw [hf, hq])))
      have HBr := Lib.hid br;clear h59 t59 hf hq hm hx hx0 hr0 br hpo
      go_wp2_with fail
      refine (mayJoin_any _ _ acc (q1, q2, q3) _ (own_pm OA.out) (Nat.le_refl _) (by omega)).mono ?_
      rintro e w6 ⟨rfl, hB6⟩
      have br := HBr.out;have K6 := Lib.hid (KA.out.below hB6);have C6 := Lib.hid (CA.out.below hB6)
      go_wp2_with fail
      refine (fail_k b m f _ s _ C6.out).mono ?_
      rintro e w7 ⟨rfl, C7, hK7⟩
      have HC7 := Lib.hid C7;clear C7
      go_wp2_with fail
      go_ret2
      exact ⟨_, f, by rw [HX2.out]; rfl, by rw [HX2.out]; exact PmIn.nil _ _, HC7.out, fun _ => by rw [HX2.out], K6.out.trans hK7, by rw [HX2.out]; simp⟩
    ·have bx : (x != 0) = true := by rw [bne_iff_ne]; exact hx0
     have HX2 := Lib.hid (Hr.out.symm.trans ((parF_err2 n s.data.toList j acc hlt' h59 (by rw [hf, hx]; exact hx0)).trans (by rw [hf]; exact congrArg (Prod.mk []) (Prod.ext hm hx) : _ = (([], m, x) : List Prm × Nat × Int))))
     clear h59 t59 hf hq hm hx hx0
     go_wp2_with fail
     go_ret2
     exact ⟨_, m, by rw [HX2.out]; rfl, by rw [HX2.out]; exact PmIn.nil _ _, CA.out, fun _ => by rw [HX2.out], KA.out, by rw [HX2.out]; simp⟩
   ·have t59 : (nxt s.data.toList j == 59) = false := by rw [nxt_eq _ _ _ (by decide) (by decide)]; exact beq_eq_false_iff_ne.2 h59
    have T59 := Lib.hid t59;have HX := Lib.hid (Hr.out.symm.trans (parF_err1 n s.data.toList j acc hlt' h59));clear h59 t59
    go_wp2_with fail
    refine (take_no b j 59 s _ hs (by omega) C2 T59.out).mono ?_
    rintro e w3 ⟨rfl, C3, hK3⟩
    have HC3 := Lib.hid C3;clear C2 C3
    go_wp2_with fail
    go_ret2
    exact ⟨_, j, by rw [HX.out]; rfl, by rw [HX.out]; exact PmIn.nil _ _, HC3.out, fun _ => by rw [HX.out], K2.trans hK3, by rw [HX.out]; simp⟩
  ·obtain ⟨n, rfl⟩ : ∃ m, n = m + 1 := ⟨n - 1, by omega⟩
   have HX := Lib.hid (Hr.out.symm.trans (parF_end n s.data.toList j acc (by rw [len_list]; omega)))
   go_wp2_with fail
   go_quiet (fail)
   go_wp2_with fail
   go_ret2
   exact ⟨_, j, by rw [HX.out]; rfl, by rw [HX.out]; exact PmIn.drewN (PmIn.of_own Ho.out) _, HC.out, fun h => absurd (by rw [HX.out]) h, hK.drewN _, by rw [HX.out]; exact hl⟩
end Ad
end Go.Proofs.YtbcaindpbeaheaaGreatDoor
namespace Go.Proofs.YtbcaindpbeaheaaGreatDoor
namespace Ad
open Go.RowKit Lx
theorem parF_facts (l : List UInt8) : ∀ (n k : Nat) (acc : List Prm), ((parF n l k acc).2.2 ≠ 0 → (parF n l k acc).1 = []) ∧ ((parF n l k acc).2.2 = 0 → (parF n l k acc).2.1 = 0) := by
 intro n
 induction n with
 | zero => intro k acc; exact ⟨fun h => absurd rfl h, fun _ => rfl⟩
 | succ n ih =>
   intro k acc
   rw [parF]
   split
   ·exact ⟨fun h => absurd rfl h, fun _ => rfl⟩
   ·split
    ·exact ⟨fun _ => rfl, fun h => by simp at h⟩
    ·split
     ·rename_i h; exact ⟨fun _ => rfl, fun h2 => absurd h2 h⟩
     ·split
      ·rename_i h; exact ⟨fun _ => rfl, fun h2 => absurd h2 h⟩
      ·exact ih _ _
def PaP (r : List Prm × Nat × Int) (w : World) (e : Ending) (w' : World) : Prop :=
 ∃ v, e = .returned (.tuple #[v, .int .i64 r.2.1, .int .u8 r.2.2]) ∧ PmIn w'.heap.size w' v r.1 ∧ Below w.heap.size w w' ∧ r.1.length ≤ 16
theorem curNew (w : World) (s : ByteArray) : Cur w.heap.size s 0 (w.alloc (.cells #[.string s, .int .i64 0] 158)) := Blk.new w _ _
set_option maxRecDepth 100000 in
set_option maxHeartbeats 1000000 in
theorem readL_any (s : ByteArray) (w : World) (hs : s.size ≤ 2097152) (E : Env w) :
   Calls Tryz.prog 70 #[.string s, .func (.func 71) #[] #[]] w (PaP (parR s.data.toList) w) := by
 have ent : ∀ (args : Array Value) (w : World), Sem.run Tryz.prog (callFunc 71 args) w = .ok (.enter 71 args) w := enters_of Tryz.func71 (by kernel_rfl) rfl
 have Ent := Lib.hid ent;have CA := Lib.hid (curNew w s)
 have KA := Lib.hid ((Kp.refl [] w).alloc (.cells #[.string s, .int .i64 0] 158))
 have EA := Lib.hid (E.kp KA.out (by simp))
 have hb7 := E.sz
 have hF := parF_facts s.data.toList (s.data.toList.length + 1) (blkE s.data.toList 0) []
 obtain ⟨r1, r2, r3, hr⟩ : ∃ r1 r2 r3, parF (s.data.toList.length + 1) s.data.toList (blkE s.data.toList 0) [] = (r1, r2, r3) := ⟨_, _, _, rfl⟩
 rw [hr] at hF
 have HR := Lib.hid hr
 have HP := Lib.hid (by unfold parR; exact hr : parR s.data.toList = (r1, r2, r3))
 have HF := Lib.hid hF
 rw [HP.out]
 clear hr ent hF E
 go_enter Tryz.func70, Tryz.ntmps70
 go_wp2_with fail
 refine (list_k w.heap.size 0 s _ hs (Nat.zero_le _) CA.out EA.out hb7).mono ?_
 rintro e w1 ⟨v, k', rfl, hP, hC, hk, hK, hl⟩
 rw [HR.out] at hP hk hl ⊢
 dsimp only at hP hk hl ⊢
 have HB := Lib.hid ((KA.out.trans (Kp.refl _ _)).to_ hK (by intro y hy; simp at hy; right; omega))
 have HPm := Lib.hid hP;have c1 := hC.c1;have Hk := Lib.hid hk;have HC := Lib.hid hC;have hl' := hl;clear hP hk hC
 by_cases h3 : r3 = 0
 ·have b3 : (r3 != 0) = false := by rw [h3]; rfl
  have H2 := Lib.hid (HF.out.2 h3);have H3 := Lib.hid h3;clear h3
  go_wp2_with fail
  go_ret3
  refine ⟨v, ?_, HPm.out, HB.out.nilBelow, hl'⟩
  dsimp only
  rw [show r2 = 0 from H2.out, H3.out]; rfl
 ·have b3 : (r3 != 0) = true := by rw [bne_iff_ne]; exact h3
  have H1 := Lib.hid (HF.out.1 h3);have HK := Lib.hid (Hk.out h3);clear h3
  go_wp2_with fail
  go_quiet (fail)
  go_wp2_with fail
  go_ret3
  refine ⟨.slice none 0 0, ?_, ?_, (HB.out.drewN _).nilBelow, hl'⟩
  ·dsimp only; rw [← HK.out]; rfl
  ·dsimp only; rw [show r1 = [] from H1.out]; exact PmIn.nil _ _
set_option maxRecDepth 100000 in
theorem Params_any (s : ByteArray) (w : World) (hs : s.size ≤ 2097152) (E : Env w) :
   Calls Tryz.prog 37 #[.string s] w (PaP (parR s.data.toList) w) := by
 obtain ⟨r1, r2, r3, hr⟩ : ∃ r1 r2 r3, parR s.data.toList = (r1, r2, r3) := ⟨_, _, _, rfl⟩
 have HR := Lib.hid (readL_any s w hs E)
 rw [hr] at HR ⊢
 go_enter Tryz.func37, Tryz.ntmps37
 go_wp2_with fail
 refine HR.out.mono ?_
 rintro e w1 ⟨v, rfl, hP, hB, hl⟩
 dsimp only at hP hl
 have HPm := Lib.hid hP;have hl' := hl;clear hP
 go_wp2_with fail
 go_ret3
 exact ⟨v, rfl, HPm.out, hB, hl'⟩
end Ad
end Go.Proofs.YtbcaindpbeaheaaGreatDoor
