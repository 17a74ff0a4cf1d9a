/- Contract of the reference's groups (dialtoneref02). -/
import Derived.Test.YtonbkedjlbhpfaaGreatDoorAdRh
import Derived.Deep.AppendLies
namespace Go.Proofs.YtonbkedjlbhpfaaGreatDoor
namespace Ad
open Go.RowKit Lx

/-- A row of the call's own: where it lies, and its texts. -/
theorem own_txs {w : World} {B : Nat} {v : Value} {xs : List (List UInt8)} (h : w.ownsRow B 9 1 v xs.length (tkc xs)) (hn : 0 < xs.length) :
    ∃ g cap, v = .slice (some ⟨g, 0, none⟩) xs.length cap ∧ xs.length ≤ cap ∧ g < w.heap.size ∧ Txs w g xs := by
  rcases h.2 with ⟨_, h0⟩ | ⟨g, cap, cur, hv, hb, hg, hnc, hcm, hsz, htk⟩
  · omega
  · refine ⟨g, cap, hv, hnc, ?_, ?_⟩
    · rcases Nat.lt_or_ge g w.heap.size with hlt | hge
      · exact hlt
      · rw [Array.getElem?_eq_none hge] at hg; cases hg
    · intro j x hx
      have hj : j < xs.length := (List.getElem?_eq_some_iff.1 hx).1
      rw [cell_of_row w g j cur _ _ hg]
      have h2 : (List.take (xs.length * 1) cur.toList)[j]? = (tkc xs)[j]? := by rw [htk]
      rw [List.getElem?_take_of_lt (by omega)] at h2
      rw [← Array.getElem?_toList, h2]
      unfold tkc
      rw [List.getElem?_map, hx]
      rfl
theorem Txs.below {w w' : World} {g : Nat} {xs : List (List UInt8)} (h : Txs w g xs) (hg : g < w.heap.size) (hB : Below w.heap.size w w') : Txs w' g xs := fun j x hx => (hB.cell (p := ⟨g, j, none⟩) hg).trans (h j x hx)
theorem jn_snoc (c : UInt8) : ∀ (xs : List (List UInt8)) (g : List UInt8), joinL c (xs ++ [g]) = if xs = [] then g else joinL c xs ++ c :: g
  | [], g => rfl
  | [a], g => rfl
  | a :: b :: r, g => by
    have ih := jn_snoc c (b :: r) g
    rw [if_neg (by simp)] at ih ⊢
    have e : (a :: b :: r) ++ [g] = a :: (b :: r ++ [g]) := rfl
    rw [e]
    have e2 : b :: r ++ [g] = b :: (r ++ [g]) := rfl
    rw [e2] at ih ⊢
    rw [joinL, ih, joinL]
    simp
theorem grpN_len (l : List UInt8) (h : grpB l = true) : (grpN l).length ≤ 4 := by
  unfold grpB at h
  simp only [Bool.and_eq_true, decide_eq_true_eq] at h
  unfold grpN; rw [lowL_len]; have := stripZ_len l; omega
/-- What a call of groups answers. -/
def GsP (l : List UInt8) (w : World) (e : Ending) (w' : World) : Prop :=
  e = .returned (.tuple #[.string (Txt (joinL 58 ((grps l).getD []))), .int .i64 ((grps l).getD []).length, .bool (grps l).isSome]) ∧ Below w.heap.size w w'
theorem GsP.no {l : List UInt8} {w w' : World} (h : grps l = none) (hB : Below w.heap.size w w') : GsP l w (.returned (.tuple #[.string ⟨#[]⟩, .int .i64 0, .bool false])) w' := by
  unfold GsP; rw [h]; exact ⟨rfl, hB⟩
theorem GsP.yes {l : List UInt8} {x : List (List UInt8)} {a : ByteArray} {n : Int} {w w' : World} (h : grps l = some x) (ha : a = Txt (joinL 58 x)) (hn : n = x.length) (hB : Below w.heap.size w w') : GsP l w (.returned (.tuple #[.string a, .int .i64 n, .bool true])) w' := by
  unfold GsP; rw [h, ha, hn]; exact ⟨rfl, hB⟩
theorem take_at {α : Type} (xs : List α) (k : Nat) (x : α) (h : xs[k]? = some x) : xs.take (k + 1) = xs.take k ++ [x] := by
  rw [List.take_add_one, h]; rfl
set_option maxRecDepth 100000 in
set_option maxHeartbeats 2000000 in
theorem rgroups_any (s : ByteArray) (w : World) (hs : s.size ≤ 2097152) :
    Calls Tryz.prog 261 #[.string s] w (GsP s.data.toList w) := by
  by_cases h1 : 1 ≤ s.size
  · have he := isEmpty_no s h1
    have hn := toList_ne s h1
    have hne : s.data.toList ≠ [] := by intro h; have := len_list s; rw [h] at this; simp at this; omega
    obtain ⟨ps, hps⟩ : ∃ ps, pcs 58 s.data.toList = ps := ⟨_, rfl⟩
    have hpl : ps.length ≤ s.size + 1 := by rw [← hps, ← len_list]; exact pcs_len 58 _
    have hpp : 1 ≤ ps.length := by rw [← hps]; exact pcs_pos 58 _
    have hsm : ∀ x ∈ ps, x.length ≤ s.size := fun x hx => by have := pcs_small 58 _ x (hps ▸ hx); rwa [len_list] at this
    have HP := Lib.hid hps
    have Hsm := Lib.hid hsm
    have HGo := Lib.hid (by unfold grps; rw [if_neg hne, hps] : grps s.data.toList = if ps.all grpB then some (ps.map grpN) else none)
    clear hne hps hsm
    go_enter Tryz.func261, Tryz.ntmps261
    go_wp2_with fail
    refine (rpieces_any s 58 w hs).mono ?_
    rintro e w1 ⟨v, rfl, hown, hB1⟩
    rw [HP.out] at hown
    obtain ⟨g, cap, rfl, hcap, hgl, htx⟩ := own_txs hown hpp
    have HT := Lib.hid htx
    have hs1 := hB1.size
    clear hown htx
    go_wp2_with fail
    go_loopw [6, 7, 8, 9] (fun o i _ _ wr => ∃ (k : Nat) (q : List UInt8), k ≤ ps.length ∧ i = .int .i64 k ∧ o = .string (Txt q) ∧ q = joinL 58 ((ps.take k).map grpN) ∧ q.length ≤ 5 * k ∧ (ps.take k).all grpB = true ∧ Below w1.heap.size w1 wr) (fun _ i _ _ _ => ps.length - (intOf i).toNat)
    case atStart => exact ⟨0, [], by omega, rfl, rfl, rfl, by simp, rfl, Below.refl _ _⟩
    case round =>
      obtain ⟨k, q, hk, rfl, rfl, hq, hql, hal, hB⟩ := hrel
      have Hq := Lib.hid hq
      have Hal := Lib.hid hal
      have hsz := hB.size
      clear hq hal
      by_cases hlt : k < ps.length
      · obtain ⟨x, hx⟩ : ∃ x, ps[k]? = some x := ⟨ps[k], List.getElem?_eq_getElem hlt⟩
        have hcx := (HT.out.below hgl hB) k x hx
        have hxs := Hsm.out x (List.mem_of_getElem? hx)
        have hTk := Lib.hid (take_at ps k x hx)
        have hxm := Lib.hid (List.mem_of_getElem? hx)
        clear hx
        change wr.cell? ⟨g, k, none⟩ = some (.string (Txt x)) at hcx
        cases hg : grpB x
        · have HF := Lib.hid (by rw [HGo.out, if_neg (fun h => by have := List.all_eq_true.1 h x hxm.out; rw [hg] at this; exact Bool.noConfusion this)] : grps s.data.toList = none)
          have Hg := Lib.hid hg
          clear hg
          go_wp2_with fail
          refine (rgroup_any (Txt x) _ (by rw [txt_size]; omega)).mono ?_
          rintro e w2 ⟨rfl, hB2⟩
          rw [txt_list, Hg.out]
          go_wp2_with fail
          go_ret3
          exact GsP.no HF.out (hB1.trans ((hB.trans (hB2.mono hsz)).mono hs1))
        · have hgl4 := grpN_len x hg
          have Hg := Lib.hid hg
          obtain ⟨y, hy⟩ : ∃ y, grpN x = y := ⟨_, rfl⟩
          rw [hy] at hgl4
          have Hy := Lib.hid hy
          have HAl := Lib.hid (by rw [hTk.out, List.all_append, Hal.out]; simp [hg] : (ps.take (k + 1)).all grpB = true)
          have HM := Lib.hid (by rw [hTk.out, List.map_append, List.map_cons, List.map_nil, hy, jn_snoc, ← Hq.out] : joinL 58 ((ps.take (k + 1)).map grpN) = if (ps.take k).map grpN = [] then y else q ++ 58 :: y)
          clear hg hy
          have hqs : (Txt q).size ≤ 5 * k := by rw [txt_size]; exact hql
          have hys : (Txt y).size ≤ 4 := by rw [txt_size]; exact hgl4
          by_cases hk0 : k = 0
          · have HM2 := Lib.hid (by rw [HM.out, if_pos (by rw [hk0]; rfl)] : joinL 58 ((ps.take (k + 1)).map grpN) = y)
            have HQ0 := Lib.hid (by rw [Hq.out, hk0]; rfl : q = [])
            have hk0' : k ≤ 0 := by omega
            clear hk0
            go_wp2_with fail
            refine (rgroup_any (Txt x) _ (by rw [txt_size]; omega)).mono ?_
            rintro e w2 ⟨rfl, hB2⟩
            rw [txt_list, Hg.out, if_pos rfl, Hy.out]
            go_wp2_with fail
            go_roundw
            case rel => exact ⟨k + 1, y, by omega, by go_num, by rw [HQ0.out]; exact congrArg Value.string (cat_txt [] y), HM2.out.symm, by omega, HAl.out, hB.trans (hB2.mono hsz)⟩
            case measure => simp [intOf]; omega
          · have HM2 := Lib.hid (by rw [HM.out, if_neg (by intro h; rw [List.map_eq_nil_iff, List.take_eq_nil_iff] at h; rcases h with h | h; exact hk0 h; rw [h] at hpp; simp at hpp)] : joinL 58 ((ps.take (k + 1)).map grpN) = q ++ 58 :: y)
            have hk0' : 0 < k := by omega
            clear hk0
            have hq58 : (Txt q ++ (⟨#[58]⟩ : ByteArray)).size ≤ 5 * k + 1 := by rw [ByteArray.size_append]; have : (⟨#[58]⟩ : ByteArray).size = 1 := rfl; omega
            go_wp2_with fail
            refine (rgroup_any (Txt x) _ (by rw [txt_size]; omega)).mono ?_
            rintro e w2 ⟨rfl, hB2⟩
            rw [txt_list, Hg.out, if_pos rfl, Hy.out]
            go_wp2_with fail
            go_roundw
            case rel => exact ⟨k + 1, q ++ 58 :: y, by omega, by go_num, congrArg Value.string (((congrArg (· ++ Txt y) (cat_txt q [58])).trans (cat_txt (q ++ [58]) y)).trans (by simp)), HM2.out.symm, by simp; omega, HAl.out, hB.trans (hB2.mono hsz)⟩
            case measure => simp [intOf]; omega
      · have htk : ps.take k = ps := List.take_of_length_le (by omega)
        have HF := Lib.hid (by have := Hal.out; rw [htk] at this; rw [HGo.out, if_pos this] : grps s.data.toList = some (ps.map grpN))
        have HQ := Lib.hid (by rw [Hq.out, htk] : q = joinL 58 (ps.map grpN))
        clear htk
        go_wp2_with fail
        go_ret3
        exact GsP.yes HF.out (congrArg Txt HQ.out) (by simp) (hB1.trans (hB.mono hs1))
  · have he := isEmpty_yes s h1
    have hn := toList_nil s h1
    have HF := Lib.hid (by unfold grps; rw [if_pos (List.eq_nil_of_length_eq_zero (by rw [len_list]; omega))] : grps s.data.toList = some [])
    go_enter Tryz.func261, Tryz.ntmps261
    go_wp2_with fail
    go_ret3
    exact GsP.yes HF.out rfl rfl (Below.refl _ _)
end Ad
end Go.Proofs.YtonbkedjlbhpfaaGreatDoor
