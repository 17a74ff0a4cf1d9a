/- Contract of the reference's six (dialtoneref02): what stands in the brackets of a host. -/
import Derived.Test.YtonbkedjlbhpfaaGreatDoorAdRi
namespace Go.Proofs.YtonbkedjlbhpfaaGreatDoor
namespace Ad
open Go.RowKit Lx

theorem grps_bd (l : List UInt8) (x : List (List UInt8)) (h : grps l = some x) : x.length ≤ l.length + 1 ∧ (joinL 58 x).length ≤ 5 * (l.length + 1) := by
  unfold grps at h
  by_cases h0 : l = []
  · rw [if_pos h0] at h; cases h; simp [joinL]
  · rw [if_neg h0] at h
    by_cases h1 : (pcs 58 l).all grpB = true
    · rw [if_pos h1] at h
      injection h with h
      have hl : x.length ≤ l.length + 1 := by rw [← h, List.length_map]; exact pcs_len 58 l
      refine ⟨hl, ?_⟩
      have := joinL_len 58 x 4 (fun y hy => by
        rw [← h, List.mem_map] at hy
        obtain ⟨z, hz, rfl⟩ := hy
        exact grpN_len z (List.all_eq_true.1 h1 z hz))
      omega
    · rw [if_neg h1] at h; cases h
theorem cut2_two (a b : UInt8) (t : List UInt8) (h : a.toNat = 58) (h2 : b.toNat = 58) : cut2 (a :: b :: t) = some ([], t) := by
  have ha : a = 58 := by rw [← UInt8.toNat_inj, h]; rfl
  have hb : b = 58 := by rw [← UInt8.toNat_inj, h2]; rfl
  rw [cut2, if_pos ⟨ha, hb⟩]
theorem cut2_next (a b : UInt8) (t : List UInt8) (h : ¬ (a.toNat = 58 ∧ b.toNat = 58)) : cut2 (a :: b :: t) = (cut2 (b :: t)).map fun p => (a :: p.1, p.2) := by
  rw [cut2, if_neg]
  rintro ⟨rfl, rfl⟩; exact h ⟨rfl, rfl⟩
theorem cut2_short (l : List UInt8) (h : l.length ≤ 1) : cut2 l = none := by
  match l, h with
  | [], _ => rfl
  | [_], _ => rfl
theorem six_cut (l a b : List UInt8) (x y : List (List UInt8)) (h : cut2 l = some (a, b)) (ha : grps a = some x) (hb : grps b = some y) : six l = if x.length + y.length < 8 then some (joinL 58 x ++ [58, 58] ++ joinL 58 y) else none := by
  unfold six; rw [h]; simp only [ha, hb]
theorem six_cutA (l a b : List UInt8) (h : cut2 l = some (a, b)) (ha : grps a = none) : six l = none := by
  unfold six; rw [h]; simp only [ha]
theorem six_cutB (l a b : List UInt8) (h : cut2 l = some (a, b)) (hb : grps b = none) : six l = none := by
  unfold six; rw [h]
  cases ha : grps a <;> simp only [hb, ha]
theorem six_none (l : List UInt8) (h : cut2 l = none) (hg : grps l = none) : six l = none := by
  unfold six; rw [h]; simp only [hg]
theorem six_eight (l : List UInt8) (x : List (List UInt8)) (h : cut2 l = none) (hg : grps l = some x) : six l = if x.length = 8 then some (joinL 58 x) else none := by
  unfold six; rw [h]; simp only [hg]
/-- What a call of six answers. -/
def SxP (l : List UInt8) (w : World) (e : Ending) (w' : World) : Prop :=
  ∃ (a : ByteArray) (b : Bool), e = .returned (.tuple #[.string a, .bool b]) ∧ b = (six l).isSome ∧ (∀ x, six l = some x → a = Txt x) ∧ Below w.heap.size w w'
theorem SxP.no {l : List UInt8} {w w' : World} (a : ByteArray) (h : six l = none) (hB : Below w.heap.size w w') : SxP l w (.returned (.tuple #[.string a, .bool false])) w' :=
  ⟨a, false, rfl, by rw [h]; rfl, fun x hx => (by rw [h] at hx; cases hx), hB⟩
theorem SxP.yes {l x : List UInt8} {a : ByteArray} {w w' : World} (h : six l = some x) (ha : a = Txt x) (hB : Below w.heap.size w w') : SxP l w (.returned (.tuple #[.string a, .bool true])) w' :=
  ⟨a, true, rfl, by rw [h]; rfl, fun y hy => by rw [h] at hy; cases hy; exact ha, hB⟩
set_option maxRecDepth 100000 in
set_option maxHeartbeats 4000000 in
theorem rsix_any (s : ByteArray) (w : World) (hs : s.size ≤ 2097152) :
    Calls Tryz.prog 178 #[.string s] w (SxP s.data.toList w) := by
  obtain ⟨R, hR⟩ : ∃ R, cut2 s.data.toList = R := ⟨_, rfl⟩
  have HR := Lib.hid hR
  have hS := len_list s
  have HS := Lib.hid hS
  clear hR hS
  go_enter Tryz.func178, Tryz.ntmps178
  go_wp2_with fail
  go_loop [4, 5, 6, 7, 8, 9, 10] (fun i _ _ _ _ _ _ => ∃ k : Nat, k ≤ s.size ∧ i = .int .i64 k ∧ R = (cut2 (s.data.toList.drop k)).map (fun p => (s.data.toList.take k ++ p.1, p.2))) (fun i _ _ _ _ _ _ => s.size - (intOf i).toNat)
  case atStart => exact ⟨0, by omega, rfl, by rw [← HR.out, List.drop_zero]; cases cut2 s.data.toList <;> simp⟩
  case round =>
    obtain ⟨k, hk, rfl, hr⟩ := hrel
    have Hr := Lib.hid hr
    clear hr
    by_cases hlt : k + 1 < s.size
    · have hd : s.data.toList.drop k = s[k] :: s[k + 1] :: s.data.toList.drop (k + 2) := by rw [drop_step s k (by omega), drop_step s (k + 1) hlt]
      have hd1 : s.data.toList.drop (k + 1) = s[k + 1] :: s.data.toList.drop (k + 2) := drop_step s (k + 1) hlt
      by_cases h2 : s[k].toNat = 58 ∧ s[k + 1].toNat = 58
      · obtain ⟨c1, c2⟩ := h2
        have t1 : ((s[k].toNat : Int) != 58) = false := by rw [c1]; rfl
        have t2 : ((s[k + 1].toNat : Int) != 58) = false := by rw [c2]; rfl
        have HC := Lib.hid (by rw [HR.out, Hr.out, hd, cut2_two _ _ _ c1 c2]; simp : cut2 s.data.toList = some (s.data.toList.take k, s.data.toList.drop (k + 2)))
        obtain ⟨A, hA⟩ : ∃ A, s.extract 0 k = A := ⟨_, rfl⟩
        obtain ⟨B, hB⟩ : ∃ B, s.extract (k + 2) s.size = B := ⟨_, rfl⟩
        have HAl := Lib.hid (by rw [← hA, slc_data]; unfold slc; rw [List.drop_zero] : A.data.toList = s.data.toList.take k)
        have HBl := Lib.hid (by rw [← hB, drop_data] : B.data.toList = s.data.toList.drop (k + 2))
        have hAs : A.size ≤ 2097152 := by rw [← hA]; simp; omega
        have hBs : B.size ≤ 2097152 := by rw [← hB]; simp; omega
        have HEA := Lib.hid hA
        have HEB := Lib.hid hB
        clear hd hd1 c1 c2 hA hB
        cases hga : grps (s.data.toList.take k) with
        | none =>
          have HN := Lib.hid (six_cutA _ _ _ HC.out hga)
          have HA := Lib.hid hga
          clear hga
          obtain ⟨gb, hgb⟩ : ∃ gb, grps (s.data.toList.drop (k + 2)) = gb := ⟨_, rfl⟩
          have HB := Lib.hid hgb
          clear hgb
          go_wp2_with fail
          rw [HEA.out]
          refine (rgroups_any A _ (by omega)).mono ?_
          rintro e w1 ⟨rfl, hB1⟩
          rw [HAl.out, HA.out]
          go_wp2_with fail
          rw [HEB.out]
          refine (rgroups_any B _ (by omega)).mono ?_
          rintro e w2 ⟨rfl, hB2⟩
          rw [HBl.out, HB.out]
          have hBB := hB1.trans (hB2.mono hB1.size)
          go_wp2_with fail
          go_ret2
          exact SxP.no _ HN.out hBB
        | some x =>
          have HA := Lib.hid hga
          obtain ⟨bx, bxj⟩ := grps_bd _ _ hga
          rw [List.length_take, HS.out] at bx bxj
          cases hgb : grps (s.data.toList.drop (k + 2)) with
          | none =>
            have HN := Lib.hid (six_cutB _ _ _ HC.out hgb)
            have HB := Lib.hid hgb
            clear hga hgb
            go_wp2_with fail
            rw [HEA.out]
            refine (rgroups_any A _ (by omega)).mono ?_
            rintro e w1 ⟨rfl, hB1⟩
            rw [HAl.out, HA.out]
            go_wp2_with fail
            rw [HEB.out]
            refine (rgroups_any B _ (by omega)).mono ?_
            rintro e w2 ⟨rfl, hB2⟩
            rw [HBl.out, HB.out]
            have hBB := hB1.trans (hB2.mono hB1.size)
            go_wp2_with fail
            go_ret2
            exact SxP.no _ HN.out hBB
          | some y =>
            have HB := Lib.hid hgb
            obtain ⟨by', byj⟩ := grps_bd _ _ hgb
            rw [List.length_drop, HS.out] at by' byj
            have HN := Lib.hid (six_cut _ _ _ _ _ HC.out hga hgb)
            have sx : (Txt (joinL 58 x)).size ≤ 20971520 := by rw [txt_size]; omega
            have sy : (Txt (joinL 58 y)).size ≤ 20971520 := by rw [txt_size]; omega
            have sx2 : (Txt (joinL 58 x) ++ (⟨#[58, 58]⟩ : ByteArray)).size ≤ 20971522 := by rw [ByteArray.size_append]; have : (⟨#[58, 58]⟩ : ByteArray).size = 2 := rfl; omega
            have bxx : x.length ≤ 2097153 := by omega
            have byy : y.length ≤ 2097153 := by omega
            clear hga hgb bx bxj by' byj
            by_cases h8 : x.length + y.length < 8
            · have HY := Lib.hid (by rw [HN.out, if_pos h8] : six s.data.toList = some (joinL 58 x ++ [58, 58] ++ joinL 58 y))
              go_wp2_with fail
              rw [HEA.out]
              refine (rgroups_any A _ (by omega)).mono ?_
              rintro e w1 ⟨rfl, hB1⟩
              rw [HAl.out, HA.out]
              go_wp2_with fail
              rw [HEB.out]
              refine (rgroups_any B _ (by omega)).mono ?_
              rintro e w2 ⟨rfl, hB2⟩
              rw [HBl.out, HB.out]
              have hBB := hB1.trans (hB2.mono hB1.size)
              go_wp2_with fail
              go_ret2
              exact SxP.yes HY.out ((congrArg (· ++ Txt (joinL 58 y)) (cat_txt (joinL 58 x) [58, 58])).trans (cat_txt _ _)) hBB
            · have HY := Lib.hid (by rw [HN.out, if_neg h8] : six s.data.toList = none)
              go_wp2_with fail
              rw [HEA.out]
              refine (rgroups_any A _ (by omega)).mono ?_
              rintro e w1 ⟨rfl, hB1⟩
              rw [HAl.out, HA.out]
              go_wp2_with fail
              rw [HEB.out]
              refine (rgroups_any B _ (by omega)).mono ?_
              rintro e w2 ⟨rfl, hB2⟩
              rw [HBl.out, HB.out]
              have hBB := hB1.trans (hB2.mono hB1.size)
              go_wp2_with fail
              go_ret2
              exact SxP.no _ HY.out hBB
      · have HX := Lib.hid (by
          rw [Hr.out, hd, cut2_next _ _ _ h2, hd1, take_snoc s k (by omega)]
          cases cut2 (s[k + 1] :: s.data.toList.drop (k + 2)) <;> simp : R = (cut2 (s.data.toList.drop (k + 1))).map (fun p => (s.data.toList.take (k + 1) ++ p.1, p.2)))
        clear hd hd1
        by_cases c1 : s[k].toNat = 58
        · have c2 : ¬ s[k + 1].toNat = 58 := fun h => h2 ⟨c1, h⟩
          have t1 : ((s[k].toNat : Int) != 58) = false := by rw [c1]; rfl
          have t2 : ((s[k + 1].toNat : Int) != 58) = true := by rw [bne_iff_ne]; omega
          clear c1 c2 h2
          go_wp2_with fail
          go_round
          case rel => exact ⟨k + 1, by omega, by go_num, HX.out⟩
          case measure => simp [intOf]; omega
        · have t1 : ((s[k].toNat : Int) != 58) = true := by rw [bne_iff_ne]; omega
          clear c1 h2
          go_wp2_with fail
          go_round
          case rel => exact ⟨k + 1, by omega, by go_num, HX.out⟩
          case measure => simp [intOf]; omega
    · have HC := Lib.hid (by rw [HR.out, Hr.out, cut2_short _ (by rw [List.length_drop, HS.out]; omega)]; rfl : cut2 s.data.toList = none)
      cases hg : grps s.data.toList with
      | none =>
        have HG := Lib.hid hg
        have HN := Lib.hid (six_none _ HC.out hg)
        clear hg
        go_wp2_with fail
        refine (rgroups_any s _ hs).mono ?_
        rintro e w1 ⟨rfl, hB1⟩
        rw [HG.out]
        go_wp2_with fail
        go_ret2
        exact SxP.no _ HN.out hB1
      | some x =>
        have HG := Lib.hid hg
        have HN := Lib.hid (six_eight _ _ HC.out hg)
        clear hg
        by_cases h8 : x.length = 8
        · have HY := Lib.hid (by rw [HN.out, if_pos h8] : six s.data.toList = some (joinL 58 x))
          have t8 : ((x.length : Int) == 8) = true := by rw [h8]; rfl
          clear h8
          go_wp2_with fail
          refine (rgroups_any s _ hs).mono ?_
          rintro e w1 ⟨rfl, hB1⟩
          rw [HG.out]
          go_wp2_with fail
          go_ret2
          exact SxP.yes HY.out rfl hB1
        · have HY := Lib.hid (by rw [HN.out, if_neg h8] : six s.data.toList = none)
          have t8 : ((x.length : Int) == 8) = false := by rw [beq_eq_false_iff_ne]; omega
          clear h8
          go_wp2_with fail
          refine (rgroups_any s _ hs).mono ?_
          rintro e w1 ⟨rfl, hB1⟩
          rw [HG.out]
          go_wp2_with fail
          go_ret2
          exact SxP.no _ HY.out hB1
end Ad
end Go.Proofs.YtonbkedjlbhpfaaGreatDoor
