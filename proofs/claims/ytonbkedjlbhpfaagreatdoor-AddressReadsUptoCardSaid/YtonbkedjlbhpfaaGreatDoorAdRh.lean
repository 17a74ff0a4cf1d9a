/- Contract of the reference's pieces (dialtoneref02): a text divided at a byte, in a row of the call's own. -/
import Derived.Test.YtonbkedjlbhpfaaGreatDoorAdRg
import Derived.Test.YtonbkedjlbhpfaaGreatDoorM7
namespace Go.Proofs.YtonbkedjlbhpfaaGreatDoor
namespace Ad
open Go.RowKit Lx

theorem ext_txt (s : ByteArray) (a b : Nat) : s.extract a b = Txt (slc s.data.toList a b) := by
  rw [← slc_data]; rfl
theorem pcs_hit (c : UInt8) (t : List UInt8) : pcs c (c :: t) = [] :: pcs c t := by rw [pcs, if_pos rfl]
theorem pcs_miss (c d : UInt8) (t : List UInt8) (h : d ≠ c) : pcs c (d :: t) = (d :: (pcs c t).headD []) :: (pcs c t).tail := by rw [pcs, if_neg h]
theorem slc_snoc (s : ByteArray) (a k : Nat) (ha : a ≤ k) (hk : k < s.size) : slc s.data.toList a (k + 1) = slc s.data.toList a k ++ [s[k]] := by
  unfold slc
  rw [take_snoc s k hk, List.drop_append_of_le_length (by simp; omega)]
/-- What a call of pieces answers: a row of the call's own. -/
def PcP (l : List UInt8) (c : UInt8) (w : World) (e : Ending) (w' : World) : Prop :=
  ∃ v, e = .returned v ∧ w'.ownsRow w.heap.size 9 1 v (pcs c l).length (tkc (pcs c l)) ∧ Below w.heap.size w w'
set_option maxRecDepth 100000 in
set_option maxHeartbeats 2000000 in
theorem rpieces_any (s : ByteArray) (c : UInt8) (w : World) (hs : s.size ≤ 2097152) :
    Calls Tryz.prog 179 #[.string s, .int .u8 c.toNat] w (PcP s.data.toList c w) := by
  obtain ⟨i0, hi, hz0, hz1, hz2⟩ := info_parts infoStr
  obtain ⟨R, hR⟩ : ∃ R, pcs c s.data.toList = R := ⟨_, rfl⟩
  have HR := Lib.hid hR
  clear hR
  go_enter Tryz.func179, Tryz.ntmps179
  go_wp2_with fail
  go_loopw [5, 6, 7] (fun v f i wr => ∃ (a k : Nat) (acc : List (List UInt8)), a ≤ k ∧ k ≤ s.size ∧ f = .int .i64 a ∧ i = .int .i64 k ∧ acc.length ≤ k ∧ R = acc ++ ((slc s.data.toList a k ++ (pcs c (s.data.toList.drop k)).headD []) :: (pcs c (s.data.toList.drop k)).tail) ∧ wr.ownsRow w.heap.size 9 1 v acc.length (tkc acc) ∧ Below w.heap.size w wr) (fun _ _ i _ => s.size - (intOf i).toNat)
  case atStart => exact ⟨0, 0, [], Nat.le_refl _, by omega, rfl, rfl, by simp, by rw [slc_nil _ _ _ (Nat.le_refl _), List.nil_append, List.nil_append, List.drop_zero, ← HR.out]; exact pcs_split c _, World.ownsRow_nil _ _ _ _, Below.refl _ _⟩
  case round =>
    obtain ⟨a, k, acc, hak, hk, rfl, rfl, hal, hr, hown, hB⟩ := hrel
    have Hr := Lib.hid hr
    have Ho := Lib.hid hown
    have hsz := hB.size
    clear hr hown
    by_cases hlt : k < s.size
    · have hd := drop_step s k hlt
      by_cases hc : s[k] = c
      · have t1 : ((s[k].toNat : Int) == c.toNat) = true := by rw [hc]; simp
        have HX := Lib.hid (by
          have h := Hr.out
          rw [hd, hc, pcs_hit, List.headD_cons, List.append_nil, List.tail_cons] at h
          rw [h, pcs_split c (s.data.toList.drop (k + 1)), slc_nil _ _ _ (Nat.le_refl _)]
          simp : R = (acc ++ [slc s.data.toList a k]) ++ ((slc s.data.toList (k + 1) (k + 1) ++ (pcs c (s.data.toList.drop (k + 1))).headD []) :: (pcs c (s.data.toList.drop (k + 1))).tail))
        clear hd hc
        obtain ⟨x, hx⟩ : ∃ x, s.extract a k = x := ⟨_, rfl⟩
        have HE := Lib.hid (hx.symm.trans (ext_txt s a k))
        have Hx := Lib.hid hx
        clear hx
        go_wp2_with (at_builtin; refine wpList_append_own _ rfl _ _ 51 rfl w.heap.size 9 i0 (.string .empty) 1 16 Tryz.underlying51 hi hz0 hz1 hz2 rfl (by decide) _ _ _ rfl (Ho.out.alloc _) ⟨wr.heap.size, 0, none⟩ 1 1 [.string (s.extract a k)] rfl rfl (cell_one_new _ _ _) (by simp [Value.oneCell']) ?c3 ?c4 ?c5 ?_)
        case c3 => unfold maxLen; omega
        case c4 => omega
        case c5 => simp; omega
        intro v4 w4 hown' hgrow _
        rw [Hx.out, HE.out] at hown'
        have HO4 := Lib.hid (by simpa [tkc] using hown' : w4.ownsRow w.heap.size 9 1 v4 (acc ++ [slc s.data.toList a k]).length (tkc (acc ++ [slc s.data.toList a k])))
        have hB4 := (hB.alloc (by omega) (.cells #[.string (s.extract a k)] 9)).grown hgrow (by simp; omega) (fun k' hk' => (Ho.out.lt k' hk').1)
        have hs4 := hB4.size
        clear hown' hgrow
        go_wp2_with fail
        go_roundw
        case rel => exact ⟨k + 1, k + 1, acc ++ [slc s.data.toList a k], Nat.le_refl _, by omega, by go_num, by go_num, by simp; omega, HX.out, HO4.out, hB4⟩
        case measure => simp [intOf]; omega
      · have t1 : ((s[k].toNat : Int) == c.toNat) = false := by
          rw [beq_eq_false_iff_ne]; intro h; exact hc (by rw [← UInt8.toNat_inj]; omega)
        have HX := Lib.hid (by
          have h := Hr.out
          rw [hd, pcs_miss c _ _ hc, List.headD_cons, List.tail_cons] at h
          rw [h, slc_snoc s a k hak hlt]
          simp : R = acc ++ ((slc s.data.toList a (k + 1) ++ (pcs c (s.data.toList.drop (k + 1))).headD []) :: (pcs c (s.data.toList.drop (k + 1))).tail))
        clear hd hc
        go_wp2_with fail
        go_roundw
        case rel => exact ⟨a, k + 1, acc, by omega, by omega, rfl, by go_num, by omega, HX.out, Ho.out, hB⟩
        case measure => simp [intOf]; omega
    · have hke : k = s.size := by omega
      have HX := Lib.hid (by
        have h := Hr.out
        rw [List.drop_eq_nil_of_le (by rw [len_list]; omega)] at h
        rw [h, hke]
        simp [pcs] : R = acc ++ [slc s.data.toList a s.size])
      clear hke
      obtain ⟨x, hx⟩ : ∃ x, s.extract a s.size = x := ⟨_, rfl⟩
      have HE := Lib.hid (hx.symm.trans (ext_txt s a s.size))
      have Hx := Lib.hid hx
      clear hx
      go_wp2_with (at_builtin; refine wpList_append_own _ rfl _ _ 51 rfl w.heap.size 9 i0 (.string .empty) 1 16 Tryz.underlying51 hi hz0 hz1 hz2 rfl (by decide) _ _ _ rfl (Ho.out.alloc _) ⟨wr.heap.size, 0, none⟩ 1 1 [.string (s.extract a s.size)] rfl rfl (cell_one_new _ _ _) (by simp [Value.oneCell']) ?c3 ?c4 ?c5 ?_)
      case c3 => unfold maxLen; omega
      case c4 => omega
      case c5 => simp; omega
      intro v4 w4 hown' hgrow _
      rw [Hx.out, HE.out] at hown'
      have HO4 := Lib.hid (by simpa [tkc] using hown' : w4.ownsRow w.heap.size 9 1 v4 (acc ++ [slc s.data.toList a s.size]).length (tkc (acc ++ [slc s.data.toList a s.size])))
      have hB4 := (hB.alloc (by omega) (.cells #[.string (s.extract a s.size)] 9)).grown hgrow (by simp; omega) (fun k' hk' => (Ho.out.lt k' hk').1)
      clear hown' hgrow
      go_wp2_with fail
      go_ret
      refine ⟨_, rfl, ?_, hB4⟩
      rw [HR.out, HX.out]
      exact HO4.out
end Ad
end Go.Proofs.YtonbkedjlbhpfaaGreatDoor
