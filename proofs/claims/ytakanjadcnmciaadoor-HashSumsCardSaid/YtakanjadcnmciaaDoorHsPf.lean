/- Contract of the program's padding (layer 6). A number of 64 bits. -/
import Derived.Test.YtakanjadcnmciaaDoorHsPe
import Derived.Test.YtakanjadcnmciaaDoorHsF
namespace Go.Proofs.YtakanjadcnmciaaDoor
namespace Hs
open Go.RowKit Ad

/-- A new slice that reads as these bytes. -/
def NewB (l : List UInt8) (w : World) (e : Ending) (w' : World) : Prop := ∃ g c, e = .returned (.slice (some ⟨g, 0, none⟩) l.length c) ∧ w.heap.size ≤ g ∧ g < w'.heap.size ∧ l.length ≤ c ∧ (∀ i x, l[i]? = some x → w'.cell? ⟨g, 0 + i, none⟩ = some (.int .u8 (x.toNat : Int))) ∧ Kp [] w w'
theorem byteCells_snoc (l : List UInt8) (c : UInt8) : Lib.byteCells (l ++ [c]) = Lib.byteCells l ++ [.int .u8 (c.toNat : Int)] := by
  unfold Lib.byteCells
  rw [List.map_append, List.map_singleton]
theorem padL_snoc (j : Nat) : (128 :: pad j : List UInt8) ++ [0] = 128 :: pad (j + 1) := by
  unfold pad
  rw [List.replicate_succ']
  rfl
theorem kp_of_below {w w' : World} (h : Below w.heap.size w w') : Kp [] w w' := (Kp.refl [] w).below h
theorem finL_len (T : Nat) : (finL T).length = 8 := by simp [finL]
theorem finL_snoc (T i : Nat) (h : i < 8) : (finL T).take (i + 1) = (finL T).take i ++ [UInt8.ofNat (T / 2 ^ (8 * (7 - i)))] := by
  rw [List.take_add_one, List.getElem?_eq_getElem (by rw [finL_len]; exact h)]
  simp [finL]
theorem tail_snoc (Z T i : Nat) (h : i < 8) : (128 :: (pad Z ++ (finL T).take (i + 1)) : List UInt8) = (128 :: (pad Z ++ (finL T).take i)) ++ [UInt8.ofNat (T / 2 ^ (8 * (7 - i)))] := by
  rw [finL_snoc T i h]
  simp
theorem u8_of (x : Nat) : IntKind.u8.wrap (x : Int) = ((UInt8.ofNat x).toNat : Int) := by
  rw [IntKind.wrap_u8']
  show _ = ((x % 256 : Nat) : Int)
  omega
set_option maxRecDepth 100000 in
set_option maxHeartbeats 1000000 in
theorem ppad_any (n : Nat) (hn : n < 18446744073709551616) (w : World) : Calls Tryd.prog 27 #[.int .u64 (n : Int)] w (NewB (tailL n) w) := by
  obtain ⟨i0, hi, hz0, hz1, hz2⟩ := info_parts' infoB
  go_enter Tryd.func27, Tryd.ntmps27
  go_wp2_with fail
  have hlit : (w.alloc (.cells #[.int .u8 128] 5)).ownsRow w.heap.size 5 1 (.slice (some ⟨w.heap.size, 0, none⟩) 1 1) 1 (Lib.byteCells [128]) := World.ownsRow_lit w #[.int .u8 128] 1 (Nat.le_refl _) (by decide) rfl
  have hbel : Below w.heap.size w (w.alloc (.cells #[.int .u8 128] 5)) := (Below.refl _ _).alloc (Nat.le_refl _) _
  have HL := Lib.hid hlit
  have HBe := Lib.hid hbel
  obtain ⟨Z, hZ⟩ : ∃ Z, zeros (n % 64) = Z := ⟨_, rfl⟩
  have hZ64 : Z < 64 := by rw [← hZ]; unfold zeros; omega
  have HE := Lib.hid (by rw [← hZ]; exact zeros_end n : (n + 1 + Z) % 64 = 56)
  have HBf := Lib.hid (fun j (h : j < Z) => zeros_before n j (by rw [hZ]; exact h))
  have HZ := Lib.hid hZ
  clear hlit hbel hZ
  go_loopw [3] (fun v wr => ∃ j : Nat, j ≤ Z ∧ wr.ownsRow w.heap.size 5 1 v (1 + j) (Lib.byteCells (128 :: pad j)) ∧ Below w.heap.size w wr) (fun v _ => 200 - slLen v)
  case atStart => exact ⟨0, by omega, HL.out, HBe.out⟩
  case round =>
    obtain ⟨j, hj, hown, hB⟩ := hrel
    obtain ⟨g1, cap1, rfl, hg1, hg2⟩ := hown.form (by omega)
    have hsz := hB.size
    obtain ⟨k, hk⟩ : ∃ k, 1 + j = k := ⟨_, rfl⟩
    rw [hk] at hown ⊢
    obtain ⟨S, hS⟩ : ∃ S, (n + k) % 18446744073709551616 = S := ⟨_, rfl⟩
    have e1 : IntKind.u64.wrap (k : Int) = (k : Int) := by simp [IntKind.wrap, IntKind.bits, IntKind.signed]; omega
    have e2 : IntKind.u64.wrap ((n : Int) + (k : Int)) = (S : Int) := by simp [IntKind.wrap, IntKind.bits, IntKind.signed]; omega
    have Ho := Lib.hid hown
    have HB := Lib.hid hB
    have HK := Lib.hid hk
    have hk1 : k ≤ 64 := by omega
    by_cases hlt : j < Z
    · have ht : ((S : Int) % 64 != 56) = true := by
        have := HBf.out j hlt
        rw [bne_iff_ne]
        omega
      clear hown hB hk hS
      go_wp2_with (at_builtin; refine wpList_append_own _ rfl _ _ 22 rfl w.heap.size 5 i0 (.int .u8 0) 1 1 Tryd.underlying22 hi hz0 hz1 hz2 rfl (by decide) _ _ _ rfl (Ho.out.alloc _) ⟨wr.heap.size, 0, none⟩ 1 1 [.int .u8 0] rfl rfl (cell_one_new _ _ _) (by simp [Value.oneCell']) ?c3 ?c4 ?c5 ?_)
      case c3 => unfold maxLen; omega
      case c4 => omega
      case c5 => first | omega | (simp; omega)
      intro v4 w4 hown' hgrow _
      have HO4 := Lib.hid (by rw [← padL_snoc, byteCells_snoc, ← Nat.add_assoc, HK.out]; exact hown' : w4.ownsRow w.heap.size 5 1 v4 (1 + (j + 1)) (Lib.byteCells (128 :: pad (j + 1))))
      have hB4 := (HB.out.alloc (by omega) (.cells #[.int .u8 0] 5)).grown hgrow (by simp; omega) (fun k' hk' => (Ho.out.lt k' hk').1)
      have HB4 := Lib.hid hB4
      obtain ⟨g4, cap4, rfl, hg41, hg42⟩ := HO4.out.form (by omega)
      clear hown' hgrow hB4
      go_wp2_with fail
      go_roundw
      case rel => exact ⟨j + 1, by omega, HO4.out, HB4.out⟩
      case measure => have := HK.out; simp [slLen]; omega
    · obtain rfl : j = Z := by omega
      have ht : ((S : Int) % 64 != 56) = false := by
        have := HE.out
        rw [bne_eq_false_iff_eq]
        omega
      clear hown hB hk hS
      go_wp2_with fail
      obtain ⟨T, hT⟩ : ∃ T, (8 * n) % 18446744073709551616 = T := ⟨_, rfl⟩
      have hT8 : IntKind.u64.wrap ((n : Int) * 8) = (T : Int) := by simp [IntKind.wrap, IntKind.bits, IntKind.signed]; omega
      have HT := Lib.hid hT
      clear hT hk1
      go_loopw [3, 4, 16] (fun v _ i wr => ∃ j' : Nat, j' ≤ 8 ∧ i = .int .i64 j' ∧ wr.ownsRow w.heap.size 5 1 v (k + j') (Lib.byteCells (128 :: (pad j ++ (finL T).take j'))) ∧ Below w.heap.size w wr) (fun _ _ i _ => 8 - (intOf i).toNat)
      case atStart => exact ⟨0, by omega, rfl, by rw [List.take_zero, List.append_nil]; exact Ho.out, HB.out⟩
      case round =>
        obtain ⟨i, hi8, rfl, hown, hB⟩ := hrel
        have hkk := HK.out
        obtain ⟨g2, cap2, rfl, hg21, hg22⟩ := hown.form (by omega)
        have hsz2 := hB.size
        have Ho2 := Lib.hid hown
        have HB2 := Lib.hid hB
        by_cases hlt : i < 8
        · obtain ⟨d, hd⟩ : ∃ d, 8 * (7 - i) = d := ⟨_, rfl⟩
          have HS := Lib.hid (tail_snoc j T i hlt)
          rw [hd] at HS
          obtain ⟨y, hy⟩ : ∃ y, UInt8.ofNat (T / 2 ^ d) = y := ⟨_, rfl⟩
          have hyv := u8_of (T / 2 ^ d)
          rw [hy] at HS hyv
          rw [IntKind.wrap_u8'] at hyv
          have hyv2 : (T : Int) / 2 ^ d % 256 = (y.toNat : Int) := by rw [← hyv]; norm_cast
          have HV := Lib.hid hyv2
          have hd1 : (i : Int) * 8 = ((8 * i : Nat) : Int) := by omega
          have hd2 : (56 : Int) - (i : Int) * 8 = (d : Int) := by omega
          have hd3 : (0 : Int) ≤ (d : Int) := by omega
          have hd4 : d ≤ 64 := by omega
          have hkl : k + i ≤ 100 := by omega
          clear hown hB hd hy hkk hd1 hyv hyv2
          go_wp2_with (at_builtin; refine wpList_append_own _ rfl _ _ 22 rfl w.heap.size 5 i0 (.int .u8 0) 1 1 Tryd.underlying22 hi hz0 hz1 hz2 rfl (by decide) _ _ _ rfl (Ho2.out.alloc _) ⟨wr.heap.size, 0, none⟩ 1 1 [.int .u8 ((T : Int) / 2 ^ d % 256)] rfl rfl (cell_one_new _ _ _) (by simp [Value.oneCell']) ?c3 ?c4 ?c5 ?_)
          case c3 => unfold maxLen; omega
          case c4 => omega
          case c5 => first | omega | (simp; omega)
          intro v4 w4 hown' hgrow _
          have HO4 := Lib.hid (by rw [HS.out, byteCells_snoc, ← Nat.add_assoc, ← HV.out]; exact hown' : w4.ownsRow w.heap.size 5 1 v4 (k + (i + 1)) (Lib.byteCells (128 :: (pad j ++ (finL T).take (i + 1)))))
          have hB4 := (HB2.out.alloc (by omega) (.cells #[.int .u8 ((T : Int) / 2 ^ d % 256)] 5)).grown hgrow (by simp; omega) (fun k' hk' => (Ho2.out.lt k' hk').1)
          have HB4 := Lib.hid hB4
          clear hown' hgrow hB4
          go_wp2_with fail
          go_roundw
          case rel => exact ⟨i + 1, by omega, by go_num, HO4.out, HB4.out⟩
          case measure => simp [intOf]; omega
        · obtain rfl : i = 8 := by omega
          rw [show (((8 : Nat) : Int)) = 8 from rfl]
          have hlen : (tailL n).length = k + 8 := by
            have := HZ.out
            unfold tailL pad
            rw [this, List.length_cons, List.length_append, List.length_replicate, finL_len]
            omega
          have hcells := Ho2.out
          rw [List.take_of_length_le (by rw [finL_len]; exact Nat.le_refl _)] at hcells
          rw [← HT.out] at hcells
          have HCe := Lib.hid (show wr.ownsRow w.heap.size 5 1 (.slice (some ⟨g2, 0, none⟩) (k + 8) cap2) (k + 8) (Lib.byteCells (tailL n)) from by unfold tailL; rw [HZ.out]; exact hcells)
          have HLe := Lib.hid hlen
          clear hown hB hlen hcells hkk
          go_wp2_with fail
          go_ret
          have hcap : k + 8 ≤ cap2 := by
            rcases HCe.out.2 with ⟨h, _⟩ | ⟨g', cap', cur, h, _, _, hn', _⟩
            · cases h
            · injection h with h1 h2 h3
              omega
          refine ⟨g2, cap2, by rw [HLe.out]; rfl, hg21, hg22, by rw [HLe.out]; exact hcap, ?_, kp_of_below HB2.out⟩
          intro i x hx
          have hi' : i < k + 8 := by rw [← HLe.out]; exact (List.getElem?_eq_some_iff.1 hx).1
          rw [Nat.zero_add, HCe.out.cellAt i (by omega)]
          unfold Lib.byteCells
          rw [List.getElem?_map, hx]
          rfl
end Hs
end Go.Proofs.YtakanjadcnmciaaDoor
