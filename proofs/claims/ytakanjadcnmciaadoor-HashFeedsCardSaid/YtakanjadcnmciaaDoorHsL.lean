/- Contract of the reference's Lower (layer 6). A text of at most 2^40 bytes. -/
import Derived.Test.YtakanjadcnmciaaDoorHsHex
import Derived.Test.YtakanjadcnmciaaDoorHsA
import Derived.Test.YtakanjadcnmciaaDoorLxSpec
import Derived.Laws.OwnMore
import Derived.Laws.AppendOwn
import Derived.Laws.IdiomStrings
import Derived.Lib.UnsafeStr
import Derived.Lib.BufferRead
namespace Go.Proofs.YtakanjadcnmciaaDoor
namespace Hs
open Go.RowKit Ad

theorem wrap8 (n : Nat) (h : n < 256) : IntKind.u8.wrap (n : Int) = n := by rw [IntKind.wrap_u8']; omega
theorem infoB : (Tryd.prog.info? 5).map (fun i => (i.zero, i.size, i.bytes)) = some (some (.int .u8 0), 1, 1) := by kernel_rfl
theorem info_parts' {t : TypeId} {z : Option Value} {n b : Nat} (h : (Tryd.prog.info? t).map (fun i => (i.zero, i.size, i.bytes)) = some (z, n, b)) : ∃ i, Tryd.prog.info? t = some i ∧ i.zero = z ∧ i.size = n ∧ i.bytes = b := by
  cases hi : Tryd.prog.info? t with
  | none => rw [hi] at h; cases h
  | some i => rw [hi] at h; simp only [Option.map_some, Option.some.injEq, Prod.mk.injEq] at h; exact ⟨i, rfl, h.1, h.2.1, h.2.2⟩
theorem conv_row {B : Nat} {v : Value} {l : List UInt8} {w : World} (h : w.ownsRow B 5 1 v l.length (Lib.byteCells l)) : (convert 22 9 v).run Tryd.prog w = .ok (.string ⟨l.toArray⟩) w := by
  rcases h.2 with ⟨rfl, h0⟩ | ⟨g, cap, cur, rfl, hB, hg, hn, hc, hs, htk⟩
  · have : l = [] := List.eq_nil_of_length_eq_zero h0
    subst this
    exact Lib.run_convert_nil_bytes w _ _ 5 0 Tryd.underlying22 Tryd.underlying5 Tryd.underlying9
  · exact run_convert_bytes_back w _ _ 5 _ cap l Tryd.underlying22 Tryd.underlying5 Tryd.underlying9 (Lib.bytes_of_row hg (by simpa using htk))
def RetNew (t : List UInt8) (w : World) (e : Ending) (w' : World) : Prop := e = .returned (.string ⟨t.toArray⟩) ∧ Below w.heap.size w w'
set_option maxRecDepth 100000 in
set_option maxHeartbeats 1000000 in
theorem rlower_any (s : ByteArray) (w : World) (hs : s.size ≤ 1099511627776) : Calls Tryd.prog 26 #[.string s] w (RetNew (s.data.toList.map lowC) w) := by
  obtain ⟨i0, hi, hz0, hz1, hz2⟩ := info_parts' infoB
  obtain ⟨L, hL⟩ : ∃ L, s.data.toList.map lowC = L := ⟨_, rfl⟩
  have hLl : L.length = s.size := by rw [← hL, List.length_map, Lx.len_list]
  have HLa := Lib.hid (fun (j : Nat) (h : j < s.size) => (by rw [← hL, ← List.map_take, ← List.map_take, Lx.take_snoc s j h, List.map_append]; rfl : L.take (j + 1) = L.take j ++ [lowC s[j]]))
  rw [hL]
  clear hL
  go_enter Tryd.func26, Tryd.ntmps26
  go_wp2_with fail
  go_loopw [3, 4] (fun v i wr => ∃ j : Nat, j ≤ s.size ∧ i = .int .i64 j ∧ wr.ownsRow w.heap.size 5 1 v j (Lib.byteCells (L.take j)) ∧ Below w.heap.size w wr) (fun _ i _ => s.size - (intOf i).toNat)
  case atStart => exact ⟨0, by omega, rfl, World.ownsRow_nil _ _ _ _, Below.refl _ _⟩
  case round =>
    obtain ⟨j, hj, rfl, hown, hB⟩ := hrel
    have hsz := hB.size
    by_cases hlt : j < s.size
    · have Ho := Lib.hid hown
      have HB := Lib.hid hB
      have Ht := Lib.hid (HLa.out j hlt)
      obtain ⟨x, hx⟩ : ∃ x, s[j] = x := ⟨_, rfl⟩
      have hx2 : (s[j].toNat : Int) = (x.toNat : Int) := by rw [hx]
      rw [hx] at Ht
      have hxl := x.toNat_lt
      clear hown hB
      by_cases hc : 65 ≤ x.toNat ∧ x.toNat ≤ 70
      · have hlow : ((lowC x).toNat : Int) = (x.toNat : Int) + 32 := by
          unfold lowC
          rw [if_pos hc, UInt8.toNat_add]
          show (((x.toNat + 32) % 256 : Nat) : Int) = _
          omega
        obtain ⟨y, hy⟩ : ∃ y, lowC x = y := ⟨_, rfl⟩
        rw [hy] at hlow Ht
        have HL := Lib.hid hy
        have c1 : (65 : Int) ≤ (x.toNat : Int) := by omega
        have c2 : (x.toNat : Int) ≤ 70 := by omega
        have c3 : IntKind.u8.wrap ((x.toNat : Int) + 32) = (y.toNat : Int) := by rw [← hlow]; exact wrap8 _ y.toNat_lt
        clear hc hy hlow HL
        go_wp2_with (at_builtin; refine wpList_append_own _ rfl _ _ 22 rfl w.heap.size 5 i0 (.int .u8 0) 1 1 Tryd.underlying22 hi hz0 hz1 hz2 rfl (by decide) _ _ _ rfl (Ho.out.alloc _) ⟨wr.heap.size, 0, none⟩ 1 1 [.int .u8 (y.toNat : Int)] rfl rfl (cell_one_new _ _ _) (by simp [Value.oneCell']) ?c3 ?c4 ?c5 ?_)
        case c3 => unfold maxLen; omega
        case c4 => omega
        case c5 => first | omega | (simp; omega)
        intro v4 w4 hown' hgrow _
        have HO4 := Lib.hid (by rw [Ht.out]; unfold Lib.byteCells at hown' ⊢; rw [List.map_append, List.map_singleton]; exact hown' : w4.ownsRow w.heap.size 5 1 v4 (j + 1) (Lib.byteCells (L.take (j + 1))))
        have hB4 := (HB.out.alloc (by omega) (.cells #[.int .u8 (y.toNat : Int)] 5)).grown hgrow (by simp; omega) (fun k' hk' => (Ho.out.lt k' hk').1)
        have hs4 := hB4.size
        clear hown' hgrow
        go_wp2_with fail
        go_roundw
        case rel => exact ⟨j + 1, by omega, by go_num, HO4.out, hB4⟩
        case measure => simp [intOf]; omega
      · have hlow : lowC x = x := by unfold lowC; rw [if_neg hc]
        rw [hlow] at Ht
        clear hlow
        by_cases h1 : 65 ≤ x.toNat
        · have c1 : (65 : Int) ≤ (x.toNat : Int) := by omega
          have c2 : ¬ (x.toNat : Int) ≤ 70 := by omega
          clear hc h1
          go_wp2_with (at_builtin; refine wpList_append_own _ rfl _ _ 22 rfl w.heap.size 5 i0 (.int .u8 0) 1 1 Tryd.underlying22 hi hz0 hz1 hz2 rfl (by decide) _ _ _ rfl (Ho.out.alloc _) ⟨wr.heap.size, 0, none⟩ 1 1 [.int .u8 (x.toNat : Int)] rfl rfl (cell_one_new _ _ _) (by simp [Value.oneCell']) ?c3 ?c4 ?c5 ?_)
          case c3 => unfold maxLen; omega
          case c4 => omega
          case c5 => first | omega | (simp; omega)
          intro v4 w4 hown' hgrow _
          have HO4 := Lib.hid (by rw [Ht.out]; unfold Lib.byteCells at hown' ⊢; rw [List.map_append, List.map_singleton]; exact hown' : w4.ownsRow w.heap.size 5 1 v4 (j + 1) (Lib.byteCells (L.take (j + 1))))
          have hB4 := (HB.out.alloc (by omega) (.cells #[.int .u8 (x.toNat : Int)] 5)).grown hgrow (by simp; omega) (fun k' hk' => (Ho.out.lt k' hk').1)
          have hs4 := hB4.size
          clear hown' hgrow
          go_wp2_with fail
          go_roundw
          case rel => exact ⟨j + 1, by omega, by go_num, HO4.out, hB4⟩
          case measure => simp [intOf]; omega
        · have c1 : ¬ (65 : Int) ≤ (x.toNat : Int) := by omega
          clear hc h1
          go_wp2_with (at_builtin; refine wpList_append_own _ rfl _ _ 22 rfl w.heap.size 5 i0 (.int .u8 0) 1 1 Tryd.underlying22 hi hz0 hz1 hz2 rfl (by decide) _ _ _ rfl (Ho.out.alloc _) ⟨wr.heap.size, 0, none⟩ 1 1 [.int .u8 (x.toNat : Int)] rfl rfl (cell_one_new _ _ _) (by simp [Value.oneCell']) ?c3 ?c4 ?c5 ?_)
          case c3 => unfold maxLen; omega
          case c4 => omega
          case c5 => first | omega | (simp; omega)
          intro v4 w4 hown' hgrow _
          have HO4 := Lib.hid (by rw [Ht.out]; unfold Lib.byteCells at hown' ⊢; rw [List.map_append, List.map_singleton]; exact hown' : w4.ownsRow w.heap.size 5 1 v4 (j + 1) (Lib.byteCells (L.take (j + 1))))
          have hB4 := (HB.out.alloc (by omega) (.cells #[.int .u8 (x.toNat : Int)] 5)).grown hgrow (by simp; omega) (fun k' hk' => (Ho.out.lt k' hk').1)
          have hs4 := hB4.size
          clear hown' hgrow
          go_wp2_with fail
          go_roundw
          case rel => exact ⟨j + 1, by omega, by go_num, HO4.out, hB4⟩
          case measure => simp [intOf]; omega
    · have hown2 : wr.ownsRow w.heap.size 5 1 u3 L.length (Lib.byteCells L) := by
        rw [List.take_of_length_le (by omega)] at hown
        rw [hLl, show s.size = j by omega]
        exact hown
      have hcv := conv_row hown2
      clear hown2 hown
      go_wp2_with fail
      go_ret
      exact ⟨rfl, hB⟩
end Hs
end Go.Proofs.YtakanjadcnmciaaDoor
