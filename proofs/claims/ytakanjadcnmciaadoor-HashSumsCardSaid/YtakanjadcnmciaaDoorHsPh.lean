/- Contract of the program's Hex (layer 6). Bytes. -/
import Derived.Test.YtakanjadcnmciaaDoorHsPg
import Derived.Laws.MakeOwn
import Derived.Laws.OwnMore
namespace Go.Proofs.YtakanjadcnmciaaDoor
namespace Hs
open Go.RowKit Ad

theorem hexT (q : Nat) (h : q < 16) : ((⟨#[48, 49, 50, 51, 52, 53, 54, 55, 56, 57, 97, 98, 99, 100, 101, 102]⟩ : ByteArray)[q]'(h)) = hexD (UInt8.ofNat q) := by
  have : q = 0 ∨ q = 1 ∨ q = 2 ∨ q = 3 ∨ q = 4 ∨ q = 5 ∨ q = 6 ∨ q = 7 ∨ q = 8 ∨ q = 9 ∨ q = 10 ∨ q = 11 ∨ q = 12 ∨ q = 13 ∨ q = 14 ∨ q = 15 := by omega
  rcases this with rfl | rfl | rfl | rfl | rfl | rfl | rfl | rfl | rfl | rfl | rfl | rfl | rfl | rfl | rfl | rfl <;> rfl
theorem and15 : ∀ x : Nat, x < 256 → bits .and .u8 (x : Int) 15 = ((x % 16 : Nat) : Int) := by decide +kernel
set_option maxRecDepth 100000 in
set_option maxHeartbeats 1000000 in
theorem phex_any (l : List UInt8) (A : Option Addr) (c : Nat) (w : World) (h : ByIn w A l) (hl : l.length ≤ 35184372088832) : Calls Tryd.prog 25 #[.slice A l.length c] w (RetNew (hex l) w) := by
  obtain ⟨i0, hi, hz0, hz1, hz2⟩ := info_parts' infoB
  obtain ⟨N, hN⟩ : ∃ N, l.length = N := ⟨_, rfl⟩
  have HN := Lib.hid hN
  have HA := Lib.hid h
  obtain ⟨M, hM⟩ : ∃ M, 2 * N = M := ⟨_, rfl⟩
  have e0 : (2 : Int) * (N : Int) = (M : Int) := by omega
  have e1 : IntKind.i64.wrap (M : Int) = (M : Int) := IntWalk.i64_in _ (by omega)
  obtain ⟨w1, hmk, hown1, hgr1⟩ := run_make_own (P := Tryd.prog) w w.heap.size 22 5 i0 (.int .u8 0) 1 Tryd.underlying22 hi hz0 hz1 .i64 .i64 M (by rw [hz2]; omega) (by unfold maxLen; omega) (Nat.le_refl _)
  have hb1 : Below w.heap.size w w1 := (Below.refl _ w).grown hgr1 (Nat.le_refl _) (fun k hk => by cases hk)
  have HO1 := Lib.hid hown1
  have HB1 := Lib.hid hb1
  clear hown1 hgr1 hb1
  have HM := Lib.hid hM
  clear hM
  have n0 : (0 : Int) ≤ (N : Int) := by omega
  have n1 : (N : Int) ≤ 35184372088832 := by omega
  rw [hN]
  clear hN h hl
  go_enter Tryd.func25, Tryd.ntmps25
  go_wp2_with fail
  clear hmk
  go_loopw [3, 5, 12] (fun v _ i wr => ∃ j : Nat, j ≤ N ∧ i = .int .i64 j ∧ wr.ownsRow w.heap.size 5 1 v (2 * j) (Lib.byteCells (hex (l.take j))) ∧ Below w.heap.size w wr) (fun _ _ i _ => N - (intOf i).toNat)
  case atStart => exact ⟨0, by omega, rfl, HO1.out, HB1.out⟩
  case round =>
    obtain ⟨j, hj, rfl, hown, hB⟩ := hrel
    have hsz := hB.size
    by_cases hlt : j < N
    · obtain ⟨b, o, rfl, hb, hc⟩ := HA.out.resolve_left (fun e => by have := HN.out; rw [e] at this; simp at this; omega)
      obtain ⟨x, hx⟩ : ∃ x, l[j]? = some x := ⟨_, List.getElem?_eq_getElem (by rw [HN.out]; exact hlt)⟩
      have hcx : wr.cell? ⟨b, o + j, none⟩ = some (.int .u8 (x.toNat : Int)) := (hB.cell (p := ⟨b, o + j, none⟩) hb).trans (hc j x hx)
      have HS := Lib.hid (hex_snoc l j x hx)
      obtain ⟨q, hq⟩ : ∃ q, x.toNat / 16 = q := ⟨_, rfl⟩
      obtain ⟨d, hd⟩ : ∃ d, x.toNat % 16 = d := ⟨_, rfl⟩
      have hxl := x.toNat_lt
      have hq16 : q < 16 := by omega
      have hd16 : d < 16 := by omega
      have eq1 : (x.toNat : Int) / 16 = (q : Int) := by omega
      have ed1 : bits .and .u8 (x.toNat : Int) 15 = (d : Int) := by rw [and15 _ hxl, hd]
      have HQ := Lib.hid (by rw [← u8_div, hq] : x / 16 = UInt8.ofNat q)
      have HD := Lib.hid (by rw [← u8_mod, hd] : x % 16 = UInt8.ofNat d)
      have q0 : (0 : Int) ≤ (q : Int) := by omega
      have q1 : (q : Int) < 16 := by omega
      have d0 : (0 : Int) ≤ (d : Int) := by omega
      have d1 : (d : Int) < 16 := by omega
      have Ho := Lib.hid hown
      have HB := Lib.hid hB
      obtain ⟨k, hk⟩ : ∃ k, 2 * j = k := ⟨_, rfl⟩
      have Hk := Lib.hid hk
      obtain ⟨Y, hY⟩ : ∃ y, hexD (UInt8.ofNat q) = y := ⟨_, rfl⟩
      obtain ⟨Z, hZ⟩ : ∃ y, hexD (UInt8.ofNat d) = y := ⟨_, rfl⟩
      have HYt := Lib.hid (by rw [← hY]; exact hexT q hq16 : ((⟨#[48, 49, 50, 51, 52, 53, 54, 55, 56, 57, 97, 98, 99, 100, 101, 102]⟩ : ByteArray)[q]'(hq16)) = Y)
      have HZt := Lib.hid (by rw [← hZ]; exact hexT d hd16 : ((⟨#[48, 49, 50, 51, 52, 53, 54, 55, 56, 57, 97, 98, 99, 100, 101, 102]⟩ : ByteArray)[d]'(hd16)) = Z)
      have HYe := Lib.hid hY
      have HZe := Lib.hid hZ
      clear hc hx hq hd hown hB hk hY hZ
      go_wp2_with fail
      refine wp_region_mid 7 (fun _ => True) (by kernel_rfl) (by kernel_rfl) (fun _ _ d _ _ h => by cases d <;> exact h) trivial _ rfl rfl ?_
      simp only [List.take_succ_cons, List.take_zero, List.drop_succ_cons, List.drop_zero]
      refine takeS_step u3 rfl (fun w' _ => by go_simp) ?_
      refine takeS_step (.int .u8 (x.toNat : Int)) rfl (fun w' _ => by go_simp) ?_
      refine takeS_step (.int .u8 (q : Int)) rfl (fun w' _ => by go_simp) ?_
      refine takeS_step (.int .u8 (Y.toNat : Int)) rfl (fun w' _ => by go_simp; rw [HYt.out]) ?_
      refine takeS_step (.int .u8 (x.toNat : Int)) rfl (fun w' _ => by go_simp) ?_
      refine takeS_step (.int .u8 (d : Int)) rfl (fun w' _ => by go_simp) ?_
      refine takeS_step (.int .u8 (Z.toNat : Int)) rfl (fun w' _ => by go_simp; rw [HZt.out]) ?_
      intro K hK
      go_simp
      refine hK _ _ trivial ?_
      clear hK K
      have Hod := Lib.hid (show World.ownsRow ((wr.alloc (.cells #[.int .u8 (Y.toNat : Int), .int .u8 (Z.toNat : Int)] 5)).drew) w.heap.size 5 1 u3 _ _ from Ho.out.alloc _)
      have hkl : k ≤ 70368744177664 := by have := Hk.out; omega
      go_wp2_with (at_builtin; refine wpList_append_own _ rfl _ _ 22 rfl w.heap.size 5 i0 (.int .u8 0) 1 1 Tryd.underlying22 hi hz0 hz1 hz2 rfl (by decide) _ _ _ rfl Hod.out ⟨wr.heap.size, 0, none⟩ 2 2 [.int .u8 (Y.toNat : Int), .int .u8 (Z.toNat : Int)] rfl rfl (World.news_of_block (heap_alloc_new _ _)) (by simp [Value.oneCell']) ?c3 ?c4 ?c5 ?_)
      case c3 => unfold maxLen; omega
      case c4 => omega
      case c5 => show w.heap.size ≤ (wr.alloc _).heap.size; simp; omega
      intro v4 w4 hown' hgrow _
      have HO4 := Lib.hid (by
        rw [HS.out, HQ.out, HD.out, HYe.out, HZe.out, List.append_assoc]
        unfold Lib.byteCells
        rw [List.map_append, show 2 * (j + 1) = 2 * j + 2 by omega]
        exact hown' : w4.ownsRow w.heap.size 5 1 v4 (2 * (j + 1)) (Lib.byteCells (hex (l.take (j + 1)))))
      have hB4 := (((HB.out.alloc (by omega) (.cells #[.int .u8 (Y.toNat : Int), .int .u8 (Z.toNat : Int)] 5))).drew).grown hgrow (by show w.heap.size ≤ (wr.alloc _).heap.size; simp; omega) (fun k' hk' => (Hod.out.lt k' hk').1)
      have HB4 := Lib.hid hB4
      clear hown' hgrow hB4
      go_wp2_with fail
      go_roundw
      case rel => exact ⟨j + 1, by omega, by go_num, HO4.out, HB4.out⟩
      case measure => simp [intOf]; omega
    · obtain rfl : j = N := by omega
      have hlx : (hex l).length = 2 * j := by rw [hex_len, HN.out]
      rw [List.take_of_length_le (by rw [HN.out]; exact Nat.le_refl _), ← hlx] at hown
      have hcv := conv_row hown
      clear hown hlx
      go_wp2_with fail
      go_ret
      exact ⟨rfl, hB⟩
end Hs
end Go.Proofs.YtakanjadcnmciaaDoor
