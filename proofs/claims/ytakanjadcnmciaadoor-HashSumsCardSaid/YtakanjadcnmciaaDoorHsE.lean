/- Contract of the reference's Hex (layer 6). At most 2^30 bytes. -/
import Derived.Test.YtakanjadcnmciaaDoorHsHex
import Derived.Test.YtakanjadcnmciaaDoorHsA
import Derived.Test.YtakanjadcnmciaaDoorLxSpec
namespace Go.Proofs.YtakanjadcnmciaaDoor
namespace Hs
open Go.RowKit Ad

/-- A slice that reads as these bytes. -/
def ByIn (w : World) (A : Option Addr) (l : List UInt8) : Prop := l = [] ∨ ∃ b o, A = some ⟨b, o, none⟩ ∧ b < w.heap.size ∧ ∀ i c, l[i]? = some c → w.cell? ⟨b, o + i, none⟩ = some (.int .u8 (c.toNat : Int))
theorem hex_snoc (l : List UInt8) (j : Nat) (x : UInt8) (h : l[j]? = some x) : hex (l.take (j + 1)) = hex (l.take j) ++ [hexD (x / 16)] ++ [hexD (x % 16)] := by
  rw [List.take_add_one, h]
  unfold hex
  rw [List.flatMap_append]
  simp
theorem hex_cut (d : Nat) (h : d < 16) : (⟨#[48, 49, 50, 51, 52, 53, 54, 55, 56, 57, 97, 98, 99, 100, 101, 102]⟩ : ByteArray).extract d (d + 1) = ⟨[hexD (UInt8.ofNat d)].toArray⟩ := by
  have : d = 0 ∨ d = 1 ∨ d = 2 ∨ d = 3 ∨ d = 4 ∨ d = 5 ∨ d = 6 ∨ d = 7 ∨ d = 8 ∨ d = 9 ∨ d = 10 ∨ d = 11 ∨ d = 12 ∨ d = 13 ∨ d = 14 ∨ d = 15 := by omega
  rcases this with rfl | rfl | rfl | rfl | rfl | rfl | rfl | rfl | rfl | rfl | rfl | rfl | rfl | rfl | rfl | rfl <;> rfl
theorem cat_ba (a b : List UInt8) : (⟨a.toArray⟩ : ByteArray) ++ ⟨b.toArray⟩ = ⟨(a ++ b).toArray⟩ := by
  apply ByteArray.ext
  rw [ByteArray.data_append]
  simp
theorem ba_size (a : List UInt8) : (⟨a.toArray⟩ : ByteArray).size = a.length := by show a.toArray.size = _; simp
theorem u8_div (x : UInt8) : UInt8.ofNat (x.toNat / 16) = x / 16 := by apply UInt8.toNat_inj.1; rw [UInt8.toNat_div]; show x.toNat / 16 % 256 = x.toNat / 16; have := x.toNat_lt; omega
theorem u8_mod (x : UInt8) : UInt8.ofNat (x.toNat % 16) = x % 16 := by apply UInt8.toNat_inj.1; rw [UInt8.toNat_mod]; show x.toNat % 16 % 256 = x.toNat % 16; omega
set_option maxRecDepth 100000 in
set_option maxHeartbeats 1000000 in
theorem rhex_any (l : List UInt8) (A : Option Addr) (c : Nat) (w : World) (h : ByIn w A l) (hl : l.length ≤ 1073741824) : Calls Tryd.prog 18 #[.slice A l.length c] w fun e w' => e = .returned (.string ⟨(hex l).toArray⟩) ∧ ∃ n, w' = w.drewN n := by
  go_enter Tryd.func18, Tryd.ntmps18
  go_wp2_with fail
  go_loopw [3, 4] (fun s i wr => ∃ j : Nat, j ≤ l.length ∧ i = .int .i64 j ∧ s = .string ⟨(hex (l.take j)).toArray⟩ ∧ ∃ m, wr = w.drewN m) (fun _ i _ => l.length - (intOf i).toNat)
  case atStart => exact ⟨0, by omega, rfl, rfl, 0, rfl⟩
  case round =>
    obtain ⟨j, hj, rfl, rfl, m, rfl⟩ := hrel
    by_cases hlt : j < l.length
    · rcases h with rfl | ⟨b, o, rfl, hb, hc⟩
      · simp at hlt
      · obtain ⟨x, hx⟩ : ∃ x, l[j]? = some x := ⟨_, List.getElem?_eq_getElem hlt⟩
        have hcj := hc j x hx
        have HS := Lib.hid (hex_snoc l j x hx)
        obtain ⟨q, hq⟩ : ∃ q, x.toNat / 16 = q := ⟨_, rfl⟩
        obtain ⟨d, hd⟩ : ∃ d, x.toNat % 16 = d := ⟨_, rfl⟩
        have hxl := x.toNat_lt
        have hq16 : q < 16 := by omega
        have hd16 : d < 16 := by omega
        have hcq := hex_cut q hq16
        have hcd := hex_cut d hd16
        rw [← hq, u8_div, hq] at hcq
        rw [← hd, u8_mod, hd] at hcd
        obtain ⟨y, hy⟩ : ∃ y, hexD (x / 16) = y := ⟨_, rfl⟩
        obtain ⟨z, hz⟩ : ∃ z, hexD (x % 16) = z := ⟨_, rfl⟩
        rw [hy] at hcq HS
        rw [hz] at hcd HS
        have hwq : IntKind.i64.wrap ((x.toNat : Int) / 16) = (q : Int) := by rw [IntWalk.i64_in _ (by omega)]; omega
        have hwd : (x.toNat : Int).tmod 16 = (d : Int) := by rw [Int.tmod_eq_emod_of_nonneg (by omega)]; omega
        obtain ⟨P, hP⟩ : ∃ P, hex (l.take j) = P := ⟨_, rfl⟩
        have hPl : P.length ≤ 2 * l.length := by rw [← hP, hex_len, List.length_take]; omega
        rw [hP] at HS
        rw [hP]
        obtain ⟨S, hS⟩ : ∃ S : ByteArray, ⟨P.toArray⟩ = S := ⟨_, rfl⟩
        obtain ⟨Y, hY⟩ : ∃ S : ByteArray, ⟨[y].toArray⟩ = S := ⟨_, rfl⟩
        obtain ⟨Z, hZ⟩ : ∃ S : ByteArray, ⟨[z].toArray⟩ = S := ⟨_, rfl⟩
        have sS : S.size ≤ 2147483648 := by rw [← hS, ba_size]; omega
        have sY : Y.size ≤ 1 := by rw [← hY, ba_size]; exact Nat.le_refl _
        have sZ : Z.size ≤ 1 := by rw [← hZ, ba_size]; exact Nat.le_refl _
        have HR := Lib.hid (by rw [HS.out, ← cat_ba, ← cat_ba, hS, hY, hZ] : (⟨(hex (l.take (j + 1))).toArray⟩ : ByteArray) = S ++ Y ++ Z)
        have m1 : S.size + Y.size ≤ maxLen := by unfold maxLen; omega
        have m2 : (S ++ Y).size + Z.size ≤ maxLen := by rw [ByteArray.size_append]; unfold maxLen; omega
        rw [hY] at hcq
        rw [hZ] at hcd
        rw [hS]
        clear hS hY hZ
        obtain ⟨q1, hq1⟩ : ∃ k, q + 1 = k := ⟨_, rfl⟩
        obtain ⟨d1, hd1⟩ : ∃ k, d + 1 = k := ⟨_, rfl⟩
        rw [hq1] at hcq
        rw [hd1] at hcd
        have eq1 : (q : Int) + 1 = (q1 : Int) := by omega
        have ed1 : (d : Int) + 1 = (d1 : Int) := by omega
        have wq1 : IntKind.i64.wrap (q1 : Int) = (q1 : Int) := IntWalk.i64_in _ (by omega)
        have wd1 : IntKind.i64.wrap (d1 : Int) = (d1 : Int) := IntWalk.i64_in _ (by omega)
        have bq0 : (0 : Int) ≤ (q : Int) := by omega
        have bd0 : (0 : Int) ≤ (d : Int) := by omega
        have bq1 : (q : Int) ≤ (q1 : Int) := by omega
        have bd1 : (d : Int) ≤ (d1 : Int) := by omega
        have bq2 : (q1 : Int) ≤ 16 := by omega
        have bd2 : (d1 : Int) ≤ 16 := by omega
        clear hc hx hq hd hy hz hP hPl hq1 hd1 hq16 hd16
        go_wp2_with fail
        go_quiet (fail)
        go_wp2_with fail
        rw [World.drewN_drewN]
        go_quiet (fail)
        go_wp2_with fail
        go_roundw
        case rel => exact ⟨j + 1, by omega, by go_num, by rw [HR.out], _, rfl⟩
        case measure => simp [intOf]; omega
    · have HT := Lib.hid (by rw [List.take_of_length_le (by omega)] : l.take j = l)
      go_wp2_with fail
      go_ret
      exact ⟨by rw [HT.out]; rfl, m, rfl⟩
end Hs
end Go.Proofs.YtakanjadcnmciaaDoor
