/- The words of a block as the program makes them: byte after byte, then word after word (layer 6). No program. -/
import Derived.Test.YtakanjadcnmciaaDoorHsB
import Derived.Test.YtakanjadcnmciaaDoorHsC
namespace Go.Proofs.YtakanjadcnmciaaDoor
namespace Hs
open Go.RowKit Ad

def accW (bl : List UInt8) : Nat → List UInt32
  | 0 => List.replicate 64 0
  | j + 1 => (accW bl j).set (j / 4) (((accW bl j).getD (j / 4) 0) <<< 8 ||| (bl.getD j 0).toUInt32)
theorem accW_s (bl : List UInt8) (j k : Nat) (h : j / 4 = k) : accW bl (j + 1) = (accW bl j).set k (((accW bl j).getD k 0) <<< 8 ||| (bl.getD j 0).toUInt32) := by subst h; rfl
theorem accW_len (bl : List UInt8) (j : Nat) : (accW bl j).length = 64 := by
  induction j with
  | zero => simp [accW]
  | succ j ih => unfold accW; rw [List.length_set, ih]
theorem or8 (x : UInt32) (c : UInt8) (h : x.toNat < 16777216) : (x <<< 8 ||| c.toUInt32).toNat = x.toNat * 256 + c.toNat := by
  have hc := c.toNat_lt
  have hs : (x <<< 8).toNat = x.toNat * 256 := by
    rw [UInt32.toNat_shiftLeft]
    show x.toNat <<< (8 % 32) % 2 ^ 32 = _
    rw [Nat.shiftLeft_eq, show (2 : Nat) ^ (8 % 32) = 256 from rfl]; omega
  rw [UInt32.toNat_or, hs, UInt8.toNat_toUInt32]
  have := Nat.shiftLeft_add_eq_or_of_lt (i := 8) (b := c.toNat) (by omega) x.toNat
  rw [Nat.shiftLeft_eq] at this
  exact this.symm
theorem acc_word (a b c d : UInt8) : ((((0 : UInt32) <<< 8 ||| a.toUInt32) <<< 8 ||| b.toUInt32) <<< 8 ||| c.toUInt32) <<< 8 ||| d.toUInt32 = a.toUInt32 <<< 24 + b.toUInt32 <<< 16 + c.toUInt32 <<< 8 + d.toUInt32 := by
  have ha := a.toNat_lt
  have hb := b.toNat_lt
  have hc := c.toNat_lt
  have hd := d.toNat_lt
  have h1 := or8 0 a (by decide)
  have h2 := or8 _ b (by rw [h1]; show 0 * 256 + a.toNat < _; omega)
  have h3 := or8 _ c (by rw [h2, h1]; show (0 * 256 + a.toNat) * 256 + b.toNat < _; omega)
  have h4 := or8 _ d (by rw [h3, h2, h1]; show ((0 * 256 + a.toNat) * 256 + b.toNat) * 256 + c.toNat < _; omega)
  apply UInt32.toNat_inj.1
  rw [h4, h3, h2, h1]
  have e := wd_is a b c d
  have z : (0 : UInt32).toNat = 0 := rfl
  rw [z]
  omega
theorem get_mid (x z : List UInt32) (y d : UInt32) : (x ++ y :: z).getD x.length d = y := by simp [List.getD_eq_getElem?_getD]
theorem set_mid32 (x z : List UInt32) (y : UInt32) (c : UInt32) : (x ++ y :: z).set x.length c = x ++ c :: z := by
  rw [List.set_append_right _ _ (Nat.le_refl _), Nat.sub_self, List.set_cons_zero]
theorem accW_4 (bl : List UInt8) (k : Nat) (h : k ≤ 16) : accW bl (4 * k) = wordsL bl k ++ List.replicate (64 - k) 0 := by
  induction k with
  | zero => simp [accW, wordsL]
  | succ k ih =>
    have ih := ih (by omega)
    have hl := words_len bl k
    obtain ⟨L, hL⟩ : ∃ L, wordsL bl k = L := ⟨_, rfl⟩
    obtain ⟨Z, hZ⟩ : ∃ Z, List.replicate (63 - k) (0 : UInt32) = Z := ⟨_, rfl⟩
    rw [show 64 - k = (63 - k) + 1 by omega, List.replicate_succ, hL, hZ] at ih
    rw [hL] at hl
    have g := fun y => get_mid L Z y 0
    have st := fun y c => set_mid32 L Z y c
    rw [hl] at g st
    have e1 := accW_s bl (4 * k) k (by omega)
    rw [ih, g, st] at e1
    have e2 := accW_s bl (4 * k + 1) k (by omega)
    rw [e1, g, st] at e2
    have e3 := accW_s bl (4 * k + 2) k (by omega)
    rw [e2, g, st] at e3
    have e4 := accW_s bl (4 * k + 3) k (by omega)
    rw [e3, g, st, acc_word] at e4
    rw [show 4 * (k + 1) = 4 * k + 3 + 1 by omega, e4, words_lo bl k (by omega), hL, show 64 - (k + 1) = 63 - k by omega, hZ]
    unfold wd
    simp
/-- The words while they are made. -/
def fillW (bl : List UInt8) (j : Nat) : List UInt32 := wordsL bl j ++ List.replicate (64 - j) 0
theorem fillW_len (bl : List UInt8) (j : Nat) (h : j ≤ 64) : (fillW bl j).length = 64 := by
  unfold fillW
  rw [List.length_append, words_len, List.length_replicate]; omega
theorem fillW_64 (bl : List UInt8) : fillW bl 64 = wordsL bl 64 := by simp [fillW]
theorem fillW_get (bl : List UInt8) (j k : Nat) (h : k < j) : (fillW bl j).getD k 0 = (wordsL bl j).getD k 0 := by
  unfold fillW
  rw [List.getD_eq_getElem?_getD, List.getElem?_append_left (by rw [words_len]; exact h), ← List.getD_eq_getElem?_getD]
theorem fillW_set (bl : List UInt8) (j : Nat) (h1 : 16 ≤ j) (h2 : j < 64) : (fillW bl j).set j (sm1 ((fillW bl j).getD (j - 2) 0) + (fillW bl j).getD (j - 7) 0 + sm0 ((fillW bl j).getD (j - 15) 0) + (fillW bl j).getD (j - 16) 0) = fillW bl (j + 1) := by
  rw [fillW_get _ _ _ (by omega), fillW_get _ _ _ (by omega), fillW_get _ _ _ (by omega), fillW_get _ _ _ (by omega)]
  have hl := words_len bl j
  conv => rhs; unfold fillW
  rw [words_hi bl j (by omega)]
  generalize (sm1 ((wordsL bl j).getD (j - 2) 0) + (wordsL bl j).getD (j - 7) 0 + sm0 ((wordsL bl j).getD (j - 15) 0) + (wordsL bl j).getD (j - 16) 0) = x
  unfold fillW
  rw [show 64 - j = (64 - (j + 1)) + 1 by omega, List.replicate_succ]
  have := set_mid32 (wordsL bl j) (List.replicate (64 - (j + 1)) 0) 0 x
  rw [hl] at this
  rw [this]
  simp
end Hs
end Go.Proofs.YtakanjadcnmciaaDoor
