/- Contract of the reference's Block (layer 6). A hash value of eight words, a block of 64 bytes. -/
import Derived.Test.YtakanjadcnmciaaDoorHsB
import Derived.Deep.AppendLies
import Derived.Laws.OwnMore
import Derived.Laws.AppendOwn
import Derived.Deep.RegionHeldLaw
namespace Go.Proofs.YtakanjadcnmciaaDoor
namespace Hs
open Go.RowKit Ad

theorem infoWd : (Tryd.prog.info? 27).map (fun i => (i.zero, i.size, i.bytes)) = some (some (.int .u32 0), 1, 4) := by kernel_rfl
theorem info_parts' {t : TypeId} {z : Option Value} {n b : Nat} (h : (Tryd.prog.info? t).map (fun i => (i.zero, i.size, i.bytes)) = some (z, n, b)) : ∃ i, Tryd.prog.info? t = some i ∧ i.zero = z ∧ i.size = n ∧ i.bytes = b := by
  cases hi : Tryd.prog.info? t with
  | none => rw [hi] at h; cases h
  | some i => rw [hi] at h; simp only [Option.map_some, Option.some.injEq, Prod.mk.injEq] at h; exact ⟨i, rfl, h.1, h.2.1, h.2.2⟩
theorem sh_is (a : UInt8) (n : UInt32) (m : Nat) (h : n.toNat % 32 = m) : (a.toUInt32 <<< n).toNat = a.toNat * 2 ^ m % 4294967296 := by
  rw [UInt32.toNat_shiftLeft, UInt8.toNat_toUInt32, h, Nat.shiftLeft_eq]
theorem wd_is (a b c d : UInt8) : ((((a.toNat : Int) * 16777216 % 4294967296 + (b.toNat : Int) * 65536 % 4294967296) % 4294967296 + (c.toNat : Int) * 256 % 4294967296) % 4294967296 + (d.toNat : Int)) % 4294967296 = ((a.toUInt32 <<< 24 + b.toUInt32 <<< 16 + c.toUInt32 <<< 8 + d.toUInt32).toNat : Int) := by
  have ha := sh_is a 24 24 rfl
  have hb := sh_is b 16 16 rfl
  have hc := sh_is c 8 8 rfl
  rw [UInt32.toNat_add, UInt32.toNat_add, UInt32.toNat_add, ha, hb, hc, UInt8.toNat_toUInt32]
  generalize a.toNat = a
  generalize b.toNat = b
  generalize c.toNat = c
  generalize d.toNat = d
  omega
theorem wd_isW (a b c d : UInt8) : IntKind.u32.wrap (IntKind.u32.wrap (IntKind.u32.wrap (IntKind.u32.wrap ((a.toNat : Int) * 16777216) + IntKind.u32.wrap ((b.toNat : Int) * 65536)) + IntKind.u32.wrap ((c.toNat : Int) * 256)) + (d.toNat : Int)) = ((a.toUInt32 <<< 24 + b.toUInt32 <<< 16 + c.toUInt32 <<< 8 + d.toUInt32).toNat : Int) := by
  have := wd_is a b c d
  simp only [IntKind.wrap_u32']
  exact this
theorem words_lo (bl : List UInt8) (j : Nat) (h : j < 16) : wordsL bl (j + 1) = wordsL bl j ++ [wd bl j] := by
  conv => lhs; unfold wordsL
  rw [if_pos h]
theorem words_hi (bl : List UInt8) (j : Nat) (h : ¬ j < 16) : wordsL bl (j + 1) = wordsL bl j ++ [sm1 ((wordsL bl j).getD (j - 2) 0) + (wordsL bl j).getD (j - 7) 0 + sm0 ((wordsL bl j).getD (j - 15) 0) + (wordsL bl j).getD (j - 16) 0] := by
  conv => lhs; unfold wordsL
  rw [if_neg h]
theorem words_len (bl : List UInt8) (j : Nat) : (wordsL bl j).length = j := by
  induction j with
  | zero => rfl
  | succ j ih => unfold wordsL; rw [List.length_append, ih]; rfl
theorem own_wd {w : World} {base : Nat} {e : TypeId} {g n c : Nat} {l : List UInt32} (h : w.ownsRow base e 1 (.slice (some ⟨g, 0, none⟩) n c) n (l.map wv)) (hl : l.length = n) (k : Nat) (hk : k < n) (x : UInt32) (hx : l.getD k 0 = x) : w.cell? ⟨g, k, none⟩ = some (.int .u32 x.toNat) := by
  rw [h.cellAt k (by omega), ← hx]
  simp [List.getD_eq_getElem?_getD, List.getElem?_eq_getElem (by omega : k < l.length), wv]
theorem hi_is (a b c d : UInt32) : IntKind.u32.wrap (IntKind.u32.wrap (IntKind.u32.wrap ((a.toNat : Int) + (b.toNat : Int)) + (c.toNat : Int)) + (d.toNat : Int)) = ((a + b + c + d).toNat : Int) := by
  rw [w_add, w_add, w_add]
theorem alloc_sz (w : World) (o : Obj) : (w.alloc o).heap.size = w.heap.size + 1 := Array.size_push _
theorem bl_cell {w : World} {g : Nat} {t : TypeId} {bl : List UInt8} (B : Blk w g t (bl.map bv).toArray) (p : Nat) (c : UInt8) (h : p < bl.length) (hc : bl.getD p 0 = c) : w.cell? ⟨g, p, none⟩ = some (.int .u8 c.toNat) := by
  rw [B.cell p, ← hc]
  simp [List.getD_eq_getElem?_getD, List.getElem?_eq_getElem h, bv]
end Hs
end Go.Proofs.YtakanjadcnmciaaDoor
