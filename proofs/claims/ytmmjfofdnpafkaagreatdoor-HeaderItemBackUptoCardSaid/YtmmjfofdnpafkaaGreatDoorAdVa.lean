/- Contracts of the reference's reader: fail, is, until (dialtoneref02). A text has at most 2^20 bytes. -/
import Derived.Test.YtmmjfofdnpafkaaGreatDoorAdPx
import Derived.Test.YtmmjfofdnpafkaaGreatDoorM8
namespace Go.Proofs.YtmmjfofdnpafkaaGreatDoor
namespace Ad
open Go.RowKit Lx

/-- The reader at block b: its text, its offset, and the first error with its offset. -/
def Rdr (b : Nat) (s : ByteArray) (i p : Nat) (e : Int) (w : World) : Prop := Blk w b 260 #[.string s, .int .i64 i, .int .i64 p, .int .u8 e]
section
variable {b i p : Nat} {s : ByteArray} {e : Int} {w w' : World} {X : List Nat}
theorem Rdr.lt (h : Rdr b s i p e w) : b < w.heap.size := Blk.lt h
theorem Rdr.c0 (h : Rdr b s i p e w) : w.cell? ⟨b, 0, none⟩ = some (.string s) := Blk.cell h 0
theorem Rdr.c1 (h : Rdr b s i p e w) : w.cell? ⟨b, 1, none⟩ = some (.int .i64 i) := Blk.cell h 1
theorem Rdr.c2 (h : Rdr b s i p e w) : w.cell? ⟨b, 2, none⟩ = some (.int .i64 p) := Blk.cell h 2
theorem Rdr.c3 (h : Rdr b s i p e w) : w.cell? ⟨b, 3, none⟩ = some (.int .u8 e) := Blk.cell h 3
theorem Rdr.fr (h : Rdr b s i p e w) (k : Nat) : w.frozen? ⟨b, k, none⟩ = false := Blk.frozen h k
theorem Rdr.kp (h : Rdr b s i p e w) (k : Kp X w w') (hb : b ∉ X) : Rdr b s i p e w' := Blk.kp h k hb
end
/-- A truth value, read off without a change but for draws. -/
def IsP (x : Bool) (w : World) (e : Ending) (w' : World) : Prop := e = .returned (.bool x) ∧ ∃ n, w' = w.drewN n
theorem IsP.k {x : Bool} {w w' : World} {e : Ending} (h : IsP x w e w') : BoK x w e w' := ⟨h.1, by obtain ⟨n, hn⟩ := h.2; rw [hn]; exact (Kp.refl [] w).drewN n⟩
end Ad
end Go.Proofs.YtmmjfofdnpafkaaGreatDoor
