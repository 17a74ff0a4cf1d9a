/- Contract of the reference's Parse (dialtoneref02). A text has at most 2^21 bytes. -/
import Derived.Test.YtmmjfofdnpafkaaGreatDoorAdVb
import Derived.StillTailTactics
import Derived.Laws.ResultCell
import Derived.Test.YtmmjfofdnpafkaaGreatDoorAdTu
import Derived.Test.YtmmjfofdnpafkaaGreatDoorAdSo
import Derived.Test.YtmmjfofdnpafkaaGreatDoorAdRp
import Derived.Test.YtmmjfofdnpafkaaGreatDoorM6
namespace Go.Proofs.YtmmjfofdnpafkaaGreatDoor
namespace Ad
open Go.RowKit Lx
/-- Behind a reader's method that gives a text, whatever error was noted before. -/
def RdA (b : Nat) (s : ByteArray) (r : List UInt8 × Nat × Int) (p : Nat) (x : Int) (w : World) (en : Ending) (w' : World) : Prop :=
  ∃ t i' P X, en = .returned (.string t) ∧ i' ≤ s.size ∧ Rdr b s i' P X w' ∧ Kp [b] w w' ∧ (X = 0 → P = 0) ∧ (x ≠ 0 → P = p ∧ X = x) ∧ (x = 0 → (r.2.2 ≠ 0 → P = r.2.1 ∧ X = r.2.2) ∧ (r.2.2 = 0 → X = 0 ∧ t = Txt r.1 ∧ i' = r.2.1))
theorem RdT.all {b : Nat} {s : ByteArray} {r : List UInt8 × Nat × Int} {w w' : World} {en : Ending} (h : RdT b s r w en w') : RdA b s r 0 0 w en w' := by
  obtain ⟨t, i', he, hi, hR, hK, h0⟩ := h
  refine ⟨t, i', _, _, he, hi, hR, hK, fun h => by rw [if_pos h], fun h => absurd rfl h, fun _ => ⟨fun h => ⟨by rw [if_neg h], rfl⟩, fun h => ⟨h, h0 h⟩⟩⟩
theorem Urb.far {bu : Nat} {S U H P vp vh : Value} {w : World} (h : Urb w bu S U H P vp vh) {p : Addr} (hp : bu ≠ p.block) (u : Value) : Urb (w.setCell p u) bu S U H P vp vh := Blk.far h hp u
theorem Rdr.far {b i q : Nat} {s : ByteArray} {e : Int} {w : World} (h : Rdr b s i q e w) {p : Addr} (hp : b ≠ p.block) (u : Value) : Rdr b s i q e (w.setCell p u) := Blk.far h hp u
end Ad
end Go.Proofs.YtmmjfofdnpafkaaGreatDoor
