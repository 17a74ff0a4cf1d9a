/- Contracts of the reference's telephone and telephoned (dialtoneref02). A text has at most 2^21 bytes. -/
import Derived.Test.YtmmjfofdnpafkaaGreatDoorAdVa
namespace Go.Proofs.YtmmjfofdnpafkaaGreatDoor
namespace Ad
open Go.RowKit Lx

/-- Behind a reader's method that gives a text. -/
def RdT (b : Nat) (s : ByteArray) (r : List UInt8 × Nat × Int) (w : World) (e : Ending) (w' : World) : Prop :=
  ∃ t i', e = .returned (.string t) ∧ i' ≤ s.size ∧ Rdr b s i' (if r.2.2 = 0 then 0 else r.2.1) r.2.2 w' ∧ Kp [b] w w' ∧ (r.2.2 = 0 → t = Txt r.1 ∧ i' = r.2.1)
end Ad
end Go.Proofs.YtmmjfofdnpafkaaGreatDoor
