/- Contracts of URI and Tag of package header and of its reference; the reference's Address. A text has at most 2^20 bytes. -/
import Derived.Test.YtmmjfofdnpafkaaGreatDoorHeR
import Derived.Test.YtmmjfofdnpafkaaGreatDoorAdTu
import Derived.Test.YtmmjfofdnpafkaaGreatDoorAdSo
import Derived.Test.YtmmjfofdnpafkaaGreatDoorAdRp
import Derived.Test.YtmmjfofdnpafkaaGreatDoorAdVb
import Derived.Test.YtmmjfofdnpafkaaGreatDoorM7
namespace Go.Proofs.YtmmjfofdnpafkaaGreatDoor
namespace Ad
open Go.RowKit Lx

theorem rtrim_k (s : ByteArray) (t : List UInt8) (w : World) (hs : s.size ≤ 2097152) (ht : trS s.data.toList = t) : Calls Tryz.prog 76 #[.string s] w (TxK t w) :=
  (rtrim_any s w (by omega)).mono fun e w' h => ⟨by rw [← ht]; exact h.1, by rw [← h.2]; exact Kp.refl _ _⟩
end Ad
end Go.Proofs.YtmmjfofdnpafkaaGreatDoor
