/- Contracts of URI and Tag of package header and of its reference; the reference's Address. A text has at most 2^20 bytes. -/
import Derived.Test.YtonbkedjlbhpfaaGreatDoorHeR
import Derived.Test.YtonbkedjlbhpfaaGreatDoorAdTu
import Derived.Test.YtonbkedjlbhpfaaGreatDoorAdSo
import Derived.Test.YtonbkedjlbhpfaaGreatDoorAdRp
import Derived.Test.YtonbkedjlbhpfaaGreatDoorAdVb
import Derived.Test.YtonbkedjlbhpfaaGreatDoorM7
namespace Go.Proofs.YtonbkedjlbhpfaaGreatDoor
namespace Ad
open Go.RowKit Lx

theorem rtrim_k (s : ByteArray) (t : List UInt8) (w : World) (hs : s.size ≤ 2097152) (ht : trS s.data.toList = t) : Calls Tryz.prog 100 #[.string s] w (TxK t w) :=
  (rtrim_any s w (by omega)).mono fun e w' h => ⟨by rw [← ht]; exact h.1, by rw [← h.2]; exact Kp.refl _ _⟩
end Ad
end Go.Proofs.YtonbkedjlbhpfaaGreatDoor
