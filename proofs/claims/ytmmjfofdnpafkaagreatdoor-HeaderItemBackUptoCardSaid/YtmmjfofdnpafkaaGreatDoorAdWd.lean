/- Contracts of the reference's rest, bare and ParseAddress (dialtoneref02). A text has at most 2^20 bytes. -/
import Derived.Test.YtmmjfofdnpafkaaGreatDoorAdWb
import Derived.Test.YtmmjfofdnpafkaaGreatDoorAdVb
import Derived.Test.YtmmjfofdnpafkaaGreatDoorAdRm
import Derived.Test.YtmmjfofdnpafkaaGreatDoorM7
import Derived.Test.YtmmjfofdnpafkaaGreatDoorAdVt
namespace Go.Proofs.YtmmjfofdnpafkaaGreatDoor
namespace Ad
open Go.RowKit Lx

theorem tokE_len (l : List UInt8) (k : Nat) (hk : k ≤ l.length) : tokE l k ≤ l.length := by
  have := runL_le tokI (l.drop k)
  rw [List.length_drop] at this
  unfold tokE; omega
theorem blkE_len (l : List UInt8) (k : Nat) (hk : k ≤ l.length) : blkE l k ≤ l.length := by
  have := runL_le blankI (l.drop k)
  rw [List.length_drop] at this
  unfold blkE; omega
end Ad
end Go.Proofs.YtmmjfofdnpafkaaGreatDoor
