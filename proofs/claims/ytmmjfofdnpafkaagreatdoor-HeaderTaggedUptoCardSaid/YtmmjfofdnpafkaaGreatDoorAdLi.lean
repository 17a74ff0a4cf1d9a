/- AddressLists of package dialtonelaw02 returns true for every text of at most 2^20 bytes, every list and every parameter, and nothing that was there is changed. -/
import Derived.Test.YtmmjfofdnpafkaaGreatDoorAdSt
import Derived.Test.YtmmjfofdnpafkaaGreatDoorM8
namespace Go.Proofs.YtmmjfofdnpafkaaGreatDoor
namespace Ad
open Go.RowKit Lx

theorem stL_len (l : List Prm) (nm x : List UInt8) : (stL l nm x).length ≤ l.length + 1 := by
  unfold stL
  split
  · simp
  · simp
end Ad
end Go.Proofs.YtmmjfofdnpafkaaGreatDoor
