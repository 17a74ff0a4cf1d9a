/- AddressLists of package dialtonelaw02 returns true for every text of at most 2^20 bytes, every list and every parameter, and nothing that was there is changed. -/
import Derived.Test.YtmmjfofdnpafkaaGreatDoorAdSt
import Derived.Test.YtmmjfofdnpafkaaGreatDoorM8
namespace Go.Proofs.YtmmjfofdnpafkaaGreatDoor
namespace Ad
open Go.RowKit Lx

theorem same_self (B1 B2 : Nat) (va vb : Value) (l : List Prm) (w : World) (hA : PmIn B1 w va l) (hB : PmIn B2 w vb l) (h1 : B1 ≤ w.heap.size) (h2 : B2 ≤ w.heap.size) (hll : l.length ≤ 4294967296) : Calls Tryz.prog 47 #[va, vb] w (BoK true w) := by
  have := sameP_any B1 B2 va vb l l w hA hB h1 h2 hll hll
  rwa [beq_self_eq_true] at this
end Ad
end Go.Proofs.YtmmjfofdnpafkaaGreatDoor
