/- Contract of the reference's value (dialtoneref02). A text has at most 2^21 bytes. -/
import Derived.Test.YtmmjfofdnpafkaaGreatDoorAdRm
namespace Go.Proofs.YtmmjfofdnpafkaaGreatDoor
namespace Ad
open Go.RowKit Lx

theorem rblkE (s : ByteArray) (k : Nat) (w : World) (hs : s.size ≤ 2097152) (hk : k ≤ s.size) : Calls Tryz.prog 78 #[.string s, .int .i64 k] w (Ret (.int .i64 (blkE s.data.toList k : Nat)) w) := by
  have := rblanks_any s k w (by unfold maxLen; omega)
  rwa [blkE_bhd s k hk] at this
end Ad
end Go.Proofs.YtmmjfofdnpafkaaGreatDoor
