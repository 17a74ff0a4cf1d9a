/- Texts of one set of library modules: HeKc. -/
import Derived.Test.YtbcaindpbeaheaaGreatDoorZ32
import Derived.Maps.AppendAt
import Derived.Laws.AppendOwn
namespace Go.Proofs.YtbcaindpbeaheaaGreatDoor
namespace Ad
open Go.RowKit Lx
theorem list_sz (l : List UInt8) (n : Nat) (hl : l.length ≤ n) : (listR l).1.length ≤ n + 1 := by
 have h := spF_len2 l 44
 unfold listR
 split
 ·exact Nat.zero_le _
 ·split
  ·exact Nat.zero_le _
  ·rw [List.length_map]; omega
end Ad
end Go.Proofs.YtbcaindpbeaheaaGreatDoor
