/- Texts of one set of library modules: HeSb. -/
import Derived.Test.YtmmjfofdnpafkaaGreatDoorZ4
import Derived.Test.YtmmjfofdnpafkaaGreatDoorZ6
namespace Go.Proofs.YtmmjfofdnpafkaaGreatDoor
namespace Ad
open Go.RowKit Lx Go.Shelf
attribute [local go_sem] Oper.semAt_some
abbrev encP1 (p : Prm) : Array Value := #[.agg (pc1 p).toArray]
theorem kp_gb {w w' : World} (h : Kp [] w w') : w.grownBy w' none :=
 ⟨h.os, h.tape, h.output, h.size, fun k hk _ => h.block k hk (by simp)⟩
theorem take_snocP (L : List Prm) (k : Nat) (x : Prm) (h : L[k]? = some x) : L.take (k + 1) = L.take k ++ [x] := by
 rw [List.take_add_one, h]; rfl
theorem pcl_three (L : List Prm) (k : Nat) (x1 x2 : List UInt8) (x3 : Bool) (h : L[k]? = some (x1, x2, x3)) : (pcl L)[k * 3]? = some (.string ⟨x1.toArray⟩) ∧ (pcl L)[k * 3 + 1]? = some (.string ⟨x2.toArray⟩) ∧ (pcl L)[k * 3 + 2]? = some (.bool x3) :=
 ⟨pcl_at L k _ h 0 _ rfl, pcl_at L k _ h 1 _ rfl, pcl_at L k _ h 2 _ rfl⟩
end Ad
end Go.Proofs.YtmmjfofdnpafkaaGreatDoor
