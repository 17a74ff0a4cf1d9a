/- Texts of one set of library modules: AdAr. -/
import Derived.Test.YtmmjfofdnpafkaaGreatDoorZ14
import Derived.Test.YtmmjfofdnpafkaaGreatDoorZ6
import Derived.Deep.Slices
import Derived.Deep.Fields
import Derived.ChangeSame
import Derived.WideKeyArgs
namespace Go.Proofs.YtmmjfofdnpafkaaGreatDoor
namespace Ad
open Go.RowKit Go.ChangeShapes Go.WideShapes Go.Deep Lx
section
variable {H : Type} {enc : TypeId × Value → H} {W : World} {base : Nat}
structure SzM (m : Nat) (u : Uri) : Prop where
 scheme : u.scheme.length ≤ m
 user : u.user.length ≤ m
 host : u.host.length ≤ m
 params : u.params.length ≤ m
 heads : u.heads.length ≤ m
 ps : SzL m u.params
 hs : SzL m u.heads
theorem SzL.up {m m' : Nat} {l : List Prm} (h : SzL m l) (hm : m ≤ m') : SzL m' l := fun p hp => by have := h p hp; omega
theorem SzM.up {m m' : Nat} {u : Uri} (h : SzM m u) (hm : m ≤ m') : SzM m' u :=
 ⟨Nat.le_trans h.scheme hm, Nat.le_trans h.user hm, Nat.le_trans h.host hm, Nat.le_trans h.params hm, Nat.le_trans h.heads hm, h.ps.up hm, h.hs.up hm⟩
theorem SzM.szU {m : Nat} {u : Uri} (h : SzM m u) (hm : m ≤ 1048576) : SzU u ∧ u.host.length ≤ 1048576 := by
 have h1 := h.scheme; have h2 := h.user; have h3 := h.host; have h4 := h.params; have h5 := h.heads
 exact ⟨⟨by omega, by omega, by omega, by omega, by omega, fun p hp => (by have := h.ps p hp; omega), fun p hp => (by have := h.hs p hp; omega)⟩, by omega⟩
end
end Ad
end Go.Proofs.YtmmjfofdnpafkaaGreatDoor
