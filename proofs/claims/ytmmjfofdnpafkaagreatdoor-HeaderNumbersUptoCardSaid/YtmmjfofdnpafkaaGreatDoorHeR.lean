/- Contracts of isItem and Item of package header. A text has at most 2^20 bytes. -/
import Derived.Test.YtmmjfofdnpafkaaGreatDoorM13
namespace Go.Proofs.YtmmjfofdnpafkaaGreatDoor
namespace Ad
open Go.RowKit Lx

def Zib (w : World) (g : Nat) : Prop := Blk w g 59 #[.string ⟨#[]⟩, .slice none 0 0]
theorem Zib.nob {w : World} {g : Nat} (h : Zib w g) : NoB w g := by
  intro i t hc
  rw [Blk.cell h i] at hc
  match i, hc with
  | 0, hc => simp at hc
  | 1, hc => simp at hc
  | i + 2, hc => simp at hc
theorem Zib.kp {X : List Nat} {w w' : World} {g : Nat} (h : Zib w g) (k : Kp X w w') (hg : g ∉ X) : Zib w' g := Blk.kp h k hg
end Ad
end Go.Proofs.YtmmjfofdnpafkaaGreatDoor
