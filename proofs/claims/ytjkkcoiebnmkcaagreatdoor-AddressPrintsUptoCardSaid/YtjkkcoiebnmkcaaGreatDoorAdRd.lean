/- AddressRound of package dialtonelaw02 returns true for every URI of moderate size, and nothing that was there is changed. -/
import Derived.Test.YtjkkcoiebnmkcaaGreatDoorM8
namespace Go.Proofs.YtjkkcoiebnmkcaaGreatDoor
namespace Ad
open Go.RowKit Lx

theorem UriIn.up {B B' : Nat} {w : World} {v : Value} {u : Uri} (h : UriIn B w v u) (hB : B ≤ B') : UriIn B' w v u := by
  obtain ⟨vp, vh, he, h1, h2⟩ := h
  exact ⟨vp, vh, he, h1.more hB, h2.more hB⟩
end Ad
end Go.Proofs.YtjkkcoiebnmkcaaGreatDoor
