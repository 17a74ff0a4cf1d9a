/- Contract of the reference's Sorted (dialtoneref02). -/
import Derived.Test.YtmmjfofdnpafkaaGreatDoorAdTu
namespace Go.Proofs.YtmmjfofdnpafkaaGreatDoor
namespace Ad
open Go.RowKit Lx

theorem PmIn.drop {B : Nat} {w : World} {b o n c : Nat} {l : List Prm} (hb : b < B) (hn : l.length = n) (hc : n ≤ c) (hcell : ∀ (i : Nat) (u : Value), (pcl l)[i]? = some u → w.cell? ⟨b, o + i, none⟩ = some u) (k : Nat) (hk : k ≤ n) : PmIn B w (.slice (some ⟨b, o + k * 3, none⟩) (n - k) (c - k)) (l.drop k) := by
  refine ⟨n - k, c - k, by rw [List.length_drop]; omega, by omega, .inr ⟨b, o + k * 3, rfl, hb, fun i u hu => ?_⟩⟩
  have e : pcl l = pcl (l.take k) ++ pcl (l.drop k) := by rw [← pcl_app, List.take_append_drop]
  have hl : (pcl (l.take k)).length = k * 3 := by rw [pcl_len, List.length_take, Nat.min_eq_left (by omega)]
  have := hcell (k * 3 + i) u (by rw [e, List.getElem?_append_right (by omega), hl]; rw [show k * 3 + i - k * 3 = i from by omega]; exact hu)
  rwa [← Nat.add_assoc] at this
end Ad
end Go.Proofs.YtmmjfofdnpafkaaGreatDoor
