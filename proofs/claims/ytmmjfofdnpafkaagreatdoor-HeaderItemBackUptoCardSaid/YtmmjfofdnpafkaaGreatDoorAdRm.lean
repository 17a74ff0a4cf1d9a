/- Contracts of the reference's find, room, Get, plain and Bracketed (dialtoneref02). Texts have at most 2^21 bytes. -/
import Derived.Test.YtmmjfofdnpafkaaGreatDoorAdRl
import Derived.Test.YtmmjfofdnpafkaaGreatDoorAdFi
import Derived.Test.YtmmjfofdnpafkaaGreatDoorAdPu
import Derived.Deep.LoopGhost
namespace Go.Proofs.YtmmjfofdnpafkaaGreatDoor
namespace Ad
open Go.RowKit Lx

/-- None of the first j parameters has the name. -/
def NoF (l : List Prm) (nm : List UInt8) (j : Nat) : Prop := ∀ m, m < j → (lowL l[m]!.1 == lowL nm) = false
theorem NoF.succ {l : List Prm} {nm : List UInt8} {j : Nat} (h : NoF l nm j) (h2 : (lowL l[j]!.1 == lowL nm) = false) : NoF l nm (j + 1) := fun m hm => by
  rcases Nat.lt_or_ge m j with h3 | h3
  · exact h m h3
  · have : m = j := by omega
    rw [this]; exact h2
/-- What room answers, whatever the names' letter case. -/
def roomL (l : List Prm) (nm : List UInt8) : Int := if 0 ≤ fndI l nm then 7 else if 16 ≤ l.length then 4 else 0
theorem roomL_eq (l : List Prm) (nm : List UInt8) (h1 : ∀ q ∈ l, lowL q.1 = q.1) (h2 : lowL nm = nm) (h3 : l.length ≤ 16) : roomL l nm = room l nm := by
  have key : (0 ≤ fndI l nm) ↔ (l.any (fun q => q.1 == nm) = true) := by
    rcases fndI_cases l nm with ⟨hI, hno⟩ | ⟨k, hk, hI, hyes, _⟩
    · rw [hI]
      constructor
      · intro h; omega
      · intro h
        obtain ⟨q, hq, he⟩ := List.any_eq_true.1 h
        obtain ⟨j, hj, rfl⟩ := List.mem_iff_getElem.1 hq
        have := hno j hj
        rw [getElem!_pos l j hj, h1 _ hq, h2, he] at this
        cases this
    · rw [hI]
      constructor
      · intro _
        rw [getElem!_pos l k hk, h1 _ (List.getElem_mem hk), h2] at hyes
        exact List.any_eq_true.2 ⟨_, List.getElem_mem hk, hyes⟩
      · intro _; omega
  unfold roomL room
  by_cases h : 0 ≤ fndI l nm
  · rw [if_pos h, if_pos (key.1 h)]
  · rw [if_neg h, if_neg (fun h4 => h (key.2 h4))]
    by_cases h5 : l.length = 16
    · rw [if_pos (by omega), if_pos h5]
    · rw [if_neg (by omega), if_neg h5]
end Ad
end Go.Proofs.YtmmjfofdnpafkaaGreatDoor
