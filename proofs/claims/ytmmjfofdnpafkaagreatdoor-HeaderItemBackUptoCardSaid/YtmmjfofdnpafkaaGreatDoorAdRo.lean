/- Contract of the reference's Params (dialtoneref02). A text has at most 2^21 bytes. -/
import Derived.Test.YtmmjfofdnpafkaaGreatDoorAdRm
namespace Go.Proofs.YtmmjfofdnpafkaaGreatDoor
namespace Ad
open Go.RowKit Lx

theorem pmR_none (l : List UInt8) (k : Nat) (h : tokE l k = k) : pmR l k = (([], [], false), k, 5) := by unfold pmR; rw [if_pos h]
theorem pmR_bare (l : List UInt8) (k : Nat) (h : tokE l k ≠ k) (h2 : atB l (blkE l (tokE l k)) ≠ 61) : pmR l k = ((lowL (slc l k (tokE l k)), [], false), blkE l (tokE l k), 0) := by unfold pmR; rw [if_neg h, if_neg h2]
theorem pmR_val (l : List UInt8) (k : Nat) (h : tokE l k ≠ k) (h2 : atB l (blkE l (tokE l k)) = 61) : pmR l k = ((lowL (slc l k (tokE l k)), (valR l (blkE l (blkE l (tokE l k) + 1))).1, true), (valR l (blkE l (blkE l (tokE l k) + 1))).2) := by unfold pmR; rw [if_neg h, if_pos h2]
/-- What the list holds while it is read. -/
structure AccL (acc : List Prm) : Prop where
  len : acc.length ≤ 16
  low : ∀ q ∈ acc, lowL q.1 = q.1
  sz : SzP acc
theorem AccL.nil : AccL [] := ⟨by simp, (fun q hq => nomatch hq), (fun q hq => nomatch hq)⟩
theorem AccL.snoc {acc : List Prm} (h : AccL acc) {q : Prm} (h1 : lowL q.1 = q.1) (h2 : q.1.length ≤ 2097152) (h3 : q.2.1.length ≤ 2097152) (h4 : acc.length ≤ 15) : AccL (acc ++ [q]) :=
  ⟨by rw [List.length_append, List.length_singleton]; omega, fun p hp => by
    rcases List.mem_append.1 hp with h5 | h5
    · exact h.low p h5
    · rw [List.mem_singleton.1 h5]; exact h1, fun p hp => by
    rcases List.mem_append.1 hp with h5 | h5
    · exact h.sz p h5
    · rw [List.mem_singleton.1 h5]; exact ⟨h2, h3⟩⟩
theorem AccL.room {acc : List Prm} (h : AccL acc) (nm : List UInt8) (h1 : lowL nm = nm) : roomL acc nm = Ad.room acc nm := roomL_eq acc nm h.low h1 h.len
theorem qText_len : ∀ (l : List UInt8), (qText l).length ≤ l.length := by
  intro l
  induction hn : l.length using Nat.strongRecOn generalizing l with
  | _ n ih =>
    cases l with
    | nil => rw [qText.eq_def]; simp
    | cons c t =>
      by_cases h1 : c.toNat = 34
      · rw [qText_quote c t h1]; simp
      · by_cases h2 : c.toNat = 92
        · cases t with
          | nil => rw [qText.eq_def]; simp [h1, h2]
          | cons d u =>
            rw [qText_two c d u h2]
            have := ih u.length (by simp at hn; omega) u rfl
            simp at hn ⊢; omega
        · rw [qText_one c t h1 h2]
          have := ih t.length (by simp at hn; omega) t rfl
          simp at hn ⊢; omega
theorem unq_len (l : List UInt8) (k : Int) : (uqT l k).length ≤ l.length := by
  unfold uqT
  split
  · simp
  · have := qText_len (l.drop (k.toNat + 1))
    rw [List.length_drop] at this; omega
theorem valR_len (l : List UInt8) (k : Nat) : (valR l k).1.length ≤ l.length + 86 := by
  unfold valR
  split
  · have := unq_len l k; dsimp only; omega
  · split
    · cases ho : hostO (slc l k (min (endP (· == 93) l k + 1) l.length)) with
      | none => simp
      | some h => have h1 := hostO_len _ _ ho; have h2 := slc_lel l k (min (endP (· == 93) l k + 1) l.length); dsimp only; omega
    · split
      · simp
      · have := slc_lel l k (tokE l k); dsimp only; omega
end Ad
end Go.Proofs.YtmmjfofdnpafkaaGreatDoor
