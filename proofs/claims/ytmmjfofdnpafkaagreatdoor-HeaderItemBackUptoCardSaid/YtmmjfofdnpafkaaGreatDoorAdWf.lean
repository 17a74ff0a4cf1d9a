/- AddressReads of package dialtonelaw02 returns true for every text of at most 2^20 bytes, and nothing that was there is changed. -/
import Derived.Test.YtmmjfofdnpafkaaGreatDoorAdWd
import Derived.Test.YtmmjfofdnpafkaaGreatDoorM8
namespace Go.Proofs.YtmmjfofdnpafkaaGreatDoor
namespace Ad
open Go.RowKit Lx

theorem parF_len (l : List UInt8) : ∀ (n k : Nat) (acc : List Prm), acc.length ≤ 16 → (parF n l k acc).1.length ≤ 16 := by
  intro n
  induction n with
  | zero => intro k acc h; exact h
  | succ n ih =>
    intro k acc h
    rcases Nat.lt_or_ge k l.length with hk | hk
    · by_cases h59 : atB l k = 59
      · by_cases h3 : (pmR l (blkE l (k + 1))).2.2 = 0
        · by_cases h4 : room acc (pmR l (blkE l (k + 1))).1.1 = 0
          · rw [parF_step n l k acc hk h59 h3 h4]
            refine ih _ _ ?_
            rw [List.length_append, List.length_singleton]
            have : acc.length ≠ 16 := by
              intro h16
              unfold room at h4
              by_cases hany : (acc.any fun q => q.1 == (pmR l (blkE l (k + 1))).1.1) = true
              · rw [if_pos hany] at h4; exact absurd h4 (by decide)
              · rw [if_neg hany, if_pos h16] at h4; exact absurd h4 (by decide)
            omega
          · rw [parF_err3 n l k acc hk h59 h3 h4]; exact Nat.zero_le _
        · rw [parF_err2 n l k acc hk h59 h3]; exact Nat.zero_le _
      · rw [parF_err1 n l k acc hk h59]; exact Nat.zero_le _
    · rw [parF_end n l k acc hk]; exact h
end Ad
end Go.Proofs.YtmmjfofdnpafkaaGreatDoor
