/- AddressReads of package dialtonelaw02 returns true for every text of at most 2^20 bytes, and nothing that was there is changed. -/
import Derived.Test.YtmmjfofdnpafkaaGreatDoorAdWd
import Derived.Test.YtmmjfofdnpafkaaGreatDoorM8
namespace Go.Proofs.YtmmjfofdnpafkaaGreatDoor
namespace Ad
open Go.RowKit Lx

theorem parF_len (l : List UInt8) : ∀ (n k : Nat) (acc : List Prm), acc.length ≤ 16 → (parF n l k acc).1.length ≤ 16 := by
  intro n
  induction n with
  | zero => intro k acc h; exact h
  | succ n ih =>
    intro k acc h
    rcases Nat.lt_or_ge k l.length with hk | hk
    · by_cases h59 : atB l k = 59
      · by_cases h3 : (pmR l (blkE l (k + 1))).2.2 = 0
        · by_cases h4 : room acc (pmR l (blkE l (k + 1))).1.1 = 0
          · rw [parF_step n l k acc hk h59 h3 h4]
            refine ih _ _ ?_
            rw [List.length_append, List.length_singleton]
            have : acc.length ≠ 16 := by
              intro h16
              unfold room at h4
              by_cases hany : (acc.any fun q => q.1 == (pmR l (blkE l (k + 1))).1.1) = true
              · rw [if_pos hany] at h4; exact absurd h4 (by decide)
              · rw [if_neg hany, if_pos h16] at h4; exact absurd h4 (by decide)
            omega
          · rw [parF_err3 n l k acc hk h59 h3 h4]; exact Nat.zero_le _
        · rw [parF_err2 n l k acc hk h59 h3]; exact Nat.zero_le _
      · rw [parF_err1 n l k acc hk h59]; exact Nat.zero_le _
    · rw [parF_end n l k acc hk]; exact h
theorem parse_len (l : List UInt8) : (parse l).1.params.length ≤ 16 ∧ (parse l).1.heads.length ≤ 16 := by
  by_cases hx : (parse l).2.2 = 0
  · obtain ⟨nf, _⟩ := parse_NF l hx
    exact ⟨nf.params.len, nf.heads.len⟩
  · rw [(parse_at l).2 hx]; exact ⟨Nat.zero_le _, Nat.zero_le _⟩
def LnA (a : Adr) : Prop := a.uri.params.length ≤ 16 ∧ a.uri.heads.length ≤ 16 ∧ a.params.length ≤ 16
theorem lnA_nil : LnA nilA := ⟨Nat.zero_le _, Nat.zero_le _, Nat.zero_le _⟩
theorem restR_len (l d : List UInt8) (a b c : Nat) : LnA (restR l d a b c).1 := by
  unfold restR
  split
  · exact lnA_nil
  · split
    · exact lnA_nil
    · exact ⟨(parse_len _).1, (parse_len _).2, parF_len _ _ _ _ (Nat.zero_le _)⟩
theorem angR_len (l d : List UInt8) (k : Nat) : LnA (angR l d k).1 := by
  unfold angR
  split
  · exact lnA_nil
  · exact restR_len _ _ _ _ _
theorem adrR_len (l : List UInt8) : LnA (adrR l).1 := by
  unfold adrR
  split
  · exact lnA_nil
  · split
    · split
      · exact lnA_nil
      · split
        · exact lnA_nil
        · exact angR_len _ _ _
    · split
      · split
        · exact lnA_nil
        · exact angR_len _ _ _
      · split
        · exact lnA_nil
        · exact restR_len _ _ _ _ _
/-- A new block that holds an address. -/
theorem abox_of {w w' : World} {a : Adr} {a1 : Option Addr} {c1 : Nat} {a2 : Option Addr} {c2 : Nat} {a3 : Option Addr} {c3 : Nat}
    (h : AdIn w.heap.size w (.agg #[.string (Txt a.display), .string (Txt a.uri.scheme), .string (Txt a.uri.user), .string (Txt a.uri.host), .int .i64 a.uri.port, .slice a1 a.uri.params.length c1, .slice a2 a.uri.heads.length c2, .slice a3 a.params.length c3]) a)
    (hw : w.alloc (.cells #[.string (Txt a.display), .string (Txt a.uri.scheme), .string (Txt a.uri.user), .string (Txt a.uri.host), .int .i64 a.uri.port, .slice a1 a.uri.params.length c1, .slice a2 a.uri.heads.length c2, .slice a3 a.params.length c3] 26) = w') :
    Blk w' w.heap.size 26 #[.string (Txt a.display), .string (Txt a.uri.scheme), .string (Txt a.uri.user), .string (Txt a.uri.host), .int .i64 a.uri.port, .slice a1 a.uri.params.length c1, .slice a2 a.uri.heads.length c2, .slice a3 a.params.length c3] ∧ Kp [] w w' ∧ AdIn w'.heap.size w' (.agg #[.string (Txt a.display), .string (Txt a.uri.scheme), .string (Txt a.uri.user), .string (Txt a.uri.host), .int .i64 a.uri.port, .slice a1 a.uri.params.length c1, .slice a2 a.uri.heads.length c2, .slice a3 a.params.length c3]) a := by
  have k : Kp [] w w' := by rw [← hw]; exact (Kp.refl [] w).alloc _
  exact ⟨by rw [← hw]; exact Blk.new w _ _, k, h.kpn k⟩
end Ad
end Go.Proofs.YtmmjfofdnpafkaaGreatDoor
