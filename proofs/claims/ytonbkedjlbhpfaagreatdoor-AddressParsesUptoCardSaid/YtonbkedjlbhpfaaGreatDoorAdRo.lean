/- Contract of the reference's Params (dialtoneref02). A text has at most 2^21 bytes. -/
import Derived.Test.YtonbkedjlbhpfaaGreatDoorAdRn
namespace Go.Proofs.YtonbkedjlbhpfaaGreatDoor
namespace Ad
open Go.RowKit Lx

/-- What the list holds while it is read. -/
structure AccL (acc : List Prm) : Prop where
  len : acc.length ≤ 16
  low : ∀ q ∈ acc, lowL q.1 = q.1
  sz : SzP acc
theorem AccL.nil : AccL [] := ⟨by simp, (fun q hq => nomatch hq), (fun q hq => nomatch hq)⟩
theorem AccL.snoc {acc : List Prm} (h : AccL acc) {q : Prm} (h1 : lowL q.1 = q.1) (h2 : q.1.length ≤ 2097152) (h3 : q.2.1.length ≤ 2097152) (h4 : acc.length ≤ 15) : AccL (acc ++ [q]) :=
  ⟨by rw [List.length_append, List.length_singleton]; omega, fun p hp => by
    rcases List.mem_append.1 hp with h5 | h5
    · exact h.low p h5
    · rw [List.mem_singleton.1 h5]; exact h1, fun p hp => by
    rcases List.mem_append.1 hp with h5 | h5
    · exact h.sz p h5
    · rw [List.mem_singleton.1 h5]; exact ⟨h2, h3⟩⟩
theorem AccL.room {acc : List Prm} (h : AccL acc) (nm : List UInt8) (h1 : lowL nm = nm) : roomL acc nm = Ad.room acc nm := roomL_eq acc nm h.low h1 h.len
end Ad
end Go.Proofs.YtonbkedjlbhpfaaGreatDoor
