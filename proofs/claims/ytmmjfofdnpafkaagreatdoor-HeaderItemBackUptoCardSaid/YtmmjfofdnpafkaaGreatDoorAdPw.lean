/- Plain facts about what PrintParams and Print write: how long it is; that a list with a name twice is refused. -/
import Derived.Test.YtmmjfofdnpafkaaGreatDoorAdSo
namespace Go.Proofs.YtmmjfofdnpafkaaGreatDoor
namespace Ad
open Lx

theorem ppF_some : ∀ (l acc : List Prm) (x : List UInt8), ppF l acc = some x → acc.length ≤ 16 → Names acc → (acc ++ l).length ≤ 16 ∧ Names (acc ++ l) ∧ x = l.flatMap ppL := by
  intro l
  induction l with
  | nil => intro acc x h h1 h2; rw [ppF] at h; cases h; simp only [List.append_nil]; exact ⟨h1, h2, rfl⟩
  | cons p t ih =>
    intro acc x h h1 h2
    rw [ppF] at h
    split at h
    · rename_i hc
      simp only [Bool.and_eq_true, decide_eq_true_eq] at hc
      have hr := (room_iff acc p.1).1 hc.2
      cases hx : ppF t (acc ++ [p]) with
      | none => rw [hx] at h; cases h
      | some y =>
        rw [hx] at h
        simp only [Option.map_some, Option.some.injEq] at h
        have := ih (acc ++ [p]) y hx (by rw [List.length_append, List.length_singleton]; have := hr.2; omega) (names_snoc acc p h2 hr.1)
        rw [List.append_assoc, List.singleton_append] at this
        exact ⟨this.1, this.2.1, by rw [← h, this.2.2]; rfl⟩
    · cases h
theorem ppO_some (l : List Prm) (x : List UInt8) (h : ppO l = some x) : l.length ≤ 16 ∧ Names l ∧ x = l.flatMap ppL := by
  have := ppF_some l [] x h (by simp) (by unfold Names; simp)
  simpa using this
theorem ppO_dup (l : List Prm) (h : ¬ Names l) : ppO l = none := by
  cases hx : ppO l with
  | none => rfl
  | some x => exact absurd (ppO_some l x hx).2.1 h
/-- Whatever order a sort gives to names that are there twice: the answer is the same. -/
theorem ppO_sort (l l' : List Prm) (hp : l'.Perm l) (hs : Srtd l') : ppO l' = ppO (srt l) := by
  by_cases hn : Names l
  · rw [srt_of l' l hp hs hn]
  · rw [ppO_dup l' (fun h => hn (h.perm hp)), ppO_dup (srt l) (fun h => hn (h.perm (srt_perm l)))]
theorem flat_len (l : List Prm) (h : SzP l) : (l.flatMap ppL).length ≤ l.length * 6291460 := by
  induction l with
  | nil => simp
  | cons p t ih =>
    have h1 := ppL_len p (h p (List.mem_cons_self ..))
    have h2 := ih (fun q hq => h q (List.mem_cons_of_mem _ hq))
    rw [List.flatMap_cons, List.length_append, List.length_cons]; omega
theorem ppO_len (l : List Prm) (h : SzP l) (x : List UInt8) (hx : ppO l = some x) : x.length ≤ 16 * 6291460 := by
  obtain ⟨h1, _, h3⟩ := ppO_some l x hx
  rw [h3]
  exact Nat.le_trans (flat_len l h) (Nat.mul_le_mul_right _ h1)
theorem textU_len (n : Uri) (h : SzN n) (hk : n.scheme = telL → n.heads = []) : (textU n).length ≤ 1073741824 := by
  rw [text_eq n hk]
  have h1 := h.scheme; have h2 := h.user; have h3 := h.host
  have h4 := wrt_len2 59 59 1 n.params h.ps
  have h5 := wrt_len2 63 38 2 n.heads h.hs
  have h6 := plc_len n.user n.host n.port h.port0 h.port1
  have h7 := h.params; have h8 := h.heads
  simp only [List.length_append, List.length_singleton]
  split <;> omega
theorem printO_len (u : Uri) (hz : SzU u) (hh : u.host.length ≤ 1048576) (x : List UInt8) (hx : printO u = some x) : x.length ≤ 1073741824 := by
  unfold printO at hx
  cases hn : normal u with
  | none => rw [hn] at hx; cases hx
  | some n =>
    rw [hn] at hx
    simp only [Option.map_some, Option.some.injEq] at hx
    rw [← hx]
    exact textU_len n (normal_sz u n hz hh hn) (normal_tel u n hn)
/-- What stands before the angle bracket. -/
def dspL (d : List UInt8) : List UInt8 := if d = [] then [] else [34] ++ escL d ++ [34, 32]
theorem adrO_eq (a : Adr) : adrO a = match printO a.uri, ppO (srt a.params) with
    | some u, some p => if hasCtl a.display then none else some (dspL a.display ++ [60] ++ u ++ [62] ++ p)
    | _, _ => none := rfl
end Ad
end Go.Proofs.YtmmjfofdnpafkaaGreatDoor
