/- Contracts of Set of package address and of the reference (dialtoneref02). Names have at most 2^21 bytes. -/
import Derived.Test.YtmmjfofdnpafkaaGreatDoorAdRp
namespace Go.Proofs.YtmmjfofdnpafkaaGreatDoor
namespace Ad
open Go.RowKit Lx

theorem own_some {w : World} {base : Nat} {v : Value} {l : List Prm} (h : w.ownsRow base 72 3 v l.length (pcl l)) (h2 : 1 ≤ l.length) :
    ∃ g c, v = .slice (some ⟨g, 0, none⟩) l.length c ∧ base ≤ g ∧ g < w.heap.size := by
  rcases h.2 with ⟨rfl, hz⟩ | ⟨g, cap, cur, rfl, hb, hg, hnc, rest⟩
  · omega
  · exact ⟨g, cap, rfl, hb, lt_of_some hg⟩
theorem pcl_set : ∀ (l : List Prm) (k : Nat) (q1 q2 : List UInt8) (q3 : Bool) (v : List UInt8), l[k]? = some (q1, q2, q3) → ((pcl l).set (k * 3 + 1) (.string (Txt v))).set (k * 3 + 2) (.bool true) = pcl (l.set k (q1, v, true)) := by
  intro l
  induction l with
  | nil => intro k q1 q2 q3 v h; simp at h
  | cons p t ih =>
    intro k q1 q2 q3 v h
    have e : pcl (p :: t) = pc1 p ++ pcl t := rfl
    cases k with
    | zero =>
      simp at h; subst h
      rw [List.set_cons_zero]
      have e2 : pcl ((q1, v, true) :: t) = pc1 (q1, v, true) ++ pcl t := rfl
      rw [e, e2]
      simp [pc1, Txt]
    | succ k =>
      rw [List.set_cons_succ]
      have e2 : pcl (p :: t.set k (q1, v, true)) = pc1 p ++ pcl (t.set k (q1, v, true)) := rfl
      rw [e2, ← ih k q1 q2 q3 v (by simpa using h), e]
      have hl : (pc1 p).length = 3 := rfl
      rw [List.set_append_right _ _ (by omega), List.set_append_right _ _ (by omega), hl]
      congr 3 <;> omega
/-- What Set answers. -/
def stL (l : List Prm) (nm v : List UInt8) : List Prm := if fndI l nm < 0 then l ++ [(lowL nm, v, true)] else l.set (fndI l nm).toNat (l[(fndI l nm).toNat]!.1, v, true)
def StP (r : List Prm) (w : World) (e : Ending) (w' : World) : Prop := ∃ v', e = .returned v' ∧ PmIn w'.heap.size w' v' r ∧ Kp [] w w'
set_option maxRecDepth 100000 in
set_option maxHeartbeats 4000000 in
theorem set_any (B : Nat) (v : Value) (l : List Prm) (nm x : List UInt8) (w : World) (hP : PmIn B w v l) (hB : B ≤ w.heap.size) (hz : SzP l) (hl : l.length ≤ 2097152) (hn : nm.length ≤ 2097152) (hx : x.length ≤ 2097152) :
    Calls Tryz.prog 57 #[v, .string (Txt nm), .string (Txt x)] w (StP (stL l nm x) w) := by
  have HPm := Lib.hid hP
  obtain ⟨i0, hi, hz0, hz1, hz2⟩ := info_parts infoPrm3
  obtain ⟨A, cA, rfl⟩ := hP.form
  clear hP
  go_enter Tryz.func57, Tryz.ntmps57
  go_wp2_with fail
  refine (clone_any B _ l w HPm.out (by omega)).mono ?_
  rintro e w1 ⟨v1, rfl, hown, hK1⟩
  have O1 := Lib.hid hown
  have K1 := Lib.hid hK1
  have hsz1 := hK1.size
  have HFd := Lib.hid (find_any _ _ l nm w1 (own_pm hown) (Nat.le_refl _) hz (by omega) hn)
  obtain ⟨p, c, rfl⟩ := own_form hown
  clear hown hK1
  rcases fndI_cases l nm with ⟨hI, _⟩ | ⟨k, hk, hI, _⟩
  · have HI := Lib.hid hI
    have HS := Lib.hid (by unfold stL; rw [if_pos (by rw [hI]; decide)] : stL l nm x = l ++ [(lowL nm, x, true)])
    clear hI
    go_wp2_with fail
    refine HFd.out.mono ?_
    rintro e w2 ⟨rfl, hK2⟩
    rw [HI.out]
    have O2 := Lib.hid (own_kp O1.out hK2 (by simp))
    have K2 := Lib.hid (K1.out.trans hK2)
    clear hK2
    go_wp2_with fail
    refine (lowK nm hn _).mono ?_
    rintro e w3 ⟨rfl, hK3⟩
    have O3 := Lib.hid (own_kp O2.out hK3 (by simp))
    have K3 := Lib.hid (K2.out.trans hK3)
    have hsz3 := K3.out.size
    clear hK3
    go_wp2_with (at_builtin; refine wpList_append_own _ rfl _ _ 22 rfl w.heap.size 72 i0 (.agg #[.string .empty, .string .empty, .bool false]) 3 40 Tryz.underlying22 hi hz0 hz1 hz2 rfl (by decide) _ _ _ rfl (O3.out.alloc _) ⟨w3.heap.size, 0, none⟩ 1 1 [.string (Txt (lowL nm)), .string (Txt x), .bool true] rfl rfl (cell_three_new _ _ _ _ _) (by simp [Value.oneCell']) ?c3 ?c4 ?c5 ?_)
    case c3 => unfold maxLen; omega
    case c4 => omega
    case c5 => simp; omega
    intro v' w9 hown' hgrow _
    have K9 := Lib.hid ((K3.out.alloc (.cells #[.string (Txt (lowL nm)), .string (Txt x), .bool true] 72)).grown hgrow (fun g hg => .inr (O3.out.lt g hg).1))
    have HO9 := Lib.hid (by simpa [pcl, pc1, Txt] using hown' : w9.ownsRow w.heap.size 72 3 v' (l ++ [(lowL nm, x, true)]).length (pcl (l ++ [(lowL nm, x, true)])))
    clear hown' hgrow
    go_wp2_with fail
    go_ret
    unfold StP
    rw [HS.out]
    exact ⟨_, rfl, own_pm HO9.out, K9.out⟩
  · obtain ⟨q1, q2, q3, hq⟩ : ∃ a b c, l[k]! = (a, b, c) := ⟨_, _, _, rfl⟩
    have hsome : l[k]? = some (q1, q2, q3) := by rw [← hq]; exact getD_some l k hk
    have HI := Lib.hid hI
    have HS := Lib.hid (by unfold stL; rw [if_neg (by rw [hI]; omega), hI, Int.toNat_natCast, hq] : stL l nm x = l.set k (q1, x, true))
    have HSet := Lib.hid (pcl_set l k q1 q2 q3 x hsome)
    obtain ⟨g, c', hv, hg1, hg2⟩ := own_some O1.out (by omega)
    injection hv with hv1 _ hv2
    subst hv1
    subst hv2
    have hlen : (pcl l).length = l.length * 3 := pcl_len l
    have HC := Lib.hid (pcl_at l k _ hsome)
    clear hI hq hsome
    go_wp2_with fail
    refine HFd.out.mono ?_
    rintro e w2 ⟨rfl, hK2⟩
    rw [HI.out]
    have O2 := own_kp O1.out hK2 (by simp)
    have c1 := (O2.cellAt (k * 3 + 1) (by omega)).trans (HC.out 1 _ rfl)
    have c2 := (O2.cellAt (k * 3 + 2) (by omega)).trans (HC.out 2 _ rfl)
    have f1 := O2.frozenAt (k * 3 + 1)
    have f2 := O2.frozenAt (k * 3 + 2)
    have S1 := O2.stored (k * 3 + 1) (.string (Txt x))
    have S2 := S1.1.stored (k * 3 + 2) (.bool true)
    have HO := Lib.hid (by have h := S2.1; rw [HSet.out] at h; exact h)
    have KF := Lib.hid (((K1.out.trans hK2).grown S1.2 (fun y hy => .inr (by cases hy; exact hg1))).grown S2.2 (fun y hy => .inr (by cases hy; exact hg1)))
    clear hK2 S1 S2 O2
    go_wp2_with fail
    go_ret
    unfold StP
    rw [HS.out]
    exact ⟨_, rfl, by have h := HO.out; rw [show l.length = (l.set k (q1, x, true)).length from by simp] at h; have h2 := own_pm h; simpa using h2, KF.out⟩
end Ad
end Go.Proofs.YtmmjfofdnpafkaaGreatDoor
