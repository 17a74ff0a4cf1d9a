/- Contracts of Set of package address and of the reference (dialtoneref02). Names have at most 2^21 bytes. -/
import Derived.Test.YtmmjfofdnpafkaaGreatDoorAdRp
namespace Go.Proofs.YtmmjfofdnpafkaaGreatDoor
namespace Ad
open Go.RowKit Lx

theorem run_append_nothing {base : Nat} {w : World} {acc : List Prm} {v : Value} (hown : w.ownsRow base 72 3 v acc.length (pcl acc)) (ty : TypeId) (c : Nat) :
    (Builtin.append_ #[22, 22] ty #[v, .slice none 0 c]).run Tryz.prog w = .ok v w := by
  obtain ⟨i0, hi, hz0, hz1, hz2⟩ := info_parts infoPrm3
  rcases hown.2 with ⟨rfl, hz⟩ | ⟨g, cap, cur, rfl, _, _, hnc, _⟩
  · simp [Builtin.append_, run_underlying Tryz.underlying22, sizeOf, typeInfo, hi, Builtin.lenOf, Builtin.firstCells]
  · simp [Builtin.append_, run_underlying Tryz.underlying22, sizeOf, typeInfo, hi, Builtin.lenOf, Builtin.firstCells, hnc, storeCells]
/-- append of a whole list to a list of the call's own. -/
theorem wpList_append_pm {ops : Array Oper} {rest : List Oper} {o : Oper} {a : Act} {Q : Exit → Act → World → Prop} {w : World} (hgd : o.guard = none) (s x : Operand)
    (ho : o.op = .call { callee := .builtin .append, args := #[s, x], argTypes := #[22, 22] }) (base : Nat) (acc l : List Prm) (v vx : Value) (hs : a.eval s = v)
    (hown : w.ownsRow base 72 3 v acc.length (pcl acc)) (B : Nat) (hx : a.eval x = vx) (hP : PmIn B w vx l) (hl : acc.length + l.length ≤ 16777216) (hbase : base ≤ w.heap.size)
    (h : ∀ v' w', w'.ownsRow base 72 3 v' (acc ++ l).length (pcl (acc ++ l)) → w.grownBy w' v.ownBlock → wpList Tryz.prog ops Q rest (a.put o.dst v') w') :
    wpList Tryz.prog ops Q (o :: rest) a w := by
  obtain ⟨n, c, rfl, hc, ⟨h0, rfl⟩ | ⟨b, off, rfl, hb, hcell⟩⟩ := hP
  · have : l = [] := List.eq_nil_of_length_eq_zero h0
    subst this
    have hrun := run_append_nothing hown o.type c
    have h2 := h v w (by simpa using hown) ⟨rfl, rfl, rfl, Nat.le_refl _, fun _ _ _ => rfl⟩
    refine wpList_plain hgd fun K hK => ?_
    unfold Oper.wp
    simp [execOp, ho, resolve, invoke, builtin, hs, hx, hrun, Result.andThen]
    exact hK _ _ h2
  · obtain ⟨i0, hi, hz0, hz1, hz2⟩ := info_parts infoPrm3
    refine wpList_append_own w hgd s x 22 ho base 72 i0 (.agg #[.string .empty, .string .empty, .bool false]) 3 40 Tryz.underlying22 hi hz0 hz1 hz2 rfl (by decide) v acc.length (pcl acc) hs hown ⟨b, off, none⟩ l.length c (pcl l) hx (pcl_len l)
      (fun j u hj => by have := hcell j u hj; rwa [Addr.add_lit]) (pcl_one l) (by unfold maxLen; omega) (by omega) hbase ?_
    intro v' w' h1 h2 _
    exact h v' w' (by rw [List.length_append, pcl_app]; exact h1) h2
def StP (r : List Prm) (w : World) (e : Ending) (w' : World) : Prop := ∃ v', e = .returned v' ∧ PmIn w'.heap.size w' v' r ∧ Kp [] w w'
end Ad
end Go.Proofs.YtmmjfofdnpafkaaGreatDoor
