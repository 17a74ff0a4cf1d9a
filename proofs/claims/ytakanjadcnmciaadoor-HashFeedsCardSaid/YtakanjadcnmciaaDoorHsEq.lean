/- Comparison of states and of arrays of bytes with themselves: they are equal. Plain facts on the model's operations at this seat's types. -/
import Derived.Test.YtakanjadcnmciaaDoorHsSt
import Derived.ChangeKeysEq
import Derived.Laws.StructEq
namespace Go.Proofs.YtakanjadcnmciaaDoor
namespace Hs
open Go.RowKit Ad

theorem items_refl {P : Program} {e : TypeId} {k : IntKind} (he : P.plainKey e = true) (hu : P.underlying e = some (.int k)) (d : Nat) (xs : Array Value) (w : World) : ∀ is : List Nat, (∀ i, i ∈ is → ∃ q z, xs[i]? = some (.int q z)) →
    (Op.eqItems (d + 1) e 1 xs xs is).run P w = .ok true w
  | [], _ => by simp [Op.eqItems]
  | i :: is, h => by
    obtain ⟨q, z, hz⟩ := h i List.mem_cons_self
    have hp := run_part_plain (P := P) w he (show xs[i * 1]? = some (.int q z) by rw [Nat.mul_one]; exact hz)
    have he2 := run_equalIn_int (P := P) w d e q k z z hu
    have hr := items_refl he hu d xs w is (fun j hj => h j (List.mem_cons_of_mem _ hj))
    simp only [Op.eqItems, Sem.run_bind, hp, Result.andThen_ok, he2, beq_self_eq_true, Bool.not_true, Bool.false_eq_true, if_false, hr]
theorem arr_refl {P : Program} {t e : TypeId} {n : Nat} {i : TypeInfo} {k : IntKind} (ht : P.underlying t = some (.array n e)) (hi : P.info? e = some i) (hc : P.cellsOf e = 1) (he : P.plainKey e = true) (hu : P.underlying e = some (.int k)) (d : Nat) (xs : Array Value) (w : World)
    (h : ∀ i, i < n → ∃ q z, xs[i]? = some (.int q z)) : (Op.equalIn (d + 2) t (.agg xs) (.agg xs)).run P w = .ok true w := by
  rw [run_equalIn_array w (d + 1) xs xs ht hi, hc]
  exact items_refl he hu d xs w _ (fun j hj => h j (List.mem_range.1 hj))
theorem info_some {P : Program} {t : TypeId} {n : Nat} (h : (P.info? t).map (·.size) = some n) : ∃ i, P.info? t = some i ∧ i.size = n := by
  cases hi : P.info? t with
  | none => rw [hi] at h; cases h
  | some i => rw [hi] at h; exact ⟨i, rfl, by simpa using h⟩
theorem infoU8s : (Tryd.prog.info? 5).map (·.size) = some 1 := by kernel_rfl
theorem infoU32s : (Tryd.prog.info? 27).map (·.size) = some 1 := by kernel_rfl
theorem bvs_refl {n : Nat} {t : TypeId} (ht : Tryd.prog.underlying t = some (.array n 5)) (l : List UInt8) (hl : n ≤ l.length) (d : Nat) (w : World) : (Op.equalIn (d + 2) t (.agg (l.map bv).toArray) (.agg (l.map bv).toArray)).run Tryd.prog w = .ok true w := by
  obtain ⟨i, hi, _⟩ := info_some infoU8s
  refine arr_refl ht hi (by kernel_rfl) (by kernel_rfl) Tryd.underlying5 d _ w (fun j hj => ?_)
  rw [List.getElem?_toArray, List.getElem?_map, List.getElem?_eq_getElem (by omega)]
  exact ⟨_, _, rfl⟩
theorem wvs_refl {n : Nat} {t : TypeId} (ht : Tryd.prog.underlying t = some (.array n 27)) (l : List UInt32) (hl : n ≤ l.length) (d : Nat) (w : World) : (Op.equalIn (d + 2) t (.agg (l.map wv).toArray) (.agg (l.map wv).toArray)).run Tryd.prog w = .ok true w := by
  obtain ⟨i, hi, _⟩ := info_some infoU32s
  refine arr_refl ht hi (by kernel_rfl) (by kernel_rfl) Tryd.underlying27 d _ w (fun j hj => ?_)
  rw [List.getElem?_toArray, List.getElem?_map, List.getElem?_eq_getElem (by omega)]
  exact ⟨_, _, rfl⟩
theorem eq_b32 (l : List UInt8) (hl : l.length = 32) (w : World) : (binOp .eql 24 (.agg (l.map bv).toArray) (.agg (l.map bv).toArray)).run Tryd.prog w = .ok (.bool true) w := by
  rw [run_eql_struct, bvs_refl Tryd.underlying24 l (by omega) 9998 w]
  rfl
theorem part_row {P : Program} (w : World) (t : TypeId) (d : TypeDesc) (xs : Array Value) (off n : Nat) (hu : P.underlying t = some d) (hd : (match d with | .struct _ | .array _ _ => true | _ => false) = true) (hi : (P.info? t).map (·.size) = some n) :
    (part t xs off).run P w = .ok (.agg (xs.extract off (off + n))) w := by
  obtain ⟨i, h1, h2⟩ := info_some hi
  have hagg : (isAgg t).run P w = .ok true w := by
    unfold isAgg
    rw [Sem.run_bind, run_underlying hu w]
    cases d <;> simp_all
  unfold part
  simp [Sem.run_bind, hagg, sizeOf, typeInfo, h1, h2]
theorem st_ext_h (s : St) (h : Wf s) : (stC s).toArray.extract 0 (0 + 8) = (s.h.map wv).toArray := by
  have h8 : (s.h.map wv).length = 8 := by rw [List.length_map, h.h]
  unfold stC
  rw [List.extract_toArray]
  simp [List.take_append, h8, List.extract]
theorem st_ext_t (s : St) (h : Wf s) : (stC s).toArray.extract 9 (9 + 64) = (s.t.map bv).toArray := by
  have h8 : (s.h.map wv).length = 8 := by rw [List.length_map, h.h]
  have h64 : (s.t.map bv).length = 64 := by rw [List.length_map, h.t]
  unfold stC
  rw [List.extract_toArray]
  simp [List.drop_append, h8, h64, List.extract]
  rw [List.drop_eq_nil_of_le (by rw [h8]; decide), List.nil_append, List.take_of_length_le (by omega)]
theorem st_fields : (Tryd.prog.fieldsOf 32).toList.map (fun f => (decide (f.name ≠ "_"), f.type, f.offset)) = [(true, 28, 0), (true, 29, 8), (true, 30, 9)] := by kernel_rfl
theorem infoW8 : (Tryd.prog.info? 28).map (·.size) = some 8 := by kernel_rfl
theorem infoT64 : (Tryd.prog.info? 30).map (·.size) = some 64 := by kernel_rfl
theorem list3 {α β : Type} (g : α → β) (fs : List α) (x y z : β) (h : fs.map g = [x, y, z]) : ∃ a b c, fs = [a, b, c] ∧ g a = x ∧ g b = y ∧ g c = z := by
  rcases fs with _ | ⟨a, _ | ⟨b, _ | ⟨c, _ | ⟨d, t⟩⟩⟩⟩
  · cases h
  · cases h
  · cases h
  · simp only [List.map_cons, List.map_nil, List.cons.injEq, and_true] at h
    exact ⟨a, b, c, rfl, h.1, h.2.1, h.2.2⟩
  · simp at h
theorem plain64 : Tryd.prog.plainKey 29 = true := by kernel_rfl
theorem fields_run {P : Program} (d : Nat) (C : Array Value) (w : World) (a b c : Field) (x y z : Value) (ha : a.name ≠ "_") (hb : b.name ≠ "_") (hc : c.name ≠ "_")
    (p1 : (part a.type C a.offset).run P w = .ok x w) (p2 : (part b.type C b.offset).run P w = .ok y w) (p3 : (part c.type C c.offset).run P w = .ok z w)
    (e1 : (Op.equalIn d a.type x x).run P w = .ok true w) (e2 : (Op.equalIn d b.type y y).run P w = .ok true w) (e3 : (Op.equalIn d c.type z z).run P w = .ok true w) : (Op.eqFields d C C [a, b, c]).run P w = .ok true w := by
  simp only [Op.eqFields]
  rw [if_pos ha, if_pos hb, if_pos hc]
  simp only [Sem.run_bind, p1, p2, p3, e1, e2, e3, Result.andThen_ok, Bool.not_true, Bool.false_eq_true, if_false, Sem.run_pure]
theorem part_h (s : St) (h : Wf s) (w : World) : (part 28 (stC s).toArray 0).run Tryd.prog w = .ok (.agg (s.h.map wv).toArray) w := by
  rw [← st_ext_h s h]
  exact part_row (P := Tryd.prog) w 28 _ (stC s).toArray 0 8 Tryd.underlying28 rfl infoW8
theorem part_t (s : St) (h : Wf s) (w : World) : (part 30 (stC s).toArray 9).run Tryd.prog w = .ok (.agg (s.t.map bv).toArray) w := by
  rw [← st_ext_t s h]
  exact part_row (P := Tryd.prog) w 30 _ (stC s).toArray 9 64 Tryd.underlying30 rfl infoT64
theorem part_n (s : St) (h : Wf s) (w : World) : (part 29 (stC s).toArray 8).run Tryd.prog w = .ok (.int .u64 (s.n : Int)) w :=
  run_part_plain (P := Tryd.prog) w plain64 (by rw [List.getElem?_toArray]; exact stC_n s h)
theorem eq_n (d : Nat) (n : Int) (w : World) : (Op.equalIn (d + 2) 29 (.int .u64 n) (.int .u64 n)).run Tryd.prog w = .ok true w := by
  rw [run_equalIn_int (P := Tryd.prog) w (d + 1) 29 .u64 .u64 n n Tryd.underlying29, beq_self_eq_true]
theorem eq_st_d (d : Nat) (s : St) (h : Wf s) (w : World) : (Op.eqFields (d + 2) (stC s).toArray (stC s).toArray (Tryd.prog.fieldsOf 32).toList).run Tryd.prog w = .ok true w := by
  obtain ⟨a, b, c, e, ha, hb, hc⟩ := list3 _ _ _ _ _ st_fields
  rw [e]
  simp only [Prod.mk.injEq, decide_eq_true_eq] at ha hb hc
  obtain ⟨a1, a2, a3⟩ := ha
  obtain ⟨b1, b2, b3⟩ := hb
  obtain ⟨c1, c2, c3⟩ := hc
  clear e
  refine fields_run (d + 2) _ w a b c (.agg (s.h.map wv).toArray) (.int .u64 (s.n : Int)) (.agg (s.t.map bv).toArray) a1 b1 c1 ?_ ?_ ?_ ?_ ?_ ?_
  · rw [a2, a3]; exact part_h s h w
  · rw [b2, b3]; exact part_n s h w
  · rw [c2, c3]; exact part_t s h w
  · rw [a2]; exact wvs_refl Tryd.underlying28 s.h (by rw [h.h]; exact Nat.le_refl _) d w
  · rw [b2]; exact eq_n d s.n w
  · rw [c2]; exact bvs_refl Tryd.underlying30 s.t (by rw [h.t]; exact Nat.le_refl _) d w
theorem eq_st (s : St) (h : Wf s) (w : World) : (binOp .eql 32 (.agg (stC s).toArray) (.agg (stC s).toArray)).run Tryd.prog w = .ok (.bool true) w := by
  rw [run_eql_struct, run_equalIn_struct w 9999 32 _ _ (by kernel_rfl) (by kernel_rfl)]
  have := eq_st_d 9997 s h w
  rw [this]
  rfl
theorem guard_st (x y : Operand) (C D : Array Value) (w : World) : (eqGuard .eql 32 x y (.agg C) (.agg D)).run Tryd.prog w = .ok () w := run_eqGuard_agg w .eql 32 x y C D (by kernel_rfl)
theorem guard_b32 (x y : Operand) (C D : Array Value) (w : World) : (eqGuard .eql 24 x y (.agg C) (.agg D)).run Tryd.prog w = .ok () w := run_eqGuard_agg w .eql 24 x y C D (by kernel_rfl)
end Hs
end Go.Proofs.YtakanjadcnmciaaDoor
