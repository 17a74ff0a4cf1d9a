/- A region that draws its order: operations that read, and calls that only add to memory, and behind them a tail that is forced (a store, a writing call): the head is walked once, in the order of the text, in a class of worlds; the tail from whatever world of the class. No program. -/
import Derived.Test.YtakanjadcnmciaaDoorAdGw
import Derived.StillTail
import Derived.StillTactics
import Derived.OrdersHeld
namespace Go.Proofs.YtakanjadcnmciaaDoor
namespace Hs
open Go.RowKit Ad

section
variable {P : Program} {ops : Array Oper} {md : Region.Mode} {C : World → Prop}
/-- Whatever order is picked, for the first operations: all of them lie before number n, each is quiet, and behind f of them L holds. -/
def headQ (P : Program) (md : Region.Mode) (ops : Array Oper) (C : World → Prop) (n : Nat) (L : Array Bool → Act → Prop) : Nat → Array Bool → Act → Prop
  | 0, seen, a => L seen a
  | f + 1, seen, a => Region.ready md ops seen ≠ [] ∧ ∀ i, i ∈ Region.ready md ops seen → i < n ∧ qOp P ops C i (headQ P md ops C n L f (seen.setIfInBounds i true)) a
theorem headQ_any {n g : Nat} {L : Array Bool → Act → Prop} {Q : Exit → Act → World → Prop} (hL : ∀ seen a w, C w → L seen a → wpAny P md ops Q g seen a w) (f : Nat) :
    ∀ (seen : Array Bool) (a : Act) (w : World), C w → headQ P md ops C n L f seen a → wpAny P md ops Q (f + g) seen a w := by
  induction f with
  | zero => intro seen a w hw h; rw [Nat.zero_add]; exact hL _ _ _ hw h
  | succ f ih =>
    intro seen a w hw h
    rw [show f + 1 + g = (f + g) + 1 by omega]
    exact ⟨fun h0 => absurd h0 h.1, fun i hi => wpOp_of_qOp hw (fun a' w' hw' hh => ih _ a' w' hw' hh) (h.2 i hi).2⟩
theorem headQ_first {n i : Nat} {oi : Oper} {v : Value} {L : Array Bool → Act → Prop} (hi : ops[i]? = some oi) (hsel : ∀ (j : Nat) (o : Oper) cs b, ops[j]? = some o → o.op ≠ .select cs b)
    (hs : Region.sinkB md ops n = true) (hc : Region.chainB md ops n = true) (hn : n < ops.size) (hin : i < n) (hL : ∀ seen a, L seen a → ∀ j, j ∈ Region.ready md ops seen → n ≤ j) (f : Nat) :
    ∀ (seen : Array Bool) (a : Act), HeadInv md ops n seen →
      (∀ j oj, ops[j]? = some oj → j ≠ i → seen.getD j true = false → (∀ e ∈ oj.after, Region.binds md e = true → e.on ≠ i) → oi.apart ops oj = true) →
      i ∈ Region.ready md ops seen → YieldsIn P ops C oi v a → headQ P md ops C n L f (seen.setIfInBounds i true) (a.put oi.dst v) → headQ P md ops C n L (f + 1) seen a := by
  induction f with
  | zero =>
    intro seen a inv _ hr hy H
    refine ⟨List.ne_nil_of_mem hr, fun j hj => ?_⟩
    have hjn : j < n := Nat.lt_of_not_le fun hle => tail_waits hs hc hn inv _ i rfl hin (mem_ready.1 hr).1 j hle hj
    refine ⟨hjn, ?_⟩
    rcases Decidable.em (j = i) with rfl | hji
    · exact hy.qOp hi H
    · exact absurd (hL _ _ H j (ready_mono hj hji)) (by omega)
  | succ f ih =>
    intro seen a inv hfree hr hy H
    have hun := (mem_ready.1 hr).1
    refine ⟨List.ne_nil_of_mem hr, fun j hj => ?_⟩
    have hjn : j < n := Nat.lt_of_not_le fun hle => tail_waits hs hc hn inv _ i rfl hin hun j hle hj
    refine ⟨hjn, ?_⟩
    rcases Decidable.em (j = i) with rfl | hji
    · exact hy.qOp hi H
    · obtain ⟨hjun, oj, hoj, hall⟩ := mem_ready.1 hj
      have hno : ∀ e ∈ oj.after, Region.binds md e = true → e.on ≠ i := by
        intro e he hb heq
        have h9 := hall e he hb
        rw [heq, getD_both hun] at h9
        exact Bool.noConfusion h9
      have step := qOp_put hoj (hfree j oj hoj hji hjun hno) (fun cs b => hsel i oi cs b hi) (fun cs b => hsel j oj cs b hoj) hy (H.2 j (ready_mono hj hji)).2
      refine qOp_mono (fun a' h3 => ih (seen.setIfInBounds j true) a' (inv.set hj hjn) ?_ (ready_mono hr (Ne.symm hji)) h3.1 (by rw [Array.setIfInBounds_comm _ _ hji]; exact h3.2)) step
      intro k ok hk hki hkun hkno
      refine hfree k ok hk hki ?_ hkno
      rcases Decidable.em (j = k) with rfl | hjk
      · exact hjun
      · rwa [getD_set_ne true hjk] at hkun
theorem headQ_lex {n g : Nat} {T : Act → Prop} (hsel : Region.noSelect ops = true) (hs : Region.sinkB md ops n = true) (hc : Region.chainB md ops n = true) (hn : n < ops.size) (l : List Oper) :
    ∀ (k : Nat) (seen : Array Bool) (a : Act), (∀ j, j < l.length → l[j]? = ops[k + j]?) → k + l.length = n → HeadInv md ops n seen →
    Region.lexHead md ops g l.length k seen = true → wpQuiet P ops C T l a → headQ P md ops C n (fun s a' => Region.seqB md ops g n s = true ∧ T a') l.length seen a := by
  induction l with
  | nil =>
    intro k seen a _ hk _ hB h
    obtain rfl : k = n := by simpa using hk
    exact ⟨by simpa [Region.lexHead] using hB, h⟩
  | cons o l ih =>
    intro k seen a hl hk inv hB h
    simp only [List.length_cons, Region.lexHead, Bool.and_eq_true] at hB hk
    have h0 : ops[k]? = some o := by simpa using (hl 0 (by simp)).symm
    have hr : k ∈ Region.ready md ops seen := by simpa using hB.1.1
    have hq : qOp P ops C k (wpQuiet P ops C T l) a := by unfold qOp; simp only [h0]; exact h
    obtain ⟨v, hy, hK⟩ := yieldsIn_of_qOp h0 hq
    refine headQ_first h0 (Region.noSelect_spec hsel) hs hc hn (by omega) (fun s a' hL => seqB_ready hL.1) l.length seen a inv (Region.free_spec h0 hB.1.2) hr hy ?_
    refine ih (k + 1) _ _ (fun j hj => ?_) (by omega) (inv.set hr (by omega)) hB.2 hK
    have := hl (j + 1) (by simp; omega)
    simpa [Nat.add_assoc, Nat.add_comm 1 j] using this
end
/-- THE LAW. -/
theorem wp_region_grew_tail {P : Program} {id : Nat} {Q : Exit → Act → World → Prop} {a : Act} {w : World} {l : List Oper} (n : Nat) (hm : P.follows .mixedOrders = true) (hB : Region.lexTailB .any l.toArray n = true)
    (h : wpQuiet P l.toArray (fun w' => ∃ m, w' = grew w m) (fun a' => ∀ w', (∃ m, w' = grew w m) → wpList P l.toArray Q (l.drop n) a' w') (l.take n) a) : (Code.region id l.toArray true).wp P Q a w := by
  simp only [Region.lexTailB, Bool.and_eq_true, decide_eq_true_eq] at hB
  obtain ⟨⟨⟨⟨hsel, hn⟩, hs⟩, hc⟩, hlex⟩ := hB
  have hn2 : n < l.length := by simpa using hn
  have ht : (l.take n).length = n := by simp; omega
  have hd : (l.drop n).length = l.toArray.size - n := by simp
  have inv0 : HeadInv .any l.toArray n (Array.replicate l.toArray.size false) :=
    ⟨by simp, fun j oj _ hl => (by rw [getD_replicate_false] at hl; exact Bool.noConfusion hl), fun t _ h9 => getD_in (by simpa using h9) (getD_replicate_false _ _)⟩
  have H := headQ_lex (md := .any) (g := l.toArray.size - n) hsel hs hc hn (l.take n) 0 _ a (fun j hj => by
    rw [ht] at hj
    simp [hj]) (by simpa using ht) inv0 (by rw [ht]; exact hlex) h
  have := headQ_any (Q := Q) (g := l.toArray.size - n) (fun seen a' w' hw' hL => by
    have := wpAny_of_seq (md := .any) (Q' := Q) (l.drop n) n seen a' w' (fun j => by simp [List.getElem?_drop]) (by rw [hd]; exact hL.1) (hL.2 w' hw')
    rwa [hd] at this) _ _ _ { w with drawn := w.drawn + 1 } ⟨⟨_, (Kp.refl [] w).drew⟩, rfl⟩ H
  rw [ht, show n + (l.toArray.size - n) = l.toArray.size by omega] at this
  exact wp_region_any hm this
section
variable {P : Program} {ops : Array Oper} {md : Region.Mode} {S : World → Prop} {Q : Exit → Act → World → Prop}
/-- Whatever order is picked, for the first operations: all of them lie before number n, S holds behind each, and behind f of them L holds. -/
def headS (P : Program) (md : Region.Mode) (ops : Array Oper) (Q : Exit → Act → World → Prop) (S : World → Prop) (n : Nat) (L : Array Bool → Act → World → Prop) : Nat → Array Bool → Act → World → Prop
  | 0, seen, a, w => L seen a w
  | f + 1, seen, a, w => Region.ready md ops seen ≠ [] ∧ ∀ i, i ∈ Region.ready md ops seen → i < n ∧ wpOp P ops Q i (fun a' w' => S w' ∧ headS P md ops Q S n L f (seen.setIfInBounds i true) a' w') a w
theorem headS_any {n g : Nat} {L : Array Bool → Act → World → Prop} (hL : ∀ seen a w, L seen a w → wpAny P md ops Q g seen a w) (f : Nat) :
    ∀ (seen : Array Bool) (a : Act) (w : World), headS P md ops Q S n L f seen a w → wpAny P md ops Q (f + g) seen a w := by
  induction f with
  | zero => intro seen a w h; rw [Nat.zero_add]; exact hL _ _ _ h
  | succ f ih =>
    intro seen a w h
    rw [show f + 1 + g = (f + g) + 1 by omega]
    exact ⟨fun h0 => absurd h0 h.1, fun i hi => wpOp_mono (fun a' w' hh => ih _ a' w' hh.2) (h.2 i hi).2⟩
theorem headS_first {n i : Nat} {oi : Oper} {v : Value} {L : Array Bool → Act → World → Prop} (hi : ops[i]? = some oi) (hsel : ∀ (j : Nat) (o : Oper) cs b, ops[j]? = some o → o.op ≠ .select cs b)
    (hQ : ∀ c a w, Q (.panic c) (a.put oi.dst v) w → Q (.panic c) a w)
    (hs : Region.sinkB md ops n = true) (hc : Region.chainB md ops n = true) (hn : n < ops.size) (hin : i < n) (hL : ∀ seen a w, L seen a w → ∀ j, j ∈ Region.ready md ops seen → n ≤ j) (f : Nat) :
    ∀ (seen : Array Bool) (a : Act) (w : World), HeadInv md ops n seen →
      (∀ j oj, ops[j]? = some oj → j ≠ i → seen.getD j true = false → (∀ e ∈ oj.after, Region.binds md e = true → e.on ≠ i) → oi.apart ops oj = true) →
      i ∈ Region.ready md ops seen → YieldsIf P ops S oi v a → S w → headS P md ops Q S n L f (seen.setIfInBounds i true) (a.put oi.dst v) w → headS P md ops Q S n L (f + 1) seen a w := by
  induction f with
  | zero =>
    intro seen a w inv _ hr hy hS H
    refine ⟨List.ne_nil_of_mem hr, fun j hj => ?_⟩
    have hjn : j < n := Nat.lt_of_not_le fun hle => tail_waits hs hc hn inv _ i rfl hin (mem_ready.1 hr).1 j hle hj
    refine ⟨hjn, ?_⟩
    rcases Decidable.em (j = i) with rfl | hji
    · exact hy.wpOp hi hS ⟨hS, H⟩
    · exact absurd (hL _ _ _ H j (ready_mono hj hji)) (by omega)
  | succ f ih =>
    intro seen a w inv hfree hr hy hS H
    have hun := (mem_ready.1 hr).1
    refine ⟨List.ne_nil_of_mem hr, fun j hj => ?_⟩
    have hjn : j < n := Nat.lt_of_not_le fun hle => tail_waits hs hc hn inv _ i rfl hin hun j hle hj
    refine ⟨hjn, ?_⟩
    rcases Decidable.em (j = i) with rfl | hji
    · exact hy.wpOp hi hS ⟨hS, H⟩
    · obtain ⟨hjun, oj, hoj, hall⟩ := mem_ready.1 hj
      have hno : ∀ e ∈ oj.after, Region.binds md e = true → e.on ≠ i := by
        intro e he hb heq
        have h9 := hall e he hb
        rw [heq, getD_both hun] at h9
        exact Bool.noConfusion h9
      have step := wpOp_putIf hoj (hfree j oj hoj hji hjun hno) (fun cs b => hsel i oi cs b hi) (fun cs b => hsel j oj cs b hoj) hQ hy (H.2 j (ready_mono hj hji)).2
      refine wpOp_mono (fun a' w' h3 => ⟨h3.2.1, ih (seen.setIfInBounds j true) a' w' (inv.set hj hjn) ?_ (ready_mono hr (Ne.symm hji)) h3.1 h3.2.1 (by rw [Array.setIfInBounds_comm _ _ hji]; exact h3.2.2)⟩) step
      intro k ok hk hki hkun hkno
      refine hfree k ok hk hki ?_ hkno
      rcases Decidable.em (j = k) with rfl | hjk
      · exact hjun
      · rwa [getD_set_ne true hjk] at hkun
/-- The first operations, each of which yields its value in every world that meets S. -/
def takeS (P : Program) (ops : Array Oper) (S : World → Prop) (T : Act → Prop) : List Oper → Act → Prop
  | [], a => T a
  | o :: r, a => ∃ v, YieldsIf P ops S o v a ∧ takeS P ops S T r (a.put o.dst v)
theorem takeS_mono {T T' : Act → Prop} (h : ∀ a, T a → T' a) : ∀ (l : List Oper) (a : Act), takeS P ops S T l a → takeS P ops S T' l a
  | [], a, hh => h a hh
  | _ :: r, _, ⟨v, hy, hh⟩ => ⟨v, hy, takeS_mono h r _ hh⟩
theorem takeS_step {T : Act → Prop} {o : Oper} {r : List Oper} {a : Act} (v : Value) (hg : o.guard = none) (hv : ∀ w, S w → (execOp a.eval o).run P w = .ok (.value v) w) (h : takeS P ops S T r (a.put o.dst v)) : takeS P ops S T (o :: r) a :=
  ⟨v, .inl ⟨by simp [Region.wanted, hg], hv⟩, h⟩
theorem headS_lex {n n1 g : Nat} {T : Act → Prop} {L : Array Bool → Act → World → Prop} (hQ : ∀ c a d v w, Q (.panic c) (Act.put a d v) w → Q (.panic c) a w) (hsel : Region.noSelect ops = true) (hs : Region.sinkB md ops n = true) (hc : Region.chainB md ops n = true) (hn : n < ops.size)
    (hnn : n = n1 + 1) (hL : ∀ seen a w, L seen a w → ∀ j, j ∈ Region.ready md ops seen → n ≤ j) {w : World} (hS : S w)
    (hT : ∀ seen a, Region.seqB md ops g n1 seen = true → T a → headS P md ops Q S n L 1 seen a w) (l : List Oper) :
    ∀ (k : Nat) (seen : Array Bool) (a : Act), (∀ j, j < l.length → l[j]? = ops[k + j]?) → k + l.length = n1 → HeadInv md ops n seen →
    Region.lexHead md ops g l.length k seen = true → takeS P ops S T l a → headS P md ops Q S n L (l.length + 1) seen a w := by
  induction l with
  | nil =>
    intro k seen a _ hk _ hB h
    obtain rfl : k = n1 := by simpa using hk
    exact hT seen a (by simpa [Region.lexHead] using hB) h
  | cons o l ih =>
    intro k seen a hl hk inv hB h
    simp only [List.length_cons, Region.lexHead, Bool.and_eq_true] at hB hk
    have h0 : ops[k]? = some o := by simpa using (hl 0 (by simp)).symm
    have hr : k ∈ Region.ready md ops seen := by simpa using hB.1.1
    obtain ⟨v, hy, hK⟩ := h
    refine headS_first h0 (Region.noSelect_spec hsel) (fun c a w => hQ c a _ _ w) hs hc hn (by omega) hL (l.length + 1) seen a w inv (Region.free_spec h0 hB.1.2) hr hy hS ?_
    refine ih (k + 1) _ _ (fun j hj => ?_) (by omega) (inv.set hr (by omega)) hB.2 hK
    have := hl (j + 1) (by simp; omega)
    simpa [Nat.add_assoc, Nat.add_comm 1 j] using this
end
def lexMidB (ops : Array Oper) (n1 : Nat) : Bool :=
  Region.noSelect ops && decide (n1 + 1 < ops.size) && Region.sinkB .any ops (n1 + 1) && Region.chainB .any ops (n1 + 1) && Region.lexHead .any ops (ops.size - n1) n1 0 (Array.replicate ops.size false)
/-- THE LAW: n1 operations that yield their values in every world that meets S; one that may do anything but keeps S; and a forced tail. -/
theorem wp_region_mid {P : Program} {id : Nat} {Q : Exit → Act → World → Prop} {a : Act} {w : World} {l : List Oper} (n1 : Nat) (S : World → Prop) (hm : P.follows .mixedOrders = true) (hB : lexMidB l.toArray n1 = true)
    (hQ : ∀ c a d v w, Q (.panic c) (Act.put a d v) w → Q (.panic c) a w) (hS : S { w with drawn := w.drawn + 1 })
    (o : Oper) (ho : l.toArray[n1]? = some o) (hg : o.guard = none)
    (h0 : takeS P l.toArray S (fun a' => ∀ K : Act → World → Prop, (∀ a2 w2, S w2 → wpList P l.toArray Q (l.drop (n1 + 1)) a2 w2 → K a2 w2) → o.wp P a' w.drew K Q) (l.take n1) a) : (Code.region id l.toArray true).wp P Q a w := by
  have h : takeS P l.toArray S (fun a' => wpOp P l.toArray Q n1 (fun a2 w2 => S w2 ∧ wpList P l.toArray Q (l.drop (n1 + 1)) a2 w2) a' { w with drawn := w.drawn + 1 }) (l.take n1) a := takeS_mono (fun a' h1 => by
    unfold wpOp
    simp only [ho]
    rw [if_pos (by simp [Region.wanted, hg])]
    exact .inl (h1 _ (fun a2 w2 h2 h3 => ⟨h2, h3⟩))) _ _ h0
  simp only [lexMidB, Bool.and_eq_true, decide_eq_true_eq] at hB
  obtain ⟨⟨⟨⟨hsel, hn⟩, hs⟩, hc⟩, hlex⟩ := hB
  have hn2 : n1 + 1 < l.length := by simpa using hn
  have ht : (l.take n1).length = n1 := by simp; omega
  have hd : (l.drop (n1 + 1)).length = l.toArray.size - (n1 + 1) := by simp
  have inv0 : HeadInv .any l.toArray (n1 + 1) (Array.replicate l.toArray.size false) :=
    ⟨by simp, fun j oj _ hl => (by rw [getD_replicate_false] at hl; exact Bool.noConfusion hl), fun t _ h9 => getD_in (by simpa using h9) (getD_replicate_false _ _)⟩
  have H := headS_lex (P := P) (md := .any) (Q := Q) (S := S) (g := l.toArray.size - n1) (n := n1 + 1) (n1 := n1) (L := fun s a2 w2 => Region.seqB .any l.toArray (l.toArray.size - (n1 + 1)) (n1 + 1) s = true ∧ wpList P l.toArray Q (l.drop (n1 + 1)) a2 w2)
    hQ hsel hs hc hn rfl (fun s a2 w2 hL => seqB_ready hL.1) hS (fun seen a' hq hT => by
      rw [show l.toArray.size - n1 = (l.toArray.size - (n1 + 1)) + 1 by omega] at hq
      simp only [Region.seqB, Bool.and_eq_true, decide_eq_true_eq] at hq
      refine ⟨by rw [hq.1]; simp, fun j hj => ?_⟩
      rw [hq.1] at hj
      obtain rfl : j = n1 := by simpa using hj
      exact ⟨by omega, wpOp_mono (fun a2 w2 h2 => ⟨h2.1, hq.2, h2.2⟩) hT⟩) (l.take n1) 0 _ a (fun j hj => by
    rw [ht] at hj
    simp [hj]) (by simpa using ht) inv0 (by rw [ht]; exact hlex) h
  have := headS_any (g := l.toArray.size - (n1 + 1)) (fun seen a' w' hL => by
    have := wpAny_of_seq (md := .any) (Q' := Q) (l.drop (n1 + 1)) (n1 + 1) seen a' w' (fun j => by simp [List.getElem?_drop]) (by rw [hd]; exact hL.1) hL.2
    rwa [hd] at this) _ _ _ _ H
  rw [ht, show n1 + 1 + (l.toArray.size - (n1 + 1)) = l.toArray.size by omega] at this
  exact wp_region_any hm this
section
variable {P : Program} {ops : Array Oper} {md : Region.Mode} {C : World → Prop}
/-- The first operation has come up, and what HeadInv says holds. -/
structure FreeInv (md : Region.Mode) (ops : Array Oper) (n : Nat) (seen : Array Bool) : Prop where
  inv : HeadInv md ops n seen
  first : seen.getD 0 true = true
def sinkFrom1 (md : Region.Mode) (ops : Array Oper) (n : Nat) : Bool :=
  (List.range n).all fun i => i == 0 || (List.range (n + 1)).any fun j => decide (i < j) && Region.waitsFor md ops j i
theorem FreeInv.set {n i : Nat} {seen : Array Bool} (h : FreeInv md ops n seen) (hi : i ∈ Region.ready md ops seen) (hin : i < n) : FreeInv md ops n (seen.setIfInBounds i true) := by
  refine ⟨h.inv.set hi hin, ?_⟩
  rcases Decidable.em (i = 0) with rfl | h0
  · have := (mem_ready.1 hi).1
    rw [h.first] at this
    cases this
  · rw [getD_set_ne true h0]
    exact h.first
theorem free_waits {n : Nat} {seen : Array Bool} (hs : sinkFrom1 md ops n = true) (hc : Region.chainB md ops n = true) (hn : n < ops.size) (inv : FreeInv md ops n seen) (d : Nat) :
    ∀ i, n - i = d → i < n → seen.getD i true = false → ∀ t, n ≤ t → t ∉ Region.ready md ops seen := by
  induction d using Nat.strongRecOn with
  | _ d ih =>
    intro i hd hi hun t ht hr
    obtain ⟨_, ot, hot, hall⟩ := mem_ready.1 hr
    have htl : t < ops.size := (Array.getElem?_eq_some_iff.1 hot).1
    rcases Nat.lt_or_ge n t with hlt | hge
    · have h1 := List.all_eq_true.1 hc t (List.mem_range.2 htl)
      rw [Bool.or_eq_true, decide_eq_true_eq] at h1
      rcases h1 with h1 | h1
      · omega
      · obtain ⟨o', ho', e, he, hb, hon⟩ := Region.waitsFor_spec h1
        obtain rfl := Option.some.inj (ho'.symm.trans hot)
        have h2 := hall e he hb
        rw [hon, getD_both (inv.inv.tail (t - 1) (by omega) (by omega))] at h2
        exact Bool.noConfusion h2
    · obtain rfl : t = n := by omega
      have h1 := List.all_eq_true.1 hs i (List.mem_range.2 hi)
      rw [Bool.or_eq_true] at h1
      rcases h1 with h1 | h1
      · rw [beq_iff_eq] at h1
        subst h1
        rw [inv.first] at hun
        exact Bool.noConfusion hun
      · obtain ⟨j, hj, hj2⟩ := List.any_eq_true.1 h1
        rw [Bool.and_eq_true, decide_eq_true_eq] at hj2
        have hjn := List.mem_range.1 hj
        obtain ⟨oj, hoj, e, he, hb, hon⟩ := Region.waitsFor_spec hj2.2
        rcases Decidable.em (j = t) with rfl | hjt
        · obtain rfl := Option.some.inj (hoj.symm.trans hot)
          have h2 := hall e he hb
          rw [hon, getD_both hun] at h2
          exact Bool.noConfusion h2
        · cases hl : seen.getD j false with
          | true =>
            have h2 := inv.inv.closed j oj hoj hl e he hb
            rw [hon, getD_both hun] at h2
            exact Bool.noConfusion h2
          | false => exact ih (t - j) (by omega) j rfl (by omega) (getD_in (by rw [inv.inv.size]; omega) hl) t (Nat.le_refl _) hr
theorem freeQ_first {n i : Nat} {oi : Oper} {v : Value} {L : Array Bool → Act → Prop} (hi : ops[i]? = some oi) (hsel : ∀ (j : Nat) (o : Oper) cs b, ops[j]? = some o → o.op ≠ .select cs b)
    (hs : sinkFrom1 md ops n = true) (hc : Region.chainB md ops n = true) (hn : n < ops.size) (hin : i < n) (hL : ∀ seen a, L seen a → ∀ j, j ∈ Region.ready md ops seen → n ≤ j) (f : Nat) :
    ∀ (seen : Array Bool) (a : Act), FreeInv md ops n seen →
      (∀ j oj, ops[j]? = some oj → j ≠ i → seen.getD j true = false → (∀ e ∈ oj.after, Region.binds md e = true → e.on ≠ i) → oi.apart ops oj = true) →
      i ∈ Region.ready md ops seen → YieldsIn P ops C oi v a → headQ P md ops C n L f (seen.setIfInBounds i true) (a.put oi.dst v) → headQ P md ops C n L (f + 1) seen a := by
  induction f with
  | zero =>
    intro seen a inv _ hr hy H
    refine ⟨List.ne_nil_of_mem hr, fun j hj => ?_⟩
    have hjn : j < n := Nat.lt_of_not_le fun hle => free_waits hs hc hn inv _ i rfl hin (mem_ready.1 hr).1 j hle hj
    refine ⟨hjn, ?_⟩
    rcases Decidable.em (j = i) with rfl | hji
    · exact hy.qOp hi H
    · exact absurd (hL _ _ H j (ready_mono hj hji)) (by omega)
  | succ f ih =>
    intro seen a inv hfree hr hy H
    have hun := (mem_ready.1 hr).1
    refine ⟨List.ne_nil_of_mem hr, fun j hj => ?_⟩
    have hjn : j < n := Nat.lt_of_not_le fun hle => free_waits hs hc hn inv _ i rfl hin hun j hle hj
    refine ⟨hjn, ?_⟩
    rcases Decidable.em (j = i) with rfl | hji
    · exact hy.qOp hi H
    · obtain ⟨hjun, oj, hoj, hall⟩ := mem_ready.1 hj
      have hno : ∀ e ∈ oj.after, Region.binds md e = true → e.on ≠ i := by
        intro e he hb heq
        have h9 := hall e he hb
        rw [heq, getD_both hun] at h9
        exact Bool.noConfusion h9
      have step := qOp_put hoj (hfree j oj hoj hji hjun hno) (fun cs b => hsel i oi cs b hi) (fun cs b => hsel j oj cs b hoj) hy (H.2 j (ready_mono hj hji)).2
      refine qOp_mono (fun a' h3 => ih (seen.setIfInBounds j true) a' (inv.set hj hjn) ?_ (ready_mono hr (Ne.symm hji)) h3.1 (by rw [Array.setIfInBounds_comm _ _ hji]; exact h3.2)) step
      intro k ok hk hki hkun hkno
      refine hfree k ok hk hki ?_ hkno
      rcases Decidable.em (j = k) with rfl | hjk
      · exact hjun
      · rwa [getD_set_ne true hjk] at hkun
theorem freeQ_lex {n g : Nat} {T : Act → Prop} (hsel : Region.noSelect ops = true) (hs : sinkFrom1 md ops n = true) (hc : Region.chainB md ops n = true) (hn : n < ops.size) (l : List Oper) :
    ∀ (k : Nat) (seen : Array Bool) (a : Act), (∀ j, j < l.length → l[j]? = ops[k + j]?) → k + l.length = n → FreeInv md ops n seen →
    Region.lexHead md ops g l.length k seen = true → wpQuiet P ops C T l a → headQ P md ops C n (fun s a' => Region.seqB md ops g n s = true ∧ T a') l.length seen a := by
  induction l with
  | nil =>
    intro k seen a _ hk _ hB h
    obtain rfl : k = n := by simpa using hk
    exact ⟨by simpa [Region.lexHead] using hB, h⟩
  | cons o l ih =>
    intro k seen a hl hk inv hB h
    simp only [List.length_cons, Region.lexHead, Bool.and_eq_true] at hB hk
    have h0 : ops[k]? = some o := by simpa using (hl 0 (by simp)).symm
    have hr : k ∈ Region.ready md ops seen := by simpa using hB.1.1
    have hq : qOp P ops C k (wpQuiet P ops C T l) a := by unfold qOp; simp only [h0]; exact h
    obtain ⟨v, hy, hK⟩ := yieldsIn_of_qOp h0 hq
    refine freeQ_first h0 (Region.noSelect_spec hsel) hs hc hn (by omega) (fun s a' hL => seqB_ready hL.1) l.length seen a inv (Region.free_spec h0 hB.1.2) hr hy ?_
    refine ih (k + 1) _ _ (fun j hj => ?_) (by omega) (inv.set hr (by omega)) hB.2 hK
    have := hl (j + 1) (by simp; omega)
    simpa [Nat.add_assoc, Nat.add_comm 1 j] using this
theorem held_true {Q : Exit → Act → World → Prop} (f : Nat) : ∀ (seen : Array Bool) (a : Act) (w : World), wpAny P md ops Q f seen a w → wpAnyH P md ops Q (fun _ => True) f seen a w := by
  induction f with
  | zero => intro seen a w h; exact h
  | succ f ih => intro seen a w h; exact ⟨h.1, fun i hi => wpOp_mono (fun a' w' h' => ⟨trivial, ih _ a' w' h'⟩) (h.2 i hi)⟩
end
def freeTailB (ops : Array Oper) (n : Nat) : Bool :=
  Region.noSelect ops && decide (n < ops.size) && decide (0 < n) && sinkFrom1 .any ops n && Region.chainB .any ops n && Region.free .any ops (Array.replicate ops.size false) 0 && (Region.ready .any ops (Array.replicate ops.size false)).contains 0 && Region.lexHead .any ops (ops.size - n) (n - 1) 1 ((Array.replicate ops.size false).setIfInBounds 0 true)
/-- THE LAW: a first operation whose value depends on nothing in memory, and that may come up anywhere; operations that read and calls that only add to memory; and a forced tail. -/
theorem wp_region_free_tail {P : Program} {id : Nat} {Q : Exit → Act → World → Prop} {a : Act} {w : World} {o : Oper} {l : List Oper} (n : Nat) (hm : P.follows .mixedOrders = true) (hB : freeTailB (o :: l).toArray n = true)
    (hQ : ∀ c a d v w, Q (.panic c) (Act.put a d v) w → Q (.panic c) a w) (v : Value) (hg : o.guard = none) (hv : ∀ w, (execOp a.eval o).run P w = .ok (.value v) w)
    (h : wpQuiet P (o :: l).toArray (fun w' => ∃ m, w' = grew w m) (fun a' => ∀ w', (∃ m, w' = grew w m) → wpList P (o :: l).toArray Q (l.drop (n - 1)) a' w') (l.take (n - 1)) (a.put o.dst v)) : (Code.region id (o :: l).toArray true).wp P Q a w := by
  simp only [freeTailB, Bool.and_eq_true, decide_eq_true_eq] at hB
  obtain ⟨⟨⟨⟨⟨⟨⟨hsel, hn⟩, hn0⟩, hs⟩, hc⟩, hf⟩, hr⟩, hlex⟩ := hB
  have hn2 : n < l.length + 1 := by simpa using hn
  have ht : (l.take (n - 1)).length = n - 1 := by rw [List.length_take]; omega
  have hd : (l.drop (n - 1)).length = (o :: l).toArray.size - n := by simp; omega
  have inv0 : HeadInv .any (o :: l).toArray n (Array.replicate (o :: l).toArray.size false) :=
    ⟨by simp, fun j oj _ hl => (by rw [getD_replicate_false] at hl; exact Bool.noConfusion hl), fun t _ h9 => getD_in (by simpa using h9) (getD_replicate_false _ _)⟩
  have hr0 : 0 ∈ Region.ready .any (o :: l).toArray (Array.replicate (o :: l).toArray.size false) := by simpa using hr
  have inv1 : FreeInv .any (o :: l).toArray n ((Array.replicate (o :: l).toArray.size false).setIfInBounds 0 true) := ⟨inv0.set hr0 hn0, by simp⟩
  have H := freeQ_lex (md := .any) (g := (o :: l).toArray.size - n) hsel hs hc hn (l.take (n - 1)) 1 _ (a.put o.dst v) (fun j hj => by
    rw [ht] at hj
    rw [List.getElem?_take, if_pos hj, List.getElem?_toArray, show 1 + j = j + 1 by omega, List.getElem?_cons_succ]) (by rw [ht]; omega) inv1 (by rw [ht]; exact hlex) h
  have H2 := headQ_any (Q := Q) (g := (o :: l).toArray.size - n) (fun seen a' w' hw' hL => by
    have := wpAny_of_seq (md := .any) (Q' := Q) (l.drop (n - 1)) n seen a' w' (fun j => by rw [List.getElem?_drop, List.getElem?_toArray, show n + j = (n - 1 + j) + 1 by omega, List.getElem?_cons_succ]) (by rw [hd]; exact hL.1) (hL.2 w' hw')
    rwa [hd] at this) _ _ _ { w with drawn := w.drawn + 1 } ⟨⟨_, (Kp.refl [] w).drew⟩, rfl⟩ H
  refine wp_region_held (S := fun _ => True) hm ?_
  have hsz : (o :: l).toArray.size = ((l.take (n - 1)).length + ((o :: l).toArray.size - n)) + 1 := by rw [ht]; simp; omega
  rw [hsz]
  refine wpAnyH_take (i := 0) (oi := o) (v := v) (by simp) hsel ?_ ?_ (fun c a w => hQ c a _ _ w) (.inl ⟨by simp [Region.wanted, hg], fun w _ => hv w⟩) trivial ?_
  · rw [← hsz]; exact hf
  · rw [← hsz]; exact hr
  · rw [← hsz]; exact held_true _ _ _ _ H2
end Hs
end Go.Proofs.YtakanjadcnmciaaDoor
