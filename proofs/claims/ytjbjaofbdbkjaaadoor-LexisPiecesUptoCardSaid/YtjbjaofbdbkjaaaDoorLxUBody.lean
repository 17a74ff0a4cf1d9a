/- The contract of Unfold of package lexis where the text is well formed: the loop over the physical lines. Conditions: the text has at most 2^21 bytes, and the library's variable bytealg.MaxLen holds an int. -/
import Derived.Test.YtjbjaofbdbkjaaaDoorLxUnfold
import Derived.Sort.CutIn
namespace Go.Proofs.YtjbjaofbdbkjaaaDoor
namespace Lx
open Go.RowKit Go.Shelf
attribute [local go_sem] Oper.semAt_some

/-! ### What the loop knows of its lines -/
theorem isB_own (B b : Nat) (f : List PL → List Value) : Own (fun (pre : List PL) W => IsB B b (f pre) W) := by
  intro s W W' row h hg hr
  have key : ∀ p, BAt B b p (f s) W → BAt B b p (f s) W' := by
    rintro p ⟨h1, v, h2, h3, h4⟩
    have hb : some b ≠ row := by
      intro e
      obtain ⟨o, ho, hc⟩ := hr b e.symm
      rw [h2] at ho; cases ho; cases hc
    refine ⟨h1, v, (hg.block b (lt_of_some h2) hb).trans h2, h3.kept hg ?_, h4⟩
    cases hv : v.ownBlock with
    | none => exact .inl rfl
    | some k =>
      refine .inr ?_
      intro e
      obtain ⟨cs, T, fr, h5, _⟩ := own_row h3 k hv
      obtain ⟨o, ho, hc⟩ := hr k e.symm
      rw [h5] at ho; cases ho; cases hc
  rcases h with h | h
  · exact .inl (key _ h)
  · exact .inr (key _ h)

theorem setLast_length (ls : List (Nat × List UInt8)) (tx : List UInt8) : (setLast ls tx).length = ls.length := by
  unfold setLast
  cases h : ls.getLast? with
  | none => rw [List.getLast?_eq_none_iff] at h; simp [h]
  | some p =>
    have : ls ≠ [] := by intro e; subst e; simp at h
    have := List.length_pos_iff.2 this
    simp; omega
theorem endL_len (s : USt) : (endL s).ls.length = s.ls.length ∧ (endL s).tx.length ≤ s.tx.length := by
  unfold endL; split
  · exact ⟨rfl, Nat.le_refl _⟩
  · exact ⟨setLast_length _ _, by simp⟩
theorem trimS_le (l cs : List UInt8) : (Lib.trimS l cs).length ≤ l.length := by
  unfold Lib.trimS Lib.trimLeftS Lib.trimRightS
  have h1 := (List.dropWhile_sublist (l := (List.dropWhile (fun x => cs.contains x) l.reverse).reverse) (cs.contains ·)).length_le
  have h2 := (List.dropWhile_sublist (l := l.reverse) (cs.contains ·)).length_le
  simp at h1 h2 ⊢
  omega
theorem addL_len (s : USt) (x : Nat × List UInt8) : (addL s x).ls.length ≤ s.ls.length + 1 ∧ (addL s x).tx.length ≤ s.tx.length := by
  unfold addL
  have := endL_len s
  split
  · simp; omega
  · simp
theorem join_len (tx p : List UInt8) : (join tx p).length ≤ tx.length + 1 + p.length := by
  unfold join; split <;> simp <;> omega
theorem stepU_len (s : USt) (x : Nat × List UInt8) : (stepU s x).ls.length ≤ s.ls.length + 1 ∧ (stepU s x).tx.length ≤ s.tx.length + 1 + x.2.length := by
  unfold stepU
  have h1 := addL_len s x
  have h2 := join_len (addL s x).tx (Lib.trimS x.2 blk)
  have h3 := trimS_le x.2 blk
  dsimp only at *
  omega
theorem foldU_len (pre : List PL) : (foldU (pre.map (·.1))).ls.length ≤ pre.length ∧ (foldU (pre.map (·.1))).tx.length ≤ pre.length * 2097153 := by
  refine snoc_ind (P := fun pre : List PL => (foldU (pre.map (·.1))).ls.length ≤ pre.length ∧ (foldU (pre.map (·.1))).tx.length ≤ pre.length * 2097153) ?_ ?_ pre
  · simp [foldU]
  · intro l c ih
    rw [List.map_append, List.map_cons, List.map_nil, foldU_snoc]
    have h := stepU_len (foldU (l.map (·.1))) c.1
    have hc := c.2
    simp only [List.length_append, List.length_cons, List.length_nil]
    omega
theorem physL_len (n : Nat) : ∀ (l : List UInt8) (i : Nat), l.length ≤ n → (physL l i).length ≤ l.length := by
  induction n with
  | zero => intro l i h; have : l = [] := List.eq_nil_of_length_eq_zero (by omega); subst this; simp [physL_nil]
  | succ n ih =>
    intro l i h
    by_cases hl : l = []
    · subst hl; simp [physL_nil]
    · rw [physL_cons _ _ hl]
      have := List.length_pos_iff.2 hl
      have h2 := ih (l.drop ((Lib.cut l crlf).1.length + 2)) (i + ((Lib.cut l crlf).1.length + 2)) (by simp; omega)
      simp at h2 ⊢
      omega

theorem infoPiece : (Tryd.prog.info? 43).map (fun i => (i.zero, i.size, i.bytes)) = some (some (.agg #[.int .i64 0, .string .empty]), 2, 24) := by kernel_rfl

theorem unf_ok (l : List UInt8) (h1 : firstBlank l = false) (h2 : stray l 0 = l.length) (h3 : (!l.isEmpty && !Lib.hasSuffix l crlf) = false) : unfL l = (endL (foldU (physL l 0))).ls ∧ unfAt l = 0 ∧ unfE l = 0 := by
  unfold unfL unfAt unfE
  rw [h1, h2, h3]
  simp

/-- What holds between two rounds of Unfold's loop. B: the first block of the call's own. -/
def UInv (s : ByteArray) (B : Nat) (w : World) (pre : List PL) (W : World) : Prop :=
  (((∃ v, Boxed W B 33 v ∧ W.ownsRow B 43 2 v (foldU (pre.map (·.1))).ls.length (pcells (foldU (pre.map (·.1))).ls) ∧ True) ∧
    IsB B (B + 1) (Lib.byteCells (foldU (pre.map (·.1))).tx) W) ∧ Boxed W (B + 2) 9 (.string s)) ∧ Below B w W

theorem keep_of_below {W W' : World} (h : Below W.heap.size W W') (ts : List TypeId) : KeepTy ts W W' := ⟨h.size, fun k _ hk _ => (h.block k (lt_of_some hk)).trans hk⟩
theorem keep_boxed {ts : List TypeId} {W W' : World} (h : KeepTy ts W W') {B : Nat} {t : TypeId} {v : Value} (ht : t ∉ ts) (hv : Boxed W B t v) : Boxed W' B t v := h.row hv ht
theorem size_mk (q : List UInt8) : (⟨q.toArray⟩ : ByteArray).size = q.length := by simp [ByteArray.size]
theorem strCells_mk (q : List UInt8) : Lib.strCells ⟨q.toArray⟩ = Lib.byteCells q := by simp [Lib.strCells, Lib.byteCells]
theorem byteCells_append (a b : List UInt8) : Lib.byteCells (a ++ b) = Lib.byteCells a ++ Lib.byteCells b := by simp [Lib.byteCells]
theorem keep_isB {ts : List TypeId} {W W' : World} (h : KeepTy ts W W') (h1 : 59 ∉ ts) (h2 : 5 ∉ ts) {B b : Nat} {bs : List Value} (hb : IsB B b bs W) : IsB B b bs W' := by
  have key : ∀ p, BAt B b p bs W → BAt B b p bs W' := by
    rintro p ⟨h3, v, h4, h5, h6⟩
    exact ⟨h3, v, h.row h4 h1, h.owns h5 h2, h6⟩
  rcases hb with hb | hb
  · exact .inl (key _ hb)
  · exact .inr (key _ hb)
theorem stray_le (n : Nat) : ∀ (l : List UInt8) (i : Nat), l.length ≤ n → stray l i ≤ i + l.length := by
  induction n with
  | zero => intro l i h; have : l = [] := List.eq_nil_of_length_eq_zero (by omega); subst this; rw [stray_nil]; omega
  | succ n ih =>
    intro l i h
    cases l with
    | nil => rw [stray_nil]; omega
    | cons c t =>
      simp only [List.length_cons] at h ⊢
      cases hp : crlf.isPrefixOf (c :: t)
      · cases hc : (ctlI c.toNat && !(c :: t == [13]))
        · rw [stray_next _ _ _ hp hc]; have := ih t (i + 1) (by omega); omega
        · rw [stray_bad _ _ _ hp hc]; omega
      · rw [stray_crlf _ _ _ hp]
        have := (List.isPrefixOf_iff_prefix.1 hp).length_le
        have h2 := ih (t.drop 1) (i + 2) (by simp; omega)
        simp [crlf] at this h2 ⊢
        omega
/-- What holds where the first half of a round is over. -/
def UMid (B : Nat) (S : USt) (W W' : World) : Prop :=
  (∃ v, Boxed W' B 33 v ∧ W'.ownsRow B 43 2 v S.ls.length (pcells S.ls)) ∧ IsB B (B + 1) (Lib.byteCells S.tx) W' ∧ Below B W W' ∧ KeepTy [59, 5, 43, 33] W W'
theorem endL_nil (S : USt) (h : S.ls = []) : endL S = S := by unfold endL; rw [if_pos h]
theorem endL_cons (S : USt) (h : S.ls ≠ []) : endL S = ⟨setLast S.ls S.tx, []⟩ := by unfold endL; rw [if_neg h]
theorem cell_two_new (w : World) (x y : Value) (t : TypeId) : ∀ j u, [x, y][j]? = some u → (w.alloc (.cells #[x, y] t)).cell? ((⟨w.heap.size, 0, none⟩ : Addr).add j) = some u := by
  intro j u hj
  have hb : (w.alloc (.cells #[x, y] t)).heap[w.heap.size]? = some (.cells #[x, y] t (0, 0)) := World.alloc_heap_new w _
  match j, hj with
  | 0, hj => simp at hj; subst hj; exact (Lib.cell_of_heap hb _).trans rfl
  | 1, hj => simp at hj; subst hj; exact (Lib.cell_of_heap hb _).trans rfl

/-- endLine as the loop calls it: whatever lines there are. -/
theorem endLine_mid (B : Nat) (S : USt) (v : Value) (W : World) (hl : S.ls.length ≤ 4294967296) (hBW : B ≤ W.heap.size) (hv : Boxed W B 33 v) (hr : W.ownsRow B 43 2 v S.ls.length (pcells S.ls)) (hb : IsB B (B + 1) (Lib.byteCells S.tx) W) :
    Calls Tryd.prog 61 #[v, .pointer (some ⟨B + 1, 0, none⟩)] W fun e W' => e = .returned (.tuple #[]) ∧ Boxed W' B 33 v ∧ W'.ownsRow B 43 2 v (endL S).ls.length (pcells (endL S).ls) ∧ IsB B (B + 1) (Lib.byteCells (endL S).tx) W' ∧
      KeepTy [59, 5, 43] W W' ∧ Below B W W' := by
  by_cases h : S.ls = []
  · rw [endL_nil S h]
    rw [h] at hr
    obtain ⟨a, c, rfl⟩ : ∃ a c, v = .slice a 0 c := by
      rcases hr.2 with ⟨rfl, _⟩ | ⟨g, cap, cur, rfl, _⟩
      · exact ⟨_, _, rfl⟩
      · exact ⟨_, _, rfl⟩
    refine (endLine_none c a (B + 1) W).mono ?_
    rintro e W' ⟨rfl, rfl⟩
    rw [h]
    exact ⟨rfl, hv, hr, hb, KeepTy.refl _ _, Below.refl _ _⟩
  · rw [endL_cons S h]
    have hpos := List.length_pos_iff.2 h
    obtain ⟨n, hn⟩ : ∃ n, S.ls.length = n + 1 := ⟨S.ls.length - 1, by omega⟩
    obtain ⟨g, cap, rfl, hg⟩ : ∃ g cap, v = .slice (some ⟨g, 0, none⟩) (n + 1) cap ∧ B ≤ g := by
      rcases hr.2 with ⟨_, h0⟩ | ⟨g, cap, cur, rfl, hg, _⟩
      · omega
      · exact ⟨g, cap, by rw [hn], hg⟩
    refine (endLine_some B (B + 1) g n cap S.ls S.tx W hn (by omega) hBW hg hb hr).mono ?_
    rintro e W' ⟨rfl, h1, h2, h3, h4⟩
    exact ⟨rfl, h3.row hv (by decide), by rw [setLast_length]; exact h1, h2, h3, h4⟩
theorem cell_lt {w : World} {a : Addr} {v : Value} (h : w.cell? a = some v) : a.block < w.heap.size := by
  rcases Nat.lt_or_ge a.block w.heap.size with h' | h'
  · exact h'
  · simp [World.cell?, Array.getElem?_eq_none h'] at h
set_option maxRecDepth 100000 in
set_option maxHeartbeats 2000000 in
theorem unfold_loop (s : ByteArray) (m : Int) (w : World) (hs : s.size ≤ 2097152) (hm : w.cell? ⟨0, 0, none⟩ = some (.int .i64 m)) (h1 : 1 ≤ s.size) (hb : blankI (s[0]'h1).toNat = false) (hst : stray s.data.toList 0 = s.size) (hsuf : Lib.hasSuffix s.data.toList crlf = true) :
    Calls Tryd.prog 32 #[.string s] w (UnfPost s w) := by
  have he := isEmpty_no s h1
  have hn := toList_ne s h1
  have Hb := Lib.hid hb
  have Hs := Lib.hid (show s.size ≤ maxLen by unfold maxLen; omega)
  have Hk := Lib.hid hst
  have Hsuf := Lib.hid hsuf
  have Hok := Lib.hid (unf_ok s.data.toList (by rw [first_yes s h1, hb]) (by rw [len_list, hst]) (by rw [hsuf]; simp))
  clear hb hst hsuf
  refine (callsIn_wide (n := 3)).1 ?_
  refine callsIn_of_wp_marks Tryd.func32 rfl trivial ?_ rfl
  simp only [Tryd.ntmps32, List.size_toArray, List.length_cons, List.length_nil, Nat.reduceAdd, Nat.reduceSub, Array.replicate_succ, Array.replicate_zero, List.push_toArray, List.append_toArray, List.nil_append, List.cons_append]
  gi_wp2_with fail
  refine ⟨trivial, ?_⟩
  refine (callsIn_wide.2 (blank_any _ _)).mono ?_
  rintro e w' ⟨rfl, rfl⟩
  rw [Hb.out]
  gi_wp2_with fail
  refine ⟨trivial, ?_⟩
  refine (callsIn_wide.2 (stray_any _ _ Hs.out)).mono ?_
  rintro e w' ⟨rfl, rfl⟩
  rw [Hk.out]
  gi_wp2_with fail
  refine ⟨trivial, ?_⟩
  refine (callsIn_wide.2 (Tryd.strings_HasSuffix _ _ _ (by omega))).mono ?_
  rintro e w' ⟨rfl, hw⟩
  obtain rfl := hw.symm
  rw [show (⟨#[13, 10]⟩ : ByteArray).data.toList = crlf from rfl, Hsuf.out]
  gi_wp2_with fail
  refine ⟨trivial, ?_⟩
  refine (physLines_in _ s _).mono ?_
  rintro e w' ⟨rfl, rfl⟩
  gi_wp2_with fail
  obtain ⟨W0, hW0⟩ : ∃ W0, ((w.alloc (.cells #[.slice none 0 0] 33)).alloc (.cells #[.pointer none, .slice none 0 0] 59)).alloc (.cells #[.string s] 9) = W0 := ⟨_, rfl⟩
  have hsz : W0.heap.size = w.heap.size + 3 := by rw [← hW0]; simp
  have h0w : 0 < w.heap.size := cell_lt hm
  have hbx : Boxed W0 w.heap.size 33 (.slice none 0 0) := by rw [← hW0]; exact ((Boxed.new w _ _).alloc _).alloc _
  have hbu : IsB w.heap.size (w.heap.size + 1) [] W0 := by
    rw [← hW0]
    refine .inl ⟨by omega, .slice none 0 0, ?_, World.ownsRow_nil _ _ _ _, by simp [Value.ownBlock]⟩
    have := World.alloc_heap_new (w.alloc (.cells #[.slice none 0 0] 33)) (.cells #[.pointer none, .slice none 0 0] 59)
    rw [World.size_alloc] at this
    exact (Below.heap_alloc _ _ _ (by simp)).trans this
  have hbz : Boxed W0 (w.heap.size + 2) 9 (.string s) := by
    rw [← hW0]
    have := Boxed.new ((w.alloc (.cells #[.slice none 0 0] 33)).alloc (.cells #[.pointer none, .slice none 0 0] 59)) 9 (.string s)
    simpa using this
  have hBs : W0.cell? ⟨w.heap.size + 2, 0, none⟩ = some (.string s) := hbz.cell
  have hB0 : Below w.heap.size w W0 := by rw [← hW0]; exact (((Below.refl _ w).alloc (Nat.le_refl _) _).alloc (by simp) _).alloc (by simp; omega) _
  have hm0 : W0.cell? ⟨0, 0, none⟩ = some (.int .i64 m) := (hB0.cell (p := ⟨0, 0, none⟩) h0w).trans hm
  rw [hW0]
  clear hW0
  refine wpIn_rangeFunc_ownG (n := 3) (a₁ := ?a1) rfl (by omega) (gf := 75) (lb := #[.pointer (some ⟨w.heap.size + 2, 0, none⟩)]) rfl trivial (enters_of Tryd.func75 (by kernel_rfl) rfl)
    (phys_stops (w.heap.size + 2) w.heap.size s m W0 hs (by omega) (by omega) (by omega) hBs hm0) KpU.trans (KpU.put (by omega) (by omega)) (Below.refl _ _) (fun _ => rfl)
    (UInv s w.heap.size w) (fun _ _ _ => False) ?hI (fun _ _ _ _ _ hs _ _ => hs) ?h0 ?assign ?body ?done ?stop
  case assign =>
    intro l x W K hK
    gi_wp2
    exact hK
  case h0 => exact ⟨⟨⟨⟨_, hbx, World.ownsRow_nil _ _ _ _, trivial⟩, hbu⟩, hbz⟩, hB0⟩
  case hI => exact OwnFrom.and (OwnFrom.and (OwnFrom.and (Own.from (holdsRow_own _ _ _ _ _ _ _ _) _) (Own.from (isB_own _ _ _) _)) (Own.from (boxed_own _ _ _) _)) (ownFrom_below (Nat.le_refl _) (by omega))
  case stop =>
    rintro D c pre W _ _ h _
    exact h.elim
  case body =>
    rintro l pre ⟨⟨at', p⟩, hx1, hx2⟩ W ⟨⟨⟨⟨v, hv, hr, _⟩, hb⟩, hbsW⟩, hB⟩ hlt
    have hle := foldU_len pre
    obtain ⟨S, hS⟩ : ∃ S, foldU (pre.map (·.1)) = S := ⟨_, rfl⟩
    rw [hS] at hr hb hle
    have HS := Lib.hid hS
    have hN : pre.length < 2097152 := by
      have := physL_len s.data.toList.length s.data.toList 0 (Nat.le_refl _)
      rw [len_list] at this
      omega
    have HbsW := Lib.hid hbsW
    clear hbsW
    have HE := Lib.hid he
    have HNn := Lib.hid hn
    clear hS he hn hm hbx hbu hBs hbz hB0 hm0
    dsimp only at hx1 hx2 ⊢
    gi_upto_region 13 with fail
    gi_cut [44] from 37 (fun t wx => t = .bool (fresh p) ∧ W = wx)
    case first =>
      cases p with
      | nil =>
        gi_wp2_with fail
        refine ⟨trivial, ?_⟩
        gi_wp2_with fail
        gi_meet
        exact ⟨rfl, rfl⟩
      | cons c t =>
        gi_wp2_with fail
        refine ⟨trivial, ?_⟩
        refine (CallsIn.inRound l (callsIn_wide.2 (blank_any _ _))).mono ?_
        rintro e w' ⟨rfl, rfl⟩
        gi_wp2_with fail
        gi_meet
        exact ⟨rfl, rfl⟩
    case rest =>
      obtain ⟨rfl, rfl⟩ := hcut
      gi_upto_if 44 with fail
      gi_cut [] from 44 (fun wx => UMid w.heap.size (addL S (at', p)) W wx)
      case first =>
        cases hf : fresh p
        · have hadd : addL S (at', p) = S := by simp [addL, hf]
          gi_wp2_with fail
          gi_meet
          rw [hadd]
          exact ⟨⟨v, hv, hr⟩, hb, Below.refl _ _, KeepTy.refl _ _⟩
        · have hadd : addL S (at', p) = ⟨(endL S).ls ++ [(at', [])], (endL S).tx⟩ := by simp [addL, hf]
          have Hadd := Lib.hid hadd
          have hc := hv.cell
          have Hv := Lib.hid hv
          have Hr := Lib.hid hr
          have Hb' := Lib.hid hb
          clear hadd hv hr hb
          gi_wp2_with fail
          refine ⟨trivial, ?_⟩
          refine (CallsIn.inRound l (callsIn_wide.2 (endLine_mid w.heap.size S v W (by omega) hB.size Hv.out Hr.out Hb'.out))).mono ?_
          rintro e W1 ⟨rfl, hv1, hr1, hb1, hk1, hB1⟩
          have hc1 := hv1.cell
          have Hr1 := Lib.hid hr1
          have Hb1 := Lib.hid hb1
          have Hv1 := Lib.hid hv1
          have hel := (endL_len S).1
          have Hel := Lib.hid hel
          have hs1 := hB1.size
          have hs0 := hB.size
          clear hr1 hb1 hv1 hel
          obtain ⟨i0, hi, hz0, hz1, hz2⟩ := info_parts infoPiece
          gi_wp2_with (gi_at_builtin; refine wpListIn_append_own _ rfl _ _ 33 rfl w.heap.size 43 i0 (.agg #[.int .i64 0, .string .empty]) 2 24 Tryd.underlying33 hi hz0 hz1 hz2 rfl (by decide) _ _ _ rfl (Hr1.out.alloc _) ⟨W1.heap.size, 0, none⟩ 1 1 [.int .i64 at', .string ⟨#[]⟩] rfl rfl (cell_two_new _ _ _ _) (by simp [Value.oneCell']) ?c3 ?c4 ?c5 ?_)
          case c3 => rw [Hel.out]; unfold maxLen; omega
          case c4 => rw [Hel.out]; omega
          case c5 => simp; omega
          intro v' w2 hown' hgrow _
          have hgr := own_row (Hr1.out.alloc (.cells #[.int .i64 at', .string ⟨#[]⟩] 43))
          obtain ⟨g', cap', rfl⟩ := ownsRow_succ hown'
          obtain ⟨hw1, hw2, hw3, hw4, hw5⟩ := Hv1.out.appended (by decide) Hr1.out (by omega) (Nat.le_refl _) hown' hgrow
          have hk2 : KeepTy [43, 33] W1 (w2.setCell ⟨w.heap.size, 0, none⟩ (.slice (some ⟨g', 0, none⟩) ((endL S).ls.length + 1) cap')) :=
            (((KeepTy.refl _ W1).alloc _).grown hgrow (fun k hk => by obtain ⟨cs, T, fr, q1, q2⟩ := hgr k hk; exact ⟨cs, T, fr, q1, by simp at q2; simp [q2]⟩)).setCell (p := ⟨w.heap.size, 0, none⟩) hw1 (by simp) _
          have hc2 := hw1.cell
          have hf2 := hw1.frozen
          have HW2 := Lib.hid hw2
          have HW3 := Lib.hid hw3
          clear hown' hw1 hw2 hw3 hgr
          gi_wp2_with fail
          gi_meet
          rw [Hadd.out]
          refine ⟨⟨_, HW2.out, ?_⟩, keep_isB hk2 (by decide) (by decide) Hb1.out, hB1.trans hw5, (hk1.mono (by simp +contextual)).trans (hk2.mono (by simp +contextual))⟩
          have := HW3.out
          rw [pcells_append]
          simpa [pcells] using this
      case rest =>
        obtain ⟨⟨v1, hv1, hr1⟩, hb1, hB1, hk1⟩ := hcut
        have hal := addL_len S (at', p)
        obtain ⟨T, hT⟩ : ∃ T, addL S (at', p) = T := ⟨_, rfl⟩
        rw [hT] at hr1 hb1 hal
        have hstep : stepU S (at', p) = ⟨T.ls, join T.tx (Lib.trimS p blk)⟩ := by unfold stepU; rw [hT]
        have Hst := Lib.hid hstep
        have hql := trimS_le p blk
        obtain ⟨q, hq⟩ : ∃ q, Lib.trimS p blk = q := ⟨_, rfl⟩
        rw [hq] at hql
        have Hq := Lib.hid hq
        have Hv1 := Lib.hid hv1
        have Hr1 := Lib.hid hr1
        have Hb1 := Lib.hid hb1
        have hs1 := hB1.size
        have hs0 := hB.size
        clear hT hstep hq hv1 hr1 hb1 hv hr hb
        gi_wp2_with fail
        refine ⟨trivial, ?_⟩
        refine (CallsIn.inRound l (callsIn_wide.2 (trim_set ⟨p.toArray⟩ wc (by simp [ByteArray.size]; omega)))).mono ?_
        rintro e W2 ⟨rfl, hB2⟩
        rw [show (⟨p.toArray⟩ : ByteArray).data.toList = p from rfl, Hq.out]
        have hk2 := keep_of_below hB2 [59, 5, 43, 33]
        have hk0 := keep_of_below hB2 []
        have Hv2 := Lib.hid (keep_boxed hk0 (by simp) Hv1.out)
        have Hr2 := Lib.hid (hk0.owns Hr1.out (by simp))
        have Hb2 := Lib.hid (keep_isB hk0 (by simp) (by simp) Hb1.out)
        have hs2 := hB2.size
        gi_wp2_with fail
        refine ⟨trivial, ?_⟩
        refine (CallsIn.inRound l (callsIn_wide.2 (Tryd.Builder_Len w.heap.size (w.heap.size + 1) _ W2 Hb2.out))).mono ?_
        rintro e W3 ⟨rfl, hw3⟩
        obtain rfl := hw3.symm
        rw [Lib.byteCells_length]
        have hfin : ∀ W5 : World, IsB w.heap.size (w.heap.size + 1) (Lib.byteCells (join T.tx q)) W5 → Kb w.heap.size W2 W5 →
            KeepsFrom W0.heap.size W W5 ∧ KpU w.heap.size (w.heap.size + 2) W W5 ∧ UInv s w.heap.size w (pre ++ [⟨(at', p), hx1, hx2⟩]) W5 := by
          intro W5 h5 k5
          have kA := (hk1.trans hk2).trans (k5.keep.mono (us := [59, 5, 43, 33]) (by simp +contextual))
          have bA := (hB1.trans (hB2.mono (by omega))).trans k5.below
          refine ⟨kA.others.from _, ⟨bA, ?_⟩, ⟨⟨⟨⟨v1, keep_boxed k5.keep (by decide) Hv2.out, ?_, trivial⟩, ?_⟩, keep_boxed kA (by decide) HbsW.out⟩, hB.trans bA⟩⟩
          · exact (kA.row HbsW.out (by decide)).trans HbsW.out.symm
          · rw [List.map_append, List.map_cons, List.map_nil, foldU_snoc, HS.out, Hst.out]
            exact k5.keep.owns Hr2.out (by decide)
          · rw [List.map_append, List.map_cons, List.map_nil, foldU_snoc, HS.out, Hst.out]
            dsimp only
            rw [Hq.out]
            exact h5
        have Hfin := Lib.hid hfin
        clear hfin
        have hjn : T.tx.length ≤ 4398050705408 := by omega
        rcases Nat.lt_or_ge 0 T.tx.length with hpos | hzero
        · have hne : T.tx ≠ [] := by intro e; rw [e] at hpos; simp at hpos
          have Hne := Lib.hid hne
          clear hne
          cases q with
          | nil =>
            have Hj : Hid (join T.tx [] = T.tx) := Lib.hid (by simp [join])
            gi_wp2_with fail
            refine ⟨trivial, ?_⟩
            refine (CallsIn.inRound l (callsIn_wide.2 (writeString_any w.heap.size (w.heap.size + 1) _ ⟨#[]⟩ W2 Hb2.out (by rw [Lib.byteCells_length]; simp [ByteArray.size]; omega) (by omega)))).mono ?_
            rintro e W5 ⟨rfl, hb5, hk5⟩
            gi_wp2_with fail
            exact Hfin.out W5 (by rw [Hj.out]; have := isB_of hb5 rfl; rw [show (⟨#[]⟩ : ByteArray) = ⟨([] : List UInt8).toArray⟩ from rfl, strCells_mk, ← byteCells_append, List.append_nil] at this; exact this) hk5
          | cons c t =>
            have Hj : Hid (join T.tx (c :: t) = (T.tx ++ [32]) ++ (c :: t)) := Lib.hid (by unfold join; rw [if_pos ⟨Hne.out, by simp⟩])
            gi_wp2_with fail
            refine ⟨trivial, ?_⟩
            refine (CallsIn.inRound l (callsIn_wide.2 (writeByte_any w.heap.size (w.heap.size + 1) _ 32 W2 Hb2.out (by rw [Lib.byteCells_length]; omega) (by omega)))).mono ?_
            rintro e W4 ⟨rfl, hb4, hk4⟩
            have hs4 := hk4.below.size
            have Hb4 := Lib.hid (isB_of hb4 rfl)
            clear hb4
            gi_wp2_with fail
            refine ⟨trivial, ?_⟩
            refine (CallsIn.inRound l (callsIn_wide.2 (writeString_any w.heap.size (w.heap.size + 1) _ ⟨(c :: t).toArray⟩ W4 Hb4.out (by rw [size_mk, List.length_append, Lib.byteCells_length, List.length_singleton]; omega) (by omega)))).mono ?_
            rintro e W5 ⟨rfl, hb5, hk5⟩
            gi_wp2_with fail
            refine Hfin.out W5 ?_ (hk4.trans hk5)
            rw [Hj.out, byteCells_append, byteCells_append]
            have := isB_of hb5 rfl
            rw [strCells_mk] at this
            exact this
        · have hnil : T.tx = [] := List.eq_nil_of_length_eq_zero (by omega)
          have Hj : Hid (join T.tx q = T.tx ++ q) := Lib.hid (by unfold join; rw [hnil]; simp)
          clear hnil
          gi_wp2_with fail
          refine ⟨trivial, ?_⟩
          refine (CallsIn.inRound l (callsIn_wide.2 (writeString_any w.heap.size (w.heap.size + 1) _ ⟨q.toArray⟩ W2 Hb2.out (by rw [Lib.byteCells_length, size_mk]; omega) (by omega)))).mono ?_
          rintro e W5 ⟨rfl, hb5, hk5⟩
          gi_wp2_with fail
          refine Hfin.out W5 ?_ hk5
          rw [Hj.out, byteCells_append]
          have := isB_of hb5 rfl
          rw [strCells_mk] at this
          exact this
  case done =>
    rintro D ys W hD hys ⟨⟨⟨⟨v, hv, hr, _⟩, hb⟩, _⟩, hB⟩ hK
    have hle := foldU_len ys
    have hN : ys.length ≤ 2097152 := by
      have h3 := congrArg List.length hys
      have := physL_len s.data.toList.length s.data.toList 0 (Nat.le_refl _)
      rw [len_list] at this
      rw [List.length_map] at h3
      omega
    rw [hys] at hr hb hle
    obtain ⟨S, hS⟩ : ∃ S, foldU (physL s.data.toList 0) = S := ⟨_, rfl⟩
    rw [hS] at hr hb hle
    have HS := Lib.hid hS
    have HE := Lib.hid he
    have HNn := Lib.hid hn
    have hc := hv.cell
    have Hv := Lib.hid hv
    have Hr := Lib.hid hr
    have Hbb := Lib.hid hb
    have HK := Lib.hid hK
    have hs0 := hB.size
    clear hS he hn hm hbx hbu hBs hbz hB0 hm0 hys hv hr hb hK
    gi_wp2_with fail
    refine ⟨trivial, ?_⟩
    refine (callsIn_wide.2 (endLine_mid w.heap.size S v W (by omega) hB.size Hv.out Hr.out Hbb.out)).mono ?_
    rintro e W1 ⟨rfl, hv1, hr1, hb1, hk1, hB1⟩
    have hc1 := hv1.cell
    have HK1 := Lib.hid (hk1.others.same D _ HK.out rfl)
    have Hr1 := Lib.hid hr1
    clear hv1 hr1 hb1
    gi_wp2_with fail
    refine ⟨by simp, .inl ⟨_, _, rfl, run_takeDeferred HK1.out, ?_⟩⟩
    refine ⟨_, results_tmp3 (t := 2) (u := 3) (v := 4) rfl _ _ _, v, ?_, ?_, ?_⟩
    · rw [Hok.out.2.1, Hok.out.2.2]; rfl
    · rw [Hok.out.1, HS.out]; exact ownsRow_putObj Hr1.out _ HK1.out rfl
    · exact (hB.trans hB1).trans (belowK_b (w := w) (Nat.le_refl _) W1 D _ _ (by omega) HK1.out rfl rfl)

set_option maxRecDepth 100000 in
set_option maxHeartbeats 2000000 in
theorem unfold_empty (s : ByteArray) (m : Int) (w : World) (hs : s.size ≤ 2097152) (hm : w.cell? ⟨0, 0, none⟩ = some (.int .i64 m)) (h1 : ¬ 1 ≤ s.size) :
    Calls Tryd.prog 32 #[.string s] w (UnfPost s w) := by
  have he := isEmpty_yes s h1
  have hn := toList_nil s h1
  have hl := first_no s h1
  have Hs := Lib.hid (show s.size ≤ maxLen by unfold maxLen; omega)
  have hk : stray s.data.toList 0 = s.size := by rw [hl, stray_nil]; omega
  have Hk := Lib.hid hk
  have Hok := Lib.hid (unf_ok s.data.toList (by rw [hl]; rfl) (by rw [hl, stray_nil]; rfl) (by rw [hl]; rfl))
  clear hl hk
  refine (callsIn_wide (n := 3)).1 ?_
  refine callsIn_of_wp_marks Tryd.func32 rfl trivial ?_ rfl
  simp only [Tryd.ntmps32, List.size_toArray, List.length_cons, List.length_nil, Nat.reduceAdd, Nat.reduceSub, Array.replicate_succ, Array.replicate_zero, List.push_toArray, List.append_toArray, List.nil_append, List.cons_append]
  gi_wp2_with fail
  refine ⟨trivial, ?_⟩
  gi_wp2_with fail
  refine ⟨trivial, ?_⟩
  refine (callsIn_wide.2 (stray_any _ _ Hs.out)).mono ?_
  rintro e w' ⟨rfl, rfl⟩
  rw [Hk.out]
  gi_wp2_with fail
  refine ⟨trivial, ?_⟩
  gi_wp2_with fail
  refine ⟨trivial, ?_⟩
  refine (physLines_in _ s _).mono ?_
  rintro e w' ⟨rfl, rfl⟩
  gi_wp2_with fail
  obtain ⟨W0, hW0⟩ : ∃ W0, ((w.alloc (.cells #[.slice none 0 0] 33)).alloc (.cells #[.pointer none, .slice none 0 0] 59)).alloc (.cells #[.string s] 9) = W0 := ⟨_, rfl⟩
  have hsz : W0.heap.size = w.heap.size + 3 := by rw [← hW0]; simp
  have h0w : 0 < w.heap.size := cell_lt hm
  have hbx : Boxed W0 w.heap.size 33 (.slice none 0 0) := by rw [← hW0]; exact ((Boxed.new w _ _).alloc _).alloc _
  have hbu : IsB w.heap.size (w.heap.size + 1) [] W0 := by
    rw [← hW0]
    refine .inl ⟨by omega, .slice none 0 0, ?_, World.ownsRow_nil _ _ _ _, by simp [Value.ownBlock]⟩
    have := World.alloc_heap_new (w.alloc (.cells #[.slice none 0 0] 33)) (.cells #[.pointer none, .slice none 0 0] 59)
    rw [World.size_alloc] at this
    exact (Below.heap_alloc _ _ _ (by simp)).trans this
  have hbz : Boxed W0 (w.heap.size + 2) 9 (.string s) := by
    rw [← hW0]
    have := Boxed.new ((w.alloc (.cells #[.slice none 0 0] 33)).alloc (.cells #[.pointer none, .slice none 0 0] 59)) 9 (.string s)
    simpa using this
  have hBs : W0.cell? ⟨w.heap.size + 2, 0, none⟩ = some (.string s) := hbz.cell
  have hB0 : Below w.heap.size w W0 := by rw [← hW0]; exact (((Below.refl _ w).alloc (Nat.le_refl _) _).alloc (by simp) _).alloc (by simp; omega) _
  have hm0 : W0.cell? ⟨0, 0, none⟩ = some (.int .i64 m) := (hB0.cell (p := ⟨0, 0, none⟩) h0w).trans hm
  rw [hW0]
  clear hW0
  refine wpIn_rangeFunc_ownG (n := 3) (a₁ := ?a1) rfl (by omega) (gf := 75) (lb := #[.pointer (some ⟨w.heap.size + 2, 0, none⟩)]) rfl trivial (enters_of Tryd.func75 (by kernel_rfl) rfl)
    (phys_stops (w.heap.size + 2) w.heap.size s m W0 hs (by omega) (by omega) (by omega) hBs hm0) KpU.trans (KpU.put (by omega) (by omega)) (Below.refl _ _) (fun _ => rfl)
    (UInv s w.heap.size w) (fun _ _ _ => False) ?hI (fun _ _ _ _ _ hs _ _ => hs) ?h0 ?assign ?body ?done ?stop
  case assign =>
    intro l x W K hK
    gi_wp2
    exact hK
  case h0 => exact ⟨⟨⟨⟨_, hbx, World.ownsRow_nil _ _ _ _, trivial⟩, hbu⟩, hbz⟩, hB0⟩
  case hI => exact OwnFrom.and (OwnFrom.and (OwnFrom.and (Own.from (holdsRow_own _ _ _ _ _ _ _ _) _) (Own.from (isB_own _ _ _) _)) (Own.from (boxed_own _ _ _) _)) (ownFrom_below (Nat.le_refl _) (by omega))
  case stop =>
    rintro D c pre W _ _ h _
    exact h.elim
  case body =>
    rintro l pre ⟨⟨at', p⟩, hx1, hx2⟩ W ⟨⟨⟨⟨v, hv, hr, _⟩, hb⟩, hbsW⟩, hB⟩ hlt
    have hle := foldU_len pre
    obtain ⟨S, hS⟩ : ∃ S, foldU (pre.map (·.1)) = S := ⟨_, rfl⟩
    rw [hS] at hr hb hle
    have HS := Lib.hid hS
    have hN : pre.length < 2097152 := by
      have := physL_len s.data.toList.length s.data.toList 0 (Nat.le_refl _)
      rw [len_list] at this
      omega
    have HbsW := Lib.hid hbsW
    clear hbsW
    have HE := Lib.hid he
    have HNn := Lib.hid hn
    clear hS he hn hm hbx hbu hBs hbz hB0 hm0
    dsimp only at hx1 hx2 ⊢
    gi_upto_region 13 with fail
    gi_cut [44] from 37 (fun t wx => t = .bool (fresh p) ∧ W = wx)
    case first =>
      cases p with
      | nil =>
        gi_wp2_with fail
        refine ⟨trivial, ?_⟩
        gi_wp2_with fail
        gi_meet
        exact ⟨rfl, rfl⟩
      | cons c t =>
        gi_wp2_with fail
        refine ⟨trivial, ?_⟩
        refine (CallsIn.inRound l (callsIn_wide.2 (blank_any _ _))).mono ?_
        rintro e w' ⟨rfl, rfl⟩
        gi_wp2_with fail
        gi_meet
        exact ⟨rfl, rfl⟩
    case rest =>
      obtain ⟨rfl, rfl⟩ := hcut
      gi_upto_if 44 with fail
      gi_cut [] from 44 (fun wx => UMid w.heap.size (addL S (at', p)) W wx)
      case first =>
        cases hf : fresh p
        · have hadd : addL S (at', p) = S := by simp [addL, hf]
          gi_wp2_with fail
          gi_meet
          rw [hadd]
          exact ⟨⟨v, hv, hr⟩, hb, Below.refl _ _, KeepTy.refl _ _⟩
        · have hadd : addL S (at', p) = ⟨(endL S).ls ++ [(at', [])], (endL S).tx⟩ := by simp [addL, hf]
          have Hadd := Lib.hid hadd
          have hc := hv.cell
          have Hv := Lib.hid hv
          have Hr := Lib.hid hr
          have Hb' := Lib.hid hb
          clear hadd hv hr hb
          gi_wp2_with fail
          refine ⟨trivial, ?_⟩
          refine (CallsIn.inRound l (callsIn_wide.2 (endLine_mid w.heap.size S v W (by omega) hB.size Hv.out Hr.out Hb'.out))).mono ?_
          rintro e W1 ⟨rfl, hv1, hr1, hb1, hk1, hB1⟩
          have hc1 := hv1.cell
          have Hr1 := Lib.hid hr1
          have Hb1 := Lib.hid hb1
          have Hv1 := Lib.hid hv1
          have hel := (endL_len S).1
          have Hel := Lib.hid hel
          have hs1 := hB1.size
          have hs0 := hB.size
          clear hr1 hb1 hv1 hel
          obtain ⟨i0, hi, hz0, hz1, hz2⟩ := info_parts infoPiece
          gi_wp2_with (gi_at_builtin; refine wpListIn_append_own _ rfl _ _ 33 rfl w.heap.size 43 i0 (.agg #[.int .i64 0, .string .empty]) 2 24 Tryd.underlying33 hi hz0 hz1 hz2 rfl (by decide) _ _ _ rfl (Hr1.out.alloc _) ⟨W1.heap.size, 0, none⟩ 1 1 [.int .i64 at', .string ⟨#[]⟩] rfl rfl (cell_two_new _ _ _ _) (by simp [Value.oneCell']) ?c3 ?c4 ?c5 ?_)
          case c3 => rw [Hel.out]; unfold maxLen; omega
          case c4 => rw [Hel.out]; omega
          case c5 => simp; omega
          intro v' w2 hown' hgrow _
          have hgr := own_row (Hr1.out.alloc (.cells #[.int .i64 at', .string ⟨#[]⟩] 43))
          obtain ⟨g', cap', rfl⟩ := ownsRow_succ hown'
          obtain ⟨hw1, hw2, hw3, hw4, hw5⟩ := Hv1.out.appended (by decide) Hr1.out (by omega) (Nat.le_refl _) hown' hgrow
          have hk2 : KeepTy [43, 33] W1 (w2.setCell ⟨w.heap.size, 0, none⟩ (.slice (some ⟨g', 0, none⟩) ((endL S).ls.length + 1) cap')) :=
            (((KeepTy.refl _ W1).alloc _).grown hgrow (fun k hk => by obtain ⟨cs, T, fr, q1, q2⟩ := hgr k hk; exact ⟨cs, T, fr, q1, by simp at q2; simp [q2]⟩)).setCell (p := ⟨w.heap.size, 0, none⟩) hw1 (by simp) _
          have hc2 := hw1.cell
          have hf2 := hw1.frozen
          have HW2 := Lib.hid hw2
          have HW3 := Lib.hid hw3
          clear hown' hw1 hw2 hw3 hgr
          gi_wp2_with fail
          gi_meet
          rw [Hadd.out]
          refine ⟨⟨_, HW2.out, ?_⟩, keep_isB hk2 (by decide) (by decide) Hb1.out, hB1.trans hw5, (hk1.mono (by simp +contextual)).trans (hk2.mono (by simp +contextual))⟩
          have := HW3.out
          rw [pcells_append]
          simpa [pcells] using this
      case rest =>
        obtain ⟨⟨v1, hv1, hr1⟩, hb1, hB1, hk1⟩ := hcut
        have hal := addL_len S (at', p)
        obtain ⟨T, hT⟩ : ∃ T, addL S (at', p) = T := ⟨_, rfl⟩
        rw [hT] at hr1 hb1 hal
        have hstep : stepU S (at', p) = ⟨T.ls, join T.tx (Lib.trimS p blk)⟩ := by unfold stepU; rw [hT]
        have Hst := Lib.hid hstep
        have hql := trimS_le p blk
        obtain ⟨q, hq⟩ : ∃ q, Lib.trimS p blk = q := ⟨_, rfl⟩
        rw [hq] at hql
        have Hq := Lib.hid hq
        have Hv1 := Lib.hid hv1
        have Hr1 := Lib.hid hr1
        have Hb1 := Lib.hid hb1
        have hs1 := hB1.size
        have hs0 := hB.size
        clear hT hstep hq hv1 hr1 hb1 hv hr hb
        gi_wp2_with fail
        refine ⟨trivial, ?_⟩
        refine (CallsIn.inRound l (callsIn_wide.2 (trim_set ⟨p.toArray⟩ wc (by simp [ByteArray.size]; omega)))).mono ?_
        rintro e W2 ⟨rfl, hB2⟩
        rw [show (⟨p.toArray⟩ : ByteArray).data.toList = p from rfl, Hq.out]
        have hk2 := keep_of_below hB2 [59, 5, 43, 33]
        have hk0 := keep_of_below hB2 []
        have Hv2 := Lib.hid (keep_boxed hk0 (by simp) Hv1.out)
        have Hr2 := Lib.hid (hk0.owns Hr1.out (by simp))
        have Hb2 := Lib.hid (keep_isB hk0 (by simp) (by simp) Hb1.out)
        have hs2 := hB2.size
        gi_wp2_with fail
        refine ⟨trivial, ?_⟩
        refine (CallsIn.inRound l (callsIn_wide.2 (Tryd.Builder_Len w.heap.size (w.heap.size + 1) _ W2 Hb2.out))).mono ?_
        rintro e W3 ⟨rfl, hw3⟩
        obtain rfl := hw3.symm
        rw [Lib.byteCells_length]
        have hfin : ∀ W5 : World, IsB w.heap.size (w.heap.size + 1) (Lib.byteCells (join T.tx q)) W5 → Kb w.heap.size W2 W5 →
            KeepsFrom W0.heap.size W W5 ∧ KpU w.heap.size (w.heap.size + 2) W W5 ∧ UInv s w.heap.size w (pre ++ [⟨(at', p), hx1, hx2⟩]) W5 := by
          intro W5 h5 k5
          have kA := (hk1.trans hk2).trans (k5.keep.mono (us := [59, 5, 43, 33]) (by simp +contextual))
          have bA := (hB1.trans (hB2.mono (by omega))).trans k5.below
          refine ⟨kA.others.from _, ⟨bA, ?_⟩, ⟨⟨⟨⟨v1, keep_boxed k5.keep (by decide) Hv2.out, ?_, trivial⟩, ?_⟩, keep_boxed kA (by decide) HbsW.out⟩, hB.trans bA⟩⟩
          · exact (kA.row HbsW.out (by decide)).trans HbsW.out.symm
          · rw [List.map_append, List.map_cons, List.map_nil, foldU_snoc, HS.out, Hst.out]
            exact k5.keep.owns Hr2.out (by decide)
          · rw [List.map_append, List.map_cons, List.map_nil, foldU_snoc, HS.out, Hst.out]
            dsimp only
            rw [Hq.out]
            exact h5
        have Hfin := Lib.hid hfin
        clear hfin
        have hjn : T.tx.length ≤ 4398050705408 := by omega
        rcases Nat.lt_or_ge 0 T.tx.length with hpos | hzero
        · have hne : T.tx ≠ [] := by intro e; rw [e] at hpos; simp at hpos
          have Hne := Lib.hid hne
          clear hne
          cases q with
          | nil =>
            have Hj : Hid (join T.tx [] = T.tx) := Lib.hid (by simp [join])
            gi_wp2_with fail
            refine ⟨trivial, ?_⟩
            refine (CallsIn.inRound l (callsIn_wide.2 (writeString_any w.heap.size (w.heap.size + 1) _ ⟨#[]⟩ W2 Hb2.out (by rw [Lib.byteCells_length]; simp [ByteArray.size]; omega) (by omega)))).mono ?_
            rintro e W5 ⟨rfl, hb5, hk5⟩
            gi_wp2_with fail
            exact Hfin.out W5 (by rw [Hj.out]; have := isB_of hb5 rfl; rw [show (⟨#[]⟩ : ByteArray) = ⟨([] : List UInt8).toArray⟩ from rfl, strCells_mk, ← byteCells_append, List.append_nil] at this; exact this) hk5
          | cons c t =>
            have Hj : Hid (join T.tx (c :: t) = (T.tx ++ [32]) ++ (c :: t)) := Lib.hid (by unfold join; rw [if_pos ⟨Hne.out, by simp⟩])
            gi_wp2_with fail
            refine ⟨trivial, ?_⟩
            refine (CallsIn.inRound l (callsIn_wide.2 (writeByte_any w.heap.size (w.heap.size + 1) _ 32 W2 Hb2.out (by rw [Lib.byteCells_length]; omega) (by omega)))).mono ?_
            rintro e W4 ⟨rfl, hb4, hk4⟩
            have hs4 := hk4.below.size
            have Hb4 := Lib.hid (isB_of hb4 rfl)
            clear hb4
            gi_wp2_with fail
            refine ⟨trivial, ?_⟩
            refine (CallsIn.inRound l (callsIn_wide.2 (writeString_any w.heap.size (w.heap.size + 1) _ ⟨(c :: t).toArray⟩ W4 Hb4.out (by rw [size_mk, List.length_append, Lib.byteCells_length, List.length_singleton]; omega) (by omega)))).mono ?_
            rintro e W5 ⟨rfl, hb5, hk5⟩
            gi_wp2_with fail
            refine Hfin.out W5 ?_ (hk4.trans hk5)
            rw [Hj.out, byteCells_append, byteCells_append]
            have := isB_of hb5 rfl
            rw [strCells_mk] at this
            exact this
        · have hnil : T.tx = [] := List.eq_nil_of_length_eq_zero (by omega)
          have Hj : Hid (join T.tx q = T.tx ++ q) := Lib.hid (by unfold join; rw [hnil]; simp)
          clear hnil
          gi_wp2_with fail
          refine ⟨trivial, ?_⟩
          refine (CallsIn.inRound l (callsIn_wide.2 (writeString_any w.heap.size (w.heap.size + 1) _ ⟨q.toArray⟩ W2 Hb2.out (by rw [Lib.byteCells_length, size_mk]; omega) (by omega)))).mono ?_
          rintro e W5 ⟨rfl, hb5, hk5⟩
          gi_wp2_with fail
          refine Hfin.out W5 ?_ hk5
          rw [Hj.out, byteCells_append]
          have := isB_of hb5 rfl
          rw [strCells_mk] at this
          exact this
  case done =>
    rintro D ys W hD hys ⟨⟨⟨⟨v, hv, hr, _⟩, hb⟩, _⟩, hB⟩ hK
    have hle := foldU_len ys
    have hN : ys.length ≤ 2097152 := by
      have h3 := congrArg List.length hys
      have := physL_len s.data.toList.length s.data.toList 0 (Nat.le_refl _)
      rw [len_list] at this
      rw [List.length_map] at h3
      omega
    rw [hys] at hr hb hle
    obtain ⟨S, hS⟩ : ∃ S, foldU (physL s.data.toList 0) = S := ⟨_, rfl⟩
    rw [hS] at hr hb hle
    have HS := Lib.hid hS
    have HE := Lib.hid he
    have HNn := Lib.hid hn
    have hc := hv.cell
    have Hv := Lib.hid hv
    have Hr := Lib.hid hr
    have Hbb := Lib.hid hb
    have HK := Lib.hid hK
    have hs0 := hB.size
    clear hS he hn hm hbx hbu hBs hbz hB0 hm0 hys hv hr hb hK
    gi_wp2_with fail
    refine ⟨trivial, ?_⟩
    refine (callsIn_wide.2 (endLine_mid w.heap.size S v W (by omega) hB.size Hv.out Hr.out Hbb.out)).mono ?_
    rintro e W1 ⟨rfl, hv1, hr1, hb1, hk1, hB1⟩
    have hc1 := hv1.cell
    have HK1 := Lib.hid (hk1.others.same D _ HK.out rfl)
    have Hr1 := Lib.hid hr1
    clear hv1 hr1 hb1
    gi_wp2_with fail
    refine ⟨by simp, .inl ⟨_, _, rfl, run_takeDeferred HK1.out, ?_⟩⟩
    refine ⟨_, results_tmp3 (t := 2) (u := 3) (v := 4) rfl _ _ _, v, ?_, ?_, ?_⟩
    · rw [Hok.out.2.1, Hok.out.2.2]; rfl
    · rw [Hok.out.1, HS.out]; exact ownsRow_putObj Hr1.out _ HK1.out rfl
    · exact (hB.trans hB1).trans (belowK_b (w := w) (Nat.le_refl _) W1 D _ _ (by omega) HK1.out rfl rfl)

/-- Unfold: whatever the text. -/
theorem unfold_any (s : ByteArray) (m : Int) (w : World) (hs : s.size ≤ 2097152) (hm : w.cell? ⟨0, 0, none⟩ = some (.int .i64 m)) : Calls Tryd.prog 32 #[.string s] w (UnfPost s w) := by
  by_cases h1 : 1 ≤ s.size
  · cases hb : blankI (s[0]'h1).toNat
    · have hsl : stray s.data.toList 0 ≤ s.size := by have := stray_le s.data.toList.length s.data.toList 0 (Nat.le_refl _); rw [len_list] at this; omega
      by_cases hst : stray s.data.toList 0 < s.size
      · exact unfold_stray s w h1 (by unfold maxLen; omega) hb hst
      · cases hsuf : Lib.hasSuffix s.data.toList crlf
        · exact unfold_short s w h1 (by unfold maxLen; omega) hb (by omega) hsuf
        · exact unfold_loop s m w hs hm h1 hb (by omega) hsuf
    · exact unfold_blank s w h1 hb
  · exact unfold_empty s m w hs hm h1
end Lx
end Go.Proofs.YtjbjaofbdbkjaaaDoor
