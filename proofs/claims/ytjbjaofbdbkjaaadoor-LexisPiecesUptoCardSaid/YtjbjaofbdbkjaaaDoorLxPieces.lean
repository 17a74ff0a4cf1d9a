/- The law of LexisPieces. Conditions: the text has at most 2^20 bytes, and the library's variable bytealg.MaxLen holds an int. -/
import Derived.Test.YtjbjaofbdbkjaaaDoorLxPcSpec
import Derived.Test.YtjbjaofbdbkjaaaDoorLxSplits
import Derived.IntWalk
namespace Go.Proofs.YtjbjaofbdbkjaaaDoor
namespace Lx
open Go.RowKit

theorem stepS_le2 (l : List UInt8) (i : Nat) : (stepS l i).1 ≤ i + l.length := by
  match l with
  | [] => simp [stepS]
  | [c] => unfold stepS; simp only []; split; simp; split <;> simp
  | c :: d :: t => have := stepS_le (c :: d :: t) i; simp only [List.length_cons]; omega
theorem qEnd_le2 (n : Nat) : ∀ (l : List UInt8) (i : Nat), l.length ≤ n → (qEnd l i).1 ≤ i + l.length := by
  induction n with
  | zero => intro l i h; have : l = [] := List.eq_nil_of_length_eq_zero (by omega); subst this; rw [qEnd_nil]; simp
  | succ n ih =>
    intro l i h
    cases l with
    | nil => rw [qEnd_nil]; simp
    | cons c t =>
      simp only [List.length_cons] at h ⊢
      by_cases h34 : c.toNat = 34
      · rw [qEnd_quote _ _ _ h34]; dsimp only; omega
      · by_cases h0 : (stepS (c :: t) i).2 = 0
        · rw [qEnd_step _ _ _ h34 h0]
          have hok := stepS_ok _ _ h0
          simp only [List.length_cons] at hok
          have := ih ((c :: t).drop ((stepS (c :: t) i).1 - i)) (stepS (c :: t) i).1 (by simp only [List.length_drop, List.length_cons]; omega)
          simp only [List.length_drop, List.length_cons] at this
          omega
        · rw [qEnd_err _ _ _ h34 h0]
          have := stepS_le2 (c :: t) i
          simpa using this
theorem skR_le (s : ByteArray) (k : Nat) (h : k < s.size) : (skR s.data.toList k).1 ≤ s.size := by
  by_cases h0 : (skR s.data.toList k).2 = 0
  · exact (skR_ok s k h h0).2
  · rw [skR_at s k h] at h0 ⊢
    have hq := qEnd_le2 _ (s.data.toList.drop (k + 1)) (k + 1) (Nat.le_refl _)
    rw [List.length_drop, len_list] at hq
    split
    · omega
    · rename_i h34
      rw [if_neg h34] at h0
      split
      · rename_i h60
        rw [if_pos h60] at h0
        split
        · exact Nat.le_refl _
        · rename_i hn; rw [if_neg hn] at h0; exact absurd rfl h0
      · rename_i h60
        rw [if_neg h60] at h0
        split
        · dsimp only; omega
        · rename_i hn; rw [if_neg hn] at h0; exact absurd rfl h0
theorem spR_bad (s : ByteArray) (sep : Int) (n : Nat) : ∀ (a k : Nat) (acc L : List (Nat × List UInt8)) (x : Nat) (e : Int), spR s.data.toList sep n a k acc = (L, x, e) → e ≠ 0 → L = [] ∧ x ≤ s.size := by
  induction n with
  | zero =>
    intro a k acc L x e h he
    exfalso
    unfold spR at h
    injection h with _ h
    injection h with _ h
    exact he h.symm
  | succ n ih =>
    intro a k acc L x e h he
    by_cases hlt : k < s.size
    · by_cases hse : (s[k].toNat : Int) = sep
      · rw [spR_sep s _ n a k acc hlt hse] at h
        exact ih _ _ _ _ _ _ h he
      · by_cases h0 : (skR s.data.toList k).2 = 0
        · rw [spR_skip s _ n a k acc hlt hse h0] at h
          exact ih _ _ _ _ _ _ h he
        · rw [spR_err s _ n a k acc hlt hse h0] at h
          injection h with h1 h
          injection h with h2 h
          exact ⟨h1.symm, by rw [← h2]; exact skR_le s k hlt⟩
    · exfalso
      rw [spR_end s _ _ a k acc (by omega)] at h
      injection h with _ h
      injection h with _ h
      exact he h.symm
theorem spF_bad (s : ByteArray) (sep : Int) (L : List (Nat × List UInt8)) (x : Nat) (e : Int) (h : spF s.data.toList sep = (L, x, e)) (he : e ≠ 0) : L = [] ∧ x ≤ s.size := by
  unfold spF at h
  split at h
  · injection h with h1 h
    injection h with h2 h
    exact ⟨h1.symm, by omega⟩
  · exact spR_bad s sep _ _ _ _ _ _ _ h he
theorem good_at (l : List UInt8) : ∀ (L : List (Nat × List UInt8)) (b : Nat), Good l b L → ∀ (k : Nat) (hk : k < L.length),
    (L[k]).1 + (L[k]).2.length ≤ l.length ∧ (l.drop (L[k]).1).take (L[k]).2.length = (L[k]).2 ∧ Lib.trimS (L[k]).2 blk = (L[k]).2 ∧ (k = 0 → b ≤ (L[k]).1) ∧ (∀ j, k = j + 1 → ∀ hj : j < L.length, (L[j]).1 + (L[j]).2.length + 1 ≤ (L[k]).1) := by
  intro L
  induction L with
  | nil => intro b _ k hk; simp at hk
  | cons p r ih =>
    intro b h k hk
    obtain ⟨h1, h2, h3, h4, h5⟩ := h
    cases k with
    | zero => exact ⟨h2, h3, h4, fun _ => h1, fun j hj => by omega⟩
    | succ k =>
      obtain ⟨g1, g2, g3, g4, g5⟩ := ih _ h5 k (by simpa using hk)
      refine ⟨g1, g2, g3, fun h => by omega, ?_⟩
      intro j hj hj2
      obtain rfl : j = k := by omega
      cases j with
      | zero => exact g4 rfl
      | succ j => exact g5 j rfl (by simp at hj2; omega)
theorem rtrim_q (y : List UInt8) (w : World) (hs : y.length ≤ 2147483648) (ht : Lib.trimS y blk = y) : Calls Tryd.prog 37 #[.string ⟨y.toArray⟩] w fun e w' => e = .returned (.string ⟨y.toArray⟩) ∧ w' = w := by
  refine (rtrim_any ⟨y.toArray⟩ w (by simp [ByteArray.size]; omega)).mono ?_
  rintro e w' ⟨rfl, rfl⟩
  exact ⟨by rw [show (⟨y.toArray⟩ : ByteArray).data.toList = y from rfl, ht], rfl⟩
theorem row_one (w : World) (c : UInt8) : (w.alloc (.cells #[.int .u8 (c.toNat : Int)] 5)).ownsRow w.heap.size 5 1 (.slice (some ⟨w.heap.size, 0, none⟩) 1 1) [c].length (Lib.byteCells [c]) :=
  ⟨rfl, .inr ⟨w.heap.size, 1, #[.int .u8 (c.toNat : Int)], rfl, Nat.le_refl _, World.alloc_heap_new w _, Nat.le_refl _, by unfold maxLen; omega, rfl, rfl⟩⟩

set_option maxRecDepth 100000 in
set_option maxHeartbeats 4000000 in
set_option pp.maxSteps 1000000 in
set_option pp.deepTerms true in
set_option pp.deepTerms.threshold 10000 in
theorem pieces_semi (s : ByteArray) (m : Int) (w : World) (hs : s.size ≤ 1048576) (hm : w.cell? ⟨0, 0, none⟩ = some (.int .i64 m)) :
    Calls Tryd.prog 10 #[.string s, .bool true] w fun e w' => e = .returned (.bool true) ∧ Below w.heap.size w w' := by
  have h0 := cell_lt hm
  have Hm := Lib.hid hm
  have hl1 := spF_len s.data.toList 59
  rw [len_list] at hl1
  obtain ⟨R, hR⟩ : ∃ R, spF s.data.toList 59 = R := ⟨_, rfl⟩
  rw [hR] at hl1
  obtain ⟨L, A, E⟩ := R
  have HR := Lib.hid hR
  dsimp only at hl1
  clear hm hR
  go_enter Tryd.func10, Tryd.ntmps10
  go_wp2_with fail
  refine (split_any s 59 w (by omega)).mono ?_
  rw [HR.out]
  rintro e w1 ⟨v1, rfl, hr1, hB1⟩
  dsimp only at hr1 ⊢
  have hs1 := hB1.size
  have hp := PcIn.of_row hr1
  have Hp := Lib.hid hp
  obtain ⟨va, vc, rfl, _⟩ := id hp
  clear hr1 hp
  have Haw := Lib.hid (awake_any m w1 ((hB1.cell (p := ⟨0, 0, none⟩) h0).trans Hm.out))
  by_cases hE : E = 0
  · subst hE
    obtain ⟨hgood, hpos, hjoin⟩ := split_join s 59 L A (by decide) HR.out
    have Hgood := Lib.hid (good_at _ _ _ hgood)
    have Hjoin := Lib.hid hjoin
    clear hgood hjoin
    by_cases hbig : 300 < L.length
    · go_wp2_with fail
      refine Haw.out.mono ?_
      rintro e w' ⟨rfl, hB9⟩
      go_wp2_with fail
      go_ret
      exact ⟨rfl, hB1.trans (hB9.mono hs1)⟩
    · go_wp2_with fail
      go_loopw [9, 10, 11] (fun jv lv i wr => ∃ (k z : Nat) (J : ByteArray), k ≤ L.length ∧ i = .int .i64 k ∧ lv = .int .i64 z ∧ jv = .string J ∧ J.data.toList = jn 59 ((L.map (·.2)).take k) ∧ J.size ≤ z ∧ z ≤ s.size ∧ (k = 0 → z = 0) ∧ (∀ j, k = j + 1 → ∀ hj : j < L.length, z = (L[j]).1 + (L[j]).2.length) ∧ Below w1.heap.size w1 wr) (fun _ _ i _ => L.length - (intOf i).toNat)
      case atStart => exact ⟨0, 0, ⟨#[]⟩, by omega, rfl, rfl, rfl, by simp [jn], by rw [show (⟨#[]⟩ : ByteArray).size = 0 from rfl]; omega, by omega, fun _ => rfl, fun j hj => by omega, Below.refl _ _⟩
      case round =>
        obtain ⟨k, z, J, hk, rfl, rfl, rfl, hJ, hJz, hzs, hz0, hzj, hBr⟩ := hrel
        have HJ := Lib.hid hJ
        have Hz0 := Lib.hid hz0
        have Hzj := Lib.hid hzj
        have hsr := hBr.size
        clear hJ hz0 hzj
        by_cases hlt : k < L.length
        · obtain ⟨g1, rfl, hc1, hd1⟩ := (Hp.out.below hBr).at k hlt
          obtain ⟨q1, q2, q3, q4, q5⟩ := Hgood.out k hlt
          have hzx : z ≤ (L[k]).1 ∧ (0 < k → z + 1 ≤ (L[k]).1) := by
            cases k with
            | zero => rw [Hz0.out rfl]; exact ⟨by omega, fun h => by omega⟩
            | succ j => have e1 := Hzj.out j rfl (by omega); have e2 := q5 j rfl (by omega); rw [e1]; exact ⟨by omega, fun _ => by omega⟩
          have Htake := Lib.hid (by rw [List.take_succ_eq_append_getElem (by simpa using hlt), jn_snoc, List.getElem_map] : jn 59 ((L.map (·.2)).take (k + 1)) = if (L.map (·.2)).take k = [] then (L[k]).2 else jn 59 ((L.map (·.2)).take k) ++ [59] ++ (L[k]).2)
          have Hnew : Hid (∀ j, k + 1 = j + 1 → ∀ hj : j < L.length, (L[k]).1 + (L[k]).2.length = (L[j]).1 + (L[j]).2.length) := Lib.hid (by intro j hj _; obtain rfl : k = j := (by omega); rfl)
          clear q4 q5
          obtain ⟨p, hp⟩ : ∃ p, L[k] = p := ⟨_, rfl⟩
          rw [hp] at hc1 hd1 q1 q2 q3 hzx Htake Hnew
          obtain ⟨xi, xt⟩ := p
          dsimp only at hc1 hd1 q1 q2 q3 hzx
          rw [len_list] at q1
          have hext : s.extract xi (xi + xt.length) = ⟨xt.toArray⟩ := str_of (by rw [Lib.extract_data, Nat.add_sub_cancel_left]; exact q2)
          have hq := fun w => rtrim_q xt w (by omega) q3
          have Hq := Lib.hid hq
          have Hext := Lib.hid hext
          have f1 : decide (xi < z) = false := by simp; omega
          have f2 : decide (s.size < xi) = false := by simp; omega
          have f3 : decide ((s.size : Int) - (xi : Int) < (xt.length : Int)) = false := by simp; omega
          have f0 : (0 : Int) ≤ (xi : Int) + (xt.length : Int) := by omega
          have f5 : ((xi : Int) + (xt.length : Int)).toNat = xi + xt.length := by omega
          have f6 : IntKind.i64.wrap ((s.size : Int) - (xi : Int)) = (s.size : Int) - (xi : Int) := IntWalk.i64_in _ (by omega)
          have f7 : IntKind.i64.wrap ((xi : Int) + (xt.length : Int)) = (xi : Int) + (xt.length : Int) := IntWalk.i64_in _ (by omega)
          have f8 : (xi : Int) + (xt.length : Int) ≤ (s.size : Int) := by omega
          have f9 : (xi : Int) ≤ (xi : Int) + (xt.length : Int) := by omega
          have f4 : ((s.extract xi (xi + xt.length)).toList == xt) = true := by rw [hext]; simp
          clear q2 q3 hp hq hext
          go_wp2_with fail
          go_quiet ((go_at_call 37; exact Calls.quiet_of_same (Hq.out _)))
          obtain ⟨W, hW⟩ : ∃ W, wr.drewN nq = W := ⟨_, rfl⟩
          have hBW : Below w1.heap.size w1 W := by rw [← hW]; exact ⟨hBr.os, hBr.tape, hBr.output, hBr.size, hBr.block⟩
          have hc1' : W.cell? ⟨g1, k * 2, none⟩ = some (.int .i64 (xi : Int)) := by rw [← hW]; exact hc1
          have hd1' : W.cell? ⟨g1, k * 2 + 1, none⟩ = some (.string ⟨xt.toArray⟩) := by rw [← hW]; exact hd1
          rw [hW]
          clear hW hc1 hd1 f1 f2 f3 f4 f6
          go_wp2_with fail
          go_quiet (fail)
          obtain ⟨W2, hW2⟩ : ∃ W2, W.drewN nq = W2 := ⟨_, rfl⟩
          have hB2 : Below w1.heap.size w1 W2 := by rw [← hW2]; exact ⟨hBW.os, hBW.tape, hBW.output, hBW.size, hBW.block⟩
          have hd2 : W2.cell? ⟨g1, k * 2 + 1, none⟩ = some (.string ⟨xt.toArray⟩) := by rw [← hW2]; exact hd1'
          have hs2 := hB2.size
          rw [hW2]
          clear hW2 hc1' hd1' f0 f5 f7 f9 f8
          have hxs : (⟨xt.toArray⟩ : ByteArray).size = xt.length := by simp [ByteArray.size]
          by_cases hk0 : 1 ≤ k
          · have hcv : (convert 47 9 (.slice (some ⟨W2.heap.size, 0, none⟩) 1 1)).run Tryd.prog (W2.alloc (.cells #[.int .u8 59] 5)) = .ok (.string ⟨#[59]⟩) (W2.alloc (.cells #[.int .u8 59] 5)) := conv_row (row_one W2 59)
            have hg1 : g1 < W2.heap.size := cell_lt (a := ⟨g1, k * 2 + 1, none⟩) hd2
            have hne : (L.map (·.2)).take k ≠ [] := by
              intro e
              have := congrArg List.length e
              rw [List.length_take, List.length_map, List.length_nil] at this
              omega
            have HT2 := Lib.hid (by rw [Htake.out, if_neg hne, ← HJ.out] : jn 59 ((L.map (·.2)).take (k + 1)) = J.data.toList ++ [59] ++ xt)
            clear hne
            go_wp2_with fail
            go_roundw
            case rel =>
              refine ⟨k + 1, xi + xt.length, J ++ ⟨#[59]⟩ ++ ⟨xt.toArray⟩, by omega, by go_num, by go_num, rfl, ?_, ?_, by omega, fun h => by omega, Hnew.out, hB2.alloc (by omega) _⟩
              · rw [data_app, data_app, HT2.out]
              · rw [ByteArray.size_append, ByteArray.size_append, hxs, show (⟨#[59]⟩ : ByteArray).size = 1 from rfl]
                have := hzx.2 (by omega)
                omega
            case measure => simp [intOf]; omega
          · have hk00 : k = 0 := by omega
            have HT2 := Lib.hid (by
              have e : (L.map (·.2)).take k = [] := by rw [hk00]; rfl
              have e2 : J.data.toList = [] := by rw [HJ.out, e]; rfl
              rw [Htake.out, if_pos e, e2]; rfl : jn 59 ((L.map (·.2)).take (k + 1)) = J.data.toList ++ xt)
            clear hk00
            go_wp2_with fail
            go_roundw
            case rel =>
              refine ⟨k + 1, xi + xt.length, J ++ ⟨xt.toArray⟩, by omega, by go_num, by go_num, rfl, ?_, ?_, by omega, fun h => by omega, Hnew.out, hB2⟩
              · rw [data_app, HT2.out]
              · rw [ByteArray.size_append, hxs]; omega
            case measure => simp [intOf]; omega
        · have hJ' : J.data.toList = jn 59 (L.map (·.2)) := by rw [HJ.out, List.take_of_length_le (by simp; omega)]
          obtain ⟨M, hm1, hm2, hm3⟩ := Hjoin.out J hJ'
          have HM := Lib.hid (show spF J.data.toList 59 = (M, 0, 0) from hm1)
          have Htx : Hid (∀ k (h1 : k < M.length) (h2 : k < L.length), (M[k]).2 = (L[k]).2) := Lib.hid (by
            intro k h1 h2
            have e1 : (M.map (·.2))[k]'(by simpa using h1) = (M[k]).2 := by simp
            have e2 : (L.map (·.2))[k]'(by simpa using h2) = (L[k]).2 := by simp
            rw [← e1, ← e2]
            congr 1)
          have hwr := hB1.trans (hBr.mono hs1)
          clear hJ' hm1 hm3
          go_wp2_with fail
          refine (split_any J 59 wr (by omega)).mono ?_
          rw [HM.out]
          rintro e w3 ⟨v3, rfl, hr3, hB3⟩
          dsimp only at hr3 ⊢
          have hw3 := hwr.trans (hB3.mono hwr.size)
          have hs3 := hw3.size
          have p1 : PcIn w3 (.slice va L.length vc) L := (Hp.out.below hBr).below hB3
          have p3 : PcIn w3 v3 M := PcIn.of_row hr3
          have P1 := Lib.hid p1
          have P3 := Lib.hid p3
          obtain ⟨ma, mc, rfl, _⟩ := id p3
          have hmb : ((M.length : Int) != (L.length : Int)) = false := by rw [hm2]; simp
          clear hr3 p1 p3
          go_wp2_with fail
          go_loopw [15] (fun i wq => ∃ k n : Nat, k ≤ L.length ∧ i = .int .i64 k ∧ wq = w3.drewN n) (fun i _ => L.length - (intOf i).toNat)
          case atStart => exact ⟨0, 0, by omega, rfl, rfl⟩
          case round =>
            obtain ⟨k', n, hk', rfl, rfl⟩ := hrel
            by_cases hlt' : k' < L.length
            · obtain ⟨g1, rfl, _, hd1⟩ := P1.out.at k' hlt'
              obtain ⟨g3, rfl, _, hd3⟩ := P3.out.at k' (by omega)
              rw [Htx.out k' (by omega) hlt'] at hd3
              obtain ⟨xt, hxt⟩ : ∃ x, (L[k']).2 = x := ⟨_, rfl⟩
              rw [hxt] at hd1 hd3
              obtain ⟨W, hW⟩ : ∃ W, w3.drewN n = W := ⟨_, rfl⟩
              have hd1' : W.cell? ⟨g1, k' * 2 + 1, none⟩ = some (.string ⟨xt.toArray⟩) := by rw [← hW]; exact hd1
              have hd3' : W.cell? ⟨g3, k' * 2 + 1, none⟩ = some (.string ⟨xt.toArray⟩) := by rw [← hW]; exact hd3
              rw [hW]
              have HW := Lib.hid hW
              clear hxt hd1 hd3 hW
              go_wp2_with fail
              go_quiet (fail)
              go_wp2_with fail
              go_roundw
              case rel => exact ⟨k' + 1, n + nq, by omega, by go_num, by rw [← HW.out]; exact drewN_two w3 n nq⟩
              case measure => simp [intOf]; omega
            · have hB9 : Below w.heap.size w (w3.drewN n) := ⟨hw3.os, hw3.tape, hw3.output, hw3.size, hw3.block⟩
              have hs9 := hB9.size
              go_wp2_with fail
              refine (awake_any m _ ((hB9.cell (p := ⟨0, 0, none⟩) h0).trans Hm.out)).mono ?_
              rintro e w' ⟨rfl, hB10⟩
              go_wp2_with fail
              go_ret
              exact ⟨rfl, hB9.trans (hB10.mono hs9)⟩
  · have hbad := spF_bad s 59 L A E HR.out hE
    obtain ⟨rfl, hA⟩ := hbad
    have hEb : (E != 0) = true := by simpa using hE
    clear hE
    go_wp2_with fail
    refine Haw.out.mono ?_
    rintro e w' ⟨rfl, hB9⟩
    go_wp2_with fail
    go_ret
    exact ⟨rfl, hB1.trans (hB9.mono hs1)⟩

set_option maxRecDepth 100000 in
set_option maxHeartbeats 4000000 in
set_option pp.maxSteps 1000000 in
set_option pp.deepTerms true in
set_option pp.deepTerms.threshold 10000 in
theorem pieces_comma (s : ByteArray) (m : Int) (w : World) (hs : s.size ≤ 1048576) (hm : w.cell? ⟨0, 0, none⟩ = some (.int .i64 m)) :
    Calls Tryd.prog 10 #[.string s, .bool false] w fun e w' => e = .returned (.bool true) ∧ Below w.heap.size w w' := by
  have h0 := cell_lt hm
  have Hm := Lib.hid hm
  have hl1 := spF_len s.data.toList 44
  rw [len_list] at hl1
  obtain ⟨R, hR⟩ : ∃ R, spF s.data.toList 44 = R := ⟨_, rfl⟩
  rw [hR] at hl1
  obtain ⟨L, A, E⟩ := R
  have HR := Lib.hid hR
  dsimp only at hl1
  clear hm hR
  go_enter Tryd.func10, Tryd.ntmps10
  go_wp2_with fail
  refine (split_any s 44 w (by omega)).mono ?_
  rw [HR.out]
  rintro e w1 ⟨v1, rfl, hr1, hB1⟩
  dsimp only at hr1 ⊢
  have hs1 := hB1.size
  have hp := PcIn.of_row hr1
  have Hp := Lib.hid hp
  obtain ⟨va, vc, rfl, _⟩ := id hp
  clear hr1 hp
  have Haw := Lib.hid (awake_any m w1 ((hB1.cell (p := ⟨0, 0, none⟩) h0).trans Hm.out))
  by_cases hE : E = 0
  · subst hE
    obtain ⟨hgood, hpos, hjoin⟩ := split_join s 44 L A (by decide) HR.out
    have Hgood := Lib.hid (good_at _ _ _ hgood)
    have Hjoin := Lib.hid hjoin
    clear hgood hjoin
    by_cases hbig : 300 < L.length
    · go_wp2_with fail
      refine Haw.out.mono ?_
      rintro e w' ⟨rfl, hB9⟩
      go_wp2_with fail
      go_ret
      exact ⟨rfl, hB1.trans (hB9.mono hs1)⟩
    · go_wp2_with fail
      go_loopw [9, 10, 11] (fun jv lv i wr => ∃ (k z : Nat) (J : ByteArray), k ≤ L.length ∧ i = .int .i64 k ∧ lv = .int .i64 z ∧ jv = .string J ∧ J.data.toList = jn 44 ((L.map (·.2)).take k) ∧ J.size ≤ z ∧ z ≤ s.size ∧ (k = 0 → z = 0) ∧ (∀ j, k = j + 1 → ∀ hj : j < L.length, z = (L[j]).1 + (L[j]).2.length) ∧ Below w1.heap.size w1 wr) (fun _ _ i _ => L.length - (intOf i).toNat)
      case atStart => exact ⟨0, 0, ⟨#[]⟩, by omega, rfl, rfl, rfl, by simp [jn], by rw [show (⟨#[]⟩ : ByteArray).size = 0 from rfl]; omega, by omega, fun _ => rfl, fun j hj => by omega, Below.refl _ _⟩
      case round =>
        obtain ⟨k, z, J, hk, rfl, rfl, rfl, hJ, hJz, hzs, hz0, hzj, hBr⟩ := hrel
        have HJ := Lib.hid hJ
        have Hz0 := Lib.hid hz0
        have Hzj := Lib.hid hzj
        have hsr := hBr.size
        clear hJ hz0 hzj
        by_cases hlt : k < L.length
        · obtain ⟨g1, rfl, hc1, hd1⟩ := (Hp.out.below hBr).at k hlt
          obtain ⟨q1, q2, q3, q4, q5⟩ := Hgood.out k hlt
          have hzx : z ≤ (L[k]).1 ∧ (0 < k → z + 1 ≤ (L[k]).1) := by
            cases k with
            | zero => rw [Hz0.out rfl]; exact ⟨by omega, fun h => by omega⟩
            | succ j => have e1 := Hzj.out j rfl (by omega); have e2 := q5 j rfl (by omega); rw [e1]; exact ⟨by omega, fun _ => by omega⟩
          have Htake := Lib.hid (by rw [List.take_succ_eq_append_getElem (by simpa using hlt), jn_snoc, List.getElem_map] : jn 44 ((L.map (·.2)).take (k + 1)) = if (L.map (·.2)).take k = [] then (L[k]).2 else jn 44 ((L.map (·.2)).take k) ++ [44] ++ (L[k]).2)
          have Hnew : Hid (∀ j, k + 1 = j + 1 → ∀ hj : j < L.length, (L[k]).1 + (L[k]).2.length = (L[j]).1 + (L[j]).2.length) := Lib.hid (by intro j hj _; obtain rfl : k = j := (by omega); rfl)
          clear q4 q5
          obtain ⟨p, hp⟩ : ∃ p, L[k] = p := ⟨_, rfl⟩
          rw [hp] at hc1 hd1 q1 q2 q3 hzx Htake Hnew
          obtain ⟨xi, xt⟩ := p
          dsimp only at hc1 hd1 q1 q2 q3 hzx
          rw [len_list] at q1
          have hext : s.extract xi (xi + xt.length) = ⟨xt.toArray⟩ := str_of (by rw [Lib.extract_data, Nat.add_sub_cancel_left]; exact q2)
          have hq := fun w => rtrim_q xt w (by omega) q3
          have Hq := Lib.hid hq
          have Hext := Lib.hid hext
          have f1 : decide (xi < z) = false := by simp; omega
          have f2 : decide (s.size < xi) = false := by simp; omega
          have f3 : decide ((s.size : Int) - (xi : Int) < (xt.length : Int)) = false := by simp; omega
          have f0 : (0 : Int) ≤ (xi : Int) + (xt.length : Int) := by omega
          have f5 : ((xi : Int) + (xt.length : Int)).toNat = xi + xt.length := by omega
          have f6 : IntKind.i64.wrap ((s.size : Int) - (xi : Int)) = (s.size : Int) - (xi : Int) := IntWalk.i64_in _ (by omega)
          have f7 : IntKind.i64.wrap ((xi : Int) + (xt.length : Int)) = (xi : Int) + (xt.length : Int) := IntWalk.i64_in _ (by omega)
          have f8 : (xi : Int) + (xt.length : Int) ≤ (s.size : Int) := by omega
          have f9 : (xi : Int) ≤ (xi : Int) + (xt.length : Int) := by omega
          have f4 : ((s.extract xi (xi + xt.length)).toList == xt) = true := by rw [hext]; simp
          clear q2 q3 hp hq hext
          go_wp2_with fail
          go_quiet ((go_at_call 37; exact Calls.quiet_of_same (Hq.out _)))
          obtain ⟨W, hW⟩ : ∃ W, wr.drewN nq = W := ⟨_, rfl⟩
          have hBW : Below w1.heap.size w1 W := by rw [← hW]; exact ⟨hBr.os, hBr.tape, hBr.output, hBr.size, hBr.block⟩
          have hc1' : W.cell? ⟨g1, k * 2, none⟩ = some (.int .i64 (xi : Int)) := by rw [← hW]; exact hc1
          have hd1' : W.cell? ⟨g1, k * 2 + 1, none⟩ = some (.string ⟨xt.toArray⟩) := by rw [← hW]; exact hd1
          rw [hW]
          clear hW hc1 hd1 f1 f2 f3 f4 f6
          go_wp2_with fail
          go_quiet (fail)
          obtain ⟨W2, hW2⟩ : ∃ W2, W.drewN nq = W2 := ⟨_, rfl⟩
          have hB2 : Below w1.heap.size w1 W2 := by rw [← hW2]; exact ⟨hBW.os, hBW.tape, hBW.output, hBW.size, hBW.block⟩
          have hd2 : W2.cell? ⟨g1, k * 2 + 1, none⟩ = some (.string ⟨xt.toArray⟩) := by rw [← hW2]; exact hd1'
          have hs2 := hB2.size
          rw [hW2]
          clear hW2 hc1' hd1' f0 f5 f7 f9 f8
          have hxs : (⟨xt.toArray⟩ : ByteArray).size = xt.length := by simp [ByteArray.size]
          by_cases hk0 : 1 ≤ k
          · have hcv : (convert 47 9 (.slice (some ⟨W2.heap.size, 0, none⟩) 1 1)).run Tryd.prog (W2.alloc (.cells #[.int .u8 44] 5)) = .ok (.string ⟨#[44]⟩) (W2.alloc (.cells #[.int .u8 44] 5)) := conv_row (row_one W2 44)
            have hg1 : g1 < W2.heap.size := cell_lt (a := ⟨g1, k * 2 + 1, none⟩) hd2
            have hne : (L.map (·.2)).take k ≠ [] := by
              intro e
              have := congrArg List.length e
              rw [List.length_take, List.length_map, List.length_nil] at this
              omega
            have HT2 := Lib.hid (by rw [Htake.out, if_neg hne, ← HJ.out] : jn 44 ((L.map (·.2)).take (k + 1)) = J.data.toList ++ [44] ++ xt)
            clear hne
            go_wp2_with fail
            go_roundw
            case rel =>
              refine ⟨k + 1, xi + xt.length, J ++ ⟨#[44]⟩ ++ ⟨xt.toArray⟩, by omega, by go_num, by go_num, rfl, ?_, ?_, by omega, fun h => by omega, Hnew.out, hB2.alloc (by omega) _⟩
              · rw [data_app, data_app, HT2.out]
              · rw [ByteArray.size_append, ByteArray.size_append, hxs, show (⟨#[44]⟩ : ByteArray).size = 1 from rfl]
                have := hzx.2 (by omega)
                omega
            case measure => simp [intOf]; omega
          · have hk00 : k = 0 := by omega
            have HT2 := Lib.hid (by
              have e : (L.map (·.2)).take k = [] := by rw [hk00]; rfl
              have e2 : J.data.toList = [] := by rw [HJ.out, e]; rfl
              rw [Htake.out, if_pos e, e2]; rfl : jn 44 ((L.map (·.2)).take (k + 1)) = J.data.toList ++ xt)
            clear hk00
            go_wp2_with fail
            go_roundw
            case rel =>
              refine ⟨k + 1, xi + xt.length, J ++ ⟨xt.toArray⟩, by omega, by go_num, by go_num, rfl, ?_, ?_, by omega, fun h => by omega, Hnew.out, hB2⟩
              · rw [data_app, HT2.out]
              · rw [ByteArray.size_append, hxs]; omega
            case measure => simp [intOf]; omega
        · have hJ' : J.data.toList = jn 44 (L.map (·.2)) := by rw [HJ.out, List.take_of_length_le (by simp; omega)]
          obtain ⟨M, hm1, hm2, hm3⟩ := Hjoin.out J hJ'
          have HM := Lib.hid (show spF J.data.toList 44 = (M, 0, 0) from hm1)
          have Htx : Hid (∀ k (h1 : k < M.length) (h2 : k < L.length), (M[k]).2 = (L[k]).2) := Lib.hid (by
            intro k h1 h2
            have e1 : (M.map (·.2))[k]'(by simpa using h1) = (M[k]).2 := by simp
            have e2 : (L.map (·.2))[k]'(by simpa using h2) = (L[k]).2 := by simp
            rw [← e1, ← e2]
            congr 1)
          have hwr := hB1.trans (hBr.mono hs1)
          clear hJ' hm1 hm3
          go_wp2_with fail
          refine (split_any J 44 wr (by omega)).mono ?_
          rw [HM.out]
          rintro e w3 ⟨v3, rfl, hr3, hB3⟩
          dsimp only at hr3 ⊢
          have hw3 := hwr.trans (hB3.mono hwr.size)
          have hs3 := hw3.size
          have p1 : PcIn w3 (.slice va L.length vc) L := (Hp.out.below hBr).below hB3
          have p3 : PcIn w3 v3 M := PcIn.of_row hr3
          have P1 := Lib.hid p1
          have P3 := Lib.hid p3
          obtain ⟨ma, mc, rfl, _⟩ := id p3
          have hmb : ((M.length : Int) != (L.length : Int)) = false := by rw [hm2]; simp
          clear hr3 p1 p3
          go_wp2_with fail
          go_loopw [15] (fun i wq => ∃ k n : Nat, k ≤ L.length ∧ i = .int .i64 k ∧ wq = w3.drewN n) (fun i _ => L.length - (intOf i).toNat)
          case atStart => exact ⟨0, 0, by omega, rfl, rfl⟩
          case round =>
            obtain ⟨k', n, hk', rfl, rfl⟩ := hrel
            by_cases hlt' : k' < L.length
            · obtain ⟨g1, rfl, _, hd1⟩ := P1.out.at k' hlt'
              obtain ⟨g3, rfl, _, hd3⟩ := P3.out.at k' (by omega)
              rw [Htx.out k' (by omega) hlt'] at hd3
              obtain ⟨xt, hxt⟩ : ∃ x, (L[k']).2 = x := ⟨_, rfl⟩
              rw [hxt] at hd1 hd3
              obtain ⟨W, hW⟩ : ∃ W, w3.drewN n = W := ⟨_, rfl⟩
              have hd1' : W.cell? ⟨g1, k' * 2 + 1, none⟩ = some (.string ⟨xt.toArray⟩) := by rw [← hW]; exact hd1
              have hd3' : W.cell? ⟨g3, k' * 2 + 1, none⟩ = some (.string ⟨xt.toArray⟩) := by rw [← hW]; exact hd3
              rw [hW]
              have HW := Lib.hid hW
              clear hxt hd1 hd3 hW
              go_wp2_with fail
              go_quiet (fail)
              go_wp2_with fail
              go_roundw
              case rel => exact ⟨k' + 1, n + nq, by omega, by go_num, by rw [← HW.out]; exact drewN_two w3 n nq⟩
              case measure => simp [intOf]; omega
            · have hB9 : Below w.heap.size w (w3.drewN n) := ⟨hw3.os, hw3.tape, hw3.output, hw3.size, hw3.block⟩
              have hs9 := hB9.size
              go_wp2_with fail
              refine (awake_any m _ ((hB9.cell (p := ⟨0, 0, none⟩) h0).trans Hm.out)).mono ?_
              rintro e w' ⟨rfl, hB10⟩
              go_wp2_with fail
              go_ret
              exact ⟨rfl, hB9.trans (hB10.mono hs9)⟩
  · have hbad := spF_bad s 44 L A E HR.out hE
    obtain ⟨rfl, hA⟩ := hbad
    have hEb : (E != 0) = true := by simpa using hE
    clear hE
    go_wp2_with fail
    refine Haw.out.mono ?_
    rintro e w' ⟨rfl, hB9⟩
    go_wp2_with fail
    go_ret
    exact ⟨rfl, hB1.trans (hB9.mono hs1)⟩
theorem pieces_law (s : ByteArray) (b : Bool) (m : Int) (w : World) (hs : s.size ≤ 1048576) (hm : w.cell? ⟨0, 0, none⟩ = some (.int .i64 m)) :
    Calls Tryd.prog 10 #[.string s, .bool b] w fun e w' => e = .returned (.bool true) ∧ Below w.heap.size w w' := by
  cases b
  · exact pieces_comma s m w hs hm
  · exact pieces_semi s m w hs hm
end Lx
end Go.Proofs.YtjbjaofbdbkjaaaDoor
