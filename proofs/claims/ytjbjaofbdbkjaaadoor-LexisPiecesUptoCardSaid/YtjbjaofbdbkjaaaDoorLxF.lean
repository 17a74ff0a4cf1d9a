/- Contracts of Fold of package lexis and of Fold of package dialtoneref01: each returns what the plain specification says. Condition: a text has at most 2^20 bytes. -/
import Derived.Test.YtjbjaofbdbkjaaaDoorLxFB
import Derived.Test.YtjbjaofbdbkjaaaDoorLxRU
namespace Go.Proofs.YtjbjaofbdbkjaaaDoor
namespace Lx
open Go.RowKit

def strLen : Value → Nat | .string s => s.size | _ => 0
theorem str_of {a : ByteArray} {l : List UInt8} (h : a.data.toList = l) : a = ⟨l.toArray⟩ := by subst h; cases a; simp
theorem data_app (a b : ByteArray) : (a ++ b).data.toList = a.data.toList ++ b.data.toList := by simp
theorem foldF_len (w : Int) (n : Nat) (s : ByteArray) (h : s.size ≤ n) (h1 : ¬ (s.size : Int) ≤ w) (h2 : brkF s w 1 0 ≠ 0) (h0 : 0 ≤ w) :
    ∃ m, n = m + 1 ∧ brkF s w 1 0 < s.size ∧ (s.extract (brkF s w 1 0) s.size).size = s.size - brkF s w 1 0 ∧ (s.extract (brkF s w 1 0) s.size).size ≤ m ∧ foldF w n s = (s.extract 0 (brkF s w 1 0)).data.toList ++ crlf ++ foldF w m (s.extract (brkF s w 1 0) s.size) := by
  have hpos : 0 < s.size := by omega
  have hlt := brkF_lt s w _ 1 0 (Nat.le_refl _) hpos
  obtain ⟨m, rfl⟩ : ∃ m, n = m + 1 := ⟨n - 1, by omega⟩
  have he : (s.extract (brkF s w 1 0) s.size).size = s.size - brkF s w 1 0 := by simp
  refine ⟨m, rfl, hlt, he, by omega, foldF_next w m s h1 h2⟩
theorem str_ne {a b : ByteArray} (h : ¬ a = b) : (a.toList == b.toList) = false := by
  rw [beq_eq_false_iff_ne, ByteArray.toList_eq, ByteArray.toList_eq]
  intro e
  apply h
  cases a; cases b
  simp at e
  rw [e]
theorem ext0_size (s : ByteArray) (k : Nat) (h : k ≤ s.size) : (s.extract 0 k).size = k := by simp; try omega
theorem strCells_eq (s : ByteArray) : Lib.strCells s = Lib.byteCells s.data.toList := by simp [Lib.strCells, Lib.byteCells]

set_option maxRecDepth 100000 in
set_option maxHeartbeats 2000000 in
theorem fold_any (s : ByteArray) (wd : Int) (w : World) (hs : s.size ≤ 1048576) :
    Calls Tryd.prog 34 #[.string s, .int .i64 wd] w (Ret2 (foT s wd) (foE s wd) w) := by
  by_cases hr : wd < 20 ∨ 1000 < wd
  · have HE := Lib.hid (by unfold foE; rw [if_pos hr] : foE s wd = 2)
    have HT := Lib.hid (by unfold foT; rw [HE.out, if_pos (by decide)] : foT s wd = [])
    rcases hr with h | h
    all_goals
      go_enter Tryd.func34, Tryd.ntmps34
      go_wp2_with fail
    · go_ret2
      exact ⟨ret_si (by rw [HT.out]) HE.out.symm, Below.refl _ _⟩
    · by_cases h' : wd < 20
      · exfalso; omega
      · go_ret2
        exact ⟨ret_si (by rw [HT.out]) HE.out.symm, Below.refl _ _⟩
  · have hlo : 20 ≤ wd := by omega
    have hhi : wd ≤ 1000 := by omega
    have HE := Lib.hid (by unfold foE; rw [if_neg hr] : foE s wd = if hasCtl s.data.toList || !decide (Lib.trimS s.data.toList blk = s.data.toList) then 5 else 0)
    clear hr
    cases hc : anyC ctlI s.data.toList
    · have Hc := Lib.hid hc
      by_cases ht : Lib.trimS s.data.toList blk = s.data.toList
      · have HE0 := Lib.hid (by rw [HE.out, show hasCtl s.data.toList = anyC ctlI s.data.toList from rfl, hc, ht]; simp : foE s wd = 0)
        have HT := Lib.hid (by unfold foT; rw [HE0.out]; simp : foT s wd = foldF wd s.size s)
        have Ht := Lib.hid (by rw [ht] : (⟨(Lib.trimS s.data.toList blk).toArray⟩ : ByteArray) = s)
        clear hc ht HE
        go_enter Tryd.func34, Tryd.ntmps34
        go_wp2_with fail
        refine (contains_any _ _ ctlFn s w (by omega)).mono ?_
        rintro e w' ⟨rfl, rfl⟩
        rw [Hc.out]
        go_wp2_with fail
        refine (trim_set s w (by omega)).mono ?_
        rintro e w1 ⟨rfl, hB1⟩
        rw [Ht.out]
        have hs1 := hB1.size
        go_wp2_with fail
        go_loopw [0, 7] (fun r _ wr => ∃ (ρ : ByteArray) (n : Nat) (acc : List UInt8), r = .string ρ ∧ ρ.size ≤ n ∧ acc ++ foldF wd n ρ = foldF wd s.size s ∧ acc.length + 3 * ρ.size ≤ 3 * s.size ∧ ρ.size ≤ s.size ∧ IsB w1.heap.size w1.heap.size (Lib.byteCells acc) wr ∧ Below w1.heap.size w1 wr) (fun r _ _ => strLen r)
        case atStart => exact ⟨s, s.size, [], rfl, Nat.le_refl _, rfl, by simp, Nat.le_refl _, fresh_isB w1, (Below.refl _ w1).alloc (Nat.le_refl _) _⟩
        case round =>
          obtain ⟨ρ, n, acc, rfl, hn, hf, hal, hρ, hb, hB⟩ := hrel
          have hsz := hB.size
          have Hb := Lib.hid hb
          have Hf := Lib.hid hf
          clear hb hf
          by_cases hgt : wd < (ρ.size : Int)
          · by_cases hk : brkF ρ wd 1 0 = 0
            · have HV := Lib.hid (by unfold lastV; rw [if_pos hk] : lastV (brkF ρ wd 1 0) = -1)
              have HX := Lib.hid (.inr hk : (ρ.size : Int) ≤ wd ∨ brkF ρ wd 1 0 = 0)
              clear hk
              go_wp2_with fail
              refine (lastBreak_any ρ wd _ (by omega)).mono ?_
              rintro e w' ⟨rfl, rfl⟩
              rw [HV.out]
              go_wp2_with fail
              refine (writeString_any w1.heap.size w1.heap.size _ ρ _ Hb.out (by rw [Lib.byteCells_length]; omega) (by omega)).mono ?_
              rintro e w3 ⟨rfl, hb3, hk3⟩
              have hs3 := hk3.below.size
              have Hb3 := Lib.hid (isB_of hb3 rfl)
              clear hb3
              go_wp2_with fail
              refine (writeString_any w1.heap.size w1.heap.size _ ⟨#[13, 10]⟩ _ Hb3.out (by rw [List.length_append, Lib.byteCells_length, Lib.strCells_length, show (⟨#[13, 10]⟩ : ByteArray).size = 2 from rfl]; omega) (by omega)).mono ?_
              rintro e w4 ⟨rfl, hb4, hk4⟩
              have hs4 := hk4.below.size
              have Hb4 := Lib.hid (by have := isB_of hb4 rfl; rw [strCells_eq, strCells_eq, ← byteCells_append, ← byteCells_append] at this; exact this : IsB w1.heap.size w1.heap.size (Lib.byteCells (acc ++ ρ.data.toList ++ crlf)) w4)
              clear hb4
              go_wp2_with fail
              refine (string_any w1.heap.size w1.heap.size _ _ Hb4.out (by omega)).mono ?_
              rintro e w5 ⟨rfl, hk5, _⟩
              go_wp2_with fail
              go_ret2
              exact ⟨ret_si (by rw [HT.out, ← Hf.out, foldF_end wd n ρ HX.out]) HE0.out.symm, hB1.trans ((((hB.trans hk3.below).trans hk4.below).trans hk5.below).mono hs1)⟩
            · obtain ⟨m, rfl, hlt, hsz2, hm, hF⟩ := foldF_len wd n ρ hn (by omega) hk (by omega)
              obtain ⟨k, hkk⟩ : ∃ k, brkF ρ wd 1 0 = k := ⟨_, rfl⟩
              have HV := Lib.hid (by unfold lastV; rw [if_neg hk, hkk] : lastV (brkF ρ wd 1 0) = (k : Int))
              rw [hkk] at hk hlt hsz2 hm hF
              have hkpos : 0 < k := by omega
              have hx0 := ext0_size ρ k (by omega)
              obtain ⟨X, hX⟩ : ∃ X, ρ.extract 0 k = X := ⟨_, rfl⟩
              obtain ⟨Y, hY⟩ : ∃ Y, ρ.extract k ρ.size = Y := ⟨_, rfl⟩
              rw [hX, hY] at hF
              rw [hX] at hx0
              rw [hY] at hsz2 hm
              have HF := Lib.hid hF
              have HXX := Lib.hid hX
              have HYY := Lib.hid hY
              clear hF hX hY hkk hk
              go_wp2_with fail
              refine (lastBreak_any ρ wd _ (by omega)).mono ?_
              rintro e w' ⟨rfl, rfl⟩
              rw [HV.out]
              go_wp2_with fail
              rw [HXX.out]
              refine (writeString_any w1.heap.size w1.heap.size _ X _ Hb.out (by rw [Lib.byteCells_length]; omega) (by omega)).mono ?_
              rintro e w3 ⟨rfl, hb3, hk3⟩
              have hs3 := hk3.below.size
              have Hb3 := Lib.hid (isB_of hb3 rfl)
              clear hb3
              go_wp2_with fail
              refine (writeString_any w1.heap.size w1.heap.size _ ⟨#[13, 10]⟩ _ Hb3.out (by rw [List.length_append, Lib.byteCells_length, Lib.strCells_length, show (⟨#[13, 10]⟩ : ByteArray).size = 2 from rfl]; omega) (by omega)).mono ?_
              rintro e w4 ⟨rfl, hb4, hk4⟩
              have hs4 := hk4.below.size
              have Hb4 := Lib.hid (by have := isB_of hb4 rfl; rw [strCells_eq, strCells_eq, ← byteCells_append, ← byteCells_append] at this; exact this : IsB w1.heap.size w1.heap.size (Lib.byteCells (acc ++ X.data.toList ++ crlf)) w4)
              clear hb4
              go_wp2_with fail
              go_roundw
              case rel =>
                refine ⟨Y, m, acc ++ X.data.toList ++ crlf, by rw [HYY.out], hm, ?_, ?_, by omega, Hb4.out, (hB.trans hk3.below).trans hk4.below⟩
                · rw [← Hf.out, HF.out]; simp
                · rw [List.length_append, List.length_append, len_list]; simp [crlf]; omega
              case measure => simp only [strLen]; rw [HYY.out]; omega
          · have HX := Lib.hid (.inl (by omega) : (ρ.size : Int) ≤ wd ∨ brkF ρ wd 1 0 = 0)
            go_wp2_with fail
            refine (writeString_any w1.heap.size w1.heap.size _ ρ _ Hb.out (by rw [Lib.byteCells_length]; omega) (by omega)).mono ?_
            rintro e w3 ⟨rfl, hb3, hk3⟩
            have hs3 := hk3.below.size
            have Hb3 := Lib.hid (isB_of hb3 rfl)
            clear hb3
            go_wp2_with fail
            refine (writeString_any w1.heap.size w1.heap.size _ ⟨#[13, 10]⟩ _ Hb3.out (by rw [List.length_append, Lib.byteCells_length, Lib.strCells_length, show (⟨#[13, 10]⟩ : ByteArray).size = 2 from rfl]; omega) (by omega)).mono ?_
            rintro e w4 ⟨rfl, hb4, hk4⟩
            have hs4 := hk4.below.size
            have Hb4 := Lib.hid (by have := isB_of hb4 rfl; rw [strCells_eq, strCells_eq, ← byteCells_append, ← byteCells_append] at this; exact this : IsB w1.heap.size w1.heap.size (Lib.byteCells (acc ++ ρ.data.toList ++ crlf)) w4)
            clear hb4
            go_wp2_with fail
            refine (string_any w1.heap.size w1.heap.size _ _ Hb4.out (by omega)).mono ?_
            rintro e w5 ⟨rfl, hk5, _⟩
            go_wp2_with fail
            go_ret2
            exact ⟨ret_si (by rw [HT.out, ← Hf.out, foldF_end wd n ρ HX.out]) HE0.out.symm, hB1.trans ((((hB.trans hk3.below).trans hk4.below).trans hk5.below).mono hs1)⟩
      · have HE0 := Lib.hid (by rw [HE.out, decide_eq_false ht]; simp : foE s wd = 5)
        have HT := Lib.hid (by unfold foT; rw [HE0.out]; simp : foT s wd = [])
        have hne : ¬ (⟨(Lib.trimS s.data.toList blk).toArray⟩ : ByteArray) = s := by
          intro h
          apply ht
          have := congrArg (fun x : ByteArray => x.data.toList) h
          simpa using this
        obtain ⟨T, hT⟩ : ∃ T, (⟨(Lib.trimS s.data.toList blk).toArray⟩ : ByteArray) = T := ⟨_, rfl⟩
        rw [hT] at hne
        have hne1 : (T.toList == s.toList) = false := str_ne hne
        have HTT := Lib.hid hT
        clear hc ht hT HE
        go_enter Tryd.func34, Tryd.ntmps34
        go_wp2_with fail
        refine (contains_any _ _ ctlFn s w (by omega)).mono ?_
        rintro e w' ⟨rfl, rfl⟩
        rw [Hc.out]
        go_wp2_with fail
        refine (trim_set s w (by omega)).mono ?_
        rintro e w1 ⟨rfl, hB1⟩
        rw [HTT.out]
        go_wp2_with fail
        go_ret2
        exact ⟨ret_si (by rw [HT.out]) HE0.out.symm, hB1⟩
    · have HE0 := Lib.hid (by rw [HE.out, show hasCtl s.data.toList = anyC ctlI s.data.toList from rfl, hc]; simp : foE s wd = 5)
      have HT := Lib.hid (by unfold foT; rw [HE0.out]; simp : foT s wd = [])
      have Hc := Lib.hid hc
      clear hc HE
      go_enter Tryd.func34, Tryd.ntmps34
      go_wp2_with fail
      refine (contains_any _ _ ctlFn s w (by omega)).mono ?_
      rintro e w' ⟨rfl, rfl⟩
      rw [Hc.out]
      go_wp2_with fail
      go_ret2
      exact ⟨ret_si (by rw [HT.out]) HE0.out.symm, Below.refl _ _⟩

set_option maxRecDepth 100000 in
set_option maxHeartbeats 2000000 in
theorem rfold_any (s : ByteArray) (wd : Int) (w : World) (hs : s.size ≤ 1048576) :
    Calls Tryd.prog 35 #[.string s, .int .i64 wd] w (Ret (.tuple #[.string ⟨(foT s wd).toArray⟩, .int .u8 (foE s wd)]) w) := by
  by_cases hr : wd < 20 ∨ 1000 < wd
  · have HE := Lib.hid (by unfold foE; rw [if_pos hr] : foE s wd = 2)
    have HT := Lib.hid (by unfold foT; rw [HE.out, if_pos (by decide)] : foT s wd = [])
    rcases hr with h | h
    all_goals
      go_enter Tryd.func35, Tryd.ntmps35
      go_wp2_with fail
    · go_ret2
      exact ⟨ret_si (by rw [HT.out]) HE.out.symm, rfl⟩
    · by_cases h' : wd < 20
      · exfalso; omega
      · go_ret2
        exact ⟨ret_si (by rw [HT.out]) HE.out.symm, rfl⟩
  · have hlo : 20 ≤ wd := by omega
    have hhi : wd ≤ 1000 := by omega
    have HE := Lib.hid (by unfold foE; rw [if_neg hr] : foE s wd = if hasCtl s.data.toList || !decide (Lib.trimS s.data.toList blk = s.data.toList) then 5 else 0)
    clear hr
    go_enter Tryd.func35, Tryd.ntmps35
    go_wp2_with fail
    go_loop [6] (fun i => ∃ j : Nat, j ≤ s.size ∧ i = .int .i64 j ∧ hasCtl (s.data.toList.drop j) = hasCtl s.data.toList) (fun i => s.size - (intOf i).toNat)
    case atStart => exact ⟨0, by omega, rfl, rfl⟩
    case round =>
      obtain ⟨j, hj, rfl, hj2⟩ := hrel
      have Hj2 := Lib.hid hj2
      clear hj2
      by_cases hlt : j < s.size
      · have hdr := hasCtl_drop s j hlt
        rw [Hj2.out] at hdr
        cases hc : ctlI s[j].toNat
        · have HN := Lib.hid (by rw [hdr, hc]; rfl : hasCtl (s.data.toList.drop (j + 1)) = hasCtl s.data.toList)
          have Hc := Lib.hid hc
          clear hc hdr
          go_wp2_with fail
          refine (rctl_any _ _).mono ?_
          rintro e w' ⟨rfl, rfl⟩
          rw [Hc.out]
          go_wp2_with fail
          go_round
          case rel => exact ⟨j + 1, by omega, by go_num, HN.out⟩
          case measure => simp [intOf]; omega
        · have HE0 := Lib.hid (by rw [HE.out, hdr, hc]; simp : foE s wd = 5)
          have HT := Lib.hid (by unfold foT; rw [HE0.out]; simp : foT s wd = [])
          have Hc := Lib.hid hc
          clear hc hdr
          go_wp2_with fail
          refine (rctl_any _ _).mono ?_
          rintro e w' ⟨rfl, rfl⟩
          rw [Hc.out]
          go_wp2_with fail
          go_ret2
          exact ⟨ret_si (by rw [HT.out]) HE0.out.symm, rfl⟩
      · have hnc : hasCtl s.data.toList = false := by rw [← Hj2.out, drop_end s j (by omega)]; rfl
        by_cases ht : Lib.trimS s.data.toList blk = s.data.toList
        · have HE0 := Lib.hid (by rw [HE.out, hnc, ht]; simp : foE s wd = 0)
          have HT := Lib.hid (by unfold foT; rw [HE0.out]; simp : foT s wd = foldF wd s.size s)
          have Ht := Lib.hid (by rw [ht] : (⟨(Lib.trimS s.data.toList blk).toArray⟩ : ByteArray) = s)
          clear hnc ht
          go_wp2_with fail
          refine (rtrim_any s _ (by omega)).mono ?_
          rintro e w' ⟨rfl, rfl⟩
          rw [Ht.out]
          go_wp2_with fail
          go_loop [0, 7, 8] (fun r o _ => ∃ (ρ : ByteArray) (n : Nat) (O : ByteArray), r = .string ρ ∧ o = .string O ∧ ρ.size ≤ n ∧ O.data.toList ++ foldF wd n ρ = foldF wd s.size s ∧ O.size + 3 * ρ.size ≤ 3 * s.size ∧ ρ.size ≤ s.size) (fun r _ _ => strLen r)
          case atStart => exact ⟨s, s.size, ⟨#[]⟩, rfl, rfl, Nat.le_refl _, rfl, by rw [show (⟨#[]⟩ : ByteArray).size = 0 from rfl]; omega, Nat.le_refl _⟩
          case round =>
            obtain ⟨ρ, n, O, rfl, rfl, hn, hf, hal, hρ⟩ := hrel
            have Hf := Lib.hid hf
            clear hf
            by_cases hgt : wd < (ρ.size : Int)
            · by_cases hk : brkF ρ wd 1 0 = 0
              · have HX := Lib.hid (.inr hk : (ρ.size : Int) ≤ wd ∨ brkF ρ wd 1 0 = 0)
                have HV := Lib.hid hk
                clear hk
                go_wp2_with fail
                refine (broken_any ρ wd _ (by omega)).mono ?_
                rintro e w' ⟨rfl, rfl⟩
                rw [HV.out]
                go_wp2_with fail
                go_ret2
                exact ⟨ret_si (by rw [HT.out, ← Hf.out, foldF_end wd n ρ HX.out]; exact str_of (by simp [crlf])) HE0.out.symm, rfl⟩
              · obtain ⟨m, rfl, hlt', hsz2, hm, hF⟩ := foldF_len wd n ρ hn (by omega) hk (by omega)
                obtain ⟨k, hkk⟩ : ∃ k, brkF ρ wd 1 0 = k := ⟨_, rfl⟩
                have HV := Lib.hid hkk
                rw [hkk] at hk hlt' hsz2 hm hF
                have hk0 : ((k : Int) == 0) = false := by rw [beq_eq_false_iff_ne]; omega
                have hkpos : 0 < k := by omega
                have hx0 := ext0_size ρ k (by omega)
                obtain ⟨X, hX⟩ : ∃ X, ρ.extract 0 k = X := ⟨_, rfl⟩
                obtain ⟨Y, hY⟩ : ∃ Y, ρ.extract k ρ.size = Y := ⟨_, rfl⟩
                rw [hX, hY] at hF
                rw [hX] at hx0
                rw [hY] at hsz2 hm
                have HF := Lib.hid hF
                have HXX := Lib.hid hX
                have HYY := Lib.hid hY
                have hxs : (ρ.extract 0 k).size ≤ ρ.size := by rw [hX]; omega
                clear hF hX hY hkk hk
                go_wp2_with fail
                refine (broken_any ρ wd _ (by omega)).mono ?_
                rintro e w' ⟨rfl, rfl⟩
                rw [HV.out]
                go_wp2_with fail
                go_round
                case rel =>
                  refine ⟨Y, m, O ++ X ++ ⟨#[13, 10]⟩, by rw [HYY.out], by rw [HXX.out], hm, ?_, ?_, by omega⟩
                  · rw [← Hf.out, HF.out]; simp [crlf]
                  · rw [ByteArray.size_append, ByteArray.size_append, show (⟨#[13, 10]⟩ : ByteArray).size = 2 from rfl]; omega
                case measure => simp only [strLen]; rw [HYY.out]; omega
            · have HX := Lib.hid (.inl (by omega) : (ρ.size : Int) ≤ wd ∨ brkF ρ wd 1 0 = 0)
              go_wp2_with fail
              go_ret2
              exact ⟨ret_si (by rw [HT.out, ← Hf.out, foldF_end wd n ρ HX.out]; exact str_of (by simp [crlf])) HE0.out.symm, rfl⟩
        · have HE0 := Lib.hid (by rw [HE.out, decide_eq_false ht]; simp : foE s wd = 5)
          have HT := Lib.hid (by unfold foT; rw [HE0.out]; simp : foT s wd = [])
          have hne : ¬ s = (⟨(Lib.trimS s.data.toList blk).toArray⟩ : ByteArray) := by
            intro h
            apply ht
            have := congrArg (fun x : ByteArray => x.data.toList) h.symm
            simpa using this
          obtain ⟨T, hT⟩ : ∃ T, (⟨(Lib.trimS s.data.toList blk).toArray⟩ : ByteArray) = T := ⟨_, rfl⟩
          rw [hT] at hne
          have hne1 : (s.toList == T.toList) = false := str_ne hne
          have HTT := Lib.hid hT
          clear hnc ht hT
          go_wp2_with fail
          refine (rtrim_any s _ (by omega)).mono ?_
          rintro e w' ⟨rfl, rfl⟩
          rw [HTT.out]
          go_wp2_with fail
          go_ret2
          exact ⟨ret_si (by rw [HT.out]) HE0.out.symm, rfl⟩
end Lx
end Go.Proofs.YtjbjaofbdbkjaaaDoor
