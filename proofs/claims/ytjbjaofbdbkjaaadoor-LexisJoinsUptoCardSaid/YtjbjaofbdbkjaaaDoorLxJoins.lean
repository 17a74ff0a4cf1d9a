/- The law of LexisJoins. Conditions: the two texts have together at most 2^20 bytes, and the library's variable bytealg.MaxLen holds an int. -/
import Derived.Test.YtjbjaofbdbkjaaaDoorLxJSpec
import Derived.Test.YtjbjaofbdbkjaaaDoorLxUnfolds
namespace Go.Proofs.YtjbjaofbdbkjaaaDoor
namespace Lx
open Go.RowKit

theorem unfAt_le (l : List UInt8) : unfAt l ≤ l.length := by
  unfold unfAt
  split
  · omega
  · split
    · omega
    · split <;> omega
theorem setLast_mem (ls : List (Nat × List UInt8)) (tx : List UInt8) (p : Nat × List UInt8) (h : p ∈ setLast ls tx) : ∃ q ∈ ls, q.1 = p.1 := by
  by_cases hl : ls = []
  · subst hl; simp [setLast] at h
  · obtain ⟨a, q, rfl, _⟩ := last_split ls (ls.length - 1) (by have := List.length_pos_iff.2 hl; omega)
    rw [setLast_snoc] at h
    rcases List.mem_append.1 h with h | h
    · exact ⟨p, List.mem_append_left _ h, rfl⟩
    · rw [List.mem_singleton] at h
      exact ⟨q, by simp, by rw [h]⟩
theorem endL_mem (S : USt) (p : Nat × List UInt8) (h : p ∈ (endL S).ls) : ∃ q ∈ S.ls, q.1 = p.1 := by
  by_cases hl : S.ls = []
  · rw [endL_nil S hl] at h; exact ⟨p, h, rfl⟩
  · rw [endL_cons S hl] at h; exact setLast_mem _ _ _ h
theorem foldU_mem (ys : List (Nat × List UInt8)) : ∀ p, p ∈ (foldU ys).ls → ∃ y ∈ ys, y.1 = p.1 := by
  refine snoc_ind (P := fun ys => ∀ p, p ∈ (foldU ys).ls → ∃ y ∈ ys, y.1 = p.1) ?_ ?_ ys
  · intro p h; simp [foldU] at h
  · intro l c ih p h
    rw [foldU_snoc] at h
    cases hf : fresh c.2
    · have h1 : (stepU (foldU l) c).ls = (foldU l).ls := by simp [stepU, addL, hf]
      rw [h1] at h
      obtain ⟨y, hy, e⟩ := ih p h
      exact ⟨y, List.mem_append_left _ hy, e⟩
    · have h1 : (stepU (foldU l) c).ls = (endL (foldU l)).ls ++ [(c.1, [])] := by simp [stepU, addL, hf]
      rw [h1] at h
      rcases List.mem_append.1 h with h | h
      · obtain ⟨q, hq, e⟩ := endL_mem _ _ h
        obtain ⟨y, hy, e2⟩ := ih q hq
        exact ⟨y, List.mem_append_left _ hy, e2.trans e⟩
      · rw [List.mem_singleton] at h
        exact ⟨c, by simp, by rw [h]⟩
theorem physL_mem (n : Nat) : ∀ (l : List UInt8) (i : Nat) (y : Nat × List UInt8), l.length ≤ n → y ∈ physL l i → y.1 ≤ i + l.length := by
  induction n with
  | zero => intro l i y h hy; have : l = [] := List.eq_nil_of_length_eq_zero (by omega); subst this; simp [physL_nil] at hy
  | succ n ih =>
    intro l i y h hy
    by_cases hl : l = []
    · subst hl; simp [physL_nil] at hy
    · have hpos := List.length_pos_iff.2 hl
      rw [physL_cons l i hl] at hy
      rcases List.mem_cons.1 hy with hy | hy
      · rw [hy]; simp
      · by_cases hd : l.drop ((Lib.cut l crlf).1.length + 2) = []
        · rw [hd, physL_nil] at hy; cases hy
        · have := ih _ _ y (by simp; omega) hy
          have h2 := List.length_pos_iff.2 hd
          simp at this h2
          omega
theorem unfL_at (l : List UInt8) (p : Nat × List UInt8) (h : p ∈ unfL l) : p.1 ≤ l.length := by
  unfold unfL at h
  split at h
  · cases h
  · obtain ⟨q, hq, e⟩ := endL_mem _ _ h
    obtain ⟨y, hy, e2⟩ := foldU_mem _ _ hq
    have := physL_mem l.length l 0 y (Nat.le_refl _) hy
    omega
theorem joined_at (LA LB L : List (Nat × List UInt8)) (k m : Nat) (h : L = LA ++ LB.map (shp m)) (hk : k < LB.length) (hk2 : LA.length + k < L.length) : (L[LA.length + k]'hk2) = shp m (LB[k]'hk) := by
  subst h
  rw [List.getElem_append_right (by omega)]
  simp
theorem PcIn.prefix {w : World} {a : Option Addr} {n c : Nat} {ls X : List (Nat × List UInt8)} (h : PcIn w (.slice a n c) (ls ++ X)) : PcIn w (.slice a ls.length c) ls := by
  obtain ⟨a', c', e, hc⟩ := h
  injection e with e1 e2 e3
  subst e1 e3
  refine ⟨a, c, rfl, fun hne => ?_⟩
  obtain ⟨g, hg, hcells⟩ := hc (by simp [hne])
  refine ⟨g, hg, fun j u hu => hcells j u ?_⟩
  rw [pcells_append]
  have hlt : j < (pcells ls).length := by
    rcases Nat.lt_or_ge j (pcells ls).length with h | h
    · exact h
    · rw [List.getElem?_eq_none h] at hu; cases hu
  rw [List.getElem?_append_left hlt]; exact hu
theorem cap_of {w : World} {B n : Nat} {a : Option Addr} {m c : Nat} {cs : List Value} (h : w.ownsRow B 43 2 (.slice a m c) n cs) : n ≤ c ∧ (a = none → c = 0) := by
  rcases h.2 with ⟨e, h0⟩ | ⟨g, cap, cur, e, hg, hh, hn, hcm, hcs, htk⟩
  · injection e with e1 e2 e3; subst e1 e3; exact ⟨by omega, fun _ => rfl⟩
  · injection e with e1 e2 e3; subst e1 e3; exact ⟨by omega, fun h => by cases h⟩

set_option maxRecDepth 100000 in
set_option maxHeartbeats 4000000 in
theorem joins_law (a b : ByteArray) (m : Int) (w : World) (hs : a.size + b.size ≤ 2097152) (hm : w.cell? ⟨0, 0, none⟩ = some (.int .i64 m)) :
    Calls Tryd.prog 11 #[.string a, .string b] w fun e w' => e = .returned (.bool true) ∧ Below w.heap.size w w' := by
  have h0 := cell_lt hm
  have Hm := Lib.hid hm
  clear hm
  obtain ⟨z, hz⟩ : ∃ z, a ++ b = z := ⟨_, rfl⟩
  have hzs : z.size ≤ 2097152 := by rw [← hz, ByteArray.size_append]; exact hs
  have hzl : z.data.toList = a.data.toList ++ b.data.toList := by rw [← hz]; simp
  have Hz := Lib.hid hz
  have hla := unfL_len a.data.toList
  have hlb := unfL_len b.data.toList
  have hlz := unfL_len z.data.toList
  rw [len_list] at hla hlb hlz
  obtain ⟨LA, hLA⟩ : ∃ x, unfL a.data.toList = x := ⟨_, rfl⟩
  obtain ⟨LB, hLB⟩ : ∃ x, unfL b.data.toList = x := ⟨_, rfl⟩
  obtain ⟨LZ, hLZ⟩ : ∃ x, unfL z.data.toList = x := ⟨_, rfl⟩
  obtain ⟨EA, hEA⟩ : ∃ x, unfE a.data.toList = x := ⟨_, rfl⟩
  obtain ⟨EB, hEB⟩ : ∃ x, unfE b.data.toList = x := ⟨_, rfl⟩
  obtain ⟨EZ, hEZ⟩ : ∃ x, unfE z.data.toList = x := ⟨_, rfl⟩
  obtain ⟨TA, hTA⟩ : ∃ x, unfAt a.data.toList = x := ⟨_, rfl⟩
  obtain ⟨TB, hTB⟩ : ∃ x, unfAt b.data.toList = x := ⟨_, rfl⟩
  obtain ⟨TZ, hTZ⟩ : ∃ x, unfAt z.data.toList = x := ⟨_, rfl⟩
  rw [hLA] at hla
  rw [hLB] at hlb
  rw [hLZ] at hlz
  have HLA := Lib.hid hLA
  have HLB := Lib.hid hLB
  have HLZ := Lib.hid hLZ
  have HEA := Lib.hid hEA
  have HEB := Lib.hid hEB
  have HEZ := Lib.hid hEZ
  have HTA := Lib.hid hTA
  have HTB := Lib.hid hTB
  have HTZ := Lib.hid hTZ
  have Hsyn : Hid (EA = 5 → EZ = 5 ∧ TZ = TA) := Lib.hid (by
    intro h
    have := unf_syn a.data.toList b.data.toList (hEA.trans h)
    rw [← hzl, hEZ, hTZ, hTA] at this
    exact this)
  have Herr : Hid (EA = 0 → firstBlank b.data.toList = false → EB ≠ 0 → EZ = EB ∧ TZ = a.size + TB ∧ LZ = []) := Lib.hid (by
    intro h hb h2
    have := unf_err a.data.toList b.data.toList (hEA.trans h) hb (by rw [hEB]; exact h2)
    rw [← hzl, hEZ, hTZ, hEB, hTB, hLZ, len_list] at this
    exact this)
  have Hboth : Hid (EA = 0 → firstBlank b.data.toList = false → EB = 0 → EZ = 0 ∧ TZ = 0 ∧ LZ = LA ++ LB.map (shp a.size)) := Lib.hid (by
    intro h hb h2
    have := unf_both a.data.toList b.data.toList (hEA.trans h) hb (hEB.trans h2)
    rw [← hzl, hEZ, hTZ, hLZ, hLA, hLB, len_list] at this
    exact this)
  clear hLA hLB hLZ hEA hEB hEZ hTA hTB hTZ hz hzl
  go_enter Tryd.func11, Tryd.ntmps11
  go_wp2_with fail
  refine (unfold_any a m w (by omega) Hm.out).mono ?_
  rintro e w1 ⟨v1, rfl, hr1, hB1⟩
  rw [HTA.out, HEA.out]
  rw [HLA.out] at hr1
  have Hr1 := Lib.hid hr1
  have hs1 := hB1.size
  clear hr1
  go_wp2_with fail
  refine (unfold_any b m w1 (by omega) ((hB1.cell (p := ⟨0, 0, none⟩) h0).trans Hm.out)).mono ?_
  rintro e w2 ⟨v2, rfl, hr2, hB2⟩
  rw [HTB.out, HEB.out]
  rw [HLB.out] at hr2
  have Hr2 := Lib.hid hr2
  have hB2' := hB1.trans (hB2.mono hs1)
  have hs2 := hB2'.size
  clear hr2
  go_wp2_with fail
  rw [Hz.out]
  refine (unfold_any z m w2 hzs ((hB2'.cell (p := ⟨0, 0, none⟩) h0).trans Hm.out)).mono ?_
  rintro e w3 ⟨v3, rfl, hr3, hB3⟩
  rw [HTZ.out, HEZ.out]
  rw [HLZ.out] at hr3
  have hB3' := hB2'.trans (hB3.mono hs2)
  have hs3 := hB3'.size
  have p1 : PcIn w3 v1 LA := ((PcIn.of_row Hr1.out).below hB2).below hB3
  have p2 : PcIn w3 v2 LB := (PcIn.of_row Hr2.out).below hB3
  have p3 : PcIn w3 v3 LZ := PcIn.of_row hr3
  have P1 := Lib.hid p1
  have P2 := Lib.hid p2
  have P3 := Lib.hid p3
  obtain ⟨a1, c1, rfl, _⟩ := id p1
  obtain ⟨a2, c2, rfl, _⟩ := id p2
  obtain ⟨a3, c3, rfl, _⟩ := id p3
  have hcap := cap_of hr3
  have hTBl := unfAt_le b.data.toList
  rw [HTB.out, len_list] at hTBl
  have Haw := Lib.hid (awake_any m w3 ((hB3'.cell (p := ⟨0, 0, none⟩) h0).trans Hm.out))
  clear hr3 p1 p2 p3
  by_cases h5 : EA = 5
  · obtain ⟨hez, htz⟩ := Hsyn.out h5
    subst h5 hez htz
    have ht : ((TZ : Int) == (TZ : Int)) = true := by simp
    go_wp2_with fail
    refine Haw.out.mono ?_
    rintro e w' ⟨rfl, hB9⟩
    go_wp2_with fail
    go_ret
    exact ⟨rfl, hB3'.trans (hB9.mono hs3)⟩
  · have b5 : (EA == 5) = false := by rw [beq_eq_false_iff_ne]; exact h5
    by_cases hE0 : EA = 0
    · subst hE0
      clear h5
      have b0 : ((0 : Int) != 0) = false := rfl
      cases hfb : firstBlank b.data.toList
      · have herr := Herr.out rfl hfb
        have hboth := Hboth.out rfl hfb
        have hbor : (b.toList.isEmpty = true) ∨ ∃ h : 1 ≤ b.size, b.toList.isEmpty = false ∧ Hid (blankI (b[0]'h).toNat = false) := by
          by_cases h1 : 1 ≤ b.size
          · right; exact ⟨h1, isEmpty_no b h1, Lib.hid (by rw [← first_yes b h1]; exact hfb)⟩
          · left; exact isEmpty_yes b h1
        clear hfb
        by_cases hEB0 : EB = 0
        · subst hEB0
          obtain ⟨rfl, rfl, hLZ⟩ := hboth rfl
          have hlen : LZ.length = LA.length + LB.length := by rw [hLZ]; simp
          have Hat : Hid (∀ p, p ∈ LB → p.1 ≤ b.size) := Lib.hid (by intro p hp; have := unfL_at b.data.toList p (by rw [HLB.out]; exact hp); rw [len_list] at this; exact this)
          have HLZ' := Lib.hid hLZ
          have bl : ((LZ.length : Int) != (LA.length : Int) + (LB.length : Int)) = false := by rw [hlen]; simp
          clear herr hboth hLZ
          rcases hbor with hbe | ⟨h1, hbe, Hbl⟩
          all_goals
            go_wp2_with fail
            try
              refine (rblank_any _ _).mono ?_
              rintro e w' ⟨rfl, rfl⟩
              rw [Hbl.out]
              go_wp2_with fail
            go_loopw [14] (fun i wr => ∃ k n : Nat, k ≤ LB.length ∧ i = .int .i64 k ∧ wr = w3.drewN n) (fun i _ => LB.length - (intOf i).toNat)
            case atStart => exact ⟨0, 0, by omega, rfl, rfl⟩
            case round =>
              obtain ⟨k, n, hk, rfl, rfl⟩ := hrel
              by_cases hlt : k < LB.length
              · obtain ⟨g2, rfl, hc2, hd2⟩ := P2.out.at k hlt
                obtain ⟨g3, rfl, hc3, hd3⟩ := P3.out.at (LA.length + k) (by omega)
                have hz := joined_at LA LB LZ k a.size HLZ'.out hlt (by omega)
                rw [hz] at hc3 hd3
                obtain ⟨x, hx⟩ : ∃ x, LB[k] = x := ⟨_, rfl⟩
                have hxb := Hat.out LB[k] (List.getElem_mem hlt)
                rw [hx] at hc2 hd2 hc3 hd3 hxb
                obtain ⟨xi, xt⟩ := x
                dsimp only [shp] at hc2 hd2 hc3 hd3 hxb
                obtain ⟨W, hW⟩ : ∃ W, w3.drewN n = W := ⟨_, rfl⟩
                have hc2' : W.cell? ⟨g2, k * 2, none⟩ = some (.int .i64 (xi : Int)) := by rw [← hW]; exact hc2
                have hd2' : W.cell? ⟨g2, k * 2 + 1, none⟩ = some (.string ⟨xt.toArray⟩) := by rw [← hW]; exact hd2
                have hc3' : W.cell? ⟨g3, (LA.length + k) * 2, none⟩ = some (.int .i64 ((a.size : Int) + (xi : Int))) := by rw [← hW, ← Int.natCast_add, Nat.add_comm a.size xi]; exact hc3
                have hd3' : W.cell? ⟨g3, (LA.length + k) * 2 + 1, none⟩ = some (.string ⟨xt.toArray⟩) := by rw [← hW]; exact hd3
                rw [hW]
                have HW := Lib.hid hW
                clear hx hc2 hd2 hc3 hd3 hz hW
                go_wp2_with fail
                go_quiet (fail)
                go_wp2_with fail
                go_roundw
                case rel => exact ⟨k + 1, n + nq, by omega, by go_num, by rw [← HW.out]; exact drewN_two w3 n nq⟩
                case measure => simp [intOf]; omega
              · have hpre := PcIn.prefix (by rw [← HLZ'.out]; exact P3.out : PcIn w3 _ (LA ++ LB.map (shp a.size)))
                have hD : Below w3.heap.size w3 (w3.drewN n) := ⟨rfl, rfl, rfl, Nat.le_refl _, fun _ _ => rfl⟩
                have Hpre := Lib.hid (hpre.below hD)
                have P1' := Lib.hid (P1.out.below hD)
                clear hpre
                go_wp2_with fail
                refine (same_any _ _ LA LA _ Hpre.out P1'.out (by omega) (by omega)).mono ?_
                rintro e w5 ⟨rfl, n', rfl⟩
                rw [show decide (LA = LA) = true from by simp]
                have hD2 : Below w3.heap.size w3 (w3.drewN (n + n')) := ⟨rfl, rfl, rfl, Nat.le_refl _, fun _ _ => rfl⟩
                have hB6 := hB3'.trans (hD2.mono hs3)
                have hs6 := hB6.size
                go_wp2_with fail
                refine (awake_any m _ ((hB6.cell (p := ⟨0, 0, none⟩) h0).trans Hm.out)).mono ?_
                rintro e w' ⟨rfl, hB9⟩
                go_wp2_with fail
                go_ret
                exact ⟨rfl, hB6.trans (hB9.mono hs6)⟩
        · obtain ⟨rfl, rfl, rfl⟩ := herr hEB0
          have bEB : (EZ != 0) = true := by simpa using hEB0
          have bEZ : (EZ == EZ) = true := by simp
          have bT : (((a.size + TB : Nat) : Int) == (a.size : Int) + (TB : Int)) = true := by simp
          clear herr hboth hEB0
          rcases hbor with hbe | ⟨h1, hbe, Hbl⟩
          all_goals
            go_wp2_with fail
            try
              refine (rblank_any _ _).mono ?_
              rintro e w' ⟨rfl, rfl⟩
              rw [Hbl.out]
              go_wp2_with fail
            refine Haw.out.mono ?_
            rintro e w' ⟨rfl, hB9⟩
            go_wp2_with fail
            go_ret
            exact ⟨rfl, hB3'.trans (hB9.mono hs3)⟩
      · have hb1 : 1 ≤ b.size := by
          rcases Nat.lt_or_ge 0 b.size with h | h
          · exact h
          · have := List.eq_nil_of_length_eq_zero (show b.data.toList.length = 0 by rw [len_list]; omega)
            rw [this] at hfb; cases hfb
        have hbl := hfb
        rw [first_yes b hb1] at hbl
        have Hbl := Lib.hid hbl
        have hne := toList_ne b hb1
        have hbe := isEmpty_no b hb1
        clear hfb hbl
        go_wp2_with fail
        refine (rblank_any _ _).mono ?_
        rintro e w' ⟨rfl, rfl⟩
        rw [Hbl.out]
        go_wp2_with fail
        refine Haw.out.mono ?_
        rintro e w' ⟨rfl, hB9⟩
        go_wp2_with fail
        go_ret
        exact ⟨rfl, hB3'.trans (hB9.mono hs3)⟩
    · have b0 : (EA != 0) = true := by simpa using hE0
      clear h5 hE0
      go_wp2_with fail
      refine Haw.out.mono ?_
      rintro e w' ⟨rfl, hB9⟩
      go_wp2_with fail
      go_ret
      exact ⟨rfl, hB3'.trans (hB9.mono hs3)⟩
end Lx
end Go.Proofs.YtjbjaofbdbkjaaaDoor
