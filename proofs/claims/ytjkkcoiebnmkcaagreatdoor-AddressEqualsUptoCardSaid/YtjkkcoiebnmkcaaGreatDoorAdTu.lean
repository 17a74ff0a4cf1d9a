/- Contract of turned (dialtonelaw02): the parameters in the opposite order, with names in upper case. Names have at most 2^21 bytes. -/
import Derived.Test.YtjkkcoiebnmkcaaGreatDoorAdSt
import Derived.Test.YtjkkcoiebnmkcaaGreatDoorAdRg
namespace Go.Proofs.YtjkkcoiebnmkcaaGreatDoor
namespace Ad
open Go.RowKit Lx

theorem upL_len (l : List UInt8) : (upL l).length = l.length := by simp [upL]
theorem upB_nat (c : UInt8) : ((upB c).toNat : Int) = if 97 ≤ c.toNat ∧ c.toNat ≤ 122 then (c.toNat : Int) - 32 else c.toNat := by
  unfold upB
  by_cases h : 97 ≤ c.toNat ∧ c.toNat ≤ 122
  · rw [if_pos h, if_pos h, UInt8.toNat_sub_of_le c 32 (by rw [UInt8.le_iff_toNat_le]; have : (32 : UInt8).toNat = 32 := rfl; omega)]
    have : (32 : UInt8).toNat = 32 := rfl
    omega
  · rw [if_neg h, if_neg h]
/-- The byte at i of a text of which the first j bytes are in upper case. -/
def upAt (s : ByteArray) (j i : Nat) (h : i < s.size) : Int := if i < j then (upB s[i]).toNat else s[i].toNat
theorem upAt_zero (s : ByteArray) (i : Nat) (h : i < s.size) : upAt s 0 i h = s[i].toNat := by unfold upAt; rw [if_neg (by omega)]
theorem upAt_at (s : ByteArray) (i : Nat) (h : i < s.size) : upAt s i i h = s[i].toNat := by unfold upAt; rw [if_neg (by omega)]
theorem upAt_next (s : ByteArray) (j i : Nat) (h : i < s.size) (hn : i ≠ j) : upAt s (j + 1) i h = upAt s j i h := by
  unfold upAt
  by_cases hl : i < j
  · rw [if_pos hl, if_pos (by omega)]
  · rw [if_neg hl, if_neg (by omega)]
theorem upAt_new (s : ByteArray) (j : Nat) (h : j < s.size) : upAt s (j + 1) j h = (upB s[j]).toNat := by unfold upAt; rw [if_pos (by omega)]
theorem upAt_end (s : ByteArray) (j i : Nat) (h : i < s.size) (hj : s.size ≤ j) : upAt s j i h = (upB s[i]).toNat := by unfold upAt; rw [if_pos (by omega)]
/-- The row in which the bytes lie. -/
structure UpR (s : ByteArray) (B j : Nat) (w : World) : Prop where
  cell : ∀ i (h : i < s.size), w.cell? ⟨B, i, none⟩ = some (.int .u8 (upAt s j i h))
  soft : ∀ i, i < s.size → w.frozen? ⟨B, i, none⟩ = false
theorem UpR.skip {s : ByteArray} {B j : Nat} {w : World} (h : UpR s B j w) (hj : j < s.size) (he : (upB s[j]).toNat = s[j].toNat) : UpR s B (j + 1) w := by
  refine ⟨fun i hi => ?_, h.soft⟩
  by_cases hij : i = j
  · subst hij
    rw [upAt_new, he, ← upAt_at s i hi]; exact h.cell i hi
  · rw [upAt_next s j i hi hij]; exact h.cell i hi
theorem UpR.put {s : ByteArray} {B j : Nat} {w : World} (h : UpR s B j w) (hj : j < s.size) (x : Int) (he : ((upB s[j]).toNat : Int) = x) : UpR s B (j + 1) (w.setCell ⟨B, j, none⟩ (.int .u8 x)) := by
  refine ⟨fun i hi => ?_, fun i hi => by rw [World.frozen?_setCell]; exact h.soft i hi⟩
  by_cases hij : i = j
  · subst hij
    rw [upAt_new, he]; exact World.cell?_setCell_same _ _ _ (h.cell i hi)
  · rw [upAt_next s j i hi hij]; exact (World.cell?_setCell_other _ _ _ _ (by intro e; injection e with _ e2; exact hij e2.symm)).trans (h.cell i hi)
theorem UpR.start (s : ByteArray) (cap : Nat) (w : World) : UpR s w.heap.size 0 (w.alloc (.cells (bytesRow s cap) 5 ((bytesRow s cap).size, (bytesRow s cap).size + 1))) := by
  have hsz : ∀ i, i < s.size → i < (bytesRow s cap).size := fun i hi => by unfold bytesRow; simp; omega
  refine ⟨fun i hi => ?_, fun i hi => ?_⟩
  · rw [World.cell?_alloc_mark, bytesRow_at s cap i hi, upAt_zero]; rfl
  · rw [World.frozen?_alloc_mark, decide_eq_false (by have := hsz i hi; omega)]; rfl
theorem UpR.back {s : ByteArray} {B j cap : Nat} {w : World} (h : UpR s B j w) (hj : s.size ≤ j) : (convert 70 9 (.slice (some ⟨B, 0, none⟩) s.size cap)).run Tryz.prog w = .ok (.string ⟨(upL s.data.toList).toArray⟩) w := by
  have hl : s.size = (upL s.data.toList).length := by rw [upL_len, len_list]
  have := run_convert_bytes_back (P := Tryz.prog) w 70 9 5 ⟨B, 0, none⟩ cap (upL s.data.toList) Tryz.underlying70 Tryz.underlying5 Tryz.underlying9 (fun i hi => by
    have hi2 : i < s.size := by omega
    have hadd : (⟨B, 0, none⟩ : Addr).add i = ⟨B, i, none⟩ := by unfold Addr.add; split <;> simp_all
    rw [hadd, h.cell i hi2, upAt_end s j i hi2 hj]
    simp [upL]
    rfl)
  rw [← hl] at this
  exact this

/-- What is turned of the parameters from j on. -/
def tuA (l : List Prm) (j : Nat) : List Prm := ((l.drop j).map fun p => (upL p.1, p.2)).reverse
theorem tuA_step (l : List Prm) (m : Nat) (h : m < l.length) (q1 q2 : List UInt8) (q3 : Bool) (hq : l[m]! = (q1, q2, q3)) : tuA l m = tuA l (m + 1) ++ [(upL q1, q2, q3)] := by
  rw [getElem!_pos l m h] at hq
  unfold tuA
  rw [List.drop_eq_getElem_cons h, hq]
  simp
theorem tuA_len (l : List Prm) (j : Nat) : (tuA l j).length = l.length - j := by unfold tuA; simp
set_option maxRecDepth 100000 in
set_option maxHeartbeats 8000000 in
theorem turned_any (B : Nat) (v : Value) (l : List Prm) (w : World) (hP : PmIn B w v l) (hB : B ≤ w.heap.size) (hz : SzP l) (hl : l.length ≤ 2097152) :
    Calls Tryz.prog 46 #[v] w (StP (turnL l) w) := by
  have HPm := Lib.hid hP
  obtain ⟨i0, hi, hz0, hz1, hz2⟩ := info_parts infoPrm3
  obtain ⟨A, cA, rfl⟩ := hP.form
  clear hP
  go_enter Tryz.func46, Tryz.ntmps46
  go_wp2_with fail
  go_loopg [3, 4] (l.length + 1) (fun gg out i wr => ∃ (j : Nat) (vA : Option Addr) (vC : Nat) (ii : Int), j ≤ l.length ∧ j < gg ∧ out = .slice vA (tuA l j).length vC ∧ i = .int .i64 ii ∧ ii = (j : Int) - 1 ∧ wr.ownsRow w.heap.size 32 3 (.slice vA (tuA l j).length vC) (tuA l j).length (pcl (tuA l j)) ∧ Kp [] w wr)
  case atStart => exact ⟨l.length, none, 0, _, Nat.le_refl _, by omega, by simp [tuA], rfl, rfl, by simpa [tuA, pcl] using World.ownsRow_nil w w.heap.size 32 3, Kp.refl _ _⟩
  case round =>
    obtain ⟨j, vA, vC, ii, hj, hg, rfl, rfl, hii, hown, hK⟩ := hrel
    obtain ⟨w0, rfl⟩ : ∃ w0, w0 = wr := ⟨_, rfl⟩
    have Ho := Lib.hid hown
    have HK := Lib.hid hK
    have hsz := hK.size
    have PLr := HPm.out.kp hK hB (by simp)
    clear hown hK
    rcases j with _ | m
    · have h1 : ii < 0 := by omega
      have hT := Lib.hid (by unfold tuA turnL; rw [List.drop_zero] : tuA l 0 = turnL l)
      clear hii PLr
      go_wp2_with fail
      go_ret
      unfold StP
      rw [← hT.out]
      exact ⟨_, rfl, own_pm Ho.out, HK.out⟩
    · obtain ⟨q1, q2, q3, hq⟩ : ∃ a b c, l[m]! = (a, b, c) := ⟨_, _, _, rfl⟩
      have hlt : m < l.length := by omega
      have hm : (q1, q2, q3) ∈ l := by rw [← hq, getElem!_pos l m hlt]; exact List.getElem_mem hlt
      obtain ⟨hq1, hq2⟩ := hz _ hm
      dsimp only at hq1 hq2
      have hsome : l[m]? = some (q1, q2, q3) := by rw [← hq]; exact getD_some l m hlt
      have HTu := Lib.hid (tuA_step l m hlt q1 q2 q3 hq)
      have hi2 : ii = (m : Int) := by omega
      subst hi2
      have hm0 : ¬ (m : Int) < 0 := by omega
      have hal : (tuA l (m + 1)).length ≤ 2097152 := by rw [tuA_len]; omega
      obtain ⟨acc, hacc⟩ : ∃ x, tuA l (m + 1) = x := ⟨_, rfl⟩
      rw [hacc] at HTu hal Ho ⊢
      obtain ⟨_, c', rfl, hc, ⟨h0, hv⟩ | ⟨bl, o, hv, hbl, hcell⟩⟩ := PLr
      · omega
      · injection hv with hA _ hc2
        subst hA
        subst hc2
        have c0 : w0.cell? ⟨bl, o + m * 3, none⟩ = some (.string (Txt q1)) := hcell _ _ (pcl_at l m _ hsome 0 _ rfl)
        have c1 : w0.cell? ⟨bl, o + m * 3 + 1, none⟩ = some (.string (Txt q2)) := by rw [Nat.add_assoc]; exact hcell _ _ (pcl_at l m _ hsome 1 _ rfl)
        have c2 : w0.cell? ⟨bl, o + m * 3 + 2, none⟩ = some (.bool q3) := by rw [Nat.add_assoc]; exact hcell _ _ (pcl_at l m _ hsome 2 _ rfl)
        have hKA := (Kp.refl [] w0).alloc (.cells #[.string (Txt q1), .string (Txt q2), .bool q3] 32)
        obtain ⟨w1, hw1⟩ : ∃ wA, w0.alloc (.cells #[.string (Txt q1), .string (Txt q2), .bool q3] 32) = wA := ⟨_, rfl⟩
        have BA := Lib.hid (show Blk w1 w0.heap.size 32 #[.string (Txt q1), .string (Txt q2), .bool q3] from by rw [← hw1]; exact Blk.new w0 _ _)
        rw [hw1] at hKA
        have O1 := Lib.hid (own_kp Ho.out hKA (by simp))
        have K1 := Lib.hid (HK.out.trans hKA)
        have hsz1 := hKA.size
        have hw1s := BA.out.lt
        have d0 := BA.out.cell 0
        have hts : (Txt q1).size ≤ 2097152 := by rw [txt_size]; exact hq1
        obtain ⟨s, hs⟩ : ∃ s, Txt q1 = s := ⟨_, rfl⟩
        have HSq := Lib.hid (by rw [← hs, txt_list] : s.data.toList = q1)
        rw [hs] at c0 d0 hts hw1 BA
        have hconv := run_bytes_of_string (P := Tryz.prog) w1 9 70 5 s Tryz.underlying9 Tryz.underlying70 Tryz.underlying5
        obtain ⟨cap, hcap⟩ : ∃ cap, grownCap w1 s.size 0 5 = cap := ⟨_, rfl⟩
        have HS := Lib.hid (UpR.start s cap w1)
        rw [hcap] at hconv
        obtain ⟨C, hC⟩ : ∃ C, bytesRow s cap = C := ⟨_, rfl⟩
        rw [hC] at hconv
        have HS := Lib.hid (by have := HS.out; rw [hC] at this; exact this : UpR s w1.heap.size 0 (w1.alloc (.cells C 5 (C.size, C.size + 1))))
        clear hcap hC hcell hc hq hm hsome hKA hs hii hacc
        go_wp2_with fail
        go_loopg [7] (s.size + 1) (fun gk i wr => ∃ k : Nat, k ≤ s.size ∧ s.size - k < gk ∧ i = .int .i64 k ∧ UpR s w1.heap.size k wr ∧ Below w1.heap.size w1 wr)
        case atStart => exact ⟨0, by omega, by omega, rfl, ⟨HS.out.cell, HS.out.soft⟩, ((Below.refl _ w1).alloc (Nat.le_refl _) _).drew⟩
        case round =>
          obtain ⟨k, hk, hgk, rfl, hL, hBz⟩ := hrel
          have HL := Lib.hid hL
          have HBz := Lib.hid hBz
          clear hL hBz d0 c0 c1 c2
          by_cases hks : k < s.size
          · have hcj := HL.out.cell k hks
            rw [upAt_at] at hcj
            have hfj := HL.out.soft k hks
            have hn := upB_nat s[k]
            by_cases hu : 97 ≤ s[k].toNat ∧ s[k].toNat ≤ 122
            · rw [if_pos hu] at hn
              have Hn := Lib.hid hn
              obtain ⟨u1, u2⟩ := hu
              clear hn
              go_wp2_with fail
              go_roundg (s.size - k)
              case measure => omega
              case rel => exact ⟨k + 1, by omega, by omega, by go_num, HL.out.put hks _ Hn.out, HBz.out.setCell (Nat.le_refl _) _⟩
            · rw [if_neg hu] at hn
              have Hn := Lib.hid (by omega : (upB s[k]).toNat = s[k].toNat)
              by_cases u1 : 97 ≤ s[k].toNat
              · have u2 : ¬ s[k].toNat ≤ 122 := fun h => hu ⟨u1, h⟩
                clear hu hn
                go_wp2_with fail
                go_roundg (s.size - k)
                case measure => omega
                case rel => exact ⟨k + 1, by omega, by omega, by go_num, HL.out.skip hks Hn.out, HBz.out⟩
              · clear hu hn
                go_wp2_with fail
                go_roundg (s.size - k)
                case measure => omega
                case rel => exact ⟨k + 1, by omega, by omega, by go_num, HL.out.skip hks Hn.out, HBz.out⟩
          · have hbk := HL.out.back (cap := cap) (by omega)
            rw [HSq.out, show (⟨(upL q1).toArray⟩ : ByteArray) = Txt (upL q1) from rfl] at hbk
            have hKz := (Kp.refl [] w1).below HBz.out
            have BZ := Lib.hid (BA.out.kp hKz (by simp))
            have OZ := Lib.hid (own_kp O1.out hKz (by simp))
            have KZ := Lib.hid (K1.out.trans hKz)
            have hszz := hKz.size
            have hown3 : ∀ k, Value.ownBlock (.slice vA acc.length vC) = some k → k ≠ w0.heap.size := fun k hk => by have := (Ho.out.lt k hk).2; omega
            have O2 := Lib.hid (own_other (i := 0) (u := .string (Txt (upL q1))) OZ.out hown3)
            have K2 := Lib.hid (KZ.out.setCell (p := ⟨w0.heap.size, 0, none⟩) (.inr (by show _ ≤ w0.heap.size; omega)) (.string (Txt (upL q1))))
            have B2 := Lib.hid (BZ.out.set_ 0 (.string (Txt (upL q1))))
            have z0 := BZ.out.cell 0
            have f0 := BZ.out.frozen 0
            clear hKz hown3
            go_upto_region 13 with fail
            obtain ⟨w2, hw2⟩ : ∃ w2, wr.setCell ⟨w0.heap.size, 0, none⟩ (.string (Txt (upL q1))) = w2 := ⟨_, rfl⟩
            rw [hw2] at O2 K2 B2 ⊢
            clear hw2 z0 f0 hbk
            have e0 := B2.out.cell 0
            have e1 := B2.out.cell 1
            have e2 := B2.out.cell 2
            have hsz2 := K2.out.size
            go_wp2_with (at_builtin; refine wpList_append_own _ rfl _ _ 30 rfl w.heap.size 32 i0 (.agg #[.string .empty, .string .empty, .bool false]) 3 40 Tryz.underlying30 hi hz0 hz1 hz2 rfl (by decide) _ _ _ rfl (O2.out.alloc _) ⟨w2.heap.size, 0, none⟩ 1 1 [.string (Txt (upL q1)), .string (Txt q2), .bool q3] rfl rfl (cell_three_new _ _ _ _ _) (by simp [Value.oneCell']) ?c3 ?c4 ?c5 ?_)
            case c3 => unfold maxLen; omega
            case c4 => omega
            case c5 => simp; omega
            intro v' w9 hown' hgrow _
            have K9 := Lib.hid ((K2.out.alloc (.cells #[.string (Txt (upL q1)), .string (Txt q2), .bool q3] 32)).grown hgrow (fun g hg => .inr (O2.out.lt g hg).1))
            have HO9 := (by simpa [pcl, pc1, Txt] using hown' : w9.ownsRow w.heap.size 32 3 v' (acc ++ [(upL q1, q2, q3)]).length (pcl (acc ++ [(upL q1, q2, q3)])))
            rw [← HTu.out] at HO9
            obtain ⟨vA', vC', rfl⟩ := own_form HO9
            have HO9 := Lib.hid HO9
            clear hown' hgrow e0 e1 e2
            go_wp2_with fail
            go_roundg (m + 1)
            case measure => omega
            case rel => exact ⟨m, vA', vC', _, by omega, by omega, rfl, rfl, rfl, HO9.out, K9.out⟩
end Ad
end Go.Proofs.YtjkkcoiebnmkcaaGreatDoor
