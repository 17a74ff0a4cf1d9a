/- The reference's List (dialtoneref03). A text has at most 2^20 bytes. -/
import Derived.Test.YtmmjfofdnpafkaaGreatDoorHeZb
import Derived.Test.YtmmjfofdnpafkaaGreatDoorLxSpR
namespace Go.Proofs.YtmmjfofdnpafkaaGreatDoor
namespace Ad
open Go.RowKit Lx

set_option maxRecDepth 100000 in
set_option maxHeartbeats 8000000 in
theorem rlist3_any (s : ByteArray) (w : World) (hs : s.size ≤ 1048576) :
    Calls Tryz.prog 32 #[.string s] w (LtP (listR s.data.toList) w) := by
  have HSp := Lib.hid (Lx.rsplit_any s 44 w (by omega))
  obtain ⟨ps, n, x, hr⟩ : ∃ a b c, spF s.data.toList 44 = (a, b, c) := ⟨_, _, _, rfl⟩
  have hpl := spF_len2 s.data.toList 44
  rw [hr] at HSp hpl
  rw [len_list] at hpl
  have HV := Lib.hid (by unfold listR; rw [hr] : listR s.data.toList = if x ≠ 0 then ([], x) else if ps.any (fun p => decide (p.2 = [])) then ([], 5) else (ps.map (·.2), 0))
  obtain ⟨i0, hi, hz0, hz1, hz2⟩ := info_parts infoStr
  dsimp only at hpl
  clear hr
  by_cases hx : x = 0
  case neg =>
    have bx : (x != 0) = true := by rw [bne_iff_ne]; exact hx
    have HF := Lib.hid (HV.out.trans (if_pos hx))
    clear hx
    go_enter Tryz.func32, Tryz.ntmps32
    go_wp2_with fail
    refine HSp.out.mono ?_
    rintro e w1 ⟨v, rfl, hown, hB⟩
    have K1 := Lib.hid ((Kp.refl [] w).below hB)
    clear hown hB
    go_wp2_with fail
    go_ret2
    unfold LtP
    rw [HF.out]
    exact ⟨_, rfl, own_nil _ _, K1.out⟩
  have bx : (x != 0) = false := by rw [hx]; rfl
  have HV1 := Lib.hid (HV.out.trans (if_neg (fun h => h hx)))
  clear hx
  go_enter Tryz.func32, Tryz.ntmps32
  go_wp2_with fail
  refine HSp.out.mono ?_
  rintro e w1 ⟨v, rfl, hown, hB⟩
  have K1 := Lib.hid ((Kp.refl [] w).below hB)
  dsimp only at hown
  have hrow := PcIn.of_row hown
  obtain ⟨a, c, rfl, hcel⟩ := hrow
  have Hcel := Lib.hid hcel
  have hown2 := hown
  have HOwn := Lib.hid hown
  have hsz1 := hB.size
  clear hown hown2 hB hcel
  go_wp2_with fail
  go_loopw [7, 8] (fun out i wr => ∃ (j : Nat) (acc : List (List UInt8)) (vA : Option Addr) (vC : Nat), j ≤ ps.length ∧ i = .int .i64 j ∧ out = .slice vA acc.length vC ∧ acc = (ps.take j).map (·.2) ∧ (ps.take j).any (fun p => decide (p.2 = [])) = false ∧ wr.ownsRow w1.heap.size 9 1 (.slice vA acc.length vC) acc.length (tkc acc) ∧ Kp [] w1 wr) (fun _ i _ => ps.length - (intOf i).toNat)
  case atStart => exact ⟨0, [], none, 0, by omega, rfl, rfl, by simp, by simp, by simpa [tkc] using World.ownsRow_nil w1 w1.heap.size 9 1, Kp.refl _ _⟩
  case round =>
    obtain ⟨j, acc, vA, vC, hj, rfl, rfl, hacc, hany, hown, hK⟩ := hrel
    obtain ⟨w2, rfl⟩ : ∃ w2, w2 = wr := ⟨_, rfl⟩
    have hal : acc.length = j := by rw [hacc, List.length_map, List.length_take]; omega
    have Hacc := Lib.hid hacc
    have Hany := Lib.hid hany
    have Ho := Lib.hid hown
    have HK := Lib.hid hK
    have hsz2 := hK.size
    have hal2 : acc.length ≤ j := by omega
    clear hacc hany hown hK hal
    by_cases hlt : j < ps.length
    · obtain ⟨⟨o, y⟩, hy⟩ : ∃ p, ps[j]? = some p := ⟨ps[j], List.getElem?_eq_getElem hlt⟩
      have hne : ps ≠ [] := by intro h; rw [h] at hlt; simp at hlt
      obtain ⟨g, ha, hcell⟩ := Hcel.out hne
      have hgl : g < w1.heap.size := by
        have := HOwn.out.lt g (by rw [ha]; rfl)
        exact this.2
      obtain ⟨p1, p2⟩ := pcells_pair ps j _ hy
      have c0 : w2.cell? ⟨g, j * 2, none⟩ = some (.int .i64 (o : Int)) := (HK.out.cell (p := ⟨g, j * 2, none⟩) hgl (by simp)).trans (hcell _ _ p1)
      have c1 : w2.cell? ⟨g, j * 2 + 1, none⟩ = some (.string (Txt y)) := (HK.out.cell (p := ⟨g, j * 2 + 1, none⟩) hgl (by simp)).trans (hcell _ _ p2)
      have Htk := Lib.hid (take_next ps j _ hy)
      have Hmem := Lib.hid (List.mem_of_getElem? hy)
      subst ha
      have K3 := Lib.hid HK.out
      have O3 := Lib.hid Ho.out
      clear hy hne hcell p1 p2
      cases hE : decide (y = [])
      · have bE : ((Txt y).toList == ([] : List UInt8)) = false := (emp_D _).trans hE
        have HAn := Lib.hid (by rw [Htk.out, List.any_append, Hany.out]; simpa using hE : (ps.take (j + 1)).any (fun p => decide (p.2 = [])) = false)
        clear hE
        go_wp2_with (at_builtin; refine wpList_append_own _ rfl _ _ 45 rfl w1.heap.size 9 i0 (.string .empty) 1 16 Tryz.underlying45 hi hz0 hz1 hz2 rfl (by decide) _ _ _ rfl (O3.out.alloc _) ⟨w2.heap.size, 0, none⟩ 1 1 [.string (Txt y)] rfl rfl ?c2 (by simp [Value.oneCell']) ?c3 ?c4 ?c5 ?_)
        case c2 =>
          intro i u hu
          match i, hu with
          | 0, hu => simp at hu; subst hu; simp [Addr.add]
        case c3 => unfold maxLen; omega
        case c4 => omega
        case c5 => simp; omega
        intro v' w7 hown' hgrow _
        have K7 := Lib.hid ((K3.out.alloc (.cells #[.string (Txt y)] 9)).grown hgrow (fun g hg => .inr (O3.out.lt g hg).1))
        have HO7 := (by simpa [tkc] using hown' : w7.ownsRow w1.heap.size 9 1 v' (acc ++ [y]).length (tkc (acc ++ [y])))
        obtain ⟨vA', vC', rfl⟩ : ∃ p c, v' = .slice p (acc ++ [y]).length c := by
          rcases HO7.2 with ⟨hv, hz⟩ | ⟨g, cap, cur, hv, _⟩
          · exact ⟨none, 0, by rw [hv, hz]⟩
          · exact ⟨_, cap, hv⟩
        have HO7 := Lib.hid HO7
        clear hown' hgrow
        go_wp2_with fail
        go_roundw
        case rel => exact ⟨j + 1, acc ++ [y], vA', vC', by omega, by go_num, rfl, by rw [Htk.out, List.map_append, ← Hacc.out]; rfl, HAn.out, HO7.out, K7.out⟩
        case measure => simp [intOf]; omega
      · have bE : ((Txt y).toList == ([] : List UInt8)) = true := (emp_D _).trans hE
        have HF := Lib.hid (by rw [HV1.out, if_pos (List.any_eq_true.2 ⟨_, Hmem.out, hE⟩)] : listR s.data.toList = ([], 5))
        clear hE
        go_wp2_with fail
        go_ret2
        unfold LtP
        rw [HF.out]
        exact ⟨_, rfl, own_nil _ _, K1.out.trans K3.out⟩
    · have hje : j = ps.length := by omega
      have HF := Lib.hid (by
        have h := Hany.out
        rw [hje, List.take_length] at h
        rw [HV1.out, h, if_neg (by decide)] : listR s.data.toList = (ps.map (·.2), 0))
      have HA := Lib.hid (by rw [Hacc.out, hje, List.take_length] : acc = ps.map (·.2))
      have HSt := Lib.hid (own_base Ho.out hsz1)
      clear hje
      go_wp2_with fail
      go_ret2
      unfold LtP
      rw [HF.out, ← HA.out]
      exact ⟨_, rfl, HSt.out, K1.out.trans HK.out⟩
end Ad
end Go.Proofs.YtmmjfofdnpafkaaGreatDoor
