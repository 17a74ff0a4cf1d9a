/- Contract of the reference's lowered (dialtoneref02). Names have at most 2^21 bytes. -/
import Derived.Test.YtjkkcoiebnmkcaaGreatDoorAdTu
import Derived.Test.YtjkkcoiebnmkcaaGreatDoorAdSo
namespace Go.Proofs.YtjkkcoiebnmkcaaGreatDoor
namespace Ad
open Go.RowKit Lx

/-- Parameters with lowered names. -/
def lowA (l : List Prm) : List Prm := l.map fun p => (lowL p.1, p.2)
theorem lowA_step (l : List Prm) (m : Nat) (q1 q2 : List UInt8) (q3 : Bool) (hq : l[m]? = some (q1, q2, q3)) : lowA (l.take (m + 1)) = lowA (l.take m) ++ [(lowL q1, q2, q3)] := by
  unfold lowA
  rw [List.take_add_one, hq]
  simp
theorem lowA_len (l : List Prm) : (lowA l).length = l.length := by unfold lowA; simp
set_option maxRecDepth 100000 in
set_option maxHeartbeats 8000000 in
theorem rlowered_any (B : Nat) (v : Value) (l : List Prm) (w : World) (hP : PmIn B w v l) (hB : B ≤ w.heap.size) (hz : SzP l) (hl : l.length ≤ 2097152) :
    Calls Tryz.prog 100 #[v] w (StP (srt (lowA l)) w) := by
  have HPm := Lib.hid hP
  obtain ⟨i0, hi, hz0, hz1, hz2⟩ := info_parts infoPrm3
  obtain ⟨A, cA, rfl⟩ := hP.form
  clear hP
  go_enter Tryz.func100, Tryz.ntmps100
  go_wp2_with fail
  go_loopg [3, 4] (l.length + 1) (fun gg out i wr => ∃ (j : Nat) (vA : Option Addr) (vC : Nat), j ≤ l.length ∧ l.length - j < gg ∧ out = .slice vA (lowA (l.take j)).length vC ∧ i = .int .i64 j ∧ wr.ownsRow w.heap.size 32 3 (.slice vA (lowA (l.take j)).length vC) (lowA (l.take j)).length (pcl (lowA (l.take j))) ∧ Kp [] w wr)
  case atStart => exact ⟨0, none, 0, Nat.zero_le _, by omega, by simp [lowA], rfl, by simpa [lowA, pcl] using World.ownsRow_nil w w.heap.size 32 3, Kp.refl _ _⟩
  case round =>
    obtain ⟨j, vA, vC, hj, hg, rfl, rfl, hown, hK⟩ := hrel
    obtain ⟨w0, rfl⟩ : ∃ w0, w0 = wr := ⟨_, rfl⟩
    have Ho := Lib.hid hown
    have HK := Lib.hid hK
    have hsz := hK.size
    have PLr := HPm.out.kp hK hB (by simp)
    clear hown hK
    by_cases hlt : j < l.length
    · obtain ⟨q1, q2, q3, hq⟩ : ∃ a b c, l[j]! = (a, b, c) := ⟨_, _, _, rfl⟩
      have hm : (q1, q2, q3) ∈ l := by rw [← hq, getElem!_pos l j hlt]; exact List.getElem_mem hlt
      obtain ⟨hq1, hq2⟩ := hz _ hm
      dsimp only at hq1 hq2
      have hsome : l[j]? = some (q1, q2, q3) := by rw [← hq]; exact getD_some l j hlt
      have HTu := Lib.hid (lowA_step l j q1 q2 q3 hsome)
      have hal : (lowA (l.take j)).length ≤ 2097152 := by rw [lowA_len, List.length_take]; omega
      obtain ⟨acc, hacc⟩ : ∃ x, lowA (l.take j) = x := ⟨_, rfl⟩
      rw [hacc] at HTu hal Ho ⊢
      obtain ⟨_, c', rfl, hc, ⟨h0, hv⟩ | ⟨bl, o, hv, hbl, hcell⟩⟩ := PLr
      · omega
      · injection hv with hA _ hc2
        subst hA
        subst hc2
        have c0 : w0.cell? ⟨bl, o + j * 3, none⟩ = some (.string (Txt q1)) := hcell _ _ (pcl_at l j _ hsome 0 _ rfl)
        have c1 : w0.cell? ⟨bl, o + j * 3 + 1, none⟩ = some (.string (Txt q2)) := by rw [Nat.add_assoc]; exact hcell _ _ (pcl_at l j _ hsome 1 _ rfl)
        have c2 : w0.cell? ⟨bl, o + j * 3 + 2, none⟩ = some (.bool q3) := by rw [Nat.add_assoc]; exact hcell _ _ (pcl_at l j _ hsome 2 _ rfl)
        have hKA := (Kp.refl [] w0).alloc (.cells #[.string (Txt q1), .string (Txt q2), .bool q3] 32)
        obtain ⟨w1, hw1⟩ : ∃ wA, w0.alloc (.cells #[.string (Txt q1), .string (Txt q2), .bool q3] 32) = wA := ⟨_, rfl⟩
        have BA := Lib.hid (show Blk w1 w0.heap.size 32 #[.string (Txt q1), .string (Txt q2), .bool q3] from by rw [← hw1]; exact Blk.new w0 _ _)
        rw [hw1] at hKA
        have O1 := Lib.hid (own_kp Ho.out hKA (by simp))
        have K1 := Lib.hid (HK.out.trans hKA)
        have hsz1 := hKA.size
        have hw1s := BA.out.lt
        have d0 := BA.out.cell 0
        have hts : (Txt q1).size ≤ 1099511627776 := by rw [txt_size]; omega
        have HLo := Lib.hid (fun wz => (by have h := rLower_any (Txt q1) wz hts; rw [txt_list] at h; exact h : Calls Tryz.prog 68 #[.string (Txt q1)] wz (RetNew (lowL q1) wz)))
        have hown3 : ∀ k, Value.ownBlock (.slice vA acc.length vC) = some k → k ≠ w0.heap.size := fun k hk => by have := (Ho.out.lt k hk).2; omega
        have Hown3 := Lib.hid hown3
        clear hcell hc hq hm hsome hKA hacc hts hown3
        go_wp2_with fail
        refine (HLo.out _).mono ?_
        rintro e wr ⟨rfl, hBz⟩
        have hKz := (Kp.refl [] w1).below hBz
        have BZ := Lib.hid (BA.out.kp hKz (by simp))
        have OZ := Lib.hid (own_kp O1.out hKz (by simp))
        have KZ := Lib.hid (K1.out.trans hKz)
        have hszz := hKz.size
        have O2 := Lib.hid (own_other (i := 0) (u := .string (Txt (lowL q1))) OZ.out Hown3.out)
        have K2 := Lib.hid (KZ.out.setCell (p := ⟨w0.heap.size, 0, none⟩) (.inr (by show _ ≤ w0.heap.size; omega)) (.string (Txt (lowL q1))))
        have B2 := Lib.hid (BZ.out.set_ 0 (.string (Txt (lowL q1))))
        have z0 := BZ.out.cell 0
        have f0 := BZ.out.frozen 0
        clear hKz hBz d0 c0 c1 c2
        rw [show (⟨(lowL q1).toArray⟩ : ByteArray) = Txt (lowL q1) from rfl]
        go_upto_region 7 with fail
        obtain ⟨w2, hw2⟩ : ∃ w2, wr.setCell ⟨w0.heap.size, 0, none⟩ (.string (Txt (lowL q1))) = w2 := ⟨_, rfl⟩
        rw [hw2] at O2 K2 B2 ⊢
        clear hw2 z0 f0
        have e0 := B2.out.cell 0
        have e1 := B2.out.cell 1
        have e2 := B2.out.cell 2
        have hsz2 := K2.out.size
        go_wp2_with (at_builtin; refine wpList_append_own _ rfl _ _ 30 rfl w.heap.size 32 i0 (.agg #[.string .empty, .string .empty, .bool false]) 3 40 Tryz.underlying30 hi hz0 hz1 hz2 rfl (by decide) _ _ _ rfl (O2.out.alloc _) ⟨w2.heap.size, 0, none⟩ 1 1 [.string (Txt (lowL q1)), .string (Txt q2), .bool q3] rfl rfl (cell_three_new _ _ _ _ _) (by simp [Value.oneCell']) ?c3 ?c4 ?c5 ?_)
        case c3 => unfold maxLen; omega
        case c4 => omega
        case c5 => simp; omega
        intro v' w9 hown' hgrow _
        have K9 := Lib.hid ((K2.out.alloc (.cells #[.string (Txt (lowL q1)), .string (Txt q2), .bool q3] 32)).grown hgrow (fun g hg => .inr (O2.out.lt g hg).1))
        have HO9 := (by simpa [pcl, pc1, Txt] using hown' : w9.ownsRow w.heap.size 32 3 v' (acc ++ [(lowL q1, q2, q3)]).length (pcl (acc ++ [(lowL q1, q2, q3)])))
        rw [← HTu.out] at HO9
        obtain ⟨vA', vC', rfl⟩ := own_form HO9
        have HO9 := Lib.hid HO9
        clear hown' hgrow e0 e1 e2
        go_wp2_with fail
        go_roundg (l.length - j)
        case measure => omega
        case rel => exact ⟨j + 1, vA', vC', by omega, by omega, rfl, by go_num, HO9.out, K9.out⟩
    · have hjl : j = l.length := by omega
      have hT := Lib.hid (by rw [hjl, List.take_length] : lowA (l.take j) = lowA l)
      have HPn := Lib.hid (by have h := own_pm Ho.out; rw [hT.out] at h; exact h)
      have hal : (lowA l).length ≤ 2097152 := by rw [lowA_len]; exact hl
      rw [hT.out]
      clear PLr hT
      have HSo := Lib.hid (rSorted_any w0.heap.size (.slice vA (lowA l).length vC) (lowA l) w0 HPn.out (Nat.le_refl _) hal)
      go_wp2_with fail
      refine HSo.out.mono ?_
      rintro e w5 ⟨v5, rfl, hp5, hk5⟩
      have H5 := Lib.hid hp5
      have K5 := Lib.hid (HK.out.trans hk5)
      clear hp5 hk5
      go_wp2_with fail
      go_ret
      exact ⟨_, rfl, H5.out, K5.out⟩
end Ad
end Go.Proofs.YtjkkcoiebnmkcaaGreatDoor
