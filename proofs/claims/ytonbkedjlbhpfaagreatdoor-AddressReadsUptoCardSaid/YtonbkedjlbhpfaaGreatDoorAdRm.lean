/- Contracts of the reference's find, room, Get, plain and Bracketed (dialtoneref02). Texts have at most 2^21 bytes. -/
import Derived.Test.YtonbkedjlbhpfaaGreatDoorAdRl
import Derived.Test.YtonbkedjlbhpfaaGreatDoorAdFi
import Derived.Test.YtonbkedjlbhpfaaGreatDoorAdPu
import Derived.Deep.LoopGhost
namespace Go.Proofs.YtonbkedjlbhpfaaGreatDoor
namespace Ad
open Go.RowKit Lx

theorem rlowK (l : List UInt8) (hs : l.length ≤ 2097152) (w : World) : Calls Tryz.prog 64 #[.string (Txt l)] w (TxK (lowL l) w) :=
  (rLower_any (Txt l) w (by rw [txt_size]; omega)).mono fun e w' hh => ⟨hh.1, (Kp.refl [] w).below hh.2⟩
/-- None of the first j parameters has the name. -/
def NoF (l : List Prm) (nm : List UInt8) (j : Nat) : Prop := ∀ m, m < j → (lowL l[m]!.1 == lowL nm) = false
theorem NoF.succ {l : List Prm} {nm : List UInt8} {j : Nat} (h : NoF l nm j) (h2 : (lowL l[j]!.1 == lowL nm) = false) : NoF l nm (j + 1) := fun m hm => by
  rcases Nat.lt_or_ge m j with h3 | h3
  · exact h m h3
  · have : m = j := by omega
    rw [this]; exact h2
set_option maxRecDepth 100000 in
set_option maxHeartbeats 1000000 in
theorem rfind_any (B : Nat) (v : Value) (l : List Prm) (nm : List UInt8) (w : World) (hP : PmIn B w v l) (hB : B ≤ w.heap.size) (hz : SzP l) (hl : l.length ≤ 4194304) (hn : nm.length ≤ 2097152) :
    Calls Tryz.prog 183 #[v, .string (Txt nm)] w (InK (fndI l nm) w) := by
  have HPm := Lib.hid hP
  obtain ⟨A, c, rfl⟩ := hP.form
  clear hP
  go_enter Tryz.func183, Tryz.ntmps183
  go_wp2_with fail
  go_loopg [5] (l.length + 1) (fun gg i wr => ∃ j : Nat, j ≤ l.length ∧ l.length - j < gg ∧ i = .int .i64 j ∧ NoF l nm j ∧ Kp [] w wr)
  case atStart => exact ⟨0, by omega, by omega, rfl, fun m hm => absurd hm (Nat.not_lt_zero _), Kp.refl _ _⟩
  case round =>
    obtain ⟨j, hj, hg, rfl, hN, hK⟩ := hrel
    have HN := Lib.hid hN
    have HK := Lib.hid hK
    have PLr := HPm.out.kp hK hB (by simp)
    clear hN hK
    by_cases hlt : j < l.length
    · obtain ⟨q1, q2, q3, hq⟩ : ∃ a b c, l[j]! = (a, b, c) := ⟨_, _, _, rfl⟩
      have hm : (q1, q2, q3) ∈ l := by rw [← hq, getElem!_pos l j hlt]; exact List.getElem_mem hlt
      obtain ⟨hq1, hq2⟩ := hz _ hm
      dsimp only at hq1 hq2
      have hsome : l[j]? = some (q1, q2, q3) := by rw [← hq]; exact getD_some l j hlt
      have HQ := Lib.hid hq
      obtain ⟨_, c, rfl, hc, ⟨h0, hv⟩ | ⟨bl, o, hv, hbl, hcell⟩⟩ := PLr
      · omega
      · injection hv with hA _ hc2
        subst hA
        have c0 : wr.cell? ⟨bl, o + j * 3, none⟩ = some (.string (Txt q1)) := hcell _ _ (pcl_at l j _ hsome 0 _ rfl)
        clear hcell hc hc2 hq hm hsome
        go_wp2_with fail
        refine (rlowK q1 hq1 _).mono ?_
        rintro e w1 ⟨rfl, hK1⟩
        have K1 := Lib.hid (HK.out.trans hK1)
        clear hK1 c0
        go_wp2_with fail
        refine (rlowK nm hn _).mono ?_
        rintro e w2 ⟨rfl, hK2⟩
        have K2 := Lib.hid (K1.out.trans hK2)
        clear hK2
        cases hc : (lowL q1 == lowL nm)
        · have bc : ((Txt (lowL q1)).toList == (Txt (lowL nm)).toList) = false := (str_beq _ _).trans hc
          have HC := Lib.hid (by rw [HQ.out]; exact hc : (lowL l[j]!.1 == lowL nm) = false)
          clear hc
          go_wp2_with fail
          go_roundg (l.length - j)
          case measure => omega
          case rel => exact ⟨j + 1, by omega, by omega, by go_num, HN.out.succ HC.out, K2.out⟩
        · have bc : ((Txt (lowL q1)).toList == (Txt (lowL nm)).toList) = true := (str_beq _ _).trans hc
          have HC := Lib.hid (by rw [HQ.out]; exact hc : (lowL l[j]!.1 == lowL nm) = true)
          clear hc
          go_wp2_with fail
          go_ret
          exact ⟨ret_int (fndI_some l nm j hlt HC.out HN.out).symm, K2.out⟩
    · clear PLr
      go_wp2_with fail
      go_ret
      exact ⟨ret_int (fndI_none l nm (fun m hm => HN.out m (by omega))).symm, HK.out⟩
/-- What room answers, whatever the names' letter case. -/
def roomL (l : List Prm) (nm : List UInt8) : Int := if 0 ≤ fndI l nm then 7 else if 16 ≤ l.length then 4 else 0
theorem roomL_eq (l : List Prm) (nm : List UInt8) (h1 : ∀ q ∈ l, lowL q.1 = q.1) (h2 : lowL nm = nm) (h3 : l.length ≤ 16) : roomL l nm = room l nm := by
  have key : (0 ≤ fndI l nm) ↔ (l.any (fun q => q.1 == nm) = true) := by
    rcases fndI_cases l nm with ⟨hI, hno⟩ | ⟨k, hk, hI, hyes, _⟩
    · rw [hI]
      constructor
      · intro h; omega
      · intro h
        obtain ⟨q, hq, he⟩ := List.any_eq_true.1 h
        obtain ⟨j, hj, rfl⟩ := List.mem_iff_getElem.1 hq
        have := hno j hj
        rw [getElem!_pos l j hj, h1 _ hq, h2, he] at this
        cases this
    · rw [hI]
      constructor
      · intro _
        rw [getElem!_pos l k hk, h1 _ (List.getElem_mem hk), h2] at hyes
        exact List.any_eq_true.2 ⟨_, List.getElem_mem hk, hyes⟩
      · intro _; omega
  unfold roomL room
  by_cases h : 0 ≤ fndI l nm
  · rw [if_pos h, if_pos (key.1 h)]
  · rw [if_neg h, if_neg (fun h4 => h (key.2 h4))]
    by_cases h5 : l.length = 16
    · rw [if_pos (by omega), if_pos h5]
    · rw [if_neg (by omega), if_neg h5]
set_option maxRecDepth 100000 in
set_option maxHeartbeats 1000000 in
theorem rroom_any (B : Nat) (v : Value) (l : List Prm) (nm : List UInt8) (w : World) (hP : PmIn B w v l) (hB : B ≤ w.heap.size) (hz : SzP l) (hl : l.length ≤ 4194304) (hn : nm.length ≤ 2097152) :
    Calls Tryz.prog 153 #[v, .string (Txt nm)] w (ErK (roomL l nm) w) := by
  have HF := Lib.hid (rfind_any B v l nm w hP hB hz hl hn)
  obtain ⟨A, c, rfl⟩ := hP.form
  obtain ⟨i, hi⟩ : ∃ i, fndI l nm = i := ⟨_, rfl⟩
  have HI := Lib.hid hi
  clear hP
  by_cases h0 : 0 ≤ i
  · have HR := Lib.hid (by unfold roomL; rw [hi, if_pos h0] : roomL l nm = 7)
    clear hi
    go_enter Tryz.func153, Tryz.ntmps153
    go_wp2_with fail
    refine HF.out.mono ?_
    rintro e w1 ⟨rfl, hK1⟩
    rw [HI.out]
    go_wp2_with fail
    go_ret
    exact ⟨ret_int HR.out.symm, hK1⟩
  · by_cases h16 : 16 ≤ l.length
    · have HR := Lib.hid (by unfold roomL; rw [hi, if_neg h0, if_pos h16] : roomL l nm = 4)
      clear hi
      go_enter Tryz.func153, Tryz.ntmps153
      go_wp2_with fail
      refine HF.out.mono ?_
      rintro e w1 ⟨rfl, hK1⟩
      rw [HI.out]
      go_wp2_with fail
      go_ret
      exact ⟨ret_int HR.out.symm, hK1⟩
    · have HR := Lib.hid (by unfold roomL; rw [hi, if_neg h0, if_neg h16] : roomL l nm = 0)
      clear hi
      go_enter Tryz.func153, Tryz.ntmps153
      go_wp2_with fail
      refine HF.out.mono ?_
      rintro e w1 ⟨rfl, hK1⟩
      rw [HI.out]
      go_wp2_with fail
      go_ret
      exact ⟨ret_int HR.out.symm, hK1⟩
end Ad
end Go.Proofs.YtonbkedjlbhpfaaGreatDoor
