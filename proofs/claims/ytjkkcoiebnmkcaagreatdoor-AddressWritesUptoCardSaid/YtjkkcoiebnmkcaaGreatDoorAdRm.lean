/- Contracts of the reference's find, room, Get, plain and Bracketed (dialtoneref02). Texts have at most 2^21 bytes. -/
import Derived.Test.YtjkkcoiebnmkcaaGreatDoorAdRl
import Derived.Test.YtjkkcoiebnmkcaaGreatDoorAdFi
import Derived.Test.YtjkkcoiebnmkcaaGreatDoorAdPu
import Derived.Deep.LoopGhost
namespace Go.Proofs.YtjkkcoiebnmkcaaGreatDoor
namespace Ad
open Go.RowKit Lx

theorem rlowK (l : List UInt8) (hs : l.length ≤ 2097152) (w : World) : Calls Tryz.prog 68 #[.string (Txt l)] w (TxK (lowL l) w) :=
  (rLower_any (Txt l) w (by rw [txt_size]; omega)).mono fun e w' hh => ⟨hh.1, (Kp.refl [] w).below hh.2⟩
/-- None of the first j parameters has the name. -/
def NoF (l : List Prm) (nm : List UInt8) (j : Nat) : Prop := ∀ m, m < j → (lowL l[m]!.1 == lowL nm) = false
theorem NoF.succ {l : List Prm} {nm : List UInt8} {j : Nat} (h : NoF l nm j) (h2 : (lowL l[j]!.1 == lowL nm) = false) : NoF l nm (j + 1) := fun m hm => by
  rcases Nat.lt_or_ge m j with h3 | h3
  · exact h m h3
  · have : m = j := by omega
    rw [this]; exact h2
set_option maxRecDepth 100000 in
set_option maxHeartbeats 1000000 in
theorem rfind_any (B : Nat) (v : Value) (l : List Prm) (nm : List UInt8) (w : World) (hP : PmIn B w v l) (hB : B ≤ w.heap.size) (hz : SzP l) (hl : l.length ≤ 4194304) (hn : nm.length ≤ 2097152) :
    Calls Tryz.prog 84 #[v, .string (Txt nm)] w (InK (fndI l nm) w) := by
  have HPm := Lib.hid hP
  obtain ⟨A, c, rfl⟩ := hP.form
  clear hP
  go_enter Tryz.func84, Tryz.ntmps84
  go_wp2_with fail
  go_loopg [5] (l.length + 1) (fun gg i wr => ∃ j : Nat, j ≤ l.length ∧ l.length - j < gg ∧ i = .int .i64 j ∧ NoF l nm j ∧ Kp [] w wr)
  case atStart => exact ⟨0, by omega, by omega, rfl, fun m hm => absurd hm (Nat.not_lt_zero _), Kp.refl _ _⟩
  case round =>
    obtain ⟨j, hj, hg, rfl, hN, hK⟩ := hrel
    have HN := Lib.hid hN
    have HK := Lib.hid hK
    have PLr := HPm.out.kp hK hB (by simp)
    clear hN hK
    by_cases hlt : j < l.length
    · obtain ⟨q1, q2, q3, hq⟩ : ∃ a b c, l[j]! = (a, b, c) := ⟨_, _, _, rfl⟩
      have hm : (q1, q2, q3) ∈ l := by rw [← hq, getElem!_pos l j hlt]; exact List.getElem_mem hlt
      obtain ⟨hq1, hq2⟩ := hz _ hm
      dsimp only at hq1 hq2
      have hsome : l[j]? = some (q1, q2, q3) := by rw [← hq]; exact getD_some l j hlt
      have HQ := Lib.hid hq
      obtain ⟨_, c, rfl, hc, ⟨h0, hv⟩ | ⟨bl, o, hv, hbl, hcell⟩⟩ := PLr
      · omega
      · injection hv with hA _ hc2
        subst hA
        have c0 : wr.cell? ⟨bl, o + j * 3, none⟩ = some (.string (Txt q1)) := hcell _ _ (pcl_at l j _ hsome 0 _ rfl)
        clear hcell hc hc2 hq hm hsome
        go_wp2_with fail
        refine (rlowK q1 hq1 _).mono ?_
        rintro e w1 ⟨rfl, hK1⟩
        have K1 := Lib.hid (HK.out.trans hK1)
        clear hK1 c0
        go_wp2_with fail
        refine (rlowK nm hn _).mono ?_
        rintro e w2 ⟨rfl, hK2⟩
        have K2 := Lib.hid (K1.out.trans hK2)
        clear hK2
        cases hc : (lowL q1 == lowL nm)
        · have bc : ((Txt (lowL q1)).toList == (Txt (lowL nm)).toList) = false := (str_beq _ _).trans hc
          have HC := Lib.hid (by rw [HQ.out]; exact hc : (lowL l[j]!.1 == lowL nm) = false)
          clear hc
          go_wp2_with fail
          go_roundg (l.length - j)
          case measure => omega
          case rel => exact ⟨j + 1, by omega, by omega, by go_num, HN.out.succ HC.out, K2.out⟩
        · have bc : ((Txt (lowL q1)).toList == (Txt (lowL nm)).toList) = true := (str_beq _ _).trans hc
          have HC := Lib.hid (by rw [HQ.out]; exact hc : (lowL l[j]!.1 == lowL nm) = true)
          clear hc
          go_wp2_with fail
          go_ret
          exact ⟨ret_int (fndI_some l nm j hlt HC.out HN.out).symm, K2.out⟩
    · clear PLr
      go_wp2_with fail
      go_ret
      exact ⟨ret_int (fndI_none l nm (fun m hm => HN.out m (by omega))).symm, HK.out⟩
/-- What room answers, whatever the names' letter case. -/
def roomL (l : List Prm) (nm : List UInt8) : Int := if 0 ≤ fndI l nm then 7 else if 16 ≤ l.length then 4 else 0
theorem roomL_eq (l : List Prm) (nm : List UInt8) (h1 : ∀ q ∈ l, lowL q.1 = q.1) (h2 : lowL nm = nm) (h3 : l.length ≤ 16) : roomL l nm = room l nm := by
  have key : (0 ≤ fndI l nm) ↔ (l.any (fun q => q.1 == nm) = true) := by
    rcases fndI_cases l nm with ⟨hI, hno⟩ | ⟨k, hk, hI, hyes, _⟩
    · rw [hI]
      constructor
      · intro h; omega
      · intro h
        obtain ⟨q, hq, he⟩ := List.any_eq_true.1 h
        obtain ⟨j, hj, rfl⟩ := List.mem_iff_getElem.1 hq
        have := hno j hj
        rw [getElem!_pos l j hj, h1 _ hq, h2, he] at this
        cases this
    · rw [hI]
      constructor
      · intro _
        rw [getElem!_pos l k hk, h1 _ (List.getElem_mem hk), h2] at hyes
        exact List.any_eq_true.2 ⟨_, List.getElem_mem hk, hyes⟩
      · intro _; omega
  unfold roomL room
  by_cases h : 0 ≤ fndI l nm
  · rw [if_pos h, if_pos (key.1 h)]
  · rw [if_neg h, if_neg (fun h4 => h (key.2 h4))]
    by_cases h5 : l.length = 16
    · rw [if_pos (by omega), if_pos h5]
    · rw [if_neg (by omega), if_neg h5]
set_option maxRecDepth 100000 in
set_option maxHeartbeats 1000000 in
theorem rroom_any (B : Nat) (v : Value) (l : List Prm) (nm : List UInt8) (w : World) (hP : PmIn B w v l) (hB : B ≤ w.heap.size) (hz : SzP l) (hl : l.length ≤ 4194304) (hn : nm.length ≤ 2097152) :
    Calls Tryz.prog 74 #[v, .string (Txt nm)] w (ErK (roomL l nm) w) := by
  have HF := Lib.hid (rfind_any B v l nm w hP hB hz hl hn)
  obtain ⟨A, c, rfl⟩ := hP.form
  obtain ⟨i, hi⟩ : ∃ i, fndI l nm = i := ⟨_, rfl⟩
  have HI := Lib.hid hi
  clear hP
  by_cases h0 : 0 ≤ i
  · have HR := Lib.hid (by unfold roomL; rw [hi, if_pos h0] : roomL l nm = 7)
    clear hi
    go_enter Tryz.func74, Tryz.ntmps74
    go_wp2_with fail
    refine HF.out.mono ?_
    rintro e w1 ⟨rfl, hK1⟩
    rw [HI.out]
    go_wp2_with fail
    go_ret
    exact ⟨ret_int HR.out.symm, hK1⟩
  · by_cases h16 : 16 ≤ l.length
    · have HR := Lib.hid (by unfold roomL; rw [hi, if_neg h0, if_pos h16] : roomL l nm = 4)
      clear hi
      go_enter Tryz.func74, Tryz.ntmps74
      go_wp2_with fail
      refine HF.out.mono ?_
      rintro e w1 ⟨rfl, hK1⟩
      rw [HI.out]
      go_wp2_with fail
      go_ret
      exact ⟨ret_int HR.out.symm, hK1⟩
    · have HR := Lib.hid (by unfold roomL; rw [hi, if_neg h0, if_neg h16] : roomL l nm = 0)
      clear hi
      go_enter Tryz.func74, Tryz.ntmps74
      go_wp2_with fail
      refine HF.out.mono ?_
      rintro e w1 ⟨rfl, hK1⟩
      rw [HI.out]
      go_wp2_with fail
      go_ret
      exact ⟨ret_int HR.out.symm, hK1⟩
def NoC (s : ByteArray) (k : Nat) : Prop := ((s.data.toList.take k).any fun c => ctlI c.toNat) = false
theorem noC_succ (s : ByteArray) (k : Nat) (h : k < s.size) (hN : NoC s k) (hc : ctlI s[k].toNat = false) : NoC s (k + 1) := by
  unfold NoC at hN ⊢
  rw [take_snoc s k h, List.any_append, hN]; simp [hc]
theorem noC_hit (s : ByteArray) (k : Nat) (h : k < s.size) (hc : ctlI s[k].toNat = true) : hasCtl s.data.toList = true := by
  unfold hasCtl
  exact List.any_eq_true.2 ⟨s[k], by simp [ByteArray.getElem_eq_getElem_data], hc⟩
theorem noC_end (s : ByteArray) (k : Nat) (h : s.size ≤ k) (hN : NoC s k) : hasCtl s.data.toList = false := by
  unfold NoC at hN
  rw [List.take_of_length_le (by rw [len_list]; exact h)] at hN
  exact hN
set_option maxRecDepth 100000 in
set_option maxHeartbeats 1000000 in
theorem rplain_any (s : ByteArray) (w : World) (hs : s.size ≤ 2097152) : Calls Tryz.prog 80 #[.string s] w (Ret (.bool (!hasCtl s.data.toList)) w) := by
  go_enter Tryz.func80, Tryz.ntmps80
  go_wp2_with fail
  go_loop [3] (fun i => ∃ k : Nat, k ≤ s.size ∧ i = .int .i64 k ∧ NoC s k) (fun i => s.size - (intOf i).toNat)
  case atStart => exact ⟨0, by omega, rfl, by unfold NoC; simp⟩
  case round =>
    obtain ⟨k, hk, rfl, hN⟩ := hrel
    have HN := Lib.hid hN
    clear hN
    by_cases hlt : k < s.size
    · cases hc : ctlI s[k].toNat
      · have HC := Lib.hid hc
        have HR := Lib.hid (fun wz => (rctl_any s[k].toNat wz))
        rw [hc] at HR
        clear hc
        go_wp2_with fail
        refine (HR.out _).mono ?_
        rintro e w' ⟨rfl, rfl⟩
        go_wp2_with fail
        go_round
        case rel => exact ⟨k + 1, by omega, by go_num, noC_succ s k hlt HN.out HC.out⟩
        case measure => simp [intOf]; omega
      · have HC := Lib.hid hc
        have HR := Lib.hid (fun wz => (rctl_any s[k].toNat wz))
        rw [hc] at HR
        clear hc
        go_wp2_with fail
        refine (HR.out _).mono ?_
        rintro e w' ⟨rfl, rfl⟩
        go_wp2_with fail
        go_ret
        exact ⟨ret_bool (by rw [noC_hit s k hlt HC.out]; rfl), rfl⟩
    · go_wp2_with fail
      go_ret
      exact ⟨ret_bool (by rw [noC_end s k (by omega) HN.out]; rfl), rfl⟩
/-- A host in brackets in normal form. -/
def brkB (l : List UInt8) : Bool := decide (l.head? = some 91) && decide (hostO l = some l)
theorem pvL_brk (l : List UInt8) : pvL l = if tokB l || brkB l then l else [34] ++ escL l ++ [34] := rfl
set_option maxRecDepth 100000 in
set_option maxHeartbeats 1000000 in
theorem rBracketed_any (l : List UInt8) (w : World) (hs : l.length ≤ 2097152) : Calls Tryz.prog 81 #[.string (Txt l)] w (BoK (brkB l) w) := by
  have H0 := rHost_any (Txt l) w (by rw [txt_size]; exact hs)
  rw [txt_list] at H0
  obtain ⟨o, ho⟩ : ∃ o, hostO l = o := ⟨_, rfl⟩
  rw [ho] at H0
  have HH := Lib.hid H0
  clear H0
  have hsz : (Txt l).size ≤ 2097152 := by rw [txt_size]; exact hs
  cases o with
  | none =>
    have HR := Lib.hid (by unfold brkB; rw [ho]; simp : brkB l = false)
    clear ho
    go_enter Tryz.func81, Tryz.ntmps81
    go_wp2_with fail
    refine HH.out.mono ?_
    rintro e w1 ⟨rfl, hB⟩
    go_wp2_with fail
    go_ret
    exact ⟨ret_bool HR.out.symm, (Kp.refl [] w).below hB⟩
  | some h =>
    by_cases hh : h = l
    · subst hh
      have bs : ((Txt h).toList == (Txt h).toList) = true := beq_self_eq_true _
      have h1 : 0 < (Txt h).size := by
        rw [txt_size]
        rcases Nat.eq_zero_or_pos h.length with h0 | h0
        · have : h = [] := List.eq_nil_of_length_eq_zero h0
          rw [this] at ho; exact absurd ho (by decide +kernel)
        · exact h0
      have hd := head_91 (Txt h) h1
      rw [txt_list] at hd
      by_cases h91 : (Txt h)[0].toNat = 91
      · have b9 : (((Txt h)[0].toNat : Int) == 91) = true := by rw [h91]; rfl
        have HR := Lib.hid (by unfold brkB; rw [ho, hd.2 h91]; simp : brkB h = true)
        clear ho hd h91
        go_enter Tryz.func81, Tryz.ntmps81
        go_wp2_with fail
        refine HH.out.mono ?_
        rintro e w1 ⟨rfl, hB⟩
        go_wp2_with fail
        go_ret
        exact ⟨ret_bool HR.out.symm, (Kp.refl [] w).below hB⟩
      · have b9 : (((Txt h)[0].toNat : Int) == 91) = false := by rw [beq_eq_false_iff_ne]; omega
        have HR := Lib.hid (by unfold brkB; rw [decide_eq_false (fun h2 => h91 (hd.1 h2))]; rfl : brkB h = false)
        clear ho hd h91
        go_enter Tryz.func81, Tryz.ntmps81
        go_wp2_with fail
        refine HH.out.mono ?_
        rintro e w1 ⟨rfl, hB⟩
        go_wp2_with fail
        go_ret
        exact ⟨ret_bool HR.out.symm, (Kp.refl [] w).below hB⟩
    · have bs : ((Txt h).toList == (Txt l).toList) = false := txt_beq _ _ hh
      have HR := Lib.hid (by unfold brkB; rw [ho]; simp [hh] : brkB l = false)
      clear ho hh
      go_enter Tryz.func81, Tryz.ntmps81
      go_wp2_with fail
      refine HH.out.mono ?_
      rintro e w1 ⟨rfl, hB⟩
      go_wp2_with fail
      go_ret
      exact ⟨ret_bool HR.out.symm, (Kp.refl [] w).below hB⟩
end Ad
end Go.Proofs.YtjkkcoiebnmkcaaGreatDoor
