/- Contracts of the reference's itemEnd and Item, and of Param of both. A text has at most 2^20 bytes. -/
import Derived.Test.YtmmjfofdnpafkaaGreatDoorHeS
import Derived.Test.YtmmjfofdnpafkaaGreatDoorM11
namespace Go.Proofs.YtmmjfofdnpafkaaGreatDoor
namespace Ad
open Go.RowKit Lx

/-- A parameter of a value. -/
def parmP (r : Adr × Nat × Int) (i : (List UInt8 × List Prm) × Int) (nm : List UInt8) : List UInt8 × Bool := if r.2.2 = 0 then (getV r.1.params nm, getB r.1.params nm) else (getV i.1.2 nm, getB i.1.2 nm)
def parmR (l nm : List UInt8) : List UInt8 × Bool := parmP (adrR (trS l)) (itmR l) nm
def TbK (r : List UInt8 × Bool) (w : World) (e : Ending) (w' : World) : Prop := e = .returned (.tuple #[.string (Txt r.1), .bool r.2]) ∧ Kp [] w w'
theorem itm_sz (l : List UInt8) (hl : l.length ≤ 1048576) : SzP (itmR l).1.2 ∧ (itmR l).1.2.length ≤ 1048576 := by
  have hn : SzP ([] : List Prm) ∧ ([] : List Prm).length ≤ 1048576 := ⟨(fun p hp => by cases hp), by decide⟩
  have ht := trS_len l
  unfold itmR itT
  split
  · unfold itP
    split
    · exact hn
    · dsimp only
      obtain ⟨t, hT⟩ : ∃ t, (trS l).drop (itE (trS l)) = t := ⟨_, rfl⟩
      have htl : t.length ≤ 1048576 := by rw [← hT, List.length_drop]; omega
      rw [hT]
      have h1 := parF_sz t (t.length + 1) (blkE t 0) [] (fun p hp => by cases hp)
      have h2 := parF_len t (t.length + 1) (blkE t 0) [] (by decide)
      unfold parR
      exact ⟨fun p hp => by have := h1 p hp; omega, by omega⟩
  · exact hn
set_option maxRecDepth 100000 in
set_option maxHeartbeats 4000000 in
theorem hparam_any (s : ByteArray) (nm : List UInt8) (w : World) (hs : s.size ≤ 1048576) (hnm : nm.length ≤ 1048576) (E : Env w) :
    Calls Tryz.prog 38 #[.string s, .string (Txt nm)] w (TbK (parmR s.data.toList nm) w) := by
  obtain ⟨a, n, x, hr⟩ : ∃ a' b' c', adrR (trS s.data.toList) = (a', b', c') := ⟨_, _, _, rfl⟩
  have hmd := adrR_md2 (trS s.data.toList)
  have HA := Lib.hid (haddress_any s w (by omega) E)
  rw [hr] at hmd HA
  dsimp only at hmd HA
  have hisz := itm_sz s.data.toList (by rw [len_list]; exact hs)
  obtain ⟨v1, pm, y, hi⟩ : ∃ a b c, itmR s.data.toList = ((a, b), c) := ⟨_, _, _, rfl⟩
  have hic := fun wz (hE : Env wz) => item_any s wz hs hE
  rw [hi] at hic hisz
  have HI := Lib.hid hic
  have HZ := Lib.hid (szP_of hmd.p)
  have HN := Lib.hid hmd.n
  have HIZ := Lib.hid hisz
  have HV := Lib.hid (by unfold parmR parmP; rw [hr, hi] : parmR s.data.toList nm = if x = 0 then (getV a.params nm, getB a.params nm) else (getV pm nm, getB pm nm))
  have HE := Lib.hid E
  have Hnm := Lib.hid hnm
  obtain ⟨Y, hY⟩ : ∃ Y, Txt nm = Y := ⟨_, rfl⟩
  rw [hY]
  have HY := Lib.hid hY
  clear hr hmd hi hic hisz hnm hY E
  by_cases hx : x = 0
  case pos =>
    have bx : (x == 0) = true := by rw [hx]; rfl
    have HF := Lib.hid (HV.out.trans (if_pos hx))
    clear hx
    go_enter Tryz.func38, Tryz.ntmps38
    go_wp2_with fail
    refine HA.out.mono ?_
    rintro e w2 ⟨v, rfl, hv, hK2⟩
    have K2 := Lib.hid hK2
    obtain ⟨vp, vh, vq, rfl, h1, h2, h3⟩ := hv
    have hU : UriIn w2.heap.size w2 (.agg #[.string (Txt a.uri.scheme), .string (Txt a.uri.user), .string (Txt a.uri.host), .int .i64 a.uri.port, vp, vh]) a.uri := ⟨vp, vh, rfl, h1, h2⟩
    have hQ := h3
    obtain ⟨A1, C1, rfl⟩ := h1.form
    obtain ⟨A2, C2, rfl⟩ := h2.form
    obtain ⟨A3, C3, rfl⟩ := h3.form
    clear h1 h2 h3 hK2
    dsimp only at hU ⊢
    obtain ⟨D, hD⟩ : ∃ S, Txt a.display = S := ⟨_, rfl⟩
    obtain ⟨S, hS⟩ : ∃ S, Txt a.uri.scheme = S := ⟨_, rfl⟩
    obtain ⟨U, hU0⟩ : ∃ S, Txt a.uri.user = S := ⟨_, rfl⟩
    obtain ⟨H, hH⟩ : ∃ S, Txt a.uri.host = S := ⟨_, rfl⟩
    obtain ⟨P, hP⟩ : ∃ S, a.uri.port = S := ⟨_, rfl⟩
    obtain ⟨n1, hn1⟩ : ∃ S, a.uri.params.length = S := ⟨_, rfl⟩
    obtain ⟨n2, hn2⟩ : ∃ S, a.uri.heads.length = S := ⟨_, rfl⟩
    obtain ⟨n3, hn3⟩ : ∃ S, a.params.length = S := ⟨_, rfl⟩
    rw [hD, hS, hU0, hH, hP, hn1, hn2, hn3]
    rw [hS, hU0, hH, hP, hn1, hn2] at hU
    rw [hn3] at hQ
    clear hD hS hU0 hH hP hn1 hn2 hn3
    obtain ⟨g, hg⟩ : ∃ x, w2.heap.size = x := ⟨_, rfl⟩
    obtain ⟨w3, hw3⟩ : ∃ x, w2.alloc (.cells #[.string D, .string S, .string U, .string H, .int .i64 P, .slice A1 n1 C1, .slice A2 n2 C2, .slice A3 n3 C3] 26) = x := ⟨_, rfl⟩
    have hKa : Kp [] w2 w3 := by rw [← hw3]; exact (Kp.refl _ _).alloc _
    have K3 := Lib.hid (K2.out.trans hKa)
    have B3 := Lib.hid (show Blk w3 g 26 #[.string D, .string S, .string U, .string H, .int .i64 P, .slice A1 n1 C1, .slice A2 n2 C2, .slice A3 n3 C3] from by rw [← hw3, ← hg]; exact Blk.new w2 _ _)
    have U3 := Lib.hid (hU.grow hKa (by intro y hy; cases hy))
    have Q3 := Lib.hid (hQ.grow hKa (by intro y hy; cases hy))
    clear hU hQ hKa
    go_upto_region 2 with fail
    try rw [hw3]
    clear hw3 hg
    have u0 := B3.out.cell 0
    have u1 := B3.out.cell 1
    have u2 := B3.out.cell 2
    have u3 := B3.out.cell 3
    have u4 := B3.out.cell 4
    have u5 := B3.out.cell 5
    have u6 := B3.out.cell 6
    have u7 := B3.out.cell 7
    have HG := Lib.hid (by have h := get_any w3.heap.size (.slice A3 n3 C3) a.params nm w3 Q3.out (Nat.le_refl _) HZ.out (by have := HN.out; omega) (by have := Hnm.out; omega); rw [HY.out] at h; exact h)
    go_wp2_with fail
    refine HG.out.mono ?_
    rintro e w4 ⟨rfl, hK4⟩
    have K4 := Lib.hid (K3.out.trans hK4)
    clear hK4
    go_wp2_with fail
    go_ret2
    unfold TbK
    rw [HF.out]
    exact ⟨rfl, K4.out⟩
  have bx : (x == 0) = false := beq_eq_false_iff_ne.2 hx
  have HF := Lib.hid (HV.out.trans (if_neg hx))
  clear hx
  go_enter Tryz.func38, Tryz.ntmps38
  go_wp2_with fail
  refine HA.out.mono ?_
  rintro e w2 ⟨v, rfl, hv, hK2⟩
  have K2 := Lib.hid hK2
  obtain ⟨vp, vh, vq, rfl, h1, h2, h3⟩ := hv
  have hU : UriIn w2.heap.size w2 (.agg #[.string (Txt a.uri.scheme), .string (Txt a.uri.user), .string (Txt a.uri.host), .int .i64 a.uri.port, vp, vh]) a.uri := ⟨vp, vh, rfl, h1, h2⟩
  have hQ := h3
  obtain ⟨A1, C1, rfl⟩ := h1.form
  obtain ⟨A2, C2, rfl⟩ := h2.form
  obtain ⟨A3, C3, rfl⟩ := h3.form
  clear h1 h2 h3 hK2
  dsimp only at hU ⊢
  obtain ⟨D, hD⟩ : ∃ S, Txt a.display = S := ⟨_, rfl⟩
  obtain ⟨S, hS⟩ : ∃ S, Txt a.uri.scheme = S := ⟨_, rfl⟩
  obtain ⟨U, hU0⟩ : ∃ S, Txt a.uri.user = S := ⟨_, rfl⟩
  obtain ⟨H, hH⟩ : ∃ S, Txt a.uri.host = S := ⟨_, rfl⟩
  obtain ⟨P, hP⟩ : ∃ S, a.uri.port = S := ⟨_, rfl⟩
  obtain ⟨n1, hn1⟩ : ∃ S, a.uri.params.length = S := ⟨_, rfl⟩
  obtain ⟨n2, hn2⟩ : ∃ S, a.uri.heads.length = S := ⟨_, rfl⟩
  obtain ⟨n3, hn3⟩ : ∃ S, a.params.length = S := ⟨_, rfl⟩
  rw [hD, hS, hU0, hH, hP, hn1, hn2, hn3]
  rw [hS, hU0, hH, hP, hn1, hn2] at hU
  rw [hn3] at hQ
  clear hD hS hU0 hH hP hn1 hn2 hn3
  obtain ⟨g, hg⟩ : ∃ x, w2.heap.size = x := ⟨_, rfl⟩
  obtain ⟨w3, hw3⟩ : ∃ x, w2.alloc (.cells #[.string D, .string S, .string U, .string H, .int .i64 P, .slice A1 n1 C1, .slice A2 n2 C2, .slice A3 n3 C3] 26) = x := ⟨_, rfl⟩
  have hKa : Kp [] w2 w3 := by rw [← hw3]; exact (Kp.refl _ _).alloc _
  have K3 := Lib.hid (K2.out.trans hKa)
  have B3 := Lib.hid (show Blk w3 g 26 #[.string D, .string S, .string U, .string H, .int .i64 P, .slice A1 n1 C1, .slice A2 n2 C2, .slice A3 n3 C3] from by rw [← hw3, ← hg]; exact Blk.new w2 _ _)
  have U3 := Lib.hid (hU.grow hKa (by intro y hy; cases hy))
  have Q3 := Lib.hid (hQ.grow hKa (by intro y hy; cases hy))
  clear hU hQ hKa
  go_upto_region 2 with fail
  try rw [hw3]
  clear hw3 hg
  go_wp2_with fail
  refine (HI.out _ (HE.out.kp K3.out (by simp))).mono ?_
  rintro e w5 ⟨v, rfl, hP5, hK5⟩
  have K5 := Lib.hid (K3.out.trans hK5)
  dsimp only at hP5 ⊢
  obtain ⟨A5, c5, rfl⟩ := hP5.form
  obtain ⟨m5, hm5⟩ : ∃ n, pm.length = n := ⟨_, rfl⟩
  obtain ⟨V5, hV5⟩ : ∃ V, Txt v1 = V := ⟨_, rfl⟩
  rw [hm5] at hP5
  rw [hm5, hV5]
  clear hm5 hV5 hK5
  obtain ⟨g5, hg5⟩ : ∃ x, w5.heap.size = x := ⟨_, rfl⟩
  obtain ⟨w6, hw6⟩ : ∃ x, w5.alloc (.cells #[.string V5, .slice A5 m5 c5] 59) = x := ⟨_, rfl⟩
  have hKa : Kp [] w5 w6 := by rw [← hw6]; exact (Kp.refl _ _).alloc _
  have K6 := Lib.hid (K5.out.trans hKa)
  have B6 := Lib.hid (show Blk w6 g5 59 #[.string V5, .slice A5 m5 c5] from by rw [← hw6, ← hg5]; exact Blk.new w5 _ _)
  have P6 := Lib.hid (hP5.grow hKa (by intro y hy; cases hy))
  clear hKa hP5
  go_upto_region 5 with fail
  try rw [hw6]
  clear hw6 hg5
  have u0 := B6.out.cell 0
  have u1 := B6.out.cell 1
  have HG := Lib.hid (by have h := get_any w6.heap.size (.slice A5 m5 c5) pm nm w6 P6.out (Nat.le_refl _) HIZ.out.1 (by have := HIZ.out.2; omega) (by have := Hnm.out; omega); rw [HY.out] at h; exact h)
  go_wp2_with fail
  refine HG.out.mono ?_
  rintro e w7 ⟨rfl, hK7⟩
  have K7 := Lib.hid (K6.out.trans hK7)
  clear hK7
  go_wp2_with fail
  go_ret2
  unfold TbK
  rw [HF.out]
  exact ⟨rfl, K7.out⟩
end Ad
end Go.Proofs.YtmmjfofdnpafkaaGreatDoor
