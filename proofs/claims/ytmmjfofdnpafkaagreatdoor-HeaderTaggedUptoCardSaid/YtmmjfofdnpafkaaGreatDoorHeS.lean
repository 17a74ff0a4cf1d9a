/- Contracts of URI and Tag of package header and of its reference; the reference's Address. A text has at most 2^20 bytes. -/
import Derived.Test.YtmmjfofdnpafkaaGreatDoorHeR
import Derived.Test.YtmmjfofdnpafkaaGreatDoorAdTu
import Derived.Test.YtmmjfofdnpafkaaGreatDoorAdSo
import Derived.Test.YtmmjfofdnpafkaaGreatDoorAdRp
import Derived.Test.YtmmjfofdnpafkaaGreatDoorAdVb
import Derived.Test.YtmmjfofdnpafkaaGreatDoorM7
namespace Go.Proofs.YtmmjfofdnpafkaaGreatDoor
namespace Ad
open Go.RowKit Lx

def tagN : List UInt8 := [116, 97, 103]
def tagR (l : List UInt8) : List UInt8 := getV (adrR (trS l)).1.params tagN
def uriR (l : List UInt8) : List UInt8 × Int :=
  if (adrR (trS l)).2.2 ≠ 0 then ([], (adrR (trS l)).2.2) else ((printO (adrR (trS l)).1.uri).getD [], if (printO (adrR (trS l)).1.uri).isSome then 0 else 2)
theorem szP_of {l : List Prm} (h : SzL (4096 + 86) l) : SzP l := fun p hp => by have := h p hp; omega
set_option maxRecDepth 100000 in
set_option maxHeartbeats 4000000 in
theorem htag_any (s : ByteArray) (w : World) (hs : s.size ≤ 1048576) (E : Env w) :
    Calls Tryz.prog 41 #[.string s] w (TxK (tagR s.data.toList) w) := by
  obtain ⟨a, n, x, hr⟩ : ∃ a' b' c', adrR (trS s.data.toList) = (a', b', c') := ⟨_, _, _, rfl⟩
  have hmd := adrR_md2 (trS s.data.toList)
  have HA := Lib.hid (haddress_any s w (by omega) E)
  rw [hr] at hmd HA
  dsimp only at hmd HA
  have HZ := Lib.hid (szP_of hmd.p)
  have HN := Lib.hid hmd.n
  have HV := Lib.hid (by unfold tagR; rw [hr] : tagR s.data.toList = getV a.params tagN)
  clear hr hmd E
  go_enter Tryz.func41, Tryz.ntmps41
  go_wp2_with fail
  refine HA.out.mono ?_
  rintro e w2 ⟨v, rfl, hv, hK2⟩
  have K2 := Lib.hid hK2
  obtain ⟨vp, vh, vq, rfl, h1, h2, h3⟩ := hv
  have hU : UriIn w2.heap.size w2 (.agg #[.string (Txt a.uri.scheme), .string (Txt a.uri.user), .string (Txt a.uri.host), .int .i64 a.uri.port, vp, vh]) a.uri := ⟨vp, vh, rfl, h1, h2⟩
  have hQ := h3
  obtain ⟨A1, C1, rfl⟩ := h1.form
  obtain ⟨A2, C2, rfl⟩ := h2.form
  obtain ⟨A3, C3, rfl⟩ := h3.form
  clear h1 h2 h3 hK2
  dsimp only at hU ⊢
  obtain ⟨D, hD⟩ : ∃ S, Txt a.display = S := ⟨_, rfl⟩
  obtain ⟨S, hS⟩ : ∃ S, Txt a.uri.scheme = S := ⟨_, rfl⟩
  obtain ⟨U, hU0⟩ : ∃ S, Txt a.uri.user = S := ⟨_, rfl⟩
  obtain ⟨H, hH⟩ : ∃ S, Txt a.uri.host = S := ⟨_, rfl⟩
  obtain ⟨P, hP⟩ : ∃ S, a.uri.port = S := ⟨_, rfl⟩
  obtain ⟨n1, hn1⟩ : ∃ S, a.uri.params.length = S := ⟨_, rfl⟩
  obtain ⟨n2, hn2⟩ : ∃ S, a.uri.heads.length = S := ⟨_, rfl⟩
  obtain ⟨n3, hn3⟩ : ∃ S, a.params.length = S := ⟨_, rfl⟩
  rw [hD, hS, hU0, hH, hP, hn1, hn2, hn3]
  rw [hS, hU0, hH, hP, hn1, hn2] at hU
  rw [hn3] at hQ
  clear hD hS hU0 hH hP hn1 hn2 hn3
  obtain ⟨g, hg⟩ : ∃ x, w2.heap.size = x := ⟨_, rfl⟩
  obtain ⟨w3, hw3⟩ : ∃ x, w2.alloc (.cells #[.string D, .string S, .string U, .string H, .int .i64 P, .slice A1 n1 C1, .slice A2 n2 C2, .slice A3 n3 C3] 26) = x := ⟨_, rfl⟩
  have hKa : Kp [] w2 w3 := by rw [← hw3]; exact (Kp.refl _ _).alloc _
  have K3 := Lib.hid (K2.out.trans hKa)
  have B3 := Lib.hid (show Blk w3 g 26 #[.string D, .string S, .string U, .string H, .int .i64 P, .slice A1 n1 C1, .slice A2 n2 C2, .slice A3 n3 C3] from by rw [← hw3, ← hg]; exact Blk.new w2 _ _)
  have U3 := Lib.hid (hU.grow hKa (by intro y hy; cases hy))
  have Q3 := Lib.hid (hQ.grow hKa (by intro y hy; cases hy))
  clear hU hQ hKa
  go_upto_region 2 with fail
  try rw [hw3]
  clear hw3 hg
  have u0 := B3.out.cell 0
  have u1 := B3.out.cell 1
  have u2 := B3.out.cell 2
  have u3 := B3.out.cell 3
  have u4 := B3.out.cell 4
  have u5 := B3.out.cell 5
  have u6 := B3.out.cell 6
  have u7 := B3.out.cell 7
  have HG := Lib.hid (get_any w3.heap.size (.slice A3 n3 C3) a.params tagN w3 Q3.out (Nat.le_refl _) HZ.out (by have := HN.out; omega) (by decide))
  rw [show Txt tagN = ⟨#[116, 97, 103]⟩ from rfl] at HG
  go_wp2_with fail
  refine HG.out.mono ?_
  rintro e w4 ⟨rfl, hK4⟩
  have K4 := Lib.hid (K3.out.trans hK4)
  clear hK4
  go_wp2_with fail
  go_ret
  unfold TxK
  rw [HV.out]
  exact ⟨rfl, K4.out⟩
set_option maxRecDepth 100000 in
set_option maxHeartbeats 4000000 in
theorem huri_any (s : ByteArray) (w : World) (hs : s.size ≤ 1048576) (E : Env w) :
    Calls Tryz.prog 36 #[.string s] w (TxE (uriR s.data.toList) w) := by
  obtain ⟨a, n, x, hr⟩ : ∃ a' b' c', adrR (trS s.data.toList) = (a', b', c') := ⟨_, _, _, rfl⟩
  have hmd := adrR_md2 (trS s.data.toList)
  have HA := Lib.hid (haddress_any s w (by omega) E)
  rw [hr] at hmd HA
  dsimp only at hmd HA
  have HE := Lib.hid E
  have HZ := Lib.hid hmd.u
  have HV := Lib.hid (by unfold uriR; rw [hr] : uriR s.data.toList = if x ≠ 0 then ([], x) else ((printO a.uri).getD [], if (printO a.uri).isSome then 0 else 2))
  clear hr hmd E
  by_cases hx : x = 0
  case neg =>
    have bx : (x != 0) = true := by rw [bne_iff_ne]; exact hx
    have HF := Lib.hid (HV.out.trans (if_pos hx))
    clear hx
    go_enter Tryz.func36, Tryz.ntmps36
    go_wp2_with fail
    refine HA.out.mono ?_
    rintro e w2 ⟨v, rfl, hv, hK2⟩
    have K2 := Lib.hid hK2
    obtain ⟨vp, vh, vq, rfl, h1, h2, h3⟩ := hv
    have hU : UriIn w2.heap.size w2 (.agg #[.string (Txt a.uri.scheme), .string (Txt a.uri.user), .string (Txt a.uri.host), .int .i64 a.uri.port, vp, vh]) a.uri := ⟨vp, vh, rfl, h1, h2⟩
    have hQ := h3
    obtain ⟨A1, C1, rfl⟩ := h1.form
    obtain ⟨A2, C2, rfl⟩ := h2.form
    obtain ⟨A3, C3, rfl⟩ := h3.form
    clear h1 h2 h3 hK2
    dsimp only at hU ⊢
    obtain ⟨D, hD⟩ : ∃ S, Txt a.display = S := ⟨_, rfl⟩
    obtain ⟨S, hS⟩ : ∃ S, Txt a.uri.scheme = S := ⟨_, rfl⟩
    obtain ⟨U, hU0⟩ : ∃ S, Txt a.uri.user = S := ⟨_, rfl⟩
    obtain ⟨H, hH⟩ : ∃ S, Txt a.uri.host = S := ⟨_, rfl⟩
    obtain ⟨P, hP⟩ : ∃ S, a.uri.port = S := ⟨_, rfl⟩
    obtain ⟨n1, hn1⟩ : ∃ S, a.uri.params.length = S := ⟨_, rfl⟩
    obtain ⟨n2, hn2⟩ : ∃ S, a.uri.heads.length = S := ⟨_, rfl⟩
    obtain ⟨n3, hn3⟩ : ∃ S, a.params.length = S := ⟨_, rfl⟩
    rw [hD, hS, hU0, hH, hP, hn1, hn2, hn3]
    rw [hS, hU0, hH, hP, hn1, hn2] at hU
    rw [hn3] at hQ
    clear hD hS hU0 hH hP hn1 hn2 hn3
    obtain ⟨g, hg⟩ : ∃ x, w2.heap.size = x := ⟨_, rfl⟩
    obtain ⟨w3, hw3⟩ : ∃ x, w2.alloc (.cells #[.string D, .string S, .string U, .string H, .int .i64 P, .slice A1 n1 C1, .slice A2 n2 C2, .slice A3 n3 C3] 26) = x := ⟨_, rfl⟩
    have hKa : Kp [] w2 w3 := by rw [← hw3]; exact (Kp.refl _ _).alloc _
    have K3 := Lib.hid (K2.out.trans hKa)
    have B3 := Lib.hid (show Blk w3 g 26 #[.string D, .string S, .string U, .string H, .int .i64 P, .slice A1 n1 C1, .slice A2 n2 C2, .slice A3 n3 C3] from by rw [← hw3, ← hg]; exact Blk.new w2 _ _)
    have U3 := Lib.hid (hU.grow hKa (by intro y hy; cases hy))
    have Q3 := Lib.hid (hQ.grow hKa (by intro y hy; cases hy))
    clear hU hQ hKa
    go_upto_region 2 with fail
    try rw [hw3]
    clear hw3 hg
    go_wp2_with fail
    go_ret2
    unfold TxE
    rw [HF.out]
    exact ⟨rfl, K3.out⟩
  have bx : (x != 0) = false := by rw [hx]; rfl
  have HF := Lib.hid (HV.out.trans (if_neg (fun h => h hx)))
  clear hx
  go_enter Tryz.func36, Tryz.ntmps36
  go_wp2_with fail
  refine HA.out.mono ?_
  rintro e w2 ⟨v, rfl, hv, hK2⟩
  have K2 := Lib.hid hK2
  obtain ⟨vp, vh, vq, rfl, h1, h2, h3⟩ := hv
  have hU : UriIn w2.heap.size w2 (.agg #[.string (Txt a.uri.scheme), .string (Txt a.uri.user), .string (Txt a.uri.host), .int .i64 a.uri.port, vp, vh]) a.uri := ⟨vp, vh, rfl, h1, h2⟩
  have hQ := h3
  obtain ⟨A1, C1, rfl⟩ := h1.form
  obtain ⟨A2, C2, rfl⟩ := h2.form
  obtain ⟨A3, C3, rfl⟩ := h3.form
  clear h1 h2 h3 hK2
  dsimp only at hU ⊢
  obtain ⟨D, hD⟩ : ∃ S, Txt a.display = S := ⟨_, rfl⟩
  obtain ⟨S, hS⟩ : ∃ S, Txt a.uri.scheme = S := ⟨_, rfl⟩
  obtain ⟨U, hU0⟩ : ∃ S, Txt a.uri.user = S := ⟨_, rfl⟩
  obtain ⟨H, hH⟩ : ∃ S, Txt a.uri.host = S := ⟨_, rfl⟩
  obtain ⟨P, hP⟩ : ∃ S, a.uri.port = S := ⟨_, rfl⟩
  obtain ⟨n1, hn1⟩ : ∃ S, a.uri.params.length = S := ⟨_, rfl⟩
  obtain ⟨n2, hn2⟩ : ∃ S, a.uri.heads.length = S := ⟨_, rfl⟩
  obtain ⟨n3, hn3⟩ : ∃ S, a.params.length = S := ⟨_, rfl⟩
  rw [hD, hS, hU0, hH, hP, hn1, hn2, hn3]
  rw [hS, hU0, hH, hP, hn1, hn2] at hU
  rw [hn3] at hQ
  clear hD hS hU0 hH hP hn1 hn2 hn3
  obtain ⟨g, hg⟩ : ∃ x, w2.heap.size = x := ⟨_, rfl⟩
  obtain ⟨w3, hw3⟩ : ∃ x, w2.alloc (.cells #[.string D, .string S, .string U, .string H, .int .i64 P, .slice A1 n1 C1, .slice A2 n2 C2, .slice A3 n3 C3] 26) = x := ⟨_, rfl⟩
  have hKa : Kp [] w2 w3 := by rw [← hw3]; exact (Kp.refl _ _).alloc _
  have K3 := Lib.hid (K2.out.trans hKa)
  have B3 := Lib.hid (show Blk w3 g 26 #[.string D, .string S, .string U, .string H, .int .i64 P, .slice A1 n1 C1, .slice A2 n2 C2, .slice A3 n3 C3] from by rw [← hw3, ← hg]; exact Blk.new w2 _ _)
  have U3 := Lib.hid (hU.grow hKa (by intro y hy; cases hy))
  have Q3 := Lib.hid (hQ.grow hKa (by intro y hy; cases hy))
  clear hU hQ hKa
  go_upto_region 2 with fail
  try rw [hw3]
  clear hw3 hg
  have u0 := B3.out.cell 0
  have u1 := B3.out.cell 1
  have u2 := B3.out.cell 2
  have u3 := B3.out.cell 3
  have u4 := B3.out.cell 4
  have u5 := B3.out.cell 5
  have u6 := B3.out.cell 6
  have u7 := B3.out.cell 7
  have hP := Print_any w3.heap.size _ a.uri w3 U3.out (Nat.le_refl _) HZ.out.1 HZ.out.2 (HE.out.kp K3.out (by simp))
  unfold PrP at hP
  obtain ⟨pt, hpt⟩ : ∃ z, (printO a.uri).getD [] = z := ⟨_, rfl⟩
  obtain ⟨pe, hpe⟩ : ∃ z : Int, (if (printO a.uri).isSome then 0 else 2) = z := ⟨_, rfl⟩
  have hF := HF.out
  rw [hpt, hpe] at hP hF
  have HP := Lib.hid hP
  have HF2 := Lib.hid hF
  clear hP hF hpt hpe HF
  go_wp2_with fail
  refine HP.out.mono ?_
  rintro e w4 ⟨rfl, hB4⟩
  have K4 := Lib.hid (K3.out.below hB4)
  clear hB4
  go_wp2_with fail
  go_ret2
  unfold TxE
  rw [HF2.out]
  exact ⟨rfl, K4.out⟩
end Ad
end Go.Proofs.YtmmjfofdnpafkaaGreatDoor
