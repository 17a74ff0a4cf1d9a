/- AddressKnown of package dialtonelaw02 returns true, and nothing that was there is changed. -/
import Derived.Test.YtjkkcoiebnmkcaaGreatDoorAdBk
namespace Go.Proofs.YtjkkcoiebnmkcaaGreatDoor
namespace Ad
open Go.RowKit Lx

set_option maxRecDepth 100000 in
set_option maxHeartbeats 1000000 in
theorem known_host (l n : List UInt8) (hl : l.length ≤ 2097152) (h1 : (hostO l).isSome = !(decide (n = []))) (h2 : (hostO l).getD [] = n) (w : World) (E : Env w) : Calls Tryz.prog 51 #[.string (Txt l), .string (Txt n)] w (BoK true w) := by
  have H := Host_any (Txt l) w (by rw [txt_size]; exact hl) E
  rw [txt_list] at H
  unfold HoP at H
  rw [h1, h2] at H
  have HH := Lib.hid H
  obtain ⟨N, hN⟩ : ∃ b, decide (n = []) = b := ⟨_, rfl⟩
  have bN : ((Txt n).toList == ([] : List UInt8)) = N := (emp_D _).trans hN
  have bt : ((Txt n).toList == (Txt n).toList) = true := beq_self_eq_true _
  rw [hN] at HH
  clear h1 h2 H hN
  cases N
  all_goals
    go_enter Tryz.func51, Tryz.ntmps51
    go_wp2_with fail
    refine HH.out.mono ?_
    rintro e w1 ⟨rfl, hB⟩
    go_wp2_with fail
    go_ret
    exact ⟨rfl, (Kp.refl [] w).below hB⟩
set_option maxRecDepth 100000 in
set_option maxHeartbeats 1000000 in
theorem known_ref (l : List UInt8) (k : Nat) (x : Int) (hl : l.length ≤ 1024) (hp : parse l = (nilU, k, x)) (w : World) (E : Env w) : Calls Tryz.prog 52 #[.string (Txt l), .int .i64 k, .int .u8 x] w (BoK true w) := by
  have H := Parse_any (Txt l) w (by rw [txt_size]; omega) E
  rw [txt_list, hp] at H
  obtain ⟨z, hz⟩ : ∃ z, nilU = z := ⟨_, rfl⟩
  have hS : sameU z nilU = true := by rw [← hz]; exact (sameU_iff _ _).2 rfl
  have l1 : z.params.length ≤ 0 := by rw [← hz]; exact Nat.le_refl _
  have l2 : z.heads.length ≤ 0 := by rw [← hz]; exact Nat.le_refl _
  rw [hz] at H
  have HH := Lib.hid H
  have HS := Lib.hid hS
  have HZ := Lib.hid hz
  clear H hp hz hS
  go_enter Tryz.func52, Tryz.ntmps52
  go_wp2_with fail
  refine HH.out.mono ?_
  rintro e w1 ⟨v, rfl, hu, hB⟩
  dsimp only at hu ⊢
  have hu' := hu
  obtain ⟨vp, vh, rfl, hp, hh⟩ := hu
  obtain ⟨A1, C1, rfl⟩ := hp.form
  obtain ⟨A2, C2, rfl⟩ := hh.form
  obtain ⟨w2, hw2⟩ : ∃ wz_, w1.alloc (.cells #[.string (Txt z.scheme), .string (Txt z.user), .string (Txt z.host), .int .i64 z.port, .slice A1 z.params.length C1, .slice A2 z.heads.length C2] 42) = wz_ := ⟨_, rfl⟩
  have hK2 : Kp [] w1 w2 := by rw [← hw2]; exact (Kp.refl [] w1).alloc _
  have BX := Lib.hid (show Blk w2 w1.heap.size 42 #[.string (Txt z.scheme), .string (Txt z.user), .string (Txt z.host), .int .i64 z.port, .slice A1 z.params.length C1, .slice A2 z.heads.length C2] from by rw [← hw2]; exact Blk.new w1 _ _)
  have U2 := Lib.hid (hu'.kpn hK2)
  have K2 := Lib.hid (((Kp.refl [] w).below hB).trans hK2)
  clear hu' hp hh hB hK2
  have b0 := BX.out.cell 0
  have b1 := BX.out.cell 1
  have b2 := BX.out.cell 2
  have b3 := BX.out.cell 3
  have b4 := BX.out.cell 4
  have b5 := BX.out.cell 5
  go_wp2_with fail
  refine (same_u _ _ _ _ z nilU _ U2.out (UriIn.nil _ _) (Nat.le_refl _) (Nat.le_refl _) (by omega) (by omega) (by decide) (by decide)).mono ?_
  rw [HS.out]
  rintro e w3 ⟨rfl, hK3⟩
  have K3 := Lib.hid (K2.out.trans hK3)
  clear hK3 b0 b1 b2 b3 b4 b5
  go_wp2_with fail
  go_ret
  exact ⟨rfl, K3.out⟩
set_option maxRecDepth 100000 in
set_option maxHeartbeats 1000000 in
theorem known_wr (l : List UInt8) (k : Nat) (x : Int) (hl : l.length ≤ 1024) (hp : adrR l = (nilA, k, x)) (w : World) (E : Env w) : Calls Tryz.prog 53 #[.string (Txt l), .int .i64 k, .int .u8 x] w (BoK true w) := by
  have H := ParseAddress_any (Txt l) w (by rw [txt_size]; omega) E
  rw [txt_list, hp] at H
  obtain ⟨z, hz⟩ : ∃ z, nilA = z := ⟨_, rfl⟩
  have hS : (z.display == nilA.display && (sameU z.uri nilA.uri && z.params == nilA.params)) = true := by rw [← hz]; decide +kernel
  have l1 : z.uri.params.length ≤ 0 := by rw [← hz]; exact Nat.le_refl _
  have l2 : z.uri.heads.length ≤ 0 := by rw [← hz]; exact Nat.le_refl _
  have l3 : z.params.length ≤ 0 := by rw [← hz]; exact Nat.le_refl _
  rw [hz] at H
  have HH := Lib.hid H
  have HS := Lib.hid hS
  have HZ := Lib.hid hz
  clear H hp hz hS
  go_enter Tryz.func53, Tryz.ntmps53
  go_wp2_with fail
  refine HH.out.mono ?_
  rintro e w1 ⟨v, rfl, hu, hB⟩
  dsimp only at hu ⊢
  have hu' := hu
  obtain ⟨vp, vh, vq, rfl, hp, hh, hq⟩ := hu
  obtain ⟨A1, C1, rfl⟩ := hp.form
  obtain ⟨A2, C2, rfl⟩ := hh.form
  obtain ⟨A3, C3, rfl⟩ := hq.form
  obtain ⟨w2, hw2⟩ : ∃ wz_, w1.alloc (.cells #[.string (Txt z.display), .string (Txt z.uri.scheme), .string (Txt z.uri.user), .string (Txt z.uri.host), .int .i64 z.uri.port, .slice A1 z.uri.params.length C1, .slice A2 z.uri.heads.length C2, .slice A3 z.params.length C3] 51) = wz_ := ⟨_, rfl⟩
  have hK2 : Kp [] w1 w2 := by rw [← hw2]; exact (Kp.refl [] w1).alloc _
  have BX := Lib.hid (show Blk w2 w1.heap.size 51 #[.string (Txt z.display), .string (Txt z.uri.scheme), .string (Txt z.uri.user), .string (Txt z.uri.host), .int .i64 z.uri.port, .slice A1 z.uri.params.length C1, .slice A2 z.uri.heads.length C2, .slice A3 z.params.length C3] from by rw [← hw2]; exact Blk.new w1 _ _)
  have U2 := Lib.hid (hu'.kpn hK2)
  have K2 := Lib.hid (((Kp.refl [] w).below hB).trans hK2)
  clear hu' hp hh hq hB hK2
  have b0 := BX.out.cell 0
  have b1 := BX.out.cell 1
  have b2 := BX.out.cell 2
  have b3 := BX.out.cell 3
  have b4 := BX.out.cell 4
  have b5 := BX.out.cell 5
  have b6 := BX.out.cell 6
  have b7 := BX.out.cell 7
  go_wp2_with fail
  refine (same_a _ _ _ _ z nilA _ U2.out (AdIn.nil _ _) (Nat.le_refl _) (Nat.le_refl _) (by omega) (by omega) (by omega) (by decide) (by decide) (by decide)).mono ?_
  rw [HS.out]
  rintro e w3 ⟨rfl, hK3⟩
  have K3 := Lib.hid (K2.out.trans hK3)
  clear hK3 b0 b1 b2 b3 b4 b5 b6 b7
  go_wp2_with fail
  go_ret
  exact ⟨rfl, K3.out⟩
theorem adr_no (l : List UInt8) (n : Nat) (x : Int) (h : sameU (adrR l).1.uri nilU = true) (h1 : (adrR l).1.display = []) (h3 : (adrR l).1.params = []) (h2 : (adrR l).2 = (n, x)) : adrR l = (nilA, n, x) := adr_is l [] nilU [] n x h h1 h3 h2
theorem kh0 (w : World) (E : Env w) : Calls Tryz.prog 51 #[.string ⟨#[69, 120, 97, 109, 112, 108, 101, 46, 67, 79, 77]⟩, .string ⟨#[101, 120, 97, 109, 112, 108, 101, 46, 99, 111, 109]⟩] w (BoK true w) := known_host [69, 120, 97, 109, 112, 108, 101, 46, 67, 79, 77] [101, 120, 97, 109, 112, 108, 101, 46, 99, 111, 109] (by decide) (by decide +kernel) (by decide +kernel) w E
theorem kh1 (w : World) (E : Env w) : Calls Tryz.prog 51 #[.string ⟨#[49, 48, 46, 48, 46, 48, 46, 49]⟩, .string ⟨#[49, 48, 46, 48, 46, 48, 46, 49]⟩] w (BoK true w) := known_host [49, 48, 46, 48, 46, 48, 46, 49] [49, 48, 46, 48, 46, 48, 46, 49] (by decide) (by decide +kernel) (by decide +kernel) w E
theorem kh2 (w : World) (E : Env w) : Calls Tryz.prog 51 #[.string ⟨#[91, 50, 48, 48, 49, 58, 48, 68, 66, 56, 58, 58, 48, 49, 93]⟩, .string ⟨#[91, 50, 48, 48, 49, 58, 100, 98, 56, 58, 58, 49, 93]⟩] w (BoK true w) := known_host [91, 50, 48, 48, 49, 58, 48, 68, 66, 56, 58, 58, 48, 49, 93] [91, 50, 48, 48, 49, 58, 100, 98, 56, 58, 58, 49, 93] (by decide) (by decide +kernel) (by decide +kernel) w E
theorem kh3 (w : World) (E : Env w) : Calls Tryz.prog 51 #[.string ⟨#[49, 46, 50, 46, 51]⟩, .string ⟨#[]⟩] w (BoK true w) := known_host [49, 46, 50, 46, 51] [] (by decide) (by decide +kernel) (by decide +kernel) w E
theorem kh4 (w : World) (E : Env w) : Calls Tryz.prog 51 #[.string ⟨#[48, 49, 46, 50, 46, 51, 46, 52]⟩, .string ⟨#[]⟩] w (BoK true w) := known_host [48, 49, 46, 50, 46, 51, 46, 52] [] (by decide) (by decide +kernel) (by decide +kernel) w E
theorem kh5 (w : World) (E : Env w) : Calls Tryz.prog 51 #[.string ⟨#[97, 46, 46, 98]⟩, .string ⟨#[]⟩] w (BoK true w) := known_host [97, 46, 46, 98] [] (by decide) (by decide +kernel) (by decide +kernel) w E
theorem kh6 (w : World) (E : Env w) : Calls Tryz.prog 51 #[.string ⟨#[45, 97]⟩, .string ⟨#[]⟩] w (BoK true w) := known_host [45, 97] [] (by decide) (by decide +kernel) (by decide +kernel) w E
theorem kh7 (w : World) (E : Env w) : Calls Tryz.prog 51 #[.string ⟨#[91, 49, 58, 58, 50, 58, 58, 51, 93]⟩, .string ⟨#[]⟩] w (BoK true w) := known_host [91, 49, 58, 58, 50, 58, 58, 51, 93] [] (by decide) (by decide +kernel) (by decide +kernel) w E
theorem kh8 (w : World) (E : Env w) : Calls Tryz.prog 51 #[.string ⟨#[91, 58, 58, 93]⟩, .string ⟨#[91, 58, 58, 93]⟩] w (BoK true w) := known_host [91, 58, 58, 93] [91, 58, 58, 93] (by decide) (by decide +kernel) (by decide +kernel) w E
theorem kh9 (w : World) (E : Env w) : Calls Tryz.prog 51 #[.string ⟨#[]⟩, .string ⟨#[]⟩] w (BoK true w) := known_host [] [] (by decide) (by decide +kernel) (by decide +kernel) w E
set_option maxRecDepth 100000 in
theorem kr0 (w : World) (E : Env w) : Calls Tryz.prog 52 #[.string ⟨#[115, 105, 112, 58, 99, 58, 48]⟩, .int .i64 6, .int .u8 3] w (BoK true w) := known_ref [115, 105, 112, 58, 99, 58, 48] 6 3 (by decide) (parse_is _ nilU _ _ (by decide +kernel) (by decide +kernel)) w E
set_option maxRecDepth 100000 in
theorem kr1 (w : World) (E : Env w) : Calls Tryz.prog 52 #[.string ⟨#[115, 105, 112]⟩, .int .i64 3, .int .u8 5] w (BoK true w) := known_ref [115, 105, 112] 3 5 (by decide) (parse_is _ nilU _ _ (by decide +kernel) (by decide +kernel)) w E
set_option maxRecDepth 100000 in
theorem kr2 (w : World) (E : Env w) : Calls Tryz.prog 52 #[.string ⟨#[104, 116, 116, 112, 58, 97]⟩, .int .i64 0, .int .u8 15] w (BoK true w) := known_ref [104, 116, 116, 112, 58, 97] 0 15 (by decide) (parse_is _ nilU _ _ (by decide +kernel) (by decide +kernel)) w E
set_option maxRecDepth 100000 in
theorem kr3 (w : World) (E : Env w) : Calls Tryz.prog 52 #[.string ⟨#[115, 105, 112, 58, 64, 97]⟩, .int .i64 4, .int .u8 5] w (BoK true w) := known_ref [115, 105, 112, 58, 64, 97] 4 5 (by decide) (parse_is _ nilU _ _ (by decide +kernel) (by decide +kernel)) w E
set_option maxRecDepth 100000 in
theorem kr4 (w : World) (E : Env w) : Calls Tryz.prog 52 #[.string ⟨#[115, 105, 112, 58, 97, 64]⟩, .int .i64 6, .int .u8 5] w (BoK true w) := known_ref [115, 105, 112, 58, 97, 64] 6 5 (by decide) (parse_is _ nilU _ _ (by decide +kernel) (by decide +kernel)) w E
set_option maxRecDepth 100000 in
theorem kr5 (w : World) (E : Env w) : Calls Tryz.prog 52 #[.string ⟨#[115, 105, 112, 58, 97, 59, 98, 61]⟩, .int .i64 8, .int .u8 5] w (BoK true w) := known_ref [115, 105, 112, 58, 97, 59, 98, 61] 8 5 (by decide) (parse_is _ nilU _ _ (by decide +kernel) (by decide +kernel)) w E
set_option maxRecDepth 100000 in
theorem kr6 (w : World) (E : Env w) : Calls Tryz.prog 52 #[.string ⟨#[115, 105, 112, 58, 97, 59, 98, 59, 66]⟩, .int .i64 8, .int .u8 7] w (BoK true w) := known_ref [115, 105, 112, 58, 97, 59, 98, 59, 66] 8 7 (by decide) (parse_is _ nilU _ _ (by decide +kernel) (by decide +kernel)) w E
set_option maxRecDepth 100000 in
theorem kr7 (w : World) (E : Env w) : Calls Tryz.prog 52 #[.string ⟨#[115, 105, 112, 58, 97, 63, 98]⟩, .int .i64 7, .int .u8 5] w (BoK true w) := known_ref [115, 105, 112, 58, 97, 63, 98] 7 5 (by decide) (parse_is _ nilU _ _ (by decide +kernel) (by decide +kernel)) w E
set_option maxRecDepth 100000 in
theorem kr8 (w : World) (E : Env w) : Calls Tryz.prog 52 #[.string ⟨#[115, 105, 112, 58, 37, 48, 64, 97]⟩, .int .i64 4, .int .u8 5] w (BoK true w) := known_ref [115, 105, 112, 58, 37, 48, 64, 97] 4 5 (by decide) (parse_is _ nilU _ _ (by decide +kernel) (by decide +kernel)) w E
set_option maxRecDepth 100000 in
theorem kr9 (w : World) (E : Env w) : Calls Tryz.prog 52 #[.string ⟨#[116, 101, 108, 58, 43]⟩, .int .i64 4, .int .u8 5] w (BoK true w) := known_ref [116, 101, 108, 58, 43] 4 5 (by decide) (parse_is _ nilU _ _ (by decide +kernel) (by decide +kernel)) w E
set_option maxRecDepth 100000 in
theorem kr10 (w : World) (E : Env w) : Calls Tryz.prog 52 #[.string ⟨#[116, 101, 108, 58, 43, 49, 42]⟩, .int .i64 6, .int .u8 5] w (BoK true w) := known_ref [116, 101, 108, 58, 43, 49, 42] 6 5 (by decide) (parse_is _ nilU _ _ (by decide +kernel) (by decide +kernel)) w E
set_option maxRecDepth 100000 in
theorem kr11 (w : World) (E : Env w) : Calls Tryz.prog 52 #[.string ⟨#[115, 105, 112, 58, 97, 58, 49, 120]⟩, .int .i64 6, .int .u8 5] w (BoK true w) := known_ref [115, 105, 112, 58, 97, 58, 49, 120] 6 5 (by decide) (parse_is _ nilU _ _ (by decide +kernel) (by decide +kernel)) w E
set_option maxRecDepth 100000 in
theorem kr12 (w : World) (E : Env w) : Calls Tryz.prog 52 #[.string ⟨#[115, 105, 112, 58, 91, 58, 58, 49, 93, 120]⟩, .int .i64 9, .int .u8 5] w (BoK true w) := known_ref [115, 105, 112, 58, 91, 58, 58, 49, 93, 120] 9 5 (by decide) (parse_is _ nilU _ _ (by decide +kernel) (by decide +kernel)) w E
set_option maxRecDepth 100000 in
theorem kw0 (w : World) (E : Env w) : Calls Tryz.prog 53 #[.string ⟨#[115, 105, 112, 58, 97, 63, 98, 61, 99]⟩, .int .i64 5, .int .u8 5] w (BoK true w) := known_wr [115, 105, 112, 58, 97, 63, 98, 61, 99] 5 5 (by decide) (adr_no _ _ _ (by decide +kernel) (by decide +kernel) (by decide +kernel) (by decide +kernel)) w E
set_option maxRecDepth 100000 in
theorem kw1 (w : World) (E : Env w) : Calls Tryz.prog 53 #[.string ⟨#[34, 97, 34, 32, 115, 105, 112, 58, 98]⟩, .int .i64 4, .int .u8 5] w (BoK true w) := known_wr [34, 97, 34, 32, 115, 105, 112, 58, 98] 4 5 (by decide) (adr_no _ _ _ (by decide +kernel) (by decide +kernel) (by decide +kernel) (by decide +kernel)) w E
set_option maxRecDepth 100000 in
theorem kw2 (w : World) (E : Env w) : Calls Tryz.prog 53 #[.string ⟨#[97, 47, 98, 32, 60, 115, 105, 112, 58, 99, 62]⟩, .int .i64 1, .int .u8 5] w (BoK true w) := known_wr [97, 47, 98, 32, 60, 115, 105, 112, 58, 99, 62] 1 5 (by decide) (adr_no _ _ _ (by decide +kernel) (by decide +kernel) (by decide +kernel) (by decide +kernel)) w E
set_option maxRecDepth 100000 in
theorem kw3 (w : World) (E : Env w) : Calls Tryz.prog 53 #[.string ⟨#[60, 115, 105, 112, 58, 99]⟩, .int .i64 6, .int .u8 5] w (BoK true w) := known_wr [60, 115, 105, 112, 58, 99] 6 5 (by decide) (adr_no _ _ _ (by decide +kernel) (by decide +kernel) (by decide +kernel) (by decide +kernel)) w E
set_option maxRecDepth 100000 in
theorem kw4 (w : World) (E : Env w) : Calls Tryz.prog 53 #[.string ⟨#[60, 115, 105, 112, 58, 99, 62, 120]⟩, .int .i64 7, .int .u8 5] w (BoK true w) := known_wr [60, 115, 105, 112, 58, 99, 62, 120] 7 5 (by decide) (adr_no _ _ _ (by decide +kernel) (by decide +kernel) (by decide +kernel) (by decide +kernel)) w E
set_option maxRecDepth 100000 in
theorem kw5 (w : World) (E : Env w) : Calls Tryz.prog 53 #[.string ⟨#[60, 115, 105, 112, 58, 62]⟩, .int .i64 5, .int .u8 5] w (BoK true w) := known_wr [60, 115, 105, 112, 58, 62] 5 5 (by decide) (adr_no _ _ _ (by decide +kernel) (by decide +kernel) (by decide +kernel) (by decide +kernel)) w E
set_option maxRecDepth 100000 in
theorem kw6 (w : World) (E : Env w) : Calls Tryz.prog 53 #[.string ⟨#[]⟩, .int .i64 0, .int .u8 5] w (BoK true w) := known_wr [] 0 5 (by decide) (adr_no _ _ _ (by decide +kernel) (by decide +kernel) (by decide +kernel) (by decide +kernel)) w E
theorem kpa0 : parR [59, 97, 61, 49, 59, 65] = ([], 5, 7) := by decide +kernel
theorem kpa1 : parR [59, 97, 61] = ([], 3, 5) := by decide +kernel
theorem kpa2 : parR [59, 116, 97, 103, 61, 97, 49, 32, 59, 32, 108, 114] = ([([116, 97, 103], [97, 49], true), ([108, 114], [], false)], 0, 0) := by decide +kernel
theorem kpa3 : ppO [([116, 97, 103], [97, 32, 98], true)] = some [59, 116, 97, 103, 61, 34, 97, 32, 98, 34] := by decide +kernel
set_option maxRecDepth 100000 in
theorem ka0 : adrR [32, 66, 111, 98, 32, 32, 76, 101, 101, 32, 60, 116, 101, 108, 58, 43, 49, 45, 50, 48, 49, 62, 32, 59, 32, 120, 32] = (⟨[66, 111, 98, 32, 76, 101, 101], ⟨telL, [43, 49, 50, 48, 49], [], 0, [], []⟩, [([120], [], false)]⟩, 0, 0) := adr_is _ _ _ _ _ _ (by decide +kernel) (by decide +kernel) (by decide +kernel) (by decide +kernel)
set_option maxRecDepth 100000 in
theorem ka1 : adrR [115, 105, 112, 58, 97, 64, 98, 59, 116, 97, 103, 61, 49] = (⟨[], ⟨sipL, [97], [98], 0, [], []⟩, [([116, 97, 103], [49], true)]⟩, 0, 0) := adr_is _ _ _ _ _ _ (by decide +kernel) (by decide +kernel) (by decide +kernel) (by decide +kernel)
set_option maxRecDepth 100000 in
set_option maxHeartbeats 32000000 in
theorem known_law (w : World) (E : Env w) : Calls Tryz.prog 15 #[] w (BoK true w) := by
  have EE := Lib.hid E
  have KK := Lib.hid (Kp.refl [] w)
  have U0 := fun wz => Unescape_any ⟨#[37, 52, 49, 37, 122, 122]⟩ wz (by decide)
  rw [show unT (ByteArray.mk #[37, 52, 49, 37, 122, 122]).data.toList = [] from by decide +kernel, show unN (ByteArray.mk #[37, 52, 49, 37, 122, 122]).data.toList = 3 from by decide +kernel, show unE (ByteArray.mk #[37, 52, 49, 37, 122, 122]).data.toList = 5 from by decide +kernel] at U0
  have HU0 := Lib.hid U0
  have A0 := fun wz (E : Env wz) => Params_any ⟨#[59, 97, 61, 49, 59, 65]⟩ wz (by decide) E
  rw [show parR (ByteArray.mk #[59, 97, 61, 49, 59, 65]).data.toList = _ from kpa0] at A0
  have HA0 := Lib.hid A0
  have A1 := fun wz (E : Env wz) => Params_any ⟨#[59, 97, 61]⟩ wz (by decide) E
  rw [show parR (ByteArray.mk #[59, 97, 61]).data.toList = _ from kpa1] at A1
  have HA1 := Lib.hid A1
  have A2 := fun wz (E : Env wz) => Params_any ⟨#[59, 116, 97, 103, 61, 97, 49, 32, 59, 32, 108, 114]⟩ wz (by decide) E
  rw [show parR (ByteArray.mk #[59, 116, 97, 103, 61, 97, 49, 32, 59, 32, 108, 114]).data.toList = _ from kpa2] at A2
  have HA2 := Lib.hid A2
  have D0 := fun wz (E : Env wz) => ParseAddress_any ⟨#[32, 66, 111, 98, 32, 32, 76, 101, 101, 32, 60, 116, 101, 108, 58, 43, 49, 45, 50, 48, 49, 62, 32, 59, 32, 120, 32]⟩ wz (by decide) E
  rw [show adrR (ByteArray.mk #[32, 66, 111, 98, 32, 32, 76, 101, 101, 32, 60, 116, 101, 108, 58, 43, 49, 45, 50, 48, 49, 62, 32, 59, 32, 120, 32]).data.toList = _ from ka0] at D0
  have HD0 := Lib.hid D0
  have D1 := fun wz (E : Env wz) => ParseAddress_any ⟨#[115, 105, 112, 58, 97, 64, 98, 59, 116, 97, 103, 61, 49]⟩ wz (by decide) E
  rw [show adrR (ByteArray.mk #[115, 105, 112, 58, 97, 64, 98, 59, 116, 97, 103, 61, 49]).data.toList = _ from ka1] at D1
  have HD1 := Lib.hid D1
  have S0 := fun wz (E : Env wz) => Escape_any 1 ⟨#[97, 32, 98, 59, 99]⟩ wz (by decide) E
  rw [show escpL 1 (ByteArray.mk #[97, 32, 98, 59, 99]).data.toList = [97, 37, 50, 48, 98, 37, 51, 66, 99] from by decide +kernel] at S0
  have HS0 := Lib.hid S0
  have HTl := Lib.hid (rfl : pcl [([116, 97, 103], [97, 49], true), ([108, 114], [], false)] = [.string ⟨#[116, 97, 103]⟩, .string ⟨#[97, 49]⟩, .bool true, .string ⟨#[108, 114]⟩, .string ⟨#[]⟩, .bool false])
  clear E U0 A0 A1 A2 D0 D1 S0
  go_enter Tryz.func15, Tryz.ntmps15
  go_wp2_with fail
  refine (HU0.out _).mono ?_
  rintro e w1 ⟨rfl, hB⟩
  have hK := (Kp.refl [] w).below hB
  have KK := Lib.hid (KK.out.trans hK)
  have EE := Lib.hid (EE.out.kp hK (by simp))
  clear hK hB
  go_wp2_with fail
  refine (HA0.out _ EE.out).mono ?_
  rintro e wp0 ⟨v0, rfl, hP, hB, _⟩
  dsimp only at hP ⊢
  have hK := (Kp.refl [] w1).below hB
  obtain ⟨A0, C0, rfl⟩ := hP.form
  have KK := Lib.hid (KK.out.trans hK)
  have EE := Lib.hid (EE.out.kp hK (by simp))
  clear hK hB hP
  go_wp2_with fail
  refine (HA1.out _ EE.out).mono ?_
  rintro e wp1 ⟨v1, rfl, hP, hB, _⟩
  dsimp only at hP ⊢
  have hK := (Kp.refl [] wp0).below hB
  obtain ⟨A1, C1, rfl⟩ := hP.form
  have KK := Lib.hid (KK.out.trans hK)
  have EE := Lib.hid (EE.out.kp hK (by simp))
  clear hK hB hP
  go_wp2_with fail
  refine (HA2.out _ EE.out).mono ?_
  rintro e wp2 ⟨v2, rfl, hP, hB, _⟩
  dsimp only at hP ⊢
  have hK := (Kp.refl [] wp1).below hB
  obtain ⟨A2, C2, rfl⟩ := hP.form
  have KK := Lib.hid (KK.out.trans hK)
  have EE := Lib.hid (EE.out.kp hK (by simp))
  have P10 := Lib.hid hP
  clear hK hB hP
  have hK := (Kp.refl [] wp2).alloc (.cells #[.string ⟨#[116, 97, 103]⟩, .string ⟨#[97, 32, 98]⟩, .bool true] 32)
  have hBk := Blk.new wp2 32 #[.string ⟨#[116, 97, 103]⟩, .string ⟨#[97, 32, 98]⟩, .bool true]
  obtain ⟨wq, hwq⟩ : ∃ z, wp2.alloc (.cells #[.string ⟨#[116, 97, 103]⟩, .string ⟨#[97, 32, 98]⟩, .bool true] 32) = z := ⟨_, rfl⟩
  rw [hwq] at hK hBk
  have PQ := Lib.hid (PmIn.blk (l := [([116, 97, 103], [97, 32, 98], true)]) hBk)
  have KK := Lib.hid (KK.out.trans hK)
  have EE := Lib.hid (EE.out.kp hK (by simp))
  have P10 := Lib.hid (P10.out.grow hK (by intro y hy; cases hy))
  clear hK hBk
  go_wp2_with fail
  refine (printParams_any _ _ [([116, 97, 103], [97, 32, 98], true)] _ PQ.out (Nat.le_refl _) (by intro p hp; rw [List.mem_singleton.1 hp]; decide) (by decide) EE.out).mono ?_
  rw [kpa3]
  rintro e w5 ⟨rfl, hB⟩
  have hK := (Kp.refl [] wq).below hB
  simp only [Option.getD_some, Option.isSome_some, if_true]
  have KK := Lib.hid (KK.out.trans hK)
  have EE := Lib.hid (EE.out.kp hK (by simp))
  have P10 := Lib.hid (P10.out.grow hK (by intro y hy; cases hy))
  clear hK hB PQ hwq
  have bt1 : ((ByteArray.mk [97, 37, 50, 48, 98, 37, 51, 66, 99].toArray).toList == [97, 37, 50, 48, 98, 37, 51, 66, 99]) = true := by decide +kernel
  have bt2 : ((Txt [59, 116, 97, 103, 61, 34, 97, 32, 98, 34]).toList == [59, 116, 97, 103, 61, 34, 97, 32, 98, 34]) = true := by decide +kernel
  go_wp2_with fail
  refine (HS0.out _ EE.out).mono ?_
  rintro e w6 ⟨rfl, hB⟩
  have hK := (Kp.refl [] w5).below hB
  have KK := Lib.hid (KK.out.trans hK)
  have EE := Lib.hid (EE.out.kp hK (by simp))
  have P10 := Lib.hid (P10.out.grow hK (by intro y hy; cases hy))
  clear hK hB
  have hK := (Kp.refl [] w6).alloc (.cells #[.string ⟨#[116, 97, 103]⟩, .string ⟨#[97, 49]⟩, .bool true, .string ⟨#[108, 114]⟩, .string ⟨#[]⟩, .bool false] 32)
  have hBk := Blk.new w6 32 #[.string ⟨#[116, 97, 103]⟩, .string ⟨#[97, 49]⟩, .bool true, .string ⟨#[108, 114]⟩, .string ⟨#[]⟩, .bool false]
  obtain ⟨wr, hwr⟩ : ∃ z, w6.alloc (.cells #[.string ⟨#[116, 97, 103]⟩, .string ⟨#[97, 49]⟩, .bool true, .string ⟨#[108, 114]⟩, .string ⟨#[]⟩, .bool false] 32) = z := ⟨_, rfl⟩
  rw [hwr] at hK hBk
  have PR := Lib.hid (PmIn.blk (l := [([116, 97, 103], [97, 49], true), ([108, 114], [], false)]) hBk)
  have KK := Lib.hid (KK.out.trans hK)
  have EE := Lib.hid (EE.out.kp hK (by simp))
  have P10 := Lib.hid (P10.out.grow hK (by intro y hy; cases hy))
  clear hK hBk
  go_wp2_with fail
  refine (same_selfP _ _ _ _ [([116, 97, 103], [97, 49], true), ([108, 114], [], false)] _ P10.out PR.out (Nat.le_refl _) (Nat.le_refl _) (by decide)).mono ?_
  rintro e w7 ⟨rfl, hK⟩
  have KK := Lib.hid (KK.out.trans hK)
  have EE := Lib.hid (EE.out.kp hK (by simp))
  clear hK PR P10 hwr
  go_wp2_with fail
  refine (kh0 _ EE.out).mono ?_
  rintro e wk0 ⟨rfl, hK⟩
  have KK := Lib.hid (KK.out.trans hK)
  have EE := Lib.hid (EE.out.kp hK (by simp))
  clear hK
  go_wp2_with fail
  refine (kh1 _ EE.out).mono ?_
  rintro e wk1 ⟨rfl, hK⟩
  have KK := Lib.hid (KK.out.trans hK)
  have EE := Lib.hid (EE.out.kp hK (by simp))
  clear hK
  go_wp2_with fail
  refine (kh2 _ EE.out).mono ?_
  rintro e wk2 ⟨rfl, hK⟩
  have KK := Lib.hid (KK.out.trans hK)
  have EE := Lib.hid (EE.out.kp hK (by simp))
  clear hK
  go_wp2_with fail
  refine (kh3 _ EE.out).mono ?_
  rintro e wk3 ⟨rfl, hK⟩
  have KK := Lib.hid (KK.out.trans hK)
  have EE := Lib.hid (EE.out.kp hK (by simp))
  clear hK
  go_wp2_with fail
  refine (kh4 _ EE.out).mono ?_
  rintro e wk4 ⟨rfl, hK⟩
  have KK := Lib.hid (KK.out.trans hK)
  have EE := Lib.hid (EE.out.kp hK (by simp))
  clear hK
  go_wp2_with fail
  refine (kh5 _ EE.out).mono ?_
  rintro e wk5 ⟨rfl, hK⟩
  have KK := Lib.hid (KK.out.trans hK)
  have EE := Lib.hid (EE.out.kp hK (by simp))
  clear hK
  go_wp2_with fail
  refine (kh6 _ EE.out).mono ?_
  rintro e wk6 ⟨rfl, hK⟩
  have KK := Lib.hid (KK.out.trans hK)
  have EE := Lib.hid (EE.out.kp hK (by simp))
  clear hK
  go_wp2_with fail
  refine (kh7 _ EE.out).mono ?_
  rintro e wk7 ⟨rfl, hK⟩
  have KK := Lib.hid (KK.out.trans hK)
  have EE := Lib.hid (EE.out.kp hK (by simp))
  clear hK
  go_wp2_with fail
  refine (kh8 _ EE.out).mono ?_
  rintro e wk8 ⟨rfl, hK⟩
  have KK := Lib.hid (KK.out.trans hK)
  have EE := Lib.hid (EE.out.kp hK (by simp))
  clear hK
  go_wp2_with fail
  refine (kh9 _ EE.out).mono ?_
  rintro e wk9 ⟨rfl, hK⟩
  have KK := Lib.hid (KK.out.trans hK)
  have EE := Lib.hid (EE.out.kp hK (by simp))
  clear hK
  go_wp2_with fail
  refine (kr0 _ EE.out).mono ?_
  rintro e wk10 ⟨rfl, hK⟩
  have KK := Lib.hid (KK.out.trans hK)
  have EE := Lib.hid (EE.out.kp hK (by simp))
  clear hK
  go_wp2_with fail
  refine (kr1 _ EE.out).mono ?_
  rintro e wk11 ⟨rfl, hK⟩
  have KK := Lib.hid (KK.out.trans hK)
  have EE := Lib.hid (EE.out.kp hK (by simp))
  clear hK
  go_wp2_with fail
  refine (kr2 _ EE.out).mono ?_
  rintro e wk12 ⟨rfl, hK⟩
  have KK := Lib.hid (KK.out.trans hK)
  have EE := Lib.hid (EE.out.kp hK (by simp))
  clear hK
  go_wp2_with fail
  refine (kr3 _ EE.out).mono ?_
  rintro e wk13 ⟨rfl, hK⟩
  have KK := Lib.hid (KK.out.trans hK)
  have EE := Lib.hid (EE.out.kp hK (by simp))
  clear hK
  go_wp2_with fail
  refine (kr4 _ EE.out).mono ?_
  rintro e wk14 ⟨rfl, hK⟩
  have KK := Lib.hid (KK.out.trans hK)
  have EE := Lib.hid (EE.out.kp hK (by simp))
  clear hK
  go_wp2_with fail
  refine (kr5 _ EE.out).mono ?_
  rintro e wk15 ⟨rfl, hK⟩
  have KK := Lib.hid (KK.out.trans hK)
  have EE := Lib.hid (EE.out.kp hK (by simp))
  clear hK
  go_wp2_with fail
  refine (kr6 _ EE.out).mono ?_
  rintro e wk16 ⟨rfl, hK⟩
  have KK := Lib.hid (KK.out.trans hK)
  have EE := Lib.hid (EE.out.kp hK (by simp))
  clear hK
  go_wp2_with fail
  refine (kr7 _ EE.out).mono ?_
  rintro e wk17 ⟨rfl, hK⟩
  have KK := Lib.hid (KK.out.trans hK)
  have EE := Lib.hid (EE.out.kp hK (by simp))
  clear hK
  go_wp2_with fail
  refine (kr8 _ EE.out).mono ?_
  rintro e wk18 ⟨rfl, hK⟩
  have KK := Lib.hid (KK.out.trans hK)
  have EE := Lib.hid (EE.out.kp hK (by simp))
  clear hK
  go_wp2_with fail
  refine (kr9 _ EE.out).mono ?_
  rintro e wk19 ⟨rfl, hK⟩
  have KK := Lib.hid (KK.out.trans hK)
  have EE := Lib.hid (EE.out.kp hK (by simp))
  clear hK
  go_wp2_with fail
  refine (kr10 _ EE.out).mono ?_
  rintro e wk20 ⟨rfl, hK⟩
  have KK := Lib.hid (KK.out.trans hK)
  have EE := Lib.hid (EE.out.kp hK (by simp))
  clear hK
  go_wp2_with fail
  refine (kr11 _ EE.out).mono ?_
  rintro e wk21 ⟨rfl, hK⟩
  have KK := Lib.hid (KK.out.trans hK)
  have EE := Lib.hid (EE.out.kp hK (by simp))
  clear hK
  go_wp2_with fail
  refine (kr12 _ EE.out).mono ?_
  rintro e wk22 ⟨rfl, hK⟩
  have KK := Lib.hid (KK.out.trans hK)
  have EE := Lib.hid (EE.out.kp hK (by simp))
  clear hK
  go_wp2_with fail
  refine (kw0 _ EE.out).mono ?_
  rintro e wk23 ⟨rfl, hK⟩
  have KK := Lib.hid (KK.out.trans hK)
  have EE := Lib.hid (EE.out.kp hK (by simp))
  clear hK
  go_wp2_with fail
  refine (kw1 _ EE.out).mono ?_
  rintro e wk24 ⟨rfl, hK⟩
  have KK := Lib.hid (KK.out.trans hK)
  have EE := Lib.hid (EE.out.kp hK (by simp))
  clear hK
  go_wp2_with fail
  refine (kw2 _ EE.out).mono ?_
  rintro e wk25 ⟨rfl, hK⟩
  have KK := Lib.hid (KK.out.trans hK)
  have EE := Lib.hid (EE.out.kp hK (by simp))
  clear hK
  go_wp2_with fail
  refine (kw3 _ EE.out).mono ?_
  rintro e wk26 ⟨rfl, hK⟩
  have KK := Lib.hid (KK.out.trans hK)
  have EE := Lib.hid (EE.out.kp hK (by simp))
  clear hK
  go_wp2_with fail
  refine (kw4 _ EE.out).mono ?_
  rintro e wk27 ⟨rfl, hK⟩
  have KK := Lib.hid (KK.out.trans hK)
  have EE := Lib.hid (EE.out.kp hK (by simp))
  clear hK
  go_wp2_with fail
  refine (kw5 _ EE.out).mono ?_
  rintro e wk28 ⟨rfl, hK⟩
  have KK := Lib.hid (KK.out.trans hK)
  have EE := Lib.hid (EE.out.kp hK (by simp))
  clear hK
  go_wp2_with fail
  refine (kw6 _ EE.out).mono ?_
  rintro e wk29 ⟨rfl, hK⟩
  have KK := Lib.hid (KK.out.trans hK)
  have EE := Lib.hid (EE.out.kp hK (by simp))
  clear hK
  go_wp2_with fail
  refine (HD0.out _ EE.out).mono ?_
  rintro e wa0 ⟨vb, rfl, hb, hB⟩
  have hK := (Kp.refl [] wk29).below hB
  obtain ⟨vp, vh, vq, rfl, hp, hh, hq⟩ := hb
  dsimp only at hp hh hq ⊢
  obtain ⟨X0, Y0, rfl⟩ := hp.form
  obtain ⟨V0, W0, rfl⟩ := hh.form
  obtain ⟨Z0, T0, rfl⟩ := hq.form
  have KK := Lib.hid (KK.out.trans hK)
  have EE := Lib.hid (EE.out.kp hK (by simp))
  clear hK hB hp hh hq
  go_upto_region 11 with fail
  have hK := (Kp.refl [] wa0).alloc (.cells #[.string (Txt [66, 111, 98, 32, 76, 101, 101]), .string (Txt telL), .string (Txt [43, 49, 50, 48, 49]), .string (Txt []), .int .i64 0, .slice X0 0 Y0, .slice V0 0 W0, .slice Z0 1 T0] 51)
  have hBk := Blk.new wa0 51 #[.string (Txt [66, 111, 98, 32, 76, 101, 101]), .string (Txt telL), .string (Txt [43, 49, 50, 48, 49]), .string (Txt []), .int .i64 0, .slice X0 0 Y0, .slice V0 0 W0, .slice Z0 1 T0]
  obtain ⟨wb0, hwb⟩ : ∃ z, wa0.alloc (.cells #[.string (Txt [66, 111, 98, 32, 76, 101, 101]), .string (Txt telL), .string (Txt [43, 49, 50, 48, 49]), .string (Txt []), .int .i64 0, .slice X0 0 Y0, .slice V0 0 W0, .slice Z0 1 T0] 51) = z := ⟨_, rfl⟩
  rw [hwb] at hK hBk ⊢
  clear hwb
  have KK := Lib.hid (KK.out.trans hK)
  have EE := Lib.hid (EE.out.kp hK (by simp))
  have Ba := Lib.hid hBk
  clear hK hBk
  go_wp2_with fail
  refine (HD1.out _ EE.out).mono ?_
  rintro e wa1 ⟨vb, rfl, hb, hB⟩
  have hK := (Kp.refl [] wb0).below hB
  obtain ⟨vp, vh, vq, rfl, hp, hh, hq⟩ := hb
  dsimp only at hp hh hq ⊢
  obtain ⟨X1, Y1, rfl⟩ := hp.form
  obtain ⟨V1, W1, rfl⟩ := hh.form
  obtain ⟨Z1, T1, rfl⟩ := hq.form
  have KK := Lib.hid (KK.out.trans hK)
  have EE := Lib.hid (EE.out.kp hK (by simp))
  have Ba := Lib.hid (Ba.out.kp hK (by simp))
  clear hK hB hp hh hq
  go_upto_region 12 with fail
  have hK := (Kp.refl [] wa1).alloc (.cells #[.string (Txt []), .string (Txt sipL), .string (Txt [97]), .string (Txt [98]), .int .i64 0, .slice X1 0 Y1, .slice V1 0 W1, .slice Z1 1 T1] 51)
  have hBk := Blk.new wa1 51 #[.string (Txt []), .string (Txt sipL), .string (Txt [97]), .string (Txt [98]), .int .i64 0, .slice X1 0 Y1, .slice V1 0 W1, .slice Z1 1 T1]
  obtain ⟨wb1, hwb⟩ : ∃ z, wa1.alloc (.cells #[.string (Txt []), .string (Txt sipL), .string (Txt [97]), .string (Txt [98]), .int .i64 0, .slice X1 0 Y1, .slice V1 0 W1, .slice Z1 1 T1] 51) = z := ⟨_, rfl⟩
  rw [hwb] at hK hBk ⊢
  clear hwb
  have KK := Lib.hid (KK.out.trans hK)
  have EE := Lib.hid (EE.out.kp hK (by simp))
  have Ba := Lib.hid (Ba.out.kp hK (by simp))
  have Bb := Lib.hid hBk
  clear hK hBk
  have b0 := Ba.out.cell 0
  have b2 := Ba.out.cell 2
  have b7 := Ba.out.cell 7
  have c5 := Bb.out.cell 5
  have c7 := Bb.out.cell 7
  have bt3 : ((Txt [66, 111, 98, 32, 76, 101, 101]).toList == [66, 111, 98, 32, 76, 101, 101]) = true := by decide +kernel
  have bt4 : ((Txt [43, 49, 50, 48, 49]).toList == [43, 49, 50, 48, 49]) = true := by decide +kernel
  go_wp2_with fail
  refine (awake_any _ EE.out).mono ?_
  rintro e wy ⟨rfl, hK⟩
  have KK := Lib.hid (KK.out.trans hK)
  clear hK b0 b2 b7 c5 c7
  go_wp2_with fail
  go_ret
  exact ⟨rfl, KK.out⟩
end Ad
end Go.Proofs.YtjkkcoiebnmkcaaGreatDoor
