/- The calls of LexisKnown, with what they return. Condition: the library's variable bytealg.MaxLen holds an int. -/
import Derived.Test.YtjbjaofbdbkjaaaDoorLxSp
import Derived.Test.YtjbjaofbdbkjaaaDoorLxF
import Derived.Test.YtjbjaofbdbkjaaaDoorLxAwake
namespace Go.Proofs.YtjbjaofbdbkjaaaDoor
namespace Lx
open Go.RowKit

theorem kn_q1 (w : World) : Calls Tryd.prog 23 #[.string ⟨#[97, 34, 98]⟩] w fun e w' => e = .returned (.tuple #[.string ⟨#[34, 97, 92, 34, 98, 34]⟩, .int .u8 0]) ∧ Below w.heap.size w w' := by
  refine (quote_any ⟨#[97, 34, 98]⟩ w (by decide)).mono ?_
  rintro e w' ⟨rfl, h⟩
  exact ⟨ret_si (congrArg (fun l : List UInt8 => (⟨l.toArray⟩ : ByteArray)) (show quT [97, 34, 98] = [34, 97, 92, 34, 98, 34] by decide +kernel)) (show quE [97, 34, 98] = 0 by decide +kernel), h⟩
theorem kn_q2 (w : World) : Calls Tryd.prog 23 #[.string ⟨#[97, 0]⟩] w fun e w' => e = .returned (.tuple #[.string ⟨#[]⟩, .int .u8 5]) ∧ Below w.heap.size w w' := by
  refine (quote_any ⟨#[97, 0]⟩ w (by decide)).mono ?_
  rintro e w' ⟨rfl, h⟩
  exact ⟨ret_si (congrArg (fun l : List UInt8 => (⟨l.toArray⟩ : ByteArray)) (show quT [97, 0] = [] by decide +kernel)) (show quE [97, 0] = 5 by decide +kernel), h⟩
theorem kn_n1 (w : World) : Calls Tryd.prog 14 #[.string ⟨#[50, 49, 52, 55, 52, 56, 51, 54, 52, 56]⟩] w (Ret (.tuple #[.int .i64 0, .int .u8 3]) w) := by
  refine (number_any ⟨#[50, 49, 52, 55, 52, 56, 51, 54, 52, 56]⟩ w (by unfold maxLen; decide)).mono ?_
  rintro e w' ⟨rfl, rfl⟩
  exact ⟨ret_ii (show numN [50, 49, 52, 55, 52, 56, 51, 54, 52, 56] = 0 by decide +kernel) (show numE [50, 49, 52, 55, 52, 56, 51, 54, 52, 56] = 3 by decide +kernel), rfl⟩
theorem kn_n2 (w : World) : Calls Tryd.prog 14 #[.string ⟨#[48, 48, 48, 48, 48, 48, 48, 48, 48, 48, 55]⟩] w (Ret (.tuple #[.int .i64 0, .int .u8 5]) w) := by
  refine (number_any ⟨#[48, 48, 48, 48, 48, 48, 48, 48, 48, 48, 55]⟩ w (by unfold maxLen; decide)).mono ?_
  rintro e w' ⟨rfl, rfl⟩
  exact ⟨ret_ii (show numN [48, 48, 48, 48, 48, 48, 48, 48, 48, 48, 55] = 0 by decide +kernel) (show numE [48, 48, 48, 48, 48, 48, 48, 48, 48, 48, 55] = 5 by decide +kernel), rfl⟩
theorem kn_t1 (w : World) : Calls Tryd.prog 18 #[.string ⟨#[97, 98, 59, 99]⟩, .int .i64 (0)] w (Ret (.int .i64 2) w) := by
  refine (tokenEnd_any ⟨#[97, 98, 59, 99]⟩ (0) w (by unfold maxLen; decide)).mono ?_
  rintro e w' ⟨rfl, rfl⟩
  exact ⟨congrArg (fun x : Int => Ending.returned (.int .i64 x)) (show ((bhd tokI ⟨#[97, 98, 59, 99]⟩ (min (0 : Int).toNat (⟨#[97, 98, 59, 99]⟩ : ByteArray).size) : Nat) : Int) = 2 by decide +kernel), rfl⟩
theorem kn_t2 (w : World) : Calls Tryd.prog 18 #[.string ⟨#[97, 98, 59, 99]⟩, .int .i64 (2)] w (Ret (.int .i64 2) w) := by
  refine (tokenEnd_any ⟨#[97, 98, 59, 99]⟩ (2) w (by unfold maxLen; decide)).mono ?_
  rintro e w' ⟨rfl, rfl⟩
  exact ⟨congrArg (fun x : Int => Ending.returned (.int .i64 x)) (show ((bhd tokI ⟨#[97, 98, 59, 99]⟩ (min (2 : Int).toNat (⟨#[97, 98, 59, 99]⟩ : ByteArray).size) : Nat) : Int) = 2 by decide +kernel), rfl⟩
theorem kn_t3 (w : World) : Calls Tryd.prog 18 #[.string ⟨#[97, 98, 59, 99]⟩, .int .i64 (-9)] w (Ret (.int .i64 2) w) := by
  refine (tokenEnd_any ⟨#[97, 98, 59, 99]⟩ (-9) w (by unfold maxLen; decide)).mono ?_
  rintro e w' ⟨rfl, rfl⟩
  exact ⟨congrArg (fun x : Int => Ending.returned (.int .i64 x)) (show ((bhd tokI ⟨#[97, 98, 59, 99]⟩ (min (-9 : Int).toNat (⟨#[97, 98, 59, 99]⟩ : ByteArray).size) : Nat) : Int) = 2 by decide +kernel), rfl⟩
theorem kn_t4 (w : World) : Calls Tryd.prog 18 #[.string ⟨#[97, 98, 59, 99]⟩, .int .i64 (9)] w (Ret (.int .i64 4) w) := by
  refine (tokenEnd_any ⟨#[97, 98, 59, 99]⟩ (9) w (by unfold maxLen; decide)).mono ?_
  rintro e w' ⟨rfl, rfl⟩
  exact ⟨congrArg (fun x : Int => Ending.returned (.int .i64 x)) (show ((bhd tokI ⟨#[97, 98, 59, 99]⟩ (min (9 : Int).toNat (⟨#[97, 98, 59, 99]⟩ : ByteArray).size) : Nat) : Int) = 4 by decide +kernel), rfl⟩
theorem kn_b (w : World) : Calls Tryd.prog 20 #[.string ⟨#[32, 9, 32, 120]⟩, .int .i64 (0)] w (Ret (.int .i64 3) w) := by
  refine (blanks_any ⟨#[32, 9, 32, 120]⟩ (0) w (by unfold maxLen; decide)).mono ?_
  rintro e w' ⟨rfl, rfl⟩
  exact ⟨congrArg (fun x : Int => Ending.returned (.int .i64 x)) (show ((bhd blankI ⟨#[32, 9, 32, 120]⟩ (min (0 : Int).toNat (⟨#[32, 9, 32, 120]⟩ : ByteArray).size) : Nat) : Int) = 3 by decide +kernel), rfl⟩
theorem kn_u1 (w : World) : Calls Tryd.prog 25 #[.string ⟨#[120]⟩, .int .i64 2] w fun e w' => (∃ x, e = .returned (.tuple #[.string x, .int .i64 0, .int .u8 2])) ∧ Below w.heap.size w w' := by
  refine (unquote_any ⟨#[120]⟩ 2 w (by decide)).mono ?_
  rintro e w' ⟨rfl, h⟩
  exact ⟨⟨_, ret_3 rfl (show uqN [120] 2 = 0 by decide +kernel) (show uqE [120] 2 = 2 by decide +kernel)⟩, h⟩
theorem kn_u2 (w : World) : Calls Tryd.prog 25 #[.string ⟨#[120]⟩, .int .i64 0] w fun e w' => (∃ x, e = .returned (.tuple #[.string x, .int .i64 0, .int .u8 5])) ∧ Below w.heap.size w w' := by
  refine (unquote_any ⟨#[120]⟩ 0 w (by decide)).mono ?_
  rintro e w' ⟨rfl, h⟩
  exact ⟨⟨_, ret_3 rfl (show uqN [120] 0 = 0 by decide +kernel) (show uqE [120] 0 = 5 by decide +kernel)⟩, h⟩
theorem kn_u3 (w : World) : Calls Tryd.prog 25 #[.string ⟨#[34, 97, 98]⟩, .int .i64 0] w fun e w' => (∃ x, e = .returned (.tuple #[.string x, .int .i64 3, .int .u8 6])) ∧ Below w.heap.size w w' := by
  refine (unquote_any ⟨#[34, 97, 98]⟩ 0 w (by decide)).mono ?_
  rintro e w' ⟨rfl, h⟩
  exact ⟨⟨_, ret_3 rfl (show uqN [34, 97, 98] 0 = 3 by decide +kernel) (show uqE [34, 97, 98] 0 = 6 by decide +kernel)⟩, h⟩
theorem kn_u4 (w : World) : Calls Tryd.prog 25 #[.string ⟨#[34, 97, 92, 1, 34]⟩, .int .i64 0] w fun e w' => (∃ x, e = .returned (.tuple #[.string x, .int .i64 2, .int .u8 5])) ∧ Below w.heap.size w w' := by
  refine (unquote_any ⟨#[34, 97, 92, 1, 34]⟩ 0 w (by decide)).mono ?_
  rintro e w' ⟨rfl, h⟩
  exact ⟨⟨_, ret_3 rfl (show uqN [34, 97, 92, 1, 34] 0 = 2 by decide +kernel) (show uqE [34, 97, 92, 1, 34] 0 = 5 by decide +kernel)⟩, h⟩
theorem kn_c1 (w : World) : Calls Tryd.prog 27 #[.string ⟨#[40, 40, 40, 40, 40, 40, 40, 40, 120, 41, 41, 41, 41, 41, 41, 41, 41]⟩, .int .i64 0] w fun e w' => (∃ x, e = .returned (.tuple #[.string x, .int .i64 17, .int .u8 0])) ∧ Below w.heap.size w w' := by
  refine (comment_any ⟨#[40, 40, 40, 40, 40, 40, 40, 40, 120, 41, 41, 41, 41, 41, 41, 41, 41]⟩ 0 w (by decide)).mono ?_
  rintro e w' ⟨rfl, h⟩
  exact ⟨⟨_, ret_3 rfl (show cmN [40, 40, 40, 40, 40, 40, 40, 40, 120, 41, 41, 41, 41, 41, 41, 41, 41] 0 = 17 by decide +kernel) (show cmE [40, 40, 40, 40, 40, 40, 40, 40, 120, 41, 41, 41, 41, 41, 41, 41, 41] 0 = 0 by decide +kernel)⟩, h⟩
theorem kn_c2 (w : World) : Calls Tryd.prog 27 #[.string ⟨#[40, 40, 40, 40, 40, 40, 40, 40, 40, 120, 41, 41, 41, 41, 41, 41, 41, 41, 41]⟩, .int .i64 0] w fun e w' => (∃ x, e = .returned (.tuple #[.string x, .int .i64 8, .int .u8 4])) ∧ Below w.heap.size w w' := by
  refine (comment_any ⟨#[40, 40, 40, 40, 40, 40, 40, 40, 40, 120, 41, 41, 41, 41, 41, 41, 41, 41, 41]⟩ 0 w (by decide)).mono ?_
  rintro e w' ⟨rfl, h⟩
  exact ⟨⟨_, ret_3 rfl (show cmN [40, 40, 40, 40, 40, 40, 40, 40, 40, 120, 41, 41, 41, 41, 41, 41, 41, 41, 41] 0 = 8 by decide +kernel) (show cmE [40, 40, 40, 40, 40, 40, 40, 40, 40, 120, 41, 41, 41, 41, 41, 41, 41, 41, 41] 0 = 4 by decide +kernel)⟩, h⟩
theorem kn_s1 (w : World) : Calls Tryd.prog 29 #[.string ⟨#[97, 32, 44, 32, 34, 98, 44, 99, 34, 32, 60, 100, 44, 101, 62, 44, 44]⟩, .int .u8 44] w fun e w' => (∃ v, e = .returned (.tuple #[v, .int .i64 0, .int .u8 0]) ∧ PcIn w' v [(0, [97]), (4, [34, 98, 44, 99, 34, 32, 60, 100, 44, 101, 62]), (16, []), (17, [])]) ∧ Below w.heap.size w w' := by
  refine (split_any ⟨#[97, 32, 44, 32, 34, 98, 44, 99, 34, 32, 60, 100, 44, 101, 62, 44, 44]⟩ 44 w (by decide)).mono ?_
  rw [show spF (⟨#[97, 32, 44, 32, 34, 98, 44, 99, 34, 32, 60, 100, 44, 101, 62, 44, 44]⟩ : ByteArray).data.toList 44 = ([(0, [97]), (4, [34, 98, 44, 99, 34, 32, 60, 100, 44, 101, 62]), (16, []), (17, [])], 0, 0) from by decide +kernel]
  rintro e w' ⟨v, rfl, hr, hB⟩
  exact ⟨⟨v, rfl, PcIn.of_row hr⟩, hB⟩
theorem kn_s2 (w : World) : Calls Tryd.prog 29 #[.string ⟨#[97, 44, 98, 62]⟩, .int .u8 44] w fun e w' => (∃ v, e = .returned (.tuple #[v, .int .i64 3, .int .u8 5]) ∧ PcIn w' v []) ∧ Below w.heap.size w w' := by
  refine (split_any ⟨#[97, 44, 98, 62]⟩ 44 w (by decide)).mono ?_
  rw [show spF (⟨#[97, 44, 98, 62]⟩ : ByteArray).data.toList 44 = ([], 3, 5) from by decide +kernel]
  rintro e w' ⟨v, rfl, hr, hB⟩
  exact ⟨⟨v, rfl, PcIn.of_row hr⟩, hB⟩
theorem kn_s3 (w : World) : Calls Tryd.prog 29 #[.string ⟨#[60, 97]⟩, .int .u8 44] w fun e w' => (∃ v, e = .returned (.tuple #[v, .int .i64 2, .int .u8 6]) ∧ PcIn w' v []) ∧ Below w.heap.size w w' := by
  refine (split_any ⟨#[60, 97]⟩ 44 w (by decide)).mono ?_
  rw [show spF (⟨#[60, 97]⟩ : ByteArray).data.toList 44 = ([], 2, 6) from by decide +kernel]
  rintro e w' ⟨v, rfl, hr, hB⟩
  exact ⟨⟨v, rfl, PcIn.of_row hr⟩, hB⟩
theorem kn_s4 (w : World) : Calls Tryd.prog 29 #[.string ⟨#[97]⟩, .int .u8 60] w fun e w' => (∃ v, e = .returned (.tuple #[v, .int .i64 0, .int .u8 2]) ∧ PcIn w' v []) ∧ Below w.heap.size w w' := by
  refine (split_any ⟨#[97]⟩ 60 w (by decide)).mono ?_
  rw [show spF (⟨#[97]⟩ : ByteArray).data.toList 60 = ([], 0, 2) from by decide +kernel]
  rintro e w' ⟨v, rfl, hr, hB⟩
  exact ⟨⟨v, rfl, PcIn.of_row hr⟩, hB⟩
theorem kn_f2 (w : World) : Calls Tryd.prog 34 #[.string ⟨#[97]⟩, .int .i64 19] w fun e w' => e = .returned (.tuple #[.string ⟨#[]⟩, .int .u8 2]) ∧ Below w.heap.size w w' := by
  refine (fold_any ⟨#[97]⟩ 19 w (by decide)).mono ?_
  rintro e w' ⟨rfl, h⟩
  exact ⟨ret_si (congrArg (fun l : List UInt8 => (⟨l.toArray⟩ : ByteArray)) (show foT ⟨#[97]⟩ 19 = [] by decide +kernel)) (show foE ⟨#[97]⟩ 19 = 2 by decide +kernel), h⟩
theorem kn_f3 (w : World) : Calls Tryd.prog 34 #[.string ⟨#[32, 97]⟩, .int .i64 20] w fun e w' => e = .returned (.tuple #[.string ⟨#[]⟩, .int .u8 5]) ∧ Below w.heap.size w w' := by
  refine (fold_any ⟨#[32, 97]⟩ 20 w (by decide)).mono ?_
  rintro e w' ⟨rfl, h⟩
  exact ⟨ret_si (congrArg (fun l : List UInt8 => (⟨l.toArray⟩ : ByteArray)) (show foT ⟨#[32, 97]⟩ 20 = [] by decide +kernel)) (show foE ⟨#[32, 97]⟩ 20 = 5 by decide +kernel), h⟩
theorem kn_w1 (m : Int) (w : World) (hm : w.cell? ⟨0, 0, none⟩ = some (.int .i64 m)) : Calls Tryd.prog 32 #[.string ⟨#[32, 97, 13, 10]⟩] w fun e w' => (∃ v, e = .returned (.tuple #[v, .int .i64 0, .int .u8 5])) ∧ Below w.heap.size w w' := by
  refine (unfold_any ⟨#[32, 97, 13, 10]⟩ m w (by decide) hm).mono ?_
  rintro e w' ⟨v, rfl, hr, hB⟩
  have e2 : (unfAt (⟨#[32, 97, 13, 10]⟩ : ByteArray).data.toList : Int) = 0 := by decide +kernel
  have e3 : unfE (⟨#[32, 97, 13, 10]⟩ : ByteArray).data.toList = 5 := by decide +kernel
  rw [e2, e3]
  exact ⟨⟨v, rfl⟩, hB⟩
theorem kn_w2 (m : Int) (w : World) (hm : w.cell? ⟨0, 0, none⟩ = some (.int .i64 m)) : Calls Tryd.prog 32 #[.string ⟨#[97, 10]⟩] w fun e w' => (∃ v, e = .returned (.tuple #[v, .int .i64 1, .int .u8 5])) ∧ Below w.heap.size w w' := by
  refine (unfold_any ⟨#[97, 10]⟩ m w (by decide) hm).mono ?_
  rintro e w' ⟨v, rfl, hr, hB⟩
  have e2 : (unfAt (⟨#[97, 10]⟩ : ByteArray).data.toList : Int) = 1 := by decide +kernel
  have e3 : unfE (⟨#[97, 10]⟩ : ByteArray).data.toList = 5 := by decide +kernel
  rw [e2, e3]
  exact ⟨⟨v, rfl⟩, hB⟩
theorem kn_w3 (m : Int) (w : World) (hm : w.cell? ⟨0, 0, none⟩ = some (.int .i64 m)) : Calls Tryd.prog 32 #[.string ⟨#[97, 13]⟩] w fun e w' => (∃ v, e = .returned (.tuple #[v, .int .i64 2, .int .u8 6])) ∧ Below w.heap.size w w' := by
  refine (unfold_any ⟨#[97, 13]⟩ m w (by decide) hm).mono ?_
  rintro e w' ⟨v, rfl, hr, hB⟩
  have e2 : (unfAt (⟨#[97, 13]⟩ : ByteArray).data.toList : Int) = 2 := by decide +kernel
  have e3 : unfE (⟨#[97, 13]⟩ : ByteArray).data.toList = 6 := by decide +kernel
  rw [e2, e3]
  exact ⟨⟨v, rfl⟩, hB⟩
abbrev knL : List (Nat × List UInt8) := [(0, [97]), (4, [34, 98, 44, 99, 34, 32, 60, 100, 44, 101, 62]), (16, []), (17, [])]
theorem kn_f1 (K : ByteArray) (hK : K = ⟨(List.replicate 40 97).toArray⟩) (w : World) : Calls Tryd.prog 34 #[.string (K ++ ⟨#[32, 98]⟩), .int .i64 20] w fun e w' => e = .returned (.tuple #[.string (K ++ ⟨#[13, 10, 32, 98, 13, 10]⟩), .int .u8 0]) ∧ Below w.heap.size w w' := by
  subst hK
  refine (fold_any _ 20 w (by decide +kernel)).mono ?_
  rintro e w' ⟨rfl, h⟩
  have e1 : foT ((⟨(List.replicate 40 97).toArray⟩ : ByteArray) ++ ⟨#[32, 98]⟩) 20 = ((⟨(List.replicate 40 97).toArray⟩ : ByteArray) ++ ⟨#[13, 10, 32, 98, 13, 10]⟩).data.toList := by decide +kernel
  have e2 : foE ((⟨(List.replicate 40 97).toArray⟩ : ByteArray) ++ ⟨#[32, 98]⟩) 20 = 0 := by decide +kernel
  exact ⟨ret_si (by rw [e1]) e2, h⟩
theorem kn_row (j : Nat) : (⟨(List.replicate j 97).toArray⟩ : ByteArray) ++ ⟨#[97]⟩ = ⟨(List.replicate (j + 1) 97).toArray⟩ := by
  refine str_of ?_
  rw [data_app, List.replicate_succ']
theorem kn_size (j : Nat) : (⟨(List.replicate j 97).toArray⟩ : ByteArray).size = j := by simp [ByteArray.size]
end Lx
end Go.Proofs.YtjbjaofbdbkjaaaDoor
