/- Texts of one set of library modules: AdZ, AdZ1, AdPr, AdAn, AdTk, AdTg, AdBr, AdAd, AdPa, AdRs, AdAw, AdSz, AdPp, AdPq, AdFi, AdPu. -/
import Derived.Test.YtbcaindpbeaheaaGreatDoorZ18
import Derived.Shelf.Strconv.Itoa3
import Derived.Deep.LoopGhost
import Derived.Test.YtbcaindpbeaheaaGreatDoorZ2
import Derived.BigRegion
import Derived.RegionTactic
import Derived.Test.YtbcaindpbeaheaaGreatDoorZ21
namespace Go.Proofs.YtbcaindpbeaheaaGreatDoor
namespace Ad
open Go.RowKit Lx
theorem Env.belowB {B : Nat} {w w' : World} (h : Env w) (k : Below B w w') (hB : 7 ≤ B) : Env w' := by
 have hk : Kp ((List.range w.heap.size).filter fun i => decide (B ≤ i)) w w' := ⟨k.os, k.tape, k.output, k.size, fun i hi hx => k.block i (by
  rcases Nat.lt_or_ge i B with h9 | h9
  ·exact h9
  ·exact absurd (List.mem_filter.2 ⟨List.mem_range.2 hi, decide_eq_true h9⟩) hx)⟩
 exact h.kp hk (fun x hx => by have := (List.mem_filter.1 hx).2; have := of_decide_eq_true this; omega)
theorem PmIn.belowB {B B0 : Nat} {w w' : World} {v : Value} {l : List Prm} (h : PmIn B0 w v l) (k : Below B w w') (hB : B0 ≤ B) : PmIn B0 w' v l := by
 obtain ⟨n, c, hn, hc, h0 | ⟨b, o, e, hb, hcell⟩⟩ := h
 ·exact ⟨n, c, hn, hc, .inl h0⟩
 ·exact ⟨n, c, hn, hc, .inr ⟨b, o, e, hb, fun j u hu => (k.cell (p := ⟨b, o + j, none⟩) (by show b < B; omega)).trans (hcell j u hu)⟩⟩
theorem strCells_e (s : ByteArray) : Lib.strCells s = Lib.byteCells s.data.toList := by simp [Lib.strCells, Lib.byteCells]
theorem bytes_app (a b : List UInt8) : Lib.byteCells a ++ Lib.byteCells b = Lib.byteCells (a ++ b) := by simp [Lib.byteCells]
theorem Kb.of_below {B : Nat} {w w' : World} (h : Below w.heap.size w w') (hB : B ≤ w.heap.size) : Kb B w w' := ⟨h.mono hB, ⟨h.size, fun k _ hk _ => (h.block k (lt_of_some hk)).trans hk⟩⟩
theorem Kb.alloc {B : Nat} (w : World) (o : Obj) (hB : B ≤ w.heap.size) : Kb B w (w.alloc o) := ⟨(Below.refl B w).alloc hB o, (KeepTy.refl _ w).alloc o⟩
theorem Blk.kb {B g : Nat} {t : TypeId} {cs : Array Value} {w w' : World} (h : Blk w g t cs) (k : Kb B w w') (ht : t ∉ [74, 5]) : Blk w' g t cs := k.keep.row h ht
def WrP (B g : Nat) (a : List UInt8) (w : World) (e : Ending) (w' : World) : Prop :=
 e = .returned (.tuple #[]) ∧ IsB B g (Lib.byteCells a) w' ∧ Kb B w w'
theorem wstr (B g : Nat) (a x : List UInt8) (w : World) (h : IsB B g (Lib.byteCells a) w) (ha : a.length ≤ 1099511627776) (hx : x.length ≤ 1099511627776) (hB : B ≤ w.heap.size) :
   Calls Tryz.prog 31 #[.pointer (some ⟨g, 0, none⟩), .string (Txt x)] w fun e w' => e = .returned (.tuple #[.int .i64 (Txt x).size, .nilIface]) ∧ IsB B g (Lib.byteCells (a ++ x)) w' ∧ Kb B w w' :=
 (writeString_any B g _ (Txt x) w h (by rw [Lib.byteCells_length, txt_size]; omega) hB).mono fun e w' ⟨he, hb, hk⟩ => ⟨he, by
   have := isB_of hb rfl
   rw [strCells_e, txt_list, bytes_app] at this
   exact this, hk⟩
theorem wbyt (B g : Nat) (a : List UInt8) (c : UInt8) (ci : Int) (hc : ci = c.toNat) (w : World) (h : IsB B g (Lib.byteCells a) w) (ha : a.length ≤ 1099511627776) (hB : B ≤ w.heap.size) :
   Calls Tryz.prog 78 #[.pointer (some ⟨g, 0, none⟩), .int .u8 ci] w fun e w' => e = .returned .nilIface ∧ IsB B g (Lib.byteCells (a ++ [c])) w' ∧ Kb B w w' :=
 (writeByte_any B g _ ci w h (by rw [Lib.byteCells_length]; omega) hB).mono fun e w' ⟨he, hb, hk⟩ => ⟨he, by
   have := isB_of hb rfl
   rw [hc, bd_byteCells] at this
   exact this, hk⟩
set_option maxRecDepth 100000 in
set_option maxHeartbeats 1000000 in
theorem printPair_any (cls : Int) (B g : Nat) (a q1 q2 : List UInt8) (q3 : Bool) (w : World) (h : IsB B g (Lib.byteCells a) w) (ha : a.length ≤ 549755813888) (h1 : q1.length ≤ 2097152) (h2 : q2.length ≤ 2097152) (hB : B ≤ w.heap.size) (hB7 : 7 ≤ B) (E : Env w) :
   Calls Tryz.prog 80 #[.pointer (some ⟨g, 0, none⟩), .agg #[.string (Txt q1), .string (Txt q2), .bool q3], .int .i64 cls] w (WrP B g (a ++ prP cls (q1, q2, q3)) w) := by
 have hKA := (Kp.refl [] w).alloc (.cells #[.string (Txt q1), .string (Txt q2), .bool q3] 109)
 have KA := Lib.hid (Kb.alloc w (.cells #[.string (Txt q1), .string (Txt q2), .bool q3] 109) hB)
 have BA := Lib.hid (Blk.new w 109 #[.string (Txt q1), .string (Txt q2), .bool q3])
 have IA := Lib.hid (isB_kp h hKA (by simp))
 have EA := Lib.hid (E.kp hKA (by simp))
 have hsA : (w.alloc (.cells #[.string (Txt q1), .string (Txt q2), .bool q3] 109)).heap.size = w.heap.size + 1 := by simp
 have HSA := Lib.hid hsA;have hl1 := (escp_len cls q1).2;have hl2 := (escp_len cls q2).2
 obtain ⟨e1, he1⟩ : ∃ x, escpL cls q1 = x := ⟨_, rfl⟩
 obtain ⟨e2, he2⟩ : ∃ x, escpL cls q2 = x := ⟨_, rfl⟩
 rw [he1] at hl1
 rw [he2] at hl2
 have HP := Lib.hid (by unfold prP; dsimp only; rw [he1, he2] : prP cls (q1, q2, q3) = e1 ++ (if q3 then 61 :: e2 else []))
 have HE1 := Lib.hid (by rw [txt_list, he1] : escpL cls (Txt q1).data.toList = e1)
 have HE2 := Lib.hid (by rw [txt_list, he2] : escpL cls (Txt q2).data.toList = e2)
 have hs1 : (Txt q1).size ≤ 17592186044416 := by rw [txt_size]; omega
 have hs2 : (Txt q2).size ≤ 17592186044416 := by rw [txt_size]; omega
 clear h E he1 he2 hsA hKA
 cases q3
 ·go_enter Tryz.func80, Tryz.ntmps80
  go_wp2_with fail
  refine (Escape_any cls (Txt q1) _ hs1 EA.out).mono ?_
  rintro e w1 ⟨rfl, hB1⟩
  rw [HE1.out]
  have hz1 := hB1.size
  rw [HSA.out] at hz1
  have I1 := Lib.hid (isB_kp IA.out ((Kp.refl [] _).below hB1) (by simp))
  have K1 := Lib.hid (KA.out.trans (Kb.of_below hB1 (by rw [HSA.out]; omega)))
  have B1 := Lib.hid (BA.out.below hB1 (by rw [HSA.out]; omega))
  clear hB1
  go_wp2_with fail
  refine (wstr B g a e1 _ I1.out (by omega) (by omega) (by omega)).mono ?_
  rintro e w2 ⟨rfl, hI2, hB2⟩
  have I2 := Lib.hid hI2;have K2 := Lib.hid (K1.out.trans hB2)
  have d2 : w2.cell? ⟨w.heap.size, 2, none⟩ = some (.bool false) := (B1.out.kb hB2 (by decide)).cell 2
  clear hI2 hB2
  go_wp2_with fail
  refine bodyPost_ret (results_none rfl _ _ _) rfl ?_
  rw [HP.out]
  exact ⟨rfl, by simpa using I2.out, K2.out⟩
 ·go_enter Tryz.func80, Tryz.ntmps80
  go_wp2_with fail
  refine (Escape_any cls (Txt q1) _ hs1 EA.out).mono ?_
  rintro e w1 ⟨rfl, hB1⟩
  rw [HE1.out]
  have hz1 := hB1.size
  rw [HSA.out] at hz1
  have I1 := Lib.hid (isB_kp IA.out ((Kp.refl [] _).below hB1) (by simp))
  have K1 := Lib.hid (KA.out.trans (Kb.of_below hB1 (by rw [HSA.out]; omega)))
  have E1 := Lib.hid (EA.out.below hB1)
  have B1 := Lib.hid (BA.out.below hB1 (by rw [HSA.out]; omega))
  clear hB1
  go_wp2_with fail
  refine (wstr B g a e1 _ I1.out (by omega) (by omega) (by omega)).mono ?_
  rintro e w2 ⟨rfl, hI2, hB2⟩
  have I2 := Lib.hid hI2;have K2 := Lib.hid (K1.out.trans hB2);have E2 := Lib.hid (E1.out.belowB hB2.below hB7)
  have B2 := Lib.hid (B1.out.kb hB2 (by decide))
  have hz2 := hB2.below.size
  have d2 : w2.cell? ⟨w.heap.size, 2, none⟩ = some (.bool true) := B2.out.cell 2
  have hla : (a ++ e1).length ≤ 549762105344 := by rw [List.length_append]; omega
  clear hI2 hB2
  go_wp2_with fail
  refine (wbyt B g (a ++ e1) 61 61 rfl _ I2.out (by omega) (by omega)).mono ?_
  rintro e w3 ⟨rfl, hI3, hB3⟩
  have I3 := Lib.hid hI3;have K3 := Lib.hid (K2.out.trans hB3);have E3 := Lib.hid (E2.out.belowB hB3.below hB7)
  have B3 := Lib.hid (B2.out.kb hB3 (by decide))
  have hz3 := hB3.below.size
  have d1 : w3.cell? ⟨w.heap.size, 1, none⟩ = some (.string (Txt q2)) := B3.out.cell 1
  have hla2 : (a ++ e1 ++ [61]).length ≤ 549762105345 := by rw [List.length_append]; simp only [List.length_singleton]; omega
  clear hI3 hB3 d2
  go_wp2_with fail
  refine (Escape_any cls (Txt q2) _ hs2 E3.out).mono ?_
  rintro e w4 ⟨rfl, hB4⟩
  rw [HE2.out]
  have hz4 := hB4.size
  have I4 := Lib.hid (isB_kp I3.out ((Kp.refl [] _).below hB4) (by simp))
  have K4 := Lib.hid (K3.out.trans (Kb.of_below hB4 (by omega)))
  clear hB4 d1
  go_wp2_with fail
  refine (wstr B g (a ++ e1 ++ [61]) e2 _ I4.out (by omega) (by omega) (by omega)).mono ?_
  rintro e w5 ⟨rfl, hI5, hB5⟩
  have I5 := Lib.hid hI5;have K5 := Lib.hid (K4.out.trans hB5);clear hI5 hB5
  go_wp2_with fail
  refine bodyPost_ret (results_none rfl _ _ _) rfl ?_
  rw [HP.out]
  exact ⟨rfl, by have h := I5.out; simpa using h, K5.out⟩
end Ad
end Go.Proofs.YtbcaindpbeaheaaGreatDoor
namespace Go.Proofs.YtbcaindpbeaheaaGreatDoor
namespace Ad
open Go.RowKit Lx
theorem decDigits_decL (n : Nat) : ∀ m, m ≤ n → Lib.decDigits m = decL m := by
 induction n with
 | zero => intro m h; rw [Lib.decDigits, decL, dif_pos (by omega), if_pos (by omega)]
 | succ n ih =>
   intro m h
   rw [Lib.decDigits, decL]
   by_cases h9 : m < 10
   ·rw [dif_pos h9, if_pos h9]
   ·rw [dif_neg h9, if_neg h9, ih (m / 10) (by omega)]
theorem itoa_decL (p : Int) (h : 0 ≤ p) : Lib.itoa p = decL p.toNat := by
 unfold Lib.itoa
 rw [if_neg (by omega), decDigits_decL p.toNat _ (Nat.le_refl _)]
def plcL (U H : List UInt8) (P : Int) : List UInt8 := (if U = [] then [] else escpL 0 U ++ [64]) ++ H ++ (if P = 0 then [] else 58 :: decL P.toNat)
set_option maxRecDepth 100000 in
set_option maxHeartbeats 2000000 in
theorem printPlace_any (B g : Nat) (a S U H : List UInt8) (P : Int) (a1 a2 : Option Addr) (n1 c1 n2 c2 : Nat) (w : World) (h : IsB B g (Lib.byteCells a) w) (ha : a.length ≤ 1048576) (hU : U.length ≤ 2097152) (hH : H.length ≤ 2097152) (hP0 : 0 ≤ P) (hP1 : P ≤ 65535) (hB : B ≤ w.heap.size) (hB7 : 7 ≤ B) (E : Env w) :
   Calls Tryz.prog 79 #[.pointer (some ⟨g, 0, none⟩), .agg #[.string (Txt S), .string (Txt U), .string (Txt H), .int .i64 P, .slice a1 n1 c1, .slice a2 n2 c2]] w (WrP B g (a ++ plcL U H P) w) := by
 have hKA := (Kp.refl [] w).alloc (.cells #[.string (Txt S), .string (Txt U), .string (Txt H), .int .i64 P, .slice a1 n1 c1, .slice a2 n2 c2] 54)
 have K0 := Lib.hid (Kb.alloc w (.cells #[.string (Txt S), .string (Txt U), .string (Txt H), .int .i64 P, .slice a1 n1 c1, .slice a2 n2 c2] 54) hB)
 have B0 := Lib.hid (Blk.new w 54 #[.string (Txt S), .string (Txt U), .string (Txt H), .int .i64 P, .slice a1 n1 c1, .slice a2 n2 c2])
 have I0 := Lib.hid (isB_kp h hKA (by simp))
 have E0 := Lib.hid (E.kp hKA (by simp))
 have hsA : (w.alloc (.cells #[.string (Txt S), .string (Txt U), .string (Txt H), .int .i64 P, .slice a1 n1 c1, .slice a2 n2 c2] 54)).heap.size = w.heap.size + 1 := by simp
 have hl1 := (escp_len 0 U).2
 obtain ⟨e1, he1⟩ : ∃ x, escpL 0 U = x := ⟨_, rfl⟩
 rw [he1] at hl1
 have HE1 := Lib.hid (by rw [txt_list, he1] : escpL 0 (Txt U).data.toList = e1)
 have hs1 : (Txt U).size ≤ 17592186044416 := by rw [txt_size]; omega
 obtain ⟨dg, hdg⟩ : ∃ x, decL P.toNat = x := ⟨_, rfl⟩
 have hdl : dg.length ≤ 5 := by
  have := (decL_spec P.toNat P.toNat (Nat.le_refl _)).2.2.2 5 (by decide) (by omega)
  rwa [hdg] at this
 have HI := Lib.hid (by rw [itoa_decL P hP0, hdg] : Lib.itoa P = dg)
 have u1 : (w.alloc (.cells #[.string (Txt S), .string (Txt U), .string (Txt H), .int .i64 P, .slice a1 n1 c1, .slice a2 n2 c2] 54)).cell? ⟨w.heap.size, 1, none⟩ = some (.string (Txt U)) := B0.out.cell 1
 have hP : plcL U H P = (if U = [] then [] else e1 ++ [64]) ++ H ++ (if P = 0 then [] else 58 :: dg) := by unfold plcL; rw [he1, hdg]
 have hP9 : -9223372036854775808 ≤ P ∧ P ≤ 9223372036854775807 := by omega
 obtain ⟨hP8, hP7⟩ := hP9
 clear h E he1 hdg hKA
 by_cases he0 : U = []
 ·have hemp : Txt U = ⟨#[]⟩ := by rw [he0]; rfl
  have u2 : (w.alloc (.cells #[.string (Txt S), .string (Txt U), .string (Txt H), .int .i64 P, .slice a1 n1 c1, .slice a2 n2 c2] 54)).cell? ⟨w.heap.size, 2, none⟩ = some (.string (Txt H)) := B0.out.cell 2
  rw [hemp] at u1 u2 K0 I0 E0 B0 hsA HE1 hs1 ⊢
  clear hemp
  by_cases hp : P = 0
  ·have HPP := Lib.hid (hP.trans (by rw [if_pos he0, if_pos hp]))
   have bp : (P != 0) = false := by rw [hp]; rfl
   clear hP he0 hp
   go_enter Tryz.func79, Tryz.ntmps79
   go_wp2_with fail
   have hla0 : a.length ≤ 16777216 := by omega
   refine (wstr B g (a) H _ I0.out (by omega) (by omega) (by rw [hsA]; omega)).mono ?_
   rintro e w1 ⟨rfl, hI, hk⟩
   clear u1 u2;have I1 := Lib.hid hI;have K1 := Lib.hid (K0.out.trans hk);have E1 := Lib.hid (E0.out.belowB hk.below hB7)
   have B1 := Lib.hid (B0.out.kb hk (by decide))
   have hz1 : w.heap.size + 1 ≤ w1.heap.size := by have := hk.below.size; rw [hsA] at this; omega
   have u1 : w1.cell? ⟨w.heap.size, 1, none⟩ = some (.string ⟨#[]⟩) := B1.out.cell 1
   have u2 : w1.cell? ⟨w.heap.size, 2, none⟩ = some (.string (Txt H)) := B1.out.cell 2
   have u3 : w1.cell? ⟨w.heap.size, 3, none⟩ = some (.int .i64 P) := B1.out.cell 3
   clear hI hk
   have hla1 : (a ++ H).length ≤ 16777216 := by simp only [List.length_append, List.length_singleton, List.length_cons, List.length_nil]; omega
   go_wp2_with fail
   refine bodyPost_ret (results_none rfl _ _ _) rfl ?_
   rw [HPP.out]
   exact ⟨rfl, by have h := I1.out; simpa using h, K1.out⟩
  ·have HPP := Lib.hid (hP.trans (by rw [if_pos he0, if_neg hp]))
   have bp : (P != 0) = true := by rw [bne_iff_ne]; exact hp
   clear hP he0 hp
   go_enter Tryz.func79, Tryz.ntmps79
   go_wp2_with fail
   have hla0 : a.length ≤ 16777216 := by omega
   refine (wstr B g (a) H _ I0.out (by omega) (by omega) (by rw [hsA]; omega)).mono ?_
   rintro e w1 ⟨rfl, hI, hk⟩
   clear u1 u2;have I1 := Lib.hid hI;have K1 := Lib.hid (K0.out.trans hk);have E1 := Lib.hid (E0.out.belowB hk.below hB7)
   have B1 := Lib.hid (B0.out.kb hk (by decide))
   have hz1 : w.heap.size + 1 ≤ w1.heap.size := by have := hk.below.size; rw [hsA] at this; omega
   have u1 : w1.cell? ⟨w.heap.size, 1, none⟩ = some (.string ⟨#[]⟩) := B1.out.cell 1
   have u2 : w1.cell? ⟨w.heap.size, 2, none⟩ = some (.string (Txt H)) := B1.out.cell 2
   have u3 : w1.cell? ⟨w.heap.size, 3, none⟩ = some (.int .i64 P) := B1.out.cell 3
   clear hI hk
   have hla1 : (a ++ H).length ≤ 16777216 := by simp only [List.length_append, List.length_singleton, List.length_cons, List.length_nil]; omega
   go_wp2_with fail
   refine (wbyt B g (a ++ H) 58 58 rfl _ I1.out (by omega) (by omega)).mono ?_
   rintro e w2 ⟨rfl, hI, hk⟩
   clear u1 u2 u3;have I2 := Lib.hid hI;have K2 := Lib.hid (K1.out.trans hk);have E2 := Lib.hid (E1.out.belowB hk.below hB7)
   have B2 := Lib.hid (B1.out.kb hk (by decide))
   have hz2 : w.heap.size + 1 ≤ w2.heap.size := by have := hk.below.size; omega
   have u1 : w2.cell? ⟨w.heap.size, 1, none⟩ = some (.string ⟨#[]⟩) := B2.out.cell 1
   have u2 : w2.cell? ⟨w.heap.size, 2, none⟩ = some (.string (Txt H)) := B2.out.cell 2
   have u3 : w2.cell? ⟨w.heap.size, 3, none⟩ = some (.int .i64 P) := B2.out.cell 3
   clear hI hk
   have hla2 : (a ++ H ++ [58]).length ≤ 16777216 := by simp only [List.length_append, List.length_singleton, List.length_cons, List.length_nil]; omega
   go_wp2_with fail
   refine (Tryz.strconv_Itoa P hP8 hP7 _ E2.out.tab).mono ?_
   rintro e w3 ⟨rfl, q, os, hw⟩
   rw [HI.out]
   have hB9 : Below w2.heap.size w2 w3 := by rw [hw]; exact ((Kp.drewN (Kp.refl [] w2) q).trans (kp_grow _ os)).nilBelow
   have hI := isB_kp I2.out ((Kp.refl [] _).below hB9) (by simp)
   have hk : Kb B w2 w3 := Kb.of_below hB9 (by omega)
   clear hB9 hw u1 u2 u3;have I3 := Lib.hid hI;have K3 := Lib.hid (K2.out.trans hk);have E3 := Lib.hid (E2.out.belowB hk.below hB7)
   have B3 := Lib.hid (B2.out.kb hk (by decide))
   have hz3 : w.heap.size + 1 ≤ w3.heap.size := by have := hk.below.size; omega
   have u1 : w3.cell? ⟨w.heap.size, 1, none⟩ = some (.string ⟨#[]⟩) := B3.out.cell 1
   have u2 : w3.cell? ⟨w.heap.size, 2, none⟩ = some (.string (Txt H)) := B3.out.cell 2
   have u3 : w3.cell? ⟨w.heap.size, 3, none⟩ = some (.int .i64 P) := B3.out.cell 3
   clear hI hk
   go_wp2_with fail
   refine (wstr B g (a ++ H ++ [58]) dg _ I3.out (by omega) (by omega) (by omega)).mono ?_
   rintro e w4 ⟨rfl, hI, hk⟩
   clear u1 u2 u3;have I4 := Lib.hid hI;have K4 := Lib.hid (K3.out.trans hk);have E4 := Lib.hid (E3.out.belowB hk.below hB7)
   have B4 := Lib.hid (B3.out.kb hk (by decide))
   have hz4 : w.heap.size + 1 ≤ w4.heap.size := by have := hk.below.size; omega
   have u1 : w4.cell? ⟨w.heap.size, 1, none⟩ = some (.string ⟨#[]⟩) := B4.out.cell 1
   have u2 : w4.cell? ⟨w.heap.size, 2, none⟩ = some (.string (Txt H)) := B4.out.cell 2
   have u3 : w4.cell? ⟨w.heap.size, 3, none⟩ = some (.int .i64 P) := B4.out.cell 3
   clear hI hk
   go_wp2_with fail
   refine bodyPost_ret (results_none rfl _ _ _) rfl ?_
   rw [HPP.out]
   exact ⟨rfl, by have h := I4.out; simpa using h, K4.out⟩
 ·have hxl : 1 ≤ (Txt U).size := by rw [txt_size]; cases U with | nil => exact absurd rfl he0 | cons a b => simp
  have hie := isEmpty_no _ hxl;have hne := toList_ne _ hxl
  by_cases hp : P = 0
  ·have HPP := Lib.hid (hP.trans (by rw [if_neg he0, if_pos hp]))
   have bp : (P != 0) = false := by rw [hp]; rfl
   clear hP he0 hp
   go_enter Tryz.func79, Tryz.ntmps79
   go_wp2_with fail
   refine (Escape_any 0 (Txt U) _ hs1 E0.out).mono ?_
   rintro e w1 ⟨rfl, hB1⟩
   rw [HE1.out]
   have hI := isB_kp I0.out ((Kp.refl [] _).below hB1) (by simp)
   have hk : Kb B _ w1 := Kb.of_below hB1 (by rw [hsA]; omega)
   clear hB1 u1;have I1 := Lib.hid hI;have K1 := Lib.hid (K0.out.trans hk);have E1 := Lib.hid (E0.out.belowB hk.below hB7)
   have B1 := Lib.hid (B0.out.kb hk (by decide))
   have hz1 : w.heap.size + 1 ≤ w1.heap.size := by have := hk.below.size; rw [hsA] at this; omega
   have u1 : w1.cell? ⟨w.heap.size, 1, none⟩ = some (.string (Txt U)) := B1.out.cell 1
   have u2 : w1.cell? ⟨w.heap.size, 2, none⟩ = some (.string (Txt H)) := B1.out.cell 2
   have u3 : w1.cell? ⟨w.heap.size, 3, none⟩ = some (.int .i64 P) := B1.out.cell 3
   clear hI hk
   go_wp2_with fail
   refine (wstr B g a e1 _ I1.out (by omega) (by omega) (by omega)).mono ?_
   rintro e w2 ⟨rfl, hI, hk⟩
   clear u1 u2 u3;have I2 := Lib.hid hI;have K2 := Lib.hid (K1.out.trans hk);have E2 := Lib.hid (E1.out.belowB hk.below hB7)
   have B2 := Lib.hid (B1.out.kb hk (by decide))
   have hz2 : w.heap.size + 1 ≤ w2.heap.size := by have := hk.below.size; omega
   have u1 : w2.cell? ⟨w.heap.size, 1, none⟩ = some (.string (Txt U)) := B2.out.cell 1
   have u2 : w2.cell? ⟨w.heap.size, 2, none⟩ = some (.string (Txt H)) := B2.out.cell 2
   have u3 : w2.cell? ⟨w.heap.size, 3, none⟩ = some (.int .i64 P) := B2.out.cell 3
   clear hI hk
   have hla2 : (a ++ e1).length ≤ 16777216 := by simp only [List.length_append, List.length_singleton, List.length_cons, List.length_nil]; omega
   go_wp2_with fail
   refine (wbyt B g (a ++ e1) 64 64 rfl _ I2.out (by omega) (by omega)).mono ?_
   rintro e w3 ⟨rfl, hI, hk⟩
   clear u1 u2 u3;have I3 := Lib.hid hI;have K3 := Lib.hid (K2.out.trans hk);have E3 := Lib.hid (E2.out.belowB hk.below hB7)
   have B3 := Lib.hid (B2.out.kb hk (by decide))
   have hz3 : w.heap.size + 1 ≤ w3.heap.size := by have := hk.below.size; omega
   have u1 : w3.cell? ⟨w.heap.size, 1, none⟩ = some (.string (Txt U)) := B3.out.cell 1
   have u2 : w3.cell? ⟨w.heap.size, 2, none⟩ = some (.string (Txt H)) := B3.out.cell 2
   have u3 : w3.cell? ⟨w.heap.size, 3, none⟩ = some (.int .i64 P) := B3.out.cell 3
   clear hI hk
   have hla3 : (a ++ e1 ++ [64]).length ≤ 16777216 := by simp only [List.length_append, List.length_singleton, List.length_cons, List.length_nil]; omega
   go_wp2_with fail
   refine (wstr B g (a ++ e1 ++ [64]) H _ I3.out (by omega) (by omega) (by omega)).mono ?_
   rintro e w4 ⟨rfl, hI, hk⟩
   clear u1 u2 u3;have I4 := Lib.hid hI;have K4 := Lib.hid (K3.out.trans hk);have E4 := Lib.hid (E3.out.belowB hk.below hB7)
   have B4 := Lib.hid (B3.out.kb hk (by decide))
   have hz4 : w.heap.size + 1 ≤ w4.heap.size := by have := hk.below.size; omega
   have u1 : w4.cell? ⟨w.heap.size, 1, none⟩ = some (.string (Txt U)) := B4.out.cell 1
   have u2 : w4.cell? ⟨w.heap.size, 2, none⟩ = some (.string (Txt H)) := B4.out.cell 2
   have u3 : w4.cell? ⟨w.heap.size, 3, none⟩ = some (.int .i64 P) := B4.out.cell 3
   clear hI hk
   have hla4 : (a ++ e1 ++ [64] ++ H).length ≤ 16777216 := by simp only [List.length_append, List.length_singleton, List.length_cons, List.length_nil]; omega
   go_wp2_with fail
   refine bodyPost_ret (results_none rfl _ _ _) rfl ?_
   rw [HPP.out]
   exact ⟨rfl, by have h := I4.out; simpa using h, K4.out⟩
  ·have HPP := Lib.hid (hP.trans (by rw [if_neg he0, if_neg hp]))
   have bp : (P != 0) = true := by rw [bne_iff_ne]; exact hp
   clear hP he0 hp
   go_enter Tryz.func79, Tryz.ntmps79
   go_wp2_with fail
   refine (Escape_any 0 (Txt U) _ hs1 E0.out).mono ?_
   rintro e w1 ⟨rfl, hB1⟩
   rw [HE1.out]
   have hI := isB_kp I0.out ((Kp.refl [] _).below hB1) (by simp)
   have hk : Kb B _ w1 := Kb.of_below hB1 (by rw [hsA]; omega)
   clear hB1 u1;have I1 := Lib.hid hI;have K1 := Lib.hid (K0.out.trans hk);have E1 := Lib.hid (E0.out.belowB hk.below hB7)
   have B1 := Lib.hid (B0.out.kb hk (by decide))
   have hz1 : w.heap.size + 1 ≤ w1.heap.size := by have := hk.below.size; rw [hsA] at this; omega
   have u1 : w1.cell? ⟨w.heap.size, 1, none⟩ = some (.string (Txt U)) := B1.out.cell 1
   have u2 : w1.cell? ⟨w.heap.size, 2, none⟩ = some (.string (Txt H)) := B1.out.cell 2
   have u3 : w1.cell? ⟨w.heap.size, 3, none⟩ = some (.int .i64 P) := B1.out.cell 3
   clear hI hk
   go_wp2_with fail
   refine (wstr B g a e1 _ I1.out (by omega) (by omega) (by omega)).mono ?_
   rintro e w2 ⟨rfl, hI, hk⟩
   clear u1 u2 u3;have I2 := Lib.hid hI;have K2 := Lib.hid (K1.out.trans hk);have E2 := Lib.hid (E1.out.belowB hk.below hB7)
   have B2 := Lib.hid (B1.out.kb hk (by decide))
   have hz2 : w.heap.size + 1 ≤ w2.heap.size := by have := hk.below.size; omega
   have u1 : w2.cell? ⟨w.heap.size, 1, none⟩ = some (.string (Txt U)) := B2.out.cell 1
   have u2 : w2.cell? ⟨w.heap.size, 2, none⟩ = some (.string (Txt H)) := B2.out.cell 2
   have u3 : w2.cell? ⟨w.heap.size, 3, none⟩ = some (.int .i64 P) := B2.out.cell 3
   clear hI hk
   have hla2 : (a ++ e1).length ≤ 16777216 := by simp only [List.length_append, List.length_singleton, List.length_cons, List.length_nil]; omega
   go_wp2_with fail
   refine (wbyt B g (a ++ e1) 64 64 rfl _ I2.out (by omega) (by omega)).mono ?_
   rintro e w3 ⟨rfl, hI, hk⟩
   clear u1 u2 u3;have I3 := Lib.hid hI;have K3 := Lib.hid (K2.out.trans hk);have E3 := Lib.hid (E2.out.belowB hk.below hB7)
   have B3 := Lib.hid (B2.out.kb hk (by decide))
   have hz3 : w.heap.size + 1 ≤ w3.heap.size := by have := hk.below.size; omega
   have u1 : w3.cell? ⟨w.heap.size, 1, none⟩ = some (.string (Txt U)) := B3.out.cell 1
   have u2 : w3.cell? ⟨w.heap.size, 2, none⟩ = some (.string (Txt H)) := B3.out.cell 2
   have u3 : w3.cell? ⟨w.heap.size, 3, none⟩ = some (.int .i64 P) := B3.out.cell 3
   clear hI hk
   have hla3 : (a ++ e1 ++ [64]).length ≤ 16777216 := by simp only [List.length_append, List.length_singleton, List.length_cons, List.length_nil]; omega
   go_wp2_with fail
   refine (wstr B g (a ++ e1 ++ [64]) H _ I3.out (by omega) (by omega) (by omega)).mono ?_
   rintro e w4 ⟨rfl, hI, hk⟩
   clear u1 u2 u3;have I4 := Lib.hid hI;have K4 := Lib.hid (K3.out.trans hk);have E4 := Lib.hid (E3.out.belowB hk.below hB7)
   have B4 := Lib.hid (B3.out.kb hk (by decide))
   have hz4 : w.heap.size + 1 ≤ w4.heap.size := by have := hk.below.size; omega
   have u1 : w4.cell? ⟨w.heap.size, 1, none⟩ = some (.string (Txt U)) := B4.out.cell 1
   have u2 : w4.cell? ⟨w.heap.size, 2, none⟩ = some (.string (Txt H)) := B4.out.cell 2
   have u3 : w4.cell? ⟨w.heap.size, 3, none⟩ = some (.int .i64 P) := B4.out.cell 3
   clear hI hk
   have hla4 : (a ++ e1 ++ [64] ++ H).length ≤ 16777216 := by simp only [List.length_append, List.length_singleton, List.length_cons, List.length_nil]; omega
   go_wp2_with fail
   refine (wbyt B g (a ++ e1 ++ [64] ++ H) 58 58 rfl _ I4.out (by omega) (by omega)).mono ?_
   rintro e w5 ⟨rfl, hI, hk⟩
   clear u1 u2 u3;have I5 := Lib.hid hI;have K5 := Lib.hid (K4.out.trans hk);have E5 := Lib.hid (E4.out.belowB hk.below hB7)
   have B5 := Lib.hid (B4.out.kb hk (by decide))
   have hz5 : w.heap.size + 1 ≤ w5.heap.size := by have := hk.below.size; omega
   have u1 : w5.cell? ⟨w.heap.size, 1, none⟩ = some (.string (Txt U)) := B5.out.cell 1
   have u2 : w5.cell? ⟨w.heap.size, 2, none⟩ = some (.string (Txt H)) := B5.out.cell 2
   have u3 : w5.cell? ⟨w.heap.size, 3, none⟩ = some (.int .i64 P) := B5.out.cell 3
   clear hI hk
   have hla5 : (a ++ e1 ++ [64] ++ H ++ [58]).length ≤ 16777216 := by simp only [List.length_append, List.length_singleton, List.length_cons, List.length_nil]; omega
   go_wp2_with fail
   refine (Tryz.strconv_Itoa P hP8 hP7 _ E5.out.tab).mono ?_
   rintro e w6 ⟨rfl, q, os, hw⟩
   rw [HI.out]
   have hB9 : Below w5.heap.size w5 w6 := by rw [hw]; exact ((Kp.drewN (Kp.refl [] w5) q).trans (kp_grow _ os)).nilBelow
   have hI := isB_kp I5.out ((Kp.refl [] _).below hB9) (by simp)
   have hk : Kb B w5 w6 := Kb.of_below hB9 (by omega)
   clear hB9 hw u1 u2 u3;have I6 := Lib.hid hI;have K6 := Lib.hid (K5.out.trans hk);have E6 := Lib.hid (E5.out.belowB hk.below hB7)
   have B6 := Lib.hid (B5.out.kb hk (by decide))
   have hz6 : w.heap.size + 1 ≤ w6.heap.size := by have := hk.below.size; omega
   have u1 : w6.cell? ⟨w.heap.size, 1, none⟩ = some (.string (Txt U)) := B6.out.cell 1
   have u2 : w6.cell? ⟨w.heap.size, 2, none⟩ = some (.string (Txt H)) := B6.out.cell 2
   have u3 : w6.cell? ⟨w.heap.size, 3, none⟩ = some (.int .i64 P) := B6.out.cell 3
   clear hI hk
   go_wp2_with fail
   refine (wstr B g (a ++ e1 ++ [64] ++ H ++ [58]) dg _ I6.out (by omega) (by omega) (by omega)).mono ?_
   rintro e w7 ⟨rfl, hI, hk⟩
   clear u1 u2 u3;have I7 := Lib.hid hI;have K7 := Lib.hid (K6.out.trans hk);have E7 := Lib.hid (E6.out.belowB hk.below hB7)
   have B7 := Lib.hid (B6.out.kb hk (by decide))
   have hz7 : w.heap.size + 1 ≤ w7.heap.size := by have := hk.below.size; omega
   have u1 : w7.cell? ⟨w.heap.size, 1, none⟩ = some (.string (Txt U)) := B7.out.cell 1
   have u2 : w7.cell? ⟨w.heap.size, 2, none⟩ = some (.string (Txt H)) := B7.out.cell 2
   have u3 : w7.cell? ⟨w.heap.size, 3, none⟩ = some (.int .i64 P) := B7.out.cell 3
   clear hI hk
   go_wp2_with fail
   refine bodyPost_ret (results_none rfl _ _ _) rfl ?_
   rw [HPP.out]
   exact ⟨rfl, by have h := I7.out; simpa using h, K7.out⟩
end Ad
end Go.Proofs.YtbcaindpbeaheaaGreatDoor
namespace Go.Proofs.YtbcaindpbeaheaaGreatDoor
namespace Ad
open Go.RowKit Lx
theorem six_len (l x : List UInt8) (h : six l = some x) : x.length ≤ 84 := by
 cases hc : cut2 l with
 | none =>
   rw [six_plain l hc] at h
   cases hg : grps8 l with
   | none => rw [hg] at h; cases h
   | some y =>
     rw [hg] at h
     dsimp only at h
     split at h
     ·cases h; have := (grps8_len l y hg).2.2; omega
     ·cases h
 | some p =>
   obtain ⟨a, b⟩ := p
   rw [six_gap l a b hc] at h
   cases hg : grps8 a with
   | none => rw [hg] at h; cases h
   | some y =>
     cases hg2 : grps8 b with
     | none => rw [hg, hg2] at h; cases h
     | some z =>
       rw [hg, hg2] at h
       dsimp only at h
       split at h
       ·cases h
        have h1 := (grps8_len a y hg).2.2;have h2 := (grps8_len b z hg2).2.2
        simp only [List.length_append, List.length_cons, List.length_nil]; omega
       ·cases h
theorem hostO_len (l h : List UInt8) (hh : hostO l = some h) : h.length ≤ l.length + 86 := by
 unfold hostO at hh
 split at hh
 ·split at hh
  ·cases hs : six l.tail.dropLast with
   | none => rw [hs] at hh; cases hh
   | some x =>
     rw [hs] at hh
     simp only [Option.map_some, Option.some.injEq] at hh
     subst hh
     have := six_len _ x hs
     simp only [List.length_append, List.length_cons, List.length_nil]; omega
  ·cases hh
 ·split at hh
  ·cases hh; rw [lowL_len]; omega
  ·split at hh
   ·cases hh; omega
   ·cases hh
theorem nmF_sz (cls : Int) : ∀ (l acc r : List Prm), SzP l → SzP acc → nmF cls l acc = some r → SzP r := by
 intro l
 induction l with
 | nil => intro acc r h1 h2 h; rw [nmF] at h; cases h; exact h2
 | cons p t ih =>
   intro acc r h1 h2 h
   rw [nmF] at h
   split at h
   ·refine ih _ _ (fun q hq => h1 q (List.mem_cons_of_mem _ hq)) (fun q hq => ?_) h
    rcases List.mem_append.1 hq with hq | hq
    ·exact h2 q hq
    ·rw [List.mem_singleton] at hq
     subst hq
     have := h1 p (List.mem_cons_self ..)
     dsimp only
     rw [lowL_len]
     exact this
   ·cases h
theorem nmF_le (cls : Int) : ∀ (l acc r : List Prm), acc.length ≤ 16 → nmF cls l acc = some r → r.length ≤ 16 := by
 intro l
 induction l with
 | nil => intro acc r h1 h; rw [nmF] at h; cases h; exact h1
 | cons p t ih =>
   intro acc r h1 h
   rw [nmF] at h
   split at h
   ·rename_i hc
    refine ih _ _ ?_ h
    simp only [Bool.and_eq_true, decide_eq_true_eq] at hc
    have := ((room_iff acc _).1 hc.2).2
    rw [List.length_append, List.length_singleton]; omega
   ·cases h
structure SzN (n : Uri) : Prop where
 scheme : n.scheme.length ≤ 4
 user : n.user.length ≤ 2097152
 host : n.host.length ≤ 2097152
 port0 : 0 ≤ n.port
 port1 : n.port ≤ 65535
 params : n.params.length ≤ 16
 heads : n.heads.length ≤ 16
 ps : SzP n.params
 hs : SzP n.heads
theorem srt_sz (l : List Prm) (h : SzP l) : SzP (srt l) := fun p hp => h p ((srt_perm l).mem_iff.1 hp)
theorem normal_sz (u n : Uri) (hz : SzU u) (hh : u.host.length ≤ 1048576) (h : normal u = some n) : SzN n := by
 obtain ⟨S, U, H, P, ps, hs⟩ := u
 have hps := hz.ps;have hhs := hz.hs;have hU := hz.user
 dsimp only at hh hps hhs hU
 unfold normal at h
 dsimp only at h
 cases hp : nmF 1 ps [] with
 | none => rw [hp] at h; cases h
 | some p =>
   cases hq : nmF 2 hs [] with
   | none => rw [hp, hq] at h; cases h
   | some q =>
     rw [hp, hq] at h
     dsimp only at h
     have e1 := nmF_sz 1 ps [] p hps (fun q hq => by cases hq) hp
     have e2 := nmF_sz 2 hs [] q hhs (fun q hq => by cases hq) hq
     have l1 := nmF_le 1 ps [] p (by simp) hp
     have l2 := nmF_le 2 hs [] q (by simp) hq
     have l1' := (srt_perm p).length_eq;have l2' := (srt_perm q).length_eq
     split at h
     ·rename_i hsch
      have hsl : (lowL S).length ≤ 4 := by rcases hsch with h9 | h9 <;> rw [h9] <;> decide
      cases ho : hostO H with
      | none => rw [ho] at h; cases h
      | some x =>
        rw [ho] at h
        dsimp only at h
        have hx := hostO_len H x ho
        split at h
        ·rename_i hc
         cases h
         exact ⟨hsl, hU, by dsimp only; omega, hc.1, hc.2.1, by dsimp only; omega, by dsimp only; omega, srt_sz _ e1, srt_sz _ e2⟩
        ·cases h
     ·split at h
      ·split at h
       ·cases h
        exact ⟨by show telL.length ≤ 4; decide, hU, by simp, by dsimp only; omega, by dsimp only; omega, by dsimp only; omega, by simp, srt_sz _ e1, fun q hq => by cases hq⟩
       ·cases h
      ·cases h
theorem wrt_snoc (f a : UInt8) (cls : Int) : ∀ (l : List Prm) (j : Nat), j < l.length → wrt f a cls (l.take (j + 1)) = wrt f a cls (l.take j) ++ (if j = 0 then f else a) :: prP cls l[j]! := by
 intro l
 induction l generalizing f with
 | nil => intro j h; simp at h
 | cons p t ih =>
   intro j h
   cases j with
   | zero => simp [wrt]
   | succ j =>
     have hj : j < t.length := by simpa using h
     rw [List.take_succ_cons, List.take_succ_cons, wrt, wrt, ih a j hj]
     have : (if j = 0 then a else a) = a := by split <;> rfl
     simp [this]
theorem wrt_len2 (f a : UInt8) (cls : Int) : ∀ (l : List Prm), SzP l → (wrt f a cls l).length ≤ l.length * 12582914 := by
 intro l
 induction l generalizing f with
 | nil => intro _; simp [wrt]
 | cons p t ih =>
   intro h
   have h1 := h p (List.mem_cons_self ..)
   have h2 := ih a (fun q hq => h q (List.mem_cons_of_mem _ hq))
   have h3 := (escp_len cls p.1).2;have h4 := (escp_len cls p.2.1).2
   have h5 : (prP cls p).length ≤ 12582913 := by
    unfold prP
    split
    ·simp only [List.length_append, List.length_cons]; omega
    ·simp only [List.length_append, List.length_nil]; omega
   rw [wrt, List.length_append, List.length_cons, List.length_cons]; omega
theorem SzP.take {l : List Prm} (h : SzP l) (j : Nat) : SzP (l.take j) := fun p hp => h p (List.mem_of_mem_take hp)
theorem text_eq (n : Uri) (hk : n.scheme = telL → n.heads = []) :
   textU n = n.scheme ++ [58] ++ (if n.scheme = telL then n.user else plcL n.user n.host n.port) ++ wrt 59 59 1 n.params ++ wrt 63 38 2 n.heads := by
 unfold textU
 split
 ·rename_i h
  rw [hk h, h]; simp [wrt, telL]
 ·rename_i h
  unfold plcL; simp
theorem normal_tel (u n : Uri) (h : normal u = some n) : n.scheme = telL → n.heads = [] := by
 intro ht
 have hn := normal_NF u n h
 rcases hn.kind with ⟨hs, _⟩ | ⟨_, _, _, _, hh⟩
 ·rw [ht] at hs; rcases hs with hs | hs <;> exact absurd hs (by decide)
 ·exact hh
def PrP (o : Option (List UInt8)) (w : World) (e : Ending) (w' : World) : Prop :=
 e = .returned (.tuple #[.string (Txt (o.getD [])), .int .u8 (if o.isSome then 0 else 2)]) ∧ Below w.heap.size w w'
theorem plc_len (U H : List UInt8) (P : Int) (h0 : 0 ≤ P) (h1 : P ≤ 65535) : (plcL U H P).length ≤ 3 * U.length + H.length + 7 := by
 have h2 := (escp_len 0 U).2
 have h3 := (decL_spec P.toNat P.toNat (Nat.le_refl _)).2.2.2 5 (by decide) (by omega)
 unfold plcL
 split <;> split <;> simp only [List.length_append, List.length_cons, List.length_nil, List.length_singleton] <;> omega
def mkB (j : Nat) : UInt8 := if j = 0 then 63 else 38
def mk (j : Nat) : Int := (mkB j).toNat
theorem mk_eq (j : Nat) : mk j = (mkB j).toNat := rfl
set_option maxRecDepth 100000 in
set_option maxHeartbeats 4000000 in
theorem Print_any (B : Nat) (v : Value) (u : Uri) (w : World) (hU : UriIn B w v u) (hB : B ≤ w.heap.size) (hz : SzU u) (hzh : u.host.length ≤ 1048576) (E : Env w) :
   Calls Tryz.prog 44 #[v] w (PrP (printO u) w) := by
 have HU := Lib.hid hU
 obtain ⟨vp, vh, rfl, hp, hh⟩ := hU
 obtain ⟨a1, c1, rfl⟩ := hp.form
 obtain ⟨a2, c2, rfl⟩ := hh.form
 obtain ⟨S, U, H, P, ps, hs⟩ := u
 dsimp only at hzh HU ⊢
 have hKA := (Kp.refl [] w).alloc (.cells #[.string (Txt S), .string (Txt U), .string (Txt H), .int .i64 P, .slice a1 ps.length c1, .slice a2 hs.length c2] 54)
 have KA := Lib.hid hKA
 have BA := Lib.hid (Blk.new w 54 #[.string (Txt S), .string (Txt U), .string (Txt H), .int .i64 P, .slice a1 ps.length c1, .slice a2 hs.length c2])
 have EA := E.kp hKA (by simp)
 have hsz := E.sz
 have HN := Lib.hid (Normal_any B (.agg #[.string (Txt S), .string (Txt U), .string (Txt H), .int .i64 P, .slice a1 ps.length c1, .slice a2 hs.length c2]) ⟨S, U, H, P, ps, hs⟩ (w.alloc (.cells #[.string (Txt S), .string (Txt U), .string (Txt H), .int .i64 P, .slice a1 ps.length c1, .slice a2 hs.length c2] 54)) ⟨_, _, rfl, hp.kp hKA hB (by simp), hh.kp hKA hB (by simp)⟩ (by simp; omega) hz EA)
 have EA := Lib.hid EA
 have HPr := Lib.hid (rfl : printO ⟨S, U, H, P, ps, hs⟩ = (normal ⟨S, U, H, P, ps, hs⟩).map textU)
 have k0 := BA.out.cell 0;have k1 := BA.out.cell 1;have k2 := BA.out.cell 2;have k3 := BA.out.cell 3;have k4 := BA.out.cell 4;have k5 := BA.out.cell 5
 have hsA : (w.alloc (.cells #[.string (Txt S), .string (Txt U), .string (Txt H), .int .i64 P, .slice a1 ps.length c1, .slice a2 hs.length c2] 54)).heap.size = w.heap.size + 1 := by simp
 have HSA := Lib.hid hsA
 have HSz := Lib.hid (fun n h => normal_sz ⟨S, U, H, P, ps, hs⟩ n hz hzh h)
 clear hp hh hz E hKA hsA
 go_enter Tryz.func44, Tryz.ntmps44
 go_wp2_with fail
 refine HN.out.mono ?_
 rintro e w1 ⟨v1, rfl, hU1, hB1⟩
 obtain ⟨nn, hn⟩ : ∃ o, normal ⟨S, U, H, P, ps, hs⟩ = o := ⟨_, rfl⟩
 rw [hn] at hU1
 rw [show (if (normal ⟨S, U, H, P, ps, hs⟩).isSome then (0 : Int) else 2) = (if nn.isSome then 0 else 2) from by rw [hn]]
 cases nn with
 | none =>
   simp only [Option.isSome_none, Bool.false_eq_true, if_false]
   obtain ⟨vp1, vh1, rfl, hp1, hh1⟩ := hU1
   obtain ⟨b1, d1, rfl⟩ := hp1.form
   obtain ⟨b2, d2, rfl⟩ := hh1.form
   have HPn := Lib.hid (by show (normal _).map textU = _; rw [hn]; rfl : printO ⟨S, U, H, P, ps, hs⟩ = none)
   have K1 := Lib.hid (KA.out.below hB1);clear hn hp1 hh1 hB1 k0 k1 k2 k3 k4 k5
   go_wp2_with fail
   go_ret2
   rw [HPn.out]
   exact ⟨rfl, (K1.out.alloc _).nilBelow⟩
 | some n =>
   simp only [Option.isSome_some, if_true]
   obtain ⟨vp1, vh1, rfl, hp1, hh1⟩ := hU1
   obtain ⟨b1, d1, rfl⟩ := hp1.form
   obtain ⟨b2, d2, rfl⟩ := hh1.form
   dsimp only [Option.getD_some] at hp1 hh1 ⊢
   have hzn := HSz.out n hn
   have HPn := Lib.hid (by show (normal _).map textU = _; rw [hn]; exact congrArg some (text_eq n (normal_tel _ n hn)) : printO ⟨S, U, H, P, ps, hs⟩ = some (n.scheme ++ [58] ++ (if n.scheme = telL then n.user else plcL n.user n.host n.port) ++ wrt 59 59 1 n.params ++ wrt 63 38 2 n.heads))
   have hs1a := hB1.size
   rw [HSA.out] at hs1a
   have K1 := KA.out.below hB1;have E1 := EA.out.below hB1
   have hKN := (Kp.refl [] w1).alloc (.cells #[.string (Txt n.scheme), .string (Txt n.user), .string (Txt n.host), .int .i64 n.port, .slice b1 n.params.length d1, .slice b2 n.heads.length d2] 54)
   have KN := Lib.hid (K1.trans hKN)
   have NN := Lib.hid (Blk.new w1 54 #[.string (Txt n.scheme), .string (Txt n.user), .string (Txt n.host), .int .i64 n.port, .slice b1 n.params.length d1, .slice b2 n.heads.length d2])
   have PN := Lib.hid (hp1.grow hKN (by intro y hy; cases hy))
   have HN2 := Lib.hid (hh1.grow hKN (by intro y hy; cases hy))
   have EN := Lib.hid (E1.kp hKN (by simp))
   have hsN : (w1.alloc (.cells #[.string (Txt n.scheme), .string (Txt n.user), .string (Txt n.host), .int .i64 n.port, .slice b1 n.params.length d1, .slice b2 n.heads.length d2] 54)).heap.size = w1.heap.size + 1 := by simp
   have HSN := Lib.hid hsN;clear hn hp1 hh1 hB1 K1 E1 hKN hsN k0 k1 k2 k3 k4 k5
   have hb0 := fresh_isB (w1.alloc (.cells #[.string (Txt n.scheme), .string (Txt n.user), .string (Txt n.host), .int .i64 n.port, .slice b1 n.params.length d1, .slice b2 n.heads.length d2] 54))
   have hal := (Below.refl (w1.heap.size + 1) (w1.alloc (.cells #[.string (Txt n.scheme), .string (Txt n.user), .string (Txt n.host), .int .i64 n.port, .slice b1 n.params.length d1, .slice b2 n.heads.length d2] 54))).alloc (by rw [HSN.out]; omega) (.cells #[.pointer none, .slice none 0 0] 74)
   rw [HSN.out] at hb0
   have I2 := Lib.hid hb0
   have N2 := Lib.hid (NN.out.below hal (by omega))
   have PL2 := Lib.hid ((show PmIn (w1.heap.size + 1) _ _ _ from by have h := PN.out; rwa [HSN.out] at h).belowB hal (Nat.le_refl _))
   have HL2 := Lib.hid ((show PmIn (w1.heap.size + 1) _ _ _ from by have h := HN2.out; rwa [HSN.out] at h).belowB hal (Nat.le_refl _))
   have E2 := Lib.hid (EN.out.belowB hal (by omega))
   have L2 := Lib.hid hal
   have hz2 : w1.heap.size + 1 ≤ ((w1.alloc (.cells #[.string (Txt n.scheme), .string (Txt n.user), .string (Txt n.host), .int .i64 n.port, .slice b1 n.params.length d1, .slice b2 n.heads.length d2] 54)).alloc (.cells #[.pointer none, .slice none 0 0] 74)).heap.size := by simp
   have s0 := N2.out.cell 0;have hsc := hzn.scheme;clear hb0 hal
   go_wp2_with fail
   refine (wstr (w1.heap.size + 1) (w1.heap.size + 1) [] n.scheme _ I2.out (by simp) (by omega) hz2).mono ?_
   rintro e w3 ⟨rfl, hI, hk⟩
   rw [List.nil_append] at hI
   clear s0;have I3 := Lib.hid hI;have L3 := Lib.hid (L2.out.trans hk.below)
   have N3 := Lib.hid (N2.out.below hk.below (by omega))
   have PL3 := Lib.hid (PL2.out.belowB hk.below (Nat.le_refl _));have HL3 := Lib.hid (HL2.out.belowB hk.below (Nat.le_refl _))
   have E3 := Lib.hid (E2.out.belowB hk.below (by omega))
   have hz3 : w1.heap.size + 1 ≤ w3.heap.size := by have := hk.below.size; omega
   clear hI hk
   go_wp2_with fail
   refine (wbyt (w1.heap.size + 1) (w1.heap.size + 1) n.scheme 58 58 rfl _ I3.out (by omega) hz3).mono ?_
   rintro e w4 ⟨rfl, hI, hk⟩
   have I4 := Lib.hid hI;have L4 := Lib.hid (L3.out.trans hk.below)
   have N4 := Lib.hid (N3.out.below hk.below (by omega))
   have PL4 := Lib.hid (PL3.out.belowB hk.below (Nat.le_refl _));have HL4 := Lib.hid (HL3.out.belowB hk.below (Nat.le_refl _))
   have E4 := Lib.hid (E3.out.belowB hk.below (by omega))
   have hz4 : w1.heap.size + 1 ≤ w4.heap.size := by have := hk.below.size; omega
   clear hI hk
   have s0 : w4.cell? ⟨w1.heap.size, 0, none⟩ = some (.string (Txt n.scheme)) := N4.out.cell 0
   have s1 : w4.cell? ⟨w1.heap.size, 1, none⟩ = some (.string (Txt n.user)) := N4.out.cell 1
   have s2 : w4.cell? ⟨w1.heap.size, 2, none⟩ = some (.string (Txt n.host)) := N4.out.cell 2
   have s3 : w4.cell? ⟨w1.heap.size, 3, none⟩ = some (.int .i64 n.port) := N4.out.cell 3
   have s4 : w4.cell? ⟨w1.heap.size, 4, none⟩ = some (.slice b1 n.params.length d1) := N4.out.cell 4
   have s5 : w4.cell? ⟨w1.heap.size, 5, none⟩ = some (.slice b2 n.heads.length d2) := N4.out.cell 5
   have eS : (Txt n.scheme).toList = n.scheme := by rw [Lib.toList_data]; rfl
   have hl4 : (n.scheme ++ [58]).length ≤ 5 := by rw [List.length_append, List.length_singleton]; omega
   have hzu := hzn.user;have hzho := hzn.host
   by_cases ht : n.scheme = telL
   ·have bt : ((Txt n.scheme).toList == [116, 101, 108]) = true := by rw [eS, ht]; rfl
    have HT := Lib.hid (if_pos ht : (if n.scheme = telL then n.user else plcL n.user n.host n.port) = n.user)
    clear eS ht
    go_wp2_with fail
    refine (wstr (w1.heap.size + 1) (w1.heap.size + 1) (n.scheme ++ [58]) n.user _ I4.out (by omega) (by omega) hz4).mono ?_
    rintro e w5 ⟨rfl, hI, hk⟩
    clear s0 s1 s2 s3 s4 s5;have I5 := Lib.hid hI;have L5 := Lib.hid (L4.out.trans hk.below)
    have N5 := Lib.hid (N4.out.below hk.below (by omega))
    have PL5 := Lib.hid (PL4.out.belowB hk.below (Nat.le_refl _));have HL5 := Lib.hid (HL4.out.belowB hk.below (Nat.le_refl _))
    have E5 := Lib.hid (E4.out.belowB hk.below (by omega))
    have hz5 : w1.heap.size + 1 ≤ w5.heap.size := by have := hk.below.size; omega
    clear hI hk
    rw [HT.out] at HPn
    have hT0 : (n.scheme ++ [58] ++ n.user).length ≤ 16777216 := by rw [List.length_append]; omega
    obtain ⟨T0, hT⟩ : ∃ x, n.scheme ++ [58] ++ n.user = x := ⟨_, rfl⟩
    rw [hT] at I5 HPn hT0
    clear hT;have hzp := hzn.params;have hzh2 := hzn.heads
    have s4 : w5.cell? ⟨w1.heap.size, 4, none⟩ = some (.slice b1 n.params.length d1) := N5.out.cell 4
    go_wp2_with fail
    go_loopg [8, 35] 20 (fun gg _ i wr => ∃ j : Nat, j ≤ n.params.length ∧ n.params.length - j < gg ∧ i = .int .i64 j ∧ IsB (w1.heap.size + 1) (w1.heap.size + 1) (Lib.byteCells (T0 ++ wrt 59 59 1 (n.params.take j))) wr ∧ Kb (w1.heap.size + 1) w5 wr)
    case atStart => exact ⟨0, by omega, by omega, rfl, by simpa [wrt] using I5.out, Kb.refl _ _⟩
    case round =>
     obtain ⟨j, hj, hg, rfl, hI, hK⟩ := hrel
     have HI := Lib.hid hI;have HK := Lib.hid hK;have hzr := hK.below.size;have hsz3 := hzn.ps
     have Er := Lib.hid (E5.out.belowB (HK.out.below) (by omega))
     have PLr := PL5.out.belowB (HK.out.below) (Nat.le_refl _);have hwl := wrt_len2 59 59 1 (n.params.take j) (hsz3.take j)
     have htl : (n.params.take j).length ≤ 16 := by rw [List.length_take]; omega
     have hla : (T0 ++ wrt 59 59 1 (n.params.take j)).length ≤ 1073741824 := by rw [List.length_append]; omega
     clear hI hK
     by_cases hlt : j < n.params.length
     ·obtain ⟨q1, q2, q3, hq⟩ : ∃ a b c, n.params[j]! = (a, b, c) := ⟨_, _, _, rfl⟩
      have hm : (q1, q2, q3) ∈ n.params := by rw [← hq, getElem!_pos n.params j hlt]; exact List.getElem_mem hlt
      obtain ⟨hq1, hq2⟩ := hsz3 _ hm
      dsimp only at hq1 hq2
      have hsn := wrt_snoc 59 59 1 n.params j hlt
      rw [hq] at hsn
      have HSn := Lib.hid hsn
      have hsome : n.params[j]? = some (q1, q2, q3) := by rw [← hq]; exact getD_some n.params j hlt
      obtain ⟨_, c, rfl, hc, ⟨h0, hv⟩ | ⟨bl, o, hv, hbl, hcell⟩⟩ := PLr
      ·omega
      ·injection hv with hA _ hc2
       subst hA
       have c0 : wr.cell? ⟨bl, o + j * 3, none⟩ = some (.string (Txt q1)) := hcell _ _ (pcl_at n.params j _ hsome 0 _ rfl)
       have c1 : wr.cell? ⟨bl, o + j * 3 + 1, none⟩ = some (.string (Txt q2)) := by rw [Nat.add_assoc]; exact hcell _ _ (pcl_at n.params j _ hsome 1 _ rfl)
       have c2 : wr.cell? ⟨bl, o + j * 3 + 2, none⟩ = some (.bool q3) := by rw [Nat.add_assoc]; exact hcell _ _ (pcl_at n.params j _ hsome 2 _ rfl)
       have hKA := (Kp.refl [] wr).alloc (.cells #[.string (Txt q1), .string (Txt q2), .bool q3] 109)
       have IA := Lib.hid (isB_kp HI.out hKA (by simp))
       have KA := Lib.hid (Kb.alloc wr (.cells #[.string (Txt q1), .string (Txt q2), .bool q3] 109) (B := (w1.heap.size + 1)) (by omega))
       have EA := Lib.hid (Er.out.kp hKA (by simp))
       have BA := Lib.hid (Blk.new wr 109 #[.string (Txt q1), .string (Txt q2), .bool q3])
       have hsA : (w1.heap.size + 1) ≤ (wr.alloc (.cells #[.string (Txt q1), .string (Txt q2), .bool q3] 109)).heap.size := by simp; omega
       clear hcell hc hc2 hq hm hsome hsn hKA
       go_wp2_with fail
       refine (wbyt (w1.heap.size + 1) (w1.heap.size + 1) (T0 ++ wrt 59 59 1 (n.params.take j)) 59 59 rfl _ IA.out (by omega) hsA).mono ?_
       rintro e w6 ⟨rfl, hI6, hk6⟩
       have I6 := Lib.hid hI6;have K6 := Lib.hid (KA.out.trans hk6)
       have B6 := Lib.hid (BA.out.kb hk6 (by decide))
       have E6 := Lib.hid (EA.out.belowB hk6.below (by omega))
       have hz6 : (w1.heap.size + 1) ≤ w6.heap.size := by have := hk6.below.size; omega
       have hlb : (T0 ++ wrt 59 59 1 (n.params.take j) ++ [59]).length ≤ 1073741825 := by rw [List.length_append, List.length_singleton]; omega
       clear c0 c1 c2 hI6 hk6
       have e0 : w6.cell? ⟨wr.heap.size, 0, none⟩ = some (.string (Txt q1)) := B6.out.cell 0
       have e1 : w6.cell? ⟨wr.heap.size, 1, none⟩ = some (.string (Txt q2)) := B6.out.cell 1
       have e2 : w6.cell? ⟨wr.heap.size, 2, none⟩ = some (.bool q3) := B6.out.cell 2
       go_wp2_with fail
       refine (printPair_any 1 (w1.heap.size + 1) (w1.heap.size + 1) (T0 ++ wrt 59 59 1 (n.params.take j) ++ [59]) q1 q2 q3 _ I6.out (by omega) hq1 hq2 hz6 (by omega) E6.out).mono ?_
       rintro e w7 ⟨rfl, hI7, hk7⟩
       have I7 := Lib.hid hI7;have K7 := Lib.hid (K6.out.trans hk7);clear hI7 hk7 e0 e1 e2
       go_wp2_with fail
       go_roundg (n.params.length - j)
       case measure => omega
       case rel => exact ⟨j + 1, by omega, by omega, by go_num, by rw [HSn.out]; have h := I7.out; simpa [ite_self] using h, HK.out.trans K7.out⟩
     ·have hjl : n.params.take j = n.params := List.take_of_length_le (by omega)
      rw [hjl] at HI hla
      have hT1l : (T0 ++ wrt 59 59 1 n.params).length ≤ 268435456 := by have := wrt_len2 59 59 1 n.params hsz3; rw [List.length_append]; omega
      clear hjl hwl htl PLr hsz3
      obtain ⟨T1, hT1⟩ : ∃ x, T0 ++ wrt 59 59 1 n.params = x := ⟨_, rfl⟩
      rw [hT1] at HI HPn hT1l
      clear hla;have HK6 := HK
      have N6 := Lib.hid (N5.out.below HK.out.below (by omega))
      clear HK hT1 s4
      have s5 : wr.cell? ⟨w1.heap.size, 5, none⟩ = some (.slice b2 n.heads.length d2) := N6.out.cell 5
      have HI6 := HI;clear HI
      go_wp2_with fail
      go_loopg [9, 11, 46] 20 (fun gg m _ i wy => ∃ j : Nat, j ≤ n.heads.length ∧ n.heads.length - j < gg ∧ m = .int .u8 (mk j) ∧ i = .int .i64 j ∧ IsB (w1.heap.size + 1) (w1.heap.size + 1) (Lib.byteCells (T1 ++ wrt 63 38 2 (n.heads.take j))) wy ∧ Kb (w1.heap.size + 1) wr wy)
      case atStart => exact ⟨0, by omega, by omega, rfl, rfl, by simpa [wrt] using HI6.out, Kb.refl _ _⟩
      case round =>
       obtain ⟨j, hj, hg, rfl, rfl, hI, hK⟩ := hrel
       have HI := Lib.hid hI;have HK := Lib.hid hK;have hzr := hK.below.size;have hsz3 := hzn.hs
       have Er := Lib.hid (E5.out.belowB ((HK6.out.trans HK.out).below) (by omega))
       have PLr := HL5.out.belowB ((HK6.out.trans HK.out).below) (Nat.le_refl _);have hwl := wrt_len2 63 38 2 (n.heads.take j) (hsz3.take j)
       have htl : (n.heads.take j).length ≤ 16 := by rw [List.length_take]; omega
       have hla : (T1 ++ wrt 63 38 2 (n.heads.take j)).length ≤ 1073741824 := by rw [List.length_append]; omega
       clear hI hK
       by_cases hlt : j < n.heads.length
       ·obtain ⟨q1, q2, q3, hq⟩ : ∃ a b c, n.heads[j]! = (a, b, c) := ⟨_, _, _, rfl⟩
        have hm : (q1, q2, q3) ∈ n.heads := by rw [← hq, getElem!_pos n.heads j hlt]; exact List.getElem_mem hlt
        obtain ⟨hq1, hq2⟩ := hsz3 _ hm
        dsimp only at hq1 hq2
        have hsn := wrt_snoc 63 38 2 n.heads j hlt
        rw [hq] at hsn
        have HSn := Lib.hid hsn
        have hsome : n.heads[j]? = some (q1, q2, q3) := by rw [← hq]; exact getD_some n.heads j hlt
        obtain ⟨_, c, rfl, hc, ⟨h0, hv⟩ | ⟨bl, o, hv, hbl, hcell⟩⟩ := PLr
        ·omega
        ·injection hv with hA _ hc2
         subst hA
         have c0 : wr.cell? ⟨bl, o + j * 3, none⟩ = some (.string (Txt q1)) := hcell _ _ (pcl_at n.heads j _ hsome 0 _ rfl)
         have c1 : wr.cell? ⟨bl, o + j * 3 + 1, none⟩ = some (.string (Txt q2)) := by rw [Nat.add_assoc]; exact hcell _ _ (pcl_at n.heads j _ hsome 1 _ rfl)
         have c2 : wr.cell? ⟨bl, o + j * 3 + 2, none⟩ = some (.bool q3) := by rw [Nat.add_assoc]; exact hcell _ _ (pcl_at n.heads j _ hsome 2 _ rfl)
         have hKA := (Kp.refl [] wr).alloc (.cells #[.string (Txt q1), .string (Txt q2), .bool q3] 109)
         have IA := Lib.hid (isB_kp HI.out hKA (by simp))
         have KA := Lib.hid (Kb.alloc wr (.cells #[.string (Txt q1), .string (Txt q2), .bool q3] 109) (B := (w1.heap.size + 1)) (by omega))
         have EA := Lib.hid (Er.out.kp hKA (by simp))
         have BA := Lib.hid (Blk.new wr 109 #[.string (Txt q1), .string (Txt q2), .bool q3])
         have hsA : (w1.heap.size + 1) ≤ (wr.alloc (.cells #[.string (Txt q1), .string (Txt q2), .bool q3] 109)).heap.size := by simp; omega
         clear hcell hc hc2 hq hm hsome hsn hKA
         go_wp2_with fail
         refine (wbyt (w1.heap.size + 1) (w1.heap.size + 1) (T1 ++ wrt 63 38 2 (n.heads.take j)) (mkB j) (mk j) (mk_eq j) _ IA.out (by omega) hsA).mono ?_
         rintro e w6 ⟨rfl, hI6, hk6⟩
         have I6 := Lib.hid hI6;have K6 := Lib.hid (KA.out.trans hk6)
         have B6 := Lib.hid (BA.out.kb hk6 (by decide))
         have E6 := Lib.hid (EA.out.belowB hk6.below (by omega))
         have hz6 : (w1.heap.size + 1) ≤ w6.heap.size := by have := hk6.below.size; omega
         have hlb : (T1 ++ wrt 63 38 2 (n.heads.take j) ++ [mkB j]).length ≤ 1073741825 := by rw [List.length_append, List.length_singleton]; omega
         clear c0 c1 c2 hI6 hk6
         have e0 : w6.cell? ⟨wr.heap.size, 0, none⟩ = some (.string (Txt q1)) := B6.out.cell 0
         have e1 : w6.cell? ⟨wr.heap.size, 1, none⟩ = some (.string (Txt q2)) := B6.out.cell 1
         have e2 : w6.cell? ⟨wr.heap.size, 2, none⟩ = some (.bool q3) := B6.out.cell 2
         go_wp2_with fail
         refine (printPair_any 2 (w1.heap.size + 1) (w1.heap.size + 1) (T1 ++ wrt 63 38 2 (n.heads.take j) ++ [mkB j]) q1 q2 q3 _ I6.out (by omega) hq1 hq2 hz6 (by omega) E6.out).mono ?_
         rintro e w7 ⟨rfl, hI7, hk7⟩
         have I7 := Lib.hid hI7;have K7 := Lib.hid (K6.out.trans hk7);clear hI7 hk7 e0 e1 e2
         go_wp2_with fail
         go_roundg (n.heads.length - j)
         case measure => omega
         case rel => exact ⟨j + 1, by omega, by omega, rfl, by go_num, by rw [HSn.out]; have h := I7.out; simpa [mkB] using h, HK.out.trans K7.out⟩
       ·have hjl : n.heads.take j = n.heads := List.take_of_length_le (by omega)
        rw [hjl] at HI
        clear hjl hwl htl PLr
        go_wp2_with fail
        refine (string_any (w1.heap.size + 1) (w1.heap.size + 1) _ _ HI.out (by omega)).mono ?_
        rintro e w9 ⟨rfl, hk9, _⟩
        have KF := Lib.hid (KN.out.belowB (((L5.out.trans HK6.out.below).trans HK.out.below).trans hk9.below) (by omega))
        clear hk9
        go_wp2_with fail
        go_ret2
        rw [HPn.out]
        exact ⟨rfl, KF.out.nilBelow⟩
   ·have bt : ((Txt n.scheme).toList == [116, 101, 108]) = false := by rw [eS]; exact beq_eq_false_iff_ne.2 ht
    have HT := Lib.hid (if_neg ht : (if n.scheme = telL then n.user else plcL n.user n.host n.port) = plcL n.user n.host n.port)
    clear eS ht
    go_wp2_with fail
    refine (printPlace_any (w1.heap.size + 1) (w1.heap.size + 1) (n.scheme ++ [58]) n.scheme n.user n.host n.port b1 b2 _ d1 _ d2 _ I4.out (by omega) hzu hzho hzn.port0 hzn.port1 hz4 (by omega) E4.out).mono ?_
    rintro e w5 ⟨rfl, hI, hk⟩
    clear s0 s1 s2 s3 s4 s5;have I5 := Lib.hid hI;have L5 := Lib.hid (L4.out.trans hk.below)
    have N5 := Lib.hid (N4.out.below hk.below (by omega))
    have PL5 := Lib.hid (PL4.out.belowB hk.below (Nat.le_refl _));have HL5 := Lib.hid (HL4.out.belowB hk.below (Nat.le_refl _))
    have E5 := Lib.hid (E4.out.belowB hk.below (by omega))
    have hz5 : w1.heap.size + 1 ≤ w5.heap.size := by have := hk.below.size; omega
    clear hI hk
    rw [HT.out] at HPn
    have hT0 : (n.scheme ++ [58] ++ plcL n.user n.host n.port).length ≤ 16777216 := by
     have h1 := plc_len n.user n.host n.port hzn.port0 hzn.port1
     rw [List.length_append]; omega
    obtain ⟨T0, hT⟩ : ∃ x, n.scheme ++ [58] ++ plcL n.user n.host n.port = x := ⟨_, rfl⟩
    rw [hT] at I5 HPn hT0
    clear hT;have hzp := hzn.params;have hzh2 := hzn.heads
    have s4 : w5.cell? ⟨w1.heap.size, 4, none⟩ = some (.slice b1 n.params.length d1) := N5.out.cell 4
    go_wp2_with fail
    go_loopg [8, 35] 20 (fun gg _ i wr => ∃ j : Nat, j ≤ n.params.length ∧ n.params.length - j < gg ∧ i = .int .i64 j ∧ IsB (w1.heap.size + 1) (w1.heap.size + 1) (Lib.byteCells (T0 ++ wrt 59 59 1 (n.params.take j))) wr ∧ Kb (w1.heap.size + 1) w5 wr)
    case atStart => exact ⟨0, by omega, by omega, rfl, by simpa [wrt] using I5.out, Kb.refl _ _⟩
    case round =>
     obtain ⟨j, hj, hg, rfl, hI, hK⟩ := hrel
     have HI := Lib.hid hI;have HK := Lib.hid hK;have hzr := hK.below.size;have hsz3 := hzn.ps
     have Er := Lib.hid (E5.out.belowB (HK.out.below) (by omega))
     have PLr := PL5.out.belowB (HK.out.below) (Nat.le_refl _);have hwl := wrt_len2 59 59 1 (n.params.take j) (hsz3.take j)
     have htl : (n.params.take j).length ≤ 16 := by rw [List.length_take]; omega
     have hla : (T0 ++ wrt 59 59 1 (n.params.take j)).length ≤ 1073741824 := by rw [List.length_append]; omega
     clear hI hK
     by_cases hlt : j < n.params.length
     ·obtain ⟨q1, q2, q3, hq⟩ : ∃ a b c, n.params[j]! = (a, b, c) := ⟨_, _, _, rfl⟩
      have hm : (q1, q2, q3) ∈ n.params := by rw [← hq, getElem!_pos n.params j hlt]; exact List.getElem_mem hlt
      obtain ⟨hq1, hq2⟩ := hsz3 _ hm
      dsimp only at hq1 hq2
      have hsn := wrt_snoc 59 59 1 n.params j hlt
      rw [hq] at hsn
      have HSn := Lib.hid hsn
      have hsome : n.params[j]? = some (q1, q2, q3) := by rw [← hq]; exact getD_some n.params j hlt
      obtain ⟨_, c, rfl, hc, ⟨h0, hv⟩ | ⟨bl, o, hv, hbl, hcell⟩⟩ := PLr
      ·omega
      ·injection hv with hA _ hc2
       subst hA
       have c0 : wr.cell? ⟨bl, o + j * 3, none⟩ = some (.string (Txt q1)) := hcell _ _ (pcl_at n.params j _ hsome 0 _ rfl)
       have c1 : wr.cell? ⟨bl, o + j * 3 + 1, none⟩ = some (.string (Txt q2)) := by rw [Nat.add_assoc]; exact hcell _ _ (pcl_at n.params j _ hsome 1 _ rfl)
       have c2 : wr.cell? ⟨bl, o + j * 3 + 2, none⟩ = some (.bool q3) := by rw [Nat.add_assoc]; exact hcell _ _ (pcl_at n.params j _ hsome 2 _ rfl)
       have hKA := (Kp.refl [] wr).alloc (.cells #[.string (Txt q1), .string (Txt q2), .bool q3] 109)
       have IA := Lib.hid (isB_kp HI.out hKA (by simp))
       have KA := Lib.hid (Kb.alloc wr (.cells #[.string (Txt q1), .string (Txt q2), .bool q3] 109) (B := (w1.heap.size + 1)) (by omega))
       have EA := Lib.hid (Er.out.kp hKA (by simp))
       have BA := Lib.hid (Blk.new wr 109 #[.string (Txt q1), .string (Txt q2), .bool q3])
       have hsA : (w1.heap.size + 1) ≤ (wr.alloc (.cells #[.string (Txt q1), .string (Txt q2), .bool q3] 109)).heap.size := by simp; omega
       clear hcell hc hc2 hq hm hsome hsn hKA
       go_wp2_with fail
       refine (wbyt (w1.heap.size + 1) (w1.heap.size + 1) (T0 ++ wrt 59 59 1 (n.params.take j)) 59 59 rfl _ IA.out (by omega) hsA).mono ?_
       rintro e w6 ⟨rfl, hI6, hk6⟩
       have I6 := Lib.hid hI6;have K6 := Lib.hid (KA.out.trans hk6)
       have B6 := Lib.hid (BA.out.kb hk6 (by decide))
       have E6 := Lib.hid (EA.out.belowB hk6.below (by omega))
       have hz6 : (w1.heap.size + 1) ≤ w6.heap.size := by have := hk6.below.size; omega
       have hlb : (T0 ++ wrt 59 59 1 (n.params.take j) ++ [59]).length ≤ 1073741825 := by rw [List.length_append, List.length_singleton]; omega
       clear c0 c1 c2 hI6 hk6
       have e0 : w6.cell? ⟨wr.heap.size, 0, none⟩ = some (.string (Txt q1)) := B6.out.cell 0
       have e1 : w6.cell? ⟨wr.heap.size, 1, none⟩ = some (.string (Txt q2)) := B6.out.cell 1
       have e2 : w6.cell? ⟨wr.heap.size, 2, none⟩ = some (.bool q3) := B6.out.cell 2
       go_wp2_with fail
       refine (printPair_any 1 (w1.heap.size + 1) (w1.heap.size + 1) (T0 ++ wrt 59 59 1 (n.params.take j) ++ [59]) q1 q2 q3 _ I6.out (by omega) hq1 hq2 hz6 (by omega) E6.out).mono ?_
       rintro e w7 ⟨rfl, hI7, hk7⟩
       have I7 := Lib.hid hI7;have K7 := Lib.hid (K6.out.trans hk7);clear hI7 hk7 e0 e1 e2
       go_wp2_with fail
       go_roundg (n.params.length - j)
       case measure => omega
       case rel => exact ⟨j + 1, by omega, by omega, by go_num, by rw [HSn.out]; have h := I7.out; simpa [ite_self] using h, HK.out.trans K7.out⟩
     ·have hjl : n.params.take j = n.params := List.take_of_length_le (by omega)
      rw [hjl] at HI hla
      have hT1l : (T0 ++ wrt 59 59 1 n.params).length ≤ 268435456 := by have := wrt_len2 59 59 1 n.params hsz3; rw [List.length_append]; omega
      clear hjl hwl htl PLr hsz3
      obtain ⟨T1, hT1⟩ : ∃ x, T0 ++ wrt 59 59 1 n.params = x := ⟨_, rfl⟩
      rw [hT1] at HI HPn hT1l
      clear hla;have HK6 := HK
      have N6 := Lib.hid (N5.out.below HK.out.below (by omega))
      clear HK hT1 s4
      have s5 : wr.cell? ⟨w1.heap.size, 5, none⟩ = some (.slice b2 n.heads.length d2) := N6.out.cell 5
      have HI6 := HI;clear HI
      go_wp2_with fail
      go_loopg [9, 11, 46] 20 (fun gg m _ i wy => ∃ j : Nat, j ≤ n.heads.length ∧ n.heads.length - j < gg ∧ m = .int .u8 (mk j) ∧ i = .int .i64 j ∧ IsB (w1.heap.size + 1) (w1.heap.size + 1) (Lib.byteCells (T1 ++ wrt 63 38 2 (n.heads.take j))) wy ∧ Kb (w1.heap.size + 1) wr wy)
      case atStart => exact ⟨0, by omega, by omega, rfl, rfl, by simpa [wrt] using HI6.out, Kb.refl _ _⟩
      case round =>
       obtain ⟨j, hj, hg, rfl, rfl, hI, hK⟩ := hrel
       have HI := Lib.hid hI;have HK := Lib.hid hK;have hzr := hK.below.size;have hsz3 := hzn.hs
       have Er := Lib.hid (E5.out.belowB ((HK6.out.trans HK.out).below) (by omega))
       have PLr := HL5.out.belowB ((HK6.out.trans HK.out).below) (Nat.le_refl _);have hwl := wrt_len2 63 38 2 (n.heads.take j) (hsz3.take j)
       have htl : (n.heads.take j).length ≤ 16 := by rw [List.length_take]; omega
       have hla : (T1 ++ wrt 63 38 2 (n.heads.take j)).length ≤ 1073741824 := by rw [List.length_append]; omega
       clear hI hK
       by_cases hlt : j < n.heads.length
       ·obtain ⟨q1, q2, q3, hq⟩ : ∃ a b c, n.heads[j]! = (a, b, c) := ⟨_, _, _, rfl⟩
        have hm : (q1, q2, q3) ∈ n.heads := by rw [← hq, getElem!_pos n.heads j hlt]; exact List.getElem_mem hlt
        obtain ⟨hq1, hq2⟩ := hsz3 _ hm
        dsimp only at hq1 hq2
        have hsn := wrt_snoc 63 38 2 n.heads j hlt
        rw [hq] at hsn
        have HSn := Lib.hid hsn
        have hsome : n.heads[j]? = some (q1, q2, q3) := by rw [← hq]; exact getD_some n.heads j hlt
        obtain ⟨_, c, rfl, hc, ⟨h0, hv⟩ | ⟨bl, o, hv, hbl, hcell⟩⟩ := PLr
        ·omega
        ·injection hv with hA _ hc2
         subst hA
         have c0 : wr.cell? ⟨bl, o + j * 3, none⟩ = some (.string (Txt q1)) := hcell _ _ (pcl_at n.heads j _ hsome 0 _ rfl)
         have c1 : wr.cell? ⟨bl, o + j * 3 + 1, none⟩ = some (.string (Txt q2)) := by rw [Nat.add_assoc]; exact hcell _ _ (pcl_at n.heads j _ hsome 1 _ rfl)
         have c2 : wr.cell? ⟨bl, o + j * 3 + 2, none⟩ = some (.bool q3) := by rw [Nat.add_assoc]; exact hcell _ _ (pcl_at n.heads j _ hsome 2 _ rfl)
         have hKA := (Kp.refl [] wr).alloc (.cells #[.string (Txt q1), .string (Txt q2), .bool q3] 109)
         have IA := Lib.hid (isB_kp HI.out hKA (by simp))
         have KA := Lib.hid (Kb.alloc wr (.cells #[.string (Txt q1), .string (Txt q2), .bool q3] 109) (B := (w1.heap.size + 1)) (by omega))
         have EA := Lib.hid (Er.out.kp hKA (by simp))
         have BA := Lib.hid (Blk.new wr 109 #[.string (Txt q1), .string (Txt q2), .bool q3])
         have hsA : (w1.heap.size + 1) ≤ (wr.alloc (.cells #[.string (Txt q1), .string (Txt q2), .bool q3] 109)).heap.size := by simp; omega
         clear hcell hc hc2 hq hm hsome hsn hKA
         go_wp2_with fail
         refine (wbyt (w1.heap.size + 1) (w1.heap.size + 1) (T1 ++ wrt 63 38 2 (n.heads.take j)) (mkB j) (mk j) (mk_eq j) _ IA.out (by omega) hsA).mono ?_
         rintro e w6 ⟨rfl, hI6, hk6⟩
         have I6 := Lib.hid hI6;have K6 := Lib.hid (KA.out.trans hk6)
         have B6 := Lib.hid (BA.out.kb hk6 (by decide))
         have E6 := Lib.hid (EA.out.belowB hk6.below (by omega))
         have hz6 : (w1.heap.size + 1) ≤ w6.heap.size := by have := hk6.below.size; omega
         have hlb : (T1 ++ wrt 63 38 2 (n.heads.take j) ++ [mkB j]).length ≤ 1073741825 := by rw [List.length_append, List.length_singleton]; omega
         clear c0 c1 c2 hI6 hk6
         have e0 : w6.cell? ⟨wr.heap.size, 0, none⟩ = some (.string (Txt q1)) := B6.out.cell 0
         have e1 : w6.cell? ⟨wr.heap.size, 1, none⟩ = some (.string (Txt q2)) := B6.out.cell 1
         have e2 : w6.cell? ⟨wr.heap.size, 2, none⟩ = some (.bool q3) := B6.out.cell 2
         go_wp2_with fail
         refine (printPair_any 2 (w1.heap.size + 1) (w1.heap.size + 1) (T1 ++ wrt 63 38 2 (n.heads.take j) ++ [mkB j]) q1 q2 q3 _ I6.out (by omega) hq1 hq2 hz6 (by omega) E6.out).mono ?_
         rintro e w7 ⟨rfl, hI7, hk7⟩
         have I7 := Lib.hid hI7;have K7 := Lib.hid (K6.out.trans hk7);clear hI7 hk7 e0 e1 e2
         go_wp2_with fail
         go_roundg (n.heads.length - j)
         case measure => omega
         case rel => exact ⟨j + 1, by omega, by omega, rfl, by go_num, by rw [HSn.out]; have h := I7.out; simpa [mkB] using h, HK.out.trans K7.out⟩
       ·have hjl : n.heads.take j = n.heads := List.take_of_length_le (by omega)
        rw [hjl] at HI
        clear hjl hwl htl PLr
        go_wp2_with fail
        refine (string_any (w1.heap.size + 1) (w1.heap.size + 1) _ _ HI.out (by omega)).mono ?_
        rintro e w9 ⟨rfl, hk9, _⟩
        have KF := Lib.hid (KN.out.belowB (((L5.out.trans HK6.out.below).trans HK.out.below).trans hk9.below) (by omega))
        clear hk9
        go_wp2_with fail
        go_ret2
        rw [HPn.out]
        exact ⟨rfl, KF.out.nilBelow⟩
end Ad
end Go.Proofs.YtbcaindpbeaheaaGreatDoor
namespace Go.Proofs.YtbcaindpbeaheaaGreatDoor
namespace Ad
open Go.RowKit Lx
def qnR (l : List UInt8) (k : Nat) : List UInt8 × Nat × Int :=
 if uqE l k ≠ 0 then ([], (uqN l k).toNat, uqE l k)
 else if atB l (blkE l (uqN l k).toNat) ≠ 60 then ([], blkE l (uqN l k).toNat, 5)
 else (uqT l k, blkE l (uqN l k).toNat, 0)
set_option maxRecDepth 100000 in
set_option maxHeartbeats 1000000 in
theorem quoted_k (b k : Nat) (s : ByteArray) (w : World) (hs : s.size ≤ 2097152) (hk : k ≤ s.size) (C : Cur b s k w) (h34 : atB s.data.toList k = 34) :
   Calls Tryz.prog 128 #[.pointer (some ⟨b, 0, none⟩)] w (CuW b s (qnR s.data.toList k).2.1 (qnR s.data.toList k).1 (qnR s.data.toList k).2.2 w) := by
 have hn := (uq34 _ _ h34).1
 obtain ⟨n, hn'⟩ : ∃ n, (uqR s.data.toList k).1 = n := ⟨_, rfl⟩
 rw [hn'] at hn
 have HN := Lib.hid hn
 obtain ⟨x, hx⟩ : ∃ x, uqE s.data.toList k = x := ⟨_, rfl⟩
 have HX := Lib.hid hx
 have hnb : x = 0 → n ≤ s.size := by
  intro h0
  have h9 : valR s.data.toList k = (uqT s.data.toList k, (uqN s.data.toList k).toNat, uqE s.data.toList k) := by unfold valR; rw [if_pos h34]
  have := val_ok s k hk (by rw [h9]; exact hx.trans h0)
  rw [h9] at this
  dsimp only at this
  rw [hn, Int.toNat_natCast] at this
  exact this.2
 have hV : qnR s.data.toList k = if x ≠ 0 then ([], n, x) else if atB s.data.toList (blkE s.data.toList n) ≠ 60 then ([], blkE s.data.toList n, 5) else (uqT s.data.toList k, blkE s.data.toList n, 0) := by
  unfold qnR; rw [hx, hn, Int.toNat_natCast]
 have c0 := C.c0;have c1 := C.c1;have HC1 := Lib.hid C;have hbw := C.lt;clear hn hn' C h34 hx
 by_cases hx0 : x = 0
 ·have hns := hnb hx0
  subst hx0
  obtain ⟨m, hm⟩ : ∃ m, blkE s.data.toList n = m := ⟨_, rfl⟩
  obtain ⟨m1, m2⟩ := blkE_bd s n hns
  rw [hm] at m1 m2 hV
  have HM := Lib.hid hm
  have hV1 := hV.trans (by rw [if_neg (by decide)])
  clear hV hm hnb
  by_cases h60 : atB s.data.toList m = 60
  ·have HV := Lib.hid (hV1.trans (by rw [if_neg (by rw [h60]; decide)]))
   have t60 : (nxt s.data.toList m != 60) = false := by rw [bne, nxt_eq _ _ _ (by decide) (by decide), h60]; rfl
   have T60 := Lib.hid t60;clear hV1 h60 t60
   go_enter Tryz.func128, Tryz.ntmps128
   go_wp2_with fail
   go_region_held3 (fun w' => w'.cell? ⟨b, 0, none⟩ = some (.string s) ∧ w'.cell? ⟨b, 1, none⟩ = some (.int .i64 k)) (go_keep)
    ((go_at_call 166; refine (Lx.unquote_any s k _ (by omega)).mono ?_; rintro e w2 ⟨rfl, hB⟩; have C2 : Cur b s k w2 := Cur.below (Cur.drewN HC1.out _) hB; have d0 := C2.c0; have d1 := C2.c1))
   have K2 : Kp [b] w w2 := Kp.below (Kp.drewN (Kp.refl [b] w) _) hB
   have c1' := C2.c1;have f1' := C2.f1;have HC2 := Lib.hid C2;clear C2 d0 d1 c0 c1
   rw [HN.out, HX.out]
   have C3 := Lib.hid (HC2.out.set n)
   have K3 := Lib.hid (K2.setCell (p := ⟨b, 1, none⟩) (.inl (by simp)) (.int .i64 n))
   go_wp2_with fail
   refine (blanks_k b n s _ hs hns C3.out).mono ?_
   rintro e w4 ⟨rfl, C4, hK4⟩
   rw [HM.out] at C4
   have HC4 := Lib.hid C4;have K4 := Lib.hid (K3.out.trans hK4);clear C4
   go_wp2_with fail
   refine (next_k b m s _ hs m2 HC4.out).mono ?_
   rintro e w5 ⟨rfl, C5, hK5⟩
   have t60 := T60.out;have HC5 := Lib.hid C5;clear C5
   go_wp2_with fail
   go_ret2
   rw [HV.out]
   exact ⟨rfl, HC5.out, K4.out.trans hK5⟩
  ·have HV := Lib.hid (hV1.trans (by rw [if_pos h60]))
   have t60 : (nxt s.data.toList m != 60) = true := by rw [bne, nxt_eq _ _ _ (by decide) (by decide), beq_eq_false_iff_ne.2 h60]; rfl
   have T60 := Lib.hid t60;clear hV1 h60 t60
   go_enter Tryz.func128, Tryz.ntmps128
   go_wp2_with fail
   go_region_held3 (fun w' => w'.cell? ⟨b, 0, none⟩ = some (.string s) ∧ w'.cell? ⟨b, 1, none⟩ = some (.int .i64 k)) (go_keep)
    ((go_at_call 166; refine (Lx.unquote_any s k _ (by omega)).mono ?_; rintro e w2 ⟨rfl, hB⟩; have C2 : Cur b s k w2 := Cur.below (Cur.drewN HC1.out _) hB; have d0 := C2.c0; have d1 := C2.c1))
   have K2 : Kp [b] w w2 := Kp.below (Kp.drewN (Kp.refl [b] w) _) hB
   have c1' := C2.c1;have f1' := C2.f1;have HC2 := Lib.hid C2;clear C2 d0 d1 c0 c1
   rw [HN.out, HX.out]
   have C3 := Lib.hid (HC2.out.set n)
   have K3 := Lib.hid (K2.setCell (p := ⟨b, 1, none⟩) (.inl (by simp)) (.int .i64 n))
   go_wp2_with fail
   refine (blanks_k b n s _ hs hns C3.out).mono ?_
   rintro e w4 ⟨rfl, C4, hK4⟩
   rw [HM.out] at C4
   have HC4 := Lib.hid C4;have K4 := Lib.hid (K3.out.trans hK4);clear C4
   go_wp2_with fail
   refine (next_k b m s _ hs m2 HC4.out).mono ?_
   rintro e w5 ⟨rfl, C5, hK5⟩
   have t60 := T60.out;have HC5 := Lib.hid C5;clear C5
   go_wp2_with fail
   go_ret2
   rw [HV.out]
   exact ⟨rfl, HC5.out, K4.out.trans hK5⟩
 ·have bx : (x != 0) = true := by rw [bne_iff_ne]; exact hx0
  have HV := Lib.hid (hV.trans (by rw [if_pos hx0]))
  clear hV hx0 hnb
  go_enter Tryz.func128, Tryz.ntmps128
  go_wp2_with fail
  go_region_held3 (fun w' => w'.cell? ⟨b, 0, none⟩ = some (.string s) ∧ w'.cell? ⟨b, 1, none⟩ = some (.int .i64 k)) (go_keep)
   ((go_at_call 166; refine (Lx.unquote_any s k _ (by omega)).mono ?_; rintro e w2 ⟨rfl, hB⟩; have C2 : Cur b s k w2 := Cur.below (Cur.drewN HC1.out _) hB; have d0 := C2.c0; have d1 := C2.c1))
  have K2 : Kp [b] w w2 := Kp.below (Kp.drewN (Kp.refl [b] w) _) hB
  have c1' := C2.c1;have f1' := C2.f1;have HC2 := Lib.hid C2;clear C2 d0 d1 c0 c1
  rw [HN.out, HX.out]
  go_wp2_with fail
  go_ret2
  rw [HV.out]
  exact ⟨rfl, HC2.out.set n, K2.setCell (p := ⟨b, 1, none⟩) (.inl (by simp)) _⟩
end Ad
end Go.Proofs.YtbcaindpbeaheaaGreatDoor
namespace Go.Proofs.YtbcaindpbeaheaaGreatDoor
namespace Ad
open Go.RowKit Lx
theorem infoStr : (Tryz.prog.info? 9).map (fun i => (i.zero, i.size, i.bytes)) = some (some (.string .empty), 1, 16) := by kernel_rfl
def tkc (xs : List (List UInt8)) : List Value := xs.map fun x => .string (Txt x)
theorem own_kp1 {w w' : World} {B : Nat} {v : Value} {n : Nat} {xs : List Value} {X : List Nat} (h : w.ownsRow B 9 1 v n xs) (k : Kp X w w') (hX : ∀ x ∈ X, x < B) : w'.ownsRow B 9 1 v n xs := own_kp h k hX
theorem StIn.of_own {w : World} {B : Nat} {v : Value} {xs : List (List UInt8)} (h : w.ownsRow B 9 1 v xs.length (tkc xs)) : StIn w v xs := by
 rcases h.2 with ⟨rfl, hz⟩ | ⟨g, cap, cur, rfl, hb, hg, hnc, rest⟩
 ·have : xs = [] := List.eq_nil_of_length_eq_zero hz
  subst this; exact .inl ⟨rfl, none, 0, rfl⟩
 ·by_cases he : xs = []
  ·subst he; exact .inl ⟨rfl, _, cap, rfl⟩
  ·refine .inr ⟨he, g, cap, rfl, hnc, lt_of_some hg, ?_⟩
   intro j x hx
   have := h.cells (g := g) rfl j (.string (Txt x)) (by simp [tkc, hx])
   by_cases hj : j = 0
   ·subst hj; simpa [Addr.add, Txt] using this
   ·simpa [Addr.add, hj, Txt] using this
theorem tksF_end (n : Nat) (l : List UInt8) (k te : Nat) (acc : List (List UInt8)) (h : te ≤ k) : tksF (n + 1) l k te acc = (acc, k, 0) := by rw [tksF, if_pos h]
theorem tksF_bad (n : Nat) (l : List UInt8) (k te : Nat) (acc : List (List UInt8)) (h : k < te) (h2 : tokE l k = k) : tksF (n + 1) l k te acc = ([], k, 5) := by rw [tksF, if_neg (by omega), if_pos h2]
theorem tksF_step (n : Nat) (l : List UInt8) (k te : Nat) (acc : List (List UInt8)) (h : k < te) (h2 : tokE l k ≠ k) : tksF (n + 1) l k te acc = tksF n l (blkE l (tokE l k)) te (acc ++ [slc l k (tokE l k)]) := by rw [tksF, if_neg (by omega), if_neg h2]
theorem joinL_acc (c : UInt8) (xs : List (List UInt8)) (m : Nat) (h : (xs.map List.length).sum ≤ m) : (joinL c xs).length ≤ m + xs.length := by
 induction xs generalizing m with
 | nil => simp [joinL]
 | cons a t ih =>
   cases t with
   | nil => simp [joinL] at h ⊢; omega
   | cons b r =>
     have h2 := ih (m - a.length) (by simp at h ⊢; omega)
     simp only [joinL, List.length_append, List.length_cons] at h2 ⊢
     simp at h
     omega
def tnR (l : List UInt8) (k te : Nat) : List UInt8 × Nat × Int := (joinL 32 (tksF (l.length + 1) l k te []).1, (tksF (l.length + 1) l k te []).2)
set_option maxRecDepth 100000 in
set_option maxHeartbeats 2000000 in
theorem tokenName_k (b k te : Nat) (s : ByteArray) (w : World) (hs : s.size ≤ 2097152) (hk : k ≤ s.size) (hte : te ≤ s.size) (C : Cur b s k w) :
   Calls Tryz.prog 129 #[.pointer (some ⟨b, 0, none⟩), .int .i64 te] w (CuW b s (tnR s.data.toList k te).2.1 (tnR s.data.toList k te).1 (tnR s.data.toList k te).2.2 w) := by
 have hbw := C.lt;have HC := Lib.hid C
 obtain ⟨R, hR⟩ : ∃ R, tksF (s.data.toList.length + 1) s.data.toList k te [] = R := ⟨_, rfl⟩
 have HR := Lib.hid hR
 have HV := Lib.hid (by unfold tnR; rw [hR] : tnR s.data.toList k te = (joinL 32 R.1, R.2))
 obtain ⟨i0, hi, hz0, hz1, hz2⟩ := info_parts infoStr
 rw [HV.out]
 clear hR C
 go_enter Tryz.func129, Tryz.ntmps129
 go_wp2_with fail
 go_loopg [6, 7] (s.size + 1) (fun gg v _ wr => ∃ (j n : Nat) (acc : List (List UInt8)), j ≤ s.size ∧ s.size - j < n ∧ s.size - j < gg ∧ Cur b s j wr ∧ tksF n s.data.toList j te acc = R ∧ wr.ownsRow w.heap.size 9 1 v acc.length (tkc acc) ∧ acc.length ≤ j ∧ (acc.map List.length).sum ≤ j ∧ Kp [b] w wr)
 case atStart => exact ⟨k, s.data.toList.length + 1, [], hk, by rw [len_list]; omega, by omega, HC.out, HR.out, World.ownsRow_nil _ _ _ _, by simp, by simp, Kp.refl _ _⟩
 case round =>
  obtain ⟨j, n, acc, hj, hn, hg, hC, hr, hown, hal, hsum, hK⟩ := hrel
  have Hr := Lib.hid hr;have Ho := Lib.hid hown;have hsz := hK.size;have c1 := hC.c1;have HCj := Lib.hid hC;clear hr hown hC
  obtain ⟨n, rfl⟩ : ∃ m, n = m + 1 := ⟨n - 1, by omega⟩
  by_cases hlt : j < te
  ·obtain ⟨m, hm⟩ : ∃ m, tokE s.data.toList j = m := ⟨_, rfl⟩
   obtain ⟨m1, m2⟩ := tokE_bd s j hj
   rw [hm] at m1 m2
   have HM := Lib.hid hm
   by_cases hz : m = j
   ·have HX := Lib.hid (Hr.out.symm.trans (tksF_bad n s.data.toList j te acc hlt (hm.trans hz)))
    have hemp : Txt (slc s.data.toList j m) = ⟨#[]⟩ := by rw [slc_nil _ _ _ (by omega)]; rfl
    have HP := Lib.hid hemp;have HZ := Lib.hid hz;clear hm hz hemp
    go_wp2_with fail
    refine (token_k b j s _ hs hj HCj.out).mono ?_
    rintro e w2 ⟨rfl, C2, hK2⟩
    rw [HM.out, HP.out]
    rw [HM.out] at C2
    have HC2 := Lib.hid C2;clear C2
    go_wp2_with fail
    go_ret2
    rw [HX.out]
    exact ⟨rfl, by have h := HC2.out; rw [HZ.out] at h; exact h, hK.trans hK2⟩
   ·have HX := Lib.hid (Hr.out.symm.trans ((tksF_step n s.data.toList j te acc hlt (by rw [hm]; exact hz)).trans (by rw [hm])))
    have hsl : (slc s.data.toList j m).length = m - j := slc_len _ _ _ (by rw [len_list]; exact m2)
    obtain ⟨x, hx⟩ : ∃ x, slc s.data.toList j m = x := ⟨_, rfl⟩
    rw [hx] at hsl HX
    have HXx := Lib.hid hx
    have hxl : 1 ≤ (Txt x).size := by rw [txt_size]; omega
    have hie := isEmpty_no _ hxl;have hne := toList_ne _ hxl
    obtain ⟨q, hq⟩ : ∃ q, blkE s.data.toList m = q := ⟨_, rfl⟩
    obtain ⟨q1, q2⟩ := blkE_bd s m m2
    rw [hq] at q1 q2 HX
    have HQ := Lib.hid hq
    have hmj : j < m := by omega
    clear hm hz hx hq
    go_wp2_with fail
    refine (token_k b j s _ hs hj HCj.out).mono ?_
    rintro e w2 ⟨rfl, C2, hK2⟩
    rw [HM.out, HXx.out]
    rw [HM.out] at C2
    have HC2 := Lib.hid C2;have K2 := hK.trans hK2
    have O2 := Lib.hid (own_kp1 Ho.out hK2 (by simp; omega))
    have hs2 := hK2.size
    have hA := (Kp.refl [] w2).alloc (.cells #[.string (Txt x)] 9)
    clear C2
    go_wp2_with (at_builtin; refine wpList_append_own _ rfl _ _ 32 rfl w.heap.size 9 i0 (.string .empty) 1 16 Tryz.underlying32 hi hz0 hz1 hz2 rfl (by decide) _ _ _ rfl (O2.out.alloc _) ⟨w2.heap.size, 0, none⟩ 1 1 [.string (Txt x)] rfl rfl ?c2 (by simp [Value.oneCell']) ?c3 ?c4 ?c5 ?_)
    case c2 =>
     intro i u hu
     match i, hu with
     | 0, hu => simp at hu; subst hu; simp [Addr.add]
    case c3 => unfold maxLen; omega
    case c4 => omega
    case c5 => simp; omega
    intro v' w7 hown' hgrow _
    have K7 := Lib.hid ((K2.alloc (.cells #[.string (Txt x)] 9)).grown hgrow (fun g hg => .inr (O2.out.lt g hg).1))
    have hC7 : Cur b s m w7 := by
     have h1 := HC2.out.alloc (.cells #[.string (Txt x)] 9)
     exact (hgrow.block b h1.lt (fun e => by have := (O2.out.lt b e.symm).1; omega)).trans h1
    have HC7 := Lib.hid hC7
    have HO7 := Lib.hid (by simpa [tkc] using hown' : w7.ownsRow w.heap.size 9 1 v' (acc ++ [x]).length (tkc (acc ++ [x])))
    clear hown' hgrow hC7 hA
    go_wp2_with fail
    refine (blanks_k b m s _ hs m2 HC7.out).mono ?_
    rintro e w8 ⟨rfl, C8, hK8⟩
    rw [HQ.out] at C8
    have HC8 := Lib.hid C8
    have O8 := Lib.hid (own_kp1 HO7.out hK8 (by simp; omega))
    have K8 := Lib.hid (K7.out.trans hK8);clear C8
    go_wp2_with fail
    go_roundg (s.size - q + 1)
    case measure => omega
    case rel => exact ⟨q, n, acc ++ [x], q2, by omega, by omega, HC8.out, HX.out.symm, O8.out, by simp; omega, by simp; omega, K8.out⟩
  ·have HX := Lib.hid (Hr.out.symm.trans (tksF_end n s.data.toList j te acc (by omega)))
   have hjl := joinL_acc 32 acc j hsum
   go_wp2_with fail
   refine (join_any 32 _ acc _ (StIn.of_own Ho.out) (by omega) (by omega)).mono ?_
   rintro e w4 ⟨rfl, hB4⟩
   have HC4 := Lib.hid (HCj.out.below hB4);have K4 := Lib.hid (hK.below hB4);clear hB4
   go_wp2_with fail
   go_ret2
   rw [HX.out]
   exact ⟨rfl, HC4.out, K4.out⟩
end Ad
end Go.Proofs.YtbcaindpbeaheaaGreatDoor
namespace Go.Proofs.YtbcaindpbeaheaaGreatDoor
namespace Ad
open Go.RowKit Lx
abbrev zA : Array Value := #[.string ⟨#[]⟩, .string ⟨#[]⟩, .string ⟨#[]⟩, .string ⟨#[]⟩, .int .i64 0, .slice none 0 0, .slice none 0 0, .slice none 0 0]
def Zab (w : World) (g : Nat) : Prop := Blk w g 56 #[.string ⟨#[]⟩, .string ⟨#[]⟩, .string ⟨#[]⟩, .string ⟨#[]⟩, .int .i64 0, .slice none 0 0, .slice none 0 0, .slice none 0 0]
theorem Zab.nob {w : World} {g : Nat} (h : Zab w g) : NoB w g := by
 intro i t hc
 rw [Blk.cell h i] at hc
 match i, hc with
 | 0, hc => simp at hc
 | 1, hc => simp at hc
 | 2, hc => simp at hc
 | 3, hc => simp at hc
 | 4, hc => simp at hc
 | 5, hc => simp at hc
 | 6, hc => simp at hc
 | 7, hc => simp at hc
 | i + 8, hc => simp at hc
def AdIn (B : Nat) (w : World) (v : Value) (a : Adr) : Prop :=
 ∃ vp vh vq, v = .agg #[.string (Txt a.display), .string (Txt a.uri.scheme), .string (Txt a.uri.user), .string (Txt a.uri.host), .int .i64 a.uri.port, vp, vh, vq] ∧ PmIn B w vp a.uri.params ∧ PmIn B w vh a.uri.heads ∧ PmIn B w vq a.params
theorem blk8 {w : World} {g : Nat} {c0 c1 c2 c3 c4 c5 c6 c7 : Value} (h : Blk w g 56 #[c0, c1, c2, c3, c4, c5, c6, c7]) (x0 x1 x2 x3 x4 x5 x6 x7 : Value) :
   Blk ((((((((w.setCell ⟨g, 0, none⟩ x0).setCell ⟨g, 1, none⟩ x1).setCell ⟨g, 2, none⟩ x2).setCell ⟨g, 3, none⟩ x3).setCell ⟨g, 4, none⟩ x4).setCell ⟨g, 5, none⟩ x5).setCell ⟨g, 6, none⟩ x6).setCell ⟨g, 7, none⟩ x7) g 56 #[x0, x1, x2, x3, x4, x5, x6, x7] := by
 have h0 : Blk (w.setCell ⟨g, 0, none⟩ x0) g 56 #[x0, c1, c2, c3, c4, c5, c6, c7] := h.set_ 0 x0
 have h1 : Blk ((w.setCell ⟨g, 0, none⟩ x0).setCell ⟨g, 1, none⟩ x1) g 56 #[x0, x1, c2, c3, c4, c5, c6, c7] := h0.set_ 1 x1
 have h2 : Blk (((w.setCell ⟨g, 0, none⟩ x0).setCell ⟨g, 1, none⟩ x1).setCell ⟨g, 2, none⟩ x2) g 56 #[x0, x1, x2, c3, c4, c5, c6, c7] := h1.set_ 2 x2
 have h3 : Blk ((((w.setCell ⟨g, 0, none⟩ x0).setCell ⟨g, 1, none⟩ x1).setCell ⟨g, 2, none⟩ x2).setCell ⟨g, 3, none⟩ x3) g 56 #[x0, x1, x2, x3, c4, c5, c6, c7] := h2.set_ 3 x3
 have h4 : Blk (((((w.setCell ⟨g, 0, none⟩ x0).setCell ⟨g, 1, none⟩ x1).setCell ⟨g, 2, none⟩ x2).setCell ⟨g, 3, none⟩ x3).setCell ⟨g, 4, none⟩ x4) g 56 #[x0, x1, x2, x3, x4, c5, c6, c7] := h3.set_ 4 x4
 have h5 : Blk ((((((w.setCell ⟨g, 0, none⟩ x0).setCell ⟨g, 1, none⟩ x1).setCell ⟨g, 2, none⟩ x2).setCell ⟨g, 3, none⟩ x3).setCell ⟨g, 4, none⟩ x4).setCell ⟨g, 5, none⟩ x5) g 56 #[x0, x1, x2, x3, x4, x5, c6, c7] := h4.set_ 5 x5
 have h6 : Blk (((((((w.setCell ⟨g, 0, none⟩ x0).setCell ⟨g, 1, none⟩ x1).setCell ⟨g, 2, none⟩ x2).setCell ⟨g, 3, none⟩ x3).setCell ⟨g, 4, none⟩ x4).setCell ⟨g, 5, none⟩ x5).setCell ⟨g, 6, none⟩ x6) g 56 #[x0, x1, x2, x3, x4, x5, x6, c7] := h5.set_ 6 x6
 have h7 : Blk ((((((((w.setCell ⟨g, 0, none⟩ x0).setCell ⟨g, 1, none⟩ x1).setCell ⟨g, 2, none⟩ x2).setCell ⟨g, 3, none⟩ x3).setCell ⟨g, 4, none⟩ x4).setCell ⟨g, 5, none⟩ x5).setCell ⟨g, 6, none⟩ x6).setCell ⟨g, 7, none⟩ x7) g 56 #[x0, x1, x2, x3, x4, x5, x6, x7] := h6.set_ 7 x7
 exact h7
theorem kp8 {X : List Nat} {a w : World} (h : Kp X a w) {g : Nat} (hg : g ∈ X ∨ a.heap.size ≤ g) (x0 x1 x2 x3 x4 x5 x6 x7 : Value) :
   Kp X a ((((((((w.setCell ⟨g, 0, none⟩ x0).setCell ⟨g, 1, none⟩ x1).setCell ⟨g, 2, none⟩ x2).setCell ⟨g, 3, none⟩ x3).setCell ⟨g, 4, none⟩ x4).setCell ⟨g, 5, none⟩ x5).setCell ⟨g, 6, none⟩ x6).setCell ⟨g, 7, none⟩ x7) :=
 (((((((h.setCell (p := ⟨g, 0, none⟩) hg x0).setCell (p := ⟨g, 1, none⟩) hg x1).setCell (p := ⟨g, 2, none⟩) hg x2).setCell (p := ⟨g, 3, none⟩) hg x3).setCell (p := ⟨g, 4, none⟩) hg x4).setCell (p := ⟨g, 5, none⟩) hg x5).setCell (p := ⟨g, 6, none⟩) hg x6).setCell (p := ⟨g, 7, none⟩) hg x7
theorem infoAdr : (Tryz.prog.info? 56).map (·.size) = some 8 := by kernel_rfl
def AkP (b : Nat) (s : ByteArray) (r : Adr × Nat × Int) (w : World) (e : Ending) (w' : World) : Prop :=
 ∃ (D S U H : ByteArray) (P : Int) (a1 : Option Addr) (n1 c1 : Nat) (a2 : Option Addr) (n2 c2 : Nat) (a3 : Option Addr) (n3 c3 k' : Nat), e = .returned (.tuple #[.agg #[.string D, .string S, .string U, .string H, .int .i64 P, .slice a1 n1 c1, .slice a2 n2 c2, .slice a3 n3 c3], .int .u8 r.2.2]) ∧ (r.2.2 ≠ 0 → k' = r.2.1) ∧ (r.2.2 = 0 → AdIn w'.heap.size w' (.agg #[.string D, .string S, .string U, .string H, .int .i64 P, .slice a1 n1 c1, .slice a2 n2 c2, .slice a3 n3 c3]) r.1) ∧ Cur b s k' w' ∧ Kp [b] w w'
theorem AdIn.grow {w w' : World} {v : Value} {a : Adr} (h : AdIn w.heap.size w v a) {X : List Nat} (k : Kp X w w') (hX : ∀ x ∈ X, NoB w x) : AdIn w'.heap.size w' v a := by
 obtain ⟨vp, vh, vq, he2, h1, h2, h3⟩ := h
 exact ⟨vp, vh, vq, he2, h1.grow k hX, h2.grow k hX, h3.grow k hX⟩
theorem UriIn.grow {w w' : World} {v : Value} {u : Uri} (h : UriIn w.heap.size w v u) {X : List Nat} (k : Kp X w w') (hX : ∀ x ∈ X, NoB w x) : UriIn w'.heap.size w' v u := by
 obtain ⟨vp, vh, he2, h1, h2⟩ := h
 exact ⟨vp, vh, he2, h1.grow k hX, h2.grow k hX⟩
theorem adr_fin (b g k' : Nat) (s : ByteArray) (r : Adr × Nat × Int) (w wx : World) (x : Int) (D S U H : ByteArray) (P : Int) (a1 : Option Addr) (n1 c1 : Nat) (a2 : Option Addr) (n2 c2 : Nat) (a3 : Option Addr) (n3 c3 : Nat) (hx : x = r.2.2) (C : Cur b s k' wx) (hbg : b ≠ g) (K : Kp [b] w wx) (hg : w.heap.size ≤ g) (Z : Zab wx g)
   (he : r.2.2 ≠ 0 → k' = r.2.1) (hu : r.2.2 = 0 → AdIn wx.heap.size wx (.agg #[.string D, .string S, .string U, .string H, .int .i64 P, .slice a1 n1 c1, .slice a2 n2 c2, .slice a3 n3 c3]) r.1) :
   AkP b s r w (.returned (.tuple #[.agg #[.string D, .string S, .string U, .string H, .int .i64 P, .slice a1 n1 c1, .slice a2 n2 c2, .slice a3 n3 c3], .int .u8 x])) ((((((((wx.setCell ⟨g, 0, none⟩ (.string D)).setCell ⟨g, 1, none⟩ (.string S)).setCell ⟨g, 2, none⟩ (.string U)).setCell ⟨g, 3, none⟩ (.string H)).setCell ⟨g, 4, none⟩ (.int .i64 P)).setCell ⟨g, 5, none⟩ (.slice a1 n1 c1)).setCell ⟨g, 6, none⟩ (.slice a2 n2 c2)).setCell ⟨g, 7, none⟩ (.slice a3 n3 c3)) := by
 subst hx
 refine ⟨D, S, U, H, P, a1, n1, c1, a2, n2, c2, a3, n3, c3, k', rfl, he, fun h0 => ?_, ?_, kp8 K (.inr hg) _ _ _ _ _ _ _ _⟩
 ·refine (hu h0).grow (kp8 (Kp.refl [g] wx) (g := g) (.inl (by simp)) _ _ _ _ _ _ _ _) ?_
  intro y hy; rw [List.mem_singleton.1 hy]; exact Z.nob
 ·exact (((((((C.far (p := ⟨g, 0, none⟩) hbg _).far (p := ⟨g, 1, none⟩) hbg _).far (p := ⟨g, 2, none⟩) hbg _).far (p := ⟨g, 3, none⟩) hbg _).far (p := ⟨g, 4, none⟩) hbg _).far (p := ⟨g, 5, none⟩) hbg _).far (p := ⟨g, 6, none⟩) hbg _).far (p := ⟨g, 7, none⟩) hbg _
theorem restR_eq (l d : List UInt8) (a te tr : Nat) (u : Uri) (n : Nat) (x : Int) (h1 : parse (slc l a te) = (u, n, x)) (ps : List Prm) (m : Nat) (y : Int) (h2 : parF (l.length + 1) l (blkE l tr) [] = (ps, m, y)) :
   restR l d a te tr = if x ≠ 0 then (nilA, a + n, x) else if y ≠ 0 then (nilA, m, y) else (⟨d, u, ps⟩, 0, 0) := by
 unfold restR; simp only [h1, h2]
set_option maxRecDepth 100000 in
set_option maxHeartbeats 4000000 in
theorem target_k (b k te tr : Nat) (d : List UInt8) (s : ByteArray) (w : World) (hs : s.size ≤ 2097152) (hk : k ≤ te) (hte : te ≤ s.size) (htr : tr ≤ s.size) (C : Cur b s k w) (E : Env w) (hb7 : 7 ≤ b) :
   Calls Tryz.prog 131 #[.pointer (some ⟨b, 0, none⟩), .string (Txt d), .int .i64 te, .int .i64 tr] w (AkP b s (restR s.data.toList d k te tr) w) := by
 have hbw := C.lt
 have hb1 : b ≠ w.heap.size := by omega
 obtain ⟨wA, hwA⟩ : ∃ wA, w.alloc (.cells zA 56) = wA := ⟨_, rfl⟩
 have hsA : wA.heap.size = w.heap.size + 1 := by rw [← hwA]; simp
 have CA := Lib.hid (by rw [← hwA]; exact C.alloc _ : Cur b s k wA)
 have KA := Lib.hid (by rw [← hwA]; exact (Kp.refl [b] w).alloc _ : Kp [b] w wA)
 have ZA := Lib.hid (by rw [← hwA]; exact Blk.new w _ _ : Zab wA w.heap.size)
 have EA := Lib.hid (E.kp KA.out (by simp; omega))
 obtain ⟨u, n, x, hr⟩ : ∃ a b c, parse (slc s.data.toList k te) = (a, b, c) := ⟨_, _, _, rfl⟩
 obtain ⟨ps, m, y, hr2⟩ : ∃ a b c, parF (s.data.toList.length + 1) s.data.toList (blkE s.data.toList tr) [] = (a, b, c) := ⟨_, _, _, rfl⟩
 have HV := Lib.hid (restR_eq s.data.toList d k te tr u n x hr ps m y hr2);have HR2 := Lib.hid hr2;have hn := (parse_at (slc s.data.toList k te)).1
 rw [hr, slc_len _ _ _ (by rw [len_list]; exact hte)] at hn
 dsimp only at hn
 have hxs : (s.extract k te).size ≤ 2097152 := by rw [slc_txt, txt_size]; have := slc_le s.data.toList k te; omega
 have P0 : ∀ wz : World, Kp [] wA wz → Calls Tryz.prog 167 #[.string (s.extract k te)] wz (UrP (u, n, x) wz) := by
  intro wz hz
  have := Parse_any (s.extract k te) wz hxs (EA.out.kp hz (by simp))
  rw [slc_data, hr] at this
  exact this
 have PA := Lib.hid (P0 ((wA.alloc (.cells zU 54)).drew) (((Kp.refl [] wA).alloc _).drew))
 have PB := Lib.hid (P0 wA.drew (Kp.refl [] wA).drew)
 have c0 := CA.out.c0;have c1 := CA.out.c1
 have hbA : b < wA.heap.size := CA.out.lt
 have hneb : ¬ wA.heap.size = b := by omega
 have wk : wrap64 ((k : Int) + (n : Int)) = ((k + n : Nat) : Int) := by unfold wrap64; omega
 have hsA1 : w.heap.size + 1 ≤ wA.heap.size := by omega
 clear hr hr2 C E P0 hxs hsA
 go_enter Tryz.func131, Tryz.ntmps131
 go_upto_region 1 with fail
 go_cut [10, 11, 12] from 14 to 28 (fun p a c wx => ∃ N, p = .pointer (some ⟨N, 0, none⟩) ∧ a = .int .i64 n ∧ c = .int .u8 x ∧ wA.heap.size ≤ N ∧ Kp [] wA wx ∧ ∃ (S U H : ByteArray) (P : Int) (a1 : Option Addr) (n1 q1 : Nat) (a2 : Option Addr) (n2 q2 : Nat), Blk wx N 54 #[.string S, .string U, .string H, .int .i64 P, .slice a1 n1 q1, .slice a2 n2 q2] ∧ UriIn wx.heap.size wx (.agg #[.string S, .string U, .string H, .int .i64 P, .slice a1 n1 q1, .slice a2 n2 q2]) u)
 case first =>
  go_region_held3 (fun w' => w'.cell? ⟨b, 0, none⟩ = some (.string s) ∧ w'.cell? ⟨b, 1, none⟩ = some (.int .i64 k)) (go_keep)
   ((first
     | (go_at_call 167; refine PA.out.mono ?_; rintro e w3 ⟨v, rfl, hu, hB3⟩; have hu2 := hu; obtain ⟨vp, vh, rfl, hp, hh⟩ := hu; obtain ⟨a1, q1, rfl⟩ := hp.form; obtain ⟨a2, q2, rfl⟩ := hh.form; clear hp hh;
        have C3 := Cur.below (Blk.drew (Blk.alloc CA.out (.cells zU 54))) hB3; have N3 := Blk.below (Blk.drew (Blk.new wA 54 zU)) hB3 (by show wA.heap.size < (wA.alloc _).heap.size; simp);
        have d0 := C3.c0; have d1 := C3.c1; have n0 := N3.cell 0; have n1 := N3.cell 1; have n2 := N3.cell 2; have n3 := N3.cell 3; have n4 := N3.cell 4; have n5 := N3.cell 5; have m0 := N3.frozen 0; have m1 := N3.frozen 1; have m2 := N3.frozen 2; have m3 := N3.frozen 3; have m4 := N3.frozen 4; have m5 := N3.frozen 5)
     | (go_at_call 167; refine PB.out.mono ?_; rintro e w3 ⟨v, rfl, hu, hB3⟩; have hu2 := hu; obtain ⟨vp, vh, rfl, hp, hh⟩ := hu; obtain ⟨a1, q1, rfl⟩ := hp.form; obtain ⟨a2, q2, rfl⟩ := hh.form; clear hp hh;
        have C3 := Cur.below (Blk.drew CA.out) hB3; have hne3 : ¬ w3.heap.size = b := (by have h9 : wA.heap.size ≤ w3.heap.size := hB3.size; omega);
        have d0 := C3.c0; have d1 := C3.c1)))
  all_goals (go_wp2_with fail; go_meet)
  all_goals first
   | exact ⟨w3.heap.size, rfl, rfl, rfl, hB3.size, (((Kp.refl [] wA).drew).below hB3).alloc _, _, _, _, _, _, _, _, _, _, _, Blk.new w3 _ _, hu2.kpn ((Kp.refl [] w3).alloc _)⟩
   | exact ⟨wA.heap.size, rfl, rfl, rfl, Nat.le_refl _, kp6 ((((Kp.refl [] wA).alloc _).drew).below hB3) (.inr (Nat.le_refl _)) _ _ _ _ _ _, _, _, _, _, _, _, _, _, _, _, blk6 N3 _ _ _ _ _ _, hu2.grow (kp6 (Kp.refl [wA.heap.size] w3) (.inl (by simp)) _ _ _ _ _ _) (by intro y hy; rw [List.mem_singleton.1 hy]; exact Zub.nob N3)⟩
 case rest =>
  obtain ⟨N, rfl, rfl, rfl, hN, hK3, S, U, H, P, a1, n1, q1, a2, n2, q2, BN, hu⟩ := hcut
  obtain ⟨w3, hw3⟩ : ∃ w3, wc = w3 := ⟨_, rfl⟩
  subst hw3
  have C3 := Lib.hid (CA.out.kp hK3 (by simp))
  have Z3 := Lib.hid (show Zab wc w.heap.size from ZA.out.kp hK3 (by simp))
  have E3 := Lib.hid (EA.out.kp hK3 (by simp))
  have K3 := Lib.hid (KA.out.nil_to hK3);have N3 := Lib.hid BN;have Hu := Lib.hid hu;have hs3 := hK3.size
  have hNb : ¬ N = b := by omega
  have hNw : ¬ N = w.heap.size := by omega
  clear hK3 BN hu c0 c1
  by_cases hx : x = 0
  ·subst hx
   have bx : ((0 : Int) != 0) = false := rfl
   have HV1 := Lib.hid (HV.out.trans (by rw [if_neg (by decide)]))
   have c1 := C3.out.c1;have f1 := C3.out.f1;have C4 := Lib.hid (C3.out.set tr)
   have K4 := Lib.hid (K3.out.setCell (p := ⟨b, 1, none⟩) (.inl (by simp)) (.int .i64 tr))
   have Z4 := Lib.hid (show Zab (wc.setCell ⟨b, 1, none⟩ (.int .i64 tr)) w.heap.size from Blk.far Z3.out (p := ⟨b, 1, none⟩) (by show w.heap.size ≠ b; omega) _)
   have N4 := Lib.hid (N3.out.far (p := ⟨b, 1, none⟩) hNb (.int .i64 tr))
   have E4 := Lib.hid (E3.out.kp ((Kp.refl [b] wc).setCell (p := ⟨b, 1, none⟩) (.inl (by simp)) (.int .i64 tr)) (by simp; omega))
   have U4 := Lib.hid (Hu.out.grow ((Kp.refl [b] wc).setCell (p := ⟨b, 1, none⟩) (.inl (by simp)) (.int .i64 tr)) (by intro y hy; rw [List.mem_singleton.1 hy]; exact NoB.cur C3.out))
   go_wp2_with fail
   refine (list_k b tr s _ hs htr C4.out E4.out hb7).mono ?_
   rintro e w5 ⟨v5, k5, rfl, hP5, C5, hk5, hK5, hl5⟩
   rw [HR2.out] at hP5 hk5 ⊢
   dsimp only at hP5 hk5 ⊢
   obtain ⟨a3, q3, rfl⟩ := hP5.form
   have U5 := Lib.hid (U4.out.grow hK5 (by intro y hy; rw [List.mem_singleton.1 hy]; exact NoB.cur C4.out))
   have Z5 := Lib.hid (show Zab w5 w.heap.size from Z4.out.kp hK5 (by simp; omega))
   have N5 := Lib.hid (N4.out.kp hK5 (by simp; omega))
   have K5 := Lib.hid (K4.out.trans hK5);have HP5 := Lib.hid hP5;have HC5 := Lib.hid C5;have Hk5 := Lib.hid hk5;clear hK5 hP5 C5 c1 f1 hk5;have n0 := N5.out.cell 0;have n1 := N5.out.cell 1;have n2 := N5.out.cell 2;have n3 := N5.out.cell 3;have n4 := N5.out.cell 4;have n5 := N5.out.cell 5;have d0 := Z5.out.cell 0;have d1 := Z5.out.cell 1;have d2 := Z5.out.cell 2;have d3 := Z5.out.cell 3;have d4 := Z5.out.cell 4;have d5 := Z5.out.cell 5;have d6 := Z5.out.cell 6;have d7 := Z5.out.cell 7;have g0 := Z5.out.frozen 0;have g1 := Z5.out.frozen 1;have g2 := Z5.out.frozen 2;have g3 := Z5.out.frozen 3;have g4 := Z5.out.frozen 4;have g5 := Z5.out.frozen 5;have g6 := Z5.out.frozen 6;have g7 := Z5.out.frozen 7
   go_wp2_with fail
   refine bodyPost_ret (results_two rfl _ _ w.heap.size 56 _ (0, 0) _ rfl (blk8 Z5.out _ _ _ _ _ _ _ _) Tryz.underlying56 rfl infoAdr) rfl ?_
   rw [HV1.out]
   by_cases hy : y = 0
   ·subst hy
    rw [if_neg (by decide)]
    refine adr_fin b w.heap.size k5 s _ w w5 0 _ _ _ _ _ _ _ _ _ _ _ _ _ _ rfl HC5.out hb1 K5.out (Nat.le_refl _) Z5.out (fun h => absurd rfl h) (fun _ => ?_)
    obtain ⟨vp, vh, he2, h1, h2⟩ := U5.out
    injection he2 with he2
    simp only [Array.mk.injEq, List.cons.injEq, and_true] at he2
    obtain ⟨e1, e2, e3, e4, e5, e6⟩ := he2
    exact ⟨vp, vh, _, by rw [e1, e2, e3, e4, e5, e6], h1, h2, HP5.out⟩
   ·rw [if_pos hy]
    exact adr_fin b w.heap.size k5 s _ w w5 y _ _ _ _ _ _ _ _ _ _ _ _ _ _ rfl HC5.out hb1 K5.out (Nat.le_refl _) Z5.out (fun _ => Hk5.out hy) (fun h => absurd h hy)
  ·have bx : (x != 0) = true := by rw [bne_iff_ne]; exact hx
   have HV1 := Lib.hid (HV.out.trans (by rw [if_pos hx]))
   have HX := Lib.hid hx;have c1 := C3.out.c1;clear hx
   go_wp2_with fail
   refine (fail_k b k (k + n) x s _ C3.out).mono ?_
   rintro e w5 ⟨rfl, C5, hK5⟩
   have Z5 := Lib.hid (show Zab w5 w.heap.size from Z3.out.kp hK5 (by simp; omega))
   have K5 := Lib.hid (K3.out.trans hK5);have HC5 := Lib.hid C5;clear hK5 C5 c1;have d0 := Z5.out.cell 0;have d1 := Z5.out.cell 1;have d2 := Z5.out.cell 2;have d3 := Z5.out.cell 3;have d4 := Z5.out.cell 4;have d5 := Z5.out.cell 5;have d6 := Z5.out.cell 6;have d7 := Z5.out.cell 7;have g0 := Z5.out.frozen 0;have g1 := Z5.out.frozen 1;have g2 := Z5.out.frozen 2;have g3 := Z5.out.frozen 3;have g4 := Z5.out.frozen 4;have g5 := Z5.out.frozen 5;have g6 := Z5.out.frozen 6;have g7 := Z5.out.frozen 7
   go_wp2_with fail
   refine bodyPost_ret (results_two rfl _ _ w.heap.size 56 _ (0, 0) _ rfl (blk8 Z5.out _ _ _ _ _ _ _ _) Tryz.underlying56 rfl infoAdr) rfl ?_
   rw [HV1.out]
   exact adr_fin b w.heap.size (k + n) s _ w w5 x _ _ _ _ _ _ _ _ _ _ _ _ _ _ rfl HC5.out hb1 K5.out (Nat.le_refl _) Z5.out (fun _ => rfl) (fun h => absurd h HX.out)
end Ad
end Go.Proofs.YtbcaindpbeaheaaGreatDoor
namespace Go.Proofs.YtbcaindpbeaheaaGreatDoor
namespace Ad
open Go.RowKit Lx
def bareR (l : List UInt8) (k : Nat) : Adr × Nat × Int :=
 if endP queC l k < endP bareC l k then (nilA, endP queC l k, 5) else restR l [] k (endP bareC l k) (endP bareC l k)
set_option maxRecDepth 100000 in
set_option maxHeartbeats 2000000 in
theorem bare_k (b k : Nat) (s : ByteArray) (w : World) (hs : s.size ≤ 2097152) (hk : k ≤ s.size) (C : Cur b s k w) (E : Env w) (hb7 : 7 ≤ b) :
   Calls Tryz.prog 130 #[.pointer (some ⟨b, 0, none⟩)] w (AkP b s (bareR s.data.toList k) w) := by
 have hbw := C.lt
 have hb1 : b ≠ w.heap.size := by omega
 obtain ⟨wA, hwA⟩ : ∃ wA, w.alloc (.cells zA 56) = wA := ⟨_, rfl⟩
 have hsA1 : w.heap.size + 1 ≤ wA.heap.size := by rw [← hwA]; simp
 have CA := Lib.hid (by rw [← hwA]; exact C.alloc _ : Cur b s k wA)
 have KA := Lib.hid (by rw [← hwA]; exact (Kp.refl [b] w).alloc _ : Kp [b] w wA)
 have ZA := Lib.hid (by rw [← hwA]; exact Blk.new w _ _ : Zab wA w.heap.size)
 have EA := Lib.hid (E.kp KA.out (by simp; omega))
 clear C E
 obtain ⟨t, ht⟩ : ∃ t, endP bareC s.data.toList k = t := ⟨_, rfl⟩
 obtain ⟨q, hq⟩ : ∃ q, endP queC s.data.toList k = q := ⟨_, rfl⟩
 have ht1 := endP_ge bareC s.data.toList k
 have ht2 := endP_le bareC s.data.toList k (by rw [len_list]; exact hk)
 rw [ht] at ht1 ht2
 rw [len_list] at ht2
 have HT := Lib.hid ht;have HQ := Lib.hid hq
 have hV : bareR s.data.toList k = if q < t then (nilA, q, 5) else restR s.data.toList [] k t t := by unfold bareR; rw [ht, hq]
 have c0 := CA.out.c0;have c1 := CA.out.c1;clear ht hq
 by_cases hqt : q < t
 ·have HV := Lib.hid (hV.trans (by rw [if_pos hqt]))
  clear hV
  go_enter Tryz.func130, Tryz.ntmps130
  go_wp2_with fail
  go_quiet ((go_at_call 126; exact Calls.quiet_of_same (end_q bareC s ⟨#[59, 32, 9]⟩ k _ hs hk mBare)))
  rw [HT.out]
  obtain ⟨w2, hw2⟩ : ∃ w2, wA.drewN nq = w2 := ⟨_, rfl⟩
  rw [hw2]
  have Cw2 := Lib.hid (by rw [← hw2]; exact CA.out : Cur b s k w2)
  have Kw2 := Lib.hid (by rw [← hw2]; exact KA.out.drewN _ : Kp [b] w w2)
  have Zw2 := Lib.hid (by rw [← hw2]; exact ZA.out : Zab w2 w.heap.size)
  have Ew2 := Lib.hid (by rw [← hw2]; exact EA.out.drewN _ : Env w2)
  clear hw2;clear c0 c1;have c0 := Cw2.out.c0;have c1 := Cw2.out.c1
  go_wp2_with fail
  go_quiet ((go_at_call 126; exact Calls.quiet_of_same (end_q queC s ⟨#[63, 44]⟩ k _ hs hk mQue)))
  rw [HQ.out]
  obtain ⟨w3, hw3⟩ : ∃ w3, w2.drewN nq = w3 := ⟨_, rfl⟩
  rw [hw3]
  have Cw3 := Lib.hid (by rw [← hw3]; exact Cw2.out : Cur b s k w3)
  have Kw3 := Lib.hid (by rw [← hw3]; exact Kw2.out.drewN _ : Kp [b] w w3)
  have Zw3 := Lib.hid (by rw [← hw3]; exact Zw2.out : Zab w3 w.heap.size)
  have Ew3 := Lib.hid (by rw [← hw3]; exact Ew2.out.drewN _ : Env w3)
  clear hw3;clear c0 c1
  go_wp2_with fail
  refine (fail_k b k q 5 s _ Cw3.out).mono ?_
  rintro e w9 ⟨rfl, C9, hK9⟩
  have Z9 := Lib.hid (show Zab w9 w.heap.size from Zw3.out.kp hK9 (by simp; omega))
  have K9 := Lib.hid (Kw3.out.trans hK9);have HC9 := Lib.hid C9;clear hK9 C9;have d0 := Z9.out.cell 0;have d1 := Z9.out.cell 1;have d2 := Z9.out.cell 2;have d3 := Z9.out.cell 3;have d4 := Z9.out.cell 4;have d5 := Z9.out.cell 5;have d6 := Z9.out.cell 6;have d7 := Z9.out.cell 7;have g0 := Z9.out.frozen 0;have g1 := Z9.out.frozen 1;have g2 := Z9.out.frozen 2;have g3 := Z9.out.frozen 3;have g4 := Z9.out.frozen 4;have g5 := Z9.out.frozen 5;have g6 := Z9.out.frozen 6;have g7 := Z9.out.frozen 7
  go_wp2_with fail
  refine bodyPost_ret (results_two rfl _ _ w.heap.size 56 _ (0, 0) _ rfl (blk8 Z9.out _ _ _ _ _ _ _ _) Tryz.underlying56 rfl infoAdr) rfl ?_
  rw [HV.out]
  exact adr_fin b w.heap.size q s _ w w9 5 _ _ _ _ _ _ _ _ _ _ _ _ _ _ rfl HC9.out hb1 K9.out (Nat.le_refl _) Z9.out (fun _ => rfl) (fun h => absurd h (show ¬ (5 : Int) = 0 by decide))
 ·have HV := Lib.hid (hV.trans (by rw [if_neg hqt]))
  clear hV
  go_enter Tryz.func130, Tryz.ntmps130
  go_wp2_with fail
  go_quiet ((go_at_call 126; exact Calls.quiet_of_same (end_q bareC s ⟨#[59, 32, 9]⟩ k _ hs hk mBare)))
  rw [HT.out]
  obtain ⟨w2, hw2⟩ : ∃ w2, wA.drewN nq = w2 := ⟨_, rfl⟩
  rw [hw2]
  have Cw2 := Lib.hid (by rw [← hw2]; exact CA.out : Cur b s k w2)
  have Kw2 := Lib.hid (by rw [← hw2]; exact KA.out.drewN _ : Kp [b] w w2)
  have Zw2 := Lib.hid (by rw [← hw2]; exact ZA.out : Zab w2 w.heap.size)
  have Ew2 := Lib.hid (by rw [← hw2]; exact EA.out.drewN _ : Env w2)
  clear hw2;clear c0 c1;have c0 := Cw2.out.c0;have c1 := Cw2.out.c1
  go_wp2_with fail
  go_quiet ((go_at_call 126; exact Calls.quiet_of_same (end_q queC s ⟨#[63, 44]⟩ k _ hs hk mQue)))
  rw [HQ.out]
  obtain ⟨w3, hw3⟩ : ∃ w3, w2.drewN nq = w3 := ⟨_, rfl⟩
  rw [hw3]
  have Cw3 := Lib.hid (by rw [← hw3]; exact Cw2.out : Cur b s k w3)
  have Kw3 := Lib.hid (by rw [← hw3]; exact Kw2.out.drewN _ : Kp [b] w w3)
  have Zw3 := Lib.hid (by rw [← hw3]; exact Zw2.out : Zab w3 w.heap.size)
  have Ew3 := Lib.hid (by rw [← hw3]; exact Ew2.out.drewN _ : Env w3)
  clear hw3;clear c0 c1
  go_wp2_with fail
  refine (target_k b k t t [] s _ hs ht1 ht2 ht2 Cw3.out Ew3.out hb7).mono ?_
  rintro e w9 ⟨D, S, U, H, P, a1, n1, c1, a2, n2, c2, a3, n3, c3, k9, rfl, hk9, ha9, C9, hK9⟩
  have Z9 := Lib.hid (show Zab w9 w.heap.size from Zw3.out.kp hK9 (by simp; omega))
  have K9 := Lib.hid (Kw3.out.trans hK9);have HC9 := Lib.hid C9;have Hk9 := Lib.hid hk9;have Ha9 := Lib.hid ha9;clear hK9 C9 hk9 ha9;have d0 := Z9.out.cell 0;have d1 := Z9.out.cell 1;have d2 := Z9.out.cell 2;have d3 := Z9.out.cell 3;have d4 := Z9.out.cell 4;have d5 := Z9.out.cell 5;have d6 := Z9.out.cell 6;have d7 := Z9.out.cell 7;have g0 := Z9.out.frozen 0;have g1 := Z9.out.frozen 1;have g2 := Z9.out.frozen 2;have g3 := Z9.out.frozen 3;have g4 := Z9.out.frozen 4;have g5 := Z9.out.frozen 5;have g6 := Z9.out.frozen 6;have g7 := Z9.out.frozen 7
  go_wp2_with fail
  refine bodyPost_ret (results_two rfl _ _ w.heap.size 56 _ (0, 0) _ rfl (blk8 Z9.out _ _ _ _ _ _ _ _) Tryz.underlying56 rfl infoAdr) rfl ?_
  rw [HV.out]
  exact adr_fin b w.heap.size k9 s _ w w9 _ _ _ _ _ _ _ _ _ _ _ _ _ _ _ rfl HC9.out hb1 K9.out (Nat.le_refl _) Z9.out Hk9.out Ha9.out
end Ad
end Go.Proofs.YtbcaindpbeaheaaGreatDoor
namespace Go.Proofs.YtbcaindpbeaheaaGreatDoor
namespace Ad
open Go.RowKit Lx
theorem qn60 (l : List UInt8) (k : Nat) (h : (qnR l k).2.2 = 0) (hu : uqE l k = 0 ∨ uqE l k ≠ 0) : atB l (qnR l k).2.1 = 60 := by
 unfold qnR at h ⊢
 by_cases h1 : uqE l k ≠ 0
 ·rw [if_pos h1] at h; exact absurd h h1
 ·rw [if_neg h1] at h ⊢
  by_cases h2 : atB l (blkE l (uqN l k).toNat) ≠ 60
  ·rw [if_pos h2] at h; exact absurd h (show ¬ (5 : Int) = 0 by decide)
  ·rw [if_neg h2]; exact Decidable.of_not_not h2
theorem adr_quoted (l : List UInt8) (h : ¬ 1024 < l.length) (h34 : atB l (blkE l 0) = 34) (d : List UInt8) (m : Nat) (x : Int) (hq : qnR l (blkE l 0) = (d, m, x)) :
   adrR l = if x ≠ 0 then (nilA, m, x) else angR l d m := by
 unfold adrR
 rw [if_neg h, if_pos h34]
 unfold qnR at hq
 by_cases h1 : uqE l (blkE l 0) ≠ 0
 ·rw [if_pos h1] at hq ⊢
  injection hq with e1 hq; injection hq with e2 e3
  subst e1 e2 e3
  rw [if_pos h1]
 ·rw [if_neg h1] at hq ⊢
  by_cases h2 : atB l (blkE l (uqN l (blkE l 0)).toNat) ≠ 60
  ·rw [if_pos h2] at hq ⊢
   injection hq with e1 hq; injection hq with e2 e3
   subst e1 e2 e3
   rw [if_pos (by decide)]
  ·rw [if_neg h2] at hq ⊢
   injection hq with e1 hq; injection hq with e2 e3
   subst e1 e2 e3
   rw [if_neg (by decide)]
theorem blk_le (l : List UInt8) (k : Nat) (h : k ≤ l.length) : blkE l k ≤ l.length := by
 unfold blkE; have := runL_le blankI (l.drop k); rw [List.length_drop] at this; omega
theorem end_at (l : List UInt8) (c : Int) (k : Nat) (h : endP (· == c) l k < l.length) : atB l (endP (· == c) l k) = c := by
 have := endP_at (· == c) l k h
 simpa using this
theorem adr_token (l : List UInt8) (h : ¬ 1024 < l.length) (h34 : ¬ atB l (blkE l 0) = 34) (te : Nat) (hte : endP (· == 60) l (blkE l 0) = te) (hlt : te < l.length) (d : List UInt8) (m : Nat) (x : Int) (hq : tnR l (blkE l 0) te = (d, m, x)) :
   (x = 0 → m = te) ∧ adrR l = if x ≠ 0 then (nilA, m, x) else angR l d m := by
 have h60 : atB l te = 60 := by rw [← hte]; exact end_at l 60 _ (by rw [hte]; exact hlt)
 have hk : blkE l 0 ≤ te := by rw [← hte]; exact endP_ge _ _ _
 have hto := tksF_to l te h60 hlt (l.length + 1) (blkE l 0) [] hk (by omega)
 unfold tnR at hq
 injection hq with e1 e2
 unfold adrR
 rw [if_neg h, if_neg h34, hte, if_pos hlt]
 rw [e2] at hto ⊢
 dsimp only at hto ⊢
 refine ⟨hto, ?_⟩
 by_cases hx : x ≠ 0
 ·rw [if_pos hx, if_pos hx]
 ·rw [if_neg hx, if_neg hx, e1, hto (Decidable.of_not_not hx)]
theorem adr_bare (l : List UInt8) (h : ¬ 1024 < l.length) (h34 : ¬ atB l (blkE l 0) = 34) (hlt : ¬ endP (· == 60) l (blkE l 0) < l.length) : adrR l = bareR l (blkE l 0) := by
 unfold adrR bareR
 rw [if_neg h, if_neg h34, if_neg hlt]
set_option maxRecDepth 100000 in
set_option maxHeartbeats 8000000 in
theorem address_k (b : Nat) (s : ByteArray) (w : World) (hs : s.size ≤ 2097152) (C : Cur b s 0 w) (E : Env w) (hb7 : 7 ≤ b) :
   Calls Tryz.prog 76 #[.pointer (some ⟨b, 0, none⟩)] w (AkP b s (adrR s.data.toList) w) := by
 have hbw := C.lt
 have hb1 : b ≠ w.heap.size := by omega
 obtain ⟨wA, hwA⟩ : ∃ wA, w.alloc (.cells zA 56) = wA := ⟨_, rfl⟩
 have hsA1 : w.heap.size + 1 ≤ wA.heap.size := by rw [← hwA]; simp
 have CA := Lib.hid (by rw [← hwA]; exact C.alloc _ : Cur b s 0 wA)
 have KA := Lib.hid (by rw [← hwA]; exact (Kp.refl [b] w).alloc _ : Kp [b] w wA)
 have ZA := Lib.hid (by rw [← hwA]; exact Blk.new w _ _ : Zab wA w.heap.size)
 have EA := Lib.hid (E.kp KA.out (by simp; omega))
 clear C E
 by_cases h1 : 1024 < s.size
 ·have HV := Lib.hid (by unfold adrR; rw [len_list, if_pos h1] : adrR s.data.toList = (nilA, 1024, 4))
  have hf := fits_k b 0 s wA hs CA.out
  rw [if_pos h1, if_pos h1] at hf
  have HF := Lib.hid hf;clear h1 hf
  go_enter Tryz.func76, Tryz.ntmps76
  go_wp2_with fail
  refine HF.out.mono ?_
  rintro e w9 ⟨rfl, C9, hK9⟩
  have Z9 := Lib.hid (show Zab w9 w.heap.size from ZA.out.kp hK9 (by simp; omega))
  have K9 := Lib.hid (KA.out.trans hK9);have HC9 := Lib.hid C9;clear hK9 C9;have d0 := Z9.out.cell 0;have d1 := Z9.out.cell 1;have d2 := Z9.out.cell 2;have d3 := Z9.out.cell 3;have d4 := Z9.out.cell 4;have d5 := Z9.out.cell 5;have d6 := Z9.out.cell 6;have d7 := Z9.out.cell 7;have g0 := Z9.out.frozen 0;have g1 := Z9.out.frozen 1;have g2 := Z9.out.frozen 2;have g3 := Z9.out.frozen 3;have g4 := Z9.out.frozen 4;have g5 := Z9.out.frozen 5;have g6 := Z9.out.frozen 6;have g7 := Z9.out.frozen 7
  go_wp2_with fail
  refine bodyPost_ret (results_two rfl _ _ w.heap.size 56 _ (0, 0) _ rfl (blk8 Z9.out _ _ _ _ _ _ _ _) Tryz.underlying56 rfl infoAdr) rfl ?_
  rw [HV.out]
  exact adr_fin b w.heap.size 1024 s _ w w9 4 _ _ _ _ _ _ _ _ _ _ _ _ _ _ rfl HC9.out hb1 K9.out (Nat.le_refl _) Z9.out (fun _ => rfl) (fun h => absurd h (show ¬ (4 : Int) = 0 by decide))
 ·have hf := fits_k b 0 s wA hs CA.out
  rw [if_neg h1, if_neg h1] at hf
  have HF := Lib.hid hf
  have hl1 : ¬ 1024 < s.data.toList.length := by rw [len_list]; exact h1
  obtain ⟨K, hK⟩ : ∃ K, blkE s.data.toList 0 = K := ⟨_, rfl⟩
  have hKs := blk_le s.data.toList 0 (Nat.zero_le _)
  rw [hK, len_list] at hKs
  have HKb := Lib.hid hK
  obtain ⟨t, ht⟩ : ∃ t, endP (· == 60) s.data.toList K = t := ⟨_, rfl⟩
  have HT := Lib.hid ht
  have ht1 := endP_ge (· == 60) s.data.toList K
  have ht2 := endP_le (· == 60) s.data.toList K (by rw [len_list]; exact hKs)
  rw [ht] at ht1 ht2
  rw [len_list] at ht2
  clear hf
  by_cases h34 : atB s.data.toList K = 34
  ·have T34 := Lib.hid (by rw [nxt_eq _ _ _ (by decide) (by decide), h34]; rfl : (nxt s.data.toList K == 34) = true)
   have H34 := Lib.hid h34
   obtain ⟨d, m, x, hq⟩ : ∃ d m x, qnR s.data.toList K = (d, m, x) := ⟨_, _, _, rfl⟩
   have HR := Lib.hid hq
   have hV := adr_quoted s.data.toList hl1 (by rw [hK]; exact h34) d m x (by rw [hK]; exact hq)
   have h60 : x = 0 → atB s.data.toList m = 60 := by
    intro h0
    have := qn60 s.data.toList K (by rw [hq]; exact h0) (Decidable.em _)
    rw [hq] at this; exact this
   clear hK ht hq h34 h1 hl1
   by_cases hx : x = 0
   ·have hV2 := hV.trans (by rw [if_neg (by rw [hx]; decide)])
    have h60' := h60 hx
    have hml := atB_lt s.data.toList m (by rw [h60']; decide)
    rw [len_list] at hml
    subst hx
    have bx : ((0 : Int) != 0) = false := rfl
    obtain ⟨z, hz⟩ : ∃ z, endP (· == 62) s.data.toList (m + 1) = z := ⟨_, rfl⟩
    have HZ := Lib.hid hz
    have hz1 := endP_ge (· == 62) s.data.toList (m + 1)
    have hz2 := endP_le (· == 62) s.data.toList (m + 1) (by rw [len_list]; exact hml)
    rw [hz] at hz1 hz2
    rw [len_list] at hz2
    unfold angR at hV2
    rw [hz, len_list] at hV2
    clear hV h60 h60' hz
    by_cases hzs : z = s.size
    ·have HV := Lib.hid (hV2.trans (by rw [if_pos hzs, ← hzs]))
     have bz : ((z : Int) == (s.size : Int)) = true := by rw [hzs]; exact beq_self_eq_true _
     clear hV2 hzs
     go_enter Tryz.func76, Tryz.ntmps76
     go_wp2_with fail
     refine HF.out.mono ?_
     rintro e w2 ⟨rfl, C2, hK2⟩
     have Z2 := Lib.hid (show Zab w2 w.heap.size from ZA.out.kp hK2 (by simp; omega))
     have K2 := Lib.hid (KA.out.trans hK2)
     have E2 := Lib.hid (EA.out.kp hK2 (by simp; omega))
     have HC2 := Lib.hid C2;clear hK2 C2
     go_wp2_with fail
     refine (blanks_k b 0 s _ hs (Nat.zero_le _) HC2.out).mono ?_
     rintro e w3 ⟨rfl, C3, hK3⟩
     rw [HKb.out] at C3
     have Z3 := Lib.hid (show Zab w3 w.heap.size from Z2.out.kp hK3 (by simp; omega))
     have K3 := Lib.hid (K2.out.trans hK3)
     have E3 := Lib.hid (E2.out.kp hK3 (by simp; omega))
     have c0 := C3.c0;have c1 := C3.c1;have HC3 := Lib.hid C3;clear hK3 C3
     go_wp2_with fail
     go_quiet ((go_at_call 126; exact Calls.quiet_of_same (end_q (· == 60) s ⟨#[60]⟩ K _ hs hKs m60)))
     rw [HT.out]
     obtain ⟨w4, hw4⟩ : ∃ w4, w3.drewN nq = w4 := ⟨_, rfl⟩
     rw [hw4]
     have Cw4 := Lib.hid (by rw [← hw4]; exact HC3.out : Cur b s K w4)
     have Kw4 := Lib.hid (by rw [← hw4]; exact K3.out.drewN _ : Kp [b] w w4)
     have Zw4 := Lib.hid (by rw [← hw4]; exact Z3.out : Zab w4 w.heap.size)
     have Ew4 := Lib.hid (by rw [← hw4]; exact E3.out.drewN _ : Env w4)
     clear hw4;clear c0 c1
     go_wp2_with fail
     refine (next_k b K s _ hs hKs Cw4.out).mono ?_
     rintro e w5 ⟨rfl, C5, hK5⟩
     have Z5 := Lib.hid (show Zab w5 w.heap.size from Zw4.out.kp hK5 (by simp; omega))
     have K5 := Lib.hid (Kw4.out.trans hK5)
     have E5 := Lib.hid (Ew4.out.kp hK5 (by simp; omega))
     have c0 := C5.c0;have HC5 := Lib.hid C5;have t34 := T34.out;clear hK5 C5
     go_wp2_with fail
     refine (quoted_k b K s _ hs hKs HC5.out H34.out).mono ?_
     rintro e w7 ⟨rfl, C7, hK7⟩
     rw [HR.out] at C7 ⊢
     dsimp only at C7 ⊢
     have Z7 := Lib.hid (show Zab w7 w.heap.size from Z5.out.kp hK7 (by simp; omega))
     have K7 := Lib.hid (K5.out.trans hK7)
     have E7 := Lib.hid (E5.out.kp hK7 (by simp; omega))
     have HC7 := Lib.hid C7;clear hK7 C7 c0 t34;have c1 := HC7.out.c1;have f1 := HC7.out.f1
     obtain ⟨w8, hw8⟩ : ∃ w8, w7.setCell ⟨b, 1, none⟩ (.int .i64 ((m : Int) + 1)) = w8 := ⟨_, rfl⟩
     have C8 := Lib.hid (by have h := HC7.out.set (m + 1); rw [Int.natCast_add] at h; rw [← hw8]; exact h : Cur b s (m + 1) w8)
     have K8 := Lib.hid (by rw [← hw8]; exact K7.out.setCell (p := ⟨b, 1, none⟩) (.inl (by simp)) _ : Kp [b] w w8)
     have Z8 := Lib.hid (by rw [← hw8]; exact Blk.far Z7.out (p := ⟨b, 1, none⟩) (by show w.heap.size ≠ b; omega) _ : Zab w8 w.heap.size)
     have E8 := Lib.hid (by rw [← hw8]; exact E7.out.kp ((Kp.refl [b] w7).setCell (p := ⟨b, 1, none⟩) (.inl (by simp)) _) (by simp; omega) : Env w8)
     have c0 := C8.out.c0;have c8 := C8.out.c1;have Hw8 := Lib.hid hw8;clear hw8
     go_wp2_with fail
     rw [show w7.setCell ⟨b, 1, none⟩ (.int .i64 ((m : Int) + 1)) = w8 from Hw8.out]
     clear c1 f1
     go_quiet ((go_at_call 126; exact Calls.quiet_of_same (end_q (· == 62) s ⟨#[62]⟩ (m + 1) _ hs hml m62)))
     rw [HZ.out]
     obtain ⟨w6, hw6⟩ : ∃ w6, w8.drewN nq = w6 := ⟨_, rfl⟩
     rw [hw6]
     have Cw6 := Lib.hid (by rw [← hw6]; exact C8.out : Cur b s (m + 1) w6)
     have Kw6 := Lib.hid (by rw [← hw6]; exact K8.out.drewN _ : Kp [b] w w6)
     have Zw6 := Lib.hid (by rw [← hw6]; exact Z8.out : Zab w6 w.heap.size)
     have Ew6 := Lib.hid (by rw [← hw6]; exact E8.out.drewN _ : Env w6)
     clear hw6;clear c0 c8;have c0 := Cw6.out.c0
     go_wp2_with fail
     refine (fail_k b (m + 1) z 5 s _ Cw6.out).mono ?_
     rintro e w9 ⟨rfl, C9, hK9⟩
     have Z9 := Lib.hid (show Zab w9 w.heap.size from Zw6.out.kp hK9 (by simp; omega))
     have K9 := Lib.hid (Kw6.out.trans hK9);have HC9 := Lib.hid C9;clear hK9 C9;have d0 := Z9.out.cell 0;have d1 := Z9.out.cell 1;have d2 := Z9.out.cell 2;have d3 := Z9.out.cell 3;have d4 := Z9.out.cell 4;have d5 := Z9.out.cell 5;have d6 := Z9.out.cell 6;have d7 := Z9.out.cell 7;have g0 := Z9.out.frozen 0;have g1 := Z9.out.frozen 1;have g2 := Z9.out.frozen 2;have g3 := Z9.out.frozen 3;have g4 := Z9.out.frozen 4;have g5 := Z9.out.frozen 5;have g6 := Z9.out.frozen 6;have g7 := Z9.out.frozen 7
     go_wp2_with fail
     refine bodyPost_ret (results_two rfl _ _ w.heap.size 56 _ (0, 0) _ rfl (blk8 Z9.out _ _ _ _ _ _ _ _) Tryz.underlying56 rfl infoAdr) rfl ?_
     rw [HV.out]
     exact adr_fin b w.heap.size z s _ w w9 5 _ _ _ _ _ _ _ _ _ _ _ _ _ _ rfl HC9.out hb1 K9.out (Nat.le_refl _) Z9.out (fun _ => rfl) (fun h => absurd h (show ¬ (5 : Int) = 0 by decide))
    ·have HV := Lib.hid (hV2.trans (by rw [if_neg hzs]))
     have bz : ((z : Int) == (s.size : Int)) = false := beq_eq_false_iff_ne.2 (by omega)
     have hzl : z < s.size := by omega
     clear hV2
     go_enter Tryz.func76, Tryz.ntmps76
     go_wp2_with fail
     refine HF.out.mono ?_
     rintro e w2 ⟨rfl, C2, hK2⟩
     have Z2 := Lib.hid (show Zab w2 w.heap.size from ZA.out.kp hK2 (by simp; omega))
     have K2 := Lib.hid (KA.out.trans hK2)
     have E2 := Lib.hid (EA.out.kp hK2 (by simp; omega))
     have HC2 := Lib.hid C2;clear hK2 C2
     go_wp2_with fail
     refine (blanks_k b 0 s _ hs (Nat.zero_le _) HC2.out).mono ?_
     rintro e w3 ⟨rfl, C3, hK3⟩
     rw [HKb.out] at C3
     have Z3 := Lib.hid (show Zab w3 w.heap.size from Z2.out.kp hK3 (by simp; omega))
     have K3 := Lib.hid (K2.out.trans hK3)
     have E3 := Lib.hid (E2.out.kp hK3 (by simp; omega))
     have c0 := C3.c0;have c1 := C3.c1;have HC3 := Lib.hid C3;clear hK3 C3
     go_wp2_with fail
     go_quiet ((go_at_call 126; exact Calls.quiet_of_same (end_q (· == 60) s ⟨#[60]⟩ K _ hs hKs m60)))
     rw [HT.out]
     obtain ⟨w4, hw4⟩ : ∃ w4, w3.drewN nq = w4 := ⟨_, rfl⟩
     rw [hw4]
     have Cw4 := Lib.hid (by rw [← hw4]; exact HC3.out : Cur b s K w4)
     have Kw4 := Lib.hid (by rw [← hw4]; exact K3.out.drewN _ : Kp [b] w w4)
     have Zw4 := Lib.hid (by rw [← hw4]; exact Z3.out : Zab w4 w.heap.size)
     have Ew4 := Lib.hid (by rw [← hw4]; exact E3.out.drewN _ : Env w4)
     clear hw4;clear c0 c1
     go_wp2_with fail
     refine (next_k b K s _ hs hKs Cw4.out).mono ?_
     rintro e w5 ⟨rfl, C5, hK5⟩
     have Z5 := Lib.hid (show Zab w5 w.heap.size from Zw4.out.kp hK5 (by simp; omega))
     have K5 := Lib.hid (Kw4.out.trans hK5)
     have E5 := Lib.hid (Ew4.out.kp hK5 (by simp; omega))
     have c0 := C5.c0;have HC5 := Lib.hid C5;have t34 := T34.out;clear hK5 C5
     go_wp2_with fail
     refine (quoted_k b K s _ hs hKs HC5.out H34.out).mono ?_
     rintro e w7 ⟨rfl, C7, hK7⟩
     rw [HR.out] at C7 ⊢
     dsimp only at C7 ⊢
     have Z7 := Lib.hid (show Zab w7 w.heap.size from Z5.out.kp hK7 (by simp; omega))
     have K7 := Lib.hid (K5.out.trans hK7)
     have E7 := Lib.hid (E5.out.kp hK7 (by simp; omega))
     have HC7 := Lib.hid C7;clear hK7 C7 c0 t34;have c1 := HC7.out.c1;have f1 := HC7.out.f1
     obtain ⟨w8, hw8⟩ : ∃ w8, w7.setCell ⟨b, 1, none⟩ (.int .i64 ((m : Int) + 1)) = w8 := ⟨_, rfl⟩
     have C8 := Lib.hid (by have h := HC7.out.set (m + 1); rw [Int.natCast_add] at h; rw [← hw8]; exact h : Cur b s (m + 1) w8)
     have K8 := Lib.hid (by rw [← hw8]; exact K7.out.setCell (p := ⟨b, 1, none⟩) (.inl (by simp)) _ : Kp [b] w w8)
     have Z8 := Lib.hid (by rw [← hw8]; exact Blk.far Z7.out (p := ⟨b, 1, none⟩) (by show w.heap.size ≠ b; omega) _ : Zab w8 w.heap.size)
     have E8 := Lib.hid (by rw [← hw8]; exact E7.out.kp ((Kp.refl [b] w7).setCell (p := ⟨b, 1, none⟩) (.inl (by simp)) _) (by simp; omega) : Env w8)
     have c0 := C8.out.c0;have c8 := C8.out.c1;have Hw8 := Lib.hid hw8;clear hw8
     go_wp2_with fail
     rw [show w7.setCell ⟨b, 1, none⟩ (.int .i64 ((m : Int) + 1)) = w8 from Hw8.out]
     clear c1 f1
     go_quiet ((go_at_call 126; exact Calls.quiet_of_same (end_q (· == 62) s ⟨#[62]⟩ (m + 1) _ hs hml m62)))
     rw [HZ.out]
     obtain ⟨w6, hw6⟩ : ∃ w6, w8.drewN nq = w6 := ⟨_, rfl⟩
     rw [hw6]
     have Cw6 := Lib.hid (by rw [← hw6]; exact C8.out : Cur b s (m + 1) w6)
     have Kw6 := Lib.hid (by rw [← hw6]; exact K8.out.drewN _ : Kp [b] w w6)
     have Zw6 := Lib.hid (by rw [← hw6]; exact Z8.out : Zab w6 w.heap.size)
     have Ew6 := Lib.hid (by rw [← hw6]; exact E8.out.drewN _ : Env w6)
     clear hw6;clear c0 c8;have c0 := Cw6.out.c0
     go_wp2_with fail
     refine (target_k b (m + 1) z (z + 1) d s _ hs hz1 hz2 hzl Cw6.out Ew6.out hb7).mono ?_
     rintro e w9 ⟨D, S, U, H, P, a1, n1, c1, a2, n2, c2, a3, n3, c3, k9, rfl, hk9, ha9, C9, hK9⟩
     have Z9 := Lib.hid (show Zab w9 w.heap.size from Zw6.out.kp hK9 (by simp; omega))
     have K9 := Lib.hid (Kw6.out.trans hK9);have HC9 := Lib.hid C9;have Hk9 := Lib.hid hk9;have Ha9 := Lib.hid ha9;clear hK9 C9 hk9 ha9;have d0 := Z9.out.cell 0;have d1 := Z9.out.cell 1;have d2 := Z9.out.cell 2;have d3 := Z9.out.cell 3;have d4 := Z9.out.cell 4;have d5 := Z9.out.cell 5;have d6 := Z9.out.cell 6;have d7 := Z9.out.cell 7;have g0 := Z9.out.frozen 0;have g1 := Z9.out.frozen 1;have g2 := Z9.out.frozen 2;have g3 := Z9.out.frozen 3;have g4 := Z9.out.frozen 4;have g5 := Z9.out.frozen 5;have g6 := Z9.out.frozen 6;have g7 := Z9.out.frozen 7
     go_wp2_with fail
     refine bodyPost_ret (results_two rfl _ _ w.heap.size 56 _ (0, 0) _ rfl (blk8 Z9.out _ _ _ _ _ _ _ _) Tryz.underlying56 rfl infoAdr) rfl ?_
     rw [HV.out]
     exact adr_fin b w.heap.size k9 s _ w w9 _ _ _ _ _ _ _ _ _ _ _ _ _ _ _ rfl HC9.out hb1 K9.out (Nat.le_refl _) Z9.out Hk9.out Ha9.out
   ·have HV := Lib.hid (hV.trans (by rw [if_pos hx]))
    have bx : (x != 0) = true := by rw [bne_iff_ne]; exact hx
    have HX := Lib.hid hx;clear hV hx h60
    go_enter Tryz.func76, Tryz.ntmps76
    go_wp2_with fail
    refine HF.out.mono ?_
    rintro e w2 ⟨rfl, C2, hK2⟩
    have Z2 := Lib.hid (show Zab w2 w.heap.size from ZA.out.kp hK2 (by simp; omega))
    have K2 := Lib.hid (KA.out.trans hK2)
    have E2 := Lib.hid (EA.out.kp hK2 (by simp; omega))
    have HC2 := Lib.hid C2;clear hK2 C2
    go_wp2_with fail
    refine (blanks_k b 0 s _ hs (Nat.zero_le _) HC2.out).mono ?_
    rintro e w3 ⟨rfl, C3, hK3⟩
    rw [HKb.out] at C3
    have Z3 := Lib.hid (show Zab w3 w.heap.size from Z2.out.kp hK3 (by simp; omega))
    have K3 := Lib.hid (K2.out.trans hK3)
    have E3 := Lib.hid (E2.out.kp hK3 (by simp; omega))
    have c0 := C3.c0;have c1 := C3.c1;have HC3 := Lib.hid C3;clear hK3 C3
    go_wp2_with fail
    go_quiet ((go_at_call 126; exact Calls.quiet_of_same (end_q (· == 60) s ⟨#[60]⟩ K _ hs hKs m60)))
    rw [HT.out]
    obtain ⟨w4, hw4⟩ : ∃ w4, w3.drewN nq = w4 := ⟨_, rfl⟩
    rw [hw4]
    have Cw4 := Lib.hid (by rw [← hw4]; exact HC3.out : Cur b s K w4)
    have Kw4 := Lib.hid (by rw [← hw4]; exact K3.out.drewN _ : Kp [b] w w4)
    have Zw4 := Lib.hid (by rw [← hw4]; exact Z3.out : Zab w4 w.heap.size)
    have Ew4 := Lib.hid (by rw [← hw4]; exact E3.out.drewN _ : Env w4)
    clear hw4;clear c0 c1
    go_wp2_with fail
    refine (next_k b K s _ hs hKs Cw4.out).mono ?_
    rintro e w5 ⟨rfl, C5, hK5⟩
    have Z5 := Lib.hid (show Zab w5 w.heap.size from Zw4.out.kp hK5 (by simp; omega))
    have K5 := Lib.hid (Kw4.out.trans hK5)
    have E5 := Lib.hid (Ew4.out.kp hK5 (by simp; omega))
    have c0 := C5.c0;have HC5 := Lib.hid C5;have t34 := T34.out;clear hK5 C5
    go_wp2_with fail
    refine (quoted_k b K s _ hs hKs HC5.out H34.out).mono ?_
    rintro e w7 ⟨rfl, C7, hK7⟩
    rw [HR.out] at C7 ⊢
    dsimp only at C7 ⊢
    have Z7 := Lib.hid (show Zab w7 w.heap.size from Z5.out.kp hK7 (by simp; omega))
    have K7 := Lib.hid (K5.out.trans hK7)
    have E7 := Lib.hid (E5.out.kp hK7 (by simp; omega))
    have HC7 := Lib.hid C7;clear hK7 C7 c0 t34;have d0 := Z7.out.cell 0;have d1 := Z7.out.cell 1;have d2 := Z7.out.cell 2;have d3 := Z7.out.cell 3;have d4 := Z7.out.cell 4;have d5 := Z7.out.cell 5;have d6 := Z7.out.cell 6;have d7 := Z7.out.cell 7;have g0 := Z7.out.frozen 0;have g1 := Z7.out.frozen 1;have g2 := Z7.out.frozen 2;have g3 := Z7.out.frozen 3;have g4 := Z7.out.frozen 4;have g5 := Z7.out.frozen 5;have g6 := Z7.out.frozen 6;have g7 := Z7.out.frozen 7
    go_wp2_with fail
    refine bodyPost_ret (results_two rfl _ _ w.heap.size 56 _ (0, 0) _ rfl (blk8 Z7.out _ _ _ _ _ _ _ _) Tryz.underlying56 rfl infoAdr) rfl ?_
    rw [HV.out]
    exact adr_fin b w.heap.size m s _ w w7 x _ _ _ _ _ _ _ _ _ _ _ _ _ _ rfl HC7.out hb1 K7.out (Nat.le_refl _) Z7.out (fun _ => rfl) (fun h => absurd h HX.out)
  ·have T34 := Lib.hid (by rw [nxt_eq _ _ _ (by decide) (by decide)]; exact beq_eq_false_iff_ne.2 h34 : (nxt s.data.toList K == 34) = false)
   by_cases htl : t < s.size
   ·obtain ⟨d, m, x, hq⟩ : ∃ d m x, tnR s.data.toList K t = (d, m, x) := ⟨_, _, _, rfl⟩
    have HR := Lib.hid hq
    obtain ⟨hmt, hV⟩ := adr_token s.data.toList hl1 (by rw [hK]; exact h34) t (by rw [hK]; exact ht) (by rw [len_list]; exact htl) d m x (by rw [hK]; exact hq)
    have h60 : x = 0 → atB s.data.toList m = 60 := by
     intro h0
     rw [hmt h0, ← ht]
     exact end_at _ 60 _ (by rw [ht, len_list]; exact htl)
    clear hK ht hq h34 h1 hl1 hmt
    by_cases hx : x = 0
    ·have hV2 := hV.trans (by rw [if_neg (by rw [hx]; decide)])
     have h60' := h60 hx
     have hml := atB_lt s.data.toList m (by rw [h60']; decide)
     rw [len_list] at hml
     subst hx
     have bx : ((0 : Int) != 0) = false := rfl
     obtain ⟨z, hz⟩ : ∃ z, endP (· == 62) s.data.toList (m + 1) = z := ⟨_, rfl⟩
     have HZ := Lib.hid hz
     have hz1 := endP_ge (· == 62) s.data.toList (m + 1)
     have hz2 := endP_le (· == 62) s.data.toList (m + 1) (by rw [len_list]; exact hml)
     rw [hz] at hz1 hz2
     rw [len_list] at hz2
     unfold angR at hV2
     rw [hz, len_list] at hV2
     clear hV h60 h60' hz
     by_cases hzs : z = s.size
     ·have HV := Lib.hid (hV2.trans (by rw [if_pos hzs, ← hzs]))
      have bz : ((z : Int) == (s.size : Int)) = true := by rw [hzs]; exact beq_self_eq_true _
      clear hV2 hzs
      go_enter Tryz.func76, Tryz.ntmps76
      go_wp2_with fail
      refine HF.out.mono ?_
      rintro e w2 ⟨rfl, C2, hK2⟩
      have Z2 := Lib.hid (show Zab w2 w.heap.size from ZA.out.kp hK2 (by simp; omega))
      have K2 := Lib.hid (KA.out.trans hK2)
      have E2 := Lib.hid (EA.out.kp hK2 (by simp; omega))
      have HC2 := Lib.hid C2;clear hK2 C2
      go_wp2_with fail
      refine (blanks_k b 0 s _ hs (Nat.zero_le _) HC2.out).mono ?_
      rintro e w3 ⟨rfl, C3, hK3⟩
      rw [HKb.out] at C3
      have Z3 := Lib.hid (show Zab w3 w.heap.size from Z2.out.kp hK3 (by simp; omega))
      have K3 := Lib.hid (K2.out.trans hK3)
      have E3 := Lib.hid (E2.out.kp hK3 (by simp; omega))
      have c0 := C3.c0;have c1 := C3.c1;have HC3 := Lib.hid C3;clear hK3 C3
      go_wp2_with fail
      go_quiet ((go_at_call 126; exact Calls.quiet_of_same (end_q (· == 60) s ⟨#[60]⟩ K _ hs hKs m60)))
      rw [HT.out]
      obtain ⟨w4, hw4⟩ : ∃ w4, w3.drewN nq = w4 := ⟨_, rfl⟩
      rw [hw4]
      have Cw4 := Lib.hid (by rw [← hw4]; exact HC3.out : Cur b s K w4)
      have Kw4 := Lib.hid (by rw [← hw4]; exact K3.out.drewN _ : Kp [b] w w4)
      have Zw4 := Lib.hid (by rw [← hw4]; exact Z3.out : Zab w4 w.heap.size)
      have Ew4 := Lib.hid (by rw [← hw4]; exact E3.out.drewN _ : Env w4)
      clear hw4;clear c0 c1
      go_wp2_with fail
      refine (next_k b K s _ hs hKs Cw4.out).mono ?_
      rintro e w5 ⟨rfl, C5, hK5⟩
      have Z5 := Lib.hid (show Zab w5 w.heap.size from Zw4.out.kp hK5 (by simp; omega))
      have K5 := Lib.hid (Kw4.out.trans hK5)
      have E5 := Lib.hid (Ew4.out.kp hK5 (by simp; omega))
      have c0 := C5.c0;have HC5 := Lib.hid C5;have t34 := T34.out;clear hK5 C5
      go_wp2_with fail
      refine (tokenName_k b K t s _ hs hKs ht2 HC5.out).mono ?_
      rintro e w7 ⟨rfl, C7, hK7⟩
      rw [HR.out] at C7 ⊢
      dsimp only at C7 ⊢
      have Z7 := Lib.hid (show Zab w7 w.heap.size from Z5.out.kp hK7 (by simp; omega))
      have K7 := Lib.hid (K5.out.trans hK7)
      have E7 := Lib.hid (E5.out.kp hK7 (by simp; omega))
      have HC7 := Lib.hid C7;clear hK7 C7 c0 t34;have c1 := HC7.out.c1;have f1 := HC7.out.f1
      obtain ⟨w8, hw8⟩ : ∃ w8, w7.setCell ⟨b, 1, none⟩ (.int .i64 ((m : Int) + 1)) = w8 := ⟨_, rfl⟩
      have C8 := Lib.hid (by have h := HC7.out.set (m + 1); rw [Int.natCast_add] at h; rw [← hw8]; exact h : Cur b s (m + 1) w8)
      have K8 := Lib.hid (by rw [← hw8]; exact K7.out.setCell (p := ⟨b, 1, none⟩) (.inl (by simp)) _ : Kp [b] w w8)
      have Z8 := Lib.hid (by rw [← hw8]; exact Blk.far Z7.out (p := ⟨b, 1, none⟩) (by show w.heap.size ≠ b; omega) _ : Zab w8 w.heap.size)
      have E8 := Lib.hid (by rw [← hw8]; exact E7.out.kp ((Kp.refl [b] w7).setCell (p := ⟨b, 1, none⟩) (.inl (by simp)) _) (by simp; omega) : Env w8)
      have c0 := C8.out.c0;have c8 := C8.out.c1;have Hw8 := Lib.hid hw8;clear hw8
      go_wp2_with fail
      rw [show w7.setCell ⟨b, 1, none⟩ (.int .i64 ((m : Int) + 1)) = w8 from Hw8.out]
      clear c1 f1
      go_quiet ((go_at_call 126; exact Calls.quiet_of_same (end_q (· == 62) s ⟨#[62]⟩ (m + 1) _ hs hml m62)))
      rw [HZ.out]
      obtain ⟨w6, hw6⟩ : ∃ w6, w8.drewN nq = w6 := ⟨_, rfl⟩
      rw [hw6]
      have Cw6 := Lib.hid (by rw [← hw6]; exact C8.out : Cur b s (m + 1) w6)
      have Kw6 := Lib.hid (by rw [← hw6]; exact K8.out.drewN _ : Kp [b] w w6)
      have Zw6 := Lib.hid (by rw [← hw6]; exact Z8.out : Zab w6 w.heap.size)
      have Ew6 := Lib.hid (by rw [← hw6]; exact E8.out.drewN _ : Env w6)
      clear hw6;clear c0 c8;have c0 := Cw6.out.c0
      go_wp2_with fail
      refine (fail_k b (m + 1) z 5 s _ Cw6.out).mono ?_
      rintro e w9 ⟨rfl, C9, hK9⟩
      have Z9 := Lib.hid (show Zab w9 w.heap.size from Zw6.out.kp hK9 (by simp; omega))
      have K9 := Lib.hid (Kw6.out.trans hK9);have HC9 := Lib.hid C9;clear hK9 C9;have d0 := Z9.out.cell 0;have d1 := Z9.out.cell 1;have d2 := Z9.out.cell 2;have d3 := Z9.out.cell 3;have d4 := Z9.out.cell 4;have d5 := Z9.out.cell 5;have d6 := Z9.out.cell 6;have d7 := Z9.out.cell 7;have g0 := Z9.out.frozen 0;have g1 := Z9.out.frozen 1;have g2 := Z9.out.frozen 2;have g3 := Z9.out.frozen 3;have g4 := Z9.out.frozen 4;have g5 := Z9.out.frozen 5;have g6 := Z9.out.frozen 6;have g7 := Z9.out.frozen 7
      go_wp2_with fail
      refine bodyPost_ret (results_two rfl _ _ w.heap.size 56 _ (0, 0) _ rfl (blk8 Z9.out _ _ _ _ _ _ _ _) Tryz.underlying56 rfl infoAdr) rfl ?_
      rw [HV.out]
      exact adr_fin b w.heap.size z s _ w w9 5 _ _ _ _ _ _ _ _ _ _ _ _ _ _ rfl HC9.out hb1 K9.out (Nat.le_refl _) Z9.out (fun _ => rfl) (fun h => absurd h (show ¬ (5 : Int) = 0 by decide))
     ·have HV := Lib.hid (hV2.trans (by rw [if_neg hzs]))
      have bz : ((z : Int) == (s.size : Int)) = false := beq_eq_false_iff_ne.2 (by omega)
      have hzl : z < s.size := by omega
      clear hV2
      go_enter Tryz.func76, Tryz.ntmps76
      go_wp2_with fail
      refine HF.out.mono ?_
      rintro e w2 ⟨rfl, C2, hK2⟩
      have Z2 := Lib.hid (show Zab w2 w.heap.size from ZA.out.kp hK2 (by simp; omega))
      have K2 := Lib.hid (KA.out.trans hK2)
      have E2 := Lib.hid (EA.out.kp hK2 (by simp; omega))
      have HC2 := Lib.hid C2;clear hK2 C2
      go_wp2_with fail
      refine (blanks_k b 0 s _ hs (Nat.zero_le _) HC2.out).mono ?_
      rintro e w3 ⟨rfl, C3, hK3⟩
      rw [HKb.out] at C3
      have Z3 := Lib.hid (show Zab w3 w.heap.size from Z2.out.kp hK3 (by simp; omega))
      have K3 := Lib.hid (K2.out.trans hK3)
      have E3 := Lib.hid (E2.out.kp hK3 (by simp; omega))
      have c0 := C3.c0;have c1 := C3.c1;have HC3 := Lib.hid C3;clear hK3 C3
      go_wp2_with fail
      go_quiet ((go_at_call 126; exact Calls.quiet_of_same (end_q (· == 60) s ⟨#[60]⟩ K _ hs hKs m60)))
      rw [HT.out]
      obtain ⟨w4, hw4⟩ : ∃ w4, w3.drewN nq = w4 := ⟨_, rfl⟩
      rw [hw4]
      have Cw4 := Lib.hid (by rw [← hw4]; exact HC3.out : Cur b s K w4)
      have Kw4 := Lib.hid (by rw [← hw4]; exact K3.out.drewN _ : Kp [b] w w4)
      have Zw4 := Lib.hid (by rw [← hw4]; exact Z3.out : Zab w4 w.heap.size)
      have Ew4 := Lib.hid (by rw [← hw4]; exact E3.out.drewN _ : Env w4)
      clear hw4;clear c0 c1
      go_wp2_with fail
      refine (next_k b K s _ hs hKs Cw4.out).mono ?_
      rintro e w5 ⟨rfl, C5, hK5⟩
      have Z5 := Lib.hid (show Zab w5 w.heap.size from Zw4.out.kp hK5 (by simp; omega))
      have K5 := Lib.hid (Kw4.out.trans hK5)
      have E5 := Lib.hid (Ew4.out.kp hK5 (by simp; omega))
      have c0 := C5.c0;have HC5 := Lib.hid C5;have t34 := T34.out;clear hK5 C5
      go_wp2_with fail
      refine (tokenName_k b K t s _ hs hKs ht2 HC5.out).mono ?_
      rintro e w7 ⟨rfl, C7, hK7⟩
      rw [HR.out] at C7 ⊢
      dsimp only at C7 ⊢
      have Z7 := Lib.hid (show Zab w7 w.heap.size from Z5.out.kp hK7 (by simp; omega))
      have K7 := Lib.hid (K5.out.trans hK7)
      have E7 := Lib.hid (E5.out.kp hK7 (by simp; omega))
      have HC7 := Lib.hid C7;clear hK7 C7 c0 t34;have c1 := HC7.out.c1;have f1 := HC7.out.f1
      obtain ⟨w8, hw8⟩ : ∃ w8, w7.setCell ⟨b, 1, none⟩ (.int .i64 ((m : Int) + 1)) = w8 := ⟨_, rfl⟩
      have C8 := Lib.hid (by have h := HC7.out.set (m + 1); rw [Int.natCast_add] at h; rw [← hw8]; exact h : Cur b s (m + 1) w8)
      have K8 := Lib.hid (by rw [← hw8]; exact K7.out.setCell (p := ⟨b, 1, none⟩) (.inl (by simp)) _ : Kp [b] w w8)
      have Z8 := Lib.hid (by rw [← hw8]; exact Blk.far Z7.out (p := ⟨b, 1, none⟩) (by show w.heap.size ≠ b; omega) _ : Zab w8 w.heap.size)
      have E8 := Lib.hid (by rw [← hw8]; exact E7.out.kp ((Kp.refl [b] w7).setCell (p := ⟨b, 1, none⟩) (.inl (by simp)) _) (by simp; omega) : Env w8)
      have c0 := C8.out.c0;have c8 := C8.out.c1;have Hw8 := Lib.hid hw8;clear hw8
      go_wp2_with fail
      rw [show w7.setCell ⟨b, 1, none⟩ (.int .i64 ((m : Int) + 1)) = w8 from Hw8.out]
      clear c1 f1
      go_quiet ((go_at_call 126; exact Calls.quiet_of_same (end_q (· == 62) s ⟨#[62]⟩ (m + 1) _ hs hml m62)))
      rw [HZ.out]
      obtain ⟨w6, hw6⟩ : ∃ w6, w8.drewN nq = w6 := ⟨_, rfl⟩
      rw [hw6]
      have Cw6 := Lib.hid (by rw [← hw6]; exact C8.out : Cur b s (m + 1) w6)
      have Kw6 := Lib.hid (by rw [← hw6]; exact K8.out.drewN _ : Kp [b] w w6)
      have Zw6 := Lib.hid (by rw [← hw6]; exact Z8.out : Zab w6 w.heap.size)
      have Ew6 := Lib.hid (by rw [← hw6]; exact E8.out.drewN _ : Env w6)
      clear hw6;clear c0 c8;have c0 := Cw6.out.c0
      go_wp2_with fail
      refine (target_k b (m + 1) z (z + 1) d s _ hs hz1 hz2 hzl Cw6.out Ew6.out hb7).mono ?_
      rintro e w9 ⟨D, S, U, H, P, a1, n1, c1, a2, n2, c2, a3, n3, c3, k9, rfl, hk9, ha9, C9, hK9⟩
      have Z9 := Lib.hid (show Zab w9 w.heap.size from Zw6.out.kp hK9 (by simp; omega))
      have K9 := Lib.hid (Kw6.out.trans hK9);have HC9 := Lib.hid C9;have Hk9 := Lib.hid hk9;have Ha9 := Lib.hid ha9;clear hK9 C9 hk9 ha9;have d0 := Z9.out.cell 0;have d1 := Z9.out.cell 1;have d2 := Z9.out.cell 2;have d3 := Z9.out.cell 3;have d4 := Z9.out.cell 4;have d5 := Z9.out.cell 5;have d6 := Z9.out.cell 6;have d7 := Z9.out.cell 7;have g0 := Z9.out.frozen 0;have g1 := Z9.out.frozen 1;have g2 := Z9.out.frozen 2;have g3 := Z9.out.frozen 3;have g4 := Z9.out.frozen 4;have g5 := Z9.out.frozen 5;have g6 := Z9.out.frozen 6;have g7 := Z9.out.frozen 7
      go_wp2_with fail
      refine bodyPost_ret (results_two rfl _ _ w.heap.size 56 _ (0, 0) _ rfl (blk8 Z9.out _ _ _ _ _ _ _ _) Tryz.underlying56 rfl infoAdr) rfl ?_
      rw [HV.out]
      exact adr_fin b w.heap.size k9 s _ w w9 _ _ _ _ _ _ _ _ _ _ _ _ _ _ _ rfl HC9.out hb1 K9.out (Nat.le_refl _) Z9.out Hk9.out Ha9.out
    ·have HV := Lib.hid (hV.trans (by rw [if_pos hx]))
     have bx : (x != 0) = true := by rw [bne_iff_ne]; exact hx
     have HX := Lib.hid hx;clear hV hx h60
     go_enter Tryz.func76, Tryz.ntmps76
     go_wp2_with fail
     refine HF.out.mono ?_
     rintro e w2 ⟨rfl, C2, hK2⟩
     have Z2 := Lib.hid (show Zab w2 w.heap.size from ZA.out.kp hK2 (by simp; omega))
     have K2 := Lib.hid (KA.out.trans hK2)
     have E2 := Lib.hid (EA.out.kp hK2 (by simp; omega))
     have HC2 := Lib.hid C2;clear hK2 C2
     go_wp2_with fail
     refine (blanks_k b 0 s _ hs (Nat.zero_le _) HC2.out).mono ?_
     rintro e w3 ⟨rfl, C3, hK3⟩
     rw [HKb.out] at C3
     have Z3 := Lib.hid (show Zab w3 w.heap.size from Z2.out.kp hK3 (by simp; omega))
     have K3 := Lib.hid (K2.out.trans hK3)
     have E3 := Lib.hid (E2.out.kp hK3 (by simp; omega))
     have c0 := C3.c0;have c1 := C3.c1;have HC3 := Lib.hid C3;clear hK3 C3
     go_wp2_with fail
     go_quiet ((go_at_call 126; exact Calls.quiet_of_same (end_q (· == 60) s ⟨#[60]⟩ K _ hs hKs m60)))
     rw [HT.out]
     obtain ⟨w4, hw4⟩ : ∃ w4, w3.drewN nq = w4 := ⟨_, rfl⟩
     rw [hw4]
     have Cw4 := Lib.hid (by rw [← hw4]; exact HC3.out : Cur b s K w4)
     have Kw4 := Lib.hid (by rw [← hw4]; exact K3.out.drewN _ : Kp [b] w w4)
     have Zw4 := Lib.hid (by rw [← hw4]; exact Z3.out : Zab w4 w.heap.size)
     have Ew4 := Lib.hid (by rw [← hw4]; exact E3.out.drewN _ : Env w4)
     clear hw4;clear c0 c1
     go_wp2_with fail
     refine (next_k b K s _ hs hKs Cw4.out).mono ?_
     rintro e w5 ⟨rfl, C5, hK5⟩
     have Z5 := Lib.hid (show Zab w5 w.heap.size from Zw4.out.kp hK5 (by simp; omega))
     have K5 := Lib.hid (Kw4.out.trans hK5)
     have E5 := Lib.hid (Ew4.out.kp hK5 (by simp; omega))
     have c0 := C5.c0;have HC5 := Lib.hid C5;have t34 := T34.out;clear hK5 C5
     go_wp2_with fail
     refine (tokenName_k b K t s _ hs hKs ht2 HC5.out).mono ?_
     rintro e w7 ⟨rfl, C7, hK7⟩
     rw [HR.out] at C7 ⊢
     dsimp only at C7 ⊢
     have Z7 := Lib.hid (show Zab w7 w.heap.size from Z5.out.kp hK7 (by simp; omega))
     have K7 := Lib.hid (K5.out.trans hK7)
     have E7 := Lib.hid (E5.out.kp hK7 (by simp; omega))
     have HC7 := Lib.hid C7;clear hK7 C7 c0 t34;have d0 := Z7.out.cell 0;have d1 := Z7.out.cell 1;have d2 := Z7.out.cell 2;have d3 := Z7.out.cell 3;have d4 := Z7.out.cell 4;have d5 := Z7.out.cell 5;have d6 := Z7.out.cell 6;have d7 := Z7.out.cell 7;have g0 := Z7.out.frozen 0;have g1 := Z7.out.frozen 1;have g2 := Z7.out.frozen 2;have g3 := Z7.out.frozen 3;have g4 := Z7.out.frozen 4;have g5 := Z7.out.frozen 5;have g6 := Z7.out.frozen 6;have g7 := Z7.out.frozen 7
     go_wp2_with fail
     refine bodyPost_ret (results_two rfl _ _ w.heap.size 56 _ (0, 0) _ rfl (blk8 Z7.out _ _ _ _ _ _ _ _) Tryz.underlying56 rfl infoAdr) rfl ?_
     rw [HV.out]
     exact adr_fin b w.heap.size m s _ w w7 x _ _ _ _ _ _ _ _ _ _ _ _ _ _ rfl HC7.out hb1 K7.out (Nat.le_refl _) Z7.out (fun _ => rfl) (fun h => absurd h HX.out)
   ·have HV := Lib.hid ((adr_bare s.data.toList hl1 (by rw [hK]; exact h34) (by rw [hK, ht, len_list]; exact htl)).trans (by rw [hK]) : adrR s.data.toList = bareR s.data.toList K)
    clear hK ht h34 h1 hl1
    go_enter Tryz.func76, Tryz.ntmps76
    go_wp2_with fail
    refine HF.out.mono ?_
    rintro e w2 ⟨rfl, C2, hK2⟩
    have Z2 := Lib.hid (show Zab w2 w.heap.size from ZA.out.kp hK2 (by simp; omega))
    have K2 := Lib.hid (KA.out.trans hK2)
    have E2 := Lib.hid (EA.out.kp hK2 (by simp; omega))
    have HC2 := Lib.hid C2;clear hK2 C2
    go_wp2_with fail
    refine (blanks_k b 0 s _ hs (Nat.zero_le _) HC2.out).mono ?_
    rintro e w3 ⟨rfl, C3, hK3⟩
    rw [HKb.out] at C3
    have Z3 := Lib.hid (show Zab w3 w.heap.size from Z2.out.kp hK3 (by simp; omega))
    have K3 := Lib.hid (K2.out.trans hK3)
    have E3 := Lib.hid (E2.out.kp hK3 (by simp; omega))
    have c0 := C3.c0;have c1 := C3.c1;have HC3 := Lib.hid C3;clear hK3 C3
    go_wp2_with fail
    go_quiet ((go_at_call 126; exact Calls.quiet_of_same (end_q (· == 60) s ⟨#[60]⟩ K _ hs hKs m60)))
    rw [HT.out]
    obtain ⟨w4, hw4⟩ : ∃ w4, w3.drewN nq = w4 := ⟨_, rfl⟩
    rw [hw4]
    have Cw4 := Lib.hid (by rw [← hw4]; exact HC3.out : Cur b s K w4)
    have Kw4 := Lib.hid (by rw [← hw4]; exact K3.out.drewN _ : Kp [b] w w4)
    have Zw4 := Lib.hid (by rw [← hw4]; exact Z3.out : Zab w4 w.heap.size)
    have Ew4 := Lib.hid (by rw [← hw4]; exact E3.out.drewN _ : Env w4)
    clear hw4;clear c0 c1
    go_wp2_with fail
    refine (next_k b K s _ hs hKs Cw4.out).mono ?_
    rintro e w5 ⟨rfl, C5, hK5⟩
    have Z5 := Lib.hid (show Zab w5 w.heap.size from Zw4.out.kp hK5 (by simp; omega))
    have K5 := Lib.hid (Kw4.out.trans hK5)
    have E5 := Lib.hid (Ew4.out.kp hK5 (by simp; omega))
    have c0 := C5.c0;have HC5 := Lib.hid C5;have t34 := T34.out;clear hK5 C5
    go_wp2_with fail
    refine (bare_k b K s _ hs hKs HC5.out E5.out hb7).mono ?_
    rintro e w9 ⟨D, S, U, H, P, a1, n1, c1, a2, n2, c2, a3, n3, c3, k9, rfl, hk9, ha9, C9, hK9⟩
    have Z9 := Lib.hid (show Zab w9 w.heap.size from Z5.out.kp hK9 (by simp; omega))
    have K9 := Lib.hid (K5.out.trans hK9);have HC9 := Lib.hid C9;have Hk9 := Lib.hid hk9;have Ha9 := Lib.hid ha9;clear hK9 C9 hk9 ha9;have d0 := Z9.out.cell 0;have d1 := Z9.out.cell 1;have d2 := Z9.out.cell 2;have d3 := Z9.out.cell 3;have d4 := Z9.out.cell 4;have d5 := Z9.out.cell 5;have d6 := Z9.out.cell 6;have d7 := Z9.out.cell 7;have g0 := Z9.out.frozen 0;have g1 := Z9.out.frozen 1;have g2 := Z9.out.frozen 2;have g3 := Z9.out.frozen 3;have g4 := Z9.out.frozen 4;have g5 := Z9.out.frozen 5;have g6 := Z9.out.frozen 6;have g7 := Z9.out.frozen 7
    go_wp2_with fail
    refine bodyPost_ret (results_two rfl _ _ w.heap.size 56 _ (0, 0) _ rfl (blk8 Z9.out _ _ _ _ _ _ _ _) Tryz.underlying56 rfl infoAdr) rfl ?_
    rw [HV.out]
    exact adr_fin b w.heap.size k9 s _ w w9 _ _ _ _ _ _ _ _ _ _ _ _ _ _ _ rfl HC9.out hb1 K9.out (Nat.le_refl _) Z9.out Hk9.out Ha9.out
end Ad
end Go.Proofs.YtbcaindpbeaheaaGreatDoor
namespace Go.Proofs.YtbcaindpbeaheaaGreatDoor
namespace Ad
open Go.RowKit Lx
def AdrP (r : Adr × Nat × Int) (w : World) (e : Ending) (w' : World) : Prop :=
 ∃ v, e = .returned (.tuple #[v, .int .i64 r.2.1, .int .u8 r.2.2]) ∧ AdIn w'.heap.size w' v r.1 ∧ Below w.heap.size w w'
def OkA (r : Adr × Nat × Int) : Prop := (r.2.2 ≠ 0 → r.1 = nilA) ∧ (r.2.2 = 0 → r.2.1 = 0)
theorem OkA.err (n : Nat) (x : Int) (h : x ≠ 0) : OkA (nilA, n, x) := ⟨fun _ => rfl, fun h2 => absurd h2 h⟩
theorem restR_ok (l d : List UInt8) (a te tr : Nat) : OkA (restR l d a te tr) := by
 unfold restR
 split
 ·rename_i h; exact OkA.err _ _ h
 ·split
  ·rename_i h; exact OkA.err _ _ h
  ·exact ⟨fun h => absurd rfl h, fun _ => rfl⟩
theorem angR_ok (l d : List UInt8) (k : Nat) : OkA (angR l d k) := by
 unfold angR
 split
 ·exact OkA.err _ _ (by decide)
 ·exact restR_ok _ _ _ _ _
theorem adrR_ok (l : List UInt8) : OkA (adrR l) := by
 unfold adrR
 split
 ·exact OkA.err _ _ (by decide)
 ·split
  ·split
   ·rename_i h; exact OkA.err _ _ h
   ·split
    ·exact OkA.err _ _ (by decide)
    ·exact angR_ok _ _ _
  ·split
   ·split
    ·rename_i h; exact OkA.err _ _ h
    ·exact angR_ok _ _ _
   ·split
    ·exact OkA.err _ _ (by decide)
    ·exact restR_ok _ _ _ _ _
theorem adr_out (g : Nat) (w wx : World) (a : Adr) (n : Nat) (x : Int) (D S U H : ByteArray) (P : Int) (a1 : Option Addr) (n1 c1 : Nat) (a2 : Option Addr) (n2 c2 : Nat) (a3 : Option Addr) (n3 c3 : Nat) (hu : AdIn wx.heap.size wx (.agg #[.string D, .string S, .string U, .string H, .int .i64 P, .slice a1 n1 c1, .slice a2 n2 c2, .slice a3 n3 c3]) a) (K : Kp [] w wx) (hg : w.heap.size ≤ g) (Z : Zab wx g) :
   AdrP (a, n, x) w (.returned (.tuple #[.agg #[.string D, .string S, .string U, .string H, .int .i64 P, .slice a1 n1 c1, .slice a2 n2 c2, .slice a3 n3 c3], .int .i64 n, .int .u8 x])) ((((((((wx.setCell ⟨g, 0, none⟩ (.string D)).setCell ⟨g, 1, none⟩ (.string S)).setCell ⟨g, 2, none⟩ (.string U)).setCell ⟨g, 3, none⟩ (.string H)).setCell ⟨g, 4, none⟩ (.int .i64 P)).setCell ⟨g, 5, none⟩ (.slice a1 n1 c1)).setCell ⟨g, 6, none⟩ (.slice a2 n2 c2)).setCell ⟨g, 7, none⟩ (.slice a3 n3 c3)) :=
 ⟨_, rfl, hu.grow (kp8 (Kp.refl [g] wx) (g := g) (.inl (by simp)) _ _ _ _ _ _ _ _) (by intro y hy; rw [List.mem_singleton.1 hy]; exact Z.nob), (kp8 K (.inr hg) _ _ _ _ _ _ _ _).nilBelow⟩
theorem AdIn.kpn {w w' : World} {v : Value} {a : Adr} (h : AdIn w.heap.size w v a) (k : Kp [] w w') : AdIn w'.heap.size w' v a := h.grow k (by intro y hy; cases hy)
theorem AdrP.drew {r : Adr × Nat × Int} {w w' : World} {e : Ending} (h : AdrP r w e w') : AdrP r w e w'.drew := by
 obtain ⟨v, he, hu, hB⟩ := h
 exact ⟨v, he, hu.kpn (Kp.drew (Kp.refl [] _)), hB.drew⟩
theorem AdIn.nil (B : Nat) (w : World) : AdIn B w (.agg #[.string ⟨#[]⟩, .string ⟨#[]⟩, .string ⟨#[]⟩, .string ⟨#[]⟩, .int .i64 0, .slice none 0 0, .slice none 0 0, .slice none 0 0]) nilA := ⟨_, _, _, rfl, PmIn.nil _ _, PmIn.nil _ _, PmIn.nil _ _⟩
set_option maxRecDepth 100000 in
set_option maxHeartbeats 4000000 in
theorem readA_any (s : ByteArray) (w : World) (hs : s.size ≤ 2097152) (E : Env w) :
   Calls Tryz.prog 75 #[.string s, .func (.func 76) #[] #[]] w (AdrP (adrR s.data.toList) w) := by
 have ent : ∀ (args : Array Value) (w : World), Sem.run Tryz.prog (callFunc 76 args) w = .ok (.enter 76 args) w := enters_of Tryz.func76 (by kernel_rfl) rfl
 have Ent := Lib.hid ent
 have KA := Lib.hid ((Kp.refl [] w).alloc (.cells #[.string ⟨#[]⟩, .string ⟨#[]⟩, .string ⟨#[]⟩, .string ⟨#[]⟩, .int .i64 0, .slice none 0 0, .slice none 0 0, .slice none 0 0] 56))
 have ZA : Zab (w.alloc (.cells #[.string ⟨#[]⟩, .string ⟨#[]⟩, .string ⟨#[]⟩, .string ⟨#[]⟩, .int .i64 0, .slice none 0 0, .slice none 0 0, .slice none 0 0] 56)) w.heap.size := Blk.new w 56 _
 have hsA : (w.alloc (.cells #[.string ⟨#[]⟩, .string ⟨#[]⟩, .string ⟨#[]⟩, .string ⟨#[]⟩, .int .i64 0, .slice none 0 0, .slice none 0 0, .slice none 0 0] 56)).heap.size = w.heap.size + 1 := by simp
 have CB0 := curNew (w.alloc (.cells #[.string ⟨#[]⟩, .string ⟨#[]⟩, .string ⟨#[]⟩, .string ⟨#[]⟩, .int .i64 0, .slice none 0 0, .slice none 0 0, .slice none 0 0] 56)) s
 rw [hsA] at CB0
 have CB := Lib.hid CB0
 have KB := Lib.hid (KA.out.alloc (.cells #[.string s, .int .i64 0] 158))
 have ZB := Lib.hid (Blk.alloc ZA (.cells #[.string s, .int .i64 0] 158))
 have EB := Lib.hid (E.kp KB.out (by simp))
 have hb7 := E.sz
 obtain ⟨hF, hF0⟩ := adrR_ok s.data.toList
 obtain ⟨u, n, x, hr⟩ : ∃ a b c, adrR s.data.toList = (a, b, c) := ⟨_, _, _, rfl⟩
 rw [hr] at hF hF0
 have HR := Lib.hid hr;have HF := Lib.hid hF;clear hr ent hF E CB0 ZA hsA
 rw [HR.out]
 go_enter Tryz.func75, Tryz.ntmps75
 go_wp2_with fail
 refine (address_k (w.heap.size + 1) s _ hs CB.out EB.out (by omega)).mono ?_
 rintro e w1 ⟨D, S, U, H, P, a1, n1, c1, a2, n2, c2, a3, n3, c3, k', rfl, hk, hu, hC, hK⟩
 rw [HR.out] at hk hu ⊢
 dsimp only at hk hu ⊢
 have Z1 : Zab w1 w.heap.size := ZB.out.kp hK (by simp)
 have hs1a := hK.size
 have hs1 : w.heap.size + 2 ≤ w1.heap.size := by simpa using hs1a
 have B8 := Lib.hid (Blk.new w1 56 #[.string D, .string S, .string U, .string H, .int .i64 P, .slice a1 n1 c1, .slice a2 n2 c2, .slice a3 n3 c3])
 have Z8 := Lib.hid (Blk.alloc Z1 (.cells #[.string D, .string S, .string U, .string H, .int .i64 P, .slice a1 n1 c1, .slice a2 n2 c2, .slice a3 n3 c3] 56))
 have C8 := Lib.hid (hC.alloc (.cells #[.string D, .string S, .string U, .string H, .int .i64 P, .slice a1 n1 c1, .slice a2 n2 c2, .slice a3 n3 c3] 56))
 have K8 := Lib.hid ((KB.out.to_ hK (by intro y hy; simp at hy; right; omega)).alloc (.cells #[.string D, .string S, .string U, .string H, .int .i64 P, .slice a1 n1 c1, .slice a2 n2 c2, .slice a3 n3 c3] 56))
 have Hk := Lib.hid hk;have Hu := Lib.hid hu;clear hk hu hC hK Z1 hs1a
 by_cases hx : x = 0
 ·subst hx
  have bx : ((0 : Int) != 0) = false := rfl
  have hn0 := hF0 rfl
  subst hn0
  have u0 := B8.out.cell 0;have u1 := B8.out.cell 1;have u2 := B8.out.cell 2;have u3 := B8.out.cell 3;have u4 := B8.out.cell 4;have u5 := B8.out.cell 5;have u6 := B8.out.cell 6;have u7 := B8.out.cell 7;have d0 := Z8.out.cell 0;have d1 := Z8.out.cell 1;have d2 := Z8.out.cell 2;have d3 := Z8.out.cell 3;have d4 := Z8.out.cell 4;have d5 := Z8.out.cell 5;have d6 := Z8.out.cell 6;have d7 := Z8.out.cell 7;have g0 := Z8.out.frozen 0;have g1 := Z8.out.frozen 1;have g2 := Z8.out.frozen 2;have g3 := Z8.out.frozen 3;have g4 := Z8.out.frozen 4;have g5 := Z8.out.frozen 5;have g6 := Z8.out.frozen 6;have g7 := Z8.out.frozen 7
  go_wp2_with fail
  refine bodyPost_ret (results_three rfl _ _ w.heap.size 56 _ (0, 0) _ rfl (blk8 Z8.out _ _ _ _ _ _ _ _) Tryz.underlying56 rfl infoAdr) rfl ?_
  exact adr_out w.heap.size w _ u 0 0 _ _ _ _ _ _ _ _ _ _ _ _ _ _ ((Hu.out (by trivial)).kpn ((Kp.refl [] w1).alloc _)) K8.out (Nat.le_refl _) Z8.out
 ·have bx : (x != 0) = true := by rw [bne_iff_ne]; exact hx
  have HX := Lib.hid hx;clear hx hF0
  have h8s : (w1.alloc (.cells #[.string D, .string S, .string U, .string H, .int .i64 P, .slice a1 n1 c1, .slice a2 n2 c2, .slice a3 n3 c3] 56)).heap.size = w1.heap.size + 1 := by simp
  have B9 := Blk.new (w1.alloc (.cells #[.string D, .string S, .string U, .string H, .int .i64 P, .slice a1 n1 c1, .slice a2 n2 c2, .slice a3 n3 c3] 56)) 56 #[.string ⟨#[]⟩, .string ⟨#[]⟩, .string ⟨#[]⟩, .string ⟨#[]⟩, .int .i64 0, .slice none 0 0, .slice none 0 0, .slice none 0 0]
  rw [h8s] at B9
  have B9 := Lib.hid B9
  have Z9 := Lib.hid (Blk.alloc Z8.out (.cells #[.string ⟨#[]⟩, .string ⟨#[]⟩, .string ⟨#[]⟩, .string ⟨#[]⟩, .int .i64 0, .slice none 0 0, .slice none 0 0, .slice none 0 0] 56))
  have C9 := Lib.hid (Cur.alloc C8.out (.cells #[.string ⟨#[]⟩, .string ⟨#[]⟩, .string ⟨#[]⟩, .string ⟨#[]⟩, .int .i64 0, .slice none 0 0, .slice none 0 0, .slice none 0 0] 56))
  have K9 := Lib.hid (K8.out.alloc (.cells #[.string ⟨#[]⟩, .string ⟨#[]⟩, .string ⟨#[]⟩, .string ⟨#[]⟩, .int .i64 0, .slice none 0 0, .slice none 0 0, .slice none 0 0] 56))
  clear h8s
  go_wp2_with fail
  obtain ⟨w9, hw9⟩ : ∃ w9, (w1.alloc (.cells #[.string D, .string S, .string U, .string H, .int .i64 P, .slice a1 n1 c1, .slice a2 n2 c2, .slice a3 n3 c3] 56)).alloc (.cells #[.string ⟨#[]⟩, .string ⟨#[]⟩, .string ⟨#[]⟩, .string ⟨#[]⟩, .int .i64 0, .slice none 0 0, .slice none 0 0, .slice none 0 0] 56) = w9 := ⟨_, rfl⟩
  rw [hw9] at B9 Z9 C9 K9 ⊢
  clear hw9;have u0 := B9.out.cell 0;have u1 := B9.out.cell 1;have u2 := B9.out.cell 2;have u3 := B9.out.cell 3;have u4 := B9.out.cell 4;have u5 := B9.out.cell 5;have u6 := B9.out.cell 6;have u7 := B9.out.cell 7;have d0 := Z9.out.cell 0;have d1 := Z9.out.cell 1;have d2 := Z9.out.cell 2;have d3 := Z9.out.cell 3;have d4 := Z9.out.cell 4;have d5 := Z9.out.cell 5;have d6 := Z9.out.cell 6;have d7 := Z9.out.cell 7;have g0 := Z9.out.frozen 0;have g1 := Z9.out.frozen 1;have g2 := Z9.out.frozen 2;have g3 := Z9.out.frozen 3;have g4 := Z9.out.frozen 4;have g5 := Z9.out.frozen 5;have g6 := Z9.out.frozen 6;have g7 := Z9.out.frozen 7;have c1' := C9.out.c1
  go_region
  all_goals
   go_wp2_with fail
   refine bodyPost_ret (results_three rfl _ _ w.heap.size 56 _ (0, 0) _ rfl (Blk.drew (blk8 Z9.out _ _ _ _ _ _ _ _)) Tryz.underlying56 rfl infoAdr) rfl ?_
   rw [show u = nilA from HF.out HX.out, ← show k' = n from Hk.out HX.out]
   exact (adr_out w.heap.size w w9 nilA k' x _ _ _ _ _ _ _ _ _ _ _ _ _ _ (AdIn.nil _ _) K9.out (Nat.le_refl _) Z9.out).drew
set_option maxRecDepth 100000 in
set_option maxHeartbeats 1000000 in
theorem ParseAddress_any (s : ByteArray) (w : World) (hs : s.size ≤ 2097152) (E : Env w) :
   Calls Tryz.prog 43 #[.string s] w (AdrP (adrR s.data.toList) w) := by
 obtain ⟨u, n, x, hr⟩ : ∃ a b c, adrR s.data.toList = (a, b, c) := ⟨_, _, _, rfl⟩
 have KA := Lib.hid ((Kp.refl [] w).alloc (.cells #[.string ⟨#[]⟩, .string ⟨#[]⟩, .string ⟨#[]⟩, .string ⟨#[]⟩, .int .i64 0, .slice none 0 0, .slice none 0 0, .slice none 0 0] 56))
 have ZA := Lib.hid (show Zab (w.alloc (.cells #[.string ⟨#[]⟩, .string ⟨#[]⟩, .string ⟨#[]⟩, .string ⟨#[]⟩, .int .i64 0, .slice none 0 0, .slice none 0 0, .slice none 0 0] 56)) w.heap.size from Blk.new w 56 _)
 have HR := Lib.hid (readA_any s (w.alloc (.cells #[.string ⟨#[]⟩, .string ⟨#[]⟩, .string ⟨#[]⟩, .string ⟨#[]⟩, .int .i64 0, .slice none 0 0, .slice none 0 0, .slice none 0 0] 56)) hs (E.kp KA.out (by simp)))
 rw [hr] at HR ⊢
 clear hr E
 go_enter Tryz.func43, Tryz.ntmps43
 go_wp2_with fail
 refine HR.out.mono ?_
 rintro e w1 ⟨v, rfl, hu, hB⟩
 have Hu := Lib.hid hu;have hs1 := hB.size
 have hK1 := (Kp.refl [] (w.alloc (.cells #[.string ⟨#[]⟩, .string ⟨#[]⟩, .string ⟨#[]⟩, .string ⟨#[]⟩, .int .i64 0, .slice none 0 0, .slice none 0 0, .slice none 0 0] 56))).below hB
 have Z1 := Lib.hid (show Zab w1 w.heap.size from ZA.out.kp hK1 (by simp))
 have K1 := Lib.hid (KA.out.trans hK1)
 obtain ⟨vp, vh, vq, rfl, hp, hh, hq⟩ := hu
 obtain ⟨a1, c1, rfl⟩ := hp.form
 obtain ⟨a2, c2, rfl⟩ := hh.form
 obtain ⟨a3, c3, rfl⟩ := hq.form
 clear hB hp hh hq hK1
 dsimp only at Hu ⊢
 have d0 := Z1.out.cell 0;have d1 := Z1.out.cell 1;have d2 := Z1.out.cell 2;have d3 := Z1.out.cell 3;have d4 := Z1.out.cell 4;have d5 := Z1.out.cell 5;have d6 := Z1.out.cell 6;have d7 := Z1.out.cell 7;have g0 := Z1.out.frozen 0;have g1 := Z1.out.frozen 1;have g2 := Z1.out.frozen 2;have g3 := Z1.out.frozen 3;have g4 := Z1.out.frozen 4;have g5 := Z1.out.frozen 5;have g6 := Z1.out.frozen 6;have g7 := Z1.out.frozen 7
 go_wp2_with fail
 refine bodyPost_ret (results_three rfl _ _ w.heap.size 56 _ (0, 0) _ rfl (blk8 Z1.out _ _ _ _ _ _ _ _) Tryz.underlying56 rfl infoAdr) rfl ?_
 exact adr_out w.heap.size w w1 u n x _ _ _ _ _ _ _ _ _ _ _ _ _ _ Hu.out K1.out (Nat.le_refl _) Z1.out
end Ad
end Go.Proofs.YtbcaindpbeaheaaGreatDoor
namespace Go.Proofs.YtbcaindpbeaheaaGreatDoor
namespace Ad
open Go.RowKit Lx
def BoK (x : Bool) (w : World) (e : Ending) (w' : World) : Prop := e = .returned (.bool x) ∧ Kp [] w w'
theorem txt_beq (a b : List UInt8) (h : a ≠ b) : ((Txt a).toList == (Txt b).toList) = false := by
 rw [Lib.toList_data, Lib.toList_data, beq_eq_false_iff_ne]; exact h
theorem txt_beqT (a b : List UInt8) (h : a = b) : ((Txt a).toList == (Txt b).toList) = true := by rw [h]; exact beq_self_eq_true _
end Ad
end Go.Proofs.YtbcaindpbeaheaaGreatDoor
namespace Go.Proofs.YtbcaindpbeaheaaGreatDoor
namespace Ad
open Go.RowKit Lx
def UBox (w : World) (g : Nat) (u : Uri) : Prop := ∃ (a1 : Option Addr) (c1 : Nat) (a2 : Option Addr) (c2 : Nat),
 Blk w g 54 #[.string (Txt u.scheme), .string (Txt u.user), .string (Txt u.host), .int .i64 u.port, .slice a1 u.params.length c1, .slice a2 u.heads.length c2] ∧ PmIn w.heap.size w (.slice a1 u.params.length c1) u.params ∧ PmIn w.heap.size w (.slice a2 u.heads.length c2) u.heads
theorem UBox.kpn {w w' : World} {g : Nat} {u : Uri} (h : UBox w g u) (k : Kp [] w w') : UBox w' g u := by
 obtain ⟨a1, c1, a2, c2, hb, h1, h2⟩ := h
 exact ⟨a1, c1, a2, c2, hb.kp k (by simp), h1.grow k (by intro y hy; cases hy), h2.grow k (by intro y hy; cases hy)⟩
theorem UBox.new {w : World} {S U H : ByteArray} {P : Int} {a1 : Option Addr} {n1 c1 : Nat} {a2 : Option Addr} {n2 c2 : Nat} {u : Uri} (h : UriIn w.heap.size w (.agg #[.string S, .string U, .string H, .int .i64 P, .slice a1 n1 c1, .slice a2 n2 c2]) u) :
   UBox (w.alloc (.cells #[.string S, .string U, .string H, .int .i64 P, .slice a1 n1 c1, .slice a2 n2 c2] 54)) w.heap.size u := by
 obtain ⟨vp, vh, he, hp, hh⟩ := h
 injection he with he
 simp only [Array.mk.injEq, List.cons.injEq, and_true] at he
 obtain ⟨e1, e2, e3, e4, e5, e6⟩ := he
 subst e5 e6
 obtain ⟨A1, C1, f1⟩ := hp.form
 obtain ⟨A2, C2, f2⟩ := hh.form
 have k := (Kp.refl [] w).alloc (.cells #[.string S, .string U, .string H, .int .i64 P, .slice a1 n1 c1, .slice a2 n2 c2] 54)
 have hp' := hp.grow k (by intro y hy; cases hy)
 have hh' := hh.grow k (by intro y hy; cases hy)
 have hB := Blk.new w 54 #[.string S, .string U, .string H, .int .i64 P, .slice a1 n1 c1, .slice a2 n2 c2]
 rw [e1, e2, e3, e4, f1, f2] at hB
 rw [f1] at hp'
 rw [f2] at hh'
 injection f1 with f11 f12 f13
 injection f2 with f21 f22 f23
 subst f11 f12 f13 f21 f22 f23
 rw [← e1, ← e2, ← e3, ← e4] at hB
 exact ⟨_, _, _, _, by rw [e1, e2, e3, e4] at hB; rw [e1, e2, e3, e4]; exact hB, by rw [e1, e2, e3, e4] at hp'; rw [e1, e2, e3, e4]; exact hp', by rw [e1, e2, e3, e4] at hh'; rw [e1, e2, e3, e4]; exact hh'⟩
theorem UBox.in {w : World} {g : Nat} {u : Uri} (h : UBox w g u) : ∃ (a1 : Option Addr) (c1 : Nat) (a2 : Option Addr) (c2 : Nat),
   (∀ i, w.cell? ⟨g, i, none⟩ = #[Value.string (Txt u.scheme), .string (Txt u.user), .string (Txt u.host), .int .i64 u.port, .slice a1 u.params.length c1, .slice a2 u.heads.length c2][i]?) ∧ UriIn w.heap.size w (.agg #[.string (Txt u.scheme), .string (Txt u.user), .string (Txt u.host), .int .i64 u.port, .slice a1 u.params.length c1, .slice a2 u.heads.length c2]) u := by
 obtain ⟨a1, c1, a2, c2, hb, h1, h2⟩ := h
 exact ⟨a1, c1, a2, c2, fun i => hb.cell i, _, _, rfl, h1, h2⟩
theorem PmIn.blk {w : World} {g : Nat} {t : TypeId} {l : List Prm} (h : Blk w g t (pcl l).toArray) : PmIn w.heap.size w (.slice (some ⟨g, 0, none⟩) l.length l.length) l :=
 ⟨_, _, rfl, Nat.le_refl _, .inr ⟨g, 0, rfl, h.lt, fun j u hu => by rw [Nat.zero_add, h.cell j]; simpa using hu⟩⟩
def ABox (w : World) (g : Nat) (a : Adr) : Prop := ∃ (a1 : Option Addr) (c1 : Nat) (a2 : Option Addr) (c2 : Nat) (a3 : Option Addr) (c3 : Nat),
 Blk w g 56 #[.string (Txt a.display), .string (Txt a.uri.scheme), .string (Txt a.uri.user), .string (Txt a.uri.host), .int .i64 a.uri.port, .slice a1 a.uri.params.length c1, .slice a2 a.uri.heads.length c2, .slice a3 a.params.length c3] ∧ PmIn w.heap.size w (.slice a1 a.uri.params.length c1) a.uri.params ∧ PmIn w.heap.size w (.slice a2 a.uri.heads.length c2) a.uri.heads ∧ PmIn w.heap.size w (.slice a3 a.params.length c3) a.params
theorem ABox.kpn {w w' : World} {g : Nat} {a : Adr} (h : ABox w g a) (k : Kp [] w w') : ABox w' g a := by
 obtain ⟨a1, c1, a2, c2, a3, c3, hb, h1, h2, h3⟩ := h
 exact ⟨a1, c1, a2, c2, a3, c3, hb.kp k (by simp), h1.grow k (by intro y hy; cases hy), h2.grow k (by intro y hy; cases hy), h3.grow k (by intro y hy; cases hy)⟩
theorem ABox.new {w : World} {a : Adr} {a1 : Option Addr} {c1 : Nat} {a2 : Option Addr} {c2 : Nat} {a3 : Option Addr} {c3 : Nat} (h1 : PmIn w.heap.size w (.slice a1 a.uri.params.length c1) a.uri.params) (h2 : PmIn w.heap.size w (.slice a2 a.uri.heads.length c2) a.uri.heads) (h3 : PmIn w.heap.size w (.slice a3 a.params.length c3) a.params) :
   ABox (w.alloc (.cells #[.string (Txt a.display), .string (Txt a.uri.scheme), .string (Txt a.uri.user), .string (Txt a.uri.host), .int .i64 a.uri.port, .slice a1 a.uri.params.length c1, .slice a2 a.uri.heads.length c2, .slice a3 a.params.length c3] 56)) w.heap.size a := by
 have k := (Kp.refl [] w).alloc (.cells #[.string (Txt a.display), .string (Txt a.uri.scheme), .string (Txt a.uri.user), .string (Txt a.uri.host), .int .i64 a.uri.port, .slice a1 a.uri.params.length c1, .slice a2 a.uri.heads.length c2, .slice a3 a.params.length c3] 56)
 exact ⟨a1, c1, a2, c2, a3, c3, Blk.new w _ _, h1.grow k (by intro y hy; cases hy), h2.grow k (by intro y hy; cases hy), h3.grow k (by intro y hy; cases hy)⟩
theorem ABox.in {w : World} {g : Nat} {a : Adr} (h : ABox w g a) : ∃ (a1 : Option Addr) (c1 : Nat) (a2 : Option Addr) (c2 : Nat) (a3 : Option Addr) (c3 : Nat),
   (∀ i, w.cell? ⟨g, i, none⟩ = #[Value.string (Txt a.display), .string (Txt a.uri.scheme), .string (Txt a.uri.user), .string (Txt a.uri.host), .int .i64 a.uri.port, .slice a1 a.uri.params.length c1, .slice a2 a.uri.heads.length c2, .slice a3 a.params.length c3][i]?) ∧ UriIn w.heap.size w (.agg #[.string (Txt a.uri.scheme), .string (Txt a.uri.user), .string (Txt a.uri.host), .int .i64 a.uri.port, .slice a1 a.uri.params.length c1, .slice a2 a.uri.heads.length c2]) a.uri ∧ PmIn w.heap.size w (.slice a3 a.params.length c3) a.params := by
 obtain ⟨a1, c1, a2, c2, a3, c3, hb, h1, h2, h3⟩ := h
 exact ⟨a1, c1, a2, c2, a3, c3, fun i => hb.cell i, ⟨_, _, rfl, h1, h2⟩, h3⟩
end Ad
end Go.Proofs.YtbcaindpbeaheaaGreatDoor
namespace Go.Proofs.YtbcaindpbeaheaaGreatDoor
namespace Ad
open Lx
def SzL (m : Nat) (l : List Prm) : Prop := ∀ p ∈ l, p.1.length ≤ m ∧ p.2.1.length ≤ m
theorem slc_lel (l : List UInt8) (a b : Nat) : (slc l a b).length ≤ l.length := by unfold slc; simp; omega
theorem wrd_slc (k : Int) (l : List UInt8) (a b : Nat) : (wrdR k (slc l a b)).1.length ≤ l.length := Nat.le_trans (wrdR_len k _ _ (Nat.le_refl _)) (slc_lel l a b)
theorem prR_sz (cls : Int) (l : List UInt8) (k te : Nat) : (prR cls l k te).1.1.length ≤ l.length ∧ (prR cls l k te).1.2.1.length ≤ l.length := by
 unfold prR
 split
 ·simp
 ·split
  ·simp
  ·split
   ·split
    ·simp
    ·dsimp only; rw [lowL_len]; exact ⟨wrd_slc _ _ _ _, by simp⟩
   ·split
    ·simp
    ·split
     ·simp
     ·dsimp only; rw [lowL_len]; exact ⟨wrd_slc _ _ _ _, wrd_slc _ _ _ _⟩
theorem prsF_sz (bg ends : Int → Bool) (cls : Int) (l : List UInt8) : ∀ (n k : Nat) (acc : List Prm), SzL l.length acc → SzL l.length (prsF bg ends cls n l k acc).1 := by
 intro n
 induction n with
 | zero => intro k acc h; exact h
 | succ n ih =>
   intro k acc h
   rw [prsF]
   split
   ·exact h
   ·split
    ·intro p hp; cases hp
    ·split
     ·intro p hp; cases hp
     ·refine ih _ _ ?_
      intro p hp
      rcases List.mem_append.1 hp with hp | hp
      ·exact h p hp
      ·rw [List.mem_singleton.1 hp]; exact prR_sz _ _ _ _
theorem srt_szl (m : Nat) (l : List Prm) (h : SzL m l) : SzL m (srt l) := fun p hp => h p ((srt_perm l).mem_iff.1 hp)
theorem prms_sz (ends : Int → Bool) (l : List UInt8) (k : Nat) : SzL l.length (srt (prmsR ends l k).1) := srt_szl _ _ (prsF_sz _ _ _ _ _ _ _ (fun p hp => by cases hp))
theorem heads_sz (l : List UInt8) (k : Nat) : SzL l.length (srt (headsR l k).1) := srt_szl _ _ (prsF_sz _ _ _ _ _ _ _ (fun p hp => by cases hp))
theorem usrR_sz (l : List UInt8) (k : Nat) : (usrR l k).1.length ≤ l.length := by
 unfold usrR
 split
 ·simp
 ·split
  ·simp
  ·split
   ·simp
   ·exact wrd_slc _ _ _ _
theorem telR_sz (l : List UInt8) (k : Nat) : (telR l k).1.length ≤ l.length + 1 := by
 have a1 := (telS_le false (slc l (k + 1) (endP (· == 59) l k))).1
 have a2 := (telS_le false (slc l (k + 1) (endP (· == 59) l k))).2
 have b1 := (telS_le true (slc l k (endP (· == 59) l k))).1
 have b2 := (telS_le true (slc l k (endP (· == 59) l k))).2
 have c1 := slc_lel l (k + 1) (endP (· == 59) l k)
 have c2 := slc_lel l k (endP (· == 59) l k)
 unfold telR
 split
 ·split
  ·simp
  ·split
   ·simp
   ·split
    ·simp
    ·dsimp only; rw [List.length_cons]; omega
 ·split
  ·simp
  ·split
   ·simp
   ·split
    ·simp
    ·dsimp only; omega
theorem hstR_sz (l : List UInt8) (k : Nat) : (hstR l k).1.length ≤ l.length + 86 := by
 unfold hstR
 split
 ·rename_i h hh
  have := hostO_len _ _ hh
  have := slc_lel l k (hstTo l k)
  dsimp only; omega
 ·simp
structure SzB (m : Nat) (u : Uri) : Prop where
 scheme : u.scheme.length ≤ 4
 user : u.user.length ≤ m + 1
 host : u.host.length ≤ m + 86
 params : u.params.length ≤ 16
 heads : u.heads.length ≤ 16
 ps : SzL m u.params
 hs : SzL m u.heads
theorem sipR_sz (s l : List UInt8) (k : Nat) : (sipR s l k).1.user.length ≤ l.length ∧ (sipR s l k).1.host.length ≤ l.length + 86 ∧ SzL l.length (sipR s l k).1.params ∧ SzL l.length (sipR s l k).1.heads := by
 have hn : ∀ (m : Nat), SzL m nilU.params ∧ SzL m nilU.heads := fun m => ⟨fun p hp => (by cases hp), fun p hp => (by cases hp)⟩
 unfold sipR
 split
 ·exact ⟨by simp [nilU], by simp [nilU], (hn _).1, (hn _).2⟩
 ·split
  ·exact ⟨by simp [nilU], by simp [nilU], (hn _).1, (hn _).2⟩
  ·split
   ·exact ⟨by simp [nilU], by simp [nilU], (hn _).1, (hn _).2⟩
   ·split
    ·exact ⟨by simp [nilU], by simp [nilU], (hn _).1, (hn _).2⟩
    ·split
     ·exact ⟨by simp [nilU], by simp [nilU], (hn _).1, (hn _).2⟩
     ·exact ⟨usrR_sz _ _, hstR_sz _ _, prms_sz _ _ _, heads_sz _ _⟩
theorem telU_sz (l : List UInt8) (k : Nat) : (telU l k).1.user.length ≤ l.length + 1 ∧ (telU l k).1.host.length ≤ l.length + 86 ∧ SzL l.length (telU l k).1.params ∧ SzL l.length (telU l k).1.heads := by
 have hn : ∀ (m : Nat), SzL m nilU.params ∧ SzL m nilU.heads := fun m => ⟨fun p hp => (by cases hp), fun p hp => (by cases hp)⟩
 unfold telU
 split
 ·exact ⟨by simp [nilU], by simp [nilU], (hn _).1, (hn _).2⟩
 ·split
  ·exact ⟨by simp [nilU], by simp [nilU], (hn _).1, (hn _).2⟩
  ·exact ⟨telR_sz _ _, by simp, prms_sz _ _ _, (hn _).2⟩
theorem parse_sz (l : List UInt8) (h : (parse l).2.2 = 0) : SzB l.length (parse l).1 := by
 have hN := (parse_NF l h).1
 have hs : (parse l).1.scheme.length ≤ 4 := by
  rcases hN.kind with ⟨hk | hk, _⟩ | ⟨hk, _⟩ <;> rw [hk] <;> decide
 have key : (parse l).1.user.length ≤ l.length + 1 ∧ (parse l).1.host.length ≤ l.length + 86 ∧ SzL l.length (parse l).1.params ∧ SzL l.length (parse l).1.heads := by
  have hn : ∀ (m : Nat), SzL m nilU.params ∧ SzL m nilU.heads := fun m => ⟨fun p hp => (by cases hp), fun p hp => (by cases hp)⟩
  unfold parse
  split
  ·exact ⟨by simp [nilU], by simp [nilU], (hn _).1, (hn _).2⟩
  ·split
   ·exact ⟨by simp [nilU], by simp [nilU], (hn _).1, (hn _).2⟩
   ·split
    ·obtain ⟨a, b, c, d⟩ := sipR_sz (lowL (l.take (endP (· == 58) l 0))) l (endP (· == 58) l 0 + 1)
     exact ⟨by omega, b, c, d⟩
    ·split
     ·exact telU_sz _ _
     ·exact ⟨by simp [nilU], by simp [nilU], (hn _).1, (hn _).2⟩
 exact ⟨hs, key.1, key.2.1, hN.params.len, hN.heads.len, key.2.2.1, key.2.2.2⟩
theorem parse_short (l : List UInt8) (h : (parse l).2.2 = 0) : l.length ≤ 1024 := by
 refine Nat.le_of_not_lt fun hlt => ?_
 unfold parse at h
 rw [if_pos hlt] at h
 exact absurd h (show ¬ (4 : Int) = 0 by decide)
theorem SzB.szU {m : Nat} {u : Uri} (h : SzB m u) (hm : m ≤ 1048000) : SzU u ∧ u.host.length ≤ 1048576 := by
 have h1 := h.scheme; have h2 := h.user; have h3 := h.host; have h4 := h.params; have h5 := h.heads
 exact ⟨⟨by omega, by omega, by omega, by omega, by omega, fun p hp => by have := h.ps p hp; omega, fun p hp => by have := h.hs p hp; omega⟩, by omega⟩
end Ad
end Go.Proofs.YtbcaindpbeaheaaGreatDoor
namespace Go.Proofs.YtbcaindpbeaheaaGreatDoor
namespace Ad
open Go.RowKit Lx
theorem runL_full (p : Int → Bool) (l : List UInt8) : runL p l = l.length ↔ (l.all fun c => p c.toNat) = true := by
 induction l with
 | nil => simp [runL]
 | cons c t ih =>
   have := runL_le p t
   simp only [runL, List.all_cons, List.length_cons, Bool.and_eq_true]
   cases hc : p c.toNat
   ·simp
   ·simp only [if_true, true_and, ← ih]; omega
theorem tokenB_eq (s : ByteArray) : tokenB s = tokB s.data.toList := by
 unfold tokenB tokB
 have e : bhd tokI s 0 = runL tokI s.data.toList := by unfold bhd; rw [List.drop_zero, Nat.zero_add]
 have hl := len_list s
 rw [e, hl]
 congr 1
 rw [Bool.eq_iff_iff, decide_eq_true_iff, ← runL_full, hl]
theorem tok_n (l : List UInt8) (w : World) (hs : l.length ≤ 2097152) : Calls Tryz.prog 13 #[.string (Txt l)] w (Ret (.bool (tokB l)) w) := by
 have := token_any (Txt l) w (by rw [txt_size]; unfold maxLen; omega)
 rw [tokenB_eq, txt_list] at this
 exact this
theorem hasP_n (l : List UInt8) (w : World) : Calls Tryz.prog 54 #[.string (Txt l), .string ⟨#[91]⟩] w (Ret (.bool (decide (l.head? = some 91))) w) := by
 have := hasP_any (Txt l) w
 rw [txt_list] at this
 exact this
def TxP (l : List UInt8) (w : World) (e : Ending) (w' : World) : Prop := e = .returned (.string (Txt l)) ∧ Below w.heap.size w w'
set_option maxRecDepth 100000 in
set_option maxHeartbeats 2000000 in
theorem printValue_any (l : List UInt8) (w : World) (hs : l.length ≤ 2097152) (hc : hasCtl l = false) (E : Env w) : Calls Tryz.prog 83 #[.string (Txt l)] w (TxP (pvL l) w) := by
 have hsz : (Txt l).size ≤ 2097152 := by rw [txt_size]; exact hs
 have H0 := Host_any (Txt l) w hsz E
 rw [txt_list] at H0
 obtain ⟨o, ho⟩ : ∃ o, hostO l = o := ⟨_, rfl⟩
 rw [ho] at H0
 have HH := Lib.hid H0
 obtain ⟨T, hT⟩ : ∃ T, tokB l = T := ⟨_, rfl⟩
 obtain ⟨Pf, hP⟩ : ∃ Pf, decide (l.head? = some 91) = Pf := ⟨_, rfl⟩
 have HT := Lib.hid hT;have HP := Lib.hid hP
 have hV : pvL l = if (T || (Pf && decide (o = some l))) = true then l else [34] ++ escL l ++ [34] := by unfold pvL; rw [hT, hP, ho]
 have hq : quT l = [34] ++ escL l ++ [34] := by unfold quT; rw [if_neg (by rw [hc]; decide)]
 have HQ := Lib.hid hq;clear H0 E ho hT hP hq
 cases T
 ·cases Pf
  ·have HV := Lib.hid (hV.trans (by rw [if_neg (by simp)]) : pvL l = [34] ++ escL l ++ [34])
   clear hV
   go_enter Tryz.func83, Tryz.ntmps83
   go_wp2_with fail
   refine (hasP_n l _).mono ?_
   rintro e w' ⟨rfl, rfl⟩
   rw [HP.out]
   go_wp2_with fail
   refine HH.out.mono ?_
   rintro e w2 ⟨rfl, hB2⟩
   have HB2 := Lib.hid hB2;clear hB2
   go_wp2_with fail
   refine (tok_n l _ hs).mono ?_
   rintro e w' ⟨rfl, rfl⟩
   rw [HT.out]
   go_wp2_with fail
   refine (Lx.quote_any (Txt l) _ (by omega)).mono ?_
   rintro e w3 ⟨rfl, hB3⟩
   rw [txt_list, HQ.out]
   have HB3 := Lib.hid (((Kp.refl [] w).below HB2.out).below hB3)
   clear hB3
   go_wp2_with fail
   go_ret
   rw [HV.out]
   exact ⟨rfl, HB3.out.nilBelow⟩
  ·cases o with
   | none =>
     have HV := Lib.hid (hV.trans (by rw [if_neg (by simp)]) : pvL l = [34] ++ escL l ++ [34])
     clear hV
     go_enter Tryz.func83, Tryz.ntmps83
     go_wp2_with fail
     refine (hasP_n l _).mono ?_
     rintro e w' ⟨rfl, rfl⟩
     rw [HP.out]
     go_wp2_with fail
     refine HH.out.mono ?_
     rintro e w2 ⟨rfl, hB2⟩
     have HB2 := Lib.hid hB2;clear hB2
     go_wp2_with fail
     refine (tok_n l _ hs).mono ?_
     rintro e w' ⟨rfl, rfl⟩
     rw [HT.out]
     go_wp2_with fail
     refine (Lx.quote_any (Txt l) _ (by omega)).mono ?_
     rintro e w3 ⟨rfl, hB3⟩
     rw [txt_list, HQ.out]
     have HB3 := Lib.hid (((Kp.refl [] w).below HB2.out).below hB3)
     clear hB3
     go_wp2_with fail
     go_ret
     rw [HV.out]
     exact ⟨rfl, HB3.out.nilBelow⟩
   | some h =>
     by_cases hh : h = l
     ·have bs : ((Txt h).toList == (Txt l).toList) = true := by rw [hh]; exact beq_self_eq_true _
      have HV := Lib.hid (hV.trans (by rw [if_pos (by rw [hh]; simp)]) : pvL l = l)
      clear hV hh
      go_enter Tryz.func83, Tryz.ntmps83
      go_wp2_with fail
      refine (hasP_n l _).mono ?_
      rintro e w' ⟨rfl, rfl⟩
      rw [HP.out]
      go_wp2_with fail
      refine HH.out.mono ?_
      rintro e w2 ⟨rfl, hB2⟩
      have HB2 := Lib.hid hB2;clear hB2
      go_wp2_with fail
      refine (tok_n l _ hs).mono ?_
      rintro e w' ⟨rfl, rfl⟩
      rw [HT.out]
      go_wp2_with fail
      go_ret
      rw [HV.out]
      exact ⟨rfl, HB2.out⟩
     ·have bs : ((Txt h).toList == (Txt l).toList) = false := by rw [Lib.toList_data, Lib.toList_data, beq_eq_false_iff_ne]; exact hh
      have HV := Lib.hid (hV.trans (by rw [if_neg (by simp [hh])]) : pvL l = [34] ++ escL l ++ [34])
      clear hV hh
      go_enter Tryz.func83, Tryz.ntmps83
      go_wp2_with fail
      refine (hasP_n l _).mono ?_
      rintro e w' ⟨rfl, rfl⟩
      rw [HP.out]
      go_wp2_with fail
      refine HH.out.mono ?_
      rintro e w2 ⟨rfl, hB2⟩
      have HB2 := Lib.hid hB2;clear hB2
      go_wp2_with fail
      refine (tok_n l _ hs).mono ?_
      rintro e w' ⟨rfl, rfl⟩
      rw [HT.out]
      go_wp2_with fail
      refine (Lx.quote_any (Txt l) _ (by omega)).mono ?_
      rintro e w3 ⟨rfl, hB3⟩
      rw [txt_list, HQ.out]
      have HB3 := Lib.hid (((Kp.refl [] w).below HB2.out).below hB3)
      clear hB3
      go_wp2_with fail
      go_ret
      rw [HV.out]
      exact ⟨rfl, HB3.out.nilBelow⟩
 ·have HV := Lib.hid (hV.trans (by rw [if_pos (by simp)]) : pvL l = l)
  clear hV
  go_enter Tryz.func83, Tryz.ntmps83
  go_wp2_with fail
  refine (hasP_n l _).mono ?_
  rintro e w' ⟨rfl, rfl⟩
  rw [HP.out]
  go_wp2_with fail
  refine HH.out.mono ?_
  rintro e w2 ⟨rfl, hB2⟩
  have HB2 := Lib.hid hB2;clear hB2
  go_wp2_with fail
  refine (tok_n l _ hs).mono ?_
  rintro e w' ⟨rfl, rfl⟩
  rw [HT.out]
  go_wp2_with fail
  go_ret
  rw [HV.out]
  exact ⟨rfl, HB2.out⟩
end Ad
end Go.Proofs.YtbcaindpbeaheaaGreatDoor
namespace Go.Proofs.YtbcaindpbeaheaaGreatDoor
namespace Ad
open Go.RowKit Lx
theorem ppB_eq (a b : List UInt8) (c : Bool) : ppB (a, b, c) = (tokB a && (decide (a = lowL a) && (!hasCtl b && (c || decide (b = []))))) := by unfold ppB; simp only [Bool.and_assoc]
theorem txt_beqD (a b : List UInt8) : ((Txt a).toList == (Txt b).toList) = decide (a = b) := by
 by_cases h : a = b
 ·rw [txt_beqT _ _ h, decide_eq_true h]
 ·rw [txt_beq _ _ h, decide_eq_false h]
theorem emp_D (l : List UInt8) : ((Txt l).toList == ([] : List UInt8)) = decide (l = []) := by
 by_cases h : l = []
 ·rw [emp_yes _ h, decide_eq_true h]
 ·rw [emp_no _ h, decide_eq_false h]
def TxK (l : List UInt8) (w : World) (e : Ending) (w' : World) : Prop := e = .returned (.string (Txt l)) ∧ Kp [] w w'
theorem tokK (l : List UInt8) (T : Bool) (h : tokB l = T) (hs : l.length ≤ 2097152) (w : World) : Calls Tryz.prog 13 #[.string (Txt l)] w (BoK T w) :=
 (tok_n l w hs).mono fun e w' hh => ⟨by rw [← h]; exact hh.1, by rw [← hh.2]; exact Kp.refl _ _⟩
theorem ctlK (l : List UInt8) (C : Bool) (h : hasCtl l = C) (hs : l.length ≤ 2097152) (w : World) : Calls Tryz.prog 45 #[.string (Txt l), .func (.func 46) #[] #[]] w (BoK C w) :=
 (ctl_n l w hs).mono fun e w' hh => ⟨by rw [← h]; exact hh.1, by rw [← hh.2]; exact Kp.refl _ _⟩
theorem lowK (l : List UInt8) (hs : l.length ≤ 2097152) (w : World) : Calls Tryz.prog 91 #[.string (Txt l)] w (TxK (lowL l) w) :=
 (lower_n (Txt l) w (by rw [txt_size]; exact hs)).mono fun e w' hh => ⟨hh.1, (Kp.refl [] w).below hh.2⟩
set_option maxRecDepth 100000 in
set_option maxHeartbeats 4000000 in
theorem printable_any (q1 q2 : List UInt8) (q3 : Bool) (w : World) (h1 : q1.length ≤ 2097152) (h2 : q2.length ≤ 2097152) :
   Calls Tryz.prog 81 #[.agg #[.string (Txt q1), .string (Txt q2), .bool q3]] w (BoK (ppB (q1, q2, q3)) w) := by
 obtain ⟨wA, hwA⟩ : ∃ wA, w.alloc (.cells #[.string (Txt q1), .string (Txt q2), .bool q3] 109) = wA := ⟨_, rfl⟩
 have BA := show Blk wA w.heap.size 109 #[.string (Txt q1), .string (Txt q2), .bool q3] from by rw [← hwA]; exact Blk.new w _ _
 have KA := Lib.hid (show Kp [] w wA from by rw [← hwA]; exact (Kp.refl [] w).alloc _)
 have g0 := grew_cell (BA.cell 0);have g1 := grew_cell (BA.cell 1);have g2 := grew_cell (BA.cell 2);clear BA
 obtain ⟨T, hT⟩ : ∃ T, tokB q1 = T := ⟨_, rfl⟩
 obtain ⟨L, hL⟩ : ∃ L, decide (q1 = lowL q1) = L := ⟨_, rfl⟩
 obtain ⟨C, hC⟩ : ∃ C, hasCtl q2 = C := ⟨_, rfl⟩
 obtain ⟨N, hN⟩ : ∃ N, decide (q2 = []) = N := ⟨_, rfl⟩
 have bL : ((Txt q1).toList == (Txt (lowL q1)).toList) = L := (txt_beqD _ _).trans hL
 have bN : ((Txt q2).toList == ([] : List UInt8)) = N := (emp_D _).trans hN
 have HT := Lib.hid (fun wz => tokK q1 T hT h1 wz)
 have HC := Lib.hid (fun wz => ctlK q2 C hC h2 wz)
 have HL := Lib.hid (fun wz => lowK q1 h1 wz)
 have HR := Lib.hid (by rw [ppB_eq, hT, hL, hC, hN] : ppB (q1, q2, q3) = (T && (L && (!C && (q3 || N)))))
 clear hT hL hC hN
 cases T
 ·go_enter Tryz.func81, Tryz.ntmps81
  go_upto_region 1 with fail
  refine wp_region_grew (by kernel_rfl) (by kernel_rfl) ?_
  repeat (go_big_quiet_step ((first
   | (go_at_call 13; exact Calls.grew_of (HT.out _) (fun _ _ h => h))
   | (go_at_call 91; exact Calls.grew_of (HL.out _) (fun _ _ h => h))
   | (go_at_call 45; exact Calls.grew_of (HC.out _) (fun _ _ h => h)))))
  refine wpQuiet_nil ?_
  intro _ hw'
  obtain ⟨nq, hw''⟩ := hw'
  subst hw''
  go_wp2_with fail
  go_ret
  rw [HR.out]
  exact ⟨rfl, KA.out.trans (grew_kp _ _)⟩
 ·cases L
  ·go_enter Tryz.func81, Tryz.ntmps81
   go_upto_region 1 with fail
   refine wp_region_grew (by kernel_rfl) (by kernel_rfl) ?_
   repeat (go_big_quiet_step ((first
    | (go_at_call 13; exact Calls.grew_of (HT.out _) (fun _ _ h => h))
    | (go_at_call 91; exact Calls.grew_of (HL.out _) (fun _ _ h => h))
    | (go_at_call 45; exact Calls.grew_of (HC.out _) (fun _ _ h => h)))))
   refine wpQuiet_nil ?_
   intro _ hw'
   obtain ⟨nq, hw''⟩ := hw'
   subst hw''
   go_wp2_with fail
   go_ret
   rw [HR.out]
   exact ⟨rfl, KA.out.trans (grew_kp _ _)⟩
  ·cases C
   ·cases q3
    ·cases N
     ·go_enter Tryz.func81, Tryz.ntmps81
      go_upto_region 1 with fail
      refine wp_region_grew (by kernel_rfl) (by kernel_rfl) ?_
      repeat (go_big_quiet_step ((first
       | (go_at_call 13; exact Calls.grew_of (HT.out _) (fun _ _ h => h))
       | (go_at_call 91; exact Calls.grew_of (HL.out _) (fun _ _ h => h))
       | (go_at_call 45; exact Calls.grew_of (HC.out _) (fun _ _ h => h)))))
      refine wpQuiet_nil ?_
      intro _ hw'
      obtain ⟨nq, hw''⟩ := hw'
      subst hw''
      go_wp2_with fail
      go_ret
      rw [HR.out]
      exact ⟨rfl, KA.out.trans (grew_kp _ _)⟩
     ·go_enter Tryz.func81, Tryz.ntmps81
      go_upto_region 1 with fail
      refine wp_region_grew (by kernel_rfl) (by kernel_rfl) ?_
      repeat (go_big_quiet_step ((first
       | (go_at_call 13; exact Calls.grew_of (HT.out _) (fun _ _ h => h))
       | (go_at_call 91; exact Calls.grew_of (HL.out _) (fun _ _ h => h))
       | (go_at_call 45; exact Calls.grew_of (HC.out _) (fun _ _ h => h)))))
      refine wpQuiet_nil ?_
      intro _ hw'
      obtain ⟨nq, hw''⟩ := hw'
      subst hw''
      go_wp2_with fail
      go_ret
      rw [HR.out]
      exact ⟨rfl, KA.out.trans (grew_kp _ _)⟩
    ·go_enter Tryz.func81, Tryz.ntmps81
     go_upto_region 1 with fail
     refine wp_region_grew (by kernel_rfl) (by kernel_rfl) ?_
     repeat (go_big_quiet_step ((first
      | (go_at_call 13; exact Calls.grew_of (HT.out _) (fun _ _ h => h))
      | (go_at_call 91; exact Calls.grew_of (HL.out _) (fun _ _ h => h))
      | (go_at_call 45; exact Calls.grew_of (HC.out _) (fun _ _ h => h)))))
     refine wpQuiet_nil ?_
     intro _ hw'
     obtain ⟨nq, hw''⟩ := hw'
     subst hw''
     go_wp2_with fail
     go_ret
     rw [HR.out]
     exact ⟨rfl, KA.out.trans (grew_kp _ _)⟩
   ·go_enter Tryz.func81, Tryz.ntmps81
    go_upto_region 1 with fail
    refine wp_region_grew (by kernel_rfl) (by kernel_rfl) ?_
    repeat (go_big_quiet_step ((first
     | (go_at_call 13; exact Calls.grew_of (HT.out _) (fun _ _ h => h))
     | (go_at_call 91; exact Calls.grew_of (HL.out _) (fun _ _ h => h))
     | (go_at_call 45; exact Calls.grew_of (HC.out _) (fun _ _ h => h)))))
    refine wpQuiet_nil ?_
    intro _ hw'
    obtain ⟨nq, hw''⟩ := hw'
    subst hw''
    go_wp2_with fail
    go_ret
    rw [HR.out]
    exact ⟨rfl, KA.out.trans (grew_kp _ _)⟩
end Ad
end Go.Proofs.YtbcaindpbeaheaaGreatDoor
namespace Go.Proofs.YtbcaindpbeaheaaGreatDoor
namespace Ad
open Go.RowKit Lx
def fndF (nm : List UInt8) : List Prm → Nat → Int
 | [], _ => -1
 | p :: t, i => if lowL p.1 == nm then (i : Int) else fndF nm t (i + 1)
def fndI (l : List Prm) (nm : List UInt8) : Int := fndF (lowL nm) l 0
theorem fndF_cases (nm : List UInt8) : ∀ (l : List Prm) (i : Nat), (fndF nm l i = -1 ∧ ∀ j, j < l.length → (lowL l[j]!.1 == nm) = false) ∨ ∃ k, k < l.length ∧ fndF nm l i = ((i + k : Nat) : Int) ∧ (lowL l[k]!.1 == nm) = true ∧ ∀ j, j < k → (lowL l[j]!.1 == nm) = false := by
 intro l
 induction l with
 | nil => intro i; exact .inl ⟨rfl, fun j hj => absurd hj (Nat.not_lt_zero _)⟩
 | cons p t ih =>
   intro i
   unfold fndF
   cases hc : lowL p.1 == nm with
   | true => exact .inr ⟨0, by simp, by simp, by simpa using hc, fun j hj => absurd hj (Nat.not_lt_zero _)⟩
   | false =>
     simp only [Bool.false_eq_true, if_false]
     rcases ih (i + 1) with ⟨h, h2⟩ | ⟨k, hk, h, h1, h2⟩
     ·refine .inl ⟨h, fun j hj => ?_⟩
      cases j with
      | zero => simpa using hc
      | succ j => simpa using h2 j (by simpa using hj)
     ·refine .inr ⟨k + 1, by simpa using hk, by rw [h]; congr 1; omega, by simpa using h1, fun j hj => ?_⟩
      cases j with
      | zero => simpa using hc
      | succ j => simpa using h2 j (by omega)
theorem fndI_cases (l : List Prm) (nm : List UInt8) : (fndI l nm = -1 ∧ ∀ j, j < l.length → (lowL l[j]!.1 == lowL nm) = false) ∨ ∃ k, k < l.length ∧ fndI l nm = (k : Int) ∧ (lowL l[k]!.1 == lowL nm) = true ∧ ∀ j, j < k → (lowL l[j]!.1 == lowL nm) = false := by
 rcases fndF_cases (lowL nm) l 0 with h | ⟨k, hk, h, h1⟩
 ·exact .inl h
 ·exact .inr ⟨k, hk, by unfold fndI; rw [h, Nat.zero_add], h1⟩
theorem fndI_none (l : List Prm) (nm : List UInt8) (h : ∀ j, j < l.length → (lowL l[j]!.1 == lowL nm) = false) : fndI l nm = -1 := by
 rcases fndI_cases l nm with h1 | ⟨k, hk, _, h2, _⟩
 ·exact h1.1
 ·rw [h k hk] at h2; cases h2
abbrev SPrm := { q : Prm // q.1.length ≤ 2097152 }
instance : Inhabited SPrm := ⟨⟨([], [], false), by simp⟩⟩
theorem lift_prm : ∀ l : List Prm, SzP l → ∃ zs : List SPrm, zs.map (·.val) = l := by
 intro l
 induction l with
 | nil => intro _; exact ⟨[], rfl⟩
 | cons p t ih =>
   intro h
   obtain ⟨zs, hz⟩ := ih (fun q hq => h q (List.mem_cons_of_mem _ hq))
   exact ⟨⟨p, (h p (List.mem_cons_self ..)).1⟩ :: zs, by simp [hz]⟩
theorem idx_map (nm : List UInt8) (d : SPrm) : ∀ (zs : List SPrm) (i : Nat), Lib.idxByFrom (fun _ (q : SPrm) => lowL q.val.1 == nm) d zs i = fndF nm (zs.map (·.val)) i := by
 intro zs
 induction zs with
 | nil => intro i; rfl
 | cons z t ih =>
   intro i
   rw [List.map_cons]
   unfold Lib.idxByFrom fndF
   rw [ih]
set_option maxRecDepth 100000 in
set_option maxHeartbeats 400000 in
theorem find_pred (bp : Nat) (nm : List UInt8) (w : World) (hB : bp < w.heap.size) (hcell : w.cell? ⟨bp, 0, none⟩ = some (.string (Txt nm))) :
   PredBelow Tryz.prog 123 #[.pointer (some ⟨bp, 0, none⟩)] (fun x : SPrm => .agg (pc1 x.val).toArray) (fun q => lowL q.val.1 == nm) w := fun W x hb => by
 have hc : W.cell? ⟨bp, 0, none⟩ = some (.string (Txt nm)) := (hb.cell (p := ⟨bp, 0, none⟩) hB).trans hcell
 have hBW : bp < W.heap.size := Nat.lt_of_lt_of_le hB hb.size
 have hne : bp ≠ W.heap.size := by omega
 obtain ⟨⟨x1, x2, x3⟩, hx⟩ := x
 dsimp only at hx ⊢
 simp only [pc1]
 obtain ⟨wA, hwA⟩ : ∃ wA, W.alloc (.cells #[.string ⟨x1.toArray⟩, .string ⟨x2.toArray⟩, .bool x3] 109) = wA := ⟨_, rfl⟩
 have BA := show Blk wA W.heap.size 109 #[.string (Txt x1), .string (Txt x2), .bool x3] from by rw [← hwA]; exact Blk.new W _ _
 have KA := Lib.hid (show Kp [] W wA from by rw [← hwA]; exact (Kp.refl [] W).alloc _)
 have hr : wA.cell? ⟨bp, 0, none⟩ = some (.string (Txt nm)) := (KA.out.cell (p := ⟨bp, 0, none⟩) hBW (by simp)).trans hc
 have g0 := grew_cell (BA.cell 0);have g1 := grew_cell hr
 have HL := Lib.hid (fun wz => lowK x1 hx wz)
 have HS := Lib.hid (by rw [str_beq] : ((Txt (lowL x1)).toList == (Txt nm).toList) = (lowL x1 == nm))
 have Hb := Lib.hid hb;clear hc hr hb BA hcell
 go_enter Tryz.func123, Tryz.ntmps123
 go_wp2_with fail
 refine wp_region_grew (by kernel_rfl) (by kernel_rfl) ?_
 repeat (go_big_quiet_step ((go_at_call 91; exact Calls.grew_of (HL.out _) (fun _ _ h => h))))
 refine wpQuiet_nil ?_
 intro _ hw'
 obtain ⟨nq, hw''⟩ := hw'
 subst hw''
 go_wp2_with fail
 go_ret
 exact ⟨ret_bool HS.out, Hb.out.trans ((KA.out.trans (grew_kp _ _)).nilBelow.mono Hb.out.size)⟩
def InK (x : Int) (w : World) (e : Ending) (w' : World) : Prop := e = .returned (.int .i64 x) ∧ Kp [] w w'
theorem indexFunc_zero (A : Option Addr) (c : Nat) (f : Value) (w : World) :
   Calls Tryz.prog 122 #[.slice A 0 c, f] w (Ret (.int .i64 (-1)) w) := by
 go_enter Tryz.func122, Tryz.ntmps122
 go_wp2_with fail
 go_loop [5, 8] (fun _ i => i = .int .i64 0) (fun _ _ => 0)
 case atStart => rfl
 case round =>
  subst hrel
  go_wp2_with fail
  go_ret
  exact ⟨rfl, rfl⟩
theorem indexFunc_any (B : Nat) (v : Value) (l : List Prm) (nm : List UInt8) (bp : Nat) (w : World) (hP : PmIn B w v l) (hB : B ≤ w.heap.size) (hz : SzP l) (hl : l.length ≤ 4194304) (hbp : bp < w.heap.size) (hcell : w.cell? ⟨bp, 0, none⟩ = some (.string (Txt nm))) :
   Calls Tryz.prog 122 #[v, .func (.func 123) #[] #[.pointer (some ⟨bp, 0, none⟩)]] w (InK (fndF nm l 0) w) := by
 obtain ⟨n, c, rfl, hc, ⟨h0, rfl⟩ | ⟨b, o, rfl, hb, hcell2⟩⟩ := hP
 ·have : l = [] := List.eq_nil_of_length_eq_zero h0
  subst this
  refine (indexFunc_zero none c _ w).mono ?_
  rintro e w' ⟨rfl, rfl⟩
  exact ⟨rfl, Kp.refl _ _⟩
 ·obtain ⟨zs, hzs⟩ := lift_prm l hz
  have hlen : zs.length = l.length := by rw [← hzs, List.length_map]
  have hat : ∀ j, j < zs.length → l[j]! = zs[j]!.val := fun j hj => by
   rw [← hzs, getElem!_pos (zs.map _) j (by rw [List.length_map]; exact hj), getElem!_pos zs j hj, List.getElem_map]
  have eg : ∀ args w, (callFunc 123 args).run Tryz.prog w = .ok (.enter 123 args) w := enters_of Tryz.func123 (by kernel_rfl) rfl
  have hix := AnyQ.slices_IndexFunc Tryz.slIdx 3 Tryz.isAgg109 Tryz.sizeOf109 (fun q : SPrm => pc1 q.val) (fun _ => rfl) (fun q => lowL q.val.1 == nm) 123 #[.pointer (some ⟨bp, 0, none⟩)] eg b o l.length c zs w
   (find_pred bp nm w hbp hcell) (by omega) (by omega) (by omega) (fun j hj i v hi => by
     have := pcl_at l j _ (getD_some l j (by omega)) i v (by rw [hat j hj]; exact hi)
     have := hcell2 _ _ this
     rwa [← Nat.add_assoc] at this)
  rw [List.take_of_length_le (by omega)] at hix
  refine hix.mono ?_
  rintro e w' ⟨rfl, h⟩
  refine ⟨?_, (Kp.refl [] w).below h⟩
  rw [← hzs]
  exact congrArg (fun x => Ending.returned (.int .i64 x)) (idx_map nm default zs 0)
set_option maxRecDepth 100000 in
set_option maxHeartbeats 1000000 in
theorem find_any (B : Nat) (v : Value) (l : List Prm) (nm : List UInt8) (w : World) (hP : PmIn B w v l) (hB : B ≤ w.heap.size) (hz : SzP l) (hl : l.length ≤ 4194304) (hn : nm.length ≤ 2097152) :
   Calls Tryz.prog 72 #[v, .string (Txt nm)] w (InK (fndI l nm) w) := by
 have hAl := (Kp.refl [] w).alloc (.cells #[.string (Txt nm)] 9)
 obtain ⟨wA, hwA⟩ : ∃ wA, w.alloc (.cells #[.string (Txt nm)] 9) = wA := ⟨_, rfl⟩
 have BA := show Blk wA w.heap.size 9 #[.string (Txt nm)] from by rw [← hwA]; exact Blk.new w _ _
 rw [hwA] at hAl
 have PA := Lib.hid (hP.kp hAl hB (by simp))
 have b0 := BA.cell 0;have HBA := Lib.hid BA;have KA := Lib.hid hAl
 obtain ⟨A, c, rfl⟩ := hP.form
 clear BA hAl hP
 go_enter Tryz.func72, Tryz.ntmps72
 go_wp2_with fail
 refine (lowK nm hn _).mono ?_
 rintro e w1 ⟨rfl, hK1⟩
 have B1 := Lib.hid (HBA.out.kp hK1 (by simp))
 have B2 := Lib.hid (B1.out.set_ 0 (.string (Txt (lowL nm))))
 have hK2 := (Kp.refl [w.heap.size] w1).setCell (p := ⟨w.heap.size, 0, none⟩) (.inl (by simp)) (.string (Txt (lowL nm)))
 have K2 := Lib.hid ((KA.out.trans hK1).setCell (p := ⟨w.heap.size, 0, none⟩) (.inr (Nat.le_refl _)) (.string (Txt (lowL nm))))
 have P2 := Lib.hid ((PA.out.kp hK1 (by have := KA.out.size; omega) (by simp)).kp hK2 (by have := KA.out.size; have := hK1.size; omega) (by simp; omega))
 have c0 := B1.out.cell 0;have f0 := B1.out.frozen 0;clear hK1 hK2 b0
 go_wp2_with fail
 refine (indexFunc_any B _ l (lowL nm) w.heap.size _ P2.out (by have := K2.out.size; omega) hz hl (by have := B2.out.lt; exact this) (B2.out.cell 0)).mono ?_
 rintro e w3 ⟨rfl, hK3⟩
 have K3 := Lib.hid (K2.out.trans hK3);clear hK3
 go_wp2_with fail
 go_ret
 exact ⟨rfl, K3.out⟩
def getV (l : List Prm) (nm : List UInt8) : List UInt8 := if fndI l nm < 0 then [] else l[(fndI l nm).toNat]!.2.1
def getB (l : List Prm) (nm : List UInt8) : Bool := !decide (fndI l nm < 0)
def GeP (l : List Prm) (nm : List UInt8) (w : World) (e : Ending) (w' : World) : Prop := e = .returned (.tuple #[.string (Txt (getV l nm)), .bool (getB l nm)]) ∧ Kp [] w w'
set_option maxRecDepth 100000 in
set_option maxHeartbeats 1000000 in
theorem get_any (B : Nat) (v : Value) (l : List Prm) (nm : List UInt8) (w : World) (hP : PmIn B w v l) (hB : B ≤ w.heap.size) (hz : SzP l) (hl : l.length ≤ 4194304) (hn : nm.length ≤ 2097152) :
   Calls Tryz.prog 38 #[v, .string (Txt nm)] w (GeP l nm w) := by
 have HF := Lib.hid (find_any B v l nm w hP hB hz hl hn);have HPm := Lib.hid hP
 obtain ⟨n, c, hn2, hc, ⟨h0, rfl⟩ | ⟨b, o, rfl, hb, hcell2⟩⟩ := hP
 ·have hl0 : l = [] := List.eq_nil_of_length_eq_zero (by omega)
  subst hl0
  have HI := Lib.hid (show fndI [] nm = -1 from rfl)
  have HV := Lib.hid (show getV [] nm = [] from rfl)
  have HG := Lib.hid (show getB [] nm = false from rfl)
  clear h0 hn2 hc hz HPm
  go_enter Tryz.func38, Tryz.ntmps38
  go_wp2_with fail
  refine HF.out.mono ?_
  rintro e w1 ⟨rfl, hK1⟩
  rw [HI.out]
  go_wp2_with fail
  go_ret2
  unfold GeP
  rw [HV.out, HG.out]
  exact ⟨rfl, hK1⟩
 ·have HN := Lib.hid hn2
  rcases fndI_cases l nm with ⟨hI, _⟩ | ⟨k, hk, hI, _⟩
  ·have HI := Lib.hid hI
   have HV := Lib.hid (by unfold getV; rw [if_pos (by rw [hI]; decide)] : getV l nm = [])
   have HG := Lib.hid (by unfold getB; rw [hI]; rfl : getB l nm = false)
   clear hI hn2 hc hcell2
   go_enter Tryz.func38, Tryz.ntmps38
   go_wp2_with fail
   refine HF.out.mono ?_
   rintro e w1 ⟨rfl, hK1⟩
   rw [HI.out]
   go_wp2_with fail
   go_ret2
   unfold GeP
   rw [HV.out, HG.out]
   exact ⟨rfl, hK1⟩
  ·obtain ⟨q1, q2, q3, hq⟩ : ∃ a b c, l[k]! = (a, b, c) := ⟨_, _, _, rfl⟩
   have HI := Lib.hid hI
   have HV := Lib.hid (by unfold getV; rw [if_neg (by rw [hI]; omega), hI, Int.toNat_natCast, hq] : getV l nm = q2)
   have HG := Lib.hid (by unfold getB; rw [hI]; simp : getB l nm = true)
   have hsome : l[k]? = some (q1, q2, q3) := by rw [← hq]; exact getD_some l k hk
   have c1 : w.cell? ⟨b, o + k * 3 + 1, none⟩ = some (.string (Txt q2)) := by rw [Nat.add_assoc]; exact hcell2 _ _ (pcl_at l k _ hsome 1 _ rfl)
   have hbw : b < w.heap.size := by omega
   have HC1 := Lib.hid c1
   have hkn : k < n := by omega
   clear hI hn2 hc hcell2 hq hsome c1
   go_enter Tryz.func38, Tryz.ntmps38
   go_wp2_with fail
   refine HF.out.mono ?_
   rintro e w1 ⟨rfl, hK1⟩
   rw [HI.out]
   have d1 := (hK1.cell (p := ⟨b, o + k * 3 + 1, none⟩) hbw (by simp)).trans HC1.out
   have HK1 := Lib.hid hK1;clear hK1
   go_wp2_with fail
   go_ret2
   unfold GeP
   rw [HV.out, HG.out]
   exact ⟨rfl, HK1.out⟩
end Ad
end Go.Proofs.YtbcaindpbeaheaaGreatDoor
namespace Go.Proofs.YtbcaindpbeaheaaGreatDoor
namespace Ad
open Go.RowKit Lx
theorem pvL_len (l : List UInt8) : (pvL l).length ≤ 2 * l.length + 2 := by
 unfold pvL
 split
 ·omega
 ·have := escL_len l
  simp only [List.length_append, List.length_cons, List.length_nil]; omega
theorem ppL_len (p : Prm) (h : p.1.length ≤ 2097152 ∧ p.2.1.length ≤ 2097152) : (ppL p).length ≤ 6291460 := by
 unfold ppL
 have := pvL_len p.2.1
 split <;> simp only [List.cons_append, List.length_append, List.length_cons, List.length_nil] <;> omega
def ppX (l : List Prm) (j : Nat) : List UInt8 := (l.take j).flatMap ppL
theorem ppX_len (l : List Prm) (h : SzP l) (j : Nat) (hj : j ≤ 16) : (ppX l j).length ≤ 16 * 6291460 := by
 unfold ppX
 have : ∀ m : List Prm, SzP m → (m.flatMap ppL).length ≤ m.length * 6291460 := by
  intro m
  induction m with
  | nil => intro _; simp
  | cons p t ih =>
    intro hm
    have h1 := ppL_len p (hm p (List.mem_cons_self ..))
    have h2 := ih (fun q hq => hm q (List.mem_cons_of_mem _ hq))
    rw [List.flatMap_cons, List.length_append, List.length_cons]; omega
 have h1 := this (l.take j) (h.take j)
 have h2 : (l.take j).length ≤ 16 := by rw [List.length_take]; omega
 exact Nat.le_trans h1 (Nat.mul_le_mul_right _ h2)
theorem ppX_snoc (l : List Prm) (j : Nat) (h : j < l.length) : ppX l (j + 1) = ppX l j ++ ppL l[j]! := by
 unfold ppX
 rw [List.take_succ_eq_append_getElem h, List.flatMap_append, getElem!_pos l j h]; simp
def PpI (l : List Prm) (j : Nat) : Prop := ppO l = (ppF (l.drop j) (l.take j)).map fun y => ppX l j ++ y
theorem ppI_zero (l : List Prm) : PpI l 0 := by
 unfold PpI ppO ppX; simp
theorem ppI_step (l : List Prm) (j : Nat) (h : j < l.length) (hI : PpI l j) (p : Prm) (hp : l[j]! = p) (hc : (ppB p && decide (room (l.take j) p.1 = 0)) = true) : PpI l (j + 1) := by
 unfold PpI at hI ⊢
 rw [getElem!_pos l j h] at hp
 rw [List.drop_eq_getElem_cons h, hp, ppF, if_pos hc] at hI
 rw [hI, List.take_succ_eq_append_getElem h, hp, ppX_snoc l j h, getElem!_pos l j h, hp, Option.map_map]
 congr 1
 funext y
 simp
theorem ppI_no (l : List Prm) (j : Nat) (h : j < l.length) (hI : PpI l j) (p : Prm) (hp : l[j]! = p) (hc : (ppB p && decide (room (l.take j) p.1 = 0)) = false) : ppO l = none := by
 unfold PpI at hI
 rw [getElem!_pos l j h] at hp
 rw [List.drop_eq_getElem_cons h, hp, ppF, if_neg (by rw [hc]; decide)] at hI
 exact hI
theorem ppI_end (l : List Prm) (j : Nat) (h : l.length ≤ j) (hI : PpI l j) : ppO l = some (ppX l j) := by
 unfold PpI at hI
 rw [List.drop_eq_nil_of_le h, ppF] at hI
 rw [hI]; simp
theorem room_cases (acc : List Prm) (n : List UInt8) : room acc n = 0 ∨ room acc n = 7 ∨ room acc n = 4 := by
 unfold room
 split
 ·exact .inr (.inl rfl)
 ·split
  ·exact .inr (.inr rfl)
  ·exact .inl rfl
def ErK (x : Int) (w : World) (e : Ending) (w' : World) : Prop := e = .returned (.int .u8 x) ∧ Kp [] w w'
theorem PmIn.take {B : Nat} {w : World} {b o n c : Nat} {l : List Prm} (hb : b < B) (hn : l.length = n) (hc : n ≤ c) (hcell : ∀ (i : Nat) (u : Value), (pcl l)[i]? = some u → w.cell? ⟨b, o + i, none⟩ = some u) (j : Nat) (hj : j ≤ n) : PmIn B w (.slice (some ⟨b, o, none⟩) j c) (l.take j) := by
 refine ⟨j, c, by rw [List.length_take]; omega, by omega, .inr ⟨b, o, rfl, hb, fun i u hu => hcell i u ?_⟩⟩
 have e : pcl l = pcl (l.take j) ++ pcl (l.drop j) := by rw [← pcl_app, List.take_append_drop]
 rw [e, List.getElem?_append_left (by exact (List.getElem?_eq_some_iff.1 hu).1)]; exact hu
set_option maxRecDepth 100000 in
set_option maxHeartbeats 4000000 in
theorem printParams_any (B : Nat) (v : Value) (l : List Prm) (w : World) (hP : PmIn B w v l) (hB : B ≤ w.heap.size) (hz : SzP l) (hl : l.length ≤ 2097152) (E : Env w) :
   Calls Tryz.prog 47 #[v] w (PrP (ppO l) w) := by
 obtain ⟨A, c, rfl⟩ := hP.form
 have hsz := E.sz
 have hal := (Kp.refl [] w).alloc (.cells #[.pointer none, .slice none 0 0] 74)
 obtain ⟨w0, hw0⟩ : ∃ w0, w.alloc (.cells #[.pointer none, .slice none 0 0] 74) = w0 := ⟨_, rfl⟩
 have I0 := Lib.hid (show IsB w.heap.size w.heap.size [] w0 from by rw [← hw0]; exact fresh_isB w)
 rw [hw0] at hal
 have K0 := Lib.hid hal
 have P0 := Lib.hid (hP.kp hal hB (by simp))
 have E0 := Lib.hid (E.kp hal (by simp))
 have hz0 : w.heap.size ≤ w0.heap.size := hal.size
 clear hal hP E
 go_enter Tryz.func47, Tryz.ntmps47
 go_wp2_with fail
 go_loopg [9] (l.length + 1) (fun gg i wr => ∃ j : Nat, j ≤ l.length ∧ j ≤ 16 ∧ l.length - j < gg ∧ i = .int .i64 j ∧ PpI l j ∧ IsB w.heap.size w.heap.size (Lib.byteCells (ppX l j)) wr ∧ Kb w.heap.size w0 wr)
 case atStart => exact ⟨0, by omega, by omega, by omega, rfl, ppI_zero l, by simpa [ppX, Lib.byteCells] using I0.out, Kb.refl _ _⟩
 case round =>
  obtain ⟨j, hj, hj16, hg, rfl, hJ, hI, hK⟩ := hrel
  have HI := Lib.hid hI;have HK := Lib.hid hK;have HJ := Lib.hid hJ;have hzr := hK.below.size
  have Er := Lib.hid (E0.out.belowB hK.below (by omega))
  have PLr := P0.out.belowB hK.below hB;have hla := ppX_len l hz j hj16;clear hI hK hJ
  by_cases hlt : j < l.length
  ·obtain ⟨q1, q2, q3, hq⟩ : ∃ a b c, l[j]! = (a, b, c) := ⟨_, _, _, rfl⟩
   have hm : (q1, q2, q3) ∈ l := by rw [← hq, getElem!_pos l j hlt]; exact List.getElem_mem hlt
   obtain ⟨hq1, hq2⟩ := hz _ hm
   dsimp only at hq1 hq2
   have hsn := ppX_snoc l j hlt
   rw [hq] at hsn
   have HSn := Lib.hid hsn;have HYes := Lib.hid (ppI_step l j hlt HJ.out _ hq);have HNo := Lib.hid (ppI_no l j hlt HJ.out _ hq)
   have hsome : l[j]? = some (q1, q2, q3) := by rw [← hq]; exact getD_some l j hlt
   obtain ⟨_, c', rfl, hc, ⟨h0, hv⟩ | ⟨bl, o, hv, hbl, hcell⟩⟩ := PLr
   ·omega
   ·injection hv with hA _ hc2
    subst hA
    subst hc2
    have c0 : wr.cell? ⟨bl, o + j * 3, none⟩ = some (.string (Txt q1)) := hcell _ _ (pcl_at l j _ hsome 0 _ rfl)
    have c1 : wr.cell? ⟨bl, o + j * 3 + 1, none⟩ = some (.string (Txt q2)) := by rw [Nat.add_assoc]; exact hcell _ _ (pcl_at l j _ hsome 1 _ rfl)
    have c2 : wr.cell? ⟨bl, o + j * 3 + 2, none⟩ = some (.bool q3) := by rw [Nat.add_assoc]; exact hcell _ _ (pcl_at l j _ hsome 2 _ rfl)
    have hc3 : j ≤ c := by omega
    have HTk := Lib.hid (PmIn.take hbl rfl hc hcell j hj)
    have hKA := (Kp.refl [] wr).alloc (.cells #[.string (Txt q1), .string (Txt q2), .bool q3] 109)
    obtain ⟨wA, hwA⟩ : ∃ wA, wr.alloc (.cells #[.string (Txt q1), .string (Txt q2), .bool q3] 109) = wA := ⟨_, rfl⟩
    have BA := show Blk wA wr.heap.size 109 #[.string (Txt q1), .string (Txt q2), .bool q3] from by rw [← hwA]; exact Blk.new wr _ _
    rw [hwA] at hKA
    have KA := Lib.hid hKA;have g0 := grew_cell (BA.cell 0);have g1 := grew_cell (BA.cell 1);have g2 := grew_cell (BA.cell 2);have BAh := Lib.hid BA
    have HTA := Lib.hid (HTk.out.kp hKA (by omega) (by simp))
    have hzA : w.heap.size ≤ wA.heap.size := by have := hKA.size; omega
    obtain ⟨pb, hpb⟩ : ∃ b, ppB (q1, q2, q3) = b := ⟨_, rfl⟩
    have HPb := Lib.hid (fun wz => printable_any q1 q2 q3 wz hq1 hq2)
    rw [hpb] at HPb
    clear BA hKA hcell hc hq hm hsome hsn
    cases pb
    ·have HNn := Lib.hid (HNo.out (by rw [hpb]; rfl))
     clear hpb
     go_wp2_with fail
     refine wp_region_grew (by kernel_rfl) (by kernel_rfl) ?_
     repeat (go_big_quiet_step ((go_at_call 81; exact Calls.grew_of (HPb.out _) (fun _ _ h => h))))
     refine wpQuiet_nil ?_
     intro _ hw'
     obtain ⟨nq, hw''⟩ := hw'
     subst hw''
     go_wp2_with fail
     go_ret2
     rw [HNn.out]
     exact ⟨rfl, (K0.out.kb HK.out.below (Nat.le_refl _) |>.trans KA.out |>.trans (grew_kp _ _)).nilBelow⟩
    ·have HMj := Lib.hid (fun (n : Gw wA) => (mayJoin_any B (.slice (some ⟨bl, o, none⟩) j c) (l.take j) (q1, q2, q3) (grew wA n) (HTA.out.kp (grew_kp _ n) (by omega) (by simp)) (by have := (grew_kp _ n).size; omega) (by rw [List.length_take]; omega)).mono (fun e w' h => (⟨h.1, (Kp.refl [] _).below h.2⟩ : ErK (room (l.take j) q1) (grew wA n) e w')))
     obtain ⟨rm, hrm⟩ : ∃ r, room (l.take j) q1 = r := ⟨_, rfl⟩
     rw [hrm] at HMj
     have hrc := room_cases (l.take j) q1
     rw [hrm] at hrc
     have hj64 : (j : Int) < 4194304 := by omega
     have hlc : (j : Int) ≤ (c : Int) := by omega
     rcases hrc with hr0 | hr1
     ·subst hr0
      have HYs := Lib.hid (HYes.out (by rw [hpb, hrm]; rfl))
      have hj15 : j < 16 := by have := ((room_iff (l.take j) q1).1 hrm).2; rw [List.length_take] at this; omega
      have hctl0 : hasCtl q2 = false := by have h := hpb; rw [ppB_eq] at h; simp only [Bool.and_eq_true] at h; simpa using h.2.2.1
      clear hpb hrm
      go_wp2_with fail
      refine wp_region_grew (by kernel_rfl) (by kernel_rfl) ?_
      repeat (go_big_quiet_step ((first | (go_at_call 81; exact Calls.grew_of (HPb.out _) (fun _ _ h => h)) | (go_at_call 82; exact Calls.grew_of (HMj.out _) (fun _ _ h => h)))))
      refine wpQuiet_nil ?_
      intro _ hw'
      obtain ⟨nq, hw''⟩ := hw'
      subst hw''
      have hKG := grew_kp wA nq
      obtain ⟨w2, hw2⟩ : ∃ w2, grew wA nq = w2 := ⟨_, rfl⟩
      rw [hw2] at hKG ⊢
      clear hw2 g0 g1 g2
      have hctl : hasCtl q2 = false := hctl0
      have I2 := Lib.hid (isB_kp (isB_kp HI.out KA.out (by simp)) hKG (by simp))
      have K2 := Lib.hid (Kb.of_below ((KA.out.trans hKG).nilBelow) (B := w.heap.size) (by omega))
      have B2 := Lib.hid (BAh.out.kp hKG (by simp))
      have E2 := Lib.hid ((Er.out.kp KA.out (by simp)).kp hKG (by simp))
      have hz2 : w.heap.size ≤ w2.heap.size := by have := hKG.size; omega
      clear hKG c0 c1 c2
      go_wp2_with fail
      refine (wbyt w.heap.size w.heap.size (ppX l j) 59 59 rfl _ I2.out (by omega) hz2).mono ?_
      rintro e w3 ⟨rfl, hI, hk⟩
      have I3 := Lib.hid hI;have K3 := Lib.hid (K2.out.trans hk)
      have B3 := Lib.hid (B2.out.kb hk (by decide))
      have E3 := Lib.hid (E2.out.belowB hk.below (by omega))
      have hz3 : w.heap.size ≤ w3.heap.size := by have := hk.below.size; omega
      have hl3 : (ppX l j ++ [59]).length ≤ 268435456 := by rw [List.length_append, List.length_singleton]; omega
      clear hI hk
      have s0 : w3.cell? ⟨wr.heap.size, 0, none⟩ = some (.string (Txt q1)) := B3.out.cell 0
      go_wp2_with fail
      refine (wstr w.heap.size w.heap.size (ppX l j ++ [59]) q1 _ I3.out (by omega) (by omega) hz3).mono ?_
      rintro e w4 ⟨rfl, hI, hk⟩
      have I4 := Lib.hid hI;have K4 := Lib.hid (K3.out.trans hk)
      have B4 := Lib.hid (B3.out.kb hk (by decide))
      have E4 := Lib.hid (E3.out.belowB hk.below (by omega))
      have hz4 : w.heap.size ≤ w4.heap.size := by have := hk.below.size; omega
      have hl4 : (ppX l j ++ [59] ++ q1).length ≤ 536870912 := by rw [List.length_append]; omega
      clear hI hk s0
      have s2 : w4.cell? ⟨wr.heap.size, 2, none⟩ = some (.bool q3) := B4.out.cell 2
      cases q3
      ·have HT := Lib.hid (HSn.out.trans (by unfold ppL; simp) : ppX l (j + 1) = ppX l j ++ [59] ++ q1)
       go_wp2_with fail
       go_roundg (l.length - j)
       case measure => omega
       case rel => exact ⟨j + 1, by omega, by omega, by omega, by go_num, HYs.out, by rw [HT.out]; exact I4.out, HK.out.trans K4.out⟩
      ·have HT := Lib.hid (HSn.out.trans (by unfold ppL; simp) : ppX l (j + 1) = ppX l j ++ [59] ++ q1 ++ [61] ++ pvL q2)
       have hpl := pvL_len q2
       go_wp2_with fail
       refine (wbyt w.heap.size w.heap.size (ppX l j ++ [59] ++ q1) 61 61 rfl _ I4.out (by omega) hz4).mono ?_
       rintro e w5 ⟨rfl, hI, hk⟩
       have I5 := Lib.hid hI;have K5 := Lib.hid (K4.out.trans hk)
       have B5 := Lib.hid (B4.out.kb hk (by decide))
       have E5 := Lib.hid (E4.out.belowB hk.below (by omega))
       have hz5 : w.heap.size ≤ w5.heap.size := by have := hk.below.size; omega
       have hl5 : (ppX l j ++ [59] ++ q1 ++ [61]).length ≤ 536870913 := by rw [List.length_append, List.length_singleton]; omega
       clear hI hk s2
       have s1 : w5.cell? ⟨wr.heap.size, 1, none⟩ = some (.string (Txt q2)) := B5.out.cell 1
       go_wp2_with fail
       refine (printValue_any q2 _ hq2 hctl E5.out).mono ?_
       rintro e w6 ⟨rfl, hB6⟩
       have hK6 := (Kp.refl [] w5).below hB6
       have I6 := Lib.hid (isB_kp I5.out hK6 (by simp))
       have K6 := Lib.hid (K5.out.trans (Kb.of_below hB6 hz5))
       have hz6 : w.heap.size ≤ w6.heap.size := by have := hB6.size; omega
       clear hB6 hK6 s1
       go_wp2_with fail
       refine (wstr w.heap.size w.heap.size (ppX l j ++ [59] ++ q1 ++ [61]) (pvL q2) _ I6.out (by omega) (by omega) hz6).mono ?_
       rintro e w7 ⟨rfl, hI, hk⟩
       have I7 := Lib.hid hI;have K7 := Lib.hid (K6.out.trans hk);clear hI hk
       go_wp2_with fail
       go_roundg (l.length - j)
       case measure => omega
       case rel => exact ⟨j + 1, by omega, by omega, by omega, by go_num, HYs.out, by rw [HT.out]; exact I7.out, HK.out.trans K7.out⟩
     ·have HNn := Lib.hid (HNo.out (by rw [hpb, hrm]; rcases hr1 with h | h <;> rw [h] <;> rfl))
      clear hpb hrm
      rcases hr1 with rfl | rfl
      all_goals
       go_wp2_with fail
       refine wp_region_grew (by kernel_rfl) (by kernel_rfl) ?_
       repeat (go_big_quiet_step ((first | (go_at_call 81; exact Calls.grew_of (HPb.out _) (fun _ _ h => h)) | (go_at_call 82; exact Calls.grew_of (HMj.out _) (fun _ _ h => h)))))
       refine wpQuiet_nil ?_
       intro _ hw'
       obtain ⟨nq, hw''⟩ := hw'
       subst hw''
       go_wp2_with fail
       go_ret2
       rw [HNn.out]
       exact ⟨rfl, (K0.out.kb HK.out.below (Nat.le_refl _) |>.trans KA.out |>.trans (grew_kp _ _)).nilBelow⟩
  ·have HEnd := Lib.hid (ppI_end l j (by omega) HJ.out)
   clear PLr
   go_wp2_with fail
   refine (string_any w.heap.size w.heap.size _ _ HI.out (by omega)).mono ?_
   rintro e w9 ⟨rfl, hk9, _⟩
   have KF := Lib.hid (K0.out.belowB (HK.out.below.trans hk9.below) (Nat.le_refl _));clear hk9
   go_wp2_with fail
   go_ret2
   rw [HEnd.out]
   exact ⟨rfl, KF.out.nilBelow⟩
end Ad
end Go.Proofs.YtbcaindpbeaheaaGreatDoor
