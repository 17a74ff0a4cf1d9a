/- The law of LexisUnfolds. Conditions: the text has at most 2^21 bytes, and the library's variable bytealg.MaxLen holds an int. -/
import Derived.Test.YtjbjaofbdbkjaaaDoorLxRUW
import Derived.Test.YtjbjaofbdbkjaaaDoorLxSame
import Derived.Test.YtjbjaofbdbkjaaaDoorLxAwake
namespace Go.Proofs.YtjbjaofbdbkjaaaDoor
namespace Lx
open Go.RowKit

theorem foldU_le (xs : List (Nat × List UInt8)) : (foldU xs).ls.length ≤ xs.length := by
  refine snoc_ind (P := fun xs => (foldU xs).ls.length ≤ xs.length) ?_ ?_ xs
  · simp [foldU]
  · intro l c ih
    rw [foldU_snoc]
    have h := (stepU_len (foldU l) c).1
    simp only [List.length_append, List.length_cons, List.length_nil]
    omega
theorem unfL_len (l : List UInt8) : (unfL l).length ≤ l.length := by
  unfold unfL
  split
  · simp
  · have h1 := foldU_le (physL l 0)
    have h2 := physL_len l.length l 0 (Nat.le_refl _)
    have h3 := (endL_len (foldU (physL l 0))).1
    omega
theorem unfE_beq (l : List UInt8) : ∃ n : Int, unfE l = n := ⟨_, rfl⟩

set_option maxRecDepth 100000 in
set_option maxHeartbeats 1000000 in
theorem unfolds_law (s : ByteArray) (m : Int) (w : World) (hs : s.size ≤ 2097152) (hm : w.cell? ⟨0, 0, none⟩ = some (.int .i64 m)) :
    Calls Tryd.prog 6 #[.string s] w fun e w' => e = .returned (.bool true) ∧ Below w.heap.size w w' := by
  have h0 := cell_lt hm
  have Hm := Lib.hid hm
  have hlen := unfL_len s.data.toList
  rw [len_list] at hlen
  obtain ⟨L, hL⟩ : ∃ L, unfL s.data.toList = L := ⟨_, rfl⟩
  obtain ⟨A, hA⟩ : ∃ A, unfAt s.data.toList = A := ⟨_, rfl⟩
  obtain ⟨E, hE⟩ : ∃ E, unfE s.data.toList = E := ⟨_, rfl⟩
  have HL := Lib.hid hL
  have HA := Lib.hid hA
  have HE := Lib.hid hE
  rw [hL] at hlen
  have hAb : ((A : Int) == (A : Int)) = true := by simp
  have hEb : (E == E) = true := by simp
  clear hm hL hA hE
  go_enter Tryd.func6, Tryd.ntmps6
  go_wp2_with fail
  refine (unfold_any s m w hs Hm.out).mono ?_
  rintro e w1 ⟨v1, rfl, hr1, hB1⟩
  rw [HA.out, HE.out]
  rw [HL.out] at hr1
  have Hr1 := Lib.hid hr1
  have hs1 := hB1.size
  clear hr1
  go_wp2_with fail
  refine (runfold_any s w1 hs).mono ?_
  rintro e w2 ⟨v2, rfl, hr2, hB2⟩
  rw [HA.out, HE.out]
  rw [HL.out] at hr2
  have hB2' := hB1.trans (hB2.mono hs1)
  have hp1 := (PcIn.of_row Hr1.out).below hB2
  have hp2 := PcIn.of_row hr2
  have Hp1 := Lib.hid hp1
  have Hp2 := Lib.hid hp2
  obtain ⟨a1, c1, rfl, _⟩ := id hp1
  obtain ⟨a2, c2, rfl, _⟩ := id hp2
  have hs2 := hB2'.size
  clear hr2 hp1 hp2
  go_wp2_with fail
  refine (same_any _ _ L L w2 Hp1.out Hp2.out (by omega) (by omega)).mono ?_
  rintro e w3 ⟨rfl, n, rfl⟩
  rw [show decide (L = L) = true from by simp]
  have hB3 : Below w.heap.size w (w2.drewN n) := ⟨hB2'.os, hB2'.tape, hB2'.output, hB2'.size, hB2'.block⟩
  have hs3 := hB3.size
  go_wp2_with fail
  refine (awake_any m _ ((hB3.cell (p := ⟨0, 0, none⟩) h0).trans Hm.out)).mono ?_
  rintro e w' ⟨rfl, hB9⟩
  go_wp2_with fail
  go_ret
  exact ⟨rfl, hB3.trans (hB9.mono hs3)⟩
end Lx
end Go.Proofs.YtjbjaofbdbkjaaaDoor
