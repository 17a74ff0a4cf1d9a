/- The law of LexisSplits. Conditions: the text has at most 2^20 bytes, and the library's variable bytealg.MaxLen holds an int. -/
import Derived.Test.YtjbjaofbdbkjaaaDoorLxSpR
import Derived.Test.YtjbjaofbdbkjaaaDoorLxSame
import Derived.Test.YtjbjaofbdbkjaaaDoorLxAwake
namespace Go.Proofs.YtjbjaofbdbkjaaaDoor
namespace Lx
open Go.RowKit

theorem spF_len (l : List UInt8) (sep : Int) : (spF l sep).1.length ≤ l.length + 1 := by
  unfold spF
  split
  · simp
  · have := spR_len l sep l.length 0 0 []; simpa using this

set_option maxRecDepth 100000 in
set_option maxHeartbeats 2000000 in
theorem splits_law (s : ByteArray) (sep : Int) (m : Int) (w : World) (hs : s.size ≤ 2097152) (hm : w.cell? ⟨0, 0, none⟩ = some (.int .i64 m)) :
    Calls Tryd.prog 5 #[.string s, .int .u8 sep] w fun e w' => e = .returned (.bool true) ∧ Below w.heap.size w w' := by
  have h0 := cell_lt hm
  have Hm := Lib.hid hm
  have hl1 := spF_len s.data.toList sep
  have hl2 := spF_len s.data.toList 44
  rw [len_list] at hl1 hl2
  obtain ⟨R, hR⟩ : ∃ R, spF s.data.toList sep = R := ⟨_, rfl⟩
  obtain ⟨T, hT⟩ : ∃ T, spF s.data.toList 44 = T := ⟨_, rfl⟩
  rw [hR] at hl1
  rw [hT] at hl2
  obtain ⟨L, A, E⟩ := R
  obtain ⟨L2, A2, E2⟩ := T
  have HR := Lib.hid hR
  have HT := Lib.hid hT
  dsimp only at hl1 hl2
  have hAb : ((A : Int) == (A : Int)) = true := by simp
  have hEb : (E == E) = true := by simp
  have hAb2 : ((A2 : Int) == (A2 : Int)) = true := by simp
  have hEb2 : (E2 == E2) = true := by simp
  clear hm hR hT
  go_enter Tryd.func5, Tryd.ntmps5
  go_wp2_with fail
  refine (split_any s sep w hs).mono ?_
  rw [HR.out]
  rintro e w1 ⟨v1, rfl, hr1, hB1⟩
  dsimp only at hr1 ⊢
  have Hr1 := Lib.hid hr1
  have hs1 := hB1.size
  clear hr1
  go_wp2_with fail
  refine (rsplit_any s sep w1 hs).mono ?_
  rw [HR.out]
  rintro e w2 ⟨v2, rfl, hr2, hB2⟩
  dsimp only at hr2 ⊢
  have Hr2 := Lib.hid hr2
  have hs2 := hB2.size
  have hB2' := hB1.trans (hB2.mono hs1)
  clear hr2
  go_wp2_with fail
  refine (split_any s 44 w2 hs).mono ?_
  rw [HT.out]
  rintro e w3 ⟨v3, rfl, hr3, hB3⟩
  dsimp only at hr3 ⊢
  have Hr3 := Lib.hid hr3
  have hs3 := hB3.size
  have hB3' := hB2'.trans (hB3.mono (by omega))
  clear hr3
  go_wp2_with fail
  refine (rsplit_any s 44 w3 hs).mono ?_
  rw [HT.out]
  rintro e w4 ⟨v4, rfl, hr4, hB4⟩
  dsimp only at hr4 ⊢
  have hs4 := hB4.size
  have hB4' := hB3'.trans (hB4.mono (by omega))
  have p1 : PcIn w4 v1 L := (((PcIn.of_row Hr1.out).below hB2).below hB3).below hB4
  have p2 : PcIn w4 v2 L := ((PcIn.of_row Hr2.out).below hB3).below hB4
  have p3 : PcIn w4 v3 L2 := (PcIn.of_row Hr3.out).below hB4
  have p4 : PcIn w4 v4 L2 := PcIn.of_row hr4
  have P1 := Lib.hid p1
  have P2 := Lib.hid p2
  have P3 := Lib.hid p3
  have P4 := Lib.hid p4
  obtain ⟨a1, c1, rfl, _⟩ := id p1
  obtain ⟨a2, c2, rfl, _⟩ := id p2
  obtain ⟨a3, c3, rfl, _⟩ := id p3
  obtain ⟨a4, c4, rfl, _⟩ := id p4
  clear hr4 p1 p2 p3 p4
  go_wp2_with fail
  refine (same_any _ _ L L w4 P1.out P2.out (by omega) (by omega)).mono ?_
  rintro e w5 ⟨rfl, n, rfl⟩
  rw [show decide (L = L) = true from by simp]
  have hD : Below w4.heap.size w4 (w4.drewN n) := ⟨rfl, rfl, rfl, Nat.le_refl _, fun _ _ => rfl⟩
  have hB5 : Below w.heap.size w (w4.drewN n) := hB4'.trans (hD.mono (by omega))
  have hs5 := hB5.size
  have P3' := Lib.hid (P3.out.below hD)
  have P4' := Lib.hid (P4.out.below hD)
  go_wp2_with fail
  refine (same_any _ _ L2 L2 _ P3'.out P4'.out (by omega) (by omega)).mono ?_
  rintro e w6 ⟨rfl, n', rfl⟩
  rw [show decide (L2 = L2) = true from by simp]
  have hD2 : Below w4.heap.size w4 (w4.drewN (n + n')) := ⟨rfl, rfl, rfl, Nat.le_refl _, fun _ _ => rfl⟩
  have hB6 : Below w.heap.size w (w4.drewN (n + n')) := hB4'.trans (hD2.mono (by omega))
  have hs6 := hB6.size
  go_wp2_with fail
  refine (awake_any m _ ((hB6.cell (p := ⟨0, 0, none⟩) h0).trans Hm.out)).mono ?_
  rintro e w' ⟨rfl, hB9⟩
  go_wp2_with fail
  go_ret
  exact ⟨rfl, hB6.trans (hB9.mono hs6)⟩
end Lx
end Go.Proofs.YtjbjaofbdbkjaaaDoor
