/- LexisQuotes of package dialtonelaw01 returns true for every text and offset; nothing that lay before has turned. Condition: bytealg.MaxLen holds an int. -/
import Derived.Test.YtjbjaofbdbkjaaaDoorLxAwake
import Derived.Test.YtjbjaofbdbkjaaaDoorLxRQ
namespace Go.Proofs.YtjbjaofbdbkjaaaDoor
namespace Lx
open Go.RowKit

set_option maxRecDepth 100000 in
set_option maxHeartbeats 4000000 in
theorem quotes_law (s : ByteArray) (a m : Int) (w : World) (hm : w.cell? ⟨0, 0, none⟩ = some (.int .i64 m)) :
    Calls Tryd.prog 4 #[.string s, .int .i64 a] w fun e w' => e = .returned (.bool true) ∧ Below w.heap.size w w' := by
  have hm0 := cell_lt' hm
  have Hm := Lib.hid hm
  clear hm
  by_cases h300 : 300 < s.size
  · go_enter Tryd.func4, Tryd.ntmps4
    go_wp2_with fail
    refine (awake_any m _ Hm.out).mono ?_
    rintro e w' ⟨rfl, hB⟩
    go_wp2_with fail
    go_ret
    exact ⟨rfl, hB⟩
  · go_enter Tryd.func4, Tryd.ntmps4
    go_wp2_with fail
    refine (quote_any s _ (by omega)).mono ?_
    rintro e w1 ⟨rfl, hB1⟩
    go_wp2_with fail
    refine (rquote_any s _ (by omega)).mono ?_
    rintro e w2 ⟨rfl, hB2⟩
    have hB12 := hB1.trans (hB2.mono hB1.size)
    go_wp2_with fail
    go_loopw [9, 10] (fun i _ wr => ∃ n : Int, -2 ≤ n ∧ n ≤ s.size + 2 ∧ i = .int .i64 n ∧ Below w.heap.size w wr) (fun i _ _ => ((s.size : Int) + 2 - intOf i).toNat)
    case atStart => exact ⟨-2, by omega, by omega, rfl, hB12⟩
    case round =>
      obtain ⟨n, hn1, hn2, rfl, hB⟩ := hrel
      have hsz := hB.size
      by_cases hle : n ≤ s.size + 1
      · obtain ⟨k, hk⟩ : ∃ k, (if n = -2 then a else n) = k := ⟨_, rfl⟩
        by_cases h2 : n = -2
        · have h2b : (n == -2) = true := by simp [h2]
          clear h2 hk k
          go_wp2_with fail
          refine (unquote_any s a _ (by omega)).mono ?_
          rintro e w3 ⟨rfl, hB3⟩
          have hB3' := hB.trans (hB3.mono hsz)
          have hs3 := hB3'.size
          go_wp2_with fail
          refine (runquote_any s a _ (by omega)).mono ?_
          rintro e w4 ⟨rfl, hB4⟩
          have hB4' := hB3'.trans (hB4.mono hs3)
          have hs4 := hB4'.size
          go_wp2_with fail
          refine (comment_any s a _ (by omega)).mono ?_
          rintro e w5 ⟨rfl, hB5⟩
          have hB5' := hB4'.trans (hB5.mono hs4)
          have hs5 := hB5'.size
          go_wp2_with fail
          refine (rcomment_any s a _ (by omega)).mono ?_
          rintro e w6 ⟨rfl, hB6⟩
          have hB6' := hB5'.trans (hB6.mono hs5)
          go_wp2_with fail
          go_roundw
          case rel => exact ⟨n + 1, by omega, by omega, rfl, hB6'⟩
          case measure => simp [intOf]; omega
        · have h2b : (n == -2) = false := by simp [h2]
          clear h2 hk k
          go_wp2_with fail
          refine (unquote_any s n _ (by omega)).mono ?_
          rintro e w3 ⟨rfl, hB3⟩
          have hB3' := hB.trans (hB3.mono hsz)
          have hs3 := hB3'.size
          go_wp2_with fail
          refine (runquote_any s n _ (by omega)).mono ?_
          rintro e w4 ⟨rfl, hB4⟩
          have hB4' := hB3'.trans (hB4.mono hs3)
          have hs4 := hB4'.size
          go_wp2_with fail
          refine (comment_any s n _ (by omega)).mono ?_
          rintro e w5 ⟨rfl, hB5⟩
          have hB5' := hB4'.trans (hB5.mono hs4)
          have hs5 := hB5'.size
          go_wp2_with fail
          refine (rcomment_any s n _ (by omega)).mono ?_
          rintro e w6 ⟨rfl, hB6⟩
          have hB6' := hB5'.trans (hB6.mono hs5)
          go_wp2_with fail
          go_roundw
          case rel => exact ⟨n + 1, by omega, by omega, rfl, hB6'⟩
          case measure => simp [intOf]; omega
      · have hgt : (s.size : Int) + 1 < n := by omega
        go_wp2_with fail
        refine (awake_any m _ ((hB.cell (p := ⟨0, 0, none⟩) hm0).trans Hm.out)).mono ?_
        rintro e w' ⟨rfl, hB9⟩
        go_wp2_with fail
        go_ret
        exact ⟨rfl, hB.trans (hB9.mono hsz)⟩
end Lx
end Go.Proofs.YtjbjaofbdbkjaaaDoor
