/- Texts of one set of library modules: AdEnv, AdA. -/
import Derived.Test.YtbcaindpbeaheaaGreatDoorZ4
import Derived.Test.YtbcaindpbeaheaaGreatDoorZ7
import Derived.Lib.LaidTab
import Derived.Test.YtbcaindpbeaheaaGreatDoorZ2
namespace Go.Proofs.YtbcaindpbeaheaaGreatDoor
namespace Ad
open Go.RowKit Lx
structure Env (w : World) : Prop where
 c0 : w.cell? ⟨4, 0, none⟩ = some (.string ⟨#[38, 61, 43, 36, 44, 59, 63, 47]⟩)
 c1 : w.cell? ⟨4, 1, none⟩ = some (.string ⟨#[91, 93, 47, 58, 38, 43, 36]⟩)
 c2 : w.cell? ⟨4, 2, none⟩ = some (.string ⟨#[91, 93, 47, 63, 58, 43, 36]⟩)
 m : ∃ m, w.cell? ⟨3, 0, none⟩ = some (.int .i64 m)
 tab : Lib.TabIs Tryz.prog w "internal/strconv.uint64pow10" .u64 Lib.pow10Tab
 sz : 7 ≤ w.heap.size
theorem Env.kp {X : List Nat} {w w' : World} (h : Env w) (k : Kp X w w') (hX : ∀ x ∈ X, 7 ≤ x) : Env w' := by
 have hn : ∀ i, i < 7 → i ∉ X := fun i hi hm => by have := hX i hm; omega
 have hc : ∀ (g o : Nat), g < 7 → w'.cell? ⟨g, o, none⟩ = w.cell? ⟨g, o, none⟩ := fun g o hg => k.cell (p := ⟨g, o, none⟩) (Nat.lt_of_lt_of_le hg h.sz) (hn g hg)
 refine ⟨(hc _ _ (by decide)).trans h.c0, (hc _ _ (by decide)).trans h.c1, (hc _ _ (by decide)).trans h.c2, ?_, ?_, Nat.le_trans h.sz k.size⟩
 ·obtain ⟨m, hm⟩ := h.m
  exact ⟨m, (hc _ _ (by decide)).trans hm⟩
 ·have ht := h.tab
  have hg : Tryz.prog.globalNamed "internal/strconv.uint64pow10" = some 5 := by kernel_rfl
  unfold Lib.TabIs World.var? at ht ⊢
  rw [hg] at ht ⊢
  simp only [Option.bind_some] at ht ⊢
  rw [k.block _ (Nat.lt_of_lt_of_le (by decide) h.sz) (hn _ (by decide))]
  exact ht
theorem Env.below {w w' : World} (h : Env w) (k : Below w.heap.size w w') : Env w' := h.kp (X := []) ((Kp.refl [] w).below k) (fun _ hx => by cases hx)
theorem Env.drewN {w : World} (h : Env w) (n : Nat) : Env (w.drewN n) := h.kp (X := []) ((Kp.refl [] w).drewN n) (fun _ hx => by cases hx)
end Ad
end Go.Proofs.YtbcaindpbeaheaaGreatDoor
namespace Go.Proofs.YtbcaindpbeaheaaGreatDoor
namespace Ad
open Go.RowKit Lx
theorem ret_ib {k : IntKind} {a b : Int} {c d : Bool} (h : a = b) (h' : c = d) : Ending.returned (.tuple #[.int k a, .bool c]) = .returned (.tuple #[.int k b, .bool d]) := by rw [h, h']
theorem ret_sb {a b : ByteArray} {c d : Bool} (h : a = b) (h' : c = d) : Ending.returned (.tuple #[.string a, .bool c]) = .returned (.tuple #[.string b, .bool d]) := by rw [h, h']
theorem ret_s {a b : ByteArray} (h : a = b) : Ending.returned (.string a) = .returned (.string b) := by rw [h]
theorem control_any (c : Int) (w : World) : Calls Tryz.prog 46 #[.int .u8 c] w (Ret (.bool (ctlI c)) w) := by
 go_enter Tryz.func46, Tryz.ntmps46
 go_wp2
 all_goals (go_ret; exact ⟨by simp [ctlI, *] <;> omega, rfl⟩)
theorem adigit_any (c : Int) (w : World) : Calls Tryz.prog 195 #[.int .u8 c] w (Ret (.bool (digitI c)) w) := by
 go_enter Tryz.func195, Tryz.ntmps195
 go_wp2
 all_goals (go_ret; exact ⟨by simp [digitI, *] <;> omega, rfl⟩)
theorem aletter_any (c : Int) (w : World) : Calls Tryz.prog 147 #[.int .u8 c] w (Ret (.bool (letterI c)) w) := by
 go_enter Tryz.func147, Tryz.ntmps147
 go_wp2
 all_goals (go_ret; exact ⟨by simp [letterI, *] <;> omega, rfl⟩)
theorem mem_any (l : List UInt8) (c : Int) (h0 : 0 ≤ c) (h1 : c < 256) : decide (0 ≤ Lib.indexByte l c.toNat.toUInt8) = memB l c := by
 rw [Bool.eq_iff_iff, decide_eq_true_iff, indexByte_any]
 unfold memB
 have : (fun b : UInt8 => b == c.toNat.toUInt8) = fun b => ((b.toNat : Int) == c) := by funext b; exact u8_eq b c h0 h1
 rw [this]
set_option maxRecDepth 100000 in
set_option maxHeartbeats 1000000 in
theorem inClass_any (k c : Int) (w : World) (h0 : 0 ≤ c) (h1 : c < 256) (E : Env w) : Calls Tryz.prog 170 #[.int .u8 c, .int .i64 k] w (Ret (.bool (inC k c)) w) := by
 have g0 := E.c0;have g1 := E.c1;have g2 := E.c2;have hm := Lib.hid (mem_any everyL c h0 h1);have hk := Lib.hid (mem_any (clsL k) c h0 h1)
 cases hl : letterI c
 ·cases hd : digitI c
  ·cases he : memB everyL c
   ·have Hl := Lib.hid hl
    have Hd := Lib.hid hd
    have he' : decide (0 ≤ Lib.indexByte [45, 95, 46, 33, 126, 42, 39, 40, 41] c.toNat.toUInt8) = false := by
     have := hm.out; rw [he] at this; exact this
    have He := Lib.hid he;clear hl hd he
    have fin : ∀ k' : Int, k = k' → inC k c = memB (clsL k') c := fun k' e => by rw [e]; unfold inC; rw [Hl.out, Hd.out, He.out]; rfl
    have Fin := Lib.hid fin;clear fin
    by_cases k0 : 0 ≤ k
    ·by_cases k3 : k < 3
     ·rcases (by omega : k = 0 ∨ k = 1 ∨ k = 2) with rfl | rfl | rfl
      all_goals
       go_enter Tryz.func170, Tryz.ntmps170
       go_wp2_with fail
       refine (aletter_any _ _).mono ?_
       rintro e w' ⟨rfl, rfl⟩
       rw [Hl.out]
       go_wp2_with fail
       refine (adigit_any _ _).mono ?_
       rintro e w' ⟨rfl, rfl⟩
       rw [Hd.out]
       go_wp2_with fail
       refine (Tryz.strings_IndexByte _ _ _).mono ?_
       rintro e w' ⟨rfl, rfl⟩
       go_wp2_with fail
       refine (Tryz.strings_IndexByte _ _ _).mono ?_
       rintro e w' ⟨rfl, rfl⟩
       go_wp2_with fail
       go_ret
       exact ⟨ret_bool (by rw [Fin.out _ rfl]; exact hk.out), rfl⟩
     ·have hc : clsL k = [] := by unfold clsL; rw [if_neg (by omega), if_neg (by omega), if_neg (by omega)]
      have Hc := Lib.hid hc;clear hc
      go_enter Tryz.func170, Tryz.ntmps170
      go_wp2_with fail
      refine (aletter_any _ _).mono ?_
      rintro e w' ⟨rfl, rfl⟩
      rw [Hl.out]
      go_wp2_with fail
      refine (adigit_any _ _).mono ?_
      rintro e w' ⟨rfl, rfl⟩
      rw [Hd.out]
      go_wp2_with fail
      refine (Tryz.strings_IndexByte _ _ _).mono ?_
      rintro e w' ⟨rfl, rfl⟩
      go_wp2_with fail
      go_ret
      exact ⟨ret_bool (by rw [Fin.out _ rfl, Hc.out]; rfl), rfl⟩
    ·have hc : clsL k = [] := by unfold clsL; rw [if_neg (by omega), if_neg (by omega), if_neg (by omega)]
     have Hc := Lib.hid hc;clear hc
     go_enter Tryz.func170, Tryz.ntmps170
     go_wp2_with fail
     refine (aletter_any _ _).mono ?_
     rintro e w' ⟨rfl, rfl⟩
     rw [Hl.out]
     go_wp2_with fail
     refine (adigit_any _ _).mono ?_
     rintro e w' ⟨rfl, rfl⟩
     rw [Hd.out]
     go_wp2_with fail
     refine (Tryz.strings_IndexByte _ _ _).mono ?_
     rintro e w' ⟨rfl, rfl⟩
     go_wp2_with fail
     go_ret
     exact ⟨ret_bool (by rw [Fin.out _ rfl, Hc.out]; rfl), rfl⟩
   ·have Hl := Lib.hid hl
    have Hd := Lib.hid hd
    have he' : decide (0 ≤ Lib.indexByte [45, 95, 46, 33, 126, 42, 39, 40, 41] c.toNat.toUInt8) = true := by
     have := hm.out; rw [he] at this; exact this
    have He := Lib.hid he;clear hl hd he
    go_enter Tryz.func170, Tryz.ntmps170
    go_wp2_with fail
    refine (aletter_any _ _).mono ?_
    rintro e w' ⟨rfl, rfl⟩
    rw [Hl.out]
    go_wp2_with fail
    refine (adigit_any _ _).mono ?_
    rintro e w' ⟨rfl, rfl⟩
    rw [Hd.out]
    go_wp2_with fail
    refine (Tryz.strings_IndexByte _ _ _).mono ?_
    rintro e w' ⟨rfl, rfl⟩
    go_wp2_with fail
    go_ret
    exact ⟨ret_bool (by unfold inC; rw [He.out]; simp), rfl⟩
  ·have Hl := Lib.hid hl
   have Hd := Lib.hid hd;clear hl hd
   go_enter Tryz.func170, Tryz.ntmps170
   go_wp2_with fail
   refine (aletter_any _ _).mono ?_
   rintro e w' ⟨rfl, rfl⟩
   rw [Hl.out]
   go_wp2_with fail
   refine (adigit_any _ _).mono ?_
   rintro e w' ⟨rfl, rfl⟩
   rw [Hd.out]
   go_wp2_with fail
   go_ret
   exact ⟨ret_bool (by unfold inC; rw [Hd.out]; simp), rfl⟩
 ·have Hl := Lib.hid hl
  clear hl
  go_enter Tryz.func170, Tryz.ntmps170
  go_wp2_with fail
  refine (aletter_any _ _).mono ?_
  rintro e w' ⟨rfl, rfl⟩
  rw [Hl.out]
  go_wp2_with fail
  go_ret
  exact ⟨ret_bool (by unfold inC; rw [Hl.out]; simp), rfl⟩
def hexN (c : Int) : Int := if 0 ≤ hexV c then hexV c else 0
theorem hexN_pos (c : Int) (h : 0 ≤ hexV c) : hexN c = hexV c := by unfold hexN; rw [if_pos h]
theorem hexN_neg (c : Int) (h : ¬ 0 ≤ hexV c) : hexN c = 0 := by unfold hexN; rw [if_neg h]
theorem hexValue_any (c : Int) (w : World) (h0 : 0 ≤ c) (h1 : c < 256) : Calls Tryz.prog 219 #[.int .u8 c] w (Ret (.tuple #[.int .u8 (hexN c), .bool (hexC c)]) w) := by
 cases hd : digitI c
 ·have hx : ¬ (48 ≤ c ∧ c ≤ 57) := fun h => by simp [digitI, h] at hd
  have Hd := Lib.hid hd;clear hd
  by_cases hA : 65 ≤ c ∧ c ≤ 70
  ·have hv : hexV c = c - 55 := by unfold hexV; rw [Hd.out, if_neg (by simp), if_pos hA]
   have Hv := Lib.hid hv
   obtain ⟨a1, a2⟩ := hA
   clear hv hx
   go_enter Tryz.func219, Tryz.ntmps219
   go_wp2_with fail
   refine (adigit_any _ _).mono ?_
   rintro e w' ⟨rfl, rfl⟩
   rw [Hd.out]
   go_wp2_with fail
   go_ret2
   exact ⟨ret_ib (by rw [hexN_pos c (by rw [Hv.out]; omega), Hv.out]; omega) (by unfold hexC; rw [Hv.out]; exact (decide_eq_true (by omega)).symm), rfl⟩
  ·by_cases ha : 97 ≤ c ∧ c ≤ 102
   ·have hv : hexV c = c - 87 := by unfold hexV; rw [Hd.out, if_neg (by simp), if_neg hA, if_pos ha]
    have Hv := Lib.hid hv
    obtain ⟨a1, a2⟩ := ha
    clear hv hx hA
    have a3 : ¬ c ≤ 70 := by omega
    go_enter Tryz.func219, Tryz.ntmps219
    go_wp2_with fail
    refine (adigit_any _ _).mono ?_
    rintro e w' ⟨rfl, rfl⟩
    rw [Hd.out]
    go_wp2_with fail
    go_ret2
    exact ⟨ret_ib (by rw [hexN_pos c (by rw [Hv.out]; omega), Hv.out]; omega) (by unfold hexC; rw [Hv.out]; exact (decide_eq_true (by omega)).symm), rfl⟩
   ·have hv : hexV c = -1 := by unfold hexV; rw [Hd.out, if_neg (by simp), if_neg hA, if_neg ha]
    have Hv := Lib.hid hv;clear hv hx
    have hA' : (decide (65 ≤ c) && decide (c ≤ 70)) = false := by simpa using hA
    have ha' : (decide (97 ≤ c) && decide (c ≤ 102)) = false := by simpa using ha
    go_enter Tryz.func219, Tryz.ntmps219
    go_wp2_with fail
    refine (adigit_any _ _).mono ?_
    rintro e w' ⟨rfl, rfl⟩
    rw [Hd.out]
    go_wp2_with fail
    all_goals first
     | (go_ret2; exact ⟨ret_ib (by rw [hexN_neg c (by rw [Hv.out]; decide)]) (by unfold hexC; rw [Hv.out]; rfl), rfl⟩)
     | (exfalso; omega)
 ·have hx : 48 ≤ c ∧ c ≤ 57 := by simpa [digitI] using hd
  have hv : hexV c = c - 48 := by unfold hexV; rw [if_pos hd]
  have Hd := Lib.hid hd;have Hv := Lib.hid hv
  obtain ⟨a1, a2⟩ := hx
  clear hd hv
  go_enter Tryz.func219, Tryz.ntmps219
  go_wp2_with fail
  refine (adigit_any _ _).mono ?_
  rintro e w' ⟨rfl, rfl⟩
  rw [Hd.out]
  go_wp2_with fail
  go_ret2
  exact ⟨ret_ib (by rw [hexN_pos c (by rw [Hv.out]; omega), Hv.out]) (by unfold hexC; rw [Hv.out]; exact (decide_eq_true (by omega)).symm), rfl⟩
end Ad
end Go.Proofs.YtbcaindpbeaheaaGreatDoor
