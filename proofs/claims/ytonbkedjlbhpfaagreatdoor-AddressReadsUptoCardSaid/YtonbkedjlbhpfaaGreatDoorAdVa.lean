/- Contracts of the reference's reader: fail, is, until (dialtoneref02). A text has at most 2^20 bytes. -/
import Derived.Test.YtonbkedjlbhpfaaGreatDoorAdPx
import Derived.Test.YtonbkedjlbhpfaaGreatDoorAdPl
namespace Go.Proofs.YtonbkedjlbhpfaaGreatDoor
namespace Ad
open Go.RowKit Lx

/-- The reader at block b: its text, its offset, and the first error with its offset. -/
def Rdr (b : Nat) (s : ByteArray) (i p : Nat) (e : Int) (w : World) : Prop := Blk w b 92 #[.string s, .int .i64 i, .int .i64 p, .int .u8 e]
section
variable {b i p : Nat} {s : ByteArray} {e : Int} {w w' : World} {X : List Nat}
theorem Rdr.lt (h : Rdr b s i p e w) : b < w.heap.size := Blk.lt h
theorem Rdr.c0 (h : Rdr b s i p e w) : w.cell? ⟨b, 0, none⟩ = some (.string s) := Blk.cell h 0
theorem Rdr.c1 (h : Rdr b s i p e w) : w.cell? ⟨b, 1, none⟩ = some (.int .i64 i) := Blk.cell h 1
theorem Rdr.c2 (h : Rdr b s i p e w) : w.cell? ⟨b, 2, none⟩ = some (.int .i64 p) := Blk.cell h 2
theorem Rdr.c3 (h : Rdr b s i p e w) : w.cell? ⟨b, 3, none⟩ = some (.int .u8 e) := Blk.cell h 3
theorem Rdr.fr (h : Rdr b s i p e w) (k : Nat) : w.frozen? ⟨b, k, none⟩ = false := Blk.frozen h k
theorem Rdr.kp (h : Rdr b s i p e w) (k : Kp X w w') (hb : b ∉ X) : Rdr b s i p e w' := Blk.kp h k hb
theorem Rdr.at1 (h : Rdr b s i p e w) (j : Nat) : Rdr b s j p e (w.setCell ⟨b, 1, none⟩ (.int .i64 j)) := Blk.set_ h 1 _
theorem Rdr.noB (h : Rdr b s i p e w) : NoB w b := by
  intro k t hc
  rw [Blk.cell h k] at hc
  match k, hc with
  | 0, hc => simp at hc
  | 1, hc => simp at hc
  | 2, hc => simp at hc
  | 3, hc => simp at hc
  | k + 4, hc => simp at hc
end
/-- Behind a call that may note an error. -/
def FlP (b : Nat) (s : ByteArray) (i p : Nat) (x : Int) (w : World) (e : Ending) (w' : World) : Prop := e = .returned (.tuple #[]) ∧ Rdr b s i p x w' ∧ Kp [b] w w'
set_option maxRecDepth 100000 in
set_option maxHeartbeats 1000000 in
theorem rfail_no (b i p q : Nat) (s : ByteArray) (e x : Int) (w : World) (R : Rdr b s i p e w) (he : e ≠ 0) :
    Calls Tryz.prog 150 #[.pointer (some ⟨b, 0, none⟩), .int .i64 q, .int .u8 x] w (FlP b s i p e w) := by
  have c3 := R.c3
  have be : (e == 0) = false := by rw [beq_eq_false_iff_ne]; exact he
  have HR := Lib.hid R
  clear R he
  go_enter Tryz.func150, Tryz.ntmps150
  go_wp2_with fail
  refine bodyPost_ret (results_none rfl _ _ _) rfl ?_
  exact ⟨rfl, HR.out, Kp.refl _ _⟩
set_option maxRecDepth 100000 in
set_option maxHeartbeats 1000000 in
theorem rfail_yes (b i p q : Nat) (s : ByteArray) (x : Int) (w : World) (R : Rdr b s i p 0 w) :
    Calls Tryz.prog 150 #[.pointer (some ⟨b, 0, none⟩), .int .i64 q, .int .u8 x] w (FlP b s i q x w) := by
  have c3 := R.c3
  have c2 := R.c2
  have f2 := R.fr 2
  have f3 := R.fr 3
  have HR := Lib.hid (show Rdr b s i q x ((w.setCell ⟨b, 2, none⟩ (.int .i64 q)).setCell ⟨b, 3, none⟩ (.int .u8 x)) from (Blk.set_ (Blk.set_ R 2 (.int .i64 q)) 3 (.int .u8 x)))
  have HK := Lib.hid (((Kp.refl [b] w).setCell (p := ⟨b, 2, none⟩) (.inl (by simp)) (.int .i64 q)).setCell (p := ⟨b, 3, none⟩) (.inl (by simp)) (.int .u8 x))
  clear R
  go_enter Tryz.func150, Tryz.ntmps150
  go_wp2_with fail
  refine bodyPost_ret (results_none rfl _ _ _) rfl ?_
  exact ⟨rfl, HR.out, HK.out⟩
/-- A truth value, read off without a change but for draws. -/
def IsP (x : Bool) (w : World) (e : Ending) (w' : World) : Prop := e = .returned (.bool x) ∧ ∃ n, w' = w.drewN n
theorem IsP.k {x : Bool} {w w' : World} {e : Ending} (h : IsP x w e w') : BoK x w e w' := ⟨h.1, by obtain ⟨n, hn⟩ := h.2; rw [hn]; exact (Kp.refl [] w).drewN n⟩
set_option maxRecDepth 100000 in
set_option maxHeartbeats 1000000 in
theorem ris_err (b i p : Nat) (s : ByteArray) (e c : Int) (w : World) (R : Rdr b s i p e w) (he : e ≠ 0) :
    Calls Tryz.prog 151 #[.pointer (some ⟨b, 0, none⟩), .int .u8 c] w (BoK false w) := by
  have c3 := R.c3
  have be : (e == 0) = false := by rw [beq_eq_false_iff_ne]; exact he
  clear R he
  go_enter Tryz.func151, Tryz.ntmps151
  go_wp2_with fail
  go_quiet (fail)
  go_wp2_with fail
  go_ret
  exact ⟨rfl, (Kp.refl [] w).drewN _⟩
set_option maxRecDepth 100000 in
set_option maxHeartbeats 1000000 in
theorem ris_any (b i p : Nat) (s : ByteArray) (c : Int) (w : World) (R : Rdr b s i p 0 w) (hi : i ≤ s.size) (hs : s.size ≤ 2097152) (hc : 0 ≤ c) :
    Calls Tryz.prog 151 #[.pointer (some ⟨b, 0, none⟩), .int .u8 c] w (BoK (atB s.data.toList i == c) w) := by
  have c3 := R.c3
  have c1 := R.c1
  have c0 := R.c0
  clear R
  by_cases hlt : i < s.size
  · have h1 : (i : Int) < (s.size : Int) := by omega
    have h0 : (0 : Int) ≤ (i : Int) := by omega
    have hA := atB_get s i hlt
    rw [hA]
    obtain ⟨x, hx⟩ : ∃ x : Int, (s[i].toNat : Int) = x := ⟨_, rfl⟩
    rw [hx]
    have Hx := Lib.hid hx
    obtain ⟨B, hB⟩ : ∃ B, (x == c) = B := ⟨_, rfl⟩
    have hB2 : ((s[i].toNat : Int) == c) = B := by rw [hx]; exact hB
    rw [hB]
    clear hA hx hB
    cases B
    all_goals
      go_enter Tryz.func151, Tryz.ntmps151
      go_wp2_with fail
      go_quiet (fail)
      go_wp2_with fail
      go_ret
      exact ⟨rfl, (Kp.refl [] w).drewN _⟩
  · have hA : atB s.data.toList i = -1 := atB_end _ _ (by rw [len_list]; omega)
    have hB : ((-1 : Int) == c) = false := by rw [beq_eq_false_iff_ne]; omega
    rw [hA, hB]
    have t1 : decide ((i : Int) < (s.size : Int)) = false := decide_eq_false (by omega)
    have t2 : decide (i < s.size) = false := decide_eq_false hlt
    clear hA hB
    go_enter Tryz.func151, Tryz.ntmps151
    go_wp2_with fail
    go_quiet (fail)
    go_wp2_with fail
    go_ret
    exact ⟨rfl, (Kp.refl [] w).drewN _⟩
set_option maxRecDepth 100000 in
set_option maxHeartbeats 1000000 in
theorem runtil_any (p : Int → Bool) (b i q : Nat) (s stops : ByteArray) (e : Int) (w : World) (R : Rdr b s i q e w) (hi : i ≤ s.size) (hs : s.size ≤ 2097152) (hst : stops.size ≤ 100) (hp : ∀ c : Int, memB stops.data.toList c = p c) :
    Calls Tryz.prog 72 #[.pointer (some ⟨b, 0, none⟩), .string stops] w (InK (endP p s.data.toList i) w) := by
  have c1 := R.c1
  have c0 := R.c0
  have HP := Lib.hid hp
  have HC := Lib.hid (fun (c : Int) wz => (by have h := rcontains_any stops c wz (by omega); rw [hp c] at h; exact h : Calls Tryz.prog 148 #[.string stops, .int .u8 c] wz (Ret (.bool (p c)) wz)))
  obtain ⟨n, hn⟩ : ∃ n, endP p s.data.toList i = n := ⟨_, rfl⟩
  have Hn := Lib.hid hn
  rw [hn]
  clear R hp hn
  go_enter Tryz.func72, Tryz.ntmps72
  go_wp2_with fail
  go_loop [5] (fun k => ∃ j : Nat, j ≤ s.size ∧ k = .int .i64 j ∧ endP p s.data.toList j = n) (fun k => s.size - (intOf k).toNat)
  case atStart => exact ⟨i, hi, rfl, Hn.out⟩
  case round =>
    obtain ⟨j, hj, rfl, he⟩ := hrel
    have He := Lib.hid he
    clear he
    by_cases hjs : j < s.size
    · cases hpc : p s[j].toNat
      · have HN := Lib.hid ((endP_next p s j hjs hpc).symm.trans He.out)
        have HCj := Lib.hid (fun wz => (by have h := HC.out (s[j].toNat : Int) wz; rw [hpc] at h; exact h : Calls Tryz.prog 148 #[.string stops, .int .u8 (s[j].toNat : Int)] wz (Ret (.bool false) wz)))
        clear hpc
        go_wp2_with fail
        refine (HCj.out _).mono ?_
        rintro e w' ⟨rfl, rfl⟩
        go_wp2_with fail
        go_round
        case rel => exact ⟨j + 1, by omega, by go_num, HN.out⟩
        case measure => simp [intOf]; omega
      · have HN := Lib.hid ((endP_at_k p s j hjs hpc).symm.trans He.out)
        have HCj := Lib.hid (fun wz => (by have h := HC.out (s[j].toNat : Int) wz; rw [hpc] at h; exact h : Calls Tryz.prog 148 #[.string stops, .int .u8 (s[j].toNat : Int)] wz (Ret (.bool true) wz)))
        clear hpc
        go_wp2_with fail
        refine (HCj.out _).mono ?_
        rintro e w' ⟨rfl, rfl⟩
        go_wp2_with fail
        go_ret
        exact ⟨ret_int (by rw [HN.out]), Kp.refl _ _⟩
    · have HN := Lib.hid ((endP_out p s j (by omega)).symm.trans He.out)
      go_wp2_with fail
      go_ret
      exact ⟨ret_int (by rw [HN.out]), Kp.refl _ _⟩
end Ad
end Go.Proofs.YtonbkedjlbhpfaaGreatDoor
