/- Contracts of small and group of package dialtonelaw02: a number below 1000 in decimal, one below 65536 in hexadecimal. -/
import Derived.Test.YtjkkcoiebnmkcaaGreatDoorM8
import Derived.Test.YtjkkcoiebnmkcaaGreatDoorM1
namespace Go.Proofs.YtjkkcoiebnmkcaaGreatDoor
namespace Ad
open Go.RowKit Lx

theorem bytes_cat0 (a b : List UInt8) : (⟨a.toArray⟩ : ByteArray) ++ (⟨b.toArray⟩ : ByteArray) = ⟨(a ++ b).toArray⟩ := by
  apply ByteArray.ext
  simp

theorem bytes_cat (a b : List UInt8) : Txt a ++ Txt b = Txt (a ++ b) := bytes_cat0 a b
/-- A value, and the world as it was but for what is drawn. -/
def DrP (v : Value) (w : World) (e : Ending) (w' : World) : Prop := e = .returned v ∧ ∃ m, w' = w.drewN m
theorem dec_cut : ∀ a : Fin 10, (ByteArray.mk #[48, 49, 50, 51, 52, 53, 54, 55, 56, 57]).extract a.val (a.val + 1) = Txt (decL a.val) := by decide +kernel
theorem hex_cut : ∀ a : Fin 16, (ByteArray.mk #[48, 49, 50, 51, 52, 53, 54, 55, 56, 57, 97, 98, 99, 100, 101, 102]).extract a.val (a.val + 1) = Txt (hexL a.val) := by decide +kernel
set_option maxRecDepth 100000 in
set_option maxHeartbeats 1000000 in
theorem small_step (n : Nat) (hn : n < 1000) (ih : 10 ≤ n → ∀ w, Calls Tryz.prog 49 #[.int .i64 ((n / 10 : Nat) : Int)] w (DrP (.string (Txt (decL (n / 10)))) w)) (w : World) :
    Calls Tryz.prog 49 #[.int .i64 (n : Int)] w (DrP (.string (Txt (decL n))) w) := by
  by_cases h : n < 10
  · have HC := Lib.hid (dec_cut ⟨n, h⟩)
    clear ih
    go_enter Tryz.func49, Tryz.ntmps49
    go_wp2_with fail
    go_wp2_with fail
    go_ret
    rw [← HC.out]
    exact ⟨rfl, 0, rfl⟩
  · obtain ⟨r, hr0⟩ : ∃ r, n % 10 = r := ⟨_, rfl⟩
    obtain ⟨q, hq0⟩ : ∃ q, n / 10 = q := ⟨_, rfl⟩
    have hq : IntKind.i64.wrap ((n : Int) / 10) = (q : Int) := by rw [IntWalk.i64_in _ (by omega)]; omega
    have hr : (n : Int).tmod 10 = (r : Int) := by have e : (n : Int).tmod 10 = ((n % 10 : Nat) : Int) := rfl
                                                  rw [e, hr0]
    have hm : r < 10 := by omega
    obtain ⟨t, ht0⟩ : ∃ t, r + 1 = t := ⟨_, rfl⟩
    have h2 : IntKind.i64.wrap ((r : Int) + 1) = (t : Int) := by rw [IntWalk.i64_in _ (by omega)]; omega
    have hrt : r ≤ t := by omega
    have ht : (t : Int) ≤ 10 := by omega
    have ht1 : t ≤ 10 := by omega
    have hi := ih (by omega)
    have hd := decL_more n h
    rw [hq0] at hi hd
    rw [hr0] at hd
    have hc := dec_cut ⟨r, hm⟩
    dsimp only at hc
    rw [ht0] at hc
    obtain ⟨R, hR⟩ : ∃ R, Txt (decL r) = R := ⟨_, rfl⟩
    obtain ⟨Q, hQ⟩ : ∃ Q, Txt (decL q) = Q := ⟨_, rfl⟩
    rw [hR] at hc
    rw [hQ] at hi
    have s1 : R.size ≤ 1000 := by rw [← hR, txt_size]; have := (decL_spec r r (Nat.le_refl _)).2.2.2 1 (by decide) (by omega); omega
    have s2 : Q.size ≤ 1000 := by rw [← hQ, txt_size]; have := (decL_spec q q (Nat.le_refl _)).2.2.2 3 (by decide) (by omega); omega
    have s3 : Q.size + R.size ≤ maxLen := by unfold maxLen; omega
    have HR := Lib.hid hR
    have HQ := Lib.hid hQ
    clear hR hQ
    have HD := Lib.hid hd
    have HI := Lib.hid hi
    clear ih hi hd hr0 hq0 ht0
    go_enter Tryz.func49, Tryz.ntmps49
    go_wp2_with fail
    go_quiet ((go_at_call 49; exact Calls.quiet_of (HI.out _)))
    go_wp2_with fail
    go_ret
    have e : Q ++ R = Txt (decL n) := by
      rw [HD.out, ← HQ.out, ← HR.out, decL_one r hm]
      exact (bytes_cat _ _)
    rw [← e]
    exact ⟨rfl, _, rfl⟩
set_option maxRecDepth 100000 in
set_option maxHeartbeats 1000000 in
theorem group_step (n : Nat) (hn : n < 65536) (ih : 16 ≤ n → ∀ w, Calls Tryz.prog 50 #[.int .i64 ((n / 16 : Nat) : Int)] w (DrP (.string (Txt (hexL (n / 16)))) w)) (w : World) :
    Calls Tryz.prog 50 #[.int .i64 (n : Int)] w (DrP (.string (Txt (hexL n))) w) := by
  by_cases h : n < 16
  · have HC := Lib.hid (hex_cut ⟨n, h⟩)
    clear ih
    go_enter Tryz.func50, Tryz.ntmps50
    go_wp2_with fail
    go_wp2_with fail
    go_ret
    rw [← HC.out]
    exact ⟨rfl, 0, rfl⟩
  · obtain ⟨r, hr0⟩ : ∃ r, n % 16 = r := ⟨_, rfl⟩
    obtain ⟨q, hq0⟩ : ∃ q, n / 16 = q := ⟨_, rfl⟩
    have hq : IntKind.i64.wrap ((n : Int) / 16) = (q : Int) := by rw [IntWalk.i64_in _ (by omega)]; omega
    have hr : (n : Int).tmod 16 = (r : Int) := by have e : (n : Int).tmod 16 = ((n % 16 : Nat) : Int) := rfl
                                                  rw [e, hr0]
    have hm : r < 16 := by omega
    obtain ⟨t, ht0⟩ : ∃ t, r + 1 = t := ⟨_, rfl⟩
    have h2 : IntKind.i64.wrap ((r : Int) + 1) = (t : Int) := by rw [IntWalk.i64_in _ (by omega)]; omega
    have hrt : r ≤ t := by omega
    have ht : (t : Int) ≤ 16 := by omega
    have ht1 : t ≤ 16 := by omega
    have hi := ih (by omega)
    have hd := hexL_more n h
    rw [hq0] at hi hd
    rw [hr0] at hd
    have hc := hex_cut ⟨r, hm⟩
    dsimp only at hc
    rw [ht0] at hc
    obtain ⟨R, hR⟩ : ∃ R, Txt (hexL r) = R := ⟨_, rfl⟩
    obtain ⟨Q, hQ⟩ : ∃ Q, Txt (hexL q) = Q := ⟨_, rfl⟩
    rw [hR] at hc
    rw [hQ] at hi
    have s1 : R.size ≤ 1000 := by rw [← hR, txt_size]; have := (hexL_ok 1 r (by decide) (by omega)).2.1; omega
    have s2 : Q.size ≤ 1000 := by rw [← hQ, txt_size]; have := (hexL_ok 4 q (by decide) (by omega)).2.1; omega
    have s3 : Q.size + R.size ≤ maxLen := by unfold maxLen; omega
    have HR := Lib.hid hR
    have HQ := Lib.hid hQ
    clear hR hQ
    have HD := Lib.hid hd
    have HI := Lib.hid hi
    clear ih hi hd hr0 hq0 ht0
    go_enter Tryz.func50, Tryz.ntmps50
    go_wp2_with fail
    go_quiet ((go_at_call 50; exact Calls.quiet_of (HI.out _)))
    go_wp2_with fail
    go_ret
    have e : Q ++ R = Txt (hexL n) := by
      rw [HD.out, ← HQ.out, ← HR.out, hexL_one r hm]
      exact (bytes_cat _ _)
    rw [← e]
    exact ⟨rfl, _, rfl⟩
theorem small_any (n : Nat) (hn : n < 1000) (w : World) : Calls Tryz.prog 49 #[.int .i64 (n : Int)] w (DrP (.string (Txt (decL n))) w) :=
  small_step n hn (fun _ => small_step (n / 10) (by omega) (fun _ => small_step (n / 10 / 10) (by omega) (fun h => absurd h (by omega)))) w
theorem group_any (n : Nat) (hn : n < 65536) (w : World) : Calls Tryz.prog 50 #[.int .i64 (n : Int)] w (DrP (.string (Txt (hexL n))) w) :=
  group_step n hn (fun _ => group_step (n / 16) (by omega) (fun _ => group_step (n / 16 / 16) (by omega) (fun _ => group_step (n / 16 / 16 / 16) (by omega) (fun h => absurd h (by omega))))) w
end Ad
end Go.Proofs.YtjkkcoiebnmkcaaGreatDoor
