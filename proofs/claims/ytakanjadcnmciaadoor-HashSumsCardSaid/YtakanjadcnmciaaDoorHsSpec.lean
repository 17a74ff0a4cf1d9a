/- The plain specification of layer 6 (hash) and plain facts about it: words, blocks, states. No program. -/
import Derived.Lib.Hide
namespace Go.Proofs.YtakanjadcnmciaaDoor
namespace Hs
def rotW (x : UInt32) (n : UInt32) : UInt32 := (x >>> n) ||| (x <<< (32 - n))
def sm0 (x : UInt32) : UInt32 := rotW x 7 ^^^ rotW x 18 ^^^ (x >>> 3)
def sm1 (x : UInt32) : UInt32 := rotW x 17 ^^^ rotW x 19 ^^^ (x >>> 10)
def lg0 (x : UInt32) : UInt32 := rotW x 2 ^^^ rotW x 13 ^^^ rotW x 22
def lg1 (x : UInt32) : UInt32 := rotW x 6 ^^^ rotW x 11 ^^^ rotW x 25
def keyL : List UInt32 := [
  0x428a2f98, 0x71374491, 0xb5c0fbcf, 0xe9b5dba5, 0x3956c25b, 0x59f111f1, 0x923f82a4, 0xab1c5ed5,
  0xd807aa98, 0x12835b01, 0x243185be, 0x550c7dc3, 0x72be5d74, 0x80deb1fe, 0x9bdc06a7, 0xc19bf174,
  0xe49b69c1, 0xefbe4786, 0x0fc19dc6, 0x240ca1cc, 0x2de92c6f, 0x4a7484aa, 0x5cb0a9dc, 0x76f988da,
  0x983e5152, 0xa831c66d, 0xb00327c8, 0xbf597fc7, 0xc6e00bf3, 0xd5a79147, 0x06ca6351, 0x14292967,
  0x27b70a85, 0x2e1b2138, 0x4d2c6dfc, 0x53380d13, 0x650a7354, 0x766a0abb, 0x81c2c92e, 0x92722c85,
  0xa2bfe8a1, 0xa81a664b, 0xc24b8b70, 0xc76c51a3, 0xd192e819, 0xd6990624, 0xf40e3585, 0x106aa070,
  0x19a4c116, 0x1e376c08, 0x2748774c, 0x34b0bcb5, 0x391c0cb3, 0x4ed8aa4a, 0x5b9cca4f, 0x682e6ff3,
  0x748f82ee, 0x78a5636f, 0x84c87814, 0x8cc70208, 0x90befffa, 0xa4506ceb, 0xbef9a3f7, 0xc67178f2]
def startL : List UInt32 := [0x6a09e667, 0xbb67ae85, 0x3c6ef372, 0xa54ff53a, 0x510e527f, 0x9b05688c, 0x1f83d9ab, 0x5be0cd19]
/-- The word at a place of four bytes. -/
def wd (b : List UInt8) (i : Nat) : UInt32 := (b.getD (4 * i) 0).toUInt32 <<< 24 + (b.getD (4 * i + 1) 0).toUInt32 <<< 16 + (b.getD (4 * i + 2) 0).toUInt32 <<< 8 + (b.getD (4 * i + 3) 0).toUInt32
def wordsL (b : List UInt8) : Nat → List UInt32
  | 0 => []
  | n + 1 => wordsL b n ++ [if n < 16 then wd b n else sm1 ((wordsL b n).getD (n - 2) 0) + (wordsL b n).getD (n - 7) 0 + sm0 ((wordsL b n).getD (n - 15) 0) + (wordsL b n).getD (n - 16) 0]
structure Rg where
  a : UInt32
  b : UInt32
  c : UInt32
  d : UInt32
  e : UInt32
  f : UInt32
  g : UInt32
  h : UInt32
def rnd (r : Rg) (k w : UInt32) : Rg :=
  let t := r.h + lg1 r.e + ((r.e &&& r.f) ^^^ ((~~~ r.e) &&& r.g)) + k + w
  let u := lg0 r.a + ((r.a &&& r.b) ^^^ (r.a &&& r.c) ^^^ (r.b &&& r.c))
  ⟨t + u, r.a, r.b, r.c, r.d + t, r.e, r.f, r.g⟩
def rounds (W : List UInt32) (r : Rg) : Nat → Rg
  | 0 => r
  | n + 1 => rnd (rounds W r n) (keyL.getD n 0) (W.getD n 0)
def regs (h : List UInt32) : Rg := ⟨h.getD 0 0, h.getD 1 0, h.getD 2 0, h.getD 3 0, h.getD 4 0, h.getD 5 0, h.getD 6 0, h.getD 7 0⟩
def addR (h : List UInt32) (r : Rg) : List UInt32 := [h.getD 0 0 + r.a, h.getD 1 0 + r.b, h.getD 2 0 + r.c, h.getD 3 0 + r.d, h.getD 4 0 + r.e, h.getD 5 0 + r.f, h.getD 6 0 + r.g, h.getD 7 0 + r.h]
def blk (h : List UInt32) (b : List UInt8) : List UInt32 := addR h (rounds (wordsL b 64) (regs h) 64)

/-! ### States -/
structure St where
  h : List UInt32
  n : Nat
  t : List UInt8
def pad (k : Nat) : List UInt8 := List.replicate k 0
def cn (s : St) : St := ⟨s.h, s.n, s.t.take (s.n % 64) ++ pad (64 - s.n % 64)⟩
def f1 (s : St) (c : UInt8) : St :=
  if (s.n + 1) % 64 = 0 then ⟨blk s.h (s.t.set (s.n % 64) c), (s.n + 1) % 18446744073709551616, pad 64⟩ else ⟨s.h, (s.n + 1) % 18446744073709551616, s.t.set (s.n % 64) c⟩
def feed (s : St) (b : List UInt8) : St := b.foldl f1 (cn s)
/-- A state without what does not count. -/
structure Ca (s : St) : Prop where
  l : s.t.length = 64
  z : s.t.drop (s.n % 64) = pad (64 - s.n % 64)
theorem cn_ca (s : St) (h : s.t.length = 64) : Ca (cn s) := by
  have h1 : (s.t.take (s.n % 64)).length = s.n % 64 := by rw [List.length_take]; omega
  refine ⟨?_, ?_⟩
  · unfold cn pad; simp; omega
  · unfold cn
    dsimp only
    rw [List.drop_left' h1]
theorem ca_cn (s : St) (h : Ca s) : cn s = s := by
  unfold cn
  rw [← h.z, List.take_append_drop]
theorem ca_f1 (s : St) (c : UInt8) (h : Ca s) : Ca (f1 s c) := by
  have h2 : (18446744073709551616 : Nat) % 64 = 0 := by decide
  have hm : (s.n + 1) % 18446744073709551616 % 64 = (s.n + 1) % 64 := Nat.mod_mod_of_dvd _ (Nat.dvd_of_mod_eq_zero h2)
  unfold f1
  split
  · rename_i h0
    refine ⟨by unfold pad; simp, ?_⟩
    show (pad 64).drop _ = _
    dsimp only
    rw [hm, h0]; rfl
  · rename_i h0
    have hn : (s.n + 1) % 64 = s.n % 64 + 1 := by omega
    refine ⟨by dsimp only; rw [List.length_set]; exact h.l, ?_⟩
    dsimp only
    rw [hm, hn, List.drop_set_of_lt (by omega)]
    have := congrArg (List.drop 1) h.z
    rw [List.drop_drop] at this
    rw [this]
    unfold pad
    rw [List.drop_replicate]
    congr 1
theorem ca_fold (b : List UInt8) : ∀ s, Ca s → Ca (b.foldl f1 s) := by
  induction b with
  | nil => intro s h; exact h
  | cons c t ih => intro s h; exact ih _ (ca_f1 s c h)
theorem ca_feed (s : St) (b : List UInt8) (h : s.t.length = 64) : Ca (feed s b) := ca_fold b _ (cn_ca s h)
theorem feed_split (s : St) (a b : List UInt8) (h : s.t.length = 64) : feed (feed s a) b = feed s (a ++ b) := by
  unfold feed
  rw [List.foldl_append, ca_cn _ (ca_fold a _ (cn_ca s h))]
theorem feed_one (s : St) (h : Ca s) (c : UInt8) : feed s [c] = f1 s c := by
  unfold feed
  rw [ca_cn s h]; rfl
theorem set_mid (x z : List UInt8) (y : UInt8) (c : UInt8) : (x ++ y :: z).set x.length c = x ++ c :: z := by
  rw [List.set_append_right _ _ (Nat.le_refl _), Nat.sub_self, List.set_cons_zero]
/-- What fits into the block that is not complete. -/
theorem fill (b : List UInt8) : ∀ (h : List UInt32) (n : Nat) (x : List UInt8), n < 18446744073709551616 → x.length = n % 64 → x.length + b.length < 64 →
    b.foldl f1 ⟨h, n, x ++ pad (64 - x.length)⟩ = ⟨h, (n + b.length) % 18446744073709551616, (x ++ b) ++ pad (64 - (x.length + b.length))⟩ := by
  induction b with
  | nil => intro h n x hn hx hl; simp [Nat.mod_eq_of_lt hn]
  | cons c t ih =>
    intro h n x hn hx hl
    rw [List.length_cons] at hl
    have hp : pad (64 - x.length) = 0 :: pad (64 - (x.length + 1)) := by
      unfold pad
      rw [show 64 - x.length = (64 - (x.length + 1)) + 1 by omega, List.replicate_succ]
    have hs : f1 ⟨h, n, x ++ pad (64 - x.length)⟩ c = ⟨h, (n + 1) % 18446744073709551616, (x ++ [c]) ++ pad (64 - (x ++ [c]).length)⟩ := by
      unfold f1
      dsimp only
      rw [if_neg (by omega), ← hx, hp, set_mid]
      simp
    rw [List.foldl_cons, hs, ih h _ (x ++ [c]) (Nat.mod_lt _ (by decide)) (by simp; omega) (by simp; omega)]
    simp only [List.length_append, List.length_cons, List.length_nil, List.append_assoc, List.cons_append, List.nil_append]
    congr 1
    · omega
    · congr 4; omega
/-- A block that becomes complete. -/
theorem fill_block (b : List UInt8) (h : List UInt32) (n : Nat) (x : List UInt8) (hn : n < 18446744073709551616) (hx : x.length = n % 64) (hl : x.length + b.length = 64) (hb : b ≠ []) :
    b.foldl f1 ⟨h, n, x ++ pad (64 - x.length)⟩ = ⟨blk h (x ++ b), (n + b.length) % 18446744073709551616, pad 64⟩ := by
  rcases List.eq_nil_or_concat b with rfl | ⟨t, c, rfl⟩
  · exact absurd rfl hb
  · rw [List.concat_eq_append] at hl ⊢
    rw [List.length_append, List.length_singleton] at hl
    rw [List.foldl_append, fill t h n x hn hx (by omega)]
    have hp : pad (64 - (x.length + t.length)) = [0] := by unfold pad; rw [show 64 - (x.length + t.length) = 1 by omega]; rfl
    have hm : (n + t.length) % 18446744073709551616 % 64 = (x ++ t).length := by
      rw [Nat.mod_mod_of_dvd _ (Nat.dvd_of_mod_eq_zero (by decide)), List.length_append]; omega
    show f1 _ c = _
    unfold f1
    dsimp only
    rw [hp, hm, set_mid, if_pos (by rw [Nat.add_mod, Nat.mod_mod_of_dvd _ (Nat.dvd_of_mod_eq_zero (by decide))]; omega)]
    rw [List.append_assoc, List.length_append, List.length_singleton]
    congr 1
    omega
def finL (n : Nat) : List UInt8 := (List.range 8).map fun i => (UInt8.ofNat (n / 2 ^ (8 * (7 - i))))
def zeros (k : Nat) : Nat := (119 - k) % 64
/-- What is fed at the end: the byte 128, bytes 0, and the length in bits. -/
def tailL (n : Nat) : List UInt8 := 128 :: (pad (zeros (n % 64)) ++ finL ((8 * n) % 18446744073709551616))
def outL (h : List UInt32) : List UInt8 := h.flatMap fun (x : UInt32) => [(x >>> 24).toUInt8, (x >>> 16).toUInt8, (x >>> 8).toUInt8, x.toUInt8]
def finish (s : St) : List UInt8 := outL (feed s (tailL s.n)).h
def start : St := ⟨startL, 0, pad 64⟩
def sum (b : List UInt8) : List UInt8 := finish (feed start b)
theorem f1_n (s : St) (c : UInt8) : (f1 s c).n = (s.n + 1) % 18446744073709551616 := by
  unfold f1
  split <;> rfl
theorem fold_n (b : List UInt8) : ∀ s : St, s.n < 18446744073709551616 → (b.foldl f1 s).n = (s.n + b.length) % 18446744073709551616 := by
  induction b with
  | nil => intro s h; simp [Nat.mod_eq_of_lt h]
  | cons c t ih =>
    intro s h
    rw [List.foldl_cons, ih _ (by rw [f1_n]; exact Nat.mod_lt _ (by decide)), f1_n, List.length_cons]
    omega
theorem feed_n (s : St) (b : List UInt8) (h : s.n < 18446744073709551616) : (feed s b).n = (s.n + b.length) % 18446744073709551616 := fold_n b (cn s) h
theorem zeros_end (n : Nat) : (n + 1 + zeros (n % 64)) % 64 = 56 := by unfold zeros; omega
theorem zeros_before (n j : Nat) (h : j < zeros (n % 64)) : (n + 1 + j) % 64 ≠ 56 := by unfold zeros at h; omega
theorem cn_cn (s : St) (h : s.t.length = 64) : cn (cn s) = cn s := ca_cn _ (cn_ca s h)
theorem feed_cn (s : St) (b : List UInt8) (h : s.t.length = 64) : feed (cn s) b = feed s b := by unfold feed; rw [cn_cn s h]
theorem finish_cn (s : St) (h : s.t.length = 64) : finish (cn s) = finish s := by unfold finish; rw [feed_cn s _ h]; rfl
theorem finish_steps (s : St) (h : s.t.length = 64) : finish s = outL (feed (feed (feed s [128]) (pad (zeros (s.n % 64)))) (finL ((8 * s.n) % 18446744073709551616))).h := by
  rw [feed_split s [128] _ h, feed_split s _ _ h]
  unfold finish tailL
  rw [List.append_assoc]
  rfl
def hexD (n : UInt8) : UInt8 := if n < 10 then 48 + n else 87 + n
def hex (b : List UInt8) : List UInt8 := b.flatMap fun (c : UInt8) => [hexD (c / 16), hexD (c % 16)]
theorem sum_abc : hex (sum [97, 98, 99]) = [98, 97, 55, 56, 49, 54, 98, 102, 56, 102, 48, 49, 99, 102, 101, 97, 52, 49, 52, 49, 52, 48, 100, 101, 53, 100, 97, 101, 50, 50, 50, 51, 98, 48, 48, 51, 54, 49, 97, 51, 57, 54, 49, 55, 55, 97, 57, 99, 98, 52, 49, 48, 102, 102, 54, 49, 102, 50, 48, 48, 49, 53, 97, 100] := by decide +kernel
end Hs
end Go.Proofs.YtakanjadcnmciaaDoor
