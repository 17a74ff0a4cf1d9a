/- Contract of the program's Unhex (layer 6). A text of at most 2^40 bytes. -/
import Derived.Test.YtakanjadcnmciaaDoorHsPi
namespace Go.Proofs.YtakanjadcnmciaaDoor
namespace Hs
open Go.RowKit Ad

/-- What has been decoded of the first j digits of L. -/
def UhR (L : List UInt8) (M j : Nat) (acc : List UInt8) : Prop := ∃ dec : List UInt8,
  (j % 2 = 0 ∧ dec.length * 2 = j ∧ acc = dec ++ pad (M - dec.length) ∧ unhex L = (unhex (L.drop j)).map (dec ++ ·)) ∨
  (j % 2 = 1 ∧ ∃ a x, dec.length * 2 + 1 = j ∧ a.toNat < 16 ∧ digV x = some a ∧ acc = dec ++ (a :: pad (M - dec.length - 1)) ∧ unhex L = (unhex (x :: L.drop j)).map (dec ++ ·))
theorem UhR.len {L : List UInt8} {M j : Nat} {acc : List UInt8} (h : UhR L M j acc) (hj : j ≤ 2 * M) : acc.length = M := by
  obtain ⟨dec, ⟨h1, h2, rfl, _⟩ | ⟨h1, a, x, h2, _, _, rfl, _⟩⟩ := h
  · unfold pad; simp; omega
  · unfold pad; simp; omega
theorem unhex_no1 (x : UInt8) (r : List UInt8) (h : digV x = none) : unhex (x :: r) = none := by
  cases r with
  | nil => rfl
  | cons y r =>
    unfold unhex
    rw [h]
theorem unhex_no2 (x y : UInt8) (r : List UInt8) (h : digV y = none) : unhex (x :: y :: r) = none := by
  unfold unhex
  rw [h]
  cases digV x <;> rfl
/-- A digit that is none. -/
theorem UhR.no {L : List UInt8} {M j : Nat} {acc : List UInt8} (h : UhR L M j acc) (x : UInt8) (r : List UInt8) (hd : L.drop j = x :: r) (hx : digV x = none) : unhex L = none := by
  obtain ⟨dec, ⟨h1, h2, _, h4⟩ | ⟨h1, a, y, h2, _, _, _, h4⟩⟩ := h
  · rw [h4, hd, unhex_no1 x r hx]; rfl
  · rw [h4, hd, unhex_no2 y x r hx]; rfl
/-- One more digit. -/
theorem UhR.next {L : List UInt8} {M j : Nat} {acc : List UInt8} (h : UhR L M j acc) (x d : UInt8) (r : List UInt8) (hd : L.drop j = x :: r) (hr : L.drop (j + 1) = r) (hx : digV x = some d) (hM : j < 2 * M) :
    ∃ a, acc.getD (j / 2) 0 = a ∧ a.toNat < 16 ∧ UhR L M (j + 1) (acc.set (j / 2) (16 * a + d)) := by
  have hd16 := (hex_dig x d hx).2
  obtain ⟨dec, ⟨h1, h2, rfl, h4⟩ | ⟨h1, a, y, h2, ha, hy, rfl, h4⟩⟩ := h
  · have e1 : j / 2 = dec.length := by omega
    have e2 : pad (M - dec.length) = 0 :: pad (M - dec.length - 1) := by
      unfold pad
      rw [show M - dec.length = (M - dec.length - 1) + 1 by omega, List.replicate_succ]
      simp
    have e3 : (16 * (0 : UInt8) + d) = d := by
      apply UInt8.toNat_inj.1
      rw [UInt8.toNat_add]
      show (0 + d.toNat) % 256 = d.toNat
      omega
    rw [e1, e2]
    refine ⟨0, by simp [List.getD_eq_getElem?_getD], by decide, dec, .inr ⟨by omega, d, x, by omega, hd16, hx, ?_, ?_⟩⟩
    · rw [set_mid, e3]
    · rw [h4, hd, hr]
  · have e1 : j / 2 = dec.length := by omega
    rw [e1]
    refine ⟨a, by simp [List.getD_eq_getElem?_getD], ha, dec ++ [16 * a + d], .inl ⟨by omega, by simp; omega, ?_, ?_⟩⟩
    · rw [set_mid]
      simp
      congr 1
    · rw [h4, hd, hr, unhex_step y x a d r hy hx]
      cases unhex r <;> simp
theorem UhR.done {L : List UInt8} {M j : Nat} {acc : List UInt8} (h : UhR L M j acc) (hj : j = 2 * M) (hl : L.length = j) : unhex L = some acc := by
  obtain ⟨dec, ⟨h1, h2, rfl, h4⟩ | ⟨h1, a, y, h2, ha, hy, rfl, h4⟩⟩ := h
  · rw [h4, List.drop_eq_nil_of_le (by omega), show M - dec.length = 0 by omega]
    simp [unhex, pad]
  · omega
theorem sh4 : ∀ a : Nat, a < 16 → ∀ b : Nat, b < 16 → bits .or .u8 ((a : Int) * 16 % 256) (b : Int) = 16 * (a : Int) + (b : Int) := by decide +kernel
theorem sh4_is (a d : UInt8) (ha : a.toNat < 16) (hd : d.toNat < 16) : bits .or .u8 ((a.toNat : Int) * 16 % 256) (d.toNat : Int) = ((16 * a + d).toNat : Int) := by
  rw [sh4 _ ha _ hd, UInt8.toNat_add, UInt8.toNat_mul]
  show _ = (((16 * a.toNat % 256 + d.toNat) % 256 : Nat) : Int)
  omega
set_option maxRecDepth 100000 in
set_option maxHeartbeats 1000000 in
theorem punhex_any (s : ByteArray) (w : World) (hs : s.size ≤ 1099511627776) : Calls Tryd.prog 23 #[.string s] w (UnP s.data.toList w) := by
  obtain ⟨i0, hi, hz0, hz1, hz2⟩ := info_parts' infoB
  have hlen := Lx.len_list s
  obtain ⟨L, hL⟩ : ∃ L, s.data.toList = L := ⟨_, rfl⟩
  rw [hL] at hlen ⊢
  by_cases hodd : s.size % 2 = 1
  · have hn := unhex_odd L.length L (Nat.le_refl _) (by omega)
    have hm : ((s.size : Int) % 2 != 0) = true := by rw [bne_iff_ne]; omega
    unfold UnP
    rw [hn]
    clear hn hodd hL hlen
    go_enter Tryd.func23, Tryd.ntmps23
    go_wp2_with fail
    go_ret2
    exact ⟨_, rfl, World.ownsRow_nil _ _ _ _, Below.refl _ _⟩
  · have hm : ((s.size : Int) % 2 != 0) = false := by rw [bne_eq_false_iff_eq]; omega
    have HU := Lib.hid hL
    obtain ⟨M, hM⟩ : ∃ M, s.size / 2 = M := ⟨_, rfl⟩
    have hM1 : (s.size : Int) / 2 = (M : Int) := by omega
    have hM2 : IntKind.i64.wrap (M : Int) = (M : Int) := IntWalk.i64_in _ (by omega)
    have hM3 : s.size = 2 * M := by omega
    have hmk := run_make (P := Tryd.prog) w 22 5 i0 (.int .u8 0) Tryd.underlying22 hi hz0 .i64 .i64 (M : Int) (M : Int) (by omega) (Int.le_refl _) (by rw [hz2]; omega) (by omega)
    rw [hz1, Int.toNat_natCast, Nat.mul_one] at hmk
    have hcz : madeCells (Value.int .u8 0).cells M = ((pad M).map bv).toArray := by
      unfold pad
      rw [List.map_replicate]
      apply Array.ext
      · rw [size_madeCells]; simp
      · intro i h1 h2
        simp [madeCells, Value.cells, bv, Nat.mod_one]
    rw [hcz] at hmk
    obtain ⟨w1, hw1⟩ : ∃ x, w.alloc (.cells ((pad M).map bv).toArray 5) = x := ⟨_, rfl⟩
    rw [hw1] at hmk
    have HB1 := Lib.hid (show Blk w1 w.heap.size 5 ((pad M).map bv).toArray from by rw [← hw1]; exact Blk.new w _ _)
    have HK1 := Lib.hid (show Kp [] w w1 from by rw [← hw1]; exact (Kp.refl _ _).alloc _)
    have HM3 := Lib.hid hM3
    have HLen := Lib.hid hlen
    clear hL hw1 hcz hM hM3 hodd hlen
    go_enter Tryd.func23, Tryd.ntmps23
    go_wp2_with fail
    clear hmk
    go_loopw [5, 6, 7, 18] (fun _ _ _ i wr => ∃ (j : Nat) (acc : List UInt8), j ≤ s.size ∧ i = .int .i64 j ∧ UhR L M j acc ∧ Blk wr w.heap.size 5 (acc.map bv).toArray ∧ Kp [w.heap.size] w1 wr) (fun _ _ _ i _ => s.size - (intOf i).toNat)
    case atStart => exact ⟨0, pad M, by omega, rfl, ⟨[], .inl ⟨rfl, rfl, rfl, by simp⟩⟩, HB1.out, Kp.refl _ _⟩
    case round =>
      obtain ⟨j, acc, hj, rfl, hR, hB, hK⟩ := hrel
      by_cases hlt : j < s.size
      · obtain ⟨x, hx⟩ : ∃ x, s[j] = x := ⟨_, rfl⟩
        have hx2 : (s[j].toNat : Int) = (x.toNat : Int) := by rw [hx]
        have hd : L.drop j = x :: L.drop (j + 1) := by rw [← HU.out, Lx.drop_step s j hlt, hx]
        have HB := Lib.hid hB
        have HK := Lib.hid hK
        have HRl := Lib.hid hR
        have hal := hR.len (by have := HM3.out; omega)
        have j0 : (0 : Int) ≤ (j : Int) := by omega
        have j1 : (j : Int) < (s.size : Int) := by omega
        cases hdx : digV x with
        | none =>
          have hno := hR.no x _ hd hdx
          have HN := Lib.hid hno
          have HD := Lib.hid hdx
          clear hx hd hB hK hR hal hdx hno
          go_wp2_with fail
          refine (pdig_any x _).mono ?_
          rintro e w2 ⟨rfl, rfl⟩
          unfold digN
          rw [HD.out]
          go_wp2_with fail
          go_ret2
          unfold UnP
          rw [HN.out]
          exact ⟨_, rfl, World.ownsRow_nil _ _ _ _, ((HK1.out.to_ HK.out (fun y hy => .inr (by rw [List.mem_singleton.1 hy]; exact Nat.le_refl _)))).toBelow (Nat.le_refl _) (by simp)⟩
        | some d =>
          obtain ⟨a, ha, ha16, hnx⟩ := hR.next x d _ hd rfl hdx (by have := HM3.out; omega)
          have hd16 := (hex_dig x d hdx).2
          obtain ⟨k, hk⟩ : ∃ k, j / 2 = k := ⟨_, rfl⟩
          rw [hk] at ha hnx
          have hkM : k < M := by have := HM3.out; omega
          have hk1 : (j : Int) / 2 = (k : Int) := by omega
          have hk2 : IntKind.i64.wrap (k : Int) = (k : Int) := IntWalk.i64_in _ (by omega)
          have k0 : (0 : Int) ≤ (k : Int) := by omega
          have k1 : (k : Int) < (M : Int) := by omega
          have ck : wr.cell? ⟨w.heap.size, k, none⟩ = some (.int .u8 (a.toNat : Int)) := bl_cell hB k a (by rw [hal]; exact hkM) ha
          have fk := hB.frozen k
          have HV := Lib.hid (sh4_is a d ha16 hd16)
          have HNX := Lib.hid hnx
          have HD := Lib.hid hdx
          clear hx hd hB hK hR hal hdx hnx ha hk hd16 ha16
          go_wp2_with fail
          refine (pdig_any x _).mono ?_
          rintro e w2 ⟨rfl, rfl⟩
          unfold digN
          rw [HD.out]
          dsimp only [Option.isSome]
          go_wp2_with fail
          go_roundw
          case rel => exact ⟨j + 1, acc.set k (16 * a + d), by omega, by go_num, HNX.out, by rw [HV.out]; exact bv_set HB.out k _, kp_set HK.out _ _⟩
          case measure => simp [intOf]; omega
      · obtain rfl : j = s.size := by omega
        have hdone := hR.done HM3.out HLen.out
        have hal := hR.len (by have := HM3.out; omega)
        have HDn := Lib.hid hdone
        have HAl := Lib.hid hal
        have HB := Lib.hid hB
        have HK := Lib.hid hK
        clear hR hB hK hdone hal hj hlt
        go_wp2_with fail
        go_ret2
        unfold UnP
        rw [HDn.out]
        refine ⟨_, rfl, ?_, (HK1.out.to_ HK.out (fun y hy => .inr (by rw [List.mem_singleton.1 hy]; exact Nat.le_refl _))).toBelow (Nat.le_refl _) (by simp)⟩
        refine ⟨by simp [Lib.byteCells], .inr ⟨w.heap.size, M, _, by show _ = Value.slice _ acc.length M; rw [HAl.out]; rfl, Nat.le_refl _, HB.out, by show acc.length ≤ M; rw [HAl.out]; exact Nat.le_refl _, by unfold maxLen; have := HM3.out; omega, by simp [HAl.out], ?_⟩⟩
        show ((acc.map bv).toArray.toList).take (acc.length * 1) = Lib.byteCells acc
        rw [List.take_of_length_le (by simp)]
        rfl
set_option maxRecDepth 100000 in
set_option maxHeartbeats 1000000 in
theorem ptext_any (s : ByteArray) (w : World) (E : KE w) (hs : s.size ≤ 1099511627776) : Calls Tryd.prog 17 #[.string s] w fun e w' => e = .returned (.string ⟨(hex (sum s.data.toList)).toArray⟩) ∧ Kp [] w w' := by
  have HE := Lib.hid E
  have hlen := Lx.len_list s
  obtain ⟨L, hL⟩ : ∃ L, s.data.toList = L := ⟨_, rfl⟩
  rw [hL] at hlen ⊢
  have hconv := run_bytes_of_string (P := Tryd.prog) w 9 22 5 s Tryd.underlying9 Tryd.underlying22 Tryd.underlying5
  have hcap0 : s.size ≤ grownCap w s.size 0 5 := grownCap_ge w s.size 0 5
  obtain ⟨cap, hcap⟩ : ∃ cap, grownCap w s.size 0 5 = cap := ⟨_, rfl⟩
  rw [hcap] at hconv hcap0
  obtain ⟨w1, hw1⟩ : ∃ x, w.drew.alloc (.cells (bytesRow s cap) 5 ((bytesRow s cap).size, (bytesRow s cap).size + 1)) = x := ⟨_, rfl⟩
  have hby : ByIn w1 (some ⟨w.heap.size, 0, none⟩) L := by
    refine .inr ⟨w.heap.size, 0, rfl, by rw [← hw1]; show w.heap.size < (w.drew.heap.push _).size; simp, fun i c hi => ?_⟩
    have hl : i < s.data.size := by
      have h9 := (List.getElem?_eq_some_iff.1 hi).1
      rw [hlen] at h9
      exact h9
    have hc : s.data[i] = c := by
      rw [← hL, Array.getElem?_toList, Array.getElem?_eq_getElem hl] at hi
      exact Option.some.inj hi
    have h1 := World.cell?_alloc_mark w.drew (bytesRow s cap) 5 ((bytesRow s cap).size, (bytesRow s cap).size + 1) i
    rw [← hw1, Nat.zero_add]
    exact h1.trans (by rw [bytesRow_at s cap i hl, hc])
  have hk : Kp [] w w1 := by rw [← hw1]; exact ((Kp.refl [] w).drew).alloc _
  rw [hw1] at hconv
  have HBy := Lib.hid hby
  have HK := Lib.hid hk
  have hcapL : L.length ≤ cap := by omega
  rw [← hlen] at hconv
  have HLn := Lib.hid hlen
  clear hw1 hby hk hcap hL hcap0 hlen
  obtain ⟨CR, hCR⟩ : ∃ C, ((sum L).map bv).toArray = C := ⟨_, rfl⟩
  have hsR : CR.size = 32 := by rw [← hCR, List.size_toArray, List.length_map, sum_len]
  have hoR : CR.all (·.oneCell') = true := by rw [← hCR]; exact bv_one _
  have HSR := Lib.hid hsR
  have HCR := Lib.hid hCR
  clear hCR hsR E
  go_enter Tryd.func17, Tryd.ntmps17
  go_wp2_with fail
  refine (psum_any L _ cap hcapL w1 (HE.out.kp HK.out (by simp)) HBy.out (by rw [HLn.out]; omega)).mono ?_
  rintro e w2 ⟨rfl, hK2⟩
  have HK2 := Lib.hid (HK.out.trans hK2)
  rw [HCR.out]
  obtain ⟨g, hg⟩ : ∃ g, w2.heap.size = g := ⟨_, rfl⟩
  have hN := Blk.new w2 24 zB
  rw [hg] at hN
  have HN := Lib.hid hN
  have hgw : w.heap.size ≤ g := by rw [← hg]; exact HK2.out.size
  have hzB : zB.size = 32 := by kernel_rfl
  have HZB := Lib.hid hzB
  have HG := Lib.hid hg
  clear hK2 hN hzB hconv
  go_upto_region 2 with (refine wpList_store_rowTo rfl 24 (.tmp 3) (.tmp 6) rfl rfl g CR rfl rfl 24 zB (by rw [zero32]; exact HN.out) (by rw [infoB32, HSR.out]) (by rw [HZB.out, HSR.out]) hoR ?_)
  rw [zero32]
  obtain ⟨w3, hw3⟩ : ∃ x, (w2.alloc (.cells zB 24)).setRow g CR = x := ⟨_, rfl⟩
  have hB3 : Blk w3 g 24 CR := by rw [← hw3]; exact setRow_heap _ _ _ _ _ _ HN.out
  have hK3 : Kp [g] w2 w3 := by rw [← hw3]; exact ((Kp.refl [g] w2).alloc _).trans (kp_setRow _ _ _)
  rw [hw3]
  have HB3 := Lib.hid hB3
  have HK3 := Lib.hid (HK2.out.to_ hK3 (fun y hy => .inr (by rw [List.mem_singleton.1 hy]; exact hgw)))
  have hby3 : ByIn w3 (some ⟨g, 0, none⟩) (sum L) := .inr ⟨g, 0, rfl, hB3.lt, fun i c hi => by
    rw [Nat.zero_add, hB3.cell i, ← HCR.out, List.getElem?_toArray, List.getElem?_map, hi]
    rfl⟩
  have HH := Lib.hid (phex_any (sum L) (some ⟨g, 0, none⟩) 32 w3 hby3 (by rw [sum_len]; omega))
  rw [sum_len] at HH
  clear hw3 hB3 hK3 hby3 hg
  go_wp2_with fail
  refine HH.out.mono ?_
  rintro e w4 ⟨rfl, hB4⟩
  have HB4 := Lib.hid hB4
  clear hB4
  go_wp2_with fail
  go_ret
  exact ⟨rfl, HK3.out.trans (kp_of_below HB4.out)⟩
end Hs
end Go.Proofs.YtakanjadcnmciaaDoor
