/- Contracts of package header: bytes, Canon, Many, values. -/
import Derived.Test.YtmmjfofdnpafkaaGreatDoorAdRg
import Derived.Test.YtmmjfofdnpafkaaGreatDoorM6
import Derived.Test.YtmmjfofdnpafkaaGreatDoorAdPq
import Derived.Test.YtmmjfofdnpafkaaGreatDoorM3
import Derived.Test.YtmmjfofdnpafkaaGreatDoorAdRm
import Derived.Laws.Rows
import Derived.Test.YtmmjfofdnpafkaaGreatDoorM5
import Derived.Test.YtmmjfofdnpafkaaGreatDoorAdFi
import Derived.Test.YtmmjfofdnpafkaaGreatDoorAdPp
import Derived.Lib.IndexAny
import Derived.Laws.Runes
import Derived.Laws.RangeAny
import Derived.Laws.RangeString
import Derived.Lib.OthersKept
import Derived.Test.YtmmjfofdnpafkaaGreatDoorM10
/- Contracts of lower, upper, eachByte and capitalized of package header. A text has at most 2^20 bytes. -/
namespace Go.Proofs.YtmmjfofdnpafkaaGreatDoor
namespace Ad
open Go.RowKit Lx

def uprB (c : UInt8) : UInt8 := if 97 ≤ c.toNat ∧ c.toNat ≤ 122 then c - 32 else c
def uprL (l : List UInt8) : List UInt8 := l.map uprB
/-- The letters at the front of each word in upper case. -/
def capF : Bool → List UInt8 → List UInt8
  | _, [] => []
  | b, c :: t => (if b then uprB c else c) :: capF ((((if b then uprB c else c).toNat : Int)) == 45) t
theorem capF_len : ∀ (l : List UInt8) (b : Bool), (capF b l).length = l.length := by
  intro l
  induction l with
  | nil => intro b; rfl
  | cons c t ih => intro b; simp [capF, ih]
theorem uprB_nat (c : UInt8) : (uprB c).toNat = if 97 ≤ c.toNat ∧ c.toNat ≤ 122 then c.toNat - 32 else c.toNat := by
  unfold uprB
  have := c.toNat_lt
  split
  · rw [UInt8.toNat_sub]; simp; omega
  · rfl
set_option maxRecDepth 100000 in
set_option maxHeartbeats 1000000 in
theorem hlower_any (c : UInt8) (w : World) : Calls Tryz.prog 117 #[.int .u8 (c.toNat : Int)] w (Ret (.int .u8 ((lowB c).toNat : Int)) w) := by
  have hn := lowB_nat c
  have hlt := c.toNat_lt
  obtain ⟨n, hc⟩ : ∃ n, c.toNat = n := ⟨_, rfl⟩
  rw [hc] at hn hlt ⊢
  obtain ⟨m, hm⟩ : ∃ m, (lowB c).toNat = m := ⟨_, rfl⟩
  rw [hm] at hn ⊢
  clear hc hm
  by_cases hu : 65 ≤ n ∧ n ≤ 90
  · rw [if_pos hu] at hn
    obtain ⟨u1, u2⟩ := hu
    have i1 : IntKind.u8.wrap ((n : Int) - 65) = (n : Int) - 65 := IntWalk.u8_in _ (by omega)
    have i2 : IntKind.u8.wrap ((n : Int) - 65 + 97) = (n : Int) - 65 + 97 := IntWalk.u8_in _ (by omega)
    have Hn := Lib.hid (by omega : (n : Int) - 65 + 97 = (m : Int))
    clear hn
    go_enter Tryz.func117, Tryz.ntmps117
    go_wp2_with fail
    go_ret
    exact ⟨ret_int Hn.out, rfl⟩
  · rw [if_neg hu] at hn
    have Hn := Lib.hid (by omega : (n : Int) = (m : Int))
    by_cases u1 : 65 ≤ n
    · have u2 : ¬ n ≤ 90 := fun h => hu ⟨u1, h⟩
      clear hn hu
      go_enter Tryz.func117, Tryz.ntmps117
      go_wp2_with fail
      go_ret
      exact ⟨ret_int Hn.out, rfl⟩
    · clear hn hu
      go_enter Tryz.func117, Tryz.ntmps117
      go_wp2_with fail
      go_ret
      exact ⟨ret_int Hn.out, rfl⟩
set_option maxRecDepth 100000 in
set_option maxHeartbeats 1000000 in
theorem hupper_any (c : UInt8) (w : World) : Calls Tryz.prog 90 #[.int .u8 (c.toNat : Int)] w (Ret (.int .u8 ((uprB c).toNat : Int)) w) := by
  have hn := uprB_nat c
  have hlt := c.toNat_lt
  obtain ⟨n, hc⟩ : ∃ n, c.toNat = n := ⟨_, rfl⟩
  rw [hc] at hn hlt ⊢
  obtain ⟨m, hm⟩ : ∃ m, (uprB c).toNat = m := ⟨_, rfl⟩
  rw [hm] at hn ⊢
  clear hc hm
  by_cases hu : 97 ≤ n ∧ n ≤ 122
  · rw [if_pos hu] at hn
    obtain ⟨u1, u2⟩ := hu
    have i1 : IntKind.u8.wrap ((n : Int) - 97) = (n : Int) - 97 := IntWalk.u8_in _ (by omega)
    have i2 : IntKind.u8.wrap ((n : Int) - 97 + 65) = (n : Int) - 97 + 65 := IntWalk.u8_in _ (by omega)
    have Hn := Lib.hid (by omega : (n : Int) - 97 + 65 = (m : Int))
    clear hn
    go_enter Tryz.func90, Tryz.ntmps90
    go_wp2_with fail
    go_ret
    exact ⟨ret_int Hn.out, rfl⟩
  · rw [if_neg hu] at hn
    have Hn := Lib.hid (by omega : (n : Int) = (m : Int))
    by_cases u1 : 97 ≤ n
    · have u2 : ¬ n ≤ 122 := fun h => hu ⟨u1, h⟩
      clear hn hu
      go_enter Tryz.func90, Tryz.ntmps90
      go_wp2_with fail
      go_ret
      exact ⟨ret_int Hn.out, rfl⟩
    · clear hn hu
      go_enter Tryz.func90, Tryz.ntmps90
      go_wp2_with fail
      go_ret
      exact ⟨ret_int Hn.out, rfl⟩
set_option maxRecDepth 100000 in
set_option maxHeartbeats 1000000 in
theorem hcap1_any (c : UInt8) (g : Nat) (b : Bool) (w : World) (hc : w.cell? ⟨g, 0, none⟩ = some (.bool b)) (hf : w.frozen? ⟨g, 0, none⟩ = false) :
    Calls Tryz.prog 198 #[.int .u8 (c.toNat : Int), .pointer (some ⟨g, 0, none⟩)] w (fun e w' => e = .returned (.int .u8 ((if b then uprB c else c).toNat : Int)) ∧ w' = w.setCell ⟨g, 0, none⟩ (.bool ((((if b then uprB c else c).toNat : Int)) == 45))) := by
  cases b
  · rw [if_neg (by decide)]
    go_enter Tryz.func198, Tryz.ntmps198
    go_wp2_with fail
    go_ret
    exact ⟨rfl, rfl⟩
  · rw [if_pos rfl]
    go_enter Tryz.func198, Tryz.ntmps198
    go_wp2_with fail
    refine (hupper_any c _).mono ?_
    rintro e w2 ⟨rfl, hw⟩
    obtain rfl := hw
    go_wp2_with fail
    go_ret
    exact ⟨rfl, rfl⟩
/-- The byte at i of a text of which the first j bytes are those of another one. -/
def mpAt (s : ByteArray) (T : List UInt8) (j i : Nat) (h : i < s.size) : Int := if i < j then (T.getD i 0).toNat else s[i].toNat
theorem mpAt_at (s : ByteArray) (T : List UInt8) (i : Nat) (h : i < s.size) : mpAt s T i i h = s[i].toNat := by unfold mpAt; rw [if_neg (by omega)]
theorem mpAt_next (s : ByteArray) (T : List UInt8) (j i : Nat) (h : i < s.size) (hn : i ≠ j) : mpAt s T (j + 1) i h = mpAt s T j i h := by
  unfold mpAt
  by_cases hl : i < j
  · rw [if_pos hl, if_pos (by omega)]
  · rw [if_neg hl, if_neg (by omega)]
theorem mpAt_new (s : ByteArray) (T : List UInt8) (j : Nat) (h : j < s.size) : mpAt s T (j + 1) j h = (T.getD j 0).toNat := by unfold mpAt; rw [if_pos (by omega)]
/-- The row in which the bytes lie. -/
structure MpR (s : ByteArray) (T : List UInt8) (B j : Nat) (w : World) : Prop where
  cell : ∀ i (h : i < s.size), w.cell? ⟨B, i, none⟩ = some (.int .u8 (mpAt s T j i h))
  soft : ∀ i, i < s.size → w.frozen? ⟨B, i, none⟩ = false
theorem MpR.put {s : ByteArray} {T : List UInt8} {B j : Nat} {w : World} (h : MpR s T B j w) (hj : j < s.size) (x : Int) (he : ((T.getD j 0).toNat : Int) = x) : MpR s T B (j + 1) (w.setCell ⟨B, j, none⟩ (.int .u8 x)) := by
  refine ⟨fun i hi => ?_, fun i hi => by rw [World.frozen?_setCell]; exact h.soft i hi⟩
  by_cases hij : i = j
  · subst hij
    rw [mpAt_new, he]; exact World.cell?_setCell_same _ _ _ (h.cell i hi)
  · rw [mpAt_next s T j i hi hij]; exact (World.cell?_setCell_other _ _ _ _ (by intro e; injection e with _ e2; exact hij e2.symm)).trans (h.cell i hi)
theorem MpR.far {s : ByteArray} {T : List UInt8} {B j : Nat} {w : World} (h : MpR s T B j w) {p : Addr} (hp : p.block ≠ B) (u : Value) : MpR s T B j (w.setCell p u) :=
  ⟨fun i hi => (World.cell?_setCell_other _ _ _ _ (by intro e; rw [e] at hp; exact hp rfl)).trans (h.cell i hi), fun i hi => by rw [World.frozen?_setCell]; exact h.soft i hi⟩
theorem MpR.start (s : ByteArray) (T : List UInt8) (cap : Nat) (w : World) : MpR s T w.heap.size 0 (w.alloc (.cells (bytesRow s cap) 5 ((bytesRow s cap).size, (bytesRow s cap).size + 1))) := by
  have hsz : ∀ i, i < s.size → i < (bytesRow s cap).size := fun i hi => by unfold bytesRow; simp; omega
  refine ⟨fun i hi => ?_, fun i hi => ?_⟩
  · rw [World.cell?_alloc_mark, bytesRow_at s cap i hi]; unfold mpAt; rw [if_neg (by omega)]; rfl
  · rw [World.frozen?_alloc_mark, decide_eq_false (by have := hsz i hi; omega)]; rfl
theorem MpR.back {s : ByteArray} {T : List UInt8} {B j cap : Nat} {w : World} (h : MpR s T B j w) (hj : s.size ≤ j) (hT : T.length = s.size) : (convert 118 9 (.slice (some ⟨B, 0, none⟩) s.size cap)).run Tryz.prog w = .ok (.string ⟨T.toArray⟩) w := by
  have := run_convert_bytes_back (P := Tryz.prog) w 118 9 5 ⟨B, 0, none⟩ cap T Tryz.underlying118 Tryz.underlying5 Tryz.underlying9 (fun i hi => by
    have hi2 : i < s.size := by omega
    have hadd : (⟨B, 0, none⟩ : Addr).add i = ⟨B, i, none⟩ := by unfold Addr.add; split <;> simp_all
    rw [hadd, h.cell i hi2]
    unfold mpAt
    rw [if_pos (by omega), List.getD_eq_getElem?_getD, List.getElem?_eq_getElem hi]
    rfl)
  rw [hT] at this
  exact this
theorem map_getD (f : UInt8 → UInt8) (s : ByteArray) (j : Nat) (h : j < s.size) : (s.data.toList.map f).getD j 0 = f s[j] := by
  rw [List.getD_eq_getElem?_getD, List.getElem?_map, List.getElem?_eq_getElem (by rw [len_list]; exact h)]
  rfl
set_option maxRecDepth 100000 in
set_option maxHeartbeats 4000000 in
theorem each_low (s : ByteArray) (w : World) (hs : s.size ≤ 1099511627776) :
    Calls Tryz.prog 89 #[.string s, .func (.func 117) #[] #[]] w (RetNew (lowL s.data.toList) w) := by
  have hconv := run_bytes_of_string (P := Tryz.prog) w 9 118 5 s Tryz.underlying9 Tryz.underlying118 Tryz.underlying5
  obtain ⟨cap, hcap⟩ : ∃ cap, grownCap w s.size 0 5 = cap := ⟨_, rfl⟩
  obtain ⟨T, hT⟩ : ∃ T, lowL s.data.toList = T := ⟨_, rfl⟩
  have hTl : T.length = s.size := by rw [← hT]; unfold lowL; rw [List.length_map, len_list]
  have HTg := Lib.hid (fun (j : Nat) (h : j < s.size) => (by rw [← hT]; exact map_getD lowB s j h : T.getD j 0 = lowB s[j]))
  have HTl := Lib.hid hTl
  have HS := Lib.hid (MpR.start s T cap w)
  rw [hT]
  rw [hcap] at hconv
  obtain ⟨C, hC⟩ : ∃ C, bytesRow s cap = C := ⟨_, rfl⟩
  rw [hC] at hconv
  have HS := Lib.hid (by have := HS.out; rw [hC] at this; exact this : MpR s T w.heap.size 0 (w.alloc (.cells C 5 (C.size, C.size + 1))))
  clear hcap hC hT hTl
  go_enter Tryz.func89, Tryz.ntmps89
  go_wp2_with fail
  go_loopw [12] (fun i wr => ∃ j : Nat, j ≤ s.size ∧ i = .int .i64 j ∧ MpR s T w.heap.size j wr ∧ Below w.heap.size w wr) (fun i _ => s.size - (intOf i).toNat)
  case atStart => exact ⟨0, by omega, rfl, ⟨HS.out.cell, HS.out.soft⟩, ((Below.refl _ w).alloc (Nat.le_refl _) _).drew⟩
  case round =>
    obtain ⟨j, hj, rfl, hL, hB⟩ := hrel
    have HL := Lib.hid hL
    clear hL
    have hsz := hB.size
    by_cases hlt : j < s.size
    · have hcj := HL.out.cell j hlt
      rw [mpAt_at] at hcj
      have hfj := HL.out.soft j hlt
      have Hn := Lib.hid (congrArg (fun z : UInt8 => (z.toNat : Int)) (HTg.out j hlt))
      have HCa := Lib.hid (fun wz => hlower_any s[j] wz)
      go_wp2_with fail
      refine (HCa.out _).mono ?_
      rintro e w2 ⟨rfl, hw⟩
      obtain rfl := hw
      go_wp2_with fail
      go_roundw
      case rel => exact ⟨j + 1, by omega, by go_num, HL.out.put hlt _ Hn.out, hB.setCell (by simp) _⟩
      case measure => simp [intOf]; omega
    · have hbk := HL.out.back (cap := cap) (by omega) HTl.out
      go_wp2_with fail
      go_ret
      exact ⟨rfl, hB⟩
set_option maxRecDepth 100000 in
set_option maxHeartbeats 4000000 in
theorem each_up (s : ByteArray) (w : World) (hs : s.size ≤ 1099511627776) :
    Calls Tryz.prog 89 #[.string s, .func (.func 90) #[] #[]] w (RetNew (uprL s.data.toList) w) := by
  have hconv := run_bytes_of_string (P := Tryz.prog) w 9 118 5 s Tryz.underlying9 Tryz.underlying118 Tryz.underlying5
  obtain ⟨cap, hcap⟩ : ∃ cap, grownCap w s.size 0 5 = cap := ⟨_, rfl⟩
  obtain ⟨T, hT⟩ : ∃ T, uprL s.data.toList = T := ⟨_, rfl⟩
  have hTl : T.length = s.size := by rw [← hT]; unfold uprL; rw [List.length_map, len_list]
  have HTg := Lib.hid (fun (j : Nat) (h : j < s.size) => (by rw [← hT]; exact map_getD uprB s j h : T.getD j 0 = uprB s[j]))
  have HTl := Lib.hid hTl
  have HS := Lib.hid (MpR.start s T cap w)
  rw [hT]
  rw [hcap] at hconv
  obtain ⟨C, hC⟩ : ∃ C, bytesRow s cap = C := ⟨_, rfl⟩
  rw [hC] at hconv
  have HS := Lib.hid (by have := HS.out; rw [hC] at this; exact this : MpR s T w.heap.size 0 (w.alloc (.cells C 5 (C.size, C.size + 1))))
  clear hcap hC hT hTl
  go_enter Tryz.func89, Tryz.ntmps89
  go_wp2_with fail
  go_loopw [12] (fun i wr => ∃ j : Nat, j ≤ s.size ∧ i = .int .i64 j ∧ MpR s T w.heap.size j wr ∧ Below w.heap.size w wr) (fun i _ => s.size - (intOf i).toNat)
  case atStart => exact ⟨0, by omega, rfl, ⟨HS.out.cell, HS.out.soft⟩, ((Below.refl _ w).alloc (Nat.le_refl _) _).drew⟩
  case round =>
    obtain ⟨j, hj, rfl, hL, hB⟩ := hrel
    have HL := Lib.hid hL
    clear hL
    have hsz := hB.size
    by_cases hlt : j < s.size
    · have hcj := HL.out.cell j hlt
      rw [mpAt_at] at hcj
      have hfj := HL.out.soft j hlt
      have Hn := Lib.hid (congrArg (fun z : UInt8 => (z.toNat : Int)) (HTg.out j hlt))
      have HCa := Lib.hid (fun wz => hupper_any s[j] wz)
      go_wp2_with fail
      refine (HCa.out _).mono ?_
      rintro e w2 ⟨rfl, hw⟩
      obtain rfl := hw
      go_wp2_with fail
      go_roundw
      case rel => exact ⟨j + 1, by omega, by go_num, HL.out.put hlt _ Hn.out, hB.setCell (by simp) _⟩
      case measure => simp [intOf]; omega
    · have hbk := HL.out.back (cap := cap) (by omega) HTl.out
      go_wp2_with fail
      go_ret
      exact ⟨rfl, hB⟩
theorem capF_step (b : Bool) (s : ByteArray) (T : List UInt8) (j : Nat) (h : j < s.size) (hT : T.drop j = capF b (s.data.toList.drop j)) :
    T.getD j 0 = (if b then uprB s[j] else s[j]) ∧ T.drop (j + 1) = capF ((((if b then uprB s[j] else s[j]).toNat : Int)) == 45) (s.data.toList.drop (j + 1)) := by
  rw [drop_step s j h, capF] at hT
  have h1 : T[j]? = some (if b then uprB s[j] else s[j]) := by
    have := congrArg (·[0]?) hT
    simpa using this
  refine ⟨by rw [List.getD_eq_getElem?_getD, h1]; rfl, ?_⟩
  have := congrArg (·.drop 1) hT
  simpa [List.drop_drop] using this
set_option maxRecDepth 100000 in
set_option maxHeartbeats 4000000 in
theorem each_cap (s : ByteArray) (b0 : Bool) (g : Nat) (w : World) (hs : s.size ≤ 1099511627776) (hg : g < w.heap.size) (hc : w.cell? ⟨g, 0, none⟩ = some (.bool b0)) (hf : w.frozen? ⟨g, 0, none⟩ = false) :
    Calls Tryz.prog 89 #[.string s, .func (.func 198) #[] #[.pointer (some ⟨g, 0, none⟩)]] w (fun e w' => e = .returned (.string (Txt (capF b0 s.data.toList))) ∧ Kp [g] w w') := by
  have hconv := run_bytes_of_string (P := Tryz.prog) w 9 118 5 s Tryz.underlying9 Tryz.underlying118 Tryz.underlying5
  obtain ⟨cap, hcap⟩ : ∃ cap, grownCap w s.size 0 5 = cap := ⟨_, rfl⟩
  obtain ⟨T, hT⟩ : ∃ T, capF b0 s.data.toList = T := ⟨_, rfl⟩
  have hTl : T.length = s.size := by rw [← hT, capF_len, len_list]
  have HT0 := Lib.hid (show T.drop 0 = capF b0 (s.data.toList.drop 0) from by rw [List.drop_zero, List.drop_zero]; exact hT.symm)
  have HTl := Lib.hid hTl
  have HS := Lib.hid (MpR.start s T cap w)
  rw [hT]
  rw [hcap] at hconv
  obtain ⟨C, hC⟩ : ∃ C, bytesRow s cap = C := ⟨_, rfl⟩
  rw [hC] at hconv
  have HS := Lib.hid (by have := HS.out; rw [hC] at this; exact this : MpR s T w.heap.size 0 (w.alloc (.cells C 5 (C.size, C.size + 1))))
  have HC0 := Lib.hid ((World.cell?_alloc_lt w (.cells C 5 (C.size, C.size + 1)) ⟨g, 0, none⟩ hg).trans hc)
  have HF0 := Lib.hid (show (w.alloc (.cells C 5 (C.size, C.size + 1))).frozen? ⟨g, 0, none⟩ = false from by
    have := Below.heap_alloc w (.cells C 5 (C.size, C.size + 1)) g hg
    unfold World.frozen? at hf ⊢
    dsimp only at hf ⊢
    rw [this]; exact hf)
  clear hcap hC hT hTl hc hf
  go_enter Tryz.func89, Tryz.ntmps89
  go_wp2_with fail
  go_loopw [12] (fun i wr => ∃ (j : Nat) (b : Bool), j ≤ s.size ∧ i = .int .i64 j ∧ MpR s T w.heap.size j wr ∧ Kp [g] w wr ∧ wr.cell? ⟨g, 0, none⟩ = some (.bool b) ∧ wr.frozen? ⟨g, 0, none⟩ = false ∧ T.drop j = capF b (s.data.toList.drop j)) (fun i _ => s.size - (intOf i).toNat)
  case atStart => exact ⟨0, b0, by omega, rfl, ⟨HS.out.cell, HS.out.soft⟩, ((Kp.refl _ w).alloc _).drew, HC0.out, HF0.out, HT0.out⟩
  case round =>
    obtain ⟨j, b, hj, rfl, hL, hK, hgc, hgf, hTj⟩ := hrel
    have HL := Lib.hid hL
    have HK := Lib.hid hK
    have HTj := Lib.hid hTj
    have Hgc := Lib.hid hgc
    have Hgf := Lib.hid hgf
    have hsz := hK.size
    clear hL hTj hK hgc hgf
    by_cases hlt : j < s.size
    · have hcj := HL.out.cell j hlt
      rw [mpAt_at] at hcj
      obtain ⟨st1, st2⟩ := capF_step b s T j hlt HTj.out
      obtain ⟨y, hy⟩ : ∃ y, (if b then uprB s[j] else s[j]) = y := ⟨_, rfl⟩
      have HCa := Lib.hid (by have h := hcap1_any s[j] g b wr Hgc.out Hgf.out; rw [hy] at h; exact h)
      rw [hy] at st1 st2
      have Hn := Lib.hid (congrArg (fun z : UInt8 => (z.toNat : Int)) st1)
      have Hst := Lib.hid st2
      have hgB : g ≠ w.heap.size := by omega
      clear st1 st2 hy
      obtain ⟨w2, hw2⟩ : ∃ x, wr.setCell ⟨g, 0, none⟩ (.bool (((y.toNat : Int)) == 45)) = x := ⟨_, rfl⟩
      have L2 := Lib.hid (show MpR s T w.heap.size j w2 from by rw [← hw2]; exact HL.out.far (p := ⟨g, 0, none⟩) hgB _)
      have K2 := Lib.hid (show Kp [g] w w2 from by rw [← hw2]; exact HK.out.setCell (p := ⟨g, 0, none⟩) (.inl (by simp)) _)
      have G2 := Lib.hid (show w2.cell? ⟨g, 0, none⟩ = some (.bool (((y.toNat : Int)) == 45)) from by rw [← hw2]; exact World.cell?_setCell_same _ _ _ Hgc.out)
      have F2 := Lib.hid (show w2.frozen? ⟨g, 0, none⟩ = false from by rw [← hw2, World.frozen?_setCell]; exact Hgf.out)
      have hHC := HCa.out
      rw [hw2] at hHC
      have HC2 := Lib.hid hHC
      clear hHC hw2 HCa
      have hfj := L2.out.soft j hlt
      go_wp2_with fail
      refine HC2.out.mono ?_
      rintro e w3 ⟨rfl, rfl⟩
      have hcj2 := L2.out.cell j hlt
      rw [mpAt_at] at hcj2
      go_wp2_with fail
      go_roundw
      case rel => exact ⟨j + 1, _, by omega, by go_num, L2.out.put hlt _ Hn.out, K2.out.setCell (p := ⟨w.heap.size, j, none⟩) (.inr (Nat.le_refl _)) _, (World.cell?_setCell_other _ _ _ _ (by intro e; injection e with e1; exact hgB e1.symm)).trans G2.out, by rw [World.frozen?_setCell]; exact F2.out, Hst.out⟩
      case measure => simp [intOf]; omega
    · have hbk := HL.out.back (cap := cap) (by omega) HTl.out
      go_wp2_with fail
      go_ret
      exact ⟨rfl, HK.out⟩
set_option maxRecDepth 100000 in
set_option maxHeartbeats 1000000 in
theorem hcapitalized_any (s : ByteArray) (w : World) (hs : s.size ≤ 1099511627776) :
    Calls Tryz.prog 118 #[.string s] w (TxK (capF true s.data.toList) w) := by
  obtain ⟨g, hg⟩ : ∃ x, w.heap.size = x := ⟨_, rfl⟩
  obtain ⟨w1, hw1⟩ : ∃ x, w.alloc (.cells #[.bool true] 4) = x := ⟨_, rfl⟩
  have b1 : Blk w1 g 4 #[.bool true] := by rw [← hw1, ← hg]; exact Blk.new w _ _
  have K1 := Lib.hid (show Kp [] w w1 from by rw [← hw1]; exact (Kp.refl _ _).alloc _)
  have HE := Lib.hid (each_cap s true g w1 hs b1.lt (b1.cell 0) (b1.frozen 0))
  have hgw : w.heap.size ≤ g := by omega
  clear b1
  go_enter Tryz.func118, Tryz.ntmps118
  go_wp2_with fail
  refine HE.out.mono ?_
  rintro e w2 ⟨rfl, hK2⟩
  go_wp2_with fail
  go_ret
  exact ⟨rfl, K1.out.to_ hK2 (by intro y hy; right; rw [List.mem_singleton.1 hy]; exact hgw)⟩
end Ad
end Go.Proofs.YtmmjfofdnpafkaaGreatDoor
/- What the variables of package header hold; the canonical name and the kind of its values, as plain functions; kindOf. -/
namespace Go.Proofs.YtmmjfofdnpafkaaGreatDoor
namespace Ad
open Go.RowKit Lx

theorem run_index_rows {P : Program} (w : World) (xt elem : TypeId) (len size : Nat) (cs : Array Value) (j : Nat) (hu : P.underlying xt = some (.array len elem)) (hs : ∀ w, (sizeOf elem).run P w = .ok size w) (ha : ∀ w, (isAgg elem).run P w = .ok true w) (hj : j < len) :
    (Instr.index xt (.agg cs) (.int .i64 (j : Int))).run P w = .ok (.agg (cs.extract (j * size) (j * size + size))) w := by
  have h1 : (0 : Int) ≤ (j : Int) ∧ (j : Int) < (len : Int) := ⟨by omega, by omega⟩
  unfold Instr.index part
  simp [asIntOf, run_underlying hu, hs, ha, h1, Sem.run_bind, Result.andThen, hj]
theorem run_index_one {P : Program} (w : World) (xt elem : TypeId) (len : Nat) (cs : Array Value) (j : Nat) (v : Value) (hu : P.underlying xt = some (.array len elem)) (hs : ∀ w, (sizeOf elem).run P w = .ok 1 w) (ha : ∀ w, (isAgg elem).run P w = .ok false w) (hj : j < len) (hv : cs[j]? = some v) :
    (Instr.index xt (.agg cs) (.int .i64 (j : Int))).run P w = .ok v w := by
  have h1 : (0 : Int) ≤ (j : Int) ∧ (j : Int) < (len : Int) := ⟨by omega, by omega⟩
  unfold Instr.index part
  simp [asIntOf, run_underlying hu, hs, ha, h1, Sem.run_bind, Result.andThen, hj, hv]
/-- The letters and the names for which they stand. -/
def shortL : List (List UInt8 × List UInt8) := [([98], [82, 101, 102, 101, 114, 114, 101, 100, 45, 66, 121]), ([99], [67, 111, 110, 116, 101, 110, 116, 45, 84, 121, 112, 101]), ([101], [67, 111, 110, 116, 101, 110, 116, 45, 69, 110, 99, 111, 100, 105, 110, 103]), ([102], [70, 114, 111, 109]), ([105], [67, 97, 108, 108, 45, 73, 68]), ([107], [83, 117, 112, 112, 111, 114, 116, 101, 100]), ([108], [67, 111, 110, 116, 101, 110, 116, 45, 76, 101, 110, 103, 116, 104]), ([109], [67, 111, 110, 116, 97, 99, 116]), ([111], [69, 118, 101, 110, 116]), ([114], [82, 101, 102, 101, 114, 45, 84, 111]), ([115], [83, 117, 98, 106, 101, 99, 116]), ([116], [84, 111]), ([117], [65, 108, 108, 111, 119, 45, 69, 118, 101, 110, 116, 115]), ([118], [86, 105, 97]), ([120], [83, 101, 115, 115, 105, 111, 110, 45, 69, 120, 112, 105, 114, 101, 115])]
def specL : List (List UInt8) := [[67, 97, 108, 108, 45, 73, 68], [67, 83, 101, 113], [77, 73, 77, 69, 45, 86, 101, 114, 115, 105, 111, 110], [77, 105, 110, 45, 83, 69], [82, 65, 99, 107], [82, 83, 101, 113], [87, 87, 87, 45, 65, 117, 116, 104, 101, 110, 116, 105, 99, 97, 116, 101]]
def kindL : List (List UInt8 × Int × Bool) := [([70, 114, 111, 109], 1, false), ([84, 111], 1, false), ([67, 111, 110, 116, 97, 99, 116], 1, true), ([82, 111, 117, 116, 101], 1, true), ([82, 101, 99, 111, 114, 100, 45, 82, 111, 117, 116, 101], 1, true), ([80, 97, 116, 104], 1, true), ([83, 101, 114, 118, 105, 99, 101, 45, 82, 111, 117, 116, 101], 1, true), ([82, 101, 102, 101, 114, 45, 84, 111], 1, false), ([82, 101, 102, 101, 114, 114, 101, 100, 45, 66, 121], 1, false), ([82, 101, 112, 108, 121, 45, 84, 111], 1, false), ([86, 105, 97], 2, true), ([67, 83, 101, 113], 3, false), ([82, 65, 99, 107], 4, false), ([67, 111, 110, 116, 101, 110, 116, 45, 76, 101, 110, 103, 116, 104], 5, false), ([69, 120, 112, 105, 114, 101, 115], 5, false), ([77, 97, 120, 45, 70, 111, 114, 119, 97, 114, 100, 115], 5, false), ([77, 105, 110, 45, 69, 120, 112, 105, 114, 101, 115], 5, false), ([82, 83, 101, 113], 5, false), ([67, 111, 110, 116, 101, 110, 116, 45, 68, 105, 115, 112, 111, 115, 105, 116, 105, 111, 110], 6, false), ([67, 111, 110, 116, 101, 110, 116, 45, 84, 121, 112, 101], 6, false), ([69, 118, 101, 110, 116], 6, false), ([77, 105, 110, 45, 83, 69], 6, false), ([83, 101, 115, 115, 105, 111, 110, 45, 69, 120, 112, 105, 114, 101, 115], 6, false), ([83, 117, 98, 115, 99, 114, 105, 112, 116, 105, 111, 110, 45, 83, 116, 97, 116, 101], 6, false), ([65, 99, 99, 101, 112, 116], 7, true), ([65, 108, 108, 111, 119], 7, true), ([65, 108, 108, 111, 119, 45, 69, 118, 101, 110, 116, 115], 7, true), ([80, 114, 111, 120, 121, 45, 82, 101, 113, 117, 105, 114, 101], 7, true), ([82, 101, 113, 117, 105, 114, 101], 7, true), ([83, 117, 112, 112, 111, 114, 116, 101, 100], 7, true), ([85, 110, 115, 117, 112, 112, 111, 114, 116, 101, 100], 7, true)]
def canS (R : Option (List UInt8)) (low : List UInt8) : List UInt8 := match R with | some z => z | none => capF true low
def canO (R : Option (List UInt8 × List UInt8)) (S : Option (List UInt8)) (low : List UInt8) : List UInt8 := match R with | some p => p.2 | none => canS S low
def canN (l : List UInt8) : List UInt8 := canO (shortL.find? (fun p => p.1 == lowL l)) (specL.find? (fun z => lowL z == lowL l)) (lowL l)
def canB (l : List UInt8) : Bool := tokB l && decide (l.length ≤ 64)
/-- Canon: the name and the error. -/
def canR (l : List UInt8) : List UInt8 × Int := if canB l then (canN l, 0) else ([], 5)
/-- The kind of values of a canonical name, and whether they may be lists. -/
def kindO (R : Option (List UInt8 × Int × Bool)) : Int × Bool := match R with | some p => p.2 | none => (0, false)
def kindR (l : List UInt8) : Int × Bool := kindO (kindL.find? (fun p => p.1 == l))
def kindCells : Array Value := #[.string ⟨#[70, 114, 111, 109]⟩, .int .u8 1, .bool false, .string ⟨#[84, 111]⟩, .int .u8 1, .bool false, .string ⟨#[67, 111, 110, 116, 97, 99, 116]⟩, .int .u8 1, .bool true, .string ⟨#[82, 111, 117, 116, 101]⟩, .int .u8 1, .bool true, .string ⟨#[82, 101, 99, 111, 114, 100, 45, 82, 111, 117, 116, 101]⟩, .int .u8 1, .bool true, .string ⟨#[80, 97, 116, 104]⟩, .int .u8 1, .bool true, .string ⟨#[83, 101, 114, 118, 105, 99, 101, 45, 82, 111, 117, 116, 101]⟩, .int .u8 1, .bool true, .string ⟨#[82, 101, 102, 101, 114, 45, 84, 111]⟩, .int .u8 1, .bool false, .string ⟨#[82, 101, 102, 101, 114, 114, 101, 100, 45, 66, 121]⟩, .int .u8 1, .bool false, .string ⟨#[82, 101, 112, 108, 121, 45, 84, 111]⟩, .int .u8 1, .bool false, .string ⟨#[86, 105, 97]⟩, .int .u8 2, .bool true, .string ⟨#[67, 83, 101, 113]⟩, .int .u8 3, .bool false, .string ⟨#[82, 65, 99, 107]⟩, .int .u8 4, .bool false, .string ⟨#[67, 111, 110, 116, 101, 110, 116, 45, 76, 101, 110, 103, 116, 104]⟩, .int .u8 5, .bool false, .string ⟨#[69, 120, 112, 105, 114, 101, 115]⟩, .int .u8 5, .bool false, .string ⟨#[77, 97, 120, 45, 70, 111, 114, 119, 97, 114, 100, 115]⟩, .int .u8 5, .bool false, .string ⟨#[77, 105, 110, 45, 69, 120, 112, 105, 114, 101, 115]⟩, .int .u8 5, .bool false, .string ⟨#[82, 83, 101, 113]⟩, .int .u8 5, .bool false, .string ⟨#[67, 111, 110, 116, 101, 110, 116, 45, 68, 105, 115, 112, 111, 115, 105, 116, 105, 111, 110]⟩, .int .u8 6, .bool false, .string ⟨#[67, 111, 110, 116, 101, 110, 116, 45, 84, 121, 112, 101]⟩, .int .u8 6, .bool false, .string ⟨#[69, 118, 101, 110, 116]⟩, .int .u8 6, .bool false, .string ⟨#[77, 105, 110, 45, 83, 69]⟩, .int .u8 6, .bool false, .string ⟨#[83, 101, 115, 115, 105, 111, 110, 45, 69, 120, 112, 105, 114, 101, 115]⟩, .int .u8 6, .bool false, .string ⟨#[83, 117, 98, 115, 99, 114, 105, 112, 116, 105, 111, 110, 45, 83, 116, 97, 116, 101]⟩, .int .u8 6, .bool false, .string ⟨#[65, 99, 99, 101, 112, 116]⟩, .int .u8 7, .bool true, .string ⟨#[65, 108, 108, 111, 119]⟩, .int .u8 7, .bool true, .string ⟨#[65, 108, 108, 111, 119, 45, 69, 118, 101, 110, 116, 115]⟩, .int .u8 7, .bool true, .string ⟨#[80, 114, 111, 120, 121, 45, 82, 101, 113, 117, 105, 114, 101]⟩, .int .u8 7, .bool true, .string ⟨#[82, 101, 113, 117, 105, 114, 101]⟩, .int .u8 7, .bool true, .string ⟨#[83, 117, 112, 112, 111, 114, 116, 101, 100]⟩, .int .u8 7, .bool true, .string ⟨#[85, 110, 115, 117, 112, 112, 111, 114, 116, 101, 100]⟩, .int .u8 7, .bool true]
def shortCells : Array Value := #[.string ⟨#[98]⟩, .string ⟨#[82, 101, 102, 101, 114, 114, 101, 100, 45, 66, 121]⟩, .string ⟨#[99]⟩, .string ⟨#[67, 111, 110, 116, 101, 110, 116, 45, 84, 121, 112, 101]⟩, .string ⟨#[101]⟩, .string ⟨#[67, 111, 110, 116, 101, 110, 116, 45, 69, 110, 99, 111, 100, 105, 110, 103]⟩, .string ⟨#[102]⟩, .string ⟨#[70, 114, 111, 109]⟩, .string ⟨#[105]⟩, .string ⟨#[67, 97, 108, 108, 45, 73, 68]⟩, .string ⟨#[107]⟩, .string ⟨#[83, 117, 112, 112, 111, 114, 116, 101, 100]⟩, .string ⟨#[108]⟩, .string ⟨#[67, 111, 110, 116, 101, 110, 116, 45, 76, 101, 110, 103, 116, 104]⟩, .string ⟨#[109]⟩, .string ⟨#[67, 111, 110, 116, 97, 99, 116]⟩, .string ⟨#[111]⟩, .string ⟨#[69, 118, 101, 110, 116]⟩, .string ⟨#[114]⟩, .string ⟨#[82, 101, 102, 101, 114, 45, 84, 111]⟩, .string ⟨#[115]⟩, .string ⟨#[83, 117, 98, 106, 101, 99, 116]⟩, .string ⟨#[116]⟩, .string ⟨#[84, 111]⟩, .string ⟨#[117]⟩, .string ⟨#[65, 108, 108, 111, 119, 45, 69, 118, 101, 110, 116, 115]⟩, .string ⟨#[118]⟩, .string ⟨#[86, 105, 97]⟩, .string ⟨#[120]⟩, .string ⟨#[83, 101, 115, 115, 105, 111, 110, 45, 69, 120, 112, 105, 114, 101, 115]⟩]
def specCells : Array Value := #[.string ⟨#[67, 97, 108, 108, 45, 73, 68]⟩, .string ⟨#[67, 83, 101, 113]⟩, .string ⟨#[77, 73, 77, 69, 45, 86, 101, 114, 115, 105, 111, 110]⟩, .string ⟨#[77, 105, 110, 45, 83, 69]⟩, .string ⟨#[82, 65, 99, 107]⟩, .string ⟨#[82, 83, 101, 113]⟩, .string ⟨#[87, 87, 87, 45, 65, 117, 116, 104, 101, 110, 116, 105, 99, 97, 116, 101]⟩]
theorem kind_at : ∀ j, j < 31 → ∃ n k m, kindL[j]? = some (n, k, m) ∧ kindCells.extract (j * 3) (j * 3 + 3) = #[.string (Txt n), .int .u8 k, .bool m]
  | 0, _ => ⟨_, _, _, rfl, rfl⟩
  | 1, _ => ⟨_, _, _, rfl, rfl⟩
  | 2, _ => ⟨_, _, _, rfl, rfl⟩
  | 3, _ => ⟨_, _, _, rfl, rfl⟩
  | 4, _ => ⟨_, _, _, rfl, rfl⟩
  | 5, _ => ⟨_, _, _, rfl, rfl⟩
  | 6, _ => ⟨_, _, _, rfl, rfl⟩
  | 7, _ => ⟨_, _, _, rfl, rfl⟩
  | 8, _ => ⟨_, _, _, rfl, rfl⟩
  | 9, _ => ⟨_, _, _, rfl, rfl⟩
  | 10, _ => ⟨_, _, _, rfl, rfl⟩
  | 11, _ => ⟨_, _, _, rfl, rfl⟩
  | 12, _ => ⟨_, _, _, rfl, rfl⟩
  | 13, _ => ⟨_, _, _, rfl, rfl⟩
  | 14, _ => ⟨_, _, _, rfl, rfl⟩
  | 15, _ => ⟨_, _, _, rfl, rfl⟩
  | 16, _ => ⟨_, _, _, rfl, rfl⟩
  | 17, _ => ⟨_, _, _, rfl, rfl⟩
  | 18, _ => ⟨_, _, _, rfl, rfl⟩
  | 19, _ => ⟨_, _, _, rfl, rfl⟩
  | 20, _ => ⟨_, _, _, rfl, rfl⟩
  | 21, _ => ⟨_, _, _, rfl, rfl⟩
  | 22, _ => ⟨_, _, _, rfl, rfl⟩
  | 23, _ => ⟨_, _, _, rfl, rfl⟩
  | 24, _ => ⟨_, _, _, rfl, rfl⟩
  | 25, _ => ⟨_, _, _, rfl, rfl⟩
  | 26, _ => ⟨_, _, _, rfl, rfl⟩
  | 27, _ => ⟨_, _, _, rfl, rfl⟩
  | 28, _ => ⟨_, _, _, rfl, rfl⟩
  | 29, _ => ⟨_, _, _, rfl, rfl⟩
  | 30, _ => ⟨_, _, _, rfl, rfl⟩
  | n + 31, h => absurd h (by omega)
theorem short_at : ∀ j, j < 15 → ∃ a b, shortL[j]? = some (a, b) ∧ shortCells.extract (j * 2) (j * 2 + 2) = #[.string (Txt a), .string (Txt b)]
  | 0, _ => ⟨_, _, rfl, rfl⟩
  | 1, _ => ⟨_, _, rfl, rfl⟩
  | 2, _ => ⟨_, _, rfl, rfl⟩
  | 3, _ => ⟨_, _, rfl, rfl⟩
  | 4, _ => ⟨_, _, rfl, rfl⟩
  | 5, _ => ⟨_, _, rfl, rfl⟩
  | 6, _ => ⟨_, _, rfl, rfl⟩
  | 7, _ => ⟨_, _, rfl, rfl⟩
  | 8, _ => ⟨_, _, rfl, rfl⟩
  | 9, _ => ⟨_, _, rfl, rfl⟩
  | 10, _ => ⟨_, _, rfl, rfl⟩
  | 11, _ => ⟨_, _, rfl, rfl⟩
  | 12, _ => ⟨_, _, rfl, rfl⟩
  | 13, _ => ⟨_, _, rfl, rfl⟩
  | 14, _ => ⟨_, _, rfl, rfl⟩
  | n + 15, h => absurd h (by omega)
theorem spec_at : ∀ j, j < 7 → ∃ a, specL[j]? = some a ∧ specCells[j]? = some (.string (Txt a)) ∧ a.length ≤ 20
  | 0, _ => ⟨_, rfl, rfl, by decide⟩
  | 1, _ => ⟨_, rfl, rfl, by decide⟩
  | 2, _ => ⟨_, rfl, rfl, by decide⟩
  | 3, _ => ⟨_, rfl, rfl, by decide⟩
  | 4, _ => ⟨_, rfl, rfl, by decide⟩
  | 5, _ => ⟨_, rfl, rfl, by decide⟩
  | 6, _ => ⟨_, rfl, rfl, by decide⟩
  | n + 7, h => absurd h (by omega)
theorem find_step {α : Type} (p : α → Bool) (l : List α) (j : Nat) (x : α) (h : l[j]? = some x) : (l.drop j).find? p = if p x then some x else (l.drop (j + 1)).find? p := by
  obtain ⟨hj, hx⟩ := List.getElem?_eq_some_iff.1 h
  rw [List.drop_eq_getElem_cons hj, hx, List.find?_cons]
  cases p x <;> rfl
/-- The variables that the walks of package header read. -/
structure HEnv (w : World) : Prop where
  env : Env w
  kd : ∃ t fr, w.heap[(2 : Nat)]? = some (.cells kindCells t fr)
  sh : ∃ t fr, w.heap[(0 : Nat)]? = some (.cells shortCells t fr)
  sp : ∃ t fr, w.heap[(1 : Nat)]? = some (.cells specCells t fr)
theorem HEnv.kp {X : List Nat} {w w' : World} (h : HEnv w) (k : Kp X w w') (hX : ∀ x ∈ X, 7 ≤ x) : HEnv w' := by
  have hn : ∀ i, i < 7 → i ∉ X := fun i hi hm => by have := hX i hm; omega
  have hb : ∀ g, g < 7 → w'.heap[g]? = w.heap[g]? := fun g hg => k.block g (Nat.lt_of_lt_of_le hg h.env.sz) (hn g hg)
  exact ⟨h.env.kp k hX, by rw [hb _ (by decide)]; exact h.kd, by rw [hb _ (by decide)]; exact h.sh, by rw [hb _ (by decide)]; exact h.sp⟩
theorem txt_eq_iff (a b : List UInt8) : ((Txt a).toList == (Txt b).toList) = (a == b) := by rw [Lib.toList_data, Lib.toList_data]; rfl
def KiP (r : Int × Bool) (w : World) (e : Ending) (w' : World) : Prop := e = .returned (.tuple #[.int .u8 r.1, .bool r.2]) ∧ Kp [] w w'
set_option maxRecDepth 100000 in
set_option maxHeartbeats 4000000 in
theorem kindOf_any (l : List UInt8) (w : World) (H : HEnv w) :
    Calls Tryz.prog 105 #[.string (Txt l)] w (KiP (kindR l) w) := by
  obtain ⟨t, fr, hg⟩ := H.kd
  obtain ⟨R, hR⟩ : ∃ R, kindL.find? (fun p => p.1 == l) = R := ⟨_, rfl⟩
  have HV := Lib.hid (by unfold kindR; rw [hR] : kindR l = kindO R)
  have HR := Lib.hid hR
  have Hg := Lib.hid hg
  clear H hR hg
  obtain ⟨C, hC⟩ : ∃ C, kindCells = C := ⟨_, rfl⟩
  have HC := Lib.hid hC
  have hsz : (Tryz.prog.info? 175).map (·.size) = some C.size := by rw [← hC]; kernel_rfl
  rw [hC] at Hg
  clear hC
  go_enter Tryz.func105, Tryz.ntmps105
  go_wp2_with fail
  refine wp_load_row _ _ rfl 2 rfl t C fr _ Hg.out Tryz.underlying175 rfl hsz ?_
  go_wp2_with fail
  go_loopw [7] (fun i wr => ∃ j : Nat, j ≤ 31 ∧ i = .int .i64 j ∧ (kindL.drop j).find? (fun p => p.1 == l) = R ∧ Kp [] w wr) (fun i _ => 31 - (intOf i).toNat)
  case atStart => exact ⟨0, by omega, rfl, by rw [List.drop_zero]; exact HR.out, Kp.refl _ _⟩
  case round =>
    obtain ⟨j, hj, rfl, hf, hK⟩ := hrel
    have Hf := Lib.hid hf
    have HK := Lib.hid hK
    clear hf hK
    by_cases hlt : j < 31
    · obtain ⟨n, k, m, hx, hex⟩ := kind_at j hlt
      rw [HC.out] at hex
      have hix := (by have h := run_index_rows (P := Tryz.prog) wr _ _ 31 3 C j Tryz.underlying175 Tryz.sizeOf174 Tryz.isAgg174 hlt; rw [hex] at h; exact h)
      have hst := find_step (fun p : List UInt8 × Int × Bool => p.1 == l) kindL j _ hx
      rw [Hf.out] at hst
      dsimp only at hst
      obtain ⟨w2, hw2⟩ : ∃ x, wr.alloc (.cells #[.string (Txt n), .int .u8 k, .bool m] 174) = x := ⟨_, rfl⟩
      obtain ⟨g, hgg⟩ : ∃ x, wr.heap.size = x := ⟨_, rfl⟩
      have B2 := Lib.hid (show Blk w2 g 174 #[.string (Txt n), .int .u8 k, .bool m] from by rw [← hw2, ← hgg]; exact Blk.new wr _ _)
      have K2 := Lib.hid (show Kp [] w w2 from by rw [← hw2]; exact HK.out.alloc _)
      have c0 := B2.out.cell 0
      have c1 := B2.out.cell 1
      have c2 := B2.out.cell 2
      clear hex hx
      cases hb : (n == l)
      · have bE : ((Txt n).toList == (Txt l).toList) = false := (txt_eq_iff n l).trans hb
        rw [hb, if_neg (by decide)] at hst
        have Hst := Lib.hid hst.symm
        clear hst hb
        go_wp2_with fail
        go_roundw
        case rel => exact ⟨j + 1, by omega, by go_num, Hst.out, K2.out⟩
        case measure => simp [intOf]; omega
      · have bE : ((Txt n).toList == (Txt l).toList) = true := (txt_eq_iff n l).trans hb
        rw [hb, if_pos rfl] at hst
        have HF := Lib.hid (by rw [HV.out, hst]; rfl : kindR l = (k, m))
        clear hst hb
        go_upto_region 5 with fail
        go_quiet (fail)
        go_wp2_with fail
        go_ret2
        unfold KiP
        rw [HF.out]
        exact ⟨rfl, K2.out.drewN _⟩
    · have HF := Lib.hid (by
        have h := Hf.out
        rw [show j = 31 from by omega] at h
        rw [HV.out, ← h]; rfl : kindR l = (0, false))
      go_wp2_with fail
      go_ret2
      unfold KiP
      rw [HF.out]
      exact ⟨rfl, HK.out⟩
end Ad
end Go.Proofs.YtmmjfofdnpafkaaGreatDoor
/- Contracts of Canon and Many of package header. A name has at most 2^20 bytes. -/
namespace Go.Proofs.YtmmjfofdnpafkaaGreatDoor
namespace Ad
open Go.RowKit Lx

/-- A text and an error. -/
def TxE (r : List UInt8 × Int) (w : World) (e : Ending) (w' : World) : Prop := e = .returned (.tuple #[.string (Txt r.1), .int .u8 r.2]) ∧ Kp [] w w'
theorem lowL_length (l : List UInt8) : (lowL l).length = l.length := by unfold lowL; simp
set_option maxRecDepth 100000 in
set_option maxHeartbeats 8000000 in
theorem canon_any (s : ByteArray) (w : World) (hs : s.size ≤ 2097152) (H : HEnv w) :
    Calls Tryz.prog 58 #[.string s] w (TxE (canR s.data.toList) w) := by
  have HTok := Lib.hid (fun wz => (by have h := token_any s wz (by unfold maxLen; omega); rw [tokenB_eq] at h; exact h : Calls Tryz.prog 85 #[.string s] wz (Ret (.bool (tokB s.data.toList)) wz)))
  have hlen := len_list s
  cases hT : tokB s.data.toList
  · have HF := Lib.hid (by unfold canR canB; rw [hT]; rfl : canR s.data.toList = ([], 5))
    rw [hT] at HTok
    clear hT hlen
    go_enter Tryz.func58, Tryz.ntmps58
    go_wp2_with fail
    refine (HTok.out _).mono ?_
    rintro e w1 ⟨rfl, hw⟩
    obtain rfl := hw
    go_wp2_with fail
    go_ret2
    unfold TxE
    rw [HF.out]
    exact ⟨rfl, Kp.refl _ _⟩
  rw [hT] at HTok
  by_cases h64 : s.size ≤ 64
  case neg =>
    have HF := Lib.hid (by unfold canR canB; rw [hT, hlen, decide_eq_false h64]; rfl : canR s.data.toList = ([], 5))
    have b64 : (64 : Int) < (s.size : Int) := by omega
    clear hT hlen h64
    go_enter Tryz.func58, Tryz.ntmps58
    go_wp2_with fail
    refine (HTok.out _).mono ?_
    rintro e w1 ⟨rfl, hw⟩
    obtain rfl := hw
    go_wp2_with fail
    go_ret2
    unfold TxE
    rw [HF.out]
    exact ⟨rfl, Kp.refl _ _⟩
  have b64 : ¬ (64 : Int) < (s.size : Int) := by omega
  obtain ⟨L, hL⟩ : ∃ L, lowL s.data.toList = L := ⟨_, rfl⟩
  have hLl : L.length = s.size := by rw [← hL, lowL_length, hlen]
  obtain ⟨R, hR⟩ : ∃ R, shortL.find? (fun p => p.1 == L) = R := ⟨_, rfl⟩
  obtain ⟨S, hS⟩ : ∃ S, specL.find? (fun z => lowL z == L) = S := ⟨_, rfl⟩
  have HV := Lib.hid (by unfold canR canB; rw [hT, hlen, decide_eq_true h64]; unfold canN; rw [hL, hR, hS]; rfl : canR s.data.toList = (canO R S L, 0))
  have HR := Lib.hid hR
  have HS := Lib.hid hS
  have HLo := Lib.hid (fun wz => (by have h := each_low s wz (by omega); rw [hL] at h; exact h : Calls Tryz.prog 89 #[.string s, .func (.func 117) #[] #[]] wz (RetNew L wz)))
  have HCa := Lib.hid (fun wz => (by have h := hcapitalized_any (Txt L) wz (by rw [txt_size]; omega); rw [txt_list] at h; exact h : Calls Tryz.prog 118 #[.string (Txt L)] wz (TxK (capF true L) wz)))
  have HSp := Lib.hid (fun (z : List UInt8) wz (hz : z.length ≤ 20) => (by have h := each_low (Txt z) wz (by rw [txt_size]; omega); rw [txt_list] at h; exact h : Calls Tryz.prog 89 #[.string (Txt z), .func (.func 117) #[] #[]] wz (RetNew (lowL z) wz)))
  have H0 := Lib.hid H
  obtain ⟨C, hC⟩ : ∃ C, shortCells = C := ⟨_, rfl⟩
  have HC := Lib.hid hC
  have hszC : (Tryz.prog.info? 121).map (·.size) = some C.size := by rw [← hC]; kernel_rfl
  obtain ⟨D, hD⟩ : ∃ D, specCells = D := ⟨_, rfl⟩
  have HD := Lib.hid hD
  have hszD : (Tryz.prog.info? 122).map (·.size) = some D.size := by rw [← hD]; kernel_rfl
  have HszC := Lib.hid hszC
  have HszD := Lib.hid hszD
  clear hT h64 hL hR hS hlen hC hD H hszC hszD hLl
  go_enter Tryz.func58, Tryz.ntmps58
  go_wp2_with fail
  refine (HTok.out _).mono ?_
  rintro e w1 ⟨rfl, hw⟩
  obtain rfl := hw
  go_wp2_with fail
  refine (HLo.out _).mono ?_
  rintro e w2 ⟨rfl, hB2⟩
  have K2 := Lib.hid ((Kp.refl [] w).below hB2)
  rw [show (⟨L.toArray⟩ : ByteArray) = Txt L from rfl]
  obtain ⟨tC, fC, hgC⟩ := (H0.out.kp K2.out (by simp)).sh
  rw [HC.out] at hgC
  clear hB2
  go_wp2_with (refine wpList_load_row rfl 121 (.global 0) rfl 0 rfl tC C fC _ hgC Tryz.underlying121 rfl HszC.out ?_)
  go_loopw [20] (fun i wr => ∃ j : Nat, j ≤ 15 ∧ i = .int .i64 j ∧ (shortL.drop j).find? (fun p => p.1 == L) = R ∧ Kp [] w wr) (fun i _ => 15 - (intOf i).toNat)
  case atStart => exact ⟨0, by omega, rfl, by rw [List.drop_zero]; exact HR.out, K2.out⟩
  case round =>
    obtain ⟨j, hj, rfl, hf, hK⟩ := hrel
    have Hf := Lib.hid hf
    have HK := Lib.hid hK
    clear hf hK
    by_cases hlt : j < 15
    · obtain ⟨n, z, hx, hex⟩ := short_at j hlt
      rw [HC.out] at hex
      have hix := (by have h := run_index_rows (P := Tryz.prog) wr _ _ 15 2 C j Tryz.underlying121 Tryz.sizeOf120 Tryz.isAgg120 hlt; rw [hex] at h; exact h)
      have hst := find_step (fun p : List UInt8 × List UInt8 => p.1 == L) shortL j _ hx
      rw [Hf.out] at hst
      dsimp only at hst
      obtain ⟨w3, hw3⟩ : ∃ x, wr.alloc (.cells #[.string (Txt n), .string (Txt z)] 120) = x := ⟨_, rfl⟩
      obtain ⟨g, hgg⟩ : ∃ x, wr.heap.size = x := ⟨_, rfl⟩
      have B3 := Lib.hid (show Blk w3 g 120 #[.string (Txt n), .string (Txt z)] from by rw [← hw3, ← hgg]; exact Blk.new wr _ _)
      have K3 := Lib.hid (show Kp [] w w3 from by rw [← hw3]; exact HK.out.alloc _)
      have c0 := B3.out.cell 0
      have c1 := B3.out.cell 1
      clear hex hx
      cases hb : (n == L)
      · have bE : ((Txt n).toList == (Txt L).toList) = false := (txt_eq_iff n L).trans hb
        rw [hb, if_neg (by decide)] at hst
        have Hst := Lib.hid hst.symm
        clear hst hb
        go_wp2_with fail
        go_roundw
        case rel => exact ⟨j + 1, by omega, by go_num, Hst.out, K3.out⟩
        case measure => simp [intOf]; omega
      · have bE : ((Txt n).toList == (Txt L).toList) = true := (txt_eq_iff n L).trans hb
        rw [hb, if_pos rfl] at hst
        have HF := Lib.hid (by rw [HV.out, hst]; rfl : canR s.data.toList = (z, 0))
        clear hst hb
        go_wp2_with fail
        go_ret2
        unfold TxE
        rw [HF.out]
        exact ⟨rfl, K3.out⟩
    · have HRn := Lib.hid (by
        have h := Hf.out
        rw [show j = 15 from by omega] at h
        exact h.symm : R = none)
      have HV2 := Lib.hid (by rw [HV.out, HRn.out]; rfl : canR s.data.toList = (canS S L, 0))
      obtain ⟨tD, fD, hgD⟩ := (H0.out.kp HK.out (by simp)).sp
      rw [HD.out] at hgD
      go_wp2_with (refine wpList_load_row rfl 122 (.global 1) rfl 1 rfl tD D fD _ hgD Tryz.underlying122 rfl HszD.out ?_)
      clear hgD
      go_loopw [31] (fun i ws => ∃ k : Nat, k ≤ 7 ∧ i = .int .i64 k ∧ (specL.drop k).find? (fun z => lowL z == L) = S ∧ Kp [] w ws) (fun i _ => 7 - (intOf i).toNat)
      case atStart => exact ⟨0, by omega, rfl, by rw [List.drop_zero]; exact HS.out, HK.out⟩
      case round =>
        obtain ⟨k, hk, rfl, hf2, hK2⟩ := hrel
        have Hf2 := Lib.hid hf2
        have HK2 := Lib.hid hK2
        clear hf2 hK2
        by_cases hlt2 : k < 7
        · obtain ⟨z, hx, hex, hzl⟩ := spec_at k hlt2
          rw [HD.out] at hex
          have hix := run_index_one (P := Tryz.prog) wr _ _ 7 D k _ Tryz.underlying122 Tryz.sizeOf9 Tryz.isAgg9 hlt2 hex
          have hst := find_step (fun z : List UInt8 => lowL z == L) specL k _ hx
          rw [Hf2.out] at hst
          try dsimp only at hst
          have HSz := Lib.hid (fun wz => HSp.out z wz hzl)
          clear hex hx
          cases hb : (lowL z == L)
          · have bE : ((Txt (lowL z)).toList == (Txt L).toList) = false := (txt_eq_iff (lowL z) L).trans hb
            rw [hb, if_neg (by decide)] at hst
            have Hst := Lib.hid hst.symm
            clear hst hb
            go_wp2_with fail
            refine (HSz.out _).mono ?_
            rintro e w4 ⟨rfl, hB4⟩
            have K4 := Lib.hid (HK2.out.below hB4)
            rw [show (⟨(lowL z).toArray⟩ : ByteArray) = Txt (lowL z) from rfl]
            clear hB4
            go_wp2_with fail
            go_roundw
            case rel => exact ⟨k + 1, by omega, by go_num, Hst.out, K4.out⟩
            case measure => simp [intOf]; omega
          · have bE : ((Txt (lowL z)).toList == (Txt L).toList) = true := (txt_eq_iff (lowL z) L).trans hb
            rw [hb, if_pos rfl] at hst
            have HF := Lib.hid (by rw [HV2.out, hst]; rfl : canR s.data.toList = (z, 0))
            clear hst hb
            go_wp2_with fail
            refine (HSz.out _).mono ?_
            rintro e w4 ⟨rfl, hB4⟩
            have K4 := Lib.hid (HK2.out.below hB4)
            rw [show (⟨(lowL z).toArray⟩ : ByteArray) = Txt (lowL z) from rfl]
            clear hB4
            go_wp2_with fail
            go_ret2
            unfold TxE
            rw [HF.out]
            exact ⟨rfl, K4.out⟩
        · have HF := Lib.hid (by
            have h := Hf2.out
            rw [show k = 7 from by omega] at h
            rw [HV2.out, ← h]; rfl : canR s.data.toList = (capF true L, 0))
          go_wp2_with fail
          refine (HCa.out _).mono ?_
          rintro e w4 ⟨rfl, hK4⟩
          have K4 := Lib.hid (HK2.out.trans hK4)
          clear hK4
          go_wp2_with fail
          go_ret2
          unfold TxE
          rw [HF.out]
          exact ⟨rfl, K4.out⟩
end Ad
end Go.Proofs.YtmmjfofdnpafkaaGreatDoor
/- Contract of strings.IndexRune at a rune that is no byte of ASCII, in a text of ASCII: -1. -/
namespace Go.Proofs.YtmmjfofdnpafkaaGreatDoor
namespace Ad
open Go.RowKit Lx

theorem Kp.iter (w : World) (s : ByteArray) (i : Nat) : Kp [] w (w.iter s i) := (Kp.refl [] w).alloc _
theorem byte_none (l : List UInt8) (c : UInt8) (h : ∀ b ∈ l, b ≠ c) : Lib.indexByte l c = -1 := by
  induction l with
  | nil => rfl
  | cons b t ih =>
    have hb := h b (by simp)
    have := ih (fun d hd => h d (by simp [hd]))
    unfold Lib.indexByte
    simp [hb, this]
set_option maxRecDepth 1000000 in
set_option maxHeartbeats 4000000 in
theorem irune_err (s : ByteArray) (w : World) (hac : ∀ (j : Nat) b, s.data.toList[j]? = some b → b.toNat < 128) :
    Calls Tryz.prog 238 #[.string s, .int .i32 65533] w (fun e w' => e = .returned (.int .i64 (-1)) ∧ Kp [] w w') := by
  have HA := Lib.hid hac
  clear hac
  go_enter Tryz.func238, Tryz.ntmps238
  go_wp2_with fail
  go_loopg [5, 6] s.size (fun g _ _ wx => ∃ i : Nat, i + g = s.size ∧ wx = w.iter s i)
  case atStart => exact ⟨0, by omega, rfl⟩
  case round =>
    obtain ⟨i, hig, rfl⟩ := hrel
    cases gk with
    | zero =>
      obtain rfl : i = s.size := by omega
      have hnx := run_next_end (P := Tryz.prog) w s s.size
      go_wp2_with fail
      go_ret
      exact ⟨rfl, Kp.iter _ _ _⟩
    | succ g =>
      have hi : i < s.size := by omega
      have hx128 : (s[i]'hi).toNat < 128 := HA.out i (s[i]'hi) (Lib.data_getElem? s i hi)
      have hnx := fun ty => run_next_ascii (P := Tryz.prog) w s i ty hi hx128
      obtain ⟨x, hx⟩ : ∃ x, (s[i]'hi).toNat = x := ⟨_, rfl⟩
      rw [hx] at hnx hx128
      have bx : ((x : Int) == 65533) = false := by rw [beq_eq_false_iff_ne]; omega
      clear hx
      go_wp2_with fail
      go_roundg g
      case measure => omega
      case rel => exact ⟨i + 1, by omega, rfl⟩
set_option maxRecDepth 1000000 in
set_option maxHeartbeats 4000000 in
theorem irune_high (s : ByteArray) (r : Int) (w : World) (hs : s.size ≤ 100) (hac : ∀ (j : Nat) b, s.data.toList[j]? = some b → b.toNat < 128) (h128 : 128 ≤ r) (hne : r ≠ 65533) (hv : Lib.validRune r = true) :
    Calls Tryz.prog 238 #[.string s, .int .i32 r] w (fun e w' => e = .returned (.int .i64 (-1)) ∧ Kp [] w w') := by
  have hv2 : Utf8.valid r = true := by rw [validRune_eq]; exact hv
  obtain ⟨n2, n4, hlast⟩ := encode_facts r hv2 h128
  obtain ⟨E, hE⟩ : ∃ E, Utf8.encode r = E := ⟨_, rfl⟩
  rw [hE] at n2 n4 hlast
  have HV := Lib.hid (fun wz => (by have h := Tryz.utf8_ValidRune r wz; rw [hv] at h; exact h : Calls Tryz.prog 299 #[.int .i32 r] wz fun e w' => e = .returned (.bool true) ∧ w' = wz))
  have hconv := fun wz => run_convert_int_string (P := Tryz.prog) wz 21 9 .i32 r (by rw [Tryz.underlying21]; rfl) Tryz.underlying9
  rw [hE] at hconv
  have b1 : ¬ r < 128 := by omega
  have b2 : (0 : Int) ≤ r := by omega
  have b3 : (r == 65533) = false := beq_eq_false_iff_ne.2 hne
  obtain ⟨m, hm⟩ : ∃ m, E.size - 1 = m := ⟨_, rfl⟩
  have hmE : m < E.size := by omega
  have hl2 : 128 ≤ (E[m]'hmE).toNat := by subst hm; exact hlast hmE
  have i0 : wrap64 ((E.size : Int) - 1) = (m : Int) := by unfold wrap64; omega
  have m3 : (m : Int) ≤ 3 := by omega
  have HA := Lib.hid hac
  clear hac hv hv2 hE hne hlast hm h128 n4
  by_cases hms : m < s.size
  case neg =>
    have b4 : ¬ (m : Int) < (s.size : Int) := by omega
    clear hl2 hms
    go_enter Tryz.func238, Tryz.ntmps238
    go_wp2_with fail
    refine (HV.out _).mono ?_
    rintro e w1 ⟨rfl, hw⟩
    obtain rfl := hw.symm
    go_wp2_with fail
    go_step3
    go_wp2_with fail
    refine wp_loop_rounds 1 ?_
    rw [rounds_succ]
    go_wp2_with fail
    rw [Exit.noGoto_ret]
    go_ret
    exact ⟨rfl, Kp.refl _ _⟩
  case pos =>
    have b4 : (m : Int) < (s.size : Int) := by omega
    have ha : (s[m]'hms).toNat < 128 := HA.out m (s[m]'hms) (Lib.data_getElem? s m hms)
    have hne : ((s[m]'hms).toNat == (E[m]'hmE).toNat) = false := by rw [beq_eq_false_iff_ne]; omega
    have hneI : (((s[m]'hms).toNat : Int) == ((E[m]'hmE).toNat : Int)) = false := by rw [beq_eq_false_iff_ne]; omega
    obtain ⟨q, hq⟩ : ∃ q, m + 1 = q := ⟨_, rfl⟩
    have i2 : IntKind.i64.wrap ((m : Int) + 1) = (q : Int) := (IntWalk.i64_in _ (by omega)).trans (by omega)
    have bm1 : (q : Int) ≤ (s.size : Int) := by omega
    clear hq
    obtain ⟨X, hX⟩ : ∃ X, s.extract q s.size = X := ⟨_, rfl⟩
    obtain ⟨c, hc⟩ : ∃ c, E[m]'hmE = c := ⟨_, rfl⟩
    rw [hc] at hneI hne
    have HIB := Lib.hid (fun wz => (by
      have h := Tryz.strings_IndexByte X (c.toNat : Int) wz
      rw [show ((c.toNat : Int)).toNat.toUInt8 = c by simp, byte_none _ _ (fun b hb => by
        rw [← hX, slc_data, slc_full _ _ _ (by rw [len_list]; exact Nat.le_refl _)] at hb
        have hb2 := List.mem_of_mem_drop hb
        obtain ⟨j, hj⟩ := List.mem_iff_getElem?.1 hb2
        have h1 := HA.out j b hj
        intro he
        rw [he, ← hc] at h1
        omega)] at h
      exact h : Calls Tryz.prog 193 #[.string X, .int .u8 (c.toNat : Int)] wz fun e w' => e = .returned (.int .i64 (-1)) ∧ w' = wz))
    go_enter Tryz.func238, Tryz.ntmps238
    go_wp2_with fail
    refine (HV.out _).mono ?_
    rintro e w1 ⟨rfl, hw⟩
    obtain rfl := hw.symm
    go_wp2_with fail
    go_step3
    go_wp2_with fail
    refine wp_loop_rounds 1 ?_
    rw [rounds_succ]
    go_wp2_with fail
    go_step3
    go_upto_region 6 with fail
    go_quiet (fail)
    obtain ⟨w2, hw2⟩ : ∃ w2, w.drewN nq = w2 := ⟨_, rfl⟩
    have K2 := Lib.hid (show Kp [] w w2 from by rw [← hw2]; exact (Kp.refl [] w).drewN _)
    rw [hw2]
    clear hw2
    go_upto_region 7 with fail
    go_quiet ((go_at_call 193; exact Calls.quiet_of_same (HIB.out _)))
    go_wp2_with fail
    simp only [Exit.noGoto_ret, Exit.inBlock, Exit.then]
    go_ret
    exact ⟨rfl, K2.out.drewN _⟩
end Ad
end Go.Proofs.YtmmjfofdnpafkaaGreatDoor
/- What a rune that is no ASCII takes of a text; strings.IndexAny of a short text, whatever its bytes. -/
namespace Go.Proofs.YtmmjfofdnpafkaaGreatDoor
namespace Ad
open Go.RowKit Lx

theorem vr_of (r : Int) (h : Utf8.valid r = true) : Lib.validRune r = true := by
  have := validRune_eq r
  rw [h] at this
  exact this.symm
theorem decode_hi (s : ByteArray) (pos : Nat) (h : pos < s.size) (ha : 128 ≤ (s[pos]'h).toNat) :
    ((Utf8.decode s pos).1 = 65533 ∨ Lib.validRune (Utf8.decode s pos).1 = true) ∧ pos + (Utf8.decode s pos).2 ≤ s.size ∧ ∀ k, pos < k → k < pos + (Utf8.decode s pos).2 → 128 ≤ (s.get! k).toNat := by
  have hn : ¬ (s[pos]'h).toNat < 128 := by omega
  have hb : (s[pos]'h).toNat < 256 := (s[pos]'h).toNat_lt
  simp only [Utf8.decode, get_at s pos h, hn, if_false]
  split
  · rename_i h2
    simp only [Bool.and_eq_true, decide_eq_true_eq, beq_iff_eq] at h2
    split
    · refine ⟨.inr ?_, by dsimp only; omega, fun k h1 h3 => ?_⟩
      · refine vr_of _ ?_; simp [Utf8.valid]; omega
      · obtain rfl : k = pos + 1 := by dsimp only at h3; omega
        omega
    · exact ⟨.inl rfl, by dsimp only; omega, fun k h1 h2 => by dsimp only at h2; omega⟩
  · split
    · rename_i h2
      simp only [Bool.and_eq_true, decide_eq_true_eq, beq_iff_eq] at h2
      split
      · rename_i h3
        simp only [Bool.and_eq_true, decide_eq_true_eq] at h3
        refine ⟨.inr ?_, by dsimp only; omega, fun k h1 h4 => ?_⟩
        · exact vr_of _ h3.2
        · rcases (by dsimp only at h4; omega : k = pos + 1 ∨ k = pos + 2) with rfl | rfl <;> omega
      · exact ⟨.inl rfl, by dsimp only; omega, fun k h1 h2 => by dsimp only at h2; omega⟩
    · split
      · rename_i h2
        simp only [Bool.and_eq_true, decide_eq_true_eq, beq_iff_eq] at h2
        split
        · rename_i h3
          simp only [Bool.and_eq_true, decide_eq_true_eq] at h3
          refine ⟨.inr ?_, by dsimp only; omega, fun k h1 h4 => ?_⟩
          · exact vr_of _ h3.2
          · rcases (by dsimp only at h4; omega : k = pos + 1 ∨ k = pos + 2 ∨ k = pos + 3) with rfl | rfl | rfl <;> omega
        · exact ⟨.inl rfl, by dsimp only; omega, fun k h1 h2 => by dsimp only at h2; omega⟩
      · exact ⟨.inl rfl, by dsimp only; omega, fun k h1 h2 => by dsimp only at h2; omega⟩
theorem Kp.iterAt {X : List Nat} {a w : World} (h : Kp X a w) (k : Nat) (hk : a.heap.size ≤ k) (s : ByteArray) (pos : Nat) : Kp X a (w.iterAt k s pos) := by
  refine ⟨h.os, h.tape, h.output, ?_, fun i hi hx => ?_⟩
  · show _ ≤ (w.heap.setIfInBounds k _).size
    rw [Array.size_setIfInBounds]; exact h.size
  · show (w.heap.setIfInBounds k _)[i]? = _
    rw [Array.getElem?_setIfInBounds_ne (by omega)]; exact h.block i hi hx
theorem iterAt_at (w : World) (k : Nat) (s : ByteArray) (i pos : Nat) (h : w.heap[k]? = some (.stringIter s i)) : (w.iterAt k s pos).heap[k]? = some (.stringIter s pos) := by
  show (w.heap.setIfInBounds k _)[k]? = _
  rw [Array.getElem?_setIfInBounds_self]
  rw [if_pos (lt_of_some h)]
theorem no_high {s : ByteArray} {ch : List UInt8} {i d : Nat} (hno : Lib.NoAny s.data.toList ch i) (hch : ∀ (j : Nat) b, ch[j]? = some b → b.toNat < 128) (h : ∀ k, i ≤ k → k < i + d → 128 ≤ (s.get! k).toNat) (hd : i + d ≤ s.size) : Lib.NoAny s.data.toList ch (i + d) := by
  intro j b hj hb
  by_cases hji : j < i
  · exact hno j b hji hb
  · have hjs : j < s.size := by omega
    have h1 := h j (by omega) hj
    have h2 : s.get! j = s[j] := by have := get_at s j hjs; rwa [Nat.add_zero] at this
    have h3 : s.data.toList[j]? = some s[j] := Lib.data_getElem? s j hjs
    rw [h3] at hb
    obtain rfl := Option.some.inj hb
    cases hc : ch.contains s[j]
    · rfl
    · have hm : s[j] ∈ ch := by simpa using hc
      obtain ⟨k, hk⟩ := List.mem_iff_getElem?.1 hm
      have := hch k _ hk
      rw [h2] at h1
      omega
set_option maxRecDepth 1000000 in
set_option maxHeartbeats 8000000 in
theorem index_short (s chars : ByteArray) (w : World) (h8 : s.size ≤ 8) (h2 : 2 ≤ chars.size) (hcs : chars.size ≤ 100) (hac : ∀ (j : Nat) b, chars.data.toList[j]? = some b → b.toNat < 128) :
    Calls Tryz.prog 146 #[.string s, .string chars] w (InK (Lib.indexAny s.data.toList chars.data.toList) w) := by
  have hemp : chars.toList.isEmpty = false := by
    rw [Lib.toList_data]
    cases h : chars.data.toList with
    | nil => have := Lib.size_eq chars; rw [h, List.length_nil] at this; omega
    | cons _ _ => rfl
  have hn1 : ((chars.size : Int) == 1) = false := beq_eq_false_iff_ne.2 (by omega)
  have h8z : decide ((8 : Int) < (s.size : Int)) = false := decide_eq_false (by omega)
  have HSh := Lib.hid (fun wz => (by have h := Tryz.strings_shouldUseASCIISet (s.size : Int) wz; rw [h8z] at h; exact h : Calls Tryz.prog 239 #[.int .i64 (s.size : Int)] wz fun e w' => e = .returned (.bool false) ∧ w' = wz))
  have HA := Lib.hid hac
  have H2 := Lib.hid h2
  have Hcs := Lib.hid hcs
  have h8' : (s.size : Int) ≤ 8 := by omega
  obtain ⟨B, hB⟩ : ∃ B, w.heap.size = B := ⟨_, rfl⟩
  have HB := Lib.hid hB
  clear hac h2 hcs h8z
  go_enter Tryz.func146, Tryz.ntmps146
  go_wp2_with fail
  refine (HSh.out _).mono ?_
  rintro e w1 ⟨rfl, hw⟩
  obtain rfl := hw.symm
  go_wp2_with fail
  go_loopg [9, 10] s.size (fun g _ _ wx => ∃ i : Nat, i + g = s.size ∧ wx.heap[B]? = some (.stringIter s i) ∧ Kp [] w wx ∧ Lib.NoAny s.data.toList chars.data.toList i)
  case atStart => exact ⟨0, by omega, by rw [← hB]; exact World.iter_heap w s 0, Kp.iter _ _ _, Lib.NoAny.zero _ _⟩
  case round =>
    obtain ⟨i, hig, hit, hK, hno⟩ := hrel
    have HN := Lib.hid hno
    have HK := Lib.hid hK
    have Hit := Lib.hid hit
    clear hno hK
    by_cases hi : i < s.size
    case neg =>
      have hnx := fun ty => Lib.run_next_end_at (P := Tryz.prog) wr B s i ty hit hi
      have HF := Lib.hid (Lib.indexAny_none (by have h := HN.out; rw [show i = s.size by omega] at h; rw [← Lib.size_eq]; exact h) : Lib.indexAny s.data.toList chars.data.toList = -1)
      clear hit
      go_wp2_with fail
      go_ret
      rw [HF.out]
      exact ⟨rfl, HK.out⟩
    case pos =>
      obtain ⟨x, hx⟩ : ∃ x : UInt8, s[i]'hi = x := ⟨_, rfl⟩
      have Hx := Lib.hid (by rw [← hx]; exact Lib.data_getElem? s i hi : s.data.toList[i]? = some x)
      have hBw : w.heap.size ≤ B := by omega
      by_cases hx128 : x.toNat < 128
      · have hnx := fun ty => Lib.run_next_ascii_at (P := Tryz.prog) wr B s i ty hit hi (by rw [hx]; exact hx128)
        rw [hx] at hnx
        obtain ⟨w2, hw2⟩ : ∃ w2, wr.iterAt B s (i + 1) = w2 := ⟨_, rfl⟩
        rw [hw2] at hnx
        have K2 := Lib.hid (show Kp [] w w2 from by rw [← hw2]; exact HK.out.iterAt B hBw s _)
        have I2 := Lib.hid (show w2.heap[B]? = some (.stringIter s (i + 1)) from by rw [← hw2]; exact iterAt_at wr B s i _ hit)
        have HIR := Lib.hid (fun wz => (by have h := Tryz.strings_IndexRune_ascii chars (x.toNat : Int) wz (by omega) (by omega); rw [show ((x.toNat : Int)).toNat.toUInt8 = x by simp] at h; exact h : Calls Tryz.prog 238 #[.string chars, .int .i32 (x.toNat : Int)] wz fun e w' => e = .returned (.int .i64 (Lib.indexByte chars.data.toList x)) ∧ w' = wz))
        have hcon := Lib.contains_iff_indexByte chars.data.toList x
        obtain ⟨z, hz⟩ : ∃ z, Lib.indexByte chars.data.toList x = z := ⟨_, rfl⟩
        rw [hz] at HIR hcon
        clear hit hw2 hz hx
        cases hin : chars.data.toList.contains x
        · rw [hin] at hcon
          have hlt : ¬ ((0 : Int) ≤ z) := of_decide_eq_false hcon.symm
          clear hcon
          go_wp2_with fail
          refine (HIR.out _).mono ?_
          rintro e w3 ⟨rfl, hw⟩
          obtain rfl := hw.symm
          go_wp2_with fail
          go_roundg (s.size - (i + 1))
          case measure => omega
          case rel => exact ⟨i + 1, by omega, I2.out, K2.out, HN.out.succ Hx.out hin⟩
        · rw [hin] at hcon
          have hge : (0 : Int) ≤ z := of_decide_eq_true hcon.symm
          have HF := Lib.hid (Lib.indexAny_hit HN.out Hx.out hin : Lib.indexAny s.data.toList chars.data.toList = i)
          clear hcon
          go_wp2_with fail
          refine (HIR.out _).mono ?_
          rintro e w3 ⟨rfl, hw⟩
          obtain rfl := hw.symm
          go_wp2_with fail
          go_ret
          rw [HF.out]
          exact ⟨rfl, K2.out⟩
      · have hd := decode_high s i hi (by rw [hx]; omega)
        obtain ⟨hd1, hd2, hd3⟩ := decode_hi s i hi (by rw [hx]; omega)
        have hnx := fun ty => Lib.run_next_any_at (P := Tryz.prog) wr B s i ty hit hi
        obtain ⟨r, d, hrd⟩ : ∃ r d, Utf8.decode s i = (r, d) := ⟨_, _, rfl⟩
        rw [hrd] at hd hd1 hd2 hd3 hnx
        dsimp only at hd hd1 hd2 hd3 hnx
        have hno2 : Lib.NoAny s.data.toList chars.data.toList (i + d) := no_high HN.out HA.out (fun k h1 h3 => by
          rcases Nat.eq_or_lt_of_le h1 with h4 | h4
          · rw [← h4]
            have h2 : s.get! i = s[i] := by have := get_at s i hi; rwa [Nat.add_zero] at this
            rw [h2, hx]; omega
          · exact hd3 k h4 h3) hd2
        have HN2 := Lib.hid hno2
        have HIR := Lib.hid (fun wz => (by
          by_cases hr : r = 65533
          · rw [hr]; exact irune_err chars wz HA.out
          · exact irune_high chars (r : Int) wz Hcs.out HA.out (by omega) (by omega) (by rcases hd1 with h | h; exact absurd h hr; exact h) : Calls Tryz.prog 238 #[.string chars, .int .i32 (r : Int)] wz fun e w' => e = .returned (.int .i64 (-1)) ∧ Kp [] wz w'))
        obtain ⟨w2, hw2⟩ : ∃ w2, wr.iterAt B s (i + d) = w2 := ⟨_, rfl⟩
        rw [hw2] at hnx
        have K2 := Lib.hid (show Kp [] w w2 from by rw [← hw2]; exact HK.out.iterAt B hBw s _)
        have I2 := Lib.hid (show w2.heap[B]? = some (.stringIter s (i + d)) from by rw [← hw2]; exact iterAt_at wr B s i _ hit)
        have Hd := Lib.hid hd.2
        have Hd2 := Lib.hid hd2
        clear hit hw2 hx hd hd1 hd2 hd3 hno2 hrd
        go_wp2_with fail
        refine (HIR.out _).mono ?_
        rintro e w3 ⟨rfl, hK3⟩
        have K3 := Lib.hid (K2.out.trans hK3)
        have I3 := Lib.hid ((hK3.block B (lt_of_some I2.out) (by simp)).trans I2.out)
        clear hK3
        go_wp2_with fail
        go_roundg (s.size - (i + d))
        case measure => have := Hd.out; have := Hd2.out; omega
        case rel => exact ⟨i + d, by have := Hd2.out; omega, I3.out, K3.out, HN2.out⟩
end Ad
end Go.Proofs.YtmmjfofdnpafkaaGreatDoor
/- Contracts of trimmed, cutBefore, leadingNumber, Number and CSeq of package header. A text has at most 2^20 bytes. -/
namespace Go.Proofs.YtmmjfofdnpafkaaGreatDoor
namespace Ad
open Go.RowKit Lx

/-- Without blanks at both ends. -/
def trS (l : List UInt8) : List UInt8 := Lib.trimS l blk
theorem rd_len (p : UInt8 → Bool) (l : List UInt8) : (rd p l).length ≤ l.length := by
  unfold rd
  have := (List.dropWhile_suffix (l := l.reverse) p).length_le
  simpa using this
theorem trS_len (l : List UInt8) : (trS l).length ≤ l.length := by
  unfold trS
  rw [trimS_eq]
  have h1 := rd_len bb (l.dropWhile bb)
  have h2 := (List.dropWhile_suffix (l := l) bb).length_le
  omega
set_option maxRecDepth 100000 in
set_option maxHeartbeats 1000000 in
theorem trimmed_big (s : ByteArray) (w : World) (hs : s.size ≤ 4194304) :
    Calls Tryz.prog 72 #[.string s] w (TxK (trS s.data.toList) w) := by
  have HT := Lib.hid (fun wz => trim_set s wz (by omega))
  go_enter Tryz.func72, Tryz.ntmps72
  go_wp2_with fail
  refine (HT.out _).mono ?_
  rintro e w1 ⟨rfl, hB⟩
  have K1 := Lib.hid ((Kp.refl [] w).below hB)
  clear hB
  go_wp2_with fail
  go_ret
  exact ⟨rfl, K1.out⟩
theorem trimmed_any (s : ByteArray) (w : World) (hs : s.size ≤ 2097152) :
    Calls Tryz.prog 72 #[.string s] w (TxK (trS s.data.toList) w) := trimmed_big s w (by omega)
theorem mem_contains (ch : List UInt8) (b : UInt8) : ch.contains b = memB ch b.toNat := by
  unfold memB
  rw [List.contains_eq_any_beq]
  congr 1
  funext c
  rw [Bool.eq_iff_iff]
  simp only [beq_iff_eq]
  constructor
  · intro h; rw [h]
  · intro h
    exact (UInt8.toNat_inj.1 (by omega)).symm
theorem indexAny_endP (ch : List UInt8) : ∀ l : List UInt8, Lib.indexAny l ch = if endP (memB ch) l 0 < l.length then (endP (memB ch) l 0 : Int) else -1 := by
  intro l
  unfold endP
  rw [List.drop_zero, Nat.zero_add]
  induction l with
  | nil => rfl
  | cons b t ih =>
    have hr : runL (fun c => !memB ch c) (b :: t) = if memB ch b.toNat then 0 else runL (fun c => !memB ch c) t + 1 := by
      rw [runL]; cases memB ch b.toNat <;> rfl
    rw [hr, Lib.indexAny, mem_contains, List.length_cons]
    cases hb : memB ch b.toNat
    · simp only [Bool.false_eq_true, if_false]
      rw [ih]
      clear ih hr hb
      generalize runL (fun c => !memB ch c) t = n
      by_cases h : n < t.length
      · have e : ((n : Int) == -1) = false := by rw [beq_eq_false_iff_ne]; omega
        simp [h, e]
      · simp [h]
    · simp
theorem zero_ascii : ∀ w, (zeroValue 221).run Tryz.prog w = .ok (.agg (Array.replicate 256 (.bool false))) w :=
  (zero_of_info (P := Tryz.prog) (t := 221) (n := 256) (by kernel_rfl)).1
theorem indexAny_any (s ends : ByteArray) (w : World) (hs : s.size ≤ 4194304) (he : ends.size ≤ 100) (h2 : 2 ≤ ends.size) (hac : ∀ (j : Nat) b, ends.data.toList[j]? = some b → b.toNat < 128) :
    Calls Tryz.prog 146 #[.string s, .string ends] w (InK (Lib.indexAny s.data.toList ends.data.toList) w) := by
  by_cases h8 : 8 < s.size
  · refine (Tryz.strings_IndexAny_long zero_ascii s ends w h2 h8 (by omega) (by omega) hac).mono ?_
    rintro e w' ⟨rfl, rfl⟩
    exact ⟨rfl, ((Kp.refl [] w).alloc _).alloc _⟩
  · exact index_short s ends w (by omega) h2 he hac
/-- Two texts. -/
def Tx2 (a b : List UInt8) (w : World) (e : Ending) (w' : World) : Prop := e = .returned (.tuple #[.string (Txt a), .string (Txt b)]) ∧ Kp [] w w'
set_option maxRecDepth 100000 in
set_option maxHeartbeats 2000000 in
theorem cutBefore_big (p : Int → Bool) (s ends : ByteArray) (w : World) (hs : s.size ≤ 4194304) (he : ends.size ≤ 100) (h2 : 2 ≤ ends.size) (hac : ∀ (j : Nat) b, ends.data.toList[j]? = some b → b.toNat < 128) (hp : ∀ c : Int, memB ends.data.toList c = p c) :
    Calls Tryz.prog 73 #[.string s, .string ends] w (Tx2 (s.data.toList.take (endP p s.data.toList 0)) (s.data.toList.drop (endP p s.data.toList 0)) w) := by
  have hfun : memB ends.data.toList = p := funext hp
  obtain ⟨k, hk⟩ : ∃ k, endP p s.data.toList 0 = k := ⟨_, rfl⟩
  have lk : k ≤ s.size := by rw [← hk, ← len_list]; exact endP_le _ _ _ (Nat.zero_le _)
  have HI := Lib.hid (fun wz => (by have h := indexAny_any s ends wz hs he h2 hac; rw [indexAny_endP, hfun, hk, len_list] at h; exact h : Calls Tryz.prog 146 #[.string s, .string ends] wz (InK (if k < s.size then (k : Int) else -1) wz)))
  have H1 := Lib.hid (take_slc s k)
  have H2 := Lib.hid (by rw [slc_txt, slc_full _ _ _ (by rw [len_list]; exact Nat.le_refl _)] : s.extract k s.size = Txt (s.data.toList.drop k))
  rw [hk]
  clear hk hfun hac hp
  have hk64 : (k : Int) ≤ (s.size : Int) := by omega
  by_cases hks : k < s.size
  · rw [if_pos hks] at HI
    go_enter Tryz.func73, Tryz.ntmps73
    go_wp2_with fail
    refine (HI.out _).mono ?_
    rintro e w1 ⟨rfl, hK1⟩
    have K1 := Lib.hid hK1
    clear hK1
    go_upto_region 4 with fail
    go_quiet (fail)
    go_wp2_with fail
    go_ret2
    unfold Tx2
    rw [← H1.out, ← H2.out]
    exact ⟨rfl, K1.out.drewN _⟩
  · rw [if_neg hks] at HI
    have hke : k = s.size := by omega
    subst hke
    have e1 : s.extract 0 s.size = s := by simp
    have e2 : s.extract s.size s.size = ByteArray.empty := by simp
    have E1 := Lib.hid e1
    have E2 := Lib.hid e2
    clear hks e1 e2
    go_enter Tryz.func73, Tryz.ntmps73
    go_wp2_with fail
    refine (HI.out _).mono ?_
    rintro e w1 ⟨rfl, hK1⟩
    have K1 := Lib.hid hK1
    clear hK1
    go_upto_region 4 with fail
    go_quiet (fail)
    go_wp2_with fail
    go_ret2
    unfold Tx2
    rw [← H1.out, ← H2.out, E1.out, E2.out]
    exact ⟨rfl, K1.out.drewN _⟩
theorem cutBefore_any (p : Int → Bool) (s ends : ByteArray) (w : World) (hs : s.size ≤ 2097152) (he : ends.size ≤ 100) (h2 : 2 ≤ ends.size) (hac : ∀ (j : Nat) b, ends.data.toList[j]? = some b → b.toNat < 128) (hp : ∀ c : Int, memB ends.data.toList c = p c) :
    Calls Tryz.prog 73 #[.string s, .string ends] w (Tx2 (s.data.toList.take (endP p s.data.toList 0)) (s.data.toList.drop (endP p s.data.toList 0)) w) := cutBefore_big p s ends w (by omega) he h2 hac hp
theorem mem_blank (c : Int) : memB (ByteArray.mk #[32, 9]).data.toList c = blankI c := by
  unfold memB blankI
  simp only [List.any_cons, List.any_nil, Bool.or_false]
  have e : ∀ n : Nat, ((n : Int) == c) = (c == (n : Int)) := fun n => by rw [Bool.eq_iff_iff]; simp only [beq_iff_eq]; exact eq_comm
  rw [show (((32 : UInt8).toNat : Int)) = 32 from rfl, show (((9 : UInt8).toNat : Int)) = 9 from rfl]
  rw [show ((32 : Int) == c) = (c == 32) from e 32, show ((9 : Int) == c) = (c == 9) from e 9]
/-- The number with which a value begins, what is behind it, and the error. -/
def leadR (l : List UInt8) : Int × List UInt8 × Int :=
  (numN ((trS l).take (endP blankI (trS l) 0)), trS ((trS l).drop (endP blankI (trS l) 0)), numE ((trS l).take (endP blankI (trS l) 0)))
def LeP (r : Int × List UInt8 × Int) (w : World) (e : Ending) (w' : World) : Prop := e = .returned (.tuple #[.int .i64 r.1, .string (Txt r.2.1), .int .u8 r.2.2]) ∧ Kp [] w w'
set_option maxRecDepth 100000 in
set_option maxHeartbeats 2000000 in
theorem leading_any (s : ByteArray) (w : World) (hs : s.size ≤ 2097152) :
    Calls Tryz.prog 93 #[.string s] w (LeP (leadR s.data.toList) w) := by
  obtain ⟨t, ht⟩ : ∃ t, trS s.data.toList = t := ⟨_, rfl⟩
  have htl : t.length ≤ 2097152 := by rw [← ht]; have := trS_len s.data.toList; rw [len_list] at this; omega
  obtain ⟨k, hk⟩ : ∃ k, endP blankI t 0 = k := ⟨_, rfl⟩
  have HT := Lib.hid (fun wz => (by have h := trimmed_any s wz hs; rw [ht] at h; exact h : Calls Tryz.prog 72 #[.string s] wz (TxK t wz)))
  have HC := Lib.hid (fun wz => (by have h := cutBefore_any blankI (Txt t) ⟨#[32, 9]⟩ wz (by rw [txt_size]; exact htl) (by decide) (by decide) (ascii_of_all (by decide)) mem_blank; rw [txt_list, hk] at h; exact h : Calls Tryz.prog 73 #[.string (Txt t), .string ⟨#[32, 9]⟩] wz (Tx2 (t.take k) (t.drop k) wz)))
  have HN := Lib.hid (fun wz => (by have h := number_q (Txt (t.take k)) wz (by rw [txt_size, List.length_take]; omega); rw [txt_list] at h; exact h))
  have HR := Lib.hid (fun wz => (by have h := trimmed_any (Txt (t.drop k)) wz (by rw [txt_size, List.length_drop]; omega); rw [txt_list] at h; exact h : Calls Tryz.prog 72 #[.string (Txt (t.drop k))] wz (TxK (trS (t.drop k)) wz)))
  have HV := Lib.hid (by unfold leadR; rw [ht, hk] : leadR s.data.toList = (numN (t.take k), trS (t.drop k), numE (t.take k)))
  clear ht hk htl
  go_enter Tryz.func93, Tryz.ntmps93
  go_wp2_with fail
  refine (HT.out _).mono ?_
  rintro e w1 ⟨rfl, hK1⟩
  have K1 := Lib.hid hK1
  clear hK1
  go_wp2_with fail
  refine (HC.out _).mono ?_
  rintro e w2 ⟨rfl, hK2⟩
  have K2 := Lib.hid (K1.out.trans hK2)
  clear hK2
  go_wp2_with fail
  refine (HN.out _).mono ?_
  rintro e w3 ⟨rfl, hw3⟩
  obtain rfl := hw3.symm
  go_wp2_with fail
  refine (HR.out _).mono ?_
  rintro e w4 ⟨rfl, hK4⟩
  have K4 := Lib.hid (K2.out.trans hK4)
  clear hK4
  go_wp2_with fail
  go_ret3
  unfold LeP
  rw [HV.out]
  exact ⟨rfl, K4.out⟩
def cseqR (l : List UInt8) : Int × List UInt8 × Int :=
  if (leadR l).2.2 ≠ 0 then (0, [], (leadR l).2.2) else if tokB (leadR l).2.1 then ((leadR l).1, (leadR l).2.1, 0) else (0, [], 5)
theorem lead_len (l : List UInt8) : (leadR l).2.1.length ≤ l.length := by
  unfold leadR
  have h1 := trS_len ((trS l).drop (endP blankI (trS l) 0))
  have h2 := trS_len l
  rw [List.length_drop] at h1
  dsimp only; omega
set_option maxRecDepth 100000 in
set_option maxHeartbeats 2000000 in
theorem cseq_any (s : ByteArray) (w : World) (hs : s.size ≤ 2097152) :
    Calls Tryz.prog 25 #[.string s] w (LeP (cseqR s.data.toList) w) := by
  have hll := lead_len s.data.toList
  rw [len_list] at hll
  have HL := Lib.hid (fun wz => leading_any s wz hs)
  obtain ⟨n, m, x, hr⟩ : ∃ a b c, leadR s.data.toList = (a, b, c) := ⟨_, _, _, rfl⟩
  rw [hr] at HL hll
  have HV := Lib.hid (by unfold cseqR; rw [hr] : cseqR s.data.toList = if x ≠ 0 then (0, [], x) else if tokB m then (n, m, 0) else (0, [], 5))
  dsimp only at hll
  have HTk := Lib.hid (fun wz => tok_n m wz (by omega))
  clear hr hll
  by_cases hx : x = 0
  · have HV1 := Lib.hid (HV.out.trans (if_neg (fun h => h hx)))
    have bx : (x == 0) = true := by rw [hx]; rfl
    have bx2 : (x != 0) = false := by rw [hx]; rfl
    clear hx
    cases ht : tokB m
    · have HF := Lib.hid (by rw [HV1.out, ht]; rfl : cseqR s.data.toList = (0, [], 5))
      rw [ht] at HTk
      clear ht
      go_enter Tryz.func25, Tryz.ntmps25
      go_wp2_with fail
      refine (HL.out _).mono ?_
      rintro e w1 ⟨rfl, hK1⟩
      have K1 := Lib.hid hK1
      clear hK1
      go_wp2_with fail
      refine (HTk.out _).mono ?_
      rintro e w2 ⟨rfl, hw2⟩
      obtain rfl := hw2
      go_wp2_with fail
      go_ret3
      unfold LeP
      rw [HF.out]
      exact ⟨rfl, K1.out⟩
    · have HF := Lib.hid (by rw [HV1.out, ht]; rfl : cseqR s.data.toList = (n, m, 0))
      rw [ht] at HTk
      clear ht
      go_enter Tryz.func25, Tryz.ntmps25
      go_wp2_with fail
      refine (HL.out _).mono ?_
      rintro e w1 ⟨rfl, hK1⟩
      have K1 := Lib.hid hK1
      clear hK1
      go_wp2_with fail
      refine (HTk.out _).mono ?_
      rintro e w2 ⟨rfl, hw2⟩
      obtain rfl := hw2
      go_wp2_with fail
      go_ret3
      unfold LeP
      rw [HF.out]
      exact ⟨rfl, K1.out⟩
  · have HF := Lib.hid (HV.out.trans (if_pos hx))
    have bx : (x == 0) = false := by rw [beq_eq_false_iff_ne]; exact hx
    have bx2 : (x != 0) = true := by rw [bne_iff_ne]; exact hx
    clear hx
    go_enter Tryz.func25, Tryz.ntmps25
    go_wp2_with fail
    refine (HL.out _).mono ?_
    rintro e w1 ⟨rfl, hK1⟩
    have K1 := Lib.hid hK1
    clear hK1
    go_wp2_with fail
    go_ret3
    unfold LeP
    rw [HF.out]
    exact ⟨rfl, K1.out⟩
end Ad
end Go.Proofs.YtmmjfofdnpafkaaGreatDoor
