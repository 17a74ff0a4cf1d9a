/- AddressHosts of package dialtonelaw02 returns true for every four and every eight numbers, every gap and every size, and nothing that was there is changed. -/
import Derived.Test.YtjkkcoiebnmkcaaGreatDoorAdHo
namespace Go.Proofs.YtjkkcoiebnmkcaaGreatDoor
namespace Ad
open Go.RowKit Lx

theorem joinL_snoc (c : UInt8) : ∀ (xs : List (List UInt8)) (g : List UInt8), joinL c (xs ++ [g]) = if xs = [] then g else joinL c xs ++ c :: g
  | [], g => rfl
  | [a], g => rfl
  | a :: b :: r, g => by
    have ih := joinL_snoc c (b :: r) g
    rw [if_neg (by simp)] at ih ⊢
    have e : (a :: b :: r) ++ [g] = a :: (b :: r ++ [g]) := rfl
    rw [e]
    have e2 : b :: r ++ [g] = b :: (r ++ [g]) := rfl
    rw [e2] at ih ⊢
    rw [joinL, ih, joinL]
    simp
theorem joinL_le (c : UInt8) (m : Nat) : ∀ xs : List (List UInt8), (∀ x ∈ xs, x.length ≤ m) → (joinL c xs).length ≤ xs.length * (m + 1)
  | [], _ => by simp [joinL]
  | [a], h => by simp [joinL]; have := h a (by simp); omega
  | a :: b :: r, h => by
    have ih := joinL_le c m (b :: r) (fun x hx => h x (List.mem_cons_of_mem _ hx))
    have h1 := h a (List.mem_cons_self ..)
    have e : (joinL c (a :: b :: r)).length = a.length + ((joinL c (b :: r)).length + 1) := by rw [joinL]; simp
    have e2 : (a :: b :: r).length * (m + 1) = (b :: r).length * (m + 1) + (m + 1) := by rw [List.length_cons, Nat.succ_mul]
    rw [e, e2]
    omega
/-- The first j numbers with dots between them. -/
def dotsL (ns : List Nat) (j : Nat) : List UInt8 := joinL 46 ((ns.take j).map decL)
def goodL (ns : List Nat) (j : Nat) : Bool := (ns.take j).all fun n => decide (n ≤ 255)
theorem take_snoc {α : Type} (ns : List α) (j : Nat) (n : α) (h : ns[j]? = some n) : ns.take (j + 1) = ns.take j ++ [n] := by
  rw [List.take_add_one, h]; rfl
theorem take_ne {α : Type} (ns : List α) (j : Nat) (h : 0 < j) (h2 : j ≤ ns.length) : ns.take j ≠ [] := by
  intro e
  have h3 : (ns.take j).length = 0 := by rw [e]; rfl
  rw [List.length_take] at h3
  omega
theorem map_ne {α β : Type} (f : α → β) (l : List α) (h : l ≠ []) : l.map f ≠ [] := by rw [ne_eq, List.map_eq_nil_iff]; exact h
theorem dots_first (ns : List Nat) (n : Nat) (h : ns[0]? = some n) : dotsL ns 1 = decL n := by
  unfold dotsL; rw [take_snoc ns 0 n h]; rfl
theorem dots_next (ns : List Nat) (j n : Nat) (h : ns[j]? = some n) (hj : 0 < j) (h2 : j ≤ ns.length) : dotsL ns (j + 1) = dotsL ns j ++ 46 :: decL n := by
  unfold dotsL; rw [take_snoc ns j n h, List.map_append, List.map_cons, List.map_nil, joinL_snoc, if_neg (map_ne _ _ (take_ne ns j hj h2))]
theorem good_next (ns : List Nat) (j n : Nat) (h : ns[j]? = some n) : goodL ns (j + 1) = (goodL ns j && decide (n ≤ 255)) := by
  unfold goodL; rw [take_snoc ns j n h, List.all_append]; simp
theorem dots_le (ns : List Nat) (j : Nat) (hn : ∀ n ∈ ns, n < 1000) (hj : j ≤ 4) : (dotsL ns j).length ≤ 100 := by
  have := joinL_le 46 3 ((ns.take j).map decL) (by
    intro x hx
    obtain ⟨n, hm, rfl⟩ := List.mem_map.1 hx
    exact (decL_spec n n (Nat.le_refl _)).2.2.2 3 (by decide) (hn n (List.mem_of_mem_take hm)))
  unfold dotsL
  have h2 : ((ns.take j).map decL).length ≤ 4 := by rw [List.length_map, List.length_take]; omega
  have h3 := Nat.mul_le_mul_right (3 + 1) h2
  omega
theorem four_dots (ns : List Nat) (h : ns.length = 4) (hn : ∀ n ∈ ns, n < 1000) : hostO (dotsL ns 4) = if goodL ns 4 = true then some (dotsL ns 4) else none := by
  match ns, h with
  | [a, b, c, d], _ =>
    have := four_host a b c d (hn a (by simp)) (hn b (by simp)) (hn c (by simp)) (hn d (by simp))
    have e : dotsL [a, b, c, d] 4 = joinL 46 [decL a, decL b, decL c, decL d] := rfl
    have e2 : goodL [a, b, c, d] 4 = decide (a ≤ 255 ∧ b ≤ 255 ∧ c ≤ 255 ∧ d ≤ 255) := by
      rw [Bool.eq_iff_iff, decide_eq_true_iff]; unfold goodL; simp
    rw [e, e2, this]
    by_cases hc : a ≤ 255 ∧ b ≤ 255 ∧ c ≤ 255 ∧ d ≤ 255
    · rw [if_pos hc, if_pos (decide_eq_true hc)]
    · rw [if_neg hc, if_neg (by rw [decide_eq_false hc]; decide)]
theorem right_stay (l : List Nat) (j k : Nat) (h : j ≤ k) : (l.take (j + 1)).drop (k + 1) = [] := List.drop_eq_nil_of_le (by rw [List.length_take]; omega)
theorem right_stay0 (l : List Nat) (j k : Nat) (h : j ≤ k + 1) : (l.take j).drop (k + 1) = [] := List.drop_eq_nil_of_le (by rw [List.length_take]; omega)
theorem right_next (l : List Nat) (j k x : Nat) (hx : l[j]? = some x) (h : k < j) (hl : j ≤ l.length) : (l.take (j + 1)).drop (k + 1) = (l.take j).drop (k + 1) ++ [x] := by
  rw [take_snoc l j x hx, List.drop_append_of_le_length (by rw [List.length_take]; omega)]
theorem right_ne (l : List Nat) (j k : Nat) (h : k + 1 < j) (hl : j ≤ l.length) : (l.take j).drop (k + 1) ≠ [] := by
  intro e
  have h3 : ((l.take j).drop (k + 1)).length = 0 := by rw [e]; rfl
  rw [List.length_drop, List.length_take] at h3
  omega
/-- Groups with colons between them. -/
def colL (ns : List Nat) : List UInt8 := joinL 58 (grpsOf ns)
theorem col_first (n : Nat) : colL [n] = hexL n := rfl
theorem col_next (ns : List Nat) (n : Nat) (h : ns ≠ []) : colL (ns ++ [n]) = colL ns ++ 58 :: hexL n := by
  unfold colL grpsOf
  rw [List.map_append, List.map_cons, List.map_nil, joinL_snoc, if_neg (map_ne _ _ h)]
theorem col_le (ns : List Nat) (hn : ∀ n ∈ ns, n < 65536) (hl : ns.length ≤ 8) : (colL ns).length ≤ 100 := by
  have := joinL_le 58 4 (grpsOf ns) (by
    intro x hx
    obtain ⟨n, hm, rfl⟩ := List.mem_map.1 hx
    exact (hexL_ok 4 n (by decide) (hn n hm)).2.1)
  unfold colL
  have h2 : (grpsOf ns).length ≤ 8 := by unfold grpsOf; rw [List.length_map]; exact hl
  have h3 := Nat.mul_le_mul_right (4 + 1) h2
  omega
set_option maxRecDepth 100000 in
set_option maxHeartbeats 16000000 in
theorem hosts_law (f0 f1 f2 f3 g0 g1 g2 g3 g4 g5 g6 g7 gap sz : Nat) (w : World) (E : Env w) (hf : ∀ x ∈ [f0, f1, f2, f3], x < 65536) (hg : ∀ x ∈ [g0, g1, g2, g3, g4, g5, g6, g7], x < 65536) (hgap : gap < 256) (hsz : sz < 256) :
    Calls Tryz.prog 14 #[.agg #[.int .u16 f0, .int .u16 f1, .int .u16 f2, .int .u16 f3], .agg #[.int .u16 g0, .int .u16 g1, .int .u16 g2, .int .u16 g3, .int .u16 g4, .int .u16 g5, .int .u16 g6, .int .u16 g7], .int .u8 gap, .int .u8 sz] w (BoK true w) := by
  have HE := Lib.hid E
  obtain ⟨F, hF⟩ : ∃ F : List Nat, [f0, f1, f2, f3] = F := ⟨_, rfl⟩
  obtain ⟨G, hG⟩ : ∃ G : List Nat, [g0, g1, g2, g3, g4, g5, g6, g7] = G := ⟨_, rfl⟩
  obtain ⟨wB, hwB⟩ : ∃ wB, (w.alloc (.cells #[.int .u16 f0, .int .u16 f1, .int .u16 f2, .int .u16 f3] 63)).alloc (.cells #[.int .u16 g0, .int .u16 g1, .int .u16 g2, .int .u16 g3, .int .u16 g4, .int .u16 g5, .int .u16 g6, .int .u16 g7] 64) = wB := ⟨_, rfl⟩
  have hF4 : F.length = 4 := by rw [← hF]; rfl
  have hG8 : G.length = 8 := by rw [← hG]; rfl
  have KB := Lib.hid (show Kp [] w wB from by rw [← hwB]; exact ((Kp.refl [] w).alloc _).alloc _)
  have BF := Lib.hid (show ∀ j x, F[j]? = some x → wB.cell? ⟨w.heap.size, j, none⟩ = some (.int .u16 (x : Nat)) from by
    intro j x hx
    have hb : Blk wB w.heap.size 63 #[.int .u16 f0, .int .u16 f1, .int .u16 f2, .int .u16 f3] := by rw [← hwB]; exact (Blk.new w _ _).alloc _
    rw [hb.cell j]
    rw [← hF] at hx
    match j, hx with
    | 0, hx | 1, hx | 2, hx | 3, hx => simp at hx; subst hx; rfl
    | j + 4, hx => simp at hx)
  have BG := Lib.hid (show ∀ j x, G[j]? = some x → wB.cell? ⟨w.heap.size + 1, j, none⟩ = some (.int .u16 (x : Nat)) from by
    intro j x hx
    have hb := Blk.new (w.alloc (.cells #[.int .u16 f0, .int .u16 f1, .int .u16 f2, .int .u16 f3] 63)) 64 #[.int .u16 g0, .int .u16 g1, .int .u16 g2, .int .u16 g3, .int .u16 g4, .int .u16 g5, .int .u16 g6, .int .u16 g7]
    rw [hwB, show (w.alloc (.cells #[.int .u16 f0, .int .u16 f1, .int .u16 f2, .int .u16 f3] 63)).heap.size = w.heap.size + 1 from by simp] at hb
    rw [hb.cell j]
    rw [← hG] at hx
    match j, hx with
    | 0, hx | 1, hx | 2, hx | 3, hx | 4, hx | 5, hx | 6, hx | 7, hx => simp at hx; subst hx; rfl
    | j + 8, hx => simp at hx)
  rw [hF] at hf
  rw [hG] at hg
  have hlt1 : w.heap.size + 1 < wB.heap.size := by rw [← hwB]; simp
  obtain ⟨ns, hns⟩ : ∃ ns, F.map (· % 1000) = ns := ⟨_, rfl⟩
  have hn4 : ns.length = 4 := by rw [← hns, List.length_map, hF4]
  have hn1 : ∀ n ∈ ns, n < 1000 := by
    intro n hm; rw [← hns] at hm; obtain ⟨x, _, rfl⟩ := List.mem_map.1 hm; exact Nat.mod_lt _ (by decide)
  have hgetF : ∀ j, j < 4 → ∃ x, F[j]? = some x ∧ x < 65536 ∧ ns[j]? = some (x % 1000) := by
    intro j hj
    refine ⟨F[j]'(by omega), List.getElem?_eq_getElem _, hf _ (List.getElem_mem _), ?_⟩
    rw [← hns, List.getElem?_map, List.getElem?_eq_getElem (by omega)]; rfl
  have hgetG : ∀ j, j < 8 → ∃ x, G[j]? = some x ∧ x < 65536 := fun j hj => ⟨G[j]'(by omega), List.getElem?_eq_getElem _, hg _ (List.getElem_mem _)⟩
  have HgF := Lib.hid hgetF
  have HgG := Lib.hid hgetG
  have Hn4 := Lib.hid hn4
  have HG8 := Lib.hid hG8
  have Hn1 := Lib.hid hn1
  have Hgm := Lib.hid hg
  have HwB := Lib.hid hwB
  clear E hF hG hwB hF4 hG8 hf hg hns hn4 hn1 hgetF hgetG
  go_enter Tryz.func14, Tryz.ntmps14
  go_wp2_with fail
  rw [HwB.out]
  go_loopg [9, 10, 11, 12] 5 (fun gg d g i _ wr => ∃ j : Nat, j ≤ 4 ∧ 4 - j < gg ∧ d = .string (Txt (dotsL ns j)) ∧ g = .bool (goodL ns j) ∧ i = .int .i64 j ∧ Kp [] wB wr)
  case atStart => exact ⟨0, by omega, by omega, rfl, rfl, rfl, Kp.refl _ _⟩
  case round =>
    obtain ⟨j, hj, hgg, rfl, rfl, rfl, hK⟩ := hrel
    by_cases hlt : j < 4
    · obtain ⟨x, hx1, hx2, hx3⟩ := HgF.out j hlt
      have hcell : wr.cell? ⟨w.heap.size, j, none⟩ = some (.int .u16 (x : Nat)) := (hK.cell (p := ⟨w.heap.size, j, none⟩) (by show w.heap.size < _; omega) (by simp)).trans (BF.out j x hx1)
      have hmod : (x : Int).tmod 1000 = ((x % 1000 : Nat) : Int) := rfl
      have hgood := good_next ns j (x % 1000) hx3
      have hd0 := dots_le ns j Hn1.out hj
      have hd1 : (Txt (dotsL ns j)).size ≤ 100 := by rw [txt_size]; exact hd0
      have hsm : (Txt (decL (x % 1000))).size ≤ 3 := by rw [txt_size]; exact (decL_spec _ _ (Nat.le_refl _)).2.2.2 3 (by decide) (by omega)
      have hm3 : x % 1000 < 1000 := Nat.mod_lt _ (by decide)
      obtain ⟨n, hn⟩ : ∃ n, x % 1000 = n := ⟨_, rfl⟩
      rw [hn] at hmod hgood hsm hm3 hx3
      have Hx3 := Lib.hid hx3
      have HGd := Lib.hid hgood
      clear hx1 hx3 hgood hn hd0
      by_cases hj0 : 0 < j
      · have HD := Lib.hid (dots_next ns j n Hx3.out hj0 (by have := Hn4.out; omega))
        cases hgd : goodL ns j
        · rw [hgd] at HGd
          clear hgd
          go_wp2_with fail
          refine (small_any n hm3 _).mono ?_
          rintro e w2 ⟨rfl, qq, rfl⟩
          have K2 := Lib.hid (hK.drewN qq)
          go_wp2_with fail
          go_roundg (4 - j)
          case measure => omega
          case rel => exact ⟨j + 1, by omega, by omega, by rw [HD.out, show (46 :: decL n) = [46] ++ decL n from rfl, ← bytes_cat, ← bytes_cat, ← ByteArray.append_assoc]; rfl, by rw [HGd.out]; rfl, rfl, K2.out⟩
        · rw [hgd] at HGd
          clear hgd
          go_wp2_with fail
          refine (small_any n hm3 _).mono ?_
          rintro e w2 ⟨rfl, qq, rfl⟩
          have K2 := Lib.hid (hK.drewN qq)
          go_wp2_with fail
          go_roundg (4 - j)
          case measure => omega
          case rel => exact ⟨j + 1, by omega, by omega, by rw [HD.out, show (46 :: decL n) = [46] ++ decL n from rfl, ← bytes_cat, ← bytes_cat, ← ByteArray.append_assoc]; rfl, by rw [HGd.out, Bool.true_and]; exact congrArg Value.bool (decide_eq_decide.2 (by omega)), rfl, K2.out⟩
      · obtain rfl : j = 0 := by omega
        have hgd : goodL ns 0 = true := rfl
        have HD := Lib.hid (dots_first ns n Hx3.out)
        have hd9 : Txt (dotsL ns 0) = ⟨#[]⟩ := rfl
        rw [hgd] at HGd ⊢
        rw [hd9] at hd1 ⊢
        clear hgd
        go_wp2_with fail
        refine (small_any n hm3 _).mono ?_
        rintro e w2 ⟨rfl, qq, rfl⟩
        have K2 := Lib.hid (hK.drewN qq)
        go_wp2_with fail
        go_roundg (4 - 0)
        case measure => omega
        case rel => exact ⟨0 + 1, by omega, by omega, by rw [HD.out]; exact congrArg Value.string (bytes_cat [] (decL n)), by rw [HGd.out, Bool.true_and]; exact congrArg Value.bool (decide_eq_decide.2 (by omega)), rfl, K2.out⟩
    · obtain rfl : j = 4 := by omega
      have hd0 := dots_le ns 4 Hn1.out (Nat.le_refl _)
      have hd1 : (Txt (dotsL ns 4)).size ≤ 100 := by rw [txt_size]; exact hd0
      have hH := Host_any (Txt (dotsL ns 4)) wr (by omega) (HE.out.kp (KB.out.trans hK) (by simp))
      rw [txt_list, four_dots ns Hn4.out Hn1.out] at hH
      obtain ⟨gB, hgB⟩ : ∃ b, goodL ns 4 = b := ⟨_, rfl⟩
      rw [hgB] at hH ⊢
      have H2 : Calls Tryz.prog 20 #[.string (Txt (dotsL ns 4))] wr (fun e w' => ∃ HS : ByteArray, (gB = true → HS = Txt (dotsL ns 4)) ∧ e = .returned (.tuple #[.string HS, .bool gB]) ∧ Below wr.heap.size wr w') := by
        refine hH.mono fun e w' h => ?_
        cases gB
        · exact ⟨_, fun h9 => (by cases h9), h.1, h.2⟩
        · exact ⟨_, fun _ => rfl, h.1, h.2⟩
      have HHo := Lib.hid H2
      clear hH hd0 H2 hgB
      go_wp2_with fail
      refine HHo.out.mono ?_
      rintro e w2 ⟨HS, hHS, rfl, hB⟩
      have hK2 := hK.below hB
      go_upto_region 11 with fail
      go_cut [66] from 56 to 66 (fun b wx => b = .bool false ∧ wx = w2)
      case first =>
        cases gB
        · go_wp2_with fail
          go_meet
          exact ⟨rfl, rfl⟩
        · have hs := hHS rfl
          subst hs
          go_wp2_with fail
          go_meet
          exact ⟨rfl, rfl⟩
      case rest =>
        obtain ⟨rfl, hwc⟩ := hcut
        subst hwc
        have K2 := Lib.hid hK2
        obtain ⟨k, hk⟩ : ∃ k, gap % 8 = k := ⟨_, rfl⟩
        have hkm : (gap : Int).tmod 8 = (k : Int) := by have e : (gap : Int).tmod 8 = ((gap % 8 : Nat) : Int) := rfl
                                                        rw [e, hk]
        have hk8 : k < 8 := by omega
        clear hK hK2 HHo hd1 hk hHS hB
        go_wp2_with fail
        go_loopg [15, 16, 17, 19, 20] 9 (fun gg a l r i _ wr => ∃ j : Nat, j ≤ 8 ∧ 8 - j < gg ∧ a = .string (Txt (colL (G.take j))) ∧ l = .string (Txt (colL (G.take (min j k)))) ∧ r = .string (Txt (colL ((G.take j).drop (k + 1)))) ∧ i = .int .i64 j ∧ Kp [] wB wr)
        case atStart => exact ⟨0, by omega, by omega, rfl, by rw [Nat.zero_min]; rfl, rfl, rfl, K2.out⟩
        case round =>
          obtain ⟨j, hj, hgg, rfl, rfl, rfl, rfl, hK⟩ := hrel
          have hm1 : ∀ x ∈ G.take j, x < 65536 := fun x hx => Hgm.out x (List.mem_of_mem_take hx)
          have z1 : (Txt (colL (G.take j))).size ≤ 100 := by rw [txt_size]; exact col_le _ hm1 (by rw [List.length_take]; omega)
          have z2 : (Txt (colL (G.take (min j k)))).size ≤ 100 := by rw [txt_size]; exact col_le _ (fun x hx => Hgm.out x (List.mem_of_mem_take hx)) (by rw [List.length_take]; omega)
          have z3 : (Txt (colL ((G.take j).drop (k + 1)))).size ≤ 100 := by rw [txt_size]; exact col_le _ (fun x hx => hm1 x (List.mem_of_mem_drop hx)) (by rw [List.length_drop, List.length_take]; omega)
          by_cases hlt : j < 8
          · obtain ⟨x, hx1, hx2⟩ := HgG.out j hlt
            have hcell : wr.cell? ⟨w.heap.size + 1, j, none⟩ = some (.int .u16 (x : Nat)) := (hK.cell (p := ⟨w.heap.size + 1, j, none⟩) (by show w.heap.size + 1 < _; omega) (by simp)).trans (BG.out j x hx1)
            have hsm : (Txt (hexL x)).size ≤ 4 := by rw [txt_size]; exact (hexL_ok 4 x (by decide) (by simpa using hx2)).2.1
            have Hx := Lib.hid hx1
            have hjl : j ≤ G.length := by have := HG8.out; omega
            have hk1 : IntKind.i64.wrap ((k : Int) + 1) = (k : Int) + 1 := IntWalk.i64_in _ (by omega)
            have hall0 : j = 0 → colL (G.take (j + 1)) = hexL x := by rintro rfl; rw [take_snoc G 0 x Hx.out]; rfl
            have hall1 : 0 < j → colL (G.take (j + 1)) = colL (G.take j) ++ 58 :: hexL x := fun h => by rw [take_snoc G j x Hx.out, col_next _ _ (take_ne G j h hjl)]
            have hr1 : j = k + 1 → colL ((G.take (j + 1)).drop (k + 1)) = hexL x := fun h => by rw [right_next G j k x Hx.out (by omega) hjl, right_stay0 G j k (by omega)]; rfl
            have hr2 : k + 1 < j → colL ((G.take (j + 1)).drop (k + 1)) = colL ((G.take j).drop (k + 1)) ++ 58 :: hexL x := fun h => by rw [right_next G j k x Hx.out (by omega) hjl, col_next _ _ (right_ne G j k h hjl)]
            have hr0 : j ≤ k → (G.take (j + 1)).drop (k + 1) = [] ∧ (G.take j).drop (k + 1) = [] := fun h => ⟨right_stay G j k h, right_stay0 G j k (by omega)⟩
            have hr3 : j = k + 1 → (G.take j).drop (k + 1) = [] := fun h => right_stay0 G j k (by omega)
            have Ha0 := Lib.hid hall0
            have Ha1 := Lib.hid hall1
            have Hr1 := Lib.hid hr1
            have Hr2 := Lib.hid hr2
            have Hr0 := Lib.hid hr0
            have Hr3 := Lib.hid hr3
            obtain ⟨A, hA⟩ : ∃ A, colL (G.take j) = A := ⟨_, rfl⟩
            obtain ⟨Lf, hL⟩ : ∃ A, colL (G.take (min j k)) = A := ⟨_, rfl⟩
            obtain ⟨Rg, hR⟩ : ∃ A, colL ((G.take j).drop (k + 1)) = A := ⟨_, rfl⟩
            have HA := Lib.hid hA
            have HL := Lib.hid hL
            have HRr := Lib.hid hR
            rw [hA] at z1 ⊢
            rw [hL] at z2 ⊢
            rw [hR] at z3 ⊢
            clear hx1 hall0 hall1 hr1 hr2 hr0 hr3 hA hL hR hm1
            by_cases hj0 : 0 < j
            · by_cases hjk : j < k
              · go_wp2_with fail
                refine (group_any x hx2 _).mono ?_
                rintro e w2 ⟨rfl, qq, rfl⟩
                have K3 := Lib.hid (hK.drewN qq)
                go_wp2_with fail
                go_roundg (8 - j)
                case measure => omega
                case rel => exact ⟨j + 1, by omega, by omega, by rw [Ha1.out hj0, HA.out, show (58 :: hexL x) = [58] ++ hexL x from rfl, ← bytes_cat, ← bytes_cat, ← ByteArray.append_assoc]; rfl, by rw [Nat.min_eq_left (by omega)]; have h9 := HL.out; rw [Nat.min_eq_left (by omega)] at h9; rw [Ha1.out hj0, h9, show (58 :: hexL x) = [58] ++ hexL x from rfl, ← bytes_cat, ← bytes_cat, ← ByteArray.append_assoc]; rfl, by rw [(Hr0.out (by omega)).1]; have h9 := HRr.out; rw [(Hr0.out (by omega)).2] at h9; rw [h9], rfl, K3.out⟩
              · by_cases hjk1 : j = k
                · subst hjk1
                  have hjk2 : ¬ j < j := by omega
                  have hjk3 : ¬ j + 1 < j := by omega
                  go_wp2_with fail
                  refine (group_any x hx2 _).mono ?_
                  rintro e w2 ⟨rfl, qq, rfl⟩
                  have K3 := Lib.hid (hK.drewN qq)
                  go_wp2_with fail
                  go_roundg (8 - j)
                  case measure => omega
                  case rel => exact ⟨j + 1, by omega, by omega, by rw [Ha1.out hj0, HA.out, show (58 :: hexL x) = [58] ++ hexL x from rfl, ← bytes_cat, ← bytes_cat, ← ByteArray.append_assoc]; rfl, by rw [Nat.min_eq_right (by omega)]; have h9 := HL.out; rw [Nat.min_eq_right (by omega)] at h9; rw [h9], by rw [(Hr0.out (by omega)).1]; have h9 := HRr.out; rw [(Hr0.out (by omega)).2] at h9; rw [h9], rfl, K3.out⟩
                · by_cases hjk2 : k + 1 < j
                  · have hjk3 : k < j := by omega
                    go_wp2_with fail
                    refine (group_any x hx2 _).mono ?_
                    rintro e w2 ⟨rfl, qq, rfl⟩
                    have K3 := Lib.hid (hK.drewN qq)
                    go_wp2_with fail
                    go_roundg (8 - j)
                    case measure => omega
                    case rel => exact ⟨j + 1, by omega, by omega, by rw [Ha1.out hj0, HA.out, show (58 :: hexL x) = [58] ++ hexL x from rfl, ← bytes_cat, ← bytes_cat, ← ByteArray.append_assoc]; rfl, by rw [Nat.min_eq_right (by omega)]; have h9 := HL.out; rw [Nat.min_eq_right (by omega)] at h9; rw [h9], by rw [Hr2.out (by omega), HRr.out, show (58 :: hexL x) = [58] ++ hexL x from rfl, ← bytes_cat, ← bytes_cat, ← ByteArray.append_assoc]; rfl, rfl, K3.out⟩
                  · have hjk3 : k < j := by omega
                    go_wp2_with fail
                    refine (group_any x hx2 _).mono ?_
                    rintro e w2 ⟨rfl, qq, rfl⟩
                    have K3 := Lib.hid (hK.drewN qq)
                    go_wp2_with fail
                    go_roundg (8 - j)
                    case measure => omega
                    case rel => exact ⟨j + 1, by omega, by omega, by rw [Ha1.out hj0, HA.out, show (58 :: hexL x) = [58] ++ hexL x from rfl, ← bytes_cat, ← bytes_cat, ← ByteArray.append_assoc]; rfl, by rw [Nat.min_eq_right (by omega)]; have h9 := HL.out; rw [Nat.min_eq_right (by omega)] at h9; rw [h9], by rw [Hr1.out (by omega)]; have h9 := HRr.out; rw [Hr3.out (by omega)] at h9; rw [← h9]; exact congrArg Value.string (bytes_cat [] (hexL x)), rfl, K3.out⟩
            · obtain rfl : j = 0 := by omega
              by_cases hk0 : 0 < k
              · have hjk : 0 < k := by omega
                go_wp2_with fail
                refine (group_any x hx2 _).mono ?_
                rintro e w2 ⟨rfl, qq, rfl⟩
                have K3 := Lib.hid (hK.drewN qq)
                go_wp2_with fail
                go_roundg (8 - 0)
                case measure => omega
                case rel => exact ⟨0 + 1, by omega, by omega, by rw [Ha0.out (by trivial)]; have h9 := HA.out; rw [← h9]; exact congrArg Value.string (bytes_cat [] (hexL x)), by rw [Nat.min_eq_left (by omega), Ha0.out (by trivial)]; have h9 := HL.out; rw [Nat.zero_min] at h9; rw [← h9]; exact congrArg Value.string (bytes_cat [] (hexL x)), by rw [(Hr0.out (by omega)).1]; have h9 := HRr.out; rw [(Hr0.out (by omega)).2] at h9; rw [h9], rfl, K3.out⟩
              · have hjk : ¬ 0 < k := by omega
                have hjk2 : ¬ k < 0 := by omega
                have hjk3 : ¬ k + 1 < 0 := by omega
                go_wp2_with fail
                refine (group_any x hx2 _).mono ?_
                rintro e w2 ⟨rfl, qq, rfl⟩
                have K3 := Lib.hid (hK.drewN qq)
                go_wp2_with fail
                go_roundg (8 - 0)
                case measure => omega
                case rel => exact ⟨0 + 1, by omega, by omega, by rw [Ha0.out (by trivial)]; have h9 := HA.out; rw [← h9]; exact congrArg Value.string (bytes_cat [] (hexL x)), by rw [Nat.min_eq_right (by omega)]; have h9 := HL.out; rw [Nat.min_eq_right (by omega)] at h9; rw [h9], by rw [(Hr0.out (by omega)).1]; have h9 := HRr.out; rw [(Hr0.out (by omega)).2] at h9; rw [h9], rfl, K3.out⟩
          · obtain rfl : j = 8 := by omega
            have hGe : G.take 8 = G := List.take_of_length_le (by have := HG8.out; omega)
            have hmk : min 8 k = k := Nat.min_eq_right (by omega)
            have HA := Lib.hid (host_eight G Hgm.out HG8.out)
            have HBo := Lib.hid (host_gap (G.take k) (G.drop (k + 1)) (fun x hx => Hgm.out x (List.mem_of_mem_take hx)) (fun x hx => Hgm.out x (List.mem_of_mem_drop hx)) (by rw [List.length_take, List.length_drop]; have := HG8.out; omega))
            rw [hGe] at z1 z3 ⊢
            rw [hmk] at z2 ⊢
            obtain ⟨TA, hTA⟩ : ∃ T, Txt (colL G) = T := ⟨_, rfl⟩
            obtain ⟨TL, hTL⟩ : ∃ T, Txt (colL (G.take k)) = T := ⟨_, rfl⟩
            obtain ⟨TR, hTR⟩ : ∃ T, Txt (colL (G.drop (k + 1))) = T := ⟨_, rfl⟩
            rw [hTA] at z1 ⊢
            rw [hTL] at z2 ⊢
            rw [hTR] at z3 ⊢
            obtain ⟨SA1, hA1⟩ : ∃ T, (ByteArray.mk #[91]) ++ TA = T := ⟨_, rfl⟩
            obtain ⟨SA2, hA2⟩ : ∃ T, SA1 ++ (ByteArray.mk #[93]) = T := ⟨_, rfl⟩
            obtain ⟨SB1, hB1⟩ : ∃ T, (ByteArray.mk #[91]) ++ TL = T := ⟨_, rfl⟩
            obtain ⟨SB2, hB2⟩ : ∃ T, SB1 ++ (ByteArray.mk #[58, 58]) = T := ⟨_, rfl⟩
            obtain ⟨SB3, hB3⟩ : ∃ T, SB2 ++ TR = T := ⟨_, rfl⟩
            obtain ⟨SB4, hB4⟩ : ∃ T, SB3 ++ (ByteArray.mk #[93]) = T := ⟨_, rfl⟩
            have q1 : SA1.size ≤ 101 := by rw [← hA1, ByteArray.size_append]; have : (ByteArray.mk #[91]).size = 1 := rfl; omega
            have q2 : SA2.size ≤ 102 := by rw [← hA2, ByteArray.size_append]; have : (ByteArray.mk #[93]).size = 1 := rfl; omega
            have q3 : SB1.size ≤ 101 := by rw [← hB1, ByteArray.size_append]; have : (ByteArray.mk #[91]).size = 1 := rfl; omega
            have q4 : SB2.size ≤ 103 := by rw [← hB2, ByteArray.size_append]; have : (ByteArray.mk #[58, 58]).size = 2 := rfl; omega
            have q5 : SB3.size ≤ 203 := by rw [← hB3, ByteArray.size_append]; omega
            have q6 : SB4.size ≤ 204 := by rw [← hB4, ByteArray.size_append]; have : (ByteArray.mk #[93]).size = 1 := rfl; omega
            have eA : SA2 = Txt ([91] ++ joinL 58 (grpsOf G) ++ [93]) := by rw [← bytes_cat, ← bytes_cat, ← hA2, ← hA1, ← hTA]; rfl
            have eB : SB4 = Txt ([91] ++ (joinL 58 (grpsOf (G.take k)) ++ [58, 58] ++ joinL 58 (grpsOf (G.drop (k + 1)))) ++ [93]) := by
              rw [← bytes_cat, ← bytes_cat, ← bytes_cat, ← bytes_cat, ← hB4, ← hB3, ← hB2, ← hB1, ← hTL, ← hTR, ByteArray.append_assoc, ByteArray.append_assoc, ByteArray.append_assoc, ByteArray.append_assoc, ByteArray.append_assoc, ByteArray.append_assoc]; rfl
            have PA : ∀ wz, Env wz → Calls Tryz.prog 20 #[.string SA2] wz (fun e w' => e = .returned (.tuple #[.string SA2, .bool true]) ∧ Below wz.heap.size wz w') := by
              intro wz hz
              have h := Host_any SA2 wz (by omega) hz
              rw [eA, txt_list, HA.out] at h
              rw [eA]
              exact h
            have PB : ∀ wz, Env wz → Calls Tryz.prog 20 #[.string SB4] wz (fun e w' => e = .returned (.tuple #[.string SB4, .bool true]) ∧ Below wz.heap.size wz w') := by
              intro wz hz
              have h := Host_any SB4 wz (by omega) hz
              rw [eB, txt_list, HBo.out] at h
              rw [eB]
              exact h
            have HPA := Lib.hid PA
            have HPB := Lib.hid PB
            have hc1 : (SA2.toList != SA2.toList) = false := bne_self_eq_false _
            have hc2 : (SB4.toList != SB4.toList) = false := bne_self_eq_false _
            obtain ⟨m, hm⟩ : ∃ m, 60 + sz % 8 = m := ⟨_, rfl⟩
            have hm1 : (sz : Int).tmod 8 = ((sz % 8 : Nat) : Int) := rfl
            obtain ⟨s8, hs8⟩ : ∃ s, sz % 8 = s := ⟨_, rfl⟩
            rw [hs8] at hm hm1
            have hm2 : IntKind.i64.wrap (60 + (s8 : Int)) = (m : Int) := by rw [IntWalk.i64_in _ (by omega)]; omega
            have hm3 : m < 68 := by omega
            have Hlab := Lib.hid (show hostO ([88, 46] ++ List.replicate m 97) = if m ≤ 63 then some ([120, 46] ++ List.replicate m 97) else none from by
              have := host_label ⟨s8, by omega⟩
              rw [← hm]; exact this)
            have KE : ∀ wz, Kp [] wB wz → Env wz := fun wz hz => HE.out.kp (KB.out.trans hz) (by simp)
            have HKE := Lib.hid KE
            clear eA eB PA PB hTA hTL hTR hGe hmk hm hs8 KE HA HBo hgg hj hlt
            go_wp2_with fail
            refine (HPA.out _ (HKE.out _ hK)).mono ?_
            rintro e w3 ⟨rfl, hBl3⟩
            have K3 := hK.below hBl3
            clear hBl3
            go_wp2_with fail
            refine (HPB.out _ (HKE.out _ K3)).mono ?_
            rintro e w4 ⟨rfl, hBl4⟩
            have K4 := K3.below hBl4
            clear hBl4
            go_wp2_with fail
            clear hA1 hA2 hB1 hB2 hB3 hB4 hc1 hc2 q1 q2 q3 q4 q5 q6 z1 z2 z3
            go_loopg [25, 26] 70 (fun gg l i wr => ∃ j : Nat, j ≤ m ∧ m - j < gg ∧ l = .string (Txt (List.replicate j 97)) ∧ i = .int .i64 j ∧ Kp [] wB wr)
            case atStart => exact ⟨0, by omega, by omega, rfl, rfl, K4⟩
            case round =>
              obtain ⟨j, hj, hgg, rfl, rfl, hK5⟩ := hrel
              have z1 : (Txt (List.replicate j (97 : UInt8))).size ≤ 100 := by rw [txt_size, List.length_replicate]; omega
              by_cases hlt : j < m
              · have e1 : Txt (List.replicate j (97 : UInt8)) ++ (ByteArray.mk #[97]) = Txt (List.replicate (j + 1) 97) := by rw [List.replicate_succ', ← bytes_cat]; rfl
                have HE1 := Lib.hid e1
                clear e1
                go_wp2_with fail
                go_roundg (m - j)
                case measure => omega
                case rel => exact ⟨j + 1, by omega, by omega, by rw [← HE1.out], rfl, hK5⟩
              · obtain rfl : j = m := by omega
                obtain ⟨LB, hLB⟩ : ∃ T, Txt (List.replicate j (97 : UInt8)) = T := ⟨_, rfl⟩
                have hLs : LB.size = j := by rw [← hLB, txt_size, List.length_replicate]
                rw [hLB] at z1 ⊢
                obtain ⟨XB, hX⟩ : ∃ T, (ByteArray.mk #[88, 46]) ++ LB = T := ⟨_, rfl⟩
                obtain ⟨YB, hY⟩ : ∃ T, (ByteArray.mk #[120, 46]) ++ LB = T := ⟨_, rfl⟩
                have q1 : XB.size ≤ 102 := by rw [← hX, ByteArray.size_append]; have : (ByteArray.mk #[88, 46]).size = 2 := rfl; omega
                have eX : XB = Txt ([88, 46] ++ List.replicate j 97) := by rw [← bytes_cat, ← hX, ← hLB]; rfl
                have eY : YB = Txt ([120, 46] ++ List.replicate j 97) := by rw [← bytes_cat, ← hY, ← hLB]; rfl
                have hHo := Host_any XB wr (by omega) (HKE.out _ hK5)
                rw [show XB.data.toList = [88, 46] ++ List.replicate j 97 from by rw [eX, txt_list], Hlab.out] at hHo
                by_cases h63 : j ≤ 63
                · rw [if_pos h63] at hHo
                  have hd : decide ((LB.size : Int) ≤ 63) = true := decide_eq_true (by omega)
                  have hcY : (YB.toList == YB.toList) = true := beq_self_eq_true _
                  have PH : Calls Tryz.prog 20 #[.string XB] wr (fun e w' => e = .returned (.tuple #[.string YB, .bool true]) ∧ Below wr.heap.size wr w') := by rw [eY]; exact hHo
                  have HPH := Lib.hid PH
                  have HLs := Lib.hid hLs
                  clear PH hHo eX eY hLs hLB
                  go_wp2_with fail
                  refine HPH.out.mono ?_
                  rintro e w6 ⟨rfl, hB6⟩
                  have K6 := hK5.below hB6
                  go_wp2_with fail
                  refine (awake_any _ (HKE.out _ K6)).mono ?_
                  rintro e w7 ⟨rfl, hK7⟩
                  have K7 := Lib.hid (KB.out.trans (K6.trans hK7))
                  go_wp2_with fail
                  go_ret
                  exact ⟨rfl, K7.out⟩
                · rw [if_neg h63] at hHo
                  have hd : decide ((LB.size : Int) ≤ 63) = false := decide_eq_false (by omega)
                  have PH : Calls Tryz.prog 20 #[.string XB] wr (fun e w' => e = .returned (.tuple #[.string (Txt []), .bool false]) ∧ Below wr.heap.size wr w') := hHo
                  have HPH := Lib.hid PH
                  have HLs := Lib.hid hLs
                  clear PH hHo eX eY hLs hLB
                  go_wp2_with fail
                  refine HPH.out.mono ?_
                  rintro e w6 ⟨rfl, hB6⟩
                  have K6 := hK5.below hB6
                  go_wp2_with fail
                  refine (awake_any _ (HKE.out _ K6)).mono ?_
                  rintro e w7 ⟨rfl, hK7⟩
                  have K7 := Lib.hid (KB.out.trans (K6.trans hK7))
                  go_wp2_with fail
                  go_ret
                  exact ⟨rfl, K7.out⟩
end Ad
end Go.Proofs.YtjkkcoiebnmkcaaGreatDoor
