/- Texts of one set of library modules: AdW. -/
import Derived.Test.YtbcaindpbeaheaaGreatDoorZ16
import Derived.BigRegion
import Derived.RegionTactic
namespace Go.Proofs.YtbcaindpbeaheaaGreatDoor
namespace Ad
open Go.RowKit Lx
theorem results_three {P : Program} {fn : Func} {p u v : Tmp} {ty : TypeId} (h : fn.results = #[.cell p ty, .tmp u, .tmp v]) (tmps : Array Value) (w : World) (g : Nat) (t : TypeId) (cs : Array Value) (fr : Nat × Nat) (d : TypeDesc)
   (hp : tmps.getD p undef = .pointer (some ⟨g, 0, none⟩)) (hg : w.heap[g]? = some (.cells cs t fr))
   (hu : P.underlying ty = some d) (hd : (match d with | .struct _ | .array _ _ => true | _ => false) = true) (hi : (P.info? ty).map (·.size) = some cs.size) :
   (results fn tmps).run P w = .ok (.tuple #[.agg cs, tmps.getD u undef, tmps.getD v undef]) w := by
 have hp' : tmps[p]?.getD undef = .pointer (some ⟨g, 0, none⟩) := by simpa using hp
 simp only [results, h]
 simp [Sem.run_bind, Result.andThen, hp', asAddr, run_loadVar_row w g t ty cs fr d hg hu hd hi]
def UrP (r : Uri × Nat × Int) (w : World) (e : Ending) (w' : World) : Prop :=
 ∃ v, e = .returned (.tuple #[v, .int .i64 r.2.1, .int .u8 r.2.2]) ∧ UriIn w'.heap.size w' v r.1 ∧ Below w.heap.size w w'
theorem parse_off (l : List UInt8) (h : (parse l).2.2 = 0) : (parse l).2.1 = 0 := (parse_NF l h).2
theorem uri_out (g : Nat) (w wx : World) (u : Uri) (n : Nat) (x : Int) (S U H : ByteArray) (P : Int) (a1 : Option Addr) (n1 c1 : Nat) (a2 : Option Addr) (n2 c2 : Nat) (hu : UriIn wx.heap.size wx (.agg #[.string S, .string U, .string H, .int .i64 P, .slice a1 n1 c1, .slice a2 n2 c2]) u) (K : Kp [] w wx) (hg : w.heap.size ≤ g) (Z : Zub wx g) :
   UrP (u, n, x) w (.returned (.tuple #[.agg #[.string S, .string U, .string H, .int .i64 P, .slice a1 n1 c1, .slice a2 n2 c2], .int .i64 n, .int .u8 x])) ((((((wx.setCell ⟨g, 0, none⟩ (.string S)).setCell ⟨g, 1, none⟩ (.string U)).setCell ⟨g, 2, none⟩ (.string H)).setCell ⟨g, 3, none⟩ (.int .i64 P)).setCell ⟨g, 4, none⟩ (.slice a1 n1 c1)).setCell ⟨g, 5, none⟩ (.slice a2 n2 c2)) := by
 refine ⟨_, rfl, ?_, (kp6 K (.inr hg) _ _ _ _ _ _).nilBelow⟩
 obtain ⟨vp, vh, he2, h1, h2⟩ := hu
 have hk := kp6 (Kp.refl [g] wx) (g := g) (.inl (by simp)) (.string S) (.string U) (.string H) (.int .i64 P) (.slice a1 n1 c1) (.slice a2 n2 c2)
 have hn : ∀ y ∈ [g], NoB wx y := by intro y hy; rw [List.mem_singleton.1 hy]; exact Z.nob
 exact ⟨vp, vh, he2, h1.grow hk hn, h2.grow hk hn⟩
theorem UriIn.kpn {w w' : World} {v : Value} {u : Uri} (h : UriIn w.heap.size w v u) (k : Kp [] w w') : UriIn w'.heap.size w' v u := by
 obtain ⟨vp, vh, he, h1, h2⟩ := h
 exact ⟨vp, vh, he, h1.grow k (by intro y hy; cases hy), h2.grow k (by intro y hy; cases hy)⟩
theorem UrP.drew {r : Uri × Nat × Int} {w w' : World} {e : Ending} (h : UrP r w e w') : UrP r w e w'.drew := by
 obtain ⟨v, he, hu, hB⟩ := h
 exact ⟨v, he, hu.kpn (Kp.drew (Kp.refl [] _)), hB.drew⟩
theorem UriIn.nil (B : Nat) (w : World) : UriIn B w (.agg #[.string ⟨#[]⟩, .string ⟨#[]⟩, .string ⟨#[]⟩, .int .i64 0, .slice none 0 0, .slice none 0 0]) nilU := ⟨_, _, rfl, PmIn.nil _ _, PmIn.nil _ _⟩
set_option maxRecDepth 100000 in
set_option maxHeartbeats 2000000 in
theorem readU_any (s : ByteArray) (w : World) (hs : s.size ≤ 2097152) (E : Env w) :
   Calls Tryz.prog 209 #[.string s, .func (.func 210) #[] #[]] w (UrP (parse s.data.toList) w) := by
 have ent : ∀ (args : Array Value) (w : World), Sem.run Tryz.prog (callFunc 210 args) w = .ok (.enter 210 args) w := enters_of Tryz.func210 (by kernel_rfl) rfl
 have Ent := Lib.hid ent
 have KA := Lib.hid ((Kp.refl [] w).alloc (.cells #[.string ⟨#[]⟩, .string ⟨#[]⟩, .string ⟨#[]⟩, .int .i64 0, .slice none 0 0, .slice none 0 0] 54))
 have ZA : Zub (w.alloc (.cells #[.string ⟨#[]⟩, .string ⟨#[]⟩, .string ⟨#[]⟩, .int .i64 0, .slice none 0 0, .slice none 0 0] 54)) w.heap.size := Blk.new w 54 _
 have hsA : (w.alloc (.cells #[.string ⟨#[]⟩, .string ⟨#[]⟩, .string ⟨#[]⟩, .int .i64 0, .slice none 0 0, .slice none 0 0] 54)).heap.size = w.heap.size + 1 := by simp
 have CB0 := curNew (w.alloc (.cells #[.string ⟨#[]⟩, .string ⟨#[]⟩, .string ⟨#[]⟩, .int .i64 0, .slice none 0 0, .slice none 0 0] 54)) s
 rw [hsA] at CB0
 have CB := Lib.hid CB0
 have KB := Lib.hid (KA.out.alloc (.cells #[.string s, .int .i64 0] 158))
 have ZB := Lib.hid (Blk.alloc ZA (.cells #[.string s, .int .i64 0] 158))
 have EB := Lib.hid (E.kp KB.out (by simp))
 have hb7 := E.sz;have hF := (parse_at s.data.toList).2
 obtain ⟨u, n, x, hr⟩ : ∃ a b c, parse s.data.toList = (a, b, c) := ⟨_, _, _, rfl⟩
 rw [hr] at hF
 have HR := Lib.hid hr;have HF := Lib.hid hF;clear hr ent hF E CB0 ZA hsA
 rw [HR.out]
 go_enter Tryz.func209, Tryz.ntmps209
 go_wp2_with fail
 refine (uri_k (w.heap.size + 1) 0 s _ hs (Nat.zero_le _) CB.out EB.out (by omega)).mono ?_
 rintro e w1 ⟨S, U, H, P, a1, n1, c1, a2, n2, c2, k', rfl, hk, hu, hC, hK⟩
 rw [HR.out] at hk hu ⊢
 dsimp only at hk hu ⊢
 have Z1 : Zub w1 w.heap.size := ZB.out.kp hK (by simp)
 have hs1a := hK.size
 have hs1 : w.heap.size + 2 ≤ w1.heap.size := by simpa using hs1a
 have B8 := Lib.hid (Blk.new w1 54 #[.string S, .string U, .string H, .int .i64 P, .slice a1 n1 c1, .slice a2 n2 c2])
 have Z8 := Lib.hid (Blk.alloc Z1 (.cells #[.string S, .string U, .string H, .int .i64 P, .slice a1 n1 c1, .slice a2 n2 c2] 54))
 have C8 := Lib.hid (hC.alloc (.cells #[.string S, .string U, .string H, .int .i64 P, .slice a1 n1 c1, .slice a2 n2 c2] 54))
 have K8 := Lib.hid ((KB.out.to_ hK (by intro y hy; simp at hy; right; omega)).alloc (.cells #[.string S, .string U, .string H, .int .i64 P, .slice a1 n1 c1, .slice a2 n2 c2] 54))
 have Hk := Lib.hid hk;have Hu := Lib.hid hu;clear hk hu hC hK Z1 hs1a
 by_cases hx : x = 0
 ·subst hx
  have bx : ((0 : Int) != 0) = false := rfl
  have hn0 := parse_off s.data.toList (by rw [HR.out])
  rw [HR.out] at hn0
  dsimp only at hn0
  subst hn0
  have u0 := B8.out.cell 0;have u1 := B8.out.cell 1;have u2 := B8.out.cell 2;have u3 := B8.out.cell 3;have u4 := B8.out.cell 4;have u5 := B8.out.cell 5;have d0 := Z8.out.cell 0;have d1 := Z8.out.cell 1;have d2 := Z8.out.cell 2;have d3 := Z8.out.cell 3;have d4 := Z8.out.cell 4;have d5 := Z8.out.cell 5;have g0 := Z8.out.frozen 0;have g1 := Z8.out.frozen 1;have g2 := Z8.out.frozen 2;have g3 := Z8.out.frozen 3;have g4 := Z8.out.frozen 4;have g5 := Z8.out.frozen 5
  go_wp2_with fail
  refine bodyPost_ret (results_three rfl _ _ w.heap.size 54 _ (0, 0) _ rfl (blk6 Z8.out _ _ _ _ _ _) Tryz.underlying54 rfl infoUri) rfl ?_
  exact uri_out w.heap.size w _ u 0 0 _ _ _ _ _ _ _ _ _ _ ((Hu.out (by trivial)).kpn ((Kp.refl [] w1).alloc _)) K8.out (Nat.le_refl _) Z8.out
 ·have bx : (x != 0) = true := by rw [bne_iff_ne]; exact hx
  have HX := Lib.hid hx;clear hx
  have h8s : (w1.alloc (.cells #[.string S, .string U, .string H, .int .i64 P, .slice a1 n1 c1, .slice a2 n2 c2] 54)).heap.size = w1.heap.size + 1 := by simp
  have B9 := Blk.new (w1.alloc (.cells #[.string S, .string U, .string H, .int .i64 P, .slice a1 n1 c1, .slice a2 n2 c2] 54)) 54 #[.string ⟨#[]⟩, .string ⟨#[]⟩, .string ⟨#[]⟩, .int .i64 0, .slice none 0 0, .slice none 0 0]
  rw [h8s] at B9
  have B9 := Lib.hid B9
  have Z9 := Lib.hid (Blk.alloc Z8.out (.cells #[.string ⟨#[]⟩, .string ⟨#[]⟩, .string ⟨#[]⟩, .int .i64 0, .slice none 0 0, .slice none 0 0] 54))
  have C9 := Lib.hid (Cur.alloc C8.out (.cells #[.string ⟨#[]⟩, .string ⟨#[]⟩, .string ⟨#[]⟩, .int .i64 0, .slice none 0 0, .slice none 0 0] 54))
  have K9 := Lib.hid (K8.out.alloc (.cells #[.string ⟨#[]⟩, .string ⟨#[]⟩, .string ⟨#[]⟩, .int .i64 0, .slice none 0 0, .slice none 0 0] 54))
  clear h8s
  go_wp2_with fail
  obtain ⟨w9, hw9⟩ : ∃ w9, (w1.alloc (.cells #[.string S, .string U, .string H, .int .i64 P, .slice a1 n1 c1, .slice a2 n2 c2] 54)).alloc (.cells #[.string ⟨#[]⟩, .string ⟨#[]⟩, .string ⟨#[]⟩, .int .i64 0, .slice none 0 0, .slice none 0 0] 54) = w9 := ⟨_, rfl⟩
  rw [hw9] at B9 Z9 C9 K9 ⊢
  clear hw9;have u0 := B9.out.cell 0;have u1 := B9.out.cell 1;have u2 := B9.out.cell 2;have u3 := B9.out.cell 3;have u4 := B9.out.cell 4;have u5 := B9.out.cell 5;have d0 := Z9.out.cell 0;have d1 := Z9.out.cell 1;have d2 := Z9.out.cell 2;have d3 := Z9.out.cell 3;have d4 := Z9.out.cell 4;have d5 := Z9.out.cell 5;have g0 := Z9.out.frozen 0;have g1 := Z9.out.frozen 1;have g2 := Z9.out.frozen 2;have g3 := Z9.out.frozen 3;have g4 := Z9.out.frozen 4;have g5 := Z9.out.frozen 5;have c1' := C9.out.c1
  go_region
  all_goals
   go_wp2_with fail
   refine bodyPost_ret (results_three rfl _ _ w.heap.size 54 _ (0, 0) _ rfl (Blk.drew (blk6 Z9.out _ _ _ _ _ _)) Tryz.underlying54 rfl infoUri) rfl ?_
   rw [show u = nilU from HF.out HX.out, ← show k' = n from Hk.out HX.out]
   exact (uri_out w.heap.size w w9 nilU k' x _ _ _ _ _ _ _ _ _ _ (UriIn.nil _ _) K9.out (Nat.le_refl _) Z9.out).drew
set_option maxRecDepth 100000 in
set_option maxHeartbeats 1000000 in
theorem Parse_any (s : ByteArray) (w : World) (hs : s.size ≤ 2097152) (E : Env w) :
   Calls Tryz.prog 167 #[.string s] w (UrP (parse s.data.toList) w) := by
 obtain ⟨u, n, x, hr⟩ : ∃ a b c, parse s.data.toList = (a, b, c) := ⟨_, _, _, rfl⟩
 have KA := Lib.hid ((Kp.refl [] w).alloc (.cells #[.string ⟨#[]⟩, .string ⟨#[]⟩, .string ⟨#[]⟩, .int .i64 0, .slice none 0 0, .slice none 0 0] 54))
 have ZA := Lib.hid (show Zub (w.alloc (.cells #[.string ⟨#[]⟩, .string ⟨#[]⟩, .string ⟨#[]⟩, .int .i64 0, .slice none 0 0, .slice none 0 0] 54)) w.heap.size from Blk.new w 54 _)
 have HR := Lib.hid (readU_any s (w.alloc (.cells #[.string ⟨#[]⟩, .string ⟨#[]⟩, .string ⟨#[]⟩, .int .i64 0, .slice none 0 0, .slice none 0 0] 54)) hs (E.kp KA.out (by simp)))
 rw [hr] at HR ⊢
 clear hr E
 go_enter Tryz.func167, Tryz.ntmps167
 go_wp2_with fail
 refine HR.out.mono ?_
 rintro e w1 ⟨v, rfl, hu, hB⟩
 have Hu := Lib.hid hu;have hs1 := hB.size
 have hK1 := (Kp.refl [] (w.alloc (.cells #[.string ⟨#[]⟩, .string ⟨#[]⟩, .string ⟨#[]⟩, .int .i64 0, .slice none 0 0, .slice none 0 0] 54))).below hB
 have Z1 := Lib.hid (show Zub w1 w.heap.size from ZA.out.kp hK1 (by simp))
 have K1 := Lib.hid (KA.out.trans hK1)
 obtain ⟨vp, vh, rfl, hp, hh⟩ := hu
 obtain ⟨a1, c1, rfl⟩ := hp.form
 obtain ⟨a2, c2, rfl⟩ := hh.form
 clear hB hp hh hK1
 dsimp only at Hu ⊢
 have d0 := Z1.out.cell 0;have d1 := Z1.out.cell 1;have d2 := Z1.out.cell 2;have d3 := Z1.out.cell 3;have d4 := Z1.out.cell 4;have d5 := Z1.out.cell 5;have g0 := Z1.out.frozen 0;have g1 := Z1.out.frozen 1;have g2 := Z1.out.frozen 2;have g3 := Z1.out.frozen 3;have g4 := Z1.out.frozen 4;have g5 := Z1.out.frozen 5
 go_wp2_with fail
 refine bodyPost_ret (results_three rfl _ _ w.heap.size 54 _ (0, 0) _ rfl (blk6 Z1.out _ _ _ _ _ _) Tryz.underlying54 rfl infoUri) rfl ?_
 exact uri_out w.heap.size w w1 u n x _ _ _ _ _ _ _ _ _ _ Hu.out K1.out (Nat.le_refl _) Z1.out
end Ad
end Go.Proofs.YtbcaindpbeaheaaGreatDoor
