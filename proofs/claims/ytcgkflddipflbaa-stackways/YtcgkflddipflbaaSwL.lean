/- What the law StackWays has of Way and Before; the law where the rules or the goal are wrong. -/
/- The law StackWays where the rules and the goal are right, out of the contracts of what it calls. -/
import Derived.Test.YtcgkflddipflbaaSwAsk
import Derived.Test.YtcgkflddipflbaaSwDet
import Derived.Test.YtcgkflddipflbaaSn
import Derived.Test.YtcgkflddipflbaaSbA
namespace Go.Proofs.Ytcgkflddipflbaa
open Go.RowKit
set_option linter.unusedVariables false
set_option linter.unusedSimpArgs false

/-- What the law has made ahead of all. -/
theorem sw_start (w : World) (c1 g1 : Int) (vc vg : Value) : ∃ W, W = (w.alloc (.cells #[.int .i64 c1, vc] 25)).alloc (.cells #[.int .i64 g1, vg] 25) ∧ w.grownBy W none ∧ ∀ V, W.grownBy V none → V.cell? ⟨w.heap.size, 0, none⟩ = some (.int .i64 c1) ∧ V.cell? ⟨w.heap.size, 1, none⟩ = some vc ∧ V.cell? ⟨w.heap.size + 1, 0, none⟩ = some (.int .i64 g1) ∧ V.cell? ⟨w.heap.size + 1, 1, none⟩ = some vg := by
  obtain ⟨q0, q1, q2, q3⟩ := way_cells w c1 g1 vc vg _ rfl
  exact ⟨_, rfl, grown_trans (grown_alloc _ _) (grown_alloc _ _), fun V hV => ⟨hV.cell q0 (by simp), hV.cell q1 (by simp), hV.cell q2 (by simp), hV.cell q3 (by simp)⟩⟩
theorem box4_newW (w : World) (v0 v1 v2 v3 : Value) (t : TypeId) : ∃ W, W = w.alloc (.cells #[v0, v1, v2, v3] t) ∧ w.grownBy W none ∧ ∀ W', W.grownBy W' none → W'.cell? ⟨w.heap.size, 0, none⟩ = some v0 ∧ W'.cell? ⟨w.heap.size, 1, none⟩ = some v1 ∧ W'.cell? ⟨w.heap.size, 2, none⟩ = some v2 ∧ W'.cell? ⟨w.heap.size, 3, none⟩ = some v3 := by
  refine ⟨_, rfl, grown_alloc _ _, fun W' h => ?_⟩
  have hb := heap_alloc_new w (.cells #[v0, v1, v2, v3] t)
  exact ⟨h.cell (by rw [cell_of_row _ _ 0 _ _ (0, 0) hb]; rfl) (by simp), h.cell (by rw [cell_of_row _ _ 1 _ _ (0, 0) hb]; rfl) (by simp), h.cell (by rw [cell_of_row _ _ 2 _ _ (0, 0) hb]; rfl) (by simp), h.cell (by rw [cell_of_row _ _ 3 _ _ (0, 0) hb]; rfl) (by simp)⟩

/-- What Way tells, in words of the config alone: whether there is a way, whether one of six rules at most. -/
def WayV (L : List Psh) (c gl : Cfg) (P NR : Prop) (V : World) (ar : Option Addr) (m : Nat) (can : Bool) (y : Int) : Prop :=
  (can = false ∧ y = 0 ∧ m = 0 ∧ ¬ P ∧ ¬ NR) ∨ (can = false ∧ y = 7 ∧ m = 0 ∧ P ∧ ¬ NR) ∨ (can = true ∧ y = 0 ∧ P ∧ ∃ rs, m = List.length rs ∧ Ints V ar rs ∧ rs.length ≤ 2000 ∧ RunsTo L rs c gl)
def WayQ (L : List Psh) (c gl : Cfg) (P NR : Prop) (no : Int) (w : World) (e : Ending) (w' : World) : Prop :=
  ∃ (ar : Option Addr) (m cr : Nat) (can : Bool) (y : Int), e = .returned (.tuple #[.slice ar m cr, .bool can, .int .i64 y]) ∧ w.grownBy w' none ∧ (no ≠ 0 → can = false ∧ y = no ∧ m = 0) ∧ (no = 0 → WayV L c gl P NR w' ar m can y)
theorem WayV.grown {L : List Psh} {c gl : Cfg} {P NR : Prop} {V V' : World} {ar : Option Addr} {m : Nat} {can : Bool} {y : Int} (h : WayV L c gl P NR V ar m can y) (hg : V.grownBy V' none) : WayV L c gl P NR V' ar m can y := by
  rcases h with h | h | ⟨h1, h2, h3, rs, h4, h5, h6⟩
  · exact .inl h
  · exact .inr (.inl h)
  · exact .inr (.inr ⟨h1, h2, h3, rs, h4, h5.grown hg, h6⟩)
/-- One of Before's automata. -/
structure AutQ (w : World) (g c : Nat) (aR aM : Option Addr) (cR cM : Nat) (R : List (List Int)) (M : List Int) : Prop where
  c0 : w.cell? ⟨g, c * 4, none⟩ = some (.int .i64 3)
  c1 : w.cell? ⟨g, c * 4 + 1, none⟩ = some (.int .i64 0)
  c2 : w.cell? ⟨g, c * 4 + 2, none⟩ = some (.slice aR R.length cR)
  c3 : w.cell? ⟨g, c * 4 + 3, none⟩ = some (.slice aM M.length cM)
  lies : DetAt w ⟨3, 0, R, M⟩ aR aM
theorem AutQ.grown {w w' : World} {g c : Nat} {aR aM : Option Addr} {cR cM : Nat} {R : List (List Int)} {M : List Int} (h : AutQ w g c aR aM cR cM R M) (hg : w.grownBy w' none) : AutQ w' g c aR aM cR cM R M :=
  ⟨hg.cell h.c0 (by simp), hg.cell h.c1 (by simp), hg.cell h.c2 (by simp), hg.cell h.c3 (by simp), h.lies.grown hg⟩
def BefQ (no c1 : Int) (zs : List Int) (P : Prop) (w : World) (e : Ending) (w' : World) : Prop :=
  ∃ g cap, e = .returned (.tuple #[.slice (some ⟨g, 0, none⟩) 3 cap, .int .i64 0]) ∧ w.grownBy w' none ∧ ∀ c, c < 3 → ∃ aR aM cR cM R M, AutQ w' g c aR aM cR cM R M ∧ Good ⟨3, 0, R, M⟩ ∧ (∀ R' M', LeastOf (Dfa.nx ⟨3, 0, R, M⟩) (Dfa.mk1 ⟨3, 0, R, M⟩) R.length 3 0 R' M' → R = R' ∧ M = M') ∧ (no = 0 → (c : Int) = c1 → (accB ⟨3, 0, R, M⟩ zs = true ↔ P))

/-- Eight cells that hold what they hold. -/
abbrev KeepW (P0 W : World) (a0 a1 a2 a3 a4 a5 a6 a7 : Addr) (u0 u1 u2 u3 u4 u5 u6 u7 : Value) : Prop := P0.grownBy W none ∧ W.cell? a0 = some u0 ∧ W.cell? a1 = some u1 ∧ W.cell? a2 = some u2 ∧ W.cell? a3 = some u3 ∧ W.cell? a4 = some u4 ∧ W.cell? a5 = some u5 ∧ W.cell? a6 = some u6 ∧ W.cell? a7 = some u7
theorem KeepW.call {P0 W W' : World} {a0 a1 a2 a3 a4 a5 a6 a7 : Addr} {u0 u1 u2 u3 u4 u5 u6 u7 : Value} (h : KeepW P0 W a0 a1 a2 a3 a4 a5 a6 a7 u0 u1 u2 u3 u4 u5 u6 u7) (hg : W.grownBy W' none) : KeepW P0 W' a0 a1 a2 a3 a4 a5 a6 a7 u0 u1 u2 u3 u4 u5 u6 u7 := by
  obtain ⟨h, h0, h1, h2, h3, h4, h5, h6, h7⟩ := h
  exact ⟨grown_trans h hg, hg.cell h0 (by simp), hg.cell h1 (by simp), hg.cell h2 (by simp), hg.cell h3 (by simp), hg.cell h4 (by simp), hg.cell h5 (by simp), hg.cell h6 (by simp), hg.cell h7 (by simp)⟩
theorem KeepW.drew {P0 W : World} {a0 a1 a2 a3 a4 a5 a6 a7 : Addr} {u0 u1 u2 u3 u4 u5 u6 u7 : Value} (h : KeepW P0 W a0 a1 a2 a3 a4 a5 a6 a7 u0 u1 u2 u3 u4 u5 u6 u7) : KeepW P0 W.drew a0 a1 a2 a3 a4 a5 a6 a7 u0 u1 u2 u3 u4 u5 u6 u7 := h.call (grown_drew (grown_refl _ _))
theorem ints_far {w V : World} {a : Option Addr} {zs : List Int} {k : Nat} (h : Ints w a zs) (hg : w.grownBy V (some k)) (ha : ∀ y, a = some y → y.block ≠ k) : Ints V a zs := by
  rcases h with rfl | ⟨b, off, rfl, hc⟩
  · exact .inl rfl
  · have h1 := ha _ rfl
    simp only at h1
    exact .inr ⟨b, off, rfl, fun j hj => hg.cell (hc j hj) (by simp; omega)⟩

/-- The law's own config behind q rules of the way. -/
def NowAt (W9 : World) (L : List Psh) (gl : Cfg) (rs : List Int) (k20 q : Nat) (W : World) : Prop := ∃ (st : Cfg) (bb : Option Addr) (kk : Nat), W.heap[k20]? = some (.cells #[.int .i64 st.1, .slice bb st.2.length kk] 25 (0, 0)) ∧ (∀ V, W.grownBy V (some k20) → Ints V bb st.2) ∧ st.2.length ≤ kk ∧ st.2.length ≤ 20 + q ∧ RunsTo L (rs.drop q) st gl ∧ W9.grownBy W none
theorem now_start {W9 : World} {L : List Psh} {gl : Cfg} {rs : List Int} {c1 : Int} {zs : List Int} {b : Option Addr} {k : Nat} (hi : Ints W9 b zs) (hk : zs.length ≤ k) (hl : zs.length ≤ 20) (hr : RunsTo L rs (c1, zs) gl) : NowAt W9 L gl rs W9.heap.size 0 (W9.alloc (.cells #[.int .i64 c1, .slice b zs.length k] 25)) :=
  ⟨(c1, zs), b, k, heap_alloc_new _ _, fun V hV => hi.grown (grown_new (grown_alloc _ _) hV (Nat.le_refl _)), hk, by simpa using hl, by simpa using hr, grown_alloc _ _⟩
theorem run_next {L : List Psh} {rs : List Int} {q : Nat} {st gl : Cfg} (h : RunsTo L (rs.drop q) st gl) (hq : q < rs.length) : ∃ rN : Nat, rs.getD q 0 = (rN : Int) ∧ rN < L.length ∧ CanSk (L.getD rN pu0) st ∧ RunsTo L (rs.drop (q + 1)) (behSk (L.getD rN pu0) st) gl := by
  rw [List.drop_eq_getElem_cons hq] at h
  obtain ⟨h1, h2, h3, h4⟩ := h
  refine ⟨rs[q].toNat, ?_, h2, h3, h4⟩
  rw [getD_i _ _ hq]; omega
theorem now_step {W9 wr w8 : World} {L : List Psh} {gl st : Cfg} {rs : List Int} {k20 q kk k8 : Nat} {bb a8 : Option Addr} {r : Psh} (hk : W9.heap.size ≤ k20) (hb : wr.heap[k20]? = some (.cells #[.int .i64 st.1, .slice bb st.2.length kk] 25 (0, 0))) (hg9 : W9.grownBy wr none) (hg : wr.grownBy w8 none) (hi8 : Ints w8 a8 (behSk r st).2) (hn8 : ∀ y, a8 = some y → wr.heap.size ≤ y.block) (hc8 : (behSk r st).2.length ≤ k8) (hp : r.P.length ≤ 2) (hsl : st.2.length ≤ 20 + q) (h0 : 0 < st.2.length) (hrun : RunsTo L (rs.drop (q + 1)) (behSk r st) gl) :
    w8.cell? ⟨k20, 0, none⟩ = some (.int .i64 st.1) ∧ w8.cell? ⟨k20, 1, none⟩ = some (.slice bb st.2.length kk) ∧ w8.frozen? ⟨k20, 0, none⟩ = false ∧ w8.frozen? ⟨k20, 1, none⟩ = false ∧ ∃ V, V = (w8.setCell ⟨k20, 0, none⟩ (.int .i64 (behSk r st).1)).setCell ⟨k20, 1, none⟩ (.slice a8 (behSk r st).2.length k8) ∧ NowAt W9 L gl rs k20 (q + 1) V := by
  have hks : k20 < wr.heap.size := (Array.getElem?_eq_some_iff.1 hb).1
  have h : w8.heap[k20]? = some (.cells #[.int .i64 st.1, .slice bb st.2.length kk] 25 (0, 0)) := (hg.block _ hks (by simp)).trans hb
  have h1 := heap_setCell_same w8 k20 0 _ _ (.int .i64 (behSk r st).1) h
  have h2 := heap_setCell_same _ k20 1 _ _ (.slice a8 (behSk r st).2.length k8) h1
  have gs : w8.grownBy ((w8.setCell ⟨k20, 0, none⟩ (.int .i64 (behSk r st).1)).setCell ⟨k20, 1, none⟩ (.slice a8 (behSk r st).2.length k8)) (some k20) := grown_trans (grown_set _ _ _) (grown_set _ _ _)
  refine ⟨by rw [cell_of_row _ _ 0 _ _ (0, 0) h]; rfl, by rw [cell_of_row _ _ 1 _ _ (0, 0) h]; rfl, frozen_of_row _ _ _ _ _ h, frozen_of_row _ _ _ _ _ h, _, rfl, behSk r st, a8, k8, by simpa using h2, fun V hV => ints_far hi8 (grown_trans gs hV) (fun y hy => by have := hn8 y hy; omega), hc8, ?_, hrun, grown_new (grown_trans hg9 hg) gs hk⟩
  simp only [behSk, List.length_append, List.length_drop]
  omega

set_option maxHeartbeats 6400000 in
set_option maxRecDepth 100000 in
theorem sw_bad (LV : Value) (c1 g1 : Int) (b b' : Option Addr) (n n' k k' : Nat) (no own : Int) (w : World) (ho : own ≠ 0)
    (H1 : Hid (∀ W, w.grownBy W none → Calls Try.prog 4 #[LV, cfgV c1 b n k, cfgV g1 b' n' k'] W (Says (.tuple #[.slice none 0 0, .bool false, .int .i64 no]) W)))
    (H2 : Hid (∀ W, w.grownBy W none → Calls Try.prog 5 #[LV, cfgV g1 b' n' k'] W (Says (.tuple #[.slice none 0 0, .int .i64 own]) W)))
    (H3 : Hid (∀ W, w.grownBy W none → Calls Try.prog 6 #[LV, cfgV g1 b' n' k', cfgV g1 b' n' k'] W (Says (.int .i64 own) W)))
    (H4 : Hid (∀ W, w.grownBy W none → Calls Try.prog 6 #[LV, cfgV c1 b n k, cfgV g1 b' n' k'] W (Says (.int .i64 no) W))) :
    Calls Try.prog 3 #[LV, cfgV c1 b n k, cfgV g1 b' n' k'] w (Says (.bool true) w) := by
  obtain ⟨W1, hW1, g1', bx1⟩ := sw_start w c1 g1 (.slice b n k) (.slice b' n' k')
  have HW1 : Hid (W1 = _) := hW1
  have G1 : Hid (w.grownBy W1 none) := g1'
  have BX : Hid (∀ V, W1.grownBy V none → V.cell? ⟨w.heap.size, 0, none⟩ = some (.int .i64 c1) ∧ V.cell? ⟨w.heap.size, 1, none⟩ = some (.slice b n k) ∧ V.cell? ⟨w.heap.size + 1, 0, none⟩ = some (.int .i64 g1) ∧ V.cell? ⟨w.heap.size + 1, 1, none⟩ = some (.slice b' n' k')) := bx1
  have d1 : (own != 0) = true := by simpa using ho
  have d2 : (own == own) = true := by simp
  have d3 : (no == no) = true := by simp
  obtain ⟨q0, q1, q2, q3⟩ := BX.out W1 (grown_refl _ _)
  rw [HW1.out] at q0 q1 q2 q3
  clear hW1 g1' bx1 ho
  go_enter Try.func3, Try.ntmps3
  go_wp2_with fail
  rw [← HW1.out]
  clear q0 q1 q2 q3
  refine (H1.out W1 G1.out).mono ?_
  rintro e w2 ⟨rfl, hg2⟩
  have G2 : Hid (W1.grownBy w2 none) := hg2
  obtain ⟨q0, q1, q2, q3⟩ := BX.out w2 G2.out
  clear hg2
  go_wp2_with fail
  clear q0 q1 q2 q3
  refine (H2.out w2 (grown_trans G1.out G2.out)).mono ?_
  rintro e w3 ⟨rfl, hg3⟩
  have G3 : Hid (W1.grownBy w3 none) := grown_trans G2.out hg3
  obtain ⟨q0, q1, q2, q3⟩ := BX.out w3 G3.out
  clear hg3
  go_wp2_with fail
  clear q0 q1 q2 q3
  refine (H3.out w3 (grown_trans G1.out G3.out)).mono ?_
  rintro e w4 ⟨rfl, hg4⟩
  have G4 : Hid (W1.grownBy w4 none) := grown_trans G3.out hg4
  obtain ⟨q0, q1, q2, q3⟩ := BX.out w4 G4.out
  clear hg4
  go_wp2_with fail
  clear q0 q1 q2 q3
  refine (H4.out w4 (grown_trans G1.out G4.out)).mono ?_
  rintro e w5 ⟨rfl, hg5⟩
  have G5 : Hid (w.grownBy w5 none) := grown_trans G1.out (grown_trans G4.out hg5)
  clear hg5
  go_wp2_with fail
  go_ret
  exact ⟨rfl, G5.out⟩

end Go.Proofs.Ytcgkflddipflbaa

namespace Go.Proofs.Ytcgkflddipflbaa
open Go.RowKit
set_option linter.unusedVariables false
set_option linter.unusedSimpArgs false

set_option maxHeartbeats 6400000 in
set_option maxRecDepth 100000 in
theorem sw_main (L : List Psh) (c1 g1 : Int) (zs gz : List Int) (a b b' : Option Addr) (d k k' : Nat) (no : Int) (P NR : Prop) (w : World) (hno : no = 0 → (0 ≤ c1 ∧ c1 < 3) ∧ zs.length ≤ 20 ∧ (∀ i, i < zs.length → 0 ≤ zs.getD i 0 ∧ zs.getD i 0 < 3) ∧ zs.length ≤ k)
    (HI : Hid (∀ W, w.grownBy W none → Ints W b zs ∧ Ints W b' gz ∧ PushAt W a L)) (HGS : Hid (GoodSk L)) (hgl : Hid (gz.length ≤ 20))
    (H5 : Hid (no = 0 → ∀ W, w.grownBy W none → Calls Try.prog 11 #[.slice a L.length d, cfgV c1 b zs.length k, cfgV g1 b' gz.length k', .int .i64 6] W (fun e w' => ∃ t, e = .returned (.bool t) ∧ (t = true → NR) ∧ W.grownBy w' none)))
    (H1 : Hid (∀ W, w.grownBy W none → Calls Try.prog 4 #[.slice a L.length d, cfgV c1 b zs.length k, cfgV g1 b' gz.length k'] W (WayQ L (c1, zs) (g1, gz) P NR no W)))
    (H2 : Hid (∀ W, w.grownBy W none → Calls Try.prog 5 #[.slice a L.length d, cfgV g1 b' gz.length k'] W (BefQ no c1 zs P W)))
    (H3 : Hid (∀ W, w.grownBy W none → Calls Try.prog 6 #[.slice a L.length d, cfgV g1 b' gz.length k', cfgV g1 b' gz.length k'] W (Says (.int .i64 0) W)))
    (H4 : Hid (∀ W, w.grownBy W none → Calls Try.prog 6 #[.slice a L.length d, cfgV c1 b zs.length k, cfgV g1 b' gz.length k'] W (Says (.int .i64 no) W))) :
    Calls Try.prog 3 #[.slice a L.length d, cfgV c1 b zs.length k, cfgV g1 b' gz.length k'] w (Says (.bool true) w) := by
  obtain ⟨W1, hW1, g1', bx1⟩ := sw_start w c1 g1 (.slice b zs.length k) (.slice b' gz.length k')
  have HW1 : Hid (W1 = _) := hW1
  have G1 : Hid (w.grownBy W1 none) := g1'
  have BX : Hid (∀ V, W1.grownBy V none → V.cell? ⟨w.heap.size, 0, none⟩ = some (.int .i64 c1) ∧ V.cell? ⟨w.heap.size, 1, none⟩ = some (.slice b zs.length k) ∧ V.cell? ⟨w.heap.size + 1, 0, none⟩ = some (.int .i64 g1) ∧ V.cell? ⟨w.heap.size + 1, 1, none⟩ = some (.slice b' gz.length k')) := bx1
  have d3 : (no == no) = true := by simp
  obtain ⟨q0, q1, q2, q3⟩ := BX.out W1 (grown_refl _ _)
  rw [HW1.out] at q0 q1 q2 q3
  have HNO : Hid (no = 0 → (0 ≤ c1 ∧ c1 < 3) ∧ zs.length ≤ 20 ∧ (∀ i, i < zs.length → 0 ≤ zs.getD i 0 ∧ zs.getD i 0 < 3) ∧ zs.length ≤ k) := hno
  clear hW1 g1' bx1 hno
  go_enter Try.func3, Try.ntmps3
  go_wp2_with fail
  rw [← HW1.out]
  clear q0 q1 q2 q3 HW1
  refine (H1.out W1 G1.out).mono ?_
  rintro e w2 ⟨ar, m, cr, can, y, rfl, hg2, hN, hV⟩
  have G2 : Hid (W1.grownBy w2 none) := hg2
  have HWN : Hid (no ≠ 0 → can = false ∧ y = no ∧ m = 0) := hN
  have HWV : Hid (∀ V, w2.grownBy V none → no = 0 → WayV L (c1, zs) (g1, gz) P NR V ar m can y) := fun V hV' h0 => (hV h0).grown hV'
  obtain ⟨q0, q1, q2, q3⟩ := BX.out w2 G2.out
  clear hg2 hN hV
  go_wp2_with fail
  clear q0 q1 q2 q3
  refine (H2.out w2 (grown_trans G1.out G2.out)).mono ?_
  rintro e w3 ⟨g, cap, rfl, hg3, hA⟩
  have G3 : Hid (W1.grownBy w3 none) := grown_trans G2.out hg3
  have G23 : Hid (w2.grownBy w3 none) := hg3
  have HA : Hid (∀ c, c < 3 → ∃ aR aM cR cM R M, AutQ w3 g c aR aM cR cM R M ∧ Good ⟨3, 0, R, M⟩ ∧ (∀ R' M', LeastOf (Dfa.nx ⟨3, 0, R, M⟩) (Dfa.mk1 ⟨3, 0, R, M⟩) R.length 3 0 R' M' → R = R' ∧ M = M') ∧ (no = 0 → (c : Int) = c1 → (accB ⟨3, 0, R, M⟩ zs = true ↔ P))) := hA
  obtain ⟨q0, q1, q2, q3⟩ := BX.out w3 G3.out
  clear hg3 hA
  go_wp2_with fail
  clear q0 q1 q2 q3
  refine (H3.out w3 (grown_trans G1.out G3.out)).mono ?_
  rintro e w4 ⟨rfl, hg4⟩
  have G34 : Hid (w3.grownBy w4 none) := hg4
  have G4 : Hid (W1.grownBy w4 none) := grown_trans G3.out hg4
  obtain ⟨q0, q1, q2, q3⟩ := BX.out w4 G4.out
  clear hg4
  go_wp2_with fail
  clear q0 q1 q2 q3
  refine (H4.out w4 (grown_trans G1.out G4.out)).mono ?_
  rintro e w5 ⟨rfl, hg5⟩
  have G35 : Hid (w3.grownBy w5 none) := grown_trans G34.out hg5
  clear hg5
  go_wp2_with fail
  go_loopw [14] (fun v wr => ∃ q : Nat, q ≤ 3 ∧ v = .int .i64 q ∧ w3.grownBy wr none) (fun v _ => 3 - (intOf v).toNat)
  case atStart => exact ⟨0, by omega, rfl, G35.out⟩
  case round =>
    obtain ⟨q, hq, rfl, hgw⟩ := hrel
    have GR : Hid (w3.grownBy wr none) := hgw
    clear hgw
    by_cases hlt : q < 3
    · have hq1 : (q : Int) < 3 := by omega
      obtain ⟨aR, aM, cR, cM, R, M, hQ, hGd, hSm, _⟩ := HA.out q hlt
      have HQ : Hid (∀ V, w3.grownBy V none → AutQ V g q aR aM cR cM R M) := fun V hV => hQ.grown hV
      have HGd : Hid (Good ⟨3, 0, R, M⟩) := hGd
      have HSm : Hid (∀ R' M', LeastOf (Dfa.nx ⟨3, 0, R, M⟩) (Dfa.mk1 ⟨3, 0, R, M⟩) R.length 3 0 R' M' → R = R' ∧ M = M') := hSm
      clear hQ hGd hSm
      obtain ⟨t0, t1, t2, t3, _⟩ := HQ.out wr GR.out
      go_wp2_with fail
      clear t0 t1 t2 t3
      refine (checkR_any 3 0 R M aR aM cR cM wr (HQ.out wr GR.out).lies).mono ?_
      rintro e w6 ⟨rfl, hg6⟩
      rw [checkF_good HGd.out]
      have G6 : Hid (w3.grownBy w6 none) := grown_trans GR.out hg6
      obtain ⟨t0, t1, t2, t3, _⟩ := HQ.out w6 G6.out
      clear hg6
      go_wp2_with fail
      clear t0 t1 t2 t3
      refine (leastR_any 3 0 R M aR aM cR cM w6 (HQ.out w6 G6.out).lies HGd.out).mono ?_
      rintro e w7 ⟨aR', cR', aM', cM', rs, M', rfl, hL', hn', hm', hr', ho', hg7⟩
      obtain ⟨rfl1, rfl2⟩ := HSm.out _ _ hL'
      have hD' : DetAt w7 ⟨3, 0, rs.map (·.2), M'⟩ aR' aM' := det_of_owns (L := 3) (S := 0) (its := []) (by rw [List.append_nil]; exact ho') (fun x hx => by have h3 := hr' x hx; unfold maxLen; rw [h3]; simp) (by have := HGd.out.n3; simp only at this; unfold maxLen; omega) (by have := HGd.out.n3; simp only at this; unfold maxLen; omega)
      rw [← rfl1, ← rfl2] at hD'
      have e7 : rs.length = R.length := by rw [rfl1, List.length_map]
      rw [e7, ← rfl2]
      rw [show (((3 : Int).toNat : Nat) : Int) = 3 from rfl]
      have HD' : Hid (∀ V, w7.grownBy V none → DetAt V ⟨3, 0, R, M⟩ aR' aM') := fun V hV => hD'.grown hV
      have G7 : Hid (w3.grownBy w7 none) := grown_trans G6.out hg7
      clear hL' hn' hm' hr' ho' hg7 hD' e7 rfl1 rfl2
      go_wp2_with fail
      obtain ⟨W8, hW8, g8, bx8⟩ := box4_newW w7 (.int .i64 3) (.int .i64 0) (.slice aR' R.length cR') (.slice aM' M.length cM') 36
      rw [← hW8]
      have G8 : Hid (w3.grownBy W8 none) := grown_trans G7.out g8
      have HSa : Hid (∀ W, W8.grownBy W none → Calls Try.prog 9 #[.agg #[.int .i64 3, .int .i64 0, .slice aR R.length cR, .slice aM M.length cM], .agg #[.int .i64 3, .int .i64 0, .slice aR' R.length cR', .slice aM' M.length cM']] W (TellsB (SameD ⟨3, 0, R, M⟩ ⟨3, 0, R, M⟩) W)) := fun W hW => same_any 3 0 3 0 R R M M aR aM aR' aM' cR cM cR' cM' W (HQ.out W (grown_trans G8.out hW)).lies (HD'.out W (grown_trans g8 hW))
      have K9 : Hid (KeepW W8 W8 ⟨g, q * 4, none⟩ ⟨g, q * 4 + 1, none⟩ ⟨g, q * 4 + 2, none⟩ ⟨g, q * 4 + 3, none⟩ ⟨w7.heap.size, 0, none⟩ ⟨w7.heap.size, 1, none⟩ ⟨w7.heap.size, 2, none⟩ ⟨w7.heap.size, 3, none⟩ (.int .i64 3) (.int .i64 0) (.slice aR R.length cR) (.slice aM M.length cM) (.int .i64 3) (.int .i64 0) (.slice aR' R.length cR') (.slice aM' M.length cM')) := by
        obtain ⟨t0, t1, t2, t3, _⟩ := HQ.out W8 G8.out
        obtain ⟨x0, x1, x2, x3⟩ := bx8 W8 (grown_refl _ _)
        exact ⟨grown_refl _ _, t0, t1, t2, t3, x0, x1, x2, x3⟩
      clear g8 bx8 hW8 HQ HD' HGd HSm
      go_region_held3 (fun W => KeepW W8 W ⟨g, q * 4, none⟩ ⟨g, q * 4 + 1, none⟩ ⟨g, q * 4 + 2, none⟩ ⟨g, q * 4 + 3, none⟩ ⟨w7.heap.size, 0, none⟩ ⟨w7.heap.size, 1, none⟩ ⟨w7.heap.size, 2, none⟩ ⟨w7.heap.size, 3, none⟩ (.int .i64 3) (.int .i64 0) (.slice aR R.length cR) (.slice aM M.length cM) (.int .i64 3) (.int .i64 0) (.slice aR' R.length cR') (.slice aM' M.length cM'))
        (first | (with_reducible exact KeepW.drew K9.out) | (with_reducible exact KeepW.call (by assumption) hgA) | (with_reducible exact KeepW.drew (by assumption)) | assumption)
        (first | (go_at_call 9; refine (HSa.out _ (show KeepW W8 _ _ _ _ _ _ _ _ _ _ _ _ _ _ _ _ _ from by assumption).1).mono ?_; rintro E2 wA ⟨tt, rfl, htt, hgA⟩))
      all_goals
        rename_i hHeld
        have GA : Hid (w3.grownBy wA none) := grown_trans G8.out hHeld.1
        obtain rfl : tt = true := htt.2 rfl
        clear hHeld hgA K9 HSa htt
        go_wp2_with fail
        go_roundw
        case rel => exact ⟨q + 1, by omega, by go_num, GA.out⟩
        case measure => simp [intOf]; omega
    · have hq1 : ¬ (q : Int) < 3 := by omega
      by_cases hno : no = 0
      case neg =>
        have d1 : (no != 0) = true := by simpa using hno
        obtain ⟨rfl, rfl, rfl⟩ := HWN.out hno
        have GF : Hid (w.grownBy wr none) := grown_trans G1.out (grown_trans G3.out GR.out)
        clear hno HNO
        go_wp2_with fail
        go_ret
        exact ⟨rfl, GF.out⟩
      subst hno
      obtain ⟨⟨hc0, hc3⟩, hzl, hzo, hzk⟩ := HNO.out rfl
      obtain ⟨cN, rfl⟩ : ∃ cN : Nat, c1 = (cN : Int) := ⟨c1.toNat, by omega⟩
      have HZ : Hid (zs.length ≤ 20 ∧ zs.length ≤ k) := ⟨hzl, hzk⟩
      obtain ⟨aR, aM, cR, cM, R, M, hQ, hGd, _, hAc⟩ := HA.out cN (by omega)
      have HQ : Hid (∀ V, w3.grownBy V none → AutQ V g cN aR aM cR cM R M) := fun V hV => hQ.grown hV
      obtain ⟨is, his⟩ : ∃ is, accB ⟨3, 0, R, M⟩ zs = is := ⟨_, rfl⟩
      have HAc : Hid (is = true ↔ P) := his ▸ hAc (by trivial) rfl
      have HCA : Hid (∀ W, wr.grownBy W none → Calls Try.prog 10 #[.agg #[.int .i64 3, .int .i64 0, .slice aR R.length cR, .slice aM M.length cM], .slice b zs.length k] W (Says (.bool is) W)) := fun W hW => by
        have hW3 := grown_trans GR.out hW
        have := acceptsR_any 3 0 R M aR aM b cR cM k zs W (HQ.out W hW3).lies hGd (HI.out W (grown_trans G1.out (grown_trans G3.out hW3))).1 (by unfold maxLen; omega) hzo
        rw [his] at this
        exact this
      have K9 : Hid (KeepW wr wr ⟨g, cN * 4, none⟩ ⟨g, cN * 4 + 1, none⟩ ⟨g, cN * 4 + 2, none⟩ ⟨g, cN * 4 + 3, none⟩ ⟨w.heap.size, 0, none⟩ ⟨w.heap.size, 1, none⟩ ⟨w.heap.size, 0, none⟩ ⟨w.heap.size, 1, none⟩ (.int .i64 3) (.int .i64 0) (.slice aR R.length cR) (.slice aM M.length cM) (.int .i64 (cN : Int)) (.slice b zs.length k) (.int .i64 (cN : Int)) (.slice b zs.length k)) := by
        obtain ⟨t0, t1, t2, t3, _⟩ := HQ.out wr GR.out
        obtain ⟨q0, q1, q2, q3⟩ := BX.out wr (grown_trans G3.out GR.out)
        exact ⟨grown_refl _ _, t0, t1, t2, t3, q0, q1, q0, q1⟩
      have hcl : (cN : Int) < 3 := hc3
      clear hq1 hc0 hc3 hzl hzk hzo hQ hGd hAc his HQ HA
      go_wp2_with fail
      go_region_held3 (fun W => KeepW wr W ⟨g, cN * 4, none⟩ ⟨g, cN * 4 + 1, none⟩ ⟨g, cN * 4 + 2, none⟩ ⟨g, cN * 4 + 3, none⟩ ⟨w.heap.size, 0, none⟩ ⟨w.heap.size, 1, none⟩ ⟨w.heap.size, 0, none⟩ ⟨w.heap.size, 1, none⟩ (.int .i64 3) (.int .i64 0) (.slice aR R.length cR) (.slice aM M.length cM) (.int .i64 (cN : Int)) (.slice b zs.length k) (.int .i64 (cN : Int)) (.slice b zs.length k))
        (first | (with_reducible exact KeepW.drew K9.out) | (with_reducible exact KeepW.call (by assumption) hgA) | (with_reducible exact KeepW.drew (by assumption)) | assumption)
        (first | (go_at_call 10; refine (HCA.out _ (show KeepW wr _ _ _ _ _ _ _ _ _ _ _ _ _ _ _ _ _ from by assumption).1).mono ?_; rintro E2 wA ⟨rfl, hgA⟩))
      all_goals
        rename_i hHeld
        have GA : Hid (w3.grownBy wA none) := grown_trans GR.out hHeld.1
        clear hHeld hgA K9 HCA
        obtain ⟨q0, q1, q2, q3⟩ := BX.out wA (grown_trans G3.out GA.out)
        go_wp2_with fail
        clear q0 q1 q2 q3
        refine (H5.out trivial wA (grown_trans G1.out (grown_trans G3.out GA.out))).mono ?_
        rintro e w6 ⟨nr, rfl, hnr, hg6⟩
        have G6 : Hid (w3.grownBy w6 none) := grown_trans GA.out hg6
        have HNr : Hid (nr = true → NR) := hnr
        clear hg6 hnr
        rcases HWV.out w6 (grown_trans G23.out G6.out) trivial with ⟨rfl, rfl, rfl, hp, hn⟩ | ⟨rfl, rfl, rfl, hp, hn⟩ | ⟨rfl, rfl, hp, rs, rfl, hI, hl, hrun⟩
        · obtain rfl : is = false := by cases is; rfl; exact absurd (HAc.out.1 rfl) hp
          obtain rfl : nr = false := by cases nr; rfl; exact absurd (HNr.out rfl) hn
          have GF : Hid (w.grownBy w6 none) := grown_trans G1.out (grown_trans G3.out G6.out)
          clear hp hn
          go_wp2_with fail
          go_ret
          exact ⟨rfl, GF.out⟩
        · obtain rfl : is = true := HAc.out.2 hp
          obtain rfl : nr = false := by cases nr; rfl; exact absurd (HNr.out rfl) hn
          have GF : Hid (w.grownBy w6 none) := grown_trans G1.out (grown_trans G3.out G6.out)
          clear hp hn
          go_wp2_with fail
          go_ret
          exact ⟨rfl, GF.out⟩
        · obtain rfl : is = true := HAc.out.2 hp
          have hl2 : ¬ (2000 : Int) < (rs.length : Int) := by omega
          have HRun : Hid (RunsTo L rs ((cN : Int), zs) (g1, gz)) := hrun
          have HRI : Hid (∀ V, w6.grownBy V none → Ints V ar rs) := fun V hV => hI.grown hV
          have HRl : Hid (rs.length ≤ 2000) := hl
          clear hp hI hl hrun
          obtain ⟨q0, q1, q2, q3⟩ := BX.out w6 (grown_trans G3.out G6.out)
          have N0 := now_start (L := L) (gl := (g1, gz)) (rs := rs) (HI.out w6 (grown_trans G1.out (grown_trans G3.out G6.out))).1 HZ.out.2 HZ.out.1 HRun.out
          have HN0 : Hid (NowAt w6 L (g1, gz) rs w6.heap.size 0 (w6.alloc (.cells #[.int .i64 (cN : Int), .slice b zs.length k] 25))) := N0
          obtain ⟨k20, hk20⟩ : ∃ k20, w6.heap.size = k20 := ⟨_, rfl⟩
          have HK : Hid (w6.heap.size = k20) := hk20
          clear N0
          cases nr
          all_goals
            go_wp2_with fail
            try rw [HK.out]
            clear q0 q1 q2 q3 hk20
            go_loopw [21] (fun v wr => ∃ q : Nat, q ≤ rs.length ∧ v = .int .i64 q ∧ NowAt w6 L (g1, gz) rs k20 q wr) (fun v _ => rs.length - (intOf v).toNat)
            case atStart => exact ⟨0, by omega, rfl, HK.out ▸ HN0.out⟩
            case round =>
              clear HN0
              obtain ⟨q, hq, rfl, st, bb, kk, hb, hBI, hsk, hsl, hrn, hg9⟩ := hrel
              have GR9 : Hid (w6.grownBy wr none) := hg9
              have HB : Hid (wr.heap[k20]? = some (.cells #[.int .i64 st.1, .slice bb st.2.length kk] 25 (0, 0))) := hb
              have HBI : Hid (∀ V, wr.grownBy V (some k20) → Ints V bb st.2) := hBI
              have HS : Hid (st.2.length ≤ kk ∧ st.2.length ≤ 20 + q) := ⟨hsk, hsl⟩
              have c0 : wr.cell? ⟨k20, 0, none⟩ = some (.int .i64 st.1) := by rw [cell_of_row _ _ 0 _ _ (0, 0) hb]; rfl
              have c1 : wr.cell? ⟨k20, 1, none⟩ = some (.slice bb st.2.length kk) := by rw [cell_of_row _ _ 1 _ _ (0, 0) hb]; rfl
              have Gw : Hid (w.grownBy wr none) := grown_trans G1.out (grown_trans G3.out (grown_trans G6.out GR9.out))
              by_cases hlt : q < rs.length
              · have hq1 : (q : Int) < (rs.length : Int) := by omega
                obtain ⟨rN, hrN, hrL, hcan, hnx⟩ := run_next hrn hlt
                obtain ⟨bw, ow, rfl, hcw⟩ := (HRI.out wr GR9.out).at hlt
                have z0 := hcw q hlt
                rw [hrN] at z0
                obtain ⟨bl, ol, rfl, hpp⟩ := (HI.out wr Gw.out).2.2.at hrL
                obtain ⟨p0, p1, p2, ap, cp, p3, hpI, hpm⟩ := hpp rN hrL
                obtain ⟨r, hr⟩ : ∃ r, L.getD rN pu0 = r := ⟨_, rfl⟩
                have hput := HGS.out.put rN hrL
                rw [hr] at p0 p1 p2 p3 hpI hpm hcan hnx hput
                have HCn : Hid (CanSk r st) := hcan
                have HNx : Hid (RunsTo L (rs.drop (q + 1)) (behSk r st) (g1, gz)) := hnx
                have HPt : Hid (r.P.length ≤ 2) := hput
                have f1 : ¬ (rN : Int) < 0 := by omega
                have f2 : (rN : Int) < (L.length : Int) := by omega
                have f3 : ¬ (L.length : Int) ≤ (rN : Int) := by omega
                have HCan : Hid (∀ W, wr.grownBy W none → Calls Try.prog 12 #[pshV r.F r.T r.O ap r.P.length cp, cfgV st.1 bb st.2.length kk] W (TellsB (CanSk r st) W)) := fun W hW => canSk_any r st ap bb cp kk W (HBI.out W (grown_some hW)) (by have := HS.out.2; have := HRl.out; unfold maxLen; omega)
                have HBeh : Hid (∀ W, wr.grownBy W none → Calls Try.prog 13 #[pshV r.F r.T r.O ap r.P.length cp, cfgV st.1 bb st.2.length kk] W (BehPost r st W)) := fun W hW => behSk_any r st ap bb cp kk W (hpI.grown hW) (HBI.out W (grown_some hW)) (by have := HPt.out; omega) (by have := HS.out.2; have := HRl.out; omega) HCn.out.2.1 HS.out.1
                clear hb hBI hsk hsl hrn hg9 hcw hpp hpI hpm hr hcan hnx hput hrN
                have K9 : Hid (KeepW wr wr ⟨bl, ol + rN * 4, none⟩ ⟨bl, ol + rN * 4 + 1, none⟩ ⟨bl, ol + rN * 4 + 2, none⟩ ⟨bl, ol + rN * 4 + 3, none⟩ ⟨bw, ow + q, none⟩ ⟨k20, 0, none⟩ ⟨k20, 1, none⟩ ⟨k20, 1, none⟩ (.int .i64 r.F) (.int .i64 r.T) (.int .i64 r.O) (.slice ap r.P.length cp) (.int .i64 (rN : Int)) (.int .i64 st.1) (.slice bb st.2.length kk) (.slice bb st.2.length kk)) := ⟨grown_refl _ _, p0, p1, p2, p3, z0, c0, c1, c1⟩
                go_wp2_with fail
                clear p0 p1 p2 p3 z0 c0 c1
                go_region_held3 (fun W => KeepW wr W ⟨bl, ol + rN * 4, none⟩ ⟨bl, ol + rN * 4 + 1, none⟩ ⟨bl, ol + rN * 4 + 2, none⟩ ⟨bl, ol + rN * 4 + 3, none⟩ ⟨bw, ow + q, none⟩ ⟨k20, 0, none⟩ ⟨k20, 1, none⟩ ⟨k20, 1, none⟩ (.int .i64 r.F) (.int .i64 r.T) (.int .i64 r.O) (.slice ap r.P.length cp) (.int .i64 (rN : Int)) (.int .i64 st.1) (.slice bb st.2.length kk) (.slice bb st.2.length kk))
                  (first | (with_reducible exact KeepW.drew K9.out) | (with_reducible exact KeepW.call (by assumption) hgA) | (with_reducible exact KeepW.drew (by assumption)) | assumption)
                  (first | (go_at_call 12; refine (HCan.out _ (show KeepW wr _ _ _ _ _ _ _ _ _ _ _ _ _ _ _ _ _ from by assumption).1).mono ?_; rintro E2 wA ⟨tt, rfl, htt, hgA⟩))
                all_goals
                  rename_i hHeld
                  obtain rfl : tt = true := htt.2 HCn.out
                  have GA : Hid (wr.grownBy wA none) := hHeld.1
                  obtain ⟨_, p0, p1, p2, p3, z0, c0, c1, _⟩ := hHeld
                  clear hgA K9 HCan htt
                  go_wp2_with fail
                  have HST : Hid (∀ a8 k8 w8, wA.grownBy w8 none → Ints w8 a8 (behSk r st).2 → (∀ y, a8 = some y → wA.heap.size ≤ y.block) → (behSk r st).2.length ≤ k8 → _) := fun a8 k8 w8 hg hi hn hc => now_step (W9 := w6) (L := L) (gl := (g1, gz)) (rs := rs) (q := q) (a8 := a8) (k8 := k8) (Nat.le_of_eq HK.out) HB.out GR9.out (grown_trans GA.out hg) hi (fun y hy => Nat.le_trans GA.out.size (hn y hy)) hc HPt.out HS.out.2 HCn.out.2.1 HNx.out
                  go_region_with (go_at_call 13; refine (HBeh.out _ (grown_trans GA.out (by first | exact grown_refl _ _ | exact grown_drew (grown_refl _ _) | exact grown_drewN (grown_refl _ _) _))).mono ?_; rintro E w8 ⟨a8, k8, rfl, hi8, hg8, hn8, hc8⟩; have hst := HST.out a8 k8 w8 (grown_trans (by first | exact grown_refl _ _ | exact grown_drew (grown_refl _ _) | exact grown_drewN (grown_refl _ _) _) hg8) hi8 hn8 hc8; obtain ⟨xr0, xr1, fr0, fr1, V, hV, hN⟩ := hst; have HV : Hid (V = _) := hV; have HN : Hid (NowAt w6 L (g1, gz) rs k20 (q + 1) V) := hN; clear hV hN hi8 hg8 hn8 hc8)
                  all_goals
                    rw [← HV.out]
                    go_wp2_with fail
                    go_roundw
                    case rel => exact ⟨q + 1, by omega, by go_num, HN.out⟩
                    case measure => simp [intOf]; omega
              · have hq1 : ¬ (q : Int) < (rs.length : Int) := by omega
                have hd : rs.drop q = [] := List.drop_eq_nil_of_le (by omega)
                rw [hd] at hrn
                have he : st = (g1, gz) := hrn
                obtain ⟨q0, q1, q2, q3⟩ := BX.out wr (grown_trans G3.out (grown_trans G6.out GR9.out))
                have HSm : Hid (Calls Try.prog 14 #[cfgV st.1 bb st.2.length kk, cfgV g1 b' gz.length k'] wr (TellsB (SameSk st (g1, gz)) wr)) := sameSk_any st (g1, gz) bb b' kk k' wr (HBI.out wr (grown_some (grown_refl _ _))) (HI.out wr Gw.out).2.1 (by have := HS.out.2; have := HRl.out; unfold maxLen; omega) (by have := hgl.out; unfold maxLen; simp only; omega)
                have HE : Hid (SameSk st (g1, gz)) := (show st = (g1, gz) from he)
                clear hb hBI hsk hsl hrn hg9 hd he
                go_wp2_with fail
                refine HSm.out.mono ?_
                rintro e w9 ⟨tt, rfl, htt, hg9⟩
                obtain rfl : tt = true := htt.2 HE.out
                have GF : Hid (w.grownBy w9 none) := grown_trans Gw.out hg9
                go_wp2_with fail
                go_ret
                exact ⟨rfl, GF.out⟩

end Go.Proofs.Ytcgkflddipflbaa
