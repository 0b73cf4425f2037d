/- What the reference's Near has come to: configs, each with how many rules led to it. -/
/- The reference's Near: what it says is so. -/
import Derived.Test.YtcgkflddipflbaaSkBs
import Derived.Test.YtcgkflddipflbaaSgW
import Derived.Test.YtcgkflddipflbaaUAu
import Derived.Test.YtcgkflddipflbaaSkRef
namespace Go.Proofs.Ytcgkflddipflbaa
open Go.RowKit
set_option linter.unusedVariables false

/-- An element is put behind a row of such, whatever its cells. -/
theorem OwnsG.pushN (T E : TypeId) (z : Value) (sz bytes : Nat) (hT : Try.prog.underlying T = some (.slice E)) (hI : (Try.prog.info? E).map (fun i => (i.zero, i.size, i.bytes)) = some (some z, sz, bytes)) (hzs : z.cells.size = sz) (h0 : 0 < sz) (hbt : bytes ≤ 1000) (ys : List Value) (hys : ys.length = sz) (h1 : ∀ u, u ∈ ys → u.oneCell' = true)
    {B : Nat} {w : World} {r : List ItemG} {v : Value} {n : Nat} {xs : List Value} (h : OwnsG B w (⟨E, sz, v, n, xs⟩ :: r)) (hB : B ≤ w.heap.size) (hn : n ≤ 1000000) :
    ∃ g cap w', (AppS #[T, T] T #[v, .slice (some ⟨w.heap.size, 0, none⟩) 1 1]).run Try.prog (w.alloc (.cells ys.toArray E)) = .ok (.slice (some ⟨g, 0, none⟩) (n + 1) cap) w' ∧ OwnsG B w' (⟨E, sz, .slice (some ⟨g, 0, none⟩) (n + 1) cap, n + 1, xs ++ ys⟩ :: r) ∧ Keeps B w w' ∧ (w.alloc (.cells ys.toArray E)).grownBy w' v.ownBlock ∧ (v.ownBlock = some g ∨ w.heap.size ≤ g) := by
  obtain ⟨i0, hio, hz0, hz1, hz2⟩ := info_parts hI
  have h' := h.kept (grown_alloc w (.cells ys.toArray E))
  have hb := heap_alloc_new w (.cells ys.toArray E)
  have hnb : (n + 1) * bytes ≤ 1000001 * 1000 := Nat.mul_le_mul (by omega) hbt
  obtain ⟨g, cap, w5, hrun, ho5, hg5, hat5, hlt5⟩ := run_append_lies (P := Try.prog) (w.alloc (.cells ys.toArray E)) T T B E i0 z sz bytes hT hio hz0 hz1 hz2 hzs h0 v n xs h'.head.1 ⟨w.heap.size, 0, none⟩ 1 1 ys (by omega) (fun j u hu => by
    rw [addr_add, cell_of_row _ _ j _ _ (0, 0) hb]
    simpa using hu) h1 (by omega) (by unfold maxLen; omega) (by omega) (by simp; omega) _ rfl
  refine ⟨g, cap, w5, hrun, h'.turn ⟨ho5, _, _, rfl⟩ hg5 ?_, fun w0 hB0 h0 => h'.frame hB0 (grown_trans h0 (grown_alloc _ _)) hg5, hg5, ?_⟩
  · rcases hat5 with h1 | h1
    · exact .inl (by simp only; rw [h1]; rfl)
    · exact .inr ⟨g, rfl, by rw [h1]; exact Nat.le_refl _⟩
  · rcases hat5 with h1 | h1
    · exact .inl h1
    · refine .inr ?_
      rw [h1]
      simp

theorem Try.infoCfgN : (Try.prog.info? 25).map (fun i => (i.zero, i.size, i.bytes)) = some (some (.agg #[.int .i64 0, .slice none 0 0]), 2, 32) := by kernel_rfl
theorem Try.infoIntN : (Try.prog.info? 3).map (fun i => (i.zero, i.size, i.bytes)) = some (some (.int .i64 0), 1, 8) := by kernel_rfl
/-- A config, and where its stack lies. -/
structure EsI where
  c : Cfg
  a : Option Addr
  k : Nat
def es0 : EsI := ⟨(0, []), none, 0⟩
def cellN (e : EsI) : List Value := [.int .i64 e.c.1, .slice e.a e.c.2.length e.k]
/-- A config lies there, apart from both rows. -/
def NrC (W : World) (v9 v10 : Value) (e : EsI) : Prop := Ints W e.a e.c.2 ∧ e.c.2.length ≤ e.k ∧ e.c.2.length ≤ 40 ∧ (e.c.2 ≠ [] → ∀ y, e.a = some y → v9.ownBlock ≠ some y.block ∧ v10.ownBlock ≠ some y.block)
theorem ints_lt {W : World} {a : Option Addr} {zs : List Int} (h : Ints W a zs) (h0 : zs ≠ []) {y : Addr} (hy : a = some y) : y.block < W.heap.size := by
  have hl : 0 < zs.length := List.length_pos_iff.2 h0
  obtain ⟨b, off, e, hc⟩ := h.at hl
  subst hy
  cases e
  have h2 := hc 0 hl
  unfold World.cell? at h2
  rcases Nat.lt_or_ge b W.heap.size with h3 | h3
  · exact h3
  · rw [Array.getElem?_eq_none (by simpa using h3)] at h2; cases h2
theorem ints_own {W W' : World} {a : Option Addr} {zs : List Int} {row : Option Nat} (h : Ints W a zs) (hn : zs ≠ [] → ∀ y, a = some y → row ≠ some y.block) (hg : W.grownBy W' row) : Ints W' a zs := by
  by_cases h0 : zs = []
  · exact .inl h0
  · rcases h with h1 | ⟨b, off, rfl, hc⟩
    · exact .inl h1
    · exact .inr ⟨b, off, rfl, fun i hi => hg.cell (hc i hi) (fun e => hn h0 _ rfl e.symm)⟩
theorem NrC.kept {W W' : World} {v9 v10 : Value} {e : EsI} (h : NrC W v9 v10 e) (hg : W.grownBy W' none) : NrC W' v9 v10 e := ⟨h.1.grown hg, h.2⟩
/-- The row of configs has turned. -/
theorem NrC.turn9 {W W' : World} {v9 v9' v10 : Value} {e : EsI} (h : NrC W v9 v10 e) (hg : W.grownBy W' v9.ownBlock) {g : Nat} (hv : v9'.ownBlock = some g) (hat : v9.ownBlock = some g ∨ W.heap.size ≤ g) : NrC W' v9' v10 e := by
  obtain ⟨h1, h2, h3, h4⟩ := h
  refine ⟨ints_own h1 (fun h0 y hy => (h4 h0 y hy).1) hg, h2, h3, fun h0 y hy => ⟨?_, (h4 h0 y hy).2⟩⟩
  rw [hv]
  rcases hat with e1 | e1
  · rw [← e1]; exact (h4 h0 y hy).1
  · have := ints_lt h1 h0 hy
    simp
    omega
theorem NrC.turn10 {W W' : World} {v9 v10 v10' : Value} {e : EsI} (h : NrC W v9 v10 e) (hg : W.grownBy W' v10.ownBlock) {g : Nat} (hv : v10'.ownBlock = some g) (hat : v10.ownBlock = some g ∨ W.heap.size ≤ g) : NrC W' v9 v10' e := by
  obtain ⟨h1, h2, h3, h4⟩ := h
  refine ⟨ints_own h1 (fun h0 y hy => (h4 h0 y hy).2) hg, h2, h3, fun h0 y hy => ⟨(h4 h0 y hy).1, ?_⟩⟩
  rw [hv]
  rcases hat with e1 | e1
  · rw [← e1]; exact (h4 h0 y hy).2
  · have := ints_lt h1 h0 hy
    simp
    omega
/-- So many rules lead there. -/
def NrS (L : List Psh) (cf c : Cfg) (s : Int) : Prop := 0 ≤ s ∧ s ≤ 6 ∧ ∃ rs, RunsTo L rs cf c ∧ (rs.length : Int) = s
/-- What has been come to. -/
structure NrSt (L : List Psh) (cf : Cfg) (B : Nat) (W : World) (v9 v10 : Value) (es : List EsI) (ss : List Int) : Prop where
  own : OwnsG B W [⟨25, 2, v9, es.length, es.flatMap cellN⟩, ⟨3, 1, v10, ss.length, ss.map fun z => Value.int .i64 z⟩]
  tb : B ≤ W.heap.size
  ele : ∀ i, i < es.length → NrC W v9 v10 (es.getD i es0)
  stp : ∀ i, i < ss.length → i < es.length ∧ NrS L cf (es.getD i es0).c (ss.getD i 0)
theorem NrSt.kept {L : List Psh} {cf : Cfg} {B : Nat} {W W' : World} {v9 v10 : Value} {es : List EsI} {ss : List Int} (h : NrSt L cf B W v9 v10 es ss) (hg : W.grownBy W' none) : NrSt L cf B W' v9 v10 es ss :=
  ⟨h.own.kept hg, Nat.le_trans h.tb hg.size, fun i hi => (h.ele i hi).kept hg, h.stp⟩
theorem getD_app1 {α : Type} (xs : List α) (x d : α) {i : Nat} (hi : i < xs.length) : (xs ++ [x]).getD i d = xs.getD i d := by simp [List.getD, List.getElem?_append_left hi]
theorem getD_app2 {α : Type} (xs : List α) (x d : α) : (xs ++ [x]).getD xs.length d = x := by simp [List.getD]
/-- A config comes to them. -/
theorem NrSt.add9 {L : List Psh} {cf : Cfg} {B : Nat} {W : World} {v9 v10 : Value} {es : List EsI} {ss : List Int} (h : NrSt L cf B W v9 v10 es ss) (hn : es.length ≤ 1000) {e : EsI} (he : NrC W v9 v10 e) :
    ∃ a c g cap w', v9 = .slice a es.length c ∧ (AppS #[61, 61] 61 #[.slice a es.length c, .slice (some ⟨W.heap.size, 0, none⟩) 1 1]).run Try.prog (W.alloc (.cells #[.int .i64 e.c.1, .slice e.a e.c.2.length e.k] 25)) = .ok (.slice (some ⟨g, 0, none⟩) (es.length + 1) cap) w' ∧ Keeps B W w' ∧ NrSt L cf B w' (.slice (some ⟨g, 0, none⟩) (es.length + 1) cap) v10 (es ++ [e]) ss := by
  obtain ⟨a, c, hv⟩ := h.own.head.2
  have hv' : v9 = .slice a es.length c := hv
  subst hv'
  obtain ⟨g, cap, w', hr, ho, hk, hg, hat⟩ := OwnsG.pushN 61 25 (.agg #[.int .i64 0, .slice none 0 0]) 2 32 Try.underlying61 Try.infoCfgN rfl (by decide) (by decide) (cellN e) rfl (by intro u hu; simp [cellN] at hu; rcases hu with rfl | rfl <;> rfl) h.own h.tb (by omega)
  have gA : W.grownBy (W.alloc (.cells (cellN e).toArray 25)) none := grown_alloc _ _
  have hA : (Value.slice a es.length c).ownBlock = some g ∨ (W.alloc (.cells (cellN e).toArray 25)).heap.size ≤ g ∨ W.heap.size ≤ g := by
    rcases hat with e1 | e1
    · exact .inl e1
    · exact .inr (.inr e1)
  have turn : ∀ x, NrC W (.slice a es.length c) v10 x → NrC w' (.slice (some ⟨g, 0, none⟩) (es.length + 1) cap) v10 x := fun x hx => by
    obtain ⟨h1, h2, h3, h4⟩ := hx
    have h1A := h1.grown gA
    refine ⟨ints_own h1A (fun h0 y hy => (h4 h0 y hy).1) hg, h2, h3, fun h0 y hy => ⟨?_, (h4 h0 y hy).2⟩⟩
    show some g ≠ some y.block
    rcases hat with e1 | e1
    · rw [← e1]; exact (h4 h0 y hy).1
    · have := ints_lt h1 h0 hy
      simp
      omega
  refine ⟨a, c, g, cap, w', rfl, hr, hk, ?_, ?_, fun i hi => ?_, fun i hi => ?_⟩
  · have e1 : (es ++ [e]).flatMap cellN = es.flatMap cellN ++ cellN e := by simp
    rw [e1, List.length_append, List.length_singleton]
    exact ho
  · exact Nat.le_trans h.tb (Nat.le_trans gA.size hg.size)
  · rw [List.length_append, List.length_singleton] at hi
    by_cases e2 : i < es.length
    · rw [getD_app1 _ _ _ e2]; exact turn _ (h.ele i e2)
    · have e3 : i = es.length := by omega
      subst e3
      rw [getD_app2]
      exact turn _ he
  · obtain ⟨h1, h2⟩ := h.stp i hi
    exact ⟨by rw [List.length_append]; omega, by rw [getD_app1 _ _ _ h1]; exact h2⟩
/-- How many rules led there comes to it. -/
theorem NrSt.add10 {L : List Psh} {cf : Cfg} {B : Nat} {W : World} {v9 v10 : Value} {es : List EsI} {ss : List Int} (h : NrSt L cf B W v9 v10 es ss) (hn : ss.length ≤ 1000) {s : Int} (hl : ss.length < es.length) (hs : NrS L cf (es.getD ss.length es0).c s) :
    ∃ a c g cap w', v10 = .slice a ss.length c ∧ (AppS #[23, 23] 23 #[.slice a ss.length c, .slice (some ⟨W.heap.size, 0, none⟩) 1 1]).run Try.prog (W.alloc (.cells #[.int .i64 s] 3)) = .ok (.slice (some ⟨g, 0, none⟩) (ss.length + 1) cap) w' ∧ Keeps B W w' ∧ NrSt L cf B w' v9 (.slice (some ⟨g, 0, none⟩) (ss.length + 1) cap) es (ss ++ [s]) := by
  have own := h.own.perm (List.Perm.swap _ _ _)
  obtain ⟨a, c, hv⟩ := own.head.2
  have hv' : v10 = .slice a ss.length c := hv
  subst hv'
  obtain ⟨g, cap, w', hr, ho, hk, hg, hat⟩ := OwnsG.pushN 23 3 (.int .i64 0) 1 8 Try.underlying23 Try.infoIntN rfl (by decide) (by decide) [.int .i64 s] rfl (by intro u hu; simp at hu; subst hu; rfl) own h.tb (by omega)
  have gA : W.grownBy (W.alloc (.cells ([Value.int .i64 s]).toArray 3)) none := grown_alloc _ _
  have turn : ∀ x, NrC W v9 (.slice a ss.length c) x → NrC w' v9 (.slice (some ⟨g, 0, none⟩) (ss.length + 1) cap) x := fun x hx => by
    obtain ⟨h1, h2, h3, h4⟩ := hx
    have h1A := h1.grown gA
    refine ⟨ints_own h1A (fun h0 y hy => (h4 h0 y hy).2) hg, h2, h3, fun h0 y hy => ⟨(h4 h0 y hy).1, ?_⟩⟩
    show some g ≠ some y.block
    rcases hat with e1 | e1
    · rw [← e1]; exact (h4 h0 y hy).2
    · have := ints_lt h1 h0 hy
      simp
      omega
  refine ⟨a, c, g, cap, w', rfl, hr, hk, ?_, ?_, fun i hi => turn _ (h.ele i hi), fun i hi => ?_⟩
  · have e1 : (ss ++ [s]).map (fun z => Value.int .i64 z) = ss.map (fun z => Value.int .i64 z) ++ [.int .i64 s] := by simp
    rw [e1, List.length_append, List.length_singleton]
    exact ho.perm (List.Perm.swap _ _ _)
  · exact Nat.le_trans h.tb (Nat.le_trans gA.size hg.size)
  · rw [List.length_append, List.length_singleton] at hi
    by_cases e2 : i < ss.length
    · rw [getD_app1 _ _ _ e2]; exact h.stp i e2
    · have e3 : i = ss.length := by omega
      subst e3
      rw [getD_app2]
      exact ⟨hl, hs⟩

end Go.Proofs.Ytcgkflddipflbaa

namespace Go.Proofs.Ytcgkflddipflbaa
open Go.RowKit
set_option linter.unusedVariables false
set_option linter.unusedSimpArgs false
attribute [local go_sem ↓] app_fold

theorem cellN_get (es : List EsI) {i : Nat} (hi : i < es.length) : (es.flatMap cellN)[i * 2]? = some (.int .i64 (es.getD i es0).c.1) ∧ (es.flatMap cellN)[i * 2 + 1]? = some (.slice (es.getD i es0).a (es.getD i es0).c.2.length (es.getD i es0).k) := by
  induction es generalizing i with
  | nil => simp at hi
  | cons e es ih =>
    rw [List.flatMap_cons]
    cases i with
    | zero => exact ⟨rfl, rfl⟩
    | succ i =>
      have h1 := ih (i := i) (by simp at hi; omega)
      have e1 : (i + 1) * 2 = (cellN e).length + i * 2 := by show _ = 2 + i * 2; omega
      have e2 : (i + 1) * 2 + 1 = (cellN e).length + (i * 2 + 1) := by show _ = 2 + (i * 2 + 1); omega
      rw [e1, show (cellN e).length + i * 2 + 1 = (cellN e).length + (i * 2 + 1) by omega, List.getElem?_append_right (by omega), List.getElem?_append_right (by omega)]
      simpa using h1
section
variable {L : List Psh} {cf : Cfg} {B : Nat} {W : World} {v9 v10 : Value} {es : List EsI} {ss : List Int}
/-- The row of configs, where it is not empty. -/
theorem NrSt.row9 (h : NrSt L cf B W v9 v10 es ss) (h0 : 0 < es.length) : ∃ g c, v9 = .slice (some ⟨g, 0, none⟩) es.length c := by
  rcases h.own.head.1.2 with ⟨_, e2⟩ | ⟨g, cap, cur, e1, _⟩
  · have e3 : es.length = 0 := e2
    omega
  · exact ⟨g, cap, e1⟩
theorem NrSt.row10 (h : NrSt L cf B W v9 v10 es ss) (h0 : 0 < ss.length) : ∃ g c, v10 = .slice (some ⟨g, 0, none⟩) ss.length c := by
  have own := h.own.perm (List.Perm.swap _ _ _)
  rcases own.head.1.2 with ⟨_, e2⟩ | ⟨g, cap, cur, e1, _⟩
  · have e3 : ss.length = 0 := e2
    omega
  · exact ⟨g, cap, e1⟩
theorem NrSt.cell9 {g c : Nat} (h : NrSt L cf B W (.slice (some ⟨g, 0, none⟩) es.length c) v10 es ss) {i : Nat} (hi : i < es.length) : W.cell? ⟨g, i * 2, none⟩ = some (.int .i64 (es.getD i es0).c.1) ∧ W.cell? ⟨g, i * 2 + 1, none⟩ = some (.slice (es.getD i es0).a (es.getD i es0).c.2.length (es.getD i es0).k) :=
  ⟨h.own.cell rfl (cellN_get es hi).1, h.own.cell rfl (cellN_get es hi).2⟩
theorem NrSt.cell10 {g c : Nat} (h : NrSt L cf B W v9 (.slice (some ⟨g, 0, none⟩) ss.length c) es ss) {i : Nat} (hi : i < ss.length) : W.cell? ⟨g, i, none⟩ = some (.int .i64 (ss.getD i 0)) := by
  have own := h.own.perm (List.Perm.swap _ _ _)
  exact own.cell rfl (by simp [List.getD, hi])
end
/-- Six cells stay. -/
abbrev KeepN (P0 W : World) (a0 a1 a2 a3 a4 a5 : Addr) (u0 u1 u2 u3 u4 u5 : Value) : Prop := P0.grownBy W none ∧ W.cell? a0 = some u0 ∧ W.cell? a1 = some u1 ∧ W.cell? a2 = some u2 ∧ W.cell? a3 = some u3 ∧ W.cell? a4 = some u4 ∧ W.cell? a5 = some u5
theorem KeepN.call {P0 W W' : World} {a0 a1 a2 a3 a4 a5 : Addr} {u0 u1 u2 u3 u4 u5 : Value} (h : KeepN P0 W a0 a1 a2 a3 a4 a5 u0 u1 u2 u3 u4 u5) (hg : W.grownBy W' none) : KeepN P0 W' a0 a1 a2 a3 a4 a5 u0 u1 u2 u3 u4 u5 := by
  obtain ⟨h, h0, h1, h2, h3, h4, h5⟩ := h
  exact ⟨grown_trans h hg, hg.cell h0 (by simp), hg.cell h1 (by simp), hg.cell h2 (by simp), hg.cell h3 (by simp), hg.cell h4 (by simp), hg.cell h5 (by simp)⟩
theorem KeepN.drew {P0 W : World} {a0 a1 a2 a3 a4 a5 : Addr} {u0 u1 u2 u3 u4 u5 : Value} (h : KeepN P0 W a0 a1 a2 a3 a4 a5 u0 u1 u2 u3 u4 u5) : KeepN P0 W.drew a0 a1 a2 a3 a4 a5 u0 u1 u2 u3 u4 u5 := h.call (grown_drew (grown_refl _ _))
/-- What Near says. -/
def NearP (L : List Psh) (cf gl : Cfg) (w : World) (e : Ending) (w' : World) : Prop := ∃ t, e = .returned (.bool t) ∧ (t = true → ∃ rs : List Int, rs.length ≤ 6 ∧ RunsTo L rs cf gl) ∧ w.grownBy w' none

set_option maxHeartbeats 6400000 in
set_option maxRecDepth 100000 in
theorem near_any (L : List Psh) (cf gl : Cfg) (a b b' : Option Addr) (d k k' : Nat) (w : World) (h : PushAt w a L) (hG : GoodSk L) (hc : Ints w b cf.2) (hck : cf.2.length ≤ k) (hcl : cf.2.length ≤ 20) (hg : Ints w b' gl.2) (hgl : gl.2.length ≤ 20) :
    Calls Try.prog 11 #[.slice a L.length d, cfgV cf.1 b cf.2.length k, cfgV gl.1 b' gl.2.length k', .int .i64 6] w (NearP L cf gl w) := by
  obtain ⟨W1, hW1⟩ : ∃ W1, W1 = w.alloc (.cells #[.int .i64 cf.1, .slice b cf.2.length k] 25) := ⟨_, rfl⟩
  obtain ⟨W2, hW2⟩ : ∃ W2, W2 = W1.alloc (.cells #[.int .i64 gl.1, .slice b' gl.2.length k'] 25) := ⟨_, rfl⟩
  obtain ⟨W3, hW3⟩ : ∃ W3, W3 = W2.alloc (.cells #[.int .i64 cf.1, .slice b cf.2.length k] 25) := ⟨_, rfl⟩
  obtain ⟨W4, hW4⟩ : ∃ W4, W4 = W3.alloc (.cells #[.int .i64 0] 3) := ⟨_, rfl⟩
  have g1 : w.grownBy W1 none := by rw [hW1]; exact grown_alloc _ _
  have g2 : W1.grownBy W2 none := by rw [hW2]; exact grown_alloc _ _
  have g3 : W2.grownBy W3 none := by rw [hW3]; exact grown_alloc _ _
  have g4 : W3.grownBy W4 none := by rw [hW4]; exact grown_alloc _ _
  have s1 : W1.heap.size = w.heap.size + 1 := by rw [hW1]; simp
  have s2 : W2.heap.size = w.heap.size + 1 + 1 := by rw [hW2, World.size_alloc, s1]
  have s3 : W3.heap.size = w.heap.size + 1 + 1 + 1 := by rw [hW3, World.size_alloc, s2]
  have b1 := heap_alloc_new w (.cells #[.int .i64 cf.1, .slice b cf.2.length k] 25)
  have b2 := heap_alloc_new W1 (.cells #[.int .i64 gl.1, .slice b' gl.2.length k'] 25)
  have b3 := heap_alloc_new W2 (.cells #[.int .i64 cf.1, .slice b cf.2.length k] 25)
  have b4 := heap_alloc_new W3 (.cells #[.int .i64 0] 3)
  rw [← hW1] at b1
  rw [← hW2, s1] at b2
  rw [← hW3, s2] at b3
  rw [← hW4, s3] at b4
  have ST : Hid (NrSt L cf (w.heap.size + 1 + 1) W4 (.slice (some ⟨w.heap.size + 1 + 1, 0, none⟩) 1 1) (.slice (some ⟨w.heap.size + 1 + 1 + 1, 0, none⟩) 1 1) [⟨cf, b, k⟩] [0]) := by
    refine ⟨⟨fun it hm => ?_, List.Pairwise.cons (fun q hq => ?_) (List.pairwise_singleton _ _)⟩, ?_, fun i hi => ?_, fun i hi => ?_⟩
    · rcases List.mem_cons.1 hm with rfl | hm
      · exact ⟨⟨rfl, .inr ⟨w.heap.size + 1 + 1, 1, _, rfl, by omega, (g4.block _ (by omega) (by simp)).trans b3, Nat.le_refl _, by unfold maxLen; omega, rfl, rfl⟩⟩, _, _, rfl⟩
      · have e : it = ⟨3, 1, .slice (some ⟨w.heap.size + 1 + 1 + 1, 0, none⟩) 1 1, 1, [.int .i64 0]⟩ := by simpa using hm
        subst e
        exact ⟨⟨rfl, .inr ⟨w.heap.size + 1 + 1 + 1, 1, _, rfl, by omega, b4, Nat.le_refl _, by unfold maxLen; omega, rfl, rfl⟩⟩, _, _, rfl⟩
    · have e : q = ⟨3, 1, .slice (some ⟨w.heap.size + 1 + 1 + 1, 0, none⟩) 1 1, 1, [.int .i64 0]⟩ := by simpa using hq
      subst e
      exact .inr (.inr (by simp [Value.ownBlock]))
    · have := g4.size; omega
    · have e : i = 0 := by simp at hi; omega
      subst e
      refine ⟨hc.grown (grown_trans g1 (grown_trans g2 (grown_trans g3 g4))), hck, by show cf.2.length ≤ 40; omega, fun h0 y hy => ?_⟩
      have := ints_lt hc h0 hy
      constructor
      · show some _ ≠ some _
        simp; omega
      · show some _ ≠ some _
        simp; omega
    · have e : i = 0 := by simp at hi; omega
      subst e
      exact ⟨by simp, by decide, by decide, [], rfl, rfl⟩
  have HI : Hid (∀ W, W2.grownBy W none → W.cell? ⟨w.heap.size + 1, 0, none⟩ = some (.int .i64 gl.1) ∧ W.cell? ⟨w.heap.size + 1, 1, none⟩ = some (.slice b' gl.2.length k') ∧ PushAt W a L ∧ Ints W b' gl.2 ∧ w.grownBy W none) := fun W hW => by
    have g0 := grown_trans g1 (grown_trans g2 hW)
    exact ⟨hW.cell (by rw [cell_of_row _ _ 0 _ _ (0, 0) b2]; rfl) (by simp), hW.cell (by rw [cell_of_row _ _ 1 _ _ (0, 0) b2]; rfl) (by simp), h.grown g0, hg.grown g0, g0⟩
  have G24 : Hid (W2.grownBy W4 none) := grown_trans g3 g4
  have S2 : Hid (W2.heap.size = w.heap.size + 1 + 1) := s2
  obtain ⟨y0, y1⟩ : (W2.cell? ⟨w.heap.size, 0, none⟩ = some (.int .i64 cf.1)) ∧ (W2.cell? ⟨w.heap.size, 1, none⟩ = some (.slice b cf.2.length k)) := ⟨g2.cell (by rw [cell_of_row _ _ 0 _ _ (0, 0) b1]; rfl) (by simp), g2.cell (by rw [cell_of_row _ _ 1 _ _ (0, 0) b1]; rfl) (by simp)⟩
  rw [hW1] at hW2
  rw [hW2] at y0 y1
  have HW4 : Hid (W4 = _) := hW4
  have HW3 : Hid (W3 = _) := hW3
  have HW2 : Hid (W2 = _) := hW2
  have hLl := hG.len
  clear h hc hg g1 g2 g3 g4 s1 s2 s3 b1 b2 b3 b4 hW1 hW2 hW3 hW4
  go_enter Try.func11, Try.ntmps11
  go_wp2_with fail
  rw [← HW2.out, ← HW3.out, ← HW4.out]
  clear y0 y1 HW2 HW3 HW4
  go_loopw [9, 10, 11] (fun v9 v10 v11 wr => ∃ (i : Nat) (es : List EsI) (ss : List Int), v11 = .int .i64 i ∧ i ≤ 400 ∧ 0 < es.length ∧ es.length ≤ 410 ∧ ss.length = es.length ∧ W2.grownBy wr none ∧ NrSt L cf (w.heap.size + 1 + 1) wr v9 v10 es ss) (fun _ _ v11 _ => 500 - (intOf v11).toNat)
  case atStart => exact ⟨0, _, _, rfl, by omega, by simp, by simp, rfl, G24.out, ST.out⟩
  case round =>
    clear ST
    rename World => wr
    obtain ⟨i, es, ss, rfl, hi, he0, he, hss, hgr, hst⟩ := hrel
    obtain ⟨g9, c9, rfl⟩ := hst.row9 he0
    obtain ⟨g10, c10, rfl⟩ := hst.row10 (by omega)
    have ST : Hid (NrSt L cf (w.heap.size + 1 + 1) wr (.slice (some ⟨g9, 0, none⟩) es.length c9) (.slice (some ⟨g10, 0, none⟩) ss.length c10) es ss) := hst
    have GR : Hid (W2.grownBy wr none) := hgr
    have HSS : Hid (ss.length = es.length) := hss
    clear hst hgr hss
    by_cases hin : i < es.length ∧ es.length < 400
    · have hi1 : (i : Int) < (es.length : Int) := by omega
      have hi2 : (es.length : Int) < 400 := by omega
      obtain ⟨z0, z1⟩ := ST.out.cell9 hin.1
      have z2 := ST.out.cell10 (i := i) (by have := HSS.out; omega)
      obtain ⟨x0, x1, _, _, _⟩ := HI.out wr GR.out
      obtain ⟨e, hee⟩ : ∃ e, es.getD i es0 = e := ⟨_, rfl⟩
      obtain ⟨sv, hsv⟩ : ∃ sv, ss.getD i 0 = sv := ⟨_, rfl⟩
      rw [hee] at z0 z1
      rw [hsv] at z2
      have HEE : Hid (es.getD i es0 = e) := hee
      have HSV : Hid (ss.getD i 0 = sv) := hsv
      have hNC : NrC wr (.slice (some ⟨g9, 0, none⟩) es.length c9) (.slice (some ⟨g10, 0, none⟩) ss.length c10) e := hee ▸ ST.out.ele i hin.1
      have hNS : NrS L cf e.c sv := by
        have := (ST.out.stp i (by have := HSS.out; omega)).2
        rw [hee, hsv] at this
        exact this
      have HNS : Hid (NrS L cf e.c sv) := hNS
      have HNC : Hid (e.c.2.length ≤ e.k ∧ e.c.2.length ≤ 40) := ⟨hNC.2.1, hNC.2.2.1⟩
      have HSm : Hid (∀ W, wr.grownBy W none → Calls Try.prog 14 #[cfgV e.c.1 e.a e.c.2.length e.k, cfgV gl.1 b' gl.2.length k'] W (TellsB (SameSk e.c gl) W)) := fun W hW => sameSk_any e.c gl e.a b' e.k k' W (hNC.1.grown hW) ((HI.out W (grown_trans GR.out hW)).2.2.2.1) (by have := hNC.2.2.1; unfold maxLen; omega) (by unfold maxLen; omega)
      clear hee hsv hNC hNS
      have hin1 := hin.1
      clear hin
      go_wp2_with fail
      have K9 : Hid (KeepN wr wr ⟨g9, i * 2, none⟩ ⟨g9, i * 2 + 1, none⟩ ⟨w.heap.size + 1, 0, none⟩ ⟨w.heap.size + 1, 1, none⟩ ⟨g9, i * 2, none⟩ ⟨g9, i * 2 + 1, none⟩ (.int .i64 e.c.1) (.slice e.a e.c.2.length e.k) (.int .i64 gl.1) (.slice b' gl.2.length k') (.int .i64 e.c.1) (.slice e.a e.c.2.length e.k)) := ⟨grown_refl _ _, z0, z1, x0, x1, z0, z1⟩
      clear z0 z1 x0 x1
      go_region_held3 (fun W => KeepN wr W ⟨g9, i * 2, none⟩ ⟨g9, i * 2 + 1, none⟩ ⟨w.heap.size + 1, 0, none⟩ ⟨w.heap.size + 1, 1, none⟩ ⟨g9, i * 2, none⟩ ⟨g9, i * 2 + 1, none⟩ (.int .i64 e.c.1) (.slice e.a e.c.2.length e.k) (.int .i64 gl.1) (.slice b' gl.2.length k') (.int .i64 e.c.1) (.slice e.a e.c.2.length e.k))
        (first | (with_reducible exact KeepN.drew K9.out) | (with_reducible exact KeepN.call (by assumption) hgA) | (with_reducible exact KeepN.drew (by assumption)) | assumption)
        (first | (go_at_call 14; refine (HSm.out _ (show KeepN wr _ _ _ _ _ _ _ _ _ _ _ _ _ from by assumption).1).mono ?_; rintro E2 wA ⟨tt, rfl, htt, hgA⟩))
      all_goals
        rename_i hHeld
        have GA : Hid (wr.grownBy wA none) := hHeld.1
        have GW : Hid (W2.grownBy wA none) := grown_trans GR.out GA.out
        have z3 : wA.cell? ⟨g10, i, none⟩ = some (.int .i64 sv) := GA.out.cell z2 (by simp)
        have STA : Hid (NrSt L cf (w.heap.size + 1 + 1) wA (.slice (some ⟨g9, 0, none⟩) es.length c9) (.slice (some ⟨g10, 0, none⟩) ss.length c10) es ss) := ST.out.kept GA.out
        clear hHeld hgA K9 z2 ST HSm
        cases tt with
        | true =>
          have hsame : e.c = gl := htt.1 rfl
          have Fin : Hid (NearP L cf gl w (.returned (.bool true)) wA) := ⟨true, rfl, fun _ => by
            obtain ⟨s0, s6, rs, hr, hl⟩ := HNS.out
            exact ⟨rs, by omega, hsame ▸ hr⟩, (HI.out wA GW.out).2.2.2.2⟩
          clear htt hsame
          go_wp2_with fail
          go_ret
          exact Fin.out
        | false =>
        clear htt
        by_cases h6 : sv = 6
        · have h61 : (sv == 6) = true := by simpa using h6
          clear h6
          have hssl : (i : Int) < (ss.length : Int) := by have := HSS.out; omega
          go_wp2_with fail
          go_roundw
          case rel => exact ⟨i + 1, es, ss, by go_num, by omega, he0, he, HSS.out, GW.out, STA.out⟩
          case measure => simp [intOf]; omega
        have h61 : (sv == 6) = false := by simpa using h6
        have hssl : (i : Int) < (ss.length : Int) := by have := HSS.out; omega
        have HS5 : Hid (NrS L cf e.c sv ∧ sv ≠ 6) := ⟨HNS.out, h6⟩
        clear h6
        go_wp2_with fail
        clear z3
        go_loopw [9, 10, 13] (fun v9 v10 v13 ws => ∃ (kk : Nat) (fs : List EsI) (ts : List Int), v13 = .int .i64 kk ∧ kk ≤ L.length ∧ fs.length ≤ 400 + kk ∧ i < fs.length ∧ ts.length = fs.length ∧ fs.getD i es0 = e ∧ ts.getD i 0 = sv ∧ W2.grownBy ws none ∧ NrSt L cf (w.heap.size + 1 + 1) ws v9 v10 fs ts) (fun _ _ v13 _ => L.length - (intOf v13).toNat)
        case atStart => exact ⟨0, es, ss, rfl, by omega, by omega, hin1, HSS.out, HEE.out, HSV.out, GW.out, STA.out⟩
        case round =>
          clear STA GW GA
          rename World => ws
          obtain ⟨kk, fs, ts, rfl, hkk, hfl, hif, htl, hfe, hts, hgr, hst⟩ := hrel
          obtain ⟨h9, p9, rfl⟩ := hst.row9 (by omega)
          obtain ⟨h10, p10, rfl⟩ := hst.row10 (by omega)
          have ST : Hid (NrSt L cf (w.heap.size + 1 + 1) ws (.slice (some ⟨h9, 0, none⟩) fs.length p9) (.slice (some ⟨h10, 0, none⟩) ts.length p10) fs ts) := hst
          have GR2 : Hid (W2.grownBy ws none) := hgr
          have HTS : Hid (ts.length = fs.length ∧ fs.getD i es0 = e ∧ ts.getD i 0 = sv) := ⟨htl, hfe, hts⟩
          obtain ⟨z0, z1⟩ := hst.cell9 hif
          have z2 := hst.cell10 (i := i) (by omega)
          have hNC : NrC ws (.slice (some ⟨h9, 0, none⟩) fs.length p9) (.slice (some ⟨h10, 0, none⟩) ts.length p10) e := hfe ▸ hst.ele i hif
          rw [hfe] at z0 z1
          rw [hts] at z2
          have hil : (i : Int) < (fs.length : Int) := by omega
          have hil2 : (i : Int) < (ts.length : Int) := by omega
          clear hst hgr htl hfe hts
          by_cases hk1 : kk < L.length
          · have hk2 : (kk : Int) < (L.length : Int) := by omega
            obtain ⟨bl, ol, rfl, hpp⟩ := (HI.out ws GR2.out).2.2.1.at hk1
            obtain ⟨p0, p1, p2, ap, cp, p3, hpI, hpm⟩ := hpp kk hk1
            obtain ⟨r, hr⟩ : ∃ r, L.getD kk pu0 = r := ⟨_, rfl⟩
            rw [hr] at p0 p1 p2 p3 hpI hpm
            have HR : Hid (L.getD kk pu0 = r ∧ r.P.length ≤ 2) := ⟨hr, hr ▸ hG.put kk hk1⟩
            have HCan : Hid (∀ W, ws.grownBy W none → Calls Try.prog 12 #[pshV r.F r.T r.O ap r.P.length cp, cfgV e.c.1 e.a e.c.2.length e.k] W (TellsB (CanSk r e.c) W)) := fun W hW => canSk_any r e.c ap e.a cp e.k W (hNC.1.grown hW) (by have := HNC.out; unfold maxLen; omega)
            have HBeh : Hid (e.c.2.length < 30 → 0 < e.c.2.length → ∀ W, ws.grownBy W none → Calls Try.prog 13 #[pshV r.F r.T r.O ap r.P.length cp, cfgV e.c.1 e.a e.c.2.length e.k] W (BehPost r e.c W)) := fun h1 h2 W hW => behSk_any r e.c ap e.a cp e.k W (hpI.grown hW) (hNC.1.grown hW) (by have := HR.out.2; omega) (by omega) h2 HNC.out.1
            clear hpp hr hpI hpm hNC
            go_wp2_with fail
            have K9 : Hid (KeepN ws ws ⟨bl, ol + kk * 4, none⟩ ⟨bl, ol + kk * 4 + 1, none⟩ ⟨bl, ol + kk * 4 + 2, none⟩ ⟨bl, ol + kk * 4 + 3, none⟩ ⟨h9, i * 2, none⟩ ⟨h9, i * 2 + 1, none⟩ (.int .i64 r.F) (.int .i64 r.T) (.int .i64 r.O) (.slice ap r.P.length cp) (.int .i64 e.c.1) (.slice e.a e.c.2.length e.k)) := ⟨grown_refl _ _, p0, p1, p2, p3, z0, z1⟩
            clear z0 z1 p0 p1 p2 p3
            go_region_held3 (fun W => KeepN ws W ⟨bl, ol + kk * 4, none⟩ ⟨bl, ol + kk * 4 + 1, none⟩ ⟨bl, ol + kk * 4 + 2, none⟩ ⟨bl, ol + kk * 4 + 3, none⟩ ⟨h9, i * 2, none⟩ ⟨h9, i * 2 + 1, none⟩ (.int .i64 r.F) (.int .i64 r.T) (.int .i64 r.O) (.slice ap r.P.length cp) (.int .i64 e.c.1) (.slice e.a e.c.2.length e.k))
              (first | (with_reducible exact KeepN.drew K9.out) | (with_reducible exact KeepN.call (by assumption) hgA) | (with_reducible exact KeepN.drew (by assumption)) | assumption)
              (first | (go_at_call 12; refine (HCan.out _ (show KeepN ws _ _ _ _ _ _ _ _ _ _ _ _ _ from by assumption).1).mono ?_; rintro E2 wA ⟨tt, rfl, htt, hgA⟩))
            all_goals
              rename_i hHeld
              have KA : Hid (KeepN ws wA ⟨bl, ol + kk * 4, none⟩ ⟨bl, ol + kk * 4 + 1, none⟩ ⟨bl, ol + kk * 4 + 2, none⟩ ⟨bl, ol + kk * 4 + 3, none⟩ ⟨h9, i * 2, none⟩ ⟨h9, i * 2 + 1, none⟩ (.int .i64 r.F) (.int .i64 r.T) (.int .i64 r.O) (.slice ap r.P.length cp) (.int .i64 e.c.1) (.slice e.a e.c.2.length e.k)) := hHeld
              clear hHeld hgA K9 HCan
              cases tt with
              | false =>
                clear htt
                have GW3 : Hid (W2.grownBy wA none) := grown_trans GR2.out KA.out.1
                have STN : Hid (NrSt L cf (w.heap.size + 1 + 1) wA (.slice (some ⟨h9, 0, none⟩) fs.length p9) (.slice (some ⟨h10, 0, none⟩) ts.length p10) fs ts) := ST.out.kept KA.out.1
                clear ST z2 KA
                go_wp2_with fail
                go_roundw
                case rel => exact ⟨kk + 1, fs, ts, by go_num, by omega, by omega, hif, HTS.out.1, HTS.out.2.1, HTS.out.2.2, GW3.out, STN.out⟩
                case measure => simp [intOf]; omega
              | true =>
              have hcan : CanSk r e.c := htt.1 rfl
              have HCn : Hid (CanSk r e.c) := hcan
              clear htt hcan
              obtain ⟨kg, q0, q1, q2, q3, q4, q5⟩ := KA.out
              by_cases h30 : e.c.2.length < 30
              case neg =>
                have h31 : ¬ (e.c.2.length : Int) < 30 := by omega
                have GW3 : Hid (W2.grownBy wA none) := grown_trans GR2.out KA.out.1
                have STN : Hid (NrSt L cf (w.heap.size + 1 + 1) wA (.slice (some ⟨h9, 0, none⟩) fs.length p9) (.slice (some ⟨h10, 0, none⟩) ts.length p10) fs ts) := ST.out.kept KA.out.1
                clear ST z2 KA kg
                go_wp2_with fail
                go_roundw
                case rel => exact ⟨kk + 1, fs, ts, by go_num, by omega, by omega, hif, HTS.out.1, HTS.out.2.1, HTS.out.2.2, GW3.out, STN.out⟩
                case measure => simp [intOf]; omega
              have h31 : (e.c.2.length : Int) < 30 := by omega
              have HB2 : Hid (∀ W, ws.grownBy W none → Calls Try.prog 13 #[pshV r.F r.T r.O ap r.P.length cp, cfgV e.c.1 e.a e.c.2.length e.k] W (BehPost r e.c W)) := HBeh.out h30 HCn.out.2.1
              clear kg HBeh
              go_wp2_with fail
              refine wp_region_held_drew (S := (fun W => KeepN ws W ⟨bl, ol + kk * 4, none⟩ ⟨bl, ol + kk * 4 + 1, none⟩ ⟨bl, ol + kk * 4 + 2, none⟩ ⟨bl, ol + kk * 4 + 3, none⟩ ⟨h9, i * 2, none⟩ ⟨h9, i * 2 + 1, none⟩ (.int .i64 r.F) (.int .i64 r.T) (.int .i64 r.O) (.slice ap r.P.length cp) (.int .i64 e.c.1) (.slice e.a e.c.2.length e.k))) (by kernel_rfl) (KA.out.drew) (fun hHeld => ?_)
              refine wpAnyH_take (i := 0) (v := ?_) rfl (by kernel_rfl) (by kernel_rfl) (by kernel_rfl) (fun _ _ _ h => h) (Or.inl ⟨by rfl, ?_⟩) (by assumption) ?_
              rotate_left
              · intro W hSw
                obtain ⟨_, q0, q1, q2, q3, q4, q5⟩ := hSw
                go_simp
                with_reducible rfl
              try simp only [Act.put, List.setIfInBounds_toArray, List.set_cons_zero, List.set_cons_succ]
              refine wpAnyH_take (i := 1) (v := ?_) rfl (by kernel_rfl) (by kernel_rfl) (by kernel_rfl) (fun _ _ _ h => h) (Or.inl ⟨by rfl, ?_⟩) (by assumption) ?_
              rotate_left
              · intro W hSw
                obtain ⟨_, q0, q1, q2, q3, q4, q5⟩ := hSw
                go_simp
                with_reducible rfl
              try simp only [Act.put, List.setIfInBounds_toArray, List.set_cons_zero, List.set_cons_succ]
              refine wpAnyH_take (i := 2) (v := ?_) rfl (by kernel_rfl) (by kernel_rfl) (by kernel_rfl) (fun _ _ _ h => h) (Or.inl ⟨by rfl, ?_⟩) (by assumption) ?_
              rotate_left
              · intro W hSw
                obtain ⟨_, q0, q1, q2, q3, q4, q5⟩ := hSw
                go_simp
                with_reducible rfl
              try simp only [Act.put, List.setIfInBounds_toArray, List.set_cons_zero, List.set_cons_succ]
              refine wpAnyH_take (i := 3) (v := ?_) rfl (by kernel_rfl) (by kernel_rfl) (by kernel_rfl) (fun _ _ _ h => h) (Or.inl ⟨by rfl, ?_⟩) (by assumption) ?_
              rotate_left
              · intro W hSw
                obtain ⟨_, q0, q1, q2, q3, q4, q5⟩ := hSw
                go_simp
                with_reducible rfl
              try simp only [Act.put, List.setIfInBounds_toArray, List.set_cons_zero, List.set_cons_succ]
              refine wpAnyH_take (i := 4) (v := ?_) rfl (by kernel_rfl) (by kernel_rfl) (by kernel_rfl) (fun _ _ _ h => h) (Or.inl ⟨by rfl, ?_⟩) (by assumption) ?_
              rotate_left
              · intro W hSw
                obtain ⟨_, q0, q1, q2, q3, q4, q5⟩ := hSw
                go_simp
                with_reducible rfl
              try simp only [Act.put, List.setIfInBounds_toArray, List.set_cons_zero, List.set_cons_succ]
              refine wpAnyH_take (i := 5) (v := ?_) rfl (by kernel_rfl) (by kernel_rfl) (by kernel_rfl) (fun _ _ _ h => h) (Or.inl ⟨by rfl, ?_⟩) (by assumption) ?_
              rotate_left
              · intro W hSw
                obtain ⟨_, q0, q1, q2, q3, q4, q5⟩ := hSw
                go_simp
                with_reducible rfl
              try simp only [Act.put, List.setIfInBounds_toArray, List.set_cons_zero, List.set_cons_succ]
              refine wpAnyH_take (i := 6) (v := ?_) rfl (by kernel_rfl) (by kernel_rfl) (by kernel_rfl) (fun _ _ _ h => h) (Or.inl ⟨by rfl, ?_⟩) (by assumption) ?_
              rotate_left
              · intro W hSw
                obtain ⟨_, q0, q1, q2, q3, q4, q5⟩ := hSw
                go_simp
                with_reducible rfl
              try simp only [Act.put, List.setIfInBounds_toArray, List.set_cons_zero, List.set_cons_succ]
              refine wpAnyH_take (i := 7) (v := ?_) rfl (by kernel_rfl) (by kernel_rfl) (by kernel_rfl) (fun _ _ _ h => h) (Or.inl ⟨by rfl, ?_⟩) (by assumption) ?_
              rotate_left
              · intro W hSw
                obtain ⟨_, q0, q1, q2, q3, q4, q5⟩ := hSw
                go_simp
                with_reducible rfl
              try simp only [Act.put, List.setIfInBounds_toArray, List.set_cons_zero, List.set_cons_succ]
              refine wpAnyH_ready (rs := [8, 9]) (by kernel_rfl) (by simp) ?_
              refine AllReadyH.cons (o := _) rfl (fun K' hK => ?_) ?_
              · go_simp
                refine (HB2.out _ (grown_trans KA.out.1 (grown_drew (grown_refl _ _)))).mono ?_
                rintro E3 wB ⟨a1, k1, rfl, hi1, hg1, hf1, hl1⟩
                have HG1 : Hid (World.grownBy wA.drew wB none) := hg1
                have HX : Hid (Ints wB a1 (behSk r e.c).2 ∧ (∀ y, a1 = some y → (wA.drew).heap.size ≤ y.block) ∧ (behSk r e.c).2.length ≤ k1) := ⟨hi1, hf1, hl1⟩
                clear hi1 hg1 hf1 hl1
                obtain ⟨V, hV⟩ : ∃ V, V = wB.alloc (.cells #[.int .i64 (behSk r e.c).1, .slice a1 (behSk r e.c).2.length k1] 25) := ⟨_, rfl⟩
                have HV : Hid (V = _) := hV
                have hz := heap_alloc_new wB (.cells #[.int .i64 (behSk r e.c).1, .slice a1 (behSk r e.c).2.length k1] 25)
                rw [← hV] at hz
                have HD : Hid (V.cell? ⟨wB.heap.size, 0, none⟩ = some (.int .i64 (behSk r e.c).1) ∧ V.cell? ⟨wB.heap.size, 1, none⟩ = some (.slice a1 (behSk r e.c).2.length k1)) := ⟨by rw [cell_of_row _ _ 0 _ _ (0, 0) hz]; rfl, by rw [cell_of_row _ _ 1 _ _ (0, 0) hz]; rfl⟩
                have HGV : Hid (World.grownBy wB V none) := by rw [hV]; exact grown_alloc _ _
                clear hz hV
                have SV : Hid (KeepN ws V ⟨bl, ol + kk * 4, none⟩ ⟨bl, ol + kk * 4 + 1, none⟩ ⟨bl, ol + kk * 4 + 2, none⟩ ⟨bl, ol + kk * 4 + 3, none⟩ ⟨h9, i * 2, none⟩ ⟨h9, i * 2 + 1, none⟩ (.int .i64 r.F) (.int .i64 r.T) (.int .i64 r.O) (.slice ap r.P.length cp) (.int .i64 e.c.1) (.slice e.a e.c.2.length e.k)) := (KA.out.drew.call HG1.out).call HGV.out
                have HIV : Hid (Ints V a1 (behSk r e.c).2 ∧ (∀ y, a1 = some y → ws.heap.size ≤ y.block) ∧ (behSk r e.c).2.length ≤ k1) := ⟨HX.out.1.grown HGV.out, fun y hy => Nat.le_trans KA.out.1.size (HX.out.2.1 y hy), HX.out.2.2⟩
                go_wp2_with fail
                refine hK.out _ _ ((KA.out.drew.call HG1.out)) (fun hHeld => ?_)
                clear hK K'
                try simp only [Act.put, List.setIfInBounds_toArray, List.set_cons_zero, List.set_cons_succ]
                refine wpAnyH_ready (rs := [9]) (by kernel_rfl) (by simp) ?_
                refine AllReadyH.cons (o := _) rfl (fun K' hK => ?_) ?_
                · go_simp
                  refine hK.out _ _ (((KA.out.drew.call HG1.out).call (grown_alloc _ _))) (fun hHeld => ?_)
                  clear hK K'
                  try simp only [Act.put, List.setIfInBounds_toArray, List.set_cons_zero, List.set_cons_succ]
                  refine wpAnyH_ready (rs := [10]) (by kernel_rfl) (by simp) ?_
                  refine AllReadyH.cons (o := _) rfl (fun K' hK => ?_) ?_
                  · go_simp
                    rw [← HV.out]
                    refine hK.out _ _ (SV.out) (fun hHeld => ?_)
                    clear hK K'
                    try simp only [Act.put, List.setIfInBounds_toArray, List.set_cons_zero, List.set_cons_succ]
                    refine wpAnyH_done (by kernel_rfl) ?_ _
                    obtain ⟨dd0, dd1⟩ := HD.out
                    have STV : NrSt L cf (w.heap.size + 1 + 1) V (.slice (some ⟨h9, 0, none⟩) fs.length p9) (.slice (some ⟨h10, 0, none⟩) ts.length p10) fs ts := ST.out.kept SV.out.1
                    have hNe : NrC V (.slice (some ⟨h9, 0, none⟩) fs.length p9) (.slice (some ⟨h10, 0, none⟩) ts.length p10) ⟨behSk r e.c, a1, k1⟩ := by
                      refine ⟨HIV.out.1, HIV.out.2.2, ?_, fun h0 y hy => ?_⟩
                      · have h1 := HR.out.2
                        show (r.P ++ e.c.2.drop 1).length ≤ 40
                        rw [List.length_append, List.length_drop]
                        omega
                      · have h1 := HIV.out.2.1 y hy
                        have h2 := (ST.out.own.head.1.lt h9 rfl).2
                        have h3 := ((ST.out.own.perm (List.Perm.swap _ _ _)).head.1.lt h10 rfl).2
                        constructor
                        · show some h9 ≠ some y.block
                          simp
                          omega
                        · show some h10 ≠ some y.block
                          simp
                          omega
                    obtain ⟨a7, c7, g7, p7, w7, hv7, hrun7, hk7, st7⟩ := STV.add9 (by omega) hNe
                    cases hv7
                    have hlt : ts.length < (fs ++ [(⟨behSk r e.c, a1, k1⟩ : EsI)]).length := by rw [List.length_append, HTS.out.1]; simp
                    have hNs : NrS L cf ((fs ++ [(⟨behSk r e.c, a1, k1⟩ : EsI)]).getD ts.length es0).c (sv + 1) := by
                      rw [HTS.out.1, getD_app2]
                      obtain ⟨q0, q1, rs, hrs, hrl⟩ := HS5.out.1
                      have q2 := HS5.out.2
                      refine ⟨by omega, by omega, rs ++ [(kk : Int)], ?_, by simp; omega⟩
                      have h1 := runs_snoc hk1 hrs (HR.out.1.symm ▸ HCn.out)
                      rw [HR.out.1] at h1
                      exact h1
                    have z7 := st7.cell10 (i := i) (by have := HTS.out.1; omega)
                    rw [HTS.out.2.2] at z7
                    obtain ⟨a8, c8, g8, p8, w8, hv8, hrun8, hk8, st8⟩ := st7.add10 (by have := HTS.out.1; omega) hlt hNs
                    cases hv8
                    have GW3 : Hid (W2.grownBy w8 none) := hk8 W2 (Nat.le_of_eq S2.out) (hk7 W2 (Nat.le_of_eq S2.out) (grown_trans GR2.out SV.out.1))
                    have e7 : (fs ++ [(⟨behSk r e.c, a1, k1⟩ : EsI)]).length = fs.length + 1 := by simp
                    have e8 : (ts ++ [sv + 1]).length = ts.length + 1 := by simp
                    have STN : Hid (NrSt L cf (w.heap.size + 1 + 1) w8 (.slice (some ⟨g7, 0, none⟩) (fs.length + 1) p7) (.slice (some ⟨g8, 0, none⟩) (ts.length + 1) p8) (fs ++ [⟨behSk r e.c, a1, k1⟩]) (ts ++ [sv + 1])) := st8
                    have HRel : Hid ((fs ++ [(⟨behSk r e.c, a1, k1⟩ : EsI)]).length ≤ 400 + (kk + 1) ∧ i < (fs ++ [(⟨behSk r e.c, a1, k1⟩ : EsI)]).length ∧ (ts ++ [sv + 1]).length = (fs ++ [(⟨behSk r e.c, a1, k1⟩ : EsI)]).length ∧ (fs ++ [(⟨behSk r e.c, a1, k1⟩ : EsI)]).getD i es0 = e ∧ (ts ++ [sv + 1]).getD i 0 = sv) := by
                      have h1 := HTS.out
                      refine ⟨by omega, by omega, by omega, ?_, ?_⟩
                      · rw [getD_app1 _ _ _ hif]; exact h1.2.1
                      · rw [getD_app1 _ _ _ (by omega)]; exact h1.2.2
                    have w9 : IntKind.i64.wrap (sv + 1) = sv + 1 := by
                      have h1 := HS5.out.1
                      rw [IntKind.wrap_i64]
                      have := h1.1
                      have := h1.2.1
                      omega
                    clear st7 st8 hk7 hk8 hNe hNs hlt STV KA SV z2 ST HB2 q0 q1 q2 q3 q4 q5 HV HGV HG1 HX HIV HD e7 e8
                    obtain ⟨nb, hnb⟩ : ∃ nb, (behSk r e.c).2.length = nb := ⟨_, rfl⟩
                    obtain ⟨cb, hcb⟩ : ∃ cb, (behSk r e.c).1 = cb := ⟨_, rfl⟩
                    simp only [hnb, hcb] at dd0 dd1 hrun7
                    go_wp2_with fail
                    go_roundw
                    case rel => exact ⟨kk + 1, fs ++ [⟨behSk r e.c, a1, k1⟩], ts ++ [sv + 1], by go_num, by omega, HRel.out.1, HRel.out.2.1, HRel.out.2.2.1, HRel.out.2.2.2.1, HRel.out.2.2.2.2, GW3.out, STN.out⟩
                    case measure => simp [intOf]; omega
                  exact AllReadyH.nil
                exact AllReadyH.nil
              refine AllReadyH.cons (o := _) rfl (fun K' hK => ?_) ?_
              · go_simp
                refine hK.out _ _ ((KA.out.call (grown_drew (grown_alloc _ _)))) (fun hHeld => ?_)
                clear hK K'
                try simp only [Act.put, List.setIfInBounds_toArray, List.set_cons_zero, List.set_cons_succ]
                refine wpAnyH_ready (rs := [8]) (by kernel_rfl) (by simp) ?_
                refine AllReadyH.cons (o := _) rfl (fun K' hK => ?_) ?_
                · go_simp
                  refine (HB2.out _ (grown_trans KA.out.1 (grown_drew (grown_alloc _ _)))).mono ?_
                  rintro E3 wB ⟨a1, k1, rfl, hi1, hg1, hf1, hl1⟩
                  have HG1 : Hid (World.grownBy ((wA.alloc (.cells #[.int .i64 0, .slice none 0 0] 25)).drew) wB none) := hg1
                  have HX : Hid (Ints wB a1 (behSk r e.c).2 ∧ (∀ y, a1 = some y → (((wA.alloc (.cells #[.int .i64 0, .slice none 0 0] 25)).drew)).heap.size ≤ y.block) ∧ (behSk r e.c).2.length ≤ k1) := ⟨hi1, hf1, hl1⟩
                  clear hi1 hg1 hf1 hl1
                  have hz : wB.heap[wA.heap.size]? = some (.cells #[.int .i64 0, .slice none 0 0] 25 (0, 0)) := (HG1.out.block _ (show wA.heap.size < (wA.alloc (.cells #[.int .i64 0, .slice none 0 0] 25)).heap.size from by simp) (by simp)).trans (heap_alloc_new wA _)
                  obtain ⟨s0, s1, s2, s3, V, hV, hgV, d0, d1⟩ := cfg_store hz (behSk r e.c).1 (.slice a1 (behSk r e.c).2.length k1)
                  have HV : Hid (V = _) := hV
                  have HD : Hid (V.cell? ⟨wA.heap.size, 0, none⟩ = some (.int .i64 (behSk r e.c).1) ∧ V.cell? ⟨wA.heap.size, 1, none⟩ = some (.slice a1 (behSk r e.c).2.length k1)) := ⟨d0, d1⟩
                  have HGV : Hid (World.grownBy wB V (some wA.heap.size)) := hgV
                  clear hV hgV d0 d1
                  have SV : Hid (KeepN ws V ⟨bl, ol + kk * 4, none⟩ ⟨bl, ol + kk * 4 + 1, none⟩ ⟨bl, ol + kk * 4 + 2, none⟩ ⟨bl, ol + kk * 4 + 3, none⟩ ⟨h9, i * 2, none⟩ ⟨h9, i * 2 + 1, none⟩ (.int .i64 r.F) (.int .i64 r.T) (.int .i64 r.O) (.slice ap r.P.length cp) (.int .i64 e.c.1) (.slice e.a e.c.2.length e.k)) := (have g0 : wA.grownBy V none := grown_new (grown_trans (grown_drew (grown_alloc _ _)) HG1.out) HGV.out (Nat.le_refl _); KA.out.call g0)
                  have HIV : Hid (Ints V a1 (behSk r e.c).2 ∧ (∀ y, a1 = some y → ws.heap.size ≤ y.block) ∧ (behSk r e.c).2.length ≤ k1) := ⟨ints_own HX.out.1 (fun h0 y hy q => by have h1 := HX.out.2.1 y hy; have h2 : (((wA.alloc (.cells #[.int .i64 0, .slice none 0 0] 25)).drew).heap.size) = wA.heap.size + 1 := (by show (wA.alloc (.cells #[.int .i64 0, .slice none 0 0] 25)).heap.size = _; simp); have h3 : wA.heap.size = y.block := (by simpa using q); omega) HGV.out, fun y hy => by have h1 := HX.out.2.1 y hy; have h2 : (((wA.alloc (.cells #[.int .i64 0, .slice none 0 0] 25)).drew).heap.size) = wA.heap.size + 1 := (by show (wA.alloc (.cells #[.int .i64 0, .slice none 0 0] 25)).heap.size = _; simp); have h3 := KA.out.1.size; omega, HX.out.2.2⟩
                  go_wp2_with fail
                  refine hK.out _ _ ((KA.out.call (grown_trans (grown_drew (grown_alloc _ _)) HG1.out))) (fun hHeld => ?_)
                  clear hK K'
                  try simp only [Act.put, List.setIfInBounds_toArray, List.set_cons_zero, List.set_cons_succ]
                  refine wpAnyH_ready (rs := [10]) (by kernel_rfl) (by simp) ?_
                  refine AllReadyH.cons (o := _) rfl (fun K' hK => ?_) ?_
                  · go_simp
                    rw [← HV.out]
                    refine hK.out _ _ (SV.out) (fun hHeld => ?_)
                    clear hK K'
                    try simp only [Act.put, List.setIfInBounds_toArray, List.set_cons_zero, List.set_cons_succ]
                    refine wpAnyH_done (by kernel_rfl) ?_ _
                    obtain ⟨dd0, dd1⟩ := HD.out
                    have STV : NrSt L cf (w.heap.size + 1 + 1) V (.slice (some ⟨h9, 0, none⟩) fs.length p9) (.slice (some ⟨h10, 0, none⟩) ts.length p10) fs ts := ST.out.kept SV.out.1
                    have hNe : NrC V (.slice (some ⟨h9, 0, none⟩) fs.length p9) (.slice (some ⟨h10, 0, none⟩) ts.length p10) ⟨behSk r e.c, a1, k1⟩ := by
                      refine ⟨HIV.out.1, HIV.out.2.2, ?_, fun h0 y hy => ?_⟩
                      · have h1 := HR.out.2
                        show (r.P ++ e.c.2.drop 1).length ≤ 40
                        rw [List.length_append, List.length_drop]
                        omega
                      · have h1 := HIV.out.2.1 y hy
                        have h2 := (ST.out.own.head.1.lt h9 rfl).2
                        have h3 := ((ST.out.own.perm (List.Perm.swap _ _ _)).head.1.lt h10 rfl).2
                        constructor
                        · show some h9 ≠ some y.block
                          simp
                          omega
                        · show some h10 ≠ some y.block
                          simp
                          omega
                    obtain ⟨a7, c7, g7, p7, w7, hv7, hrun7, hk7, st7⟩ := STV.add9 (by omega) hNe
                    cases hv7
                    have hlt : ts.length < (fs ++ [(⟨behSk r e.c, a1, k1⟩ : EsI)]).length := by rw [List.length_append, HTS.out.1]; simp
                    have hNs : NrS L cf ((fs ++ [(⟨behSk r e.c, a1, k1⟩ : EsI)]).getD ts.length es0).c (sv + 1) := by
                      rw [HTS.out.1, getD_app2]
                      obtain ⟨q0, q1, rs, hrs, hrl⟩ := HS5.out.1
                      have q2 := HS5.out.2
                      refine ⟨by omega, by omega, rs ++ [(kk : Int)], ?_, by simp; omega⟩
                      have h1 := runs_snoc hk1 hrs (HR.out.1.symm ▸ HCn.out)
                      rw [HR.out.1] at h1
                      exact h1
                    have z7 := st7.cell10 (i := i) (by have := HTS.out.1; omega)
                    rw [HTS.out.2.2] at z7
                    obtain ⟨a8, c8, g8, p8, w8, hv8, hrun8, hk8, st8⟩ := st7.add10 (by have := HTS.out.1; omega) hlt hNs
                    cases hv8
                    have GW3 : Hid (W2.grownBy w8 none) := hk8 W2 (Nat.le_of_eq S2.out) (hk7 W2 (Nat.le_of_eq S2.out) (grown_trans GR2.out SV.out.1))
                    have e7 : (fs ++ [(⟨behSk r e.c, a1, k1⟩ : EsI)]).length = fs.length + 1 := by simp
                    have e8 : (ts ++ [sv + 1]).length = ts.length + 1 := by simp
                    have STN : Hid (NrSt L cf (w.heap.size + 1 + 1) w8 (.slice (some ⟨g7, 0, none⟩) (fs.length + 1) p7) (.slice (some ⟨g8, 0, none⟩) (ts.length + 1) p8) (fs ++ [⟨behSk r e.c, a1, k1⟩]) (ts ++ [sv + 1])) := st8
                    have HRel : Hid ((fs ++ [(⟨behSk r e.c, a1, k1⟩ : EsI)]).length ≤ 400 + (kk + 1) ∧ i < (fs ++ [(⟨behSk r e.c, a1, k1⟩ : EsI)]).length ∧ (ts ++ [sv + 1]).length = (fs ++ [(⟨behSk r e.c, a1, k1⟩ : EsI)]).length ∧ (fs ++ [(⟨behSk r e.c, a1, k1⟩ : EsI)]).getD i es0 = e ∧ (ts ++ [sv + 1]).getD i 0 = sv) := by
                      have h1 := HTS.out
                      refine ⟨by omega, by omega, by omega, ?_, ?_⟩
                      · rw [getD_app1 _ _ _ hif]; exact h1.2.1
                      · rw [getD_app1 _ _ _ (by omega)]; exact h1.2.2
                    have w9 : IntKind.i64.wrap (sv + 1) = sv + 1 := by
                      have h1 := HS5.out.1
                      rw [IntKind.wrap_i64]
                      have := h1.1
                      have := h1.2.1
                      omega
                    clear st7 st8 hk7 hk8 hNe hNs hlt STV KA SV z2 ST HB2 q0 q1 q2 q3 q4 q5 HV HGV HG1 HX HIV HD e7 e8
                    obtain ⟨nb, hnb⟩ : ∃ nb, (behSk r e.c).2.length = nb := ⟨_, rfl⟩
                    obtain ⟨cb, hcb⟩ : ∃ cb, (behSk r e.c).1 = cb := ⟨_, rfl⟩
                    simp only [hnb, hcb] at dd0 dd1 hrun7
                    go_wp2_with fail
                    go_roundw
                    case rel => exact ⟨kk + 1, fs ++ [⟨behSk r e.c, a1, k1⟩], ts ++ [sv + 1], by go_num, by omega, HRel.out.1, HRel.out.2.1, HRel.out.2.2.1, HRel.out.2.2.2.1, HRel.out.2.2.2.2, GW3.out, STN.out⟩
                    case measure => simp [intOf]; omega
                  exact AllReadyH.nil
                exact AllReadyH.nil
              exact AllReadyH.nil
          · have hk2 : ¬ (kk : Int) < (L.length : Int) := by omega
            go_wp2_with fail
            go_roundw
            case rel => exact ⟨i + 1, fs, ts, by go_num, by omega, by omega, by omega, HTS.out.1, GR2.out, ST.out⟩
            case measure => simp [intOf]; omega
    · have Fin : Hid (NearP L cf gl w (.returned (.bool false)) wr) := ⟨false, rfl, (fun q => by cases q), (HI.out wr GR.out).2.2.2.2⟩
      by_cases h1 : i < es.length
      · have h2 : ¬ (es.length : Int) < 400 := by omega
        have h3 : (i : Int) < (es.length : Int) := by omega
        clear ST
        go_wp2_with fail
        go_ret
        exact Fin.out
      · have h3 : ¬ (i : Int) < (es.length : Int) := by omega
        clear ST
        go_wp2_with fail
        go_ret
        exact Fin.out

end Go.Proofs.Ytcgkflddipflbaa
