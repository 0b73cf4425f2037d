/- The game of going down, as it is written: its box, its rows, how they grow. -/
import Derived.Test.YtnlkdihfoekjmaaGwSpec
import Derived.Test.YtnlkdihfoekjmaaGSolved
import Derived.Test.YtnlkdihfoekjmaaTrApp
import Derived.Test.YtnlkdihfoekjmaaJoin1
namespace Go.Proofs.Ytnlkdihfoekjmaa
open Go.RowKit
set_option linter.unusedVariables false

/-- A row that a box names has grown, and the box is told. -/
theorem Owns.field {B gb nb j n g' cap H : Nat} {tB e : TypeId} {us : List Value} {v x : Value} {xs : List Value} {r : List Item} {w0 w w' : World}
    (h : Owns B w ((tB, .slice (some ⟨gb, 0, none⟩) nb nb, us) :: (e, v, xs) :: r)) (hj : j < nb) (hn : xs.length = n)
    (ho : w'.ownsRow B e 1 (.slice (some ⟨g', 0, none⟩) (n + 1) cap) (n + 1) (xs ++ [x])) (hg : w.grownBy w' v.ownBlock) (hat : v.ownBlock = some g' ∨ g' = H) (hH : w.heap.size = H) (h0 : w0.grownBy w none) (hB : w0.heap.size ≤ B) :
    Owns B w' ((tB, .slice (some ⟨gb, 0, none⟩) nb nb, us) :: (e, .slice (some ⟨g', 0, none⟩) (n + 1) cap, xs ++ [x]) :: r) ∧ (∀ i u, us[i]? = some u → w'.cell? ⟨gb, i, none⟩ = some u) ∧ w'.frozen? ⟨gb, j, none⟩ = false ∧
    Owns B (w'.setCell ⟨gb, j, none⟩ (.slice (some ⟨g', 0, none⟩) (n + 1) cap)) ((tB, .slice (some ⟨gb, 0, none⟩) nb nb, us.set j (.slice (some ⟨g', 0, none⟩) (n + 1) cap)) :: (e, .slice (some ⟨g', 0, none⟩) (n + 1) cap, xs ++ [x]) :: r) ∧
    w0.grownBy (w'.setCell ⟨gb, j, none⟩ (.slice (some ⟨g', 0, none⟩) (n + 1) cap)) none := by
  have h1 := gat_2 h
  have h2 := h1.append (news := [x]) ho (by simp [hn]) hg hat hH
  have h3 := gat_2 h2
  exact ⟨h3, fun i u hu => h3.cell hu, h3.fz j, h3.set hj _, grown_new (h1.frame hB h0 hg) (grown_set _ _ _) (Nat.le_trans hB (h3.row.lt gb rfl).1)⟩

/-- A block of another kind is none of one's rows. -/
theorem Owns.farT {B : Nat} {w : World} {e t : TypeId} {v : Value} {xs : List Value} {r : List Item} {blk : Nat} {cs : Array Value} (h : Owns B w ((e, v, xs) :: r)) (hb : w.heap[blk]? = some (.cells cs t (0, 0))) (ht : t ≠ e) : some blk ≠ v.ownBlock := by
  intro e0
  rcases h.row.2 with ⟨e1, _⟩ | ⟨g, cap, cur, e1, _, e3, _⟩
  · rw [e1] at e0; cases e0
  · rw [e1] at e0
    have : blk = g := by simpa [Value.ownBlock] using e0
    subst this
    rw [e3] at hb
    cases hb
    exact ht rfl
/-- Boxes of rules stay. -/
def KpRu (W W' : World) : Prop := ∀ (blk : Nat) (cs : Array Value), W.heap[blk]? = some (.cells cs 47 (0, 0)) → W'.heap[blk]? = some (.cells cs 47 (0, 0))
theorem KpRu.trans {W W' W'' : World} (h : KpRu W W') (h' : KpRu W' W'') : KpRu W W'' := fun blk cs hb => h' blk cs (h blk cs hb)
theorem KpRu.of {W W' : World} (h : W.grownBy W' none) : KpRu W W' := fun blk cs hb => (h.block blk (Array.getElem?_eq_some_iff.1 hb).1 (by simp)).trans hb
theorem KpRu.row {B : Nat} {W W' : World} {e : TypeId} {v : Value} {xs : List Value} {r : List Item} (h : Owns B W ((e, v, xs) :: r)) (hg : W.grownBy W' v.ownBlock) (he : 47 ≠ e) : KpRu W W' := fun blk cs hb => (hg.block blk (Array.getElem?_eq_some_iff.1 hb).1 (h.farT hb he)).trans hb
theorem KpRu.set {B : Nat} {W : World} {e : TypeId} {gb n c i : Nat} {u : Value} {xs : List Value} {r : List Item} (h : Owns B W ((e, .slice (some ⟨gb, 0, none⟩) n c, xs) :: r)) (he : 47 ≠ e) : KpRu W (W.setCell ⟨gb, i, none⟩ u) := fun blk cs hb => by
  have hne := h.farT hb he
  exact (Below.heap_setCell _ _ _ _ (by simpa [Value.ownBlock] using hne)).trans hb

abbrev gbI (gb : Nat) (u0 u1 u2 : Value) : Item := (53, .slice (some ⟨gb, 0, none⟩) 3 3, [u0, u1, u2])
abbrev wnI (gw : Nat) : Item := (40, .slice (some ⟨gw, 0, none⟩) 2 2, [.slice none 0 0, .slice none 0 0])
/-- The game as it is written. -/
structure GmB (w0 : World) (B gb gw : Nat) (u0 u1 u2 : Value) (zo zm : List Int) (rs : List (Value × List Nat)) (w : World) : Prop where
  own : Owns B w (gbI gb u0 u1 u2 :: (23, u2, rs.map (·.1)) :: (gRows rs ++ [(3, u0, vals zo), (3, u1, vals zm), wnI gw]))
  gr : w0.grownBy w none
  lb : w0.heap.size ≤ B
  lz : B ≤ w.heap.size
section
variable {w0 w w' : World} {B gb gw : Nat} {u0 u1 u2 : Value} {zo zm : List Int} {rs : List (Value × List Nat)}
theorem GmB.kept (h : GmB w0 B gb gw u0 u1 u2 zo zm rs w) (hg : w.grownBy w' none) : GmB w0 B gb gw u0 u1 u2 zo zm rs w' := ⟨h.own.kept hg, grown_trans h.gr hg, h.lb, Nat.le_trans h.lz hg.size⟩
theorem GmB.cells (h : GmB w0 B gb gw u0 u1 u2 zo zm rs w) : w.cell? ⟨gb, 0, none⟩ = some u0 ∧ w.cell? ⟨gb, 1, none⟩ = some u1 ∧ w.cell? ⟨gb, 2, none⟩ = some u2 := ⟨h.own.cell (i := 0) rfl, h.own.cell (i := 1) rfl, h.own.cell (i := 2) rfl⟩
theorem GmB.forms (h : GmB w0 B gb gw u0 u1 u2 zo zm rs w) : (∃ a c, u0 = .slice a zo.length c) ∧ (∃ a c, u1 = .slice a zm.length c) ∧ (∃ a c, u2 = .slice a rs.length c) := by
  obtain ⟨_, a0, c0, e0⟩ := h.own.1 (3, u0, vals zo) (by simp)
  obtain ⟨_, a1, c1, e1⟩ := h.own.1 (3, u1, vals zm) (by simp)
  obtain ⟨_, a2, c2, e2⟩ := h.own.1 (23, u2, rs.map (·.1)) (by simp)
  exact ⟨⟨a0, c0, by simpa using e0⟩, ⟨a1, c1, by simpa using e1⟩, ⟨a2, c2, by simpa using e2⟩⟩
theorem gw_toO {B : Nat} {w : World} {a b x y z : Item} {R : List Item} : Owns B w (a :: b :: (R ++ [x, y, z])) ↔ Owns B w (a :: x :: (b :: (R ++ [y, z]))) :=
  ⟨fun h => h.perm (List.Perm.cons a (List.perm_middle (l₁ := b :: R))), fun h => h.perm (List.Perm.cons a (List.perm_middle (l₁ := b :: R)).symm)⟩
theorem gw_toM {B : Nat} {w : World} {a b x y z : Item} {R : List Item} : Owns B w (a :: b :: (R ++ [x, y, z])) ↔ Owns B w (a :: y :: (b :: (R ++ [x, z]))) := by
  have e : (b :: (R ++ [x, y, z])).Perm (y :: (b :: (R ++ [x, z]))) := by
    have := List.perm_middle (l₁ := b :: (R ++ [x])) (l₂ := [z]) (a := y)
    simpa using this
  exact ⟨fun h => h.perm (List.Perm.cons a e), fun h => h.perm (List.Perm.cons a e.symm)⟩
theorem run_push (W : World) (B k n : Nat) (v : Value) (xs : List Int) (x : Int) (hO : W.ownsRow B 3 1 v n (vals xs)) (hn : n ≤ 1000) (hx : xs.length = n) (hs : W.heap.size = k + 1) (hk : B ≤ k) (hN : W.cell? ⟨k, 0, none⟩ = some (.int .i64 x)) :
    ∃ g' cap w5, (AppS #[23, 23] 23 #[v, .slice (some ⟨k, 0, none⟩) 1 1]).run Try.prog W = .ok (.slice (some ⟨g', 0, none⟩) (n + 1) cap) w5 ∧ w5.ownsRow B 3 1 (.slice (some ⟨g', 0, none⟩) (n + 1) cap) (n + 1) (vals xs ++ [.int .i64 x]) ∧ W.grownBy w5 v.ownBlock ∧ (v.ownBlock = some g' ∨ g' = k + 1) := by
  obtain ⟨i0, hio, hz0, hz1, hz2⟩ := info_parts Try.infoI3
  obtain ⟨g', cap, w5, h1, h2, h3, h4, _⟩ := run_append_lies (P := Try.prog) W 23 23 B 3 i0 (.int .i64 0) 1 8 Try.underlying23 hio hz0 hz1 hz2 rfl (by decide) v n (vals xs) hO ⟨k, 0, none⟩ 1 1 [.int .i64 x] rfl (fun j u hu => by
    match j, hu with
    | 0, hu => simp at hu; subst hu; exact hN) (by intro u hu; simp at hu; subst hu; rfl) (by omega) (by unfold maxLen; omega) (by omega) (by omega) (k + 1) hs
  exact ⟨g', cap, w5, h1, h2, h3, h4⟩
theorem run_pushS (W : World) (B k n : Nat) (v : Value) (xs : List Value) (x : Value) (hx0 : ∃ a m c, x = .slice a m c) (hO : W.ownsRow B 23 1 v n xs) (hn : n ≤ 1000) (hx : xs.length = n) (hs : W.heap.size = k + 1) (hk : B ≤ k) (hN : W.cell? ⟨k, 0, none⟩ = some x) :
    ∃ g' cap w5, (AppS #[49, 49] 49 #[v, .slice (some ⟨k, 0, none⟩) 1 1]).run Try.prog W = .ok (.slice (some ⟨g', 0, none⟩) (n + 1) cap) w5 ∧ w5.ownsRow B 23 1 (.slice (some ⟨g', 0, none⟩) (n + 1) cap) (n + 1) (xs ++ [x]) ∧ W.grownBy w5 v.ownBlock ∧ (v.ownBlock = some g' ∨ g' = k + 1) := by
  obtain ⟨i0, hio, hz0, hz1, hz2⟩ := info_parts Try.infoS22
  obtain ⟨g', cap, w5, h1, h2, h3, h4, _⟩ := run_append_lies (P := Try.prog) W 49 49 B 23 i0 (.slice none 0 0) 1 24 Try.underlying49 hio hz0 hz1 hz2 rfl (by decide) v n xs hO ⟨k, 0, none⟩ 1 1 [x] rfl (fun j u hu => by
    match j, hu with
    | 0, hu => simp at hu; subst hu; exact hN) (by intro u hu; simp at hu; subst hu; obtain ⟨a, m, c, rfl⟩ := hx0; rfl) (by omega) (by unfold maxLen; omega) (by omega) (by omega) (k + 1) hs
  exact ⟨g', cap, w5, h1, h2, h3, h4⟩
/-- An owner is put behind. -/
theorem GmB.pushO (h : GmB w0 B gb gw u0 u1 u2 zo zm rs w) {W : World} {x : Int} {k : Nat} (hg : w.grownBy W none) (hk : B ≤ k) (hs : W.heap.size = k + 1) (hN : W.cell? ⟨k, 0, none⟩ = some (.int .i64 x)) (hl : zo.length ≤ 1000) :
    ∃ g' cap w5, (AppS #[23, 23] 23 #[u0, .slice (some ⟨k, 0, none⟩) 1 1]).run Try.prog W = .ok (.slice (some ⟨g', 0, none⟩) (zo.length + 1) cap) w5 ∧ w5.cell? ⟨gb, 0, none⟩ = some u0 ∧ w5.frozen? ⟨gb, 0, none⟩ = false ∧
      GmB w0 B gb gw (.slice (some ⟨g', 0, none⟩) (zo.length + 1) cap) u1 u2 (zo ++ [x]) zm rs (w5.setCell ⟨gb, 0, none⟩ (.slice (some ⟨g', 0, none⟩) (zo.length + 1) cap)) ∧ KpRu W w5 ∧ KpRu W (w5.setCell ⟨gb, 0, none⟩ (.slice (some ⟨g', 0, none⟩) (zo.length + 1) cap)) := by
  have hK := h.kept hg
  have hO := gw_toO.1 hK.own
  have hr := (gat_2 hO).row
  rw [vals_len] at hr
  obtain ⟨g', cap, w5, h1, h2, h3, h4⟩ := run_push W B k zo.length u0 zo x hr hl rfl hs hk hN
  obtain ⟨cw, c1, c2, c3, c4⟩ := hO.field (j := 0) (by omega) (vals_len zo) h2 h3 h4 hs hK.gr h.lb
  refine ⟨g', cap, w5, h1, c1 0 _ rfl, c2, ⟨gw_toO.2 ?_, c4, h.lb, ?_⟩, KpRu.row (gat_2 hO) h3 (by decide), (KpRu.row (gat_2 hO) h3 (by decide)).trans (KpRu.set cw (by decide))⟩
  · rw [vals_snoc] at c3; simpa using c3
  · have := h3.size; simp [World.setCell]; omega
/-- A mark is put behind. -/
theorem GmB.pushM (h : GmB w0 B gb gw u0 u1 u2 zo zm rs w) {W : World} {x : Int} {k : Nat} (hg : w.grownBy W none) (hk : B ≤ k) (hs : W.heap.size = k + 1) (hN : W.cell? ⟨k, 0, none⟩ = some (.int .i64 x)) (hl : zm.length ≤ 1000) :
    ∃ g' cap w5, (AppS #[23, 23] 23 #[u1, .slice (some ⟨k, 0, none⟩) 1 1]).run Try.prog W = .ok (.slice (some ⟨g', 0, none⟩) (zm.length + 1) cap) w5 ∧ w5.cell? ⟨gb, 1, none⟩ = some u1 ∧ w5.frozen? ⟨gb, 1, none⟩ = false ∧
      GmB w0 B gb gw u0 (.slice (some ⟨g', 0, none⟩) (zm.length + 1) cap) u2 zo (zm ++ [x]) rs (w5.setCell ⟨gb, 1, none⟩ (.slice (some ⟨g', 0, none⟩) (zm.length + 1) cap)) ∧ KpRu W w5 ∧ KpRu W (w5.setCell ⟨gb, 1, none⟩ (.slice (some ⟨g', 0, none⟩) (zm.length + 1) cap)) := by
  have hK := h.kept hg
  have hO := gw_toM.1 hK.own
  have hr := (gat_2 hO).row
  rw [vals_len] at hr
  obtain ⟨g', cap, w5, h1, h2, h3, h4⟩ := run_push W B k zm.length u1 zm x hr hl rfl hs hk hN
  obtain ⟨cw, c1, c2, c3, c4⟩ := hO.field (j := 1) (by omega) (vals_len zm) h2 h3 h4 hs hK.gr h.lb
  refine ⟨g', cap, w5, h1, c1 1 _ rfl, c2, ⟨gw_toM.2 ?_, c4, h.lb, ?_⟩, KpRu.row (gat_2 hO) h3 (by decide), (KpRu.row (gat_2 hO) h3 (by decide)).trans (KpRu.set cw (by decide))⟩
  · rw [vals_snoc] at c3; simpa using c3
  · have := h3.size; simp [World.setCell]; omega
/-- A row of one's own comes to it. -/
theorem Owns.addRow {B : Nat} {w : World} {a b : Item} {rs : List (Value × List Nat)} {D : List Item} {v : Value} {l : List Nat} (h : Owns B w ((3, v, nvals l) :: a :: b :: (gRows rs ++ D))) : Owns B w (a :: b :: (gRows (rs ++ [(v, l)]) ++ D)) := by
  refine h.perm ?_
  have e : a :: b :: (gRows (rs ++ [(v, l)]) ++ D) = (a :: b :: gRows rs) ++ (3, v, nvals l) :: D := by simp [gRows]
  rw [e]
  exact (List.perm_middle (l₁ := a :: b :: gRows rs)).symm
/-- A row of moves is put behind. -/
theorem GmB.pushN (h : GmB w0 B gb gw u0 u1 u2 zo zm rs w) {W : World} {v : Value} {l : List Nat} {k : Nat} (hg : w.grownBy W none) (hO : Owns B W ((3, v, nvals l) :: gbI gb u0 u1 u2 :: (23, u2, rs.map (·.1)) :: (gRows rs ++ [(3, u0, vals zo), (3, u1, vals zm), wnI gw]))) (hk : B ≤ k) (hs : W.heap.size = k + 1) (hN : W.cell? ⟨k, 0, none⟩ = some v) (hl : rs.length ≤ 1000) :
    ∃ g' cap w5, (AppS #[49, 49] 49 #[u2, .slice (some ⟨k, 0, none⟩) 1 1]).run Try.prog W = .ok (.slice (some ⟨g', 0, none⟩) (rs.length + 1) cap) w5 ∧ w5.cell? ⟨gb, 2, none⟩ = some u2 ∧ w5.frozen? ⟨gb, 2, none⟩ = false ∧
      GmB w0 B gb gw u0 u1 (.slice (some ⟨g', 0, none⟩) (rs.length + 1) cap) zo zm (rs ++ [(v, l)]) (w5.setCell ⟨gb, 2, none⟩ (.slice (some ⟨g', 0, none⟩) (rs.length + 1) cap)) ∧ KpRu W w5 ∧ KpRu W (w5.setCell ⟨gb, 2, none⟩ (.slice (some ⟨g', 0, none⟩) (rs.length + 1) cap)) := by
  have hA := hO.addRow
  obtain ⟨_, a, c, ev⟩ := hO.head
  have hr := (gat_2 hA).row
  have hlen : (rs.map (·.1)).length = rs.length := by simp
  rw [hlen] at hr
  obtain ⟨g', cap, w5, h1, h2, h3, h4⟩ := run_pushS W B k rs.length u2 (rs.map (·.1)) v ⟨a, _, c, ev⟩ hr hl (by simp) hs hk hN
  obtain ⟨cw, c1, c2, c3, c4⟩ := hA.field (j := 2) (by omega) (by simp) h2 h3 h4 hs (grown_trans h.gr hg) h.lb
  refine ⟨g', cap, w5, h1, c1 2 _ rfl, c2, ⟨?_, c4, h.lb, ?_⟩, KpRu.row (gat_2 hA) h3 (by decide), (KpRu.row (gat_2 hA) h3 (by decide)).trans (KpRu.set cw (by decide))⟩
  · simpa using c3
  · have := h3.size; simp [World.setCell]; omega
/-- A move is put behind, in one of the rows. -/
theorem GmB.pushR (h : GmB w0 B gb gw u0 u1 u2 zo zm rs w) {W : World} {i k t : Nat} (hg : w.grownBy W none) (hk : B ≤ k) (hs : W.heap.size = k + 1) (hN : W.cell? ⟨k, 0, none⟩ = some (.int .i64 (i : Int))) (ht : t < rs.length) (hl : ∀ x, x ∈ rs → x.2.length ≤ 1000) :
    ∃ gm c2 av cv g' cap w5, u2 = .slice (some ⟨gm, 0, none⟩) rs.length c2 ∧ w.cell? ⟨gm, t, none⟩ = some (.slice av (rs.getD t (.slice none 0 0, [])).2.length cv) ∧
      (AppS #[23, 23] 23 #[.slice av (rs.getD t (.slice none 0 0, [])).2.length cv, .slice (some ⟨k, 0, none⟩) 1 1]).run Try.prog W = .ok (.slice (some ⟨g', 0, none⟩) ((rs.getD t (.slice none 0 0, [])).2.length + 1) cap) w5 ∧
      w5.cell? ⟨gm, t, none⟩ = some (.slice av (rs.getD t (.slice none 0 0, [])).2.length cv) ∧ w5.frozen? ⟨gm, t, none⟩ = false ∧ w5.cell? ⟨gb, 2, none⟩ = some u2 ∧
      GmB w0 B gb gw u0 u1 u2 zo zm (rs.set t (.slice (some ⟨g', 0, none⟩) ((rs.getD t (.slice none 0 0, [])).2.length + 1) cap, (rs.getD t (.slice none 0 0, [])).2 ++ [i])) (w5.setCell ⟨gm, t, none⟩ (.slice (some ⟨g', 0, none⟩) ((rs.getD t (.slice none 0 0, [])).2.length + 1) cap))  ∧ KpRu W w5 ∧ KpRu W (w5.setCell ⟨gm, t, none⟩ (.slice (some ⟨g', 0, none⟩) ((rs.getD t (.slice none 0 0, [])).2.length + 1) cap)) ∧ w0.grownBy w5 none := by
  have hK := h.kept hg
  obtain ⟨gm, c2, e2, _⟩ := (gat_2 h.own).form (by simpa using Nat.lt_of_le_of_lt (Nat.zero_le _) ht)
  have e2' : u2 = .slice (some ⟨gm, 0, none⟩) rs.length c2 := by simpa using e2
  clear e2
  subst e2'
  obtain ⟨v, xs, hvx⟩ : ∃ v xs, rs.getD t (.slice none 0 0, []) = (v, xs) := ⟨_, _, rfl⟩
  have hry : rs[t]? = some (v, xs) := by rw [← hvx]; simp [List.getD, ht]
  have hvm : (3, v, nvals xs) ∈ gRows rs := List.mem_map.2 ⟨(v, xs), List.mem_of_getElem? hry, rfl⟩
  obtain ⟨hro, av, cv, hav⟩ := hK.own.1 _ (List.mem_append_right [_, _] (List.mem_append_left _ hvm))
  simp only [nvals_len] at hav hro
  subst hav
  have hxl := hl _ (List.mem_of_getElem? hry)
  have hro' : W.ownsRow B 3 1 (.slice av xs.length cv) xs.length (vals (xs.map (fun (n : Nat) => (n : Int)))) := by
    have e : vals (xs.map (fun (n : Nat) => (n : Int))) = nvals xs := by simp [vals, nvals]
    rw [e]; exact hro
  obtain ⟨g', cap, w5, h1, h2, h3, h4⟩ := run_push W B k xs.length (.slice av xs.length cv) (xs.map (fun (n : Nat) => (n : Int))) i hro' hxl (by simp) hs hk hN
  have e : vals (xs.map (fun (n : Nat) => (n : Int))) = nvals xs := by simp [vals, nvals]
  rw [e] at h2
  obtain ⟨p1, p2, p3, p4, p5⟩ := from_push (w0 := w0) hK.own ht rfl hvx rfl h2 h3 h4 hs hK.gr h.lb
  have q1 := (gat_2 h.own).cell (i := t) (u := .slice av xs.length cv) (by rw [List.getElem?_map, hry]; rfl)
  -- the row first
  have hfirst : Owns B W ((3, .slice av xs.length cv, nvals xs) :: []) := owns_sub hK.own (List.singleton_sublist.2 (by simp only [List.mem_cons, List.mem_append]; exact .inr (.inr (.inl hvm))))
  have kr : KpRu W w5 := KpRu.row hfirst h3 (by decide)
  have own5 : w0.grownBy w5 none := hfirst.frame h.lb hK.gr h3
  have hcell5 : ∃ cs, w5.heap[gm]? = some (.cells cs 23 (0, 0)) := by
    rcases (gat_2 hK.own).row.2 with ⟨e1, _⟩ | ⟨g, cap', cur, e1, _, e3, _⟩
    · cases e1
    · have eg : gm = g := by simp at e1; exact e1.1
      subst eg
      exact ⟨cur, (h3.block gm (Array.getElem?_eq_some_iff.1 e3).1 (hfirst.farT e3 (by decide))).trans e3⟩
  have kr2 : KpRu w5 (w5.setCell ⟨gm, t, none⟩ (.slice (some ⟨g', 0, none⟩) (xs.length + 1) cap)) := fun blk cs hb => by
    obtain ⟨cs', hcs⟩ := hcell5
    refine (Below.heap_setCell _ _ _ _ ?_).trans hb
    intro e
    have e' : blk = gm := e
    subst e'
    rw [hcs] at hb
    cases hb
  refine ⟨gm, c2, av, cv, g', cap, w5, rfl, ?_, ?_, ?_, p2, ?_, ?_, kr, by rw [hvx]; exact kr.trans kr2, own5⟩
  · rw [hvx]; exact q1
  · rw [hvx]; exact h1
  · rw [hvx]; exact p1
  · exact p3 gb 3 3 _ 2 _ rfl rfl
  · rw [hvx]
    refine ⟨?_, p5, h.lb, ?_⟩
    · simpa using p4
    · have := h3.size; simp [World.setCell]; omega
theorem GmB.rowAt (h : GmB w0 B gb gw u0 u1 u2 zo zm rs w) {t : Nat} (ht : t < rs.length) : ∃ gm c2 av cv, u2 = .slice (some ⟨gm, 0, none⟩) rs.length c2 ∧ w.cell? ⟨gm, t, none⟩ = some (.slice av (rs.getD t (.slice none 0 0, [])).2.length cv) := by
  obtain ⟨gm, c2, e2, _⟩ := (gat_2 h.own).form (by simpa using Nat.lt_of_le_of_lt (Nat.zero_le _) ht)
  have e2' : u2 = .slice (some ⟨gm, 0, none⟩) rs.length c2 := by simpa using e2
  clear e2
  subst e2'
  obtain ⟨v, xs, hvx⟩ : ∃ v xs, rs.getD t (.slice none 0 0, []) = (v, xs) := ⟨_, _, rfl⟩
  have hry : rs[t]? = some (v, xs) := by rw [← hvx]; simp [List.getD, ht]
  have hvm : (3, v, nvals xs) ∈ gRows rs := List.mem_map.2 ⟨(v, xs), List.mem_of_getElem? hry, rfl⟩
  obtain ⟨_, av, cv, hav⟩ := h.own.1 _ (List.mem_append_right [_, _] (List.mem_append_left _ hvm))
  simp only [nvals_len] at hav
  subst hav
  have q1 := (gat_2 h.own).cell (i := t) (u := .slice av xs.length cv) (by rw [List.getElem?_map, hry]; rfl)
  exact ⟨gm, c2, av, cv, rfl, by rw [hvx]; exact q1⟩
end

end Go.Proofs.Ytnlkdihfoekjmaa
