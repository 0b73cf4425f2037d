/- The game of going down, list by list: what is written when. -/
import Derived.Test.YtnlkdihfoekjmaaGwLose
namespace Go.Proofs.Ytnlkdihfoekjmaa
open Go.RowKit
set_option linter.unusedVariables false

def mk0W (x : Trs) (N p : Nat) : Int := if p < N then x.M.getD p 0 else x.M.getD (toW x (p - N)) 0
def rowW (x : Trs) (N i p : Nat) : List Nat := if p < N then (rlW x i p).map (N + ·) else riL (lfW x (p - N)) (rgW x (p - N))
def mk3W (x : Trs) (N s p : Nat) : Int := if p < s ∧ rlW x x.R.length p = [] then 1 else mk0W x N p
def row3W (x : Trs) (N s p : Nat) : List Nat := if p < s ∧ rlW x x.R.length p = [] then [p] else rowW x N x.R.length p
def lstW {α : Type} (f : Nat → α) (k : Nat) : List α := (List.range k).map f
theorem lstW_len {α : Type} (f : Nat → α) (k : Nat) : (lstW f k).length = k := by simp [lstW]
theorem lstW_snoc {α : Type} (f : Nat → α) (k : Nat) : lstW f k ++ [f k] = lstW f (k + 1) := by simp [lstW, List.range_succ]
theorem lstW_get {α : Type} (f : Nat → α) {k i : Nat} (d : α) (h : i < k) : (lstW f k).getD i d = f i := by simp [lstW, List.getD, h]
theorem lstW_set {α : Type} {f g : Nat → α} {k t : Nat} {v : α} (ht : t < k) (h1 : g t = v) (h2 : ∀ p, p < k → p ≠ t → g p = f p) : (lstW f k).set t v = lstW g k := by
  apply List.ext_getElem (by simp [lstW])
  intro i a b
  have hi : i < k := by simpa [lstW] using b
  rw [List.getElem_set]
  by_cases e : t = i
  · subst e; simp [lstW, h1]
  · simp only [e, if_false]
    simp [lstW, h2 i hi (Ne.symm e)]
theorem lstW_congr {α : Type} {f g : Nat → α} {k : Nat} (h : ∀ p, p < k → f p = g p) : lstW f k = lstW g k := List.map_congr_left fun p hp => h p (List.mem_range.1 hp)
section
variable {x : Trs} {N : Nat}
theorem rowW_zero {p : Nat} (h : p < N) : rowW x N 0 p = [] := by unfold rowW; rw [if_pos h]; simp [rlW]
theorem rowW_new (i j : Nat) : rowW x N j (N + i) = riL (lfW x i) (rgW x i) := by unfold rowW; rw [if_neg (by omega), Nat.add_sub_cancel_left]
theorem rowW_put {i : Nat} (ht : toW x i < N) : rowW x N (i + 1) (toW x i) = rowW x N i (toW x i) ++ [N + i] := by
  unfold rowW
  rw [if_pos ht, if_pos ht, rlW_succ]
  simp
theorem rowW_oth {i p : Nat} (h : p ≠ toW x i) : rowW x N (i + 1) p = rowW x N i p := by
  unfold rowW
  split
  · rw [rlW_succ, if_neg (Ne.symm h), List.append_nil]
  · rfl
theorem row3_zero (p : Nat) : row3W x N 0 p = rowW x N x.R.length p := by unfold row3W; rw [if_neg (by omega)]
theorem mk3_zero (p : Nat) : mk3W x N 0 p = mk0W x N p := by unfold mk3W; rw [if_neg (by omega)]
theorem row3_now {s : Nat} (hs : s < N) : row3W x N s s = (rlW x x.R.length s).map (N + ·) := by unfold row3W rowW; rw [if_neg (by omega), if_pos hs]
theorem row3_skip {s p : Nat} (h : rlW x x.R.length s ≠ []) : row3W x N (s + 1) p = row3W x N s p ∧ mk3W x N (s + 1) p = mk3W x N s p := by
  unfold row3W mk3W
  by_cases e : p = s
  · subst e
    rw [if_neg (fun hh => h hh.2), if_neg (fun hh => h hh.2), if_neg (fun hh => h hh.2), if_neg (fun hh => h hh.2)]
    exact ⟨rfl, rfl⟩
  · by_cases hp : p < s
    · simp [hp, show p < s + 1 by omega]
    · simp [hp, show ¬ p < s + 1 by omega]
theorem row3_put {s : Nat} (h : rlW x x.R.length s = []) : row3W x N (s + 1) s = [s] ∧ mk3W x N (s + 1) s = 1 ∧ ∀ p, p ≠ s → row3W x N (s + 1) p = row3W x N s p ∧ mk3W x N (s + 1) p = mk3W x N s p := by
  unfold row3W mk3W
  refine ⟨by rw [if_pos ⟨by omega, h⟩], by rw [if_pos ⟨by omega, h⟩], fun p hp => ?_⟩
  by_cases hq : p < s
  · simp [hq, show p < s + 1 by omega]
  · simp [hq, show ¬ p < s + 1 by omega]
theorem row3_end {p : Nat} (hp : p < N + x.R.length) : row3W x N N p = gwNx x N p ∧ mk3W x N N p = gwMk x N p := by
  unfold row3W mk3W gwNx gwMk rowW mk0W
  by_cases h : p < N
  · by_cases hr : rlW x x.R.length p = []
    · simp [h, hr]
    · simp [h, hr]
  · simp [h]
theorem owL_end (k : Nat) : lstW (gwOw N) k = lstW (fun p => (gwG x N).own p) k := rfl
end
/-- The game that is written is the game of going down. -/
theorem gmB_at {x : Trs} {N gb gw B n : Nat} {u0 u1 u2 : Value} {rs : List (Value × List Nat)} {w0 w : World} (hn : N + x.R.length = n) (h1 : 1 ≤ n) (h : GmB w0 B gb gw u0 u1 u2 (lstW (gwOw N) n) (lstW (gwMk x N) n) rs w) (hr : rs.map (·.2) = lstW (gwNx x N) n) :
    ∃ Bx : Box, GmAt w (gwG x N) Bx ∧ u0 = u0B Bx n ∧ u1 = u1B Bx n ∧ u2 = u2B Bx n := by
  have hrl : rs.length = n := by have := congrArg List.length hr; simpa [lstW] using this
  obtain ⟨g0, c0, e0, _⟩ := (gat_2 (gw_toO.1 h.own)).form (by rw [vals_len, lstW_len]; omega)
  obtain ⟨g1, c1, e1, _⟩ := (gat_2 (gw_toM.1 h.own)).form (by rw [vals_len, lstW_len]; omega)
  obtain ⟨g2, c2, e2, _⟩ := (gat_2 h.own).form (by simp; omega)
  rw [vals_len, lstW_len] at e0 e1
  simp only [List.length_map, hrl] at e2
  subst e0 e1 e2
  refine ⟨⟨0, 0, 0, g0, 0, c0, g1, 0, c1, g2, 0, c2, fun p => match (rs.getD p (.slice none 0 0, [])).1 with | .slice a _ _ => a | _ => none, fun p => match (rs.getD p (.slice none 0 0, [])).1 with | .slice _ _ c => c | _ => 0, 0, 0, 0, fun _ => none, fun _ => 0⟩, ⟨fun p hp => ?_, fun p hp => ?_, fun p hp => ?_⟩, rfl, rfl, rfl⟩
  · have hp' : p < n := by rw [← hn]; exact hp
    have := (gat_2 (gw_toO.1 h.own)).cell (i := p) (vals_get (by rw [lstW_len]; exact hp'))
    rw [lstW_get _ _ hp'] at this
    show w.cell? ⟨g0, 0 + p, none⟩ = _
    rw [Nat.zero_add]; exact this
  · have hp' : p < n := by rw [← hn]; exact hp
    have := (gat_2 (gw_toM.1 h.own)).cell (i := p) (vals_get (by rw [lstW_len]; exact hp'))
    rw [lstW_get _ _ hp'] at this
    show w.cell? ⟨g1, 0 + p, none⟩ = _
    rw [Nat.zero_add]; exact this
  · have hp' : p < n := by rw [← hn]; exact hp
    have hpr : p < rs.length := by omega
    obtain ⟨v, xs, hvx⟩ : ∃ v xs, rs.getD p (.slice none 0 0, []) = (v, xs) := ⟨_, _, rfl⟩
    have hry : rs[p]? = some (v, xs) := by rw [← hvx]; simp [List.getD, hpr]
    have hxs : xs = gwNx x N p := by
      have h1 := congrArg (fun z => z[p]?) hr
      simpa [hry, lstW, hp'] using h1
    have hvm : (3, v, nvals xs) ∈ gRows rs := List.mem_map.2 ⟨(v, xs), List.mem_of_getElem? hry, rfl⟩
    obtain ⟨_, av, cv, hav⟩ := h.own.1 _ (List.mem_append_right [_, _] (List.mem_append_left _ hvm))
    simp only [nvals_len] at hav
    subst hav
    have hc := (gat_2 h.own).cell (i := p) (u := .slice av xs.length cv) (by rw [List.getElem?_map, hry]; rfl)
    have hs : Owns B w [(3, Value.slice av xs.length cv, nvals xs)] := owns_sub h.own (List.singleton_sublist.2 (by simp only [List.mem_cons, List.mem_append]; exact .inr (.inr (.inl hvm))))
    simp only [hvx]
    subst hxs
    refine ⟨?_, hs.nats.2⟩
    show w.cell? ⟨g2, 0 + p, none⟩ = _
    rw [Nat.zero_add]; exact hc

theorem one_cell (w : World) (v : Value) (t : TypeId) : w.grownBy (w.alloc (.cells #[v] t)) none ∧ (w.alloc (.cells #[v] t)).heap.size = w.heap.size + 1 ∧ (w.alloc (.cells #[v] t)).cell? ⟨w.heap.size, 0, none⟩ = some v := by
  refine ⟨grown_alloc _ _, World.size_alloc _ _, ?_⟩
  rw [cell_of_row _ _ 0 _ _ (0, 0) (heap_alloc_new w (.cells #[v] t))]; rfl
theorem rowW_len {x : Trs} {N i : Nat} (h : i ≤ 60) (p : Nat) : (rowW x N i p).length ≤ 1000 := by
  unfold rowW
  split
  · rw [List.length_map]
    have := List.length_filter_le (fun j => decide (toW x j = p)) (List.range i)
    rw [List.length_range] at this
    unfold rlW; omega
  · unfold riL; split
    · simp
    · split <;> simp
/-- A rule is put behind, in the row of its state. -/
theorem GmB.rule {x : Trs} {N i n t : Nat} {w0 w : World} {B gb gw : Nat} {u0 u1 u2 : Value} {zo zm : List Int} {rs : List (Value × List Nat)} (h : GmB w0 B gb gw u0 u1 u2 zo zm rs w) (hr : rs.map (·.2) = lstW (rowW x N i) n) (hn : N ≤ n) (ht : toW x i = t) (htN : t < N) (hi : i ≤ 60) :
    ∃ gm cg av cv, u2 = .slice (some ⟨gm, 0, none⟩) n cg ∧ ∀ w9, w.grownBy w9 none → w9.cell? ⟨gm, t, none⟩ = some (.slice av (rowW x N i t).length cv) ∧ ∃ g5 c5 w5,
      (AppS #[23, 23] 23 #[.slice av (rowW x N i t).length cv, .slice (some ⟨w9.heap.size, 0, none⟩) 1 1]).run Try.prog (w9.alloc (.cells #[.int .i64 ((N + i : Nat) : Int)] 3)) = .ok (.slice (some ⟨g5, 0, none⟩) ((rowW x N i t).length + 1) c5) w5 ∧ w5.cell? ⟨gm, t, none⟩ = some (.slice av (rowW x N i t).length cv) ∧ w5.frozen? ⟨gm, t, none⟩ = false ∧ w5.cell? ⟨gb, 2, none⟩ = some u2 ∧
      (∃ rs5, GmB w0 B gb gw u0 u1 u2 zo zm rs5 (w5.setCell ⟨gm, t, none⟩ (.slice (some ⟨g5, 0, none⟩) ((rowW x N i t).length + 1) c5)) ∧ rs5.map (·.2) = lstW (rowW x N (i + 1)) n) ∧
      KpRu w9 w5 ∧ KpRu w9 (w5.setCell ⟨gm, t, none⟩ (.slice (some ⟨g5, 0, none⟩) ((rowW x N i t).length + 1) c5)) ∧ w0.grownBy w5 none := by
  have hl3 : rs.length = n := by have := congrArg List.length hr; simpa [lstW] using this
  have hget : (rs.getD t (.slice none 0 0, [])).2 = rowW x N i t := by
    have h1 := congrArg (fun z => z[t]?) hr
    simp only [List.getElem?_map] at h1
    have h2 : rs[t]? = some rs[t] := List.getElem?_eq_getElem (by omega)
    simp only [List.getD]
    rw [h2] at h1 ⊢
    simp only [lstW, List.getElem?_map, List.getElem?_range (show t < n by omega), Option.map_some, Option.some.injEq] at h1
    simpa using h1
  have hlen : ∀ y, y ∈ rs → y.2.length ≤ 1000 := fun y hy => by
    have : y.2 ∈ lstW (rowW x N i) n := by rw [← hr]; exact List.mem_map.2 ⟨y, hy, rfl⟩
    obtain ⟨q, _, hq⟩ := List.mem_map.1 this
    rw [← hq]
    exact rowW_len hi q
  have key : ∀ w9, w.grownBy w9 none → _ := fun w9 hg9 => h.pushR (i := N + i) (t := t) (grown_trans hg9 (one_cell w9 (.int .i64 ((N + i : Nat) : Int)) 3).1) (Nat.le_trans h.lz hg9.size) (one_cell w9 (.int .i64 ((N + i : Nat) : Int)) 3).2.1 (one_cell w9 (.int .i64 ((N + i : Nat) : Int)) 3).2.2 (by omega) hlen
  obtain ⟨gm, cg, av, cv, _, _, _, eu, row, _⟩ := key w (grown_refl _ _)
  rw [hget] at row
  rw [hl3] at eu
  refine ⟨gm, cg, av, cv, eu, fun w9 hg9 => ⟨hg9.cell row (by simp), ?_⟩⟩
  obtain ⟨gm', cg', av', cv', g5, c5, w5, p1, p2, p3, p4, p5, p6, p7, p8, p9, p10⟩ := key w9 hg9
  rw [hget] at p2 p3 p4 p7 p9
  rw [eu, hl3] at p1
  have e1 : gm = gm' := by simp at p1; exact p1.1
  subst e1
  rw [row] at p2
  have e2 : av = av' ∧ cv = cv' := by simp at p2; exact p2
  obtain ⟨rfl, rfl⟩ := e2
  refine ⟨g5, c5, w5, p3, p4, p5, p6, ⟨_, p7, ?_⟩, (KpRu.of (grown_alloc _ _)).trans p8, (KpRu.of (grown_alloc _ _)).trans p9, p10⟩
  rw [List.map_set, hr]
  refine lstW_set (by omega) ?_ (fun p hp hne => rowW_oth (by rw [ht]; exact hne))
  rw [← ht, rowW_put (by rw [ht]; exact htN)]

end Go.Proofs.Ytnlkdihfoekjmaa
