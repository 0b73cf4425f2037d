/- What the reference's Bars lays down: where the ways lead, what is come to. -/
import Derived.Test.YtnlkdihfoekjmaaGwGwsD
namespace Go.Proofs.Ytnlkdihfoekjmaa
open Go.RowKit
set_option linter.unusedVariables false
set_option linter.unusedSimpArgs false

/-- Where the ways of the first rules lead from a state. -/
def bnK (x : Trs) (N : Nat) (V : Nat → Int) (k s : Nat) : List Nat := (rlW x k s).map (btW x N V)
theorem bnK_zero (x : Trs) (N : Nat) (V : Nat → Int) (s : Nat) : bnK x N V 0 s = [] := rfl
theorem bnK_put {x : Trs} {N : Nat} {V : Nat → Int} {k s : Nat} (h : toW x k = s) : bnK x N V (k + 1) s = bnK x N V k s ++ [btW x N V k] := by
  unfold bnK; rw [rlW_succ, if_pos h, List.map_append]; rfl
theorem bnK_oth {x : Trs} {N : Nat} {V : Nat → Int} {k s : Nat} (h : toW x k ≠ s) : bnK x N V (k + 1) s = bnK x N V k s := by
  unfold bnK; rw [rlW_succ, if_neg h, List.append_nil]
theorem bnK_len (x : Trs) (N : Nat) (V : Nat → Int) (k s : Nat) : (bnK x N V k s).length ≤ k := by
  unfold bnK rlW
  rw [List.length_map]
  have := List.length_filter_le (fun i => decide (toW x i = s)) (List.range k)
  rwa [List.length_range] at this
structure NxB (w0 : World) (B gn N : Nat) (rs : List (Value × List Nat)) (w : World) : Prop where
  own : Owns B w ((3, nilV, []) :: (23, .slice (some ⟨gn, 0, none⟩) N N, rs.map (·.1)) :: (gRows rs ++ []))
  gr : w0.grownBy w none
  lb : w0.heap.size ≤ B
  lz : B ≤ w.heap.size
theorem NxB.kept {w0 w w' : World} {B gn N : Nat} {rs : List (Value × List Nat)} (h : NxB w0 B gn N rs w) (hg : w.grownBy w' none) : NxB w0 B gn N rs w' := ⟨h.own.kept hg, grown_trans h.gr hg, h.lb, Nat.le_trans h.lz hg.size⟩
theorem nx_empties {B : Nat} {w : World} : ∀ (n : Nat) {r : List Item}, Owns B w r → Owns B w (gRows (List.replicate n ((nilV, []) : Value × List Nat)) ++ r)
  | 0, r, h => h
  | n + 1, r, h => (nx_empties n h).empty 3
theorem nx_start (w : World) (N : Nat) (hN : N ≤ 1000) : NxB w w.heap.size w.heap.size N (List.replicate N (nilV, [])) (w.alloc (.cells (Array.replicate N nilV) 23)) := by
  have o1 := (nx_empties N (Owns.no w.heap.size w)).made (arr := Array.replicate N nilV) (n := N) (Nat.le_refl _) 23 (by simp) (by unfold maxLen; omega)
  have o2 := o1.empty 3
  refine ⟨?_, grown_alloc _ _, Nat.le_refl _, by simp⟩
  have e : (Array.replicate N nilV).toList = (List.replicate N ((nilV, []) : Value × List Nat)).map (·.1) := by simp
  rw [← e]
  exact o2
theorem lst_get2 {rs : List (Value × List Nat)} {f : Nat → List Nat} {N t : Nat} (hr : rs.map (·.2) = lstW f N) (ht : t < N) : rs.length = N ∧ (rs.getD t (.slice none 0 0, [])).2 = f t := by
  have hl3 : rs.length = N := by have := congrArg List.length hr; simpa [lstW] using this
  refine ⟨hl3, ?_⟩
  have h1 := congrArg (fun z => z[t]?) hr
  simp only [List.getElem?_map] at h1
  have h2 : rs[t]? = some rs[t] := List.getElem?_eq_getElem (by omega)
  simp only [List.getD]
  rw [h2] at h1 ⊢
  simp only [lstW, List.getElem?_map, List.getElem?_range ht, Option.map_some, Option.some.injEq] at h1
  simpa using h1
/-- A way's end is put behind. -/
theorem NxB.push {x : Trs} {V : Nat → Int} {w0 w W : World} {B gn N k t kk : Nat} {rs : List (Value × List Nat)} (h : NxB w0 B gn N rs w) (hr : rs.map (·.2) = lstW (bnK x N V k) N) (ht : toW x k = t) (htN : t < N) (hk60 : k ≤ 60) (hg : w.grownBy W none) (hk : B ≤ kk) (hs : W.heap.size = kk + 1) (hN : W.cell? ⟨kk, 0, none⟩ = some (.int .i64 (btW x N V k : Int))) :
    ∃ av cv g5 c5 w5, w.cell? ⟨gn, t, none⟩ = some (.slice av (bnK x N V k t).length cv) ∧
      (AppS #[23, 23] 23 #[.slice av (bnK x N V k t).length cv, .slice (some ⟨kk, 0, none⟩) 1 1]).run Try.prog W = .ok (.slice (some ⟨g5, 0, none⟩) ((bnK x N V k t).length + 1) c5) w5 ∧ w5.cell? ⟨gn, t, none⟩ = some (.slice av (bnK x N V k t).length cv) ∧ w5.frozen? ⟨gn, t, none⟩ = false ∧
      KpRu W w5 ∧ ∃ rs5, NxB w0 B gn N rs5 (w5.setCell ⟨gn, t, none⟩ (.slice (some ⟨g5, 0, none⟩) ((bnK x N V k t).length + 1) c5)) ∧ rs5.map (·.2) = lstW (bnK x N V (k + 1)) N := by
  obtain ⟨hl3, hget⟩ := lst_get2 hr htN
  have hK := h.kept hg
  obtain ⟨v, xs, hvx⟩ : ∃ v xs, rs.getD t (.slice none 0 0, []) = (v, xs) := ⟨_, _, rfl⟩
  have htr : t < rs.length := by omega
  have hry : rs[t]? = some (v, xs) := by rw [← hvx]; simp [List.getD, htr]
  have hxs : xs = bnK x N V k t := by rw [hvx] at hget; exact hget
  have hvm : (3, v, nvals xs) ∈ gRows rs := List.mem_map.2 ⟨(v, xs), List.mem_of_getElem? hry, rfl⟩
  obtain ⟨hro, av, cv, hav⟩ := hK.own.1 _ (List.mem_append_right [_, _] (List.mem_append_left _ hvm))
  simp only [nvals_len] at hav hro
  subst hav
  have hxl : xs.length ≤ 1000 := by rw [hxs]; have := bnK_len x N V k t; omega
  have hro' : W.ownsRow B 3 1 (.slice av xs.length cv) xs.length (vals (xs.map (fun (n : Nat) => (n : Int)))) := by
    rw [← nvals_map]; exact hro
  obtain ⟨g', cap, w5, h1, h2, h3, h4⟩ := run_push W B kk xs.length (.slice av xs.length cv) (xs.map (fun (n : Nat) => (n : Int))) (btW x N V k : Int) hro' hxl (by simp) hs hk hN
  rw [← nvals_map] at h2
  obtain ⟨p1, p2, _, p4, p5⟩ := from_push (w0 := w0) (i := btW x N V k) hK.own htr hl3 hvx rfl h2 h3 h4 hs hK.gr h.lb
  have q1 := (gat_2 h.own).cell (i := t) (u := .slice av xs.length cv) (by rw [List.getElem?_map, hry]; rfl)
  have hfirst : Owns B W ((3, .slice av xs.length cv, nvals xs) :: []) := owns_sub hK.own (List.singleton_sublist.2 (List.mem_append_right [_, _] (List.mem_append_left _ hvm)))
  have kr : KpRu W w5 := KpRu.row hfirst h3 (by decide)
  rw [hxs] at h1 p1 p4 p5 q1
  refine ⟨av, cv, g', cap, w5, q1, h1, p1, p2, kr, _, ⟨p4, p5, h.lb, ?_⟩, ?_⟩
  · have := h3.size; have := hK.lz; simp [World.setCell]; omega
  · rw [List.map_set, hr]
    refine lstW_set htN (bnK_put ht) (fun p hp hne => bnK_oth (by rw [ht]; exact Ne.symm hne))
/-- What is laid down in the end. -/
theorem NxB.rows {w0 w : World} {B gn N : Nat} {rs : List (Value × List Nat)} {f : Nat → List Nat} (h : NxB w0 B gn N rs w) (hr : rs.map (·.2) = lstW f N) :
    ∃ (xa : Nat → Option Addr) (xd : Nat → Nat), ∀ V, w.grownBy V none → ∀ p, p < N → V.cell? ⟨gn, 0 + p, none⟩ = some (.slice (xa p) (f p).length (xd p)) ∧ NatsAt V (xa p) (f p) := by
  refine ⟨fun p => match (rs.getD p (.slice none 0 0, [])).1 with | .slice a _ _ => a | _ => none, fun p => match (rs.getD p (.slice none 0 0, [])).1 with | .slice _ _ c => c | _ => 0, fun V hV p hp => ?_⟩
  obtain ⟨hrl, hget⟩ := lst_get2 hr hp
  have hpr : p < rs.length := by omega
  have hK := h.kept hV
  obtain ⟨v, xs, hvx⟩ : ∃ v xs, rs.getD p (.slice none 0 0, []) = (v, xs) := ⟨_, _, rfl⟩
  have hry : rs[p]? = some (v, xs) := by rw [← hvx]; simp [List.getD, hpr]
  have hxs : xs = f p := by rw [hvx] at hget; exact hget
  have hvm : (3, v, nvals xs) ∈ gRows rs := List.mem_map.2 ⟨(v, xs), List.mem_of_getElem? hry, rfl⟩
  obtain ⟨_, av, cv, hav⟩ := hK.own.1 _ (List.mem_append_right [_, _] (List.mem_append_left _ hvm))
  simp only [nvals_len] at hav
  subst hav
  have hc := (gat_2 hK.own).cell (i := p) (u := .slice av xs.length cv) (by rw [List.getElem?_map, hry]; rfl)
  have hs : Owns B V [(3, Value.slice av xs.length cv, nvals xs)] := owns_sub hK.own (List.singleton_sublist.2 (List.mem_append_right [_, _] (List.mem_append_left _ hvm)))
  simp only [hvx]
  subst hxs
  refine ⟨?_, hs.nats.2⟩
  rw [Nat.zero_add]; exact hc

/-- What is come to. -/
structure BdRow (N : Nat) (W : Nat → Int) (row : List Nat) (seen : Nat → Bool) : Prop where
  nd : row.Nodup
  sn : ∀ q, q < N → seen q = decide (q ∈ row)
  lt : ∀ q, q ∈ row → q < N ∧ W q = 1
theorem BdRow.len {N : Nat} {W : Nat → Int} {row : List Nat} {seen : Nat → Bool} (h : BdRow N W row seen) : row.length ≤ N := by
  have := List.Nodup.length_le_of_subset h.nd (l₂ := List.range N) (fun q hq => List.mem_range.2 (h.lt q hq).1)
  rwa [List.length_range] at this
theorem BdRow.start {N : Nat} {W : Nat → Int} {s : Nat} (hs : s < N) (hW : W s = 1) : BdRow N W [s] (fun q => if q = s then true else false) :=
  ⟨by simp, fun q _ => by by_cases e : q = s <;> simp [e], fun q hq => by simp at hq; subst hq; exact ⟨hs, hW⟩⟩
theorem BdRow.put {N : Nat} {W : Nat → Int} {row : List Nat} {seen : Nat → Bool} (h : BdRow N W row seen) {y : Nat} (hy : y < N) (hW : W y = 1) (hs : seen y = false) : BdRow N W (row ++ [y]) (fun q => if q = y then true else seen q) := by
  have hyr : y ∉ row := by have := h.sn y hy; rw [hs] at this; simpa using this.symm
  refine ⟨?_, fun q hq => ?_, fun z hz => ?_⟩
  · rw [List.nodup_append]
    exact ⟨h.nd, by simp, fun a ha b hb => by simp at hb; subst hb; exact fun e => hyr (e ▸ ha)⟩
  · by_cases e : q = y
    · simp [e]
    · simp only [e, if_false]; rw [h.sn q hq]; simp [e]
  · rcases List.mem_append.1 hz with hz | hz
    · exact h.lt z hz
    · simp at hz; subst hz; exact ⟨hy, hW⟩
theorem bd_step {x : Trs} {N : Nat} {W M : Nat → Int} (hG : GoodW x) (hN : x.N = N) (hs : GwS x N W M) {s y : Nat} (hsN : s < N) (hW : W s = 1) (hy : y ∈ bnW x N (mvW x N W M) s) : y < N ∧ W y = 1 := by
  obtain ⟨i, hi, rfl⟩ := List.mem_map.1 hy
  obtain ⟨h1, h2⟩ := mem_rlW.1 hi
  exact ⟨bar_lt hG hN _ h1, (bar_step hG hN hs hsN hW h1 h2).2.1⟩

end Go.Proofs.Ytnlkdihfoekjmaa
