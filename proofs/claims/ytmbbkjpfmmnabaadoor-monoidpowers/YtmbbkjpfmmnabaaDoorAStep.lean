/- det.apart: what holds while it goes. -/
import Derived.Test.YtmbbkjpfmmnabaaDoorADefs
import Derived.Test.YtmbbkjpfmmnabaaDoorDRead
namespace Go.Proofs.YtmbbkjpfmmnabaaDoor
open Go.RowKit
set_option linter.unusedVariables false
attribute [local go_sem ↓] app_fold

/-- Meetings, cell by cell. -/
def metL (N : Nat) (X Y : Nat → Nat) (F : Nat → Int) (Lt : Nat → Nat) : List Value := (List.range N).flatMap fun i => [.int .i64 ((X i : Nat) : Int), .int .i64 ((Y i : Nat) : Int), .int .i64 (F i), .int .i64 ((Lt i : Nat) : Int)]
theorem metL_len (N : Nat) (X Y : Nat → Nat) (F : Nat → Int) (Lt : Nat → Nat) : (metL N X Y F Lt).length = N * 4 := by
  unfold metL
  induction N with
  | zero => rfl
  | succ N ih => rw [List.range_succ, List.flatMap_append, List.length_append, ih]; simp; omega
theorem metL_get {N i : Nat} {X Y : Nat → Nat} {F : Nat → Int} {Lt : Nat → Nat} (hi : i < N) :
    (metL N X Y F Lt)[i * 4]? = some (.int .i64 ((X i : Nat) : Int)) ∧ (metL N X Y F Lt)[i * 4 + 1]? = some (.int .i64 ((Y i : Nat) : Int)) ∧ (metL N X Y F Lt)[i * 4 + 2]? = some (.int .i64 (F i)) ∧ (metL N X Y F Lt)[i * 4 + 3]? = some (.int .i64 ((Lt i : Nat) : Int)) := by
  induction N with
  | zero => omega
  | succ N ih =>
    have e : metL (N + 1) X Y F Lt = metL N X Y F Lt ++ [.int .i64 ((X N : Nat) : Int), .int .i64 ((Y N : Nat) : Int), .int .i64 (F N), .int .i64 ((Lt N : Nat) : Int)] := by
      unfold metL; rw [List.range_succ, List.flatMap_append]; simp
    have hl := metL_len N X Y F Lt
    rw [e]
    by_cases h : i < N
    · obtain ⟨h1, h2, h3, h4⟩ := ih h
      rw [List.getElem?_append_left (by omega), List.getElem?_append_left (by omega), List.getElem?_append_left (by omega), List.getElem?_append_left (by omega)]
      exact ⟨h1, h2, h3, h4⟩
    · have hi2 : i = N := by omega
      subst hi2
      rw [List.getElem?_append_right (by omega), List.getElem?_append_right (by omega), List.getElem?_append_right (by omega), List.getElem?_append_right (by omega), hl]
      simp
theorem metL_snoc (N : Nat) (X Y : Nat → Nat) (F : Nat → Int) (Lt : Nat → Nat) (x y : Nat) (f : Int) (lt : Nat) : metL N X Y F Lt ++ [.int .i64 (x : Int), .int .i64 (y : Int), .int .i64 f, .int .i64 (lt : Int)] = metL (N + 1) (upd X N x) (upd Y N y) (fun j => if j = N then f else F j) (upd Lt N lt) := by
  unfold metL
  rw [List.range_succ, List.flatMap_append]
  congr 1
  · rw [List.flatMap_def, List.flatMap_def]
    congr 1
    refine List.map_congr_left fun i hi => ?_
    have : i ≠ N := by have := List.mem_range.1 hi; omega
    simp only [upd_ne this, if_neg this]
  · simp [upd_same]

/-- The states that words lead to. -/
def pairsOf (δ : Nat → Nat → Nat) (p q : Nat) (ws : List (List Nat)) : List (Nat × Nat) := ws.map fun u => (u.foldl δ p, u.foldl δ q)
theorem skip_of_linked {δ : Nat → Nat → Nat} {m : Nat → Bool} {p q i a : Nat} {ws : List (List Nat)} (h : Linked (pairsOf δ p q ws) (δ ((ws.getD i []).foldl δ p) a) (δ ((ws.getD i []).foldl δ q) a)) :
    ∀ v, (∀ u, u ∈ ws → tellT δ m p q (u ++ v) = false) → tellT δ m p q (ws.getD i [] ++ [a] ++ v) = false := by
  intro v hv
  have h1 := h (fun s => m (v.foldl δ s)) (fun x hx => by
    obtain ⟨u, hu, rfl⟩ := List.mem_map.1 hx
    have := hv u hu
    simpa [tellT, List.foldl_append] using this)
  simpa [tellT, List.foldl_append] using h1

structure ApAt (B : Nat) (w : World) (gk ck gm cm n N : Nat) (k X Y : Nat → Nat) (F : Nat → Int) (Lt : Nat → Nat) : Prop where
  kin : Owns B w [(3, .slice (some ⟨gk, 0, none⟩) n ck, fvals n k)]
  met : w.ownsRow B 134 4 (.slice (some ⟨gm, 0, none⟩) N cm) N (metL N X Y F Lt)
  ne : gm ≠ gk
theorem ApAt.kept {B : Nat} {w w' : World} {gk ck gm cm n N : Nat} {k X Y : Nat → Nat} {F : Nat → Int} {Lt : Nat → Nat} (h : ApAt B w gk ck gm cm n N k X Y F Lt) (hg : w.grownBy w' none) : ApAt B w' gk ck gm cm n N k X Y F Lt :=
  ⟨h.kin.kept hg, h.met.kept hg (by simp [Value.ownBlock]), h.ne⟩
theorem ApAt.read {B : Nat} {w : World} {gk ck gm cm n N : Nat} {k X Y : Nat → Nat} {F : Nat → Int} {Lt : Nat → Nat} (h : ApAt B w gk ck gm cm n N k X Y F Lt) : MetR w gm N X Y F Lt := fun i hi => by
  obtain ⟨h1, h2, h3, h4⟩ := metL_get (X := X) (Y := Y) (F := F) (Lt := Lt) hi
  have c := fun j u hu => h.met.cells (g := gm) rfl j u hu
  have c1 := c _ _ h1
  have c2 := c _ _ h2
  have c3 := c _ _ h3
  have c4 := c _ _ h4
  rw [addr_add] at c1 c2 c3 c4
  exact ⟨c1, c2, c3, c4⟩

theorem Tryd.infoM : (Tryd.prog.info? 134).map (fun i => (i.zero, i.size, i.bytes)) = some (some (.agg #[.int .i64 0, .int .i64 0, .int .i64 0, .int .i64 0]), 4, 32) := by kernel_rfl
theorem metL_congr {N : Nat} {X X' Y Y' : Nat → Nat} {F F' : Nat → Int} {Lt Lt' : Nat → Nat} (h1 : ∀ i, i < N → X i = X' i) (h2 : ∀ i, i < N → Y i = Y' i) (h3 : ∀ i, i < N → F i = F' i) (h4 : ∀ i, i < N → Lt i = Lt' i) : metL N X Y F Lt = metL N X' Y' F' Lt' := by
  unfold metL
  rw [List.flatMap_def, List.flatMap_def]
  congr 1
  refine List.map_congr_left fun i hi => ?_
  have hi := List.mem_range.1 hi
  rw [h1 i hi, h2 i hi, h3 i hi, h4 i hi]
/-- A meeting is put behind. -/
theorem met_put {B : Nat} {w : World} {gk ck gm cm n N : Nat} {k X Y : Nat → Nat} {F : Nat → Int} {Lt : Nat → Nat} (h : ApAt B w gk ck gm cm n N k X Y F Lt) (hB : B ≤ w.heap.size) (hN : N ≤ 6000) (dx dy a i : Nat) :
    ∃ g cap w', (AppS #[135, 135] 135 #[.slice (some ⟨gm, 0, none⟩) N cm, .slice (some ⟨w.heap.size, 0, none⟩) 1 1]).run Tryd.prog (w.alloc (.cells #[.int .i64 (dx : Int), .int .i64 (dy : Int), .int .i64 (i : Int), .int .i64 (a : Int)] 134)) = .ok (.slice (some ⟨g, 0, none⟩) (N + 1) cap) w' ∧
      ApAt B w' gk ck g cap n (N + 1) k (upd X N dx) (upd Y N dy) (fun j => if j = N then (i : Int) else F j) (upd Lt N a) ∧ Keeps B w w' := by
  obtain ⟨i0, hio, hz0, hz1, hz2⟩ := info_parts Tryd.infoM
  have h' := h.kept (grown_alloc w (.cells #[.int .i64 (dx : Int), .int .i64 (dy : Int), .int .i64 (i : Int), .int .i64 (a : Int)] 134))
  obtain ⟨g', cap, w5, hrun, ho5, hg5, hat5, hlt5⟩ := run_append_lies (P := Tryd.prog) (w.alloc (.cells #[.int .i64 (dx : Int), .int .i64 (dy : Int), .int .i64 (i : Int), .int .i64 (a : Int)] 134)) 135 135 B 134 i0 _ 4 32 Tryd.underlying135 hio hz0 hz1 hz2 rfl (by decide) (.slice (some ⟨gm, 0, none⟩) N cm) N (metL N X Y F Lt) h'.met ⟨w.heap.size, 0, none⟩ 1 1 [.int .i64 (dx : Int), .int .i64 (dy : Int), .int .i64 (i : Int), .int .i64 (a : Int)] rfl (World.news_of_block (heap_alloc_new _ _)) (by intro u hu; simp at hu; rcases hu with rfl | rfl | rfl | rfl <;> rfl) (by omega) (by unfold maxLen; omega) (by omega) (by simp; omega) _ rfl
  have hgm : (w.alloc (.cells #[.int .i64 (dx : Int), .int .i64 (dy : Int), .int .i64 (i : Int), .int .i64 (a : Int)] 134)).grownBy w5 (some gm) := hg5
  refine ⟨g', cap, w5, hrun, ⟨h'.kin.far hgm (fun it hm hc => ?_), ?_, ?_⟩, fun w0 hw0 hg0 => ?_⟩
  · simp at hm
    subst hm
    simp only [Value.ownBlock, Option.some.injEq] at hc
    exact h.ne hc.symm
  · rw [metL_snoc] at ho5
    exact ho5
  · have hk := h'.kin.ge.2
    rcases hat5 with e | e
    · have : gm = g' := by simpa [Value.ownBlock] using e
      rw [← this]; exact h.ne
    · rw [e]; omega
  · have hge := (h'.met.lt gm rfl).1
    exact grown_new (grown_trans hg0 (grown_alloc _ _)) hgm (Nat.le_trans hw0 hge)

theorem fold_lt {δ : Nat → Nat → Nat} {n l : Nat} (hδ : ∀ s a, s < n → a < l → δ s a < n) (z : List Nat) : ∀ s, s < n → (∀ x, x ∈ z → x < l) → z.foldl δ s < n := by
  induction z with
  | nil => intro s hs _; exact hs
  | cons a z ih => intro s hs hz; exact ih _ (hδ _ _ hs (hz a (by simp))) (fun x hx => hz x (by simp [hx]))
/-- What holds of meetings: words, kin, how both are known. -/
structure Meets (δ : Nat → Nat → Nat) (p q n : Nat) (ws : List (List Nat)) (k hd rk : Nat → Nat) (Bk : Nat) (F : Nat → Int) (Lt : Nat → Nat) : Prop where
  node : Node ws F Lt
  kin : Kin n k hd rk Bk
  links : Links n (pairsOf δ p q ws) hd
  heads : heads n k + ws.length ≤ n + 1
theorem Meets.len {δ : Nat → Nat → Nat} {p q n : Nat} {ws : List (List Nat)} {k hd rk : Nat → Nat} {Bk : Nat} {F : Nat → Int} {Lt : Nat → Nat} (h : Meets δ p q n ws k hd rk Bk F Lt) (hn : 0 < n) : ws.length ≤ n := by
  have := heads_pos h.kin hn
  have := h.heads
  omega
theorem node_put {ws : List (List Nat)} {F : Nat → Int} {Lt : Nat → Nat} (h : Node ws F Lt) {i a : Nat} (hi : i < ws.length) : Node (ws ++ [ws.getD i [] ++ [a]]) (fun j => if j = ws.length then (i : Int) else F j) (upd Lt ws.length a) := by
  intro j hj
  by_cases e : j = ws.length
  · subst e
    right
    exact ⟨i, hi, by simp, by rw [getD_last, getD_appL _ hi, upd_same]⟩
  · have hj2 : j < ws.length := by simp at hj; omega
    simp only [if_neg e]
    rw [upd_ne e, getD_appL _ hj2]
    rcases h j hj2 with h1 | ⟨j', h1, h2, h3⟩
    · exact .inl h1
    · exact .inr ⟨j', h1, h2, by rw [getD_appL _ (by omega)]; exact h3⟩

/-- Under way: at the i-th meeting, ahead of the letter b. -/
def InSt (δ : Nat → Nat → Nat) (p q n l : Nat) (T : List Nat → Bool) (gk : Nat) (W1 : World) (i : Nat) (u : List Nat) (wr : World) (N gm cm b : Nat) : Prop :=
  ∃ (ws : List (List Nat)) (k hd rk : Nat → Nat) (Bk : Nat) (F : Nat → Int) (Lt : Nat → Nat), ws.length = N ∧ ApAt W1.heap.size wr gk n gm cm n N k (fun j => (ws.getD j []).foldl δ p) (fun j => (ws.getD j []).foldl δ q) F Lt ∧ Meets δ p q n ws k hd rk Bk F Lt ∧ W1.grownBy wr none ∧ ws.getD i [] = u ∧ Walk T l ws i b
/-- Ahead of the i-th meeting. -/
def OutSt (δ : Nat → Nat → Nat) (p q n l : Nat) (T : List Nat → Bool) (gk : Nat) (W1 : World) (wr : World) (N gm cm i : Nat) : Prop :=
  ∃ (ws : List (List Nat)) (k hd rk : Nat → Nat) (Bk : Nat) (F : Nat → Int) (Lt : Nat → Nat), ws.length = N ∧ ApAt W1.heap.size wr gk n gm cm n N k (fun j => (ws.getD j []).foldl δ p) (fun j => (ws.getD j []).foldl δ q) F Lt ∧ Meets δ p q n ws k hd rk Bk F Lt ∧ W1.grownBy wr none ∧ ((i < N ∧ Walk T l ws i 0) ∨ (i = N ∧ ∀ z, (∀ x, x ∈ z → x < l) → T z = false))

section
variable {δ : Nat → Nat → Nat} {p q n l : Nat} {T : List Nat → Bool} {gk : Nat} {W1 : World} {i : Nat} {u : List Nat} {wr : World} {N gm cm b : Nat}
theorem InSt.kept {w' : World} (h : InSt δ p q n l T gk W1 i u wr N gm cm b) (hg : wr.grownBy w' none) : InSt δ p q n l T gk W1 i u w' N gm cm b := by
  obtain ⟨ws, k, hd, rk, Bk, F, Lt, h1, h2, h3, h4, h5⟩ := h
  exact ⟨ws, k, hd, rk, Bk, F, Lt, h1, h2.kept hg, h3, grown_trans h4 hg, h5⟩
theorem InSt.le (h : InSt δ p q n l T gk W1 i u wr N gm cm b) (hn : 0 < n) : i < N ∧ N ≤ n ∧ W1.grownBy wr none := by
  obtain ⟨ws, k, hd, rk, Bk, F, Lt, h1, h2, h3, h4, h5, h6⟩ := h
  exact ⟨h1 ▸ h6.len, h1 ▸ h3.len hn, h4⟩
theorem InSt.next (h : InSt δ p q n l T gk W1 i u wr N gm cm l) (hl : 1 ≤ l) (hT : T u = false) : OutSt δ p q n l T gk W1 wr N gm cm (i + 1) := by
  obtain ⟨ws, k, hd, rk, Bk, F, Lt, h1, h2, h3, h4, h5, h6⟩ := h
  subst h1 h5
  have := h6.len
  refine ⟨ws, k, hd, rk, Bk, F, Lt, rfl, h2, h3, h4, ?_⟩
  by_cases e : i + 1 < ws.length
  · exact .inl ⟨e, h6.next hT e⟩
  · exact .inr ⟨by omega, fun z hz => h6.over hl hT (by omega) z hz⟩
theorem OutSt.le (h : OutSt δ p q n l T gk W1 wr N gm cm i) (hn : 0 < n) : i ≤ N ∧ N ≤ n ∧ W1.grownBy wr none := by
  obtain ⟨ws, k, hd, rk, Bk, F, Lt, h1, h2, h3, h4, h5⟩ := h
  exact ⟨by omega, h1 ▸ h3.len hn, h4⟩
/-- What is read of it. -/
theorem OutSt.reads (h : OutSt δ p q n l T gk W1 wr N gm cm i) (hl : 1 ≤ l) (hp : p < n) (hq : q < n) (hn : n ≤ 6000) (hD : ∀ s b, s < n → b < l → δ s b < n) :
    (i < N ∧ ∃ u x y, u.foldl δ p = x ∧ u.foldl δ q = y ∧ x < n ∧ y < n ∧ wr.cell? ⟨gm, i * 4, none⟩ = some (.int .i64 (x : Int)) ∧ wr.cell? ⟨gm, i * 4 + 1, none⟩ = some (.int .i64 (y : Int)) ∧ InSt δ p q n l T gk W1 i u wr N gm cm 0 ∧ (T u = true → FirstOf T l u true) ∧ u.length ≤ 6000 ∧
      ∀ W, wr.grownBy W none → Calls Tryd.prog 74 #[.slice (some ⟨gm, 0, none⟩) N cm, .int .i64 (i : Int)] W (WordPost u W)) ∨ (i = N ∧ FirstOf T l [] false) := by
  obtain ⟨ws, k, hd, rk, Bk, F, Lt, h1, h2, h3, h4, h5⟩ := h
  subst h1
  rcases h5 with ⟨hi, hw⟩ | ⟨hi, hno⟩
  · left
    have hlow := hw.low _ (getD_memL (d := []) hi)
    obtain ⟨c0, c1, _, _⟩ := h2.read i hi
    have hlen := h3.len (by omega)
    have hul := node_len h3.node i hi
    refine ⟨hi, ws.getD i [], _, _, rfl, rfl, fold_lt hD _ p hp hlow, fold_lt hD _ q hq hlow, c0, c1, ⟨ws, k, hd, rk, Bk, F, Lt, rfl, h2, h3, h4, rfl, hw⟩, fun ht => ⟨hlow, .inl ⟨rfl, ht, fun z hz hz2 => hw.first hl z hz hz2⟩⟩, by omega, fun W hW => ?_⟩
    exact wordTo_any gm ws.length cm i _ _ F Lt ws W (h2.read.grown hW) (by omega) rfl h3.node hi
  · exact .inr ⟨hi, by simp, .inr ⟨rfl, rfl, hno⟩⟩

/-- What a join leaves behind. -/
def StepPost (δ : Nat → Nat → Nat) (p q n l : Nat) (T : List Nat → Bool) (gk : Nat) (W1 : World) (i : Nat) (u : List Nat) (N gm cm b dx dy B : Nat) (E : Ending) (w6 : World) : Prop :=
  w6.cell? ⟨B, 0, none⟩ = some (.int .i64 (dx : Int)) ∧ w6.cell? ⟨B, 1, none⟩ = some (.int .i64 (dy : Int)) ∧
  ((E = .returned (.bool false) ∧ InSt δ p q n l T gk W1 i u w6 N gm cm (b + 1)) ∨
   (E = .returned (.bool true) ∧ ∃ g7 c7 w7, (AppS #[135, 135] 135 #[.slice (some ⟨gm, 0, none⟩) N cm, .slice (some ⟨w6.heap.size, 0, none⟩) 1 1]).run Tryd.prog (w6.alloc (.cells #[.int .i64 (dx : Int), .int .i64 (dy : Int), .int .i64 (i : Int), .int .i64 (b : Int)] 134)) = .ok (.slice (some ⟨g7, 0, none⟩) (N + 1) c7) w7 ∧ InSt δ p q n l T gk W1 i u w7 (N + 1) g7 c7 (b + 1)))

theorem InSt.join {m : Nat → Bool} {x y dx dy : Nat} (h : InSt δ p q n l T gk W1 i u wr N gm cm b) (hT : tellT δ m p q = T) (hn0 : 0 < n) (hn : n ≤ 6000) (hb : b < l) (hX : u.foldl δ p = x) (hY : u.foldl δ q = y) (hdx : δ x b = dx) (hdy : δ y b = dy) (hx : dx < n) (hy : dy < n) :
    Calls Tryd.prog 73 #[.slice (some ⟨gk, 0, none⟩) n n, .int .i64 ((dx : Nat) : Int), .int .i64 ((dy : Nat) : Int)] (wr.alloc (.cells #[.int .i64 (dx : Int), .int .i64 (dy : Int)] 118)).drew (StepPost δ p q n l T gk W1 i u N gm cm b dx dy wr.heap.size) := by
  obtain ⟨ws, k, hd, rk, Bk, F, Lt, h1, A, MT, G, HU, WK⟩ := h
  subst h1
  have gA : wr.grownBy (wr.alloc (.cells #[.int .i64 (dx : Int), .int .i64 (dy : Int)] 118)).drew none := grown_drew (grown_alloc _ _)
  have hzA := heap_alloc_new wr (.cells #[.int .i64 (dx : Int), .int .i64 (dy : Int)] 118)
  have hi := WK.len
  have hwl : ws.length ≤ n := MT.len hn0
  have hgkl := A.kin.ge
  refine (join_any _ n gk n k hd rk Bk dx dy [] _ (A.kept gA).kin MT.kin hx hy (by omega)).mono ?_
  rintro E w6 ⟨k6, hd6, rk6, Bk6, hE, ho6, hk6, hg6, hcase⟩
  have hg6' : (wr.alloc (.cells #[.int .i64 (dx : Int), .int .i64 (dy : Int)] 118)).drew.grownBy w6 (some gk) := hg6
  have A6 : ApAt W1.heap.size w6 gk n gm cm n ws.length k6 (fun j => (ws.getD j []).foldl δ p) (fun j => (ws.getD j []).foldl δ q) F Lt := ⟨ho6, (A.kept gA).met.kept hg6' (.inr (by simp [Value.ownBlock]; exact A.ne)), A.ne⟩
  have G6 : W1.grownBy w6 none := grown_new (grown_trans G gA) hg6' hgkl.1
  have hz6 : w6.heap[wr.heap.size]? = some (.cells #[.int .i64 (dx : Int), .int .i64 (dy : Int)] 118 (0, 0)) := (hg6'.block _ (by show _ < (wr.alloc _).heap.size; simp) (by simp; omega)).trans hzA
  refine ⟨by rw [cell_of_row _ _ _ _ _ (0, 0) hz6]; rfl, by rw [cell_of_row _ _ _ _ _ (0, 0) hz6]; rfl, ?_⟩
  have e3 : δ ((ws.getD i []).foldl δ p) b = dx := by rw [HU, hX, hdx]
  have e4 : δ ((ws.getD i []).foldl δ q) b = dy := by rw [HU, hY, hdy]
  by_cases hpq : hd dx = hd dy
  · left
    have hbf : decide (hd dx ≠ hd dy) = false := by simp [hpq]
    rw [hbf] at hE
    refine ⟨hE, ws, k6, hd6, rk6, Bk6, F, Lt, rfl, A6, ?_, G6, HU, WK.skip (fun v hv hu => ?_)⟩
    · rcases hcase with ⟨_, rfl, e1⟩ | ⟨e0, _, _⟩
      · exact ⟨MT.node, hk6, MT.links, by rw [e1]; exact MT.heads⟩
      · exact absurd hpq e0
    · rw [← hT] at hu ⊢
      exact skip_of_linked (by rw [e3, e4]; exact MT.links dx dy hx hy hpq) v hu
  · right
    have hbt : decide (hd dx ≠ hd dy) = true := by simp [hpq]
    rw [hbt] at hE
    obtain ⟨g7, c7, w7, hrun, hA7, hk7⟩ := met_put A6 G6.size (by omega) dx dy b i
    refine ⟨hE, g7, c7, w7, hrun, ws ++ [u ++ [b]], k6, hd6, rk6, Bk6, (fun j => if j = ws.length then (i : Int) else F j), upd Lt ws.length b, by simp, ⟨hA7.kin, ?_, hA7.ne⟩, ?_, hk7 W1 (Nat.le_refl _) G6, by rw [getD_appL _ hi]; exact HU, by have := WK.put hb; rw [HU] at this; exact this⟩
    · have hmet := hA7.met
      rw [metL_congr (X' := fun j => ((ws ++ [u ++ [b]]).getD j []).foldl δ p) (Y' := fun j => ((ws ++ [u ++ [b]]).getD j []).foldl δ q) (F' := fun j => if j = ws.length then (i : Int) else F j) (Lt' := upd Lt ws.length b) (fun j hj => ?_) (fun j hj => ?_) (fun _ _ => rfl) (fun _ _ => rfl)] at hmet
      · exact hmet
      · by_cases e : j = ws.length
        · subst e; rw [upd_same, getD_last, List.foldl_append, hX]; exact hdx.symm
        · rw [upd_ne e, getD_appL _ (by omega)]
      · by_cases e : j = ws.length
        · subst e; rw [upd_same, getD_last, List.foldl_append, hY]; exact hdy.symm
        · rw [upd_ne e, getD_appL _ (by omega)]
    · rcases hcase with ⟨e0, _, _⟩ | ⟨_, rfl, e1⟩
      · exact absurd e0 hpq
      · refine ⟨by have := node_put (a := b) MT.node hi; rw [HU] at this; exact this, hk6, ?_, ?_⟩
        · have h1 := MT.links.join hx hy
          have e2 : pairsOf δ p q (ws ++ [u ++ [b]]) = pairsOf δ p q ws ++ [(dx, dy)] := by
            unfold pairsOf
            rw [List.map_append]
            simp only [List.map_cons, List.map_nil, List.foldl_append, hX, hY, List.foldl_cons, List.foldl_nil, hdx, hdy]
          rw [e2]
          exact h1
        · have := MT.heads
          rw [List.length_append, List.length_singleton]; omega
end

end Go.Proofs.YtmbbkjpfmmnabaaDoor
