/- monoid.seek: what holds while it goes. -/
/- Words in the order in which they are come to: the steps of whoever goes through them. -/
import Derived.Test.YtofjboelplknhaaMTurn
import Derived.Test.YtofjboelplknhaaHBackD
namespace Go.Proofs.Ytofjboelplknhaa
open Go.RowKit Go.Maps
set_option linter.unusedVariables false

/-- A step: what is done, behind which one, by which letter. -/
abbrev Stp := Nat × Int × Nat
def stpC (s : Stp) : List Value := [.int .i64 ((dg s.1 0 : Nat) : Int), .int .i64 ((dg s.1 1 : Nat) : Int), .int .i64 ((dg s.1 2 : Nat) : Int), .int .i64 ((dg s.1 3 : Nat) : Int), .int .i64 ((dg s.1 4 : Nat) : Int), .int .i64 s.2.1, .int .i64 ((s.2.2 : Nat) : Int)]
def scells (ss : List Stp) : List Value := ss.flatMap stpC
theorem scells_len (ss : List Stp) : (scells ss).length = ss.length * 7 := by
  unfold scells
  induction ss with
  | nil => rfl
  | cons x xs ih => rw [List.flatMap_cons, List.length_append, ih]; simp [stpC]; omega
theorem scells_snoc (ss : List Stp) (s : Stp) : scells (ss ++ [s]) = scells ss ++ stpC s := by unfold scells; rw [List.flatMap_append]; simp
theorem scells_get {i j : Nat} {s : Stp} : ∀ {ss : List Stp}, ss[i]? = some s → j < 7 → (scells ss)[i * 7 + j]? = (stpC s)[j]? := by
  induction i with
  | zero => intro ss h hj; cases ss with
    | nil => simp at h
    | cons x xs =>
      simp only [List.getElem?_cons_zero, Option.some.injEq] at h
      subst h
      unfold scells
      rw [List.flatMap_cons, Nat.zero_mul, Nat.zero_add, List.getElem?_append_left (by simp [stpC]; omega)]
  | succ i ih => intro ss h hj; cases ss with
    | nil => simp at h
    | cons x xs =>
      have h1 := ih (ss := xs) (by simpa using h) hj
      unfold scells at h1 ⊢
      rw [List.flatMap_cons, List.getElem?_append_right (by simp [stpC]; omega)]
      have e : (i + 1) * 7 + j - (stpC x).length = i * 7 + j := by simp [stpC]; omega
      rw [e, h1]
/-- How each word goes on from an earlier one. -/
def ParW (ws : List (List Nat)) (ss : List Stp) : Prop := ss.length = ws.length ∧ ∀ i, i < ws.length → ∃ s, ss[i]? = some s ∧ ((ws.getD i [] = [] ∧ s.2.1 = -1) ∨ ∃ p : Nat, p < i ∧ s.2.1 = (p : Int) ∧ ws.getD i [] = ws.getD p [] ++ [s.2.2])
theorem parW_start (c : Nat) : ParW [[]] [(c, -1, 0)] := ⟨rfl, fun i hi => by
  have : i = 0 := by simpa using hi
  subst this
  exact ⟨_, rfl, .inl ⟨rfl, rfl⟩⟩⟩
theorem ParW.snoc {ws : List (List Nat)} {ss : List Stp} (h : ParW ws ss) {p a c : Nat} (hp : p < ws.length) : ParW (ws ++ [ws.getD p [] ++ [a]]) (ss ++ [(c, (p : Int), a)]) := by
  obtain ⟨h1, h2⟩ := h
  refine ⟨by simp [h1], fun i hi => ?_⟩
  by_cases e : i < ws.length
  · obtain ⟨s, hs, h3⟩ := h2 i e
    refine ⟨s, by rw [List.getElem?_append_left (by omega)]; exact hs, ?_⟩
    rw [getDL_app _ e]
    rcases h3 with h3 | ⟨q, hq, e1, e2⟩
    · exact .inl h3
    · exact .inr ⟨q, hq, e1, by rw [getDL_app _ (by omega)]; exact e2⟩
  · have : i = ws.length := by simp at hi; omega
    subst this
    refine ⟨(c, (p : Int), a), by rw [← h1]; simp, .inr ⟨p, hp, rfl, ?_⟩⟩
    rw [getDL_app _ hp]
    simp [List.getD]

theorem Try.infoStp : (Try.prog.info? 114).map (fun i => (i.zero, i.size, i.bytes)) = some (some (.agg #[.int .i64 0, .int .i64 0, .int .i64 0, .int .i64 0, .int .i64 0, .int .i64 0, .int .i64 0]), 7, 56) := by kernel_rfl

/-- What holds while it goes: what the one who looks owns is J's business. -/
structure SkAt (w0 : World) (S0 : Nat → Prop) (J : List Nat → World → (Nat → Prop) → Prop) (seen : List Nat) (bd bm : Nat) (v0 v1 v2 v3 : Value) (aS : Option Addr) (cS : Nat) (ss : List Stp) (xs : List Nat) (w : World) : Prop where
  st : w.ownsRow w0.heap.size 114 7 (.slice aS ss.length cS) ss.length (scells ss)
  set : SetAt w bm xs
  box : w.heap[bd]? = some (.cells #[v0, v1, v2, v3] 25 (0, 0))
  ge : w0.heap.size ≤ bm ∧ w0.heap.size ≤ bd
  turn : Turn S0 w0 w
  ex : ∃ S, J seen w S ∧ (∀ b, S b → b < w.heap.size) ∧ (∀ b, S b → S0 b ∨ w0.heap.size ≤ b) ∧ (∀ b, S b → (Value.slice aS ss.length cS).ownBlock ≠ some b ∧ b ≠ bm ∧ b ≠ bd)
/-- J hangs on the blocks of S alone. -/
def Stable (w0 : World) (S0 : Nat → Prop) (J : List Nat → World → (Nat → Prop) → Prop) : Prop := ∀ seen W W' S, J seen W S → (∀ b, S b → W'.heap[b]? = W.heap[b]?) → Turn S0 w0 W' → J seen W' S
section
variable {w0 : World} {S0 : Nat → Prop} {J : List Nat → World → (Nat → Prop) → Prop} {seen : List Nat} {bd bm : Nat} {v0 v1 v2 v3 : Value} {aS : Option Addr} {cS : Nat} {ss : List Stp} {xs : List Nat} {w w' : World}
theorem SkAt.grow (h : SkAt w0 S0 J seen bd bm v0 v1 v2 v3 aS cS ss xs w) (hJ : Stable w0 S0 J) (hg : w.grownBy w' none) : SkAt w0 S0 J seen bd bm v0 v1 v2 v3 aS cS ss xs w' := by
  obtain ⟨S, h1, h2, h3, h4⟩ := h.ex
  exact ⟨h.st.kept hg (by cases (Value.slice aS ss.length cS).ownBlock <;> simp), h.set.kept hg (by simp), (hg.block _ (Array.getElem?_eq_some_iff.1 h.box).1 (by simp)).trans h.box, h.ge, h.turn.grow hg,
    ⟨S, hJ _ _ _ _ h1 (fun b hb => hg.block b (h2 b hb) (by simp)) (h.turn.grow hg), fun b hb => Nat.lt_of_lt_of_le (h2 b hb) hg.size, h3, h4⟩⟩
theorem SkAt.cells (h : SkAt w0 S0 J seen bd bm v0 v1 v2 v3 aS cS ss xs w) : w.cell? ⟨bd, 0, none⟩ = some v0 ∧ w.cell? ⟨bd, 1, none⟩ = some v1 ∧ w.cell? ⟨bd, 2, none⟩ = some v2 ∧ w.cell? ⟨bd, 3, none⟩ = some v3 := by
  obtain ⟨h1, h2, h3, h4, _⟩ := block_cells h.box
  exact ⟨h1, h2, h3, h4⟩
theorem SkAt.reads (h : SkAt w0 S0 J seen bd bm v0 v1 v2 v3 aS cS ss xs w) {i : Nat} {s : Stp} (hi : ss[i]? = some s) : ∃ g, aS = some ⟨g, 0, none⟩ ∧ ∀ j u, (stpC s)[j]? = some u → j < 7 → w.cell? ⟨g, i * 7 + j, none⟩ = some u := by
  have hs := h.st
  have hlt : i < ss.length := (List.getElem?_eq_some_iff.1 hi).1
  rcases hs.2 with ⟨_, e0⟩ | ⟨g, cap, cur, e1, _⟩
  · omega
  · simp only [Value.slice.injEq] at e1
    obtain ⟨rfl, _, rfl⟩ := e1
    refine ⟨g, rfl, fun j u hu hj => ?_⟩
    have c1 := hs.cells (g := g) rfl (i * 7 + j) u (by rw [scells_get hi hj]; exact hu)
    rwa [addr_add] at c1
/-- The one who looks has looked. -/
theorem SkAt.looked {c : Nat} (h : SkAt w0 S0 J seen bd bm v0 v1 v2 v3 aS cS ss xs w) {S S' : Nat → Prop} (h1 : J (seen ++ [c]) w' S') (ht : Turn S w w') (hs : ∀ b, S' b → S b ∨ w.heap.size ≤ b) (hl : ∀ b, S' b → b < w'.heap.size)
    (h3 : ∀ b, S b → S0 b ∨ w0.heap.size ≤ b) (h4 : ∀ b, S b → (Value.slice aS ss.length cS).ownBlock ≠ some b ∧ b ≠ bm ∧ b ≠ bd) : SkAt w0 S0 J (seen ++ [c]) bd bm v0 v1 v2 v3 aS cS ss xs w' := by
  have hlt : ∀ b, (Value.slice aS ss.length cS).ownBlock = some b → b < w.heap.size := fun b hb => (h.st.lt b hb).2
  have hbm := h.set.block.1
  have hbd := (Array.getElem?_eq_some_iff.1 h.box).1
  refine ⟨ownsRow_turn h.st ht (fun g hg hS => (h4 g hS).1 hg), h.set.turn ht (fun e => (h4 bm e).2.1 rfl), (ht.block _ hbd (fun e => (h4 bd e).2.2 rfl)).trans h.box, h.ge, h.turn.trans ht h3, ⟨S', h1, hl, fun b hb => ?_, fun b hb => ?_⟩⟩
  · rcases hs b hb with e | e
    · exact h3 b e
    · right; have := h.turn.size; omega
  · rcases hs b hb with e | e
    · exact h4 b e
    · exact ⟨fun hc => by have := hlt b hc; omega, by omega, by omega⟩
/-- A new row is known. -/
theorem SkAt.know {y : Nat} (h : SkAt w0 S0 J seen bd bm v0 v1 v2 v3 aS cS ss xs w) (hJ : Stable w0 S0 J) (hy : y < 3125) (hl : xs.length ≤ 4000) :
    ∃ w', (Instr.mapUpdate 117 (.map (some bm)) (rowV y) (.agg #[])).run Try.prog w = .ok () w' ∧ SkAt w0 S0 J seen bd bm v0 v1 v2 v3 aS cS ss (xs ++ [y]) w' ∧ w.grownBy w' (some bm) := by
  obtain ⟨w', hr, hs, hg⟩ := h.set.put hy hl
  obtain ⟨_, o, ho, hne⟩ := h.set.block
  have hbd : bd ≠ bm := fun e => by
    have h1 := h.box
    rw [e, ho] at h1
    exact hne _ _ _ (Option.some.inj h1)
  have hst : (Value.slice aS ss.length cS).ownBlock ≠ some bm := fun e => by
    rcases h.st.2 with ⟨e0, _⟩ | ⟨g, cap, cur, e1, _, hh, _⟩
    · rw [e0] at e; cases e
    · rw [e1] at e
      have : g = bm := by simpa [Value.ownBlock] using e
      subst this
      rw [hh] at ho
      exact hne _ _ _ (Option.some.inj ho).symm
  obtain ⟨S, h1, h2, h3, h4⟩ := h.ex
  have ht := h.turn.step hg (.inr h.ge.1)
  exact ⟨w', hr, ⟨h.st.kept hg (.inr hst), hs, (hg.block _ (Array.getElem?_eq_some_iff.1 h.box).1 (by simpa using hbd)).trans h.box, h.ge, ht,
    ⟨S, hJ _ _ _ _ h1 (fun b hb => hg.block b (h2 b hb) (by simpa using (h4 b hb).2.1)) ht, fun b hb => Nat.lt_of_lt_of_le (h2 b hb) hg.size, h3, h4⟩⟩, hg⟩
/-- A step is put behind. -/
theorem SkAt.push {H : Nat} (s : Stp) (h : SkAt w0 S0 J seen bd bm v0 v1 v2 v3 aS cS ss xs w) (hJ : Stable w0 S0 J) (hH : w.heap.size = H) (hl : ss.length ≤ 4000) :
    ∃ g cap w', (AppS #[115, 115] 115 #[.slice aS ss.length cS, .slice (some ⟨H, 0, none⟩) 1 1]).run Try.prog (w.alloc (.cells #[.int .i64 ((dg s.1 0 : Nat) : Int), .int .i64 ((dg s.1 1 : Nat) : Int), .int .i64 ((dg s.1 2 : Nat) : Int), .int .i64 ((dg s.1 3 : Nat) : Int), .int .i64 ((dg s.1 4 : Nat) : Int), .int .i64 s.2.1, .int .i64 ((s.2.2 : Nat) : Int)] 114)) = .ok (.slice (some ⟨g, 0, none⟩) (ss.length + 1) cap) w' ∧
      SkAt w0 S0 J seen bd bm v0 v1 v2 v3 (some ⟨g, 0, none⟩) cap (ss ++ [s]) xs w' := by
  subst hH
  have h' := h.grow hJ (grown_alloc w (.cells #[.int .i64 ((dg s.1 0 : Nat) : Int), .int .i64 ((dg s.1 1 : Nat) : Int), .int .i64 ((dg s.1 2 : Nat) : Int), .int .i64 ((dg s.1 3 : Nat) : Int), .int .i64 ((dg s.1 4 : Nat) : Int), .int .i64 s.2.1, .int .i64 ((s.2.2 : Nat) : Int)] 114))
  obtain ⟨i0, hio, hz0, hz1, hz2⟩ := info_parts Try.infoStp
  have hsz := h.turn.size
  obtain ⟨g', cap, w5, hrun, ho5, hg5, hat5, hlt5⟩ := run_append_lies (P := Try.prog) (w.alloc (.cells #[.int .i64 ((dg s.1 0 : Nat) : Int), .int .i64 ((dg s.1 1 : Nat) : Int), .int .i64 ((dg s.1 2 : Nat) : Int), .int .i64 ((dg s.1 3 : Nat) : Int), .int .i64 ((dg s.1 4 : Nat) : Int), .int .i64 s.2.1, .int .i64 ((s.2.2 : Nat) : Int)] 114)) 115 115 w0.heap.size 114 i0 _ 7 56 Try.underlying115 hio hz0 hz1 hz2 rfl (by decide) (.slice aS ss.length cS) ss.length (scells ss) h'.st ⟨w.heap.size, 0, none⟩ 1 1 (stpC s) rfl (World.news_of_block (heap_alloc_new _ _)) (by intro u hu; simp only [stpC, List.mem_cons, List.not_mem_nil, or_false] at hu; rcases hu with rfl | rfl | rfl | rfl | rfl | rfl | rfl <;> rfl) (by omega) (by unfold maxLen; omega) (by omega) (by rw [World.size_alloc]; omega) _ rfl
  obtain ⟨hbm, o, ho, hne⟩ := h'.set.block
  have hbd := (Array.getElem?_eq_some_iff.1 h'.box).1
  have hst : (Value.slice aS ss.length cS).ownBlock ≠ some bm := fun e => by
    rcases h'.st.2 with ⟨e0, _⟩ | ⟨g, cap, cur, e1, _, hh, _⟩
    · rw [e0] at e; cases e
    · rw [e1] at e
      have : g = bm := by simpa [Value.ownBlock] using e
      subst this
      rw [hh] at ho
      exact hne _ _ _ (Option.some.inj ho).symm
  have hsd : (Value.slice aS ss.length cS).ownBlock ≠ some bd := fun e => by
    rcases h'.st.2 with ⟨e0, _⟩ | ⟨g, cap, cur, e1, _, hh, _⟩
    · rw [e0] at e; cases e
    · rw [e1] at e
      have : g = bd := by simpa [Value.ownBlock] using e
      subst this
      have hb := h'.box
      rw [hh] at hb
      simp only [Option.some.injEq, Obj.cells.injEq] at hb
      exact absurd hb.2.1 (by decide)
  have ht : Turn S0 w0 w5 := by
    cases hv : (Value.slice aS ss.length cS).ownBlock with
    | none => rw [hv] at hg5; exact h'.turn.grow hg5
    | some g => rw [hv] at hg5; exact h'.turn.step hg5 (.inr (h'.st.lt g hv).1)
  obtain ⟨S, h1, h2, h3, h4⟩ := h'.ex
  refine ⟨g', cap, w5, hrun, ⟨?_, h'.set.kept hg5 hst, (hg5.block _ hbd (Ne.symm hsd)).trans h'.box, h.ge, ht, ⟨S, hJ _ _ _ _ h1 (fun b hb => hg5.block b (h2 b hb) (Ne.symm (h4 b hb).1)) ht, fun b hb => Nat.lt_of_lt_of_le (h2 b hb) hg5.size, h3, fun b hb => ?_⟩⟩⟩
  · rw [scells_snoc, List.length_append, List.length_singleton]
    exact ho5
  · refine ⟨?_, (h4 b hb).2⟩
    simp only [Value.ownBlock, ne_eq, Option.some.injEq]
    intro e
    subst e
    rcases hat5 with e | e
    · exact (h4 g' hb).1 e
    · have := h2 g' hb
      omega
end

end Go.Proofs.Ytofjboelplknhaa

namespace Go.Proofs.Ytofjboelplknhaa
open Go.RowKit
set_option linter.unusedVariables false

/-- All words ahead of the k-th are gone through. -/
structure OutB (κ : List Nat → Nat) (l : Nat) (v : Nat → Bool) (k : Nat) (ws : List (List Nat)) (ss : List Stp) : Prop where
  is : bfsW κ l k = ws
  le : k ≤ ws.length
  go : ∀ j, j < k → j < (bfsW κ l j).length
  no : ∀ j, j < k → v (κ (ws.getD j [])) = false
  par : ParW ws ss
  cod : ss.map (·.1) = ws.map κ
/-- .. and of the k-th those with a letter ahead of x behind. -/
structure InB (κ : List Nat → Nat) (l : Nat) (v : Nat → Bool) (k x : Nat) (u : List Nat) (ws : List (List Nat)) (ss : List Stp) : Prop where
  lt : k < (bfsW κ l k).length
  it : (bfsW κ l k).getD k [] = u
  is : rowW κ u x (bfsW κ l k) = ws
  go : ∀ j, j < k → j < (bfsW κ l j).length
  no : ∀ j, j < k + 1 → v (κ ((bfsW κ l k).getD j [])) = false
  par : ParW ws ss
  cod : ss.map (·.1) = ws.map κ
section
variable {κ : List Nat → Nat} {l k x : Nat} {v : Nat → Bool} {ws : List (List Nat)} {ss : List Stp} {u : List Nat}
theorem OutB.start (c : Nat) (hc : κ [] = c) : OutB κ l v 0 [[]] [(c, -1, 0)] := ⟨rfl, by simp, fun j hj => by omega, fun j hj => by omega, parW_start c, by simp [hc]⟩
theorem OutB.len (h : OutB κ l v k ws ss) : ss.length = ws.length := h.par.1
theorem OutB.at (h : OutB κ l v k ws ss) (hk : k < ws.length) : ∃ s, ss[k]? = some s ∧ s.1 = κ (ws.getD k []) := by
  obtain ⟨s, hs, _⟩ := h.par.2 k hk
  refine ⟨s, hs, ?_⟩
  have h1 : (ss.map (·.1))[k]? = (ws.map κ)[k]? := by rw [h.cod]
  rw [List.getElem?_map, List.getElem?_map, hs, List.getElem?_eq_getElem hk] at h1
  simp only [Option.map_some, Option.some.injEq] at h1
  rw [h1]; simp [List.getD, hk]
theorem OutB.row (h : OutB κ l v k ws ss) (hk : k < ws.length) (hv : v (κ (ws.getD k [])) = false) : InB κ l v k 0 (ws.getD k []) ws ss := by
  have e := h.is
  refine ⟨by rw [e]; exact hk, by rw [e], by rw [e]; rfl, h.go, fun j hj => ?_, h.par, h.cod⟩
  rw [e]
  by_cases e1 : j = k
  · subst e1; exact hv
  · exact h.no j (by omega)
theorem InB.pre (h : InB κ l v k x u ws ss) : ∃ zs, ws = bfsW κ l k ++ zs := by
  obtain ⟨zs, e⟩ := rowW_more (κ := κ) u x (bfsW κ l k)
  exact ⟨zs, by rw [← h.is]; exact e⟩
theorem InB.at (h : InB κ l v k x u ws ss) : k < ws.length ∧ ws.getD k [] = u ∧ ∃ s, ss[k]? = some s ∧ s.1 = κ u := by
  obtain ⟨zs, e⟩ := h.pre
  have hk : k < ws.length := by rw [e, List.length_append]; have := h.lt; omega
  have hu : ws.getD k [] = u := by rw [e, getDL_app _ h.lt]; exact h.it
  refine ⟨hk, hu, ?_⟩
  obtain ⟨s, hs, _⟩ := h.par.2 k hk
  refine ⟨s, hs, ?_⟩
  have h1 : (ss.map (·.1))[k]? = (ws.map κ)[k]? := by rw [h.cod]
  rw [List.getElem?_map, List.getElem?_map, hs, List.getElem?_eq_getElem hk] at h1
  simp only [Option.map_some, Option.some.injEq] at h1
  rw [h1, ← hu]; simp [List.getD, hk]
theorem InB.nodup (h : InB κ l v k x u ws ss) : (ws.map κ).Nodup := by rw [← h.is]; exact rowW_nodup (bfsW_nodup k) _ _
theorem InB.letters (h : InB κ l v k x u ws ss) (hx : x ≤ l) : (∀ y, y ∈ u → y < l) ∧ ∀ z, z ∈ ws → ∀ y, y ∈ z → y < l := by
  have h1 : ∀ y, y ∈ u → y < l := by rw [← h.it]; exact bfsW_letters k _ (getDL_mem h.lt)
  exact ⟨h1, by rw [← h.is]; exact rowW_letters (bfsW_letters k) h1 hx⟩
theorem InB.old (h : InB κ l v k x u ws ss) (hm : κ (u ++ [x]) ∈ ws.map κ) : InB κ l v k (x + 1) u ws ss := by
  refine ⟨h.lt, h.it, ?_, h.go, h.no, h.par, h.cod⟩
  simp only [rowW]
  rw [h.is]
  unfold addW
  rw [if_pos hm]
theorem InB.new (h : InB κ l v k x u ws ss) (hm : κ (u ++ [x]) ∉ ws.map κ) : InB κ l v k (x + 1) u (ws ++ [u ++ [x]]) (ss ++ [(κ (u ++ [x]), (k : Int), x)]) := by
  obtain ⟨hk, hu, _⟩ := h.at
  refine ⟨h.lt, h.it, ?_, h.go, h.no, ?_, by simp [h.cod]⟩
  · simp only [rowW]
    rw [h.is]
    unfold addW
    rw [if_neg hm]
  · have := h.par.snoc (a := x) (c := κ (u ++ [x])) hk
    rw [hu] at this
    exact this
theorem InB.done (h : InB κ l v k l u ws ss) : OutB κ l v (k + 1) ws ss := by
  obtain ⟨hk, _⟩ := h.at
  obtain ⟨zs, e⟩ := h.pre
  refine ⟨?_, hk, fun j hj => ?_, fun j hj => ?_, h.par, h.cod⟩
  · simp only [bfsW]
    rw [if_pos h.lt, h.it]
    exact h.is
  · by_cases e1 : j = k
    · subst e1; exact h.lt
    · exact h.go j (by omega)
  · rw [e, getDL_app _ (by have := h.lt; omega)]
    exact h.no j hj
theorem OutB.fin (h : OutB κ l v k ws ss) (hk : k = ws.length) : EndW κ l k := ⟨by rw [h.is]; exact hk.symm, h.go⟩
theorem OutB.nodup (h : OutB κ l v k ws ss) : (ws.map κ).Nodup := by rw [← h.is]; exact bfsW_nodup k
theorem OutB.letters (h : OutB κ l v k ws ss) : ∀ z, z ∈ ws → ∀ y, y ∈ z → y < l := by rw [← h.is]; exact bfsW_letters k
end

end Go.Proofs.Ytofjboelplknhaa
