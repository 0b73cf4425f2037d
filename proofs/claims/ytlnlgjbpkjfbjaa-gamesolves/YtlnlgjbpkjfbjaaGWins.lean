/- The reference's Wins: a game that is solved is won by whom it says. -/
import Derived.Test.YtlnlgjbpkjfbjaaGSolveE
namespace Go.Proofs.Ytlnlgjbpkjfbjaa
open Go.RowKit
set_option linter.unusedVariables false

/-- Where a play goes on when a player moves as told. -/
def nxW (G : Gm) (W M : Nat → Int) (i : Int) (p : Nat) : List Nat := if G.own p = i ∧ W p = i then [(M p).toNat] else G.nx p
def innW (G : Gm) (W : Nat → Int) (i : Int) (p : Nat) : Bool := decide (p < G.n) && decide (W p = i)
section
variable {G : Gm} {W M : Nat → Int} {i : Int}
theorem win_mine (hS : Solved G (fun p => decide (p < G.n)) W M) {p : Nat} (hp : p < G.n) (ho : G.own p = i) (hw : W p = i) : ∃ q : Nat, q ∈ G.nx p ∧ M p = (q : Int) ∧ q < G.n ∧ W q = i := by
  obtain ⟨q, h1, h2, h3, h4⟩ := hS.mine p (by simpa using hp) (ho.trans hw.symm)
  exact ⟨q, h1, h2, by simpa using h3, h4.trans hw⟩
theorem win_next (hG : GoodG G) (hS : Solved G (fun p => decide (p < G.n)) W M) {p q : Nat} (hp : p < G.n) (hw : W p = i) (hq : q ∈ nxW G W M i p) : q < G.n ∧ W q = i := by
  unfold nxW at hq
  by_cases ho : G.own p = i
  · rw [if_pos ⟨ho, hw⟩] at hq
    obtain ⟨r, h1, h2, h3, h4⟩ := win_mine hS hp ho hw
    rw [h2] at hq
    simp at hq
    subst hq
    exact ⟨h3, h4⟩
  · rw [if_neg (fun e => ho e.1)] at hq
    have hqn := hG.lt p hp q hq
    exact ⟨hqn, (hS.oth p (by simpa using hp) (by rw [hw]; exact ho) q hq (by simpa using hqn)).trans hw⟩
theorem win_lt (hG : GoodG G) (hS : Solved G (fun p => decide (p < G.n)) W M) {p q : Nat} (hp : p < G.n) (hq : q ∈ nxW G W M i p) : q < G.n := by
  by_cases hw : W p = i
  · exact (win_next hG hS hp hw hq).1
  · unfold nxW at hq
    rw [if_neg (fun e => hw e.2)] at hq
    exact hG.lt p hp q hq
theorem win_no (hS : Solved G (fun p => decide (p < G.n)) W M) {p : Nat} (hp : p < G.n) (hi : innW G W i p = true) (hm : G.mark p % 2 ≠ i) : ¬ Pt (OddE (nxW G W M i) (innW G W i) G.mark p) p p := by
  intro hc
  have hw : W p = i := by simp [innW] at hi; exact hi.2
  refine hS.bad p (by simpa using hp) (by rw [hw]; exact hm) ?_
  rw [hw]
  refine hc.mono fun x y e => ?_
  obtain ⟨h1, h2, h3, h4, h5⟩ := e
  simp [innW] at h2 h3
  by_cases ho : G.own x = i
  · obtain ⟨r, k1, k2, k3, k4⟩ := win_mine hS h2.1 ho h2.2
    unfold nxW at h1
    rw [if_pos ⟨ho, h2.2⟩, k2] at h1
    simp at h1
    subst h1
    exact ⟨k1, by simpa using h2.1, by simpa using h3.1, h2.2, h3.2, h4, h5, fun _ => k2⟩
  · unfold nxW at h1
    rw [if_neg (fun e => ho e.1)] at h1
    exact ⟨h1, by simpa using h2.1, by simpa using h3.1, h2.2, h3.2, h4, h5, fun e => absurd e ho⟩
end
theorem nxW_len {G : Gm} (hG : GoodG G) {W M : Nat → Int} {i : Int} {p : Nat} (hp : p < G.n) : (nxW G W M i p).length ≤ 60 := by
  unfold nxW
  split
  · simp
  · have := List.Nodup.length_le_of_subset (hG.nodup p hp) (l₂ := List.range G.n) (fun q hq => List.mem_range.2 (hG.lt p hp q hq))
    rw [List.length_range] at this
    have := hG.n60
    omega

/-- The rows that are gathered: of the game's own, or new ones. -/
structure WnC (G : Gm) (B : Box) (W M : Nat → Int) (i : Int) (B0 gi p : Nat) (w wr : World) (a : Option Addr) (ca : Nat) (vs : List Value) (news : List Item) : Prop where
  own : Owns B0 wr ((25, .slice a p ca, vs) :: news)
  len : vs.length = p
  gr : w.grownBy wr none
  rows : ∀ q, q < p → vs.getD q (.slice none 0 0) = .slice (B.xa q) (G.nx q).length (B.xd q) ∧ nxW G W M i q = G.nx q ∨ (3, vs.getD q (.slice none 0 0), nvals (nxW G W M i q)) ∈ news
  l1 : gi < B0
  l2 : w.heap.size ≤ gi
  l3 : B0 ≤ wr.heap.size
/-- With which places are the player's. -/
structure WnAt (G : Gm) (B : Box) (W M : Nat → Int) (i : Int) (B0 gi p : Nat) (w wr : World) (a : Option Addr) (ca : Nat) (vs : List Value) (news : List Item) : Prop where
  c : WnC G B W M i B0 gi p w wr a ca vs news
  inn : BRow wr gi G.n G.n (fun q => decide (q < p) && decide (W q = i))
section
variable {G : Gm} {B : Box} {W M : Nat → Int} {i : Int} {B0 gi p : Nat} {w wr wr' : World} {a : Option Addr} {ca : Nat} {vs : List Value} {news : List Item}
theorem WnC.kept (h : WnC G B W M i B0 gi p w wr a ca vs news) (hg : wr.grownBy wr' none) : WnC G B W M i B0 gi p w wr' a ca vs news := ⟨h.own.kept hg, h.len, grown_trans h.gr hg, h.rows, h.l1, h.l2, Nat.le_trans h.l3 hg.size⟩
theorem WnAt.kept (h : WnAt G B W M i B0 gi p w wr a ca vs news) (hg : wr.grownBy wr' none) : WnAt G B W M i B0 gi p w wr' a ca vs news := ⟨h.c.kept hg, h.inn.kept hg⟩
theorem WnC.set (h : WnC G B W M i B0 gi p w wr a ca vs news) (q : Nat) (v : Value) : WnC G B W M i B0 gi p w (wr.setCell ⟨gi, q, none⟩ v) a ca vs news :=
  ⟨h.own.below (grown_set _ _ _) h.l1, h.len, grown_new h.gr (grown_set _ _ _) h.l2, h.rows, h.l1, h.l2, by simpa [World.setCell] using h.l3⟩
/-- A new row. -/
theorem WnC.made (h : WnC G B W M i B0 gi p w wr a ca vs news) (q : Nat) : WnC G B W M i B0 gi p w (wr.alloc (.cells #[.int .i64 (q : Int)] 3)) a ca vs ((3, .slice (some ⟨wr.heap.size, 0, none⟩) 1 1, nvals [q]) :: news) := by
  have h1 := h.own.made (arr := #[.int .i64 (q : Int)]) (n := 1) h.l3 3 rfl (by unfold maxLen; omega)
  refine ⟨h1.perm (List.Perm.swap _ _ _), h.len, grown_trans h.gr (grown_alloc _ _), fun r hr => ?_, h.l1, h.l2, by have := h.l3; simp; omega⟩
  rcases h.rows r hr with e | e
  · exact .inl e
  · exact .inr (List.mem_cons_of_mem _ e)
/-- A row is put behind: one of the game's own, or a new one. -/
theorem WnC.push (h : WnC G B W M i B0 gi p w wr a ca vs news) {g' cap H : Nat} {v : Value} (hin : BRow wr gi G.n G.n (fun q => decide (q < p + 1) && decide (W q = i))) (ho : wr'.ownsRow B0 25 1 (.slice (some ⟨g', 0, none⟩) (p + 1) cap) (p + 1) (vs ++ [v])) (hg : wr.grownBy wr' (Value.slice a p ca).ownBlock) (hat : (Value.slice a p ca).ownBlock = some g' ∨ g' = H) (hH : wr.heap.size = H)
    (hv : v = .slice (B.xa p) (G.nx p).length (B.xd p) ∧ nxW G W M i p = G.nx p ∨ (3, v, nvals (nxW G W M i p)) ∈ news) : WnAt G B W M i B0 gi (p + 1) w wr' (some ⟨g', 0, none⟩) cap (vs ++ [v]) news := by
  have h1 := h.own.append (news := [v]) ho (by rw [h.len]; simp) hg hat hH
  have hb : ∀ b, (Value.slice a p ca).ownBlock = some b → B0 ≤ b := fun b hb => (h.own.row.lt b hb).1
  have l1 := h.l1
  refine ⟨⟨h1, by simp [h.len], h.own.frame (by have := h.l2; omega) h.gr hg, fun q hq => ?_, h.l1, h.l2, Nat.le_trans h.l3 hg.size⟩, hin.grownO hg (fun b e => by have := hb b e; omega)⟩
  by_cases hqp : q < p
  · have e : (vs ++ [v]).getD q (.slice none 0 0) = vs.getD q (.slice none 0 0) := by simp [List.getD, List.getElem?_append_left (show q < vs.length by rw [h.len]; exact hqp)]
    rw [e]; exact h.rows q hqp
  · have hqe : q = p := by omega
    subst hqe
    have e : (vs ++ [v]).getD q (.slice none 0 0) = v := by simp [List.getD, ← h.len]
    rw [e]; exact hv
end
/-- What is looked at lies there. -/
theorem WnAt.odd {G : Gm} {B : Box} {W M : Nat → Int} {i : Int} {B0 gi : Nat} {w wr : World} {a : Option Addr} {ca : Nat} {vs : List Value} {news : List Item} (h : WnAt G B W M i B0 gi G.n w wr a ca vs news) (h0 : GmAt w G B) (h1 : 1 ≤ G.n) :
    ∃ bx xa xd, a = some ⟨bx, 0, none⟩ ∧ OddAt G.n G.mark (nxW G W M i) (innW G W i) B.mb B.mo bx 0 gi xa xd wr := by
  obtain ⟨g, cap, e, _⟩ := h.c.own.form (by rw [h.c.len]; omega)
  simp only [Value.slice.injEq] at e
  obtain ⟨rfl, _, _⟩ := e
  have hg := h0.grown h.c.gr
  have hrow : ∀ q, q < G.n → ∃ x : Option Addr × Nat, wr.cell? ⟨g, 0 + q, none⟩ = some (.slice x.1 (nxW G W M i q).length x.2) ∧ NatsAt wr x.1 (nxW G W M i q) := fun q hq => by
    have hc : wr.cell? ⟨g, q, none⟩ = some (vs.getD q (.slice none 0 0)) := h.c.own.cell (by simp [List.getD, h.c.len, hq])
    rw [Nat.zero_add, hc]
    rcases h.c.rows q hq with ⟨e1, e2⟩ | hm
    · exact ⟨(B.xa q, B.xd q), by rw [e1, e2], by rw [e2]; exact (hg.nx q hq).2⟩
    · obtain ⟨_, x, d, e⟩ := h.c.own.1 _ (List.mem_cons_of_mem _ hm)
      simp only [nvals_len] at e
      refine ⟨(x, d), by rw [e], ?_⟩
      rw [e] at hm
      exact (owns_sub h.c.own.tail (List.singleton_sublist.2 hm)).nats.2
  obtain ⟨f, hf⟩ := choose_g hrow
  exact ⟨g, fun q => (f q).1, fun q => (f q).2, rfl, hg.mark, fun q hq => hf q hq, h.inn.congr (fun q hq => by simp [innW, hq])⟩

end Go.Proofs.Ytlnlgjbpkjfbjaa
