/- The solver's drawn: from which places a player can bring the other one to a goal. -/
import Derived.Test.YtnlkdihfoekjmaaGStay
import Derived.Deep.RegionHeld3
namespace Go.Proofs.Ytnlkdihfoekjmaa
open Go.RowKit
set_option linter.unusedVariables false

theorem ival_set {n p : Nat} {f f' : Nat → Int} {x : Int} (e1 : f' p = x) (e2 : ∀ j, j ≠ p → f' j = f j) : ((List.range n).map fun i => Value.int .i64 (f i)).set p (.int .i64 x) = (List.range n).map fun i => Value.int .i64 (f' i) := by
  apply List.ext_getElem (by simp)
  intro j h1 h2
  rw [List.getElem_set]
  simp only [List.getElem_map, List.getElem_range]
  by_cases e : p = j
  · subst e; rw [if_pos rfl, e1]
  · rw [if_neg e, e2 j (Ne.symm e)]
theorem owns_2 {B : Nat} {w : World} {x1 x2 : Item} {r : List Item} (h : Owns B w (x1 :: x2 :: r)) : Owns B w (x2 :: x1 :: r) := h.perm (List.perm_middle (l₁ := [x1]))

theorem owns_join {B : Nat} {w w' : World} {its its1 : List Item} (h : Owns B w its) (hg : w.grownBy w' none) (h1 : Owns w.heap.size w' its1) (hB : B ≤ w.heap.size) : Owns B w' (its1 ++ its) := by
  have h2 := h.kept hg
  refine ⟨fun it hm => ?_, List.pairwise_append.2 ⟨h1.2, h.2, fun p hp q hq => ?_⟩⟩
  · rcases List.mem_append.1 hm with hm | hm
    · exact ⟨ownsRow_base (h1.1 it hm).1 hB, (h1.1 it hm).2⟩
    · exact h2.1 it hm
  · cases hq2 : q.2.1.ownBlock with
    | none => exact .inr (.inl hq2)
    | some b =>
      refine .inr (.inr fun e => ?_)
      have a1 := ((h.1 q hq).1.lt b hq2).2
      have a2 := ((h1.1 p hp).1.lt b (by rw [e, hq2])).1
      omega

/-- What lies in memory while places are drawn. -/
structure DrAt (B : Box) (n B0 go co gn : Nat) (w wr : World) (a : Option Addr) (m ca : Nat) (row : List Nat) (out : Nat → Bool) (nd M : Nat → Int) : Prop where
  own : Owns B0 wr [(3, .slice a m ca, nvals row), (3, .slice (some ⟨gn, 0, none⟩) n n, (List.range n).map fun i => .int .i64 (nd i))]
  outs : BRow wr go n co out
  mov : IRow wr B.bm n n M
  turn : Turn (fun x => x = B.bm) w wr
  l1 : go < B0
  l2 : B.bm < B0
  l3 : go ≠ B.bm
  l4 : w.heap.size ≤ go
  l5 : w.heap.size ≤ B0
  l6 : B0 ≤ wr.heap.size
section
variable {B : Box} {n B0 go co gn : Nat} {w wr wr' : World} {a : Option Addr} {m ca : Nat} {row : List Nat} {out : Nat → Bool} {nd M : Nat → Int}
theorem DrAt.kept (h : DrAt B n B0 go co gn w wr a m ca row out nd M) (hg : wr.grownBy wr' none) : DrAt B n B0 go co gn w wr' a m ca row out nd M :=
  ⟨h.own.kept hg, h.outs.kept hg, h.mov.kept hg, h.turn.grow hg, h.l1, h.l2, h.l3, h.l4, h.l5, Nat.le_trans h.l6 hg.size⟩
theorem DrAt.needC (h : DrAt B n B0 go co gn w wr a m ca row out nd M) {p : Nat} (hp : p < n) : wr.cell? ⟨gn, p, none⟩ = some (.int .i64 (nd p)) ∧ wr.frozen? ⟨gn, p, none⟩ = false :=
  ⟨(owns_2 h.own).cell (by simp [hp]), (owns_2 h.own).fz p⟩
theorem DrAt.gnB (h : DrAt B n B0 go co gn w wr a m ca row out nd M) : B0 ≤ gn := ((owns_2 h.own).row.lt gn rfl).1
theorem DrAt.dec (h : DrAt B n B0 go co gn w wr a m ca row out nd M) {p : Nat} (hp : p < n) {nd' : Nat → Int} {x : Int} (e1 : nd' p = x) (e2 : ∀ j, j ≠ p → nd' j = nd j) : DrAt B n B0 go co gn w (wr.setCell ⟨gn, p, none⟩ (.int .i64 x)) a m ca row out nd' M := by
  have hb := h.gnB
  have l1 := h.l1
  have l2 := h.l2
  have h1 := (owns_2 h.own).set hp (.int .i64 x)
  rw [ival_set e1 e2] at h1
  exact ⟨owns_2 h1, h.outs.other (by omega) _, h.mov.other (by omega) _, h.turn.step (grown_set _ _ _) (.inr (by have := h.l5; show _ ≤ gn; omega)), l1, l2, h.l3, h.l4, h.l5, by simpa [World.setCell] using h.l6⟩
theorem DrAt.putOut (h : DrAt B n B0 go co gn w wr a m ca row out nd M) {p : Nat} (hp : p < n) {out' : Nat → Bool} (e1 : out' p = true) (e2 : ∀ j, j ≠ p → out' j = out j) : DrAt B n B0 go co gn w (wr.setCell ⟨go, p, none⟩ (.bool true)) a m ca row out' nd M :=
  ⟨h.own.below (grown_set _ _ _) h.l1, h.outs.put hp e1 e2, h.mov.other (Ne.symm h.l3) _, h.turn.step (grown_set _ _ _) (.inr h.l4), h.l1, h.l2, h.l3, h.l4, h.l5, by simpa [World.setCell] using h.l6⟩
theorem DrAt.putMove (h : DrAt B n B0 go co gn w wr a m ca row out nd M) {p : Nat} (hp : p < n) {M' : Nat → Int} {x : Int} (e1 : M' p = x) (e2 : ∀ j, j ≠ p → M' j = M j) : DrAt B n B0 go co gn w (wr.setCell ⟨B.bm, p, none⟩ (.int .i64 x)) a m ca row out nd M' :=
  ⟨h.own.below (grown_set _ _ _) h.l2, h.outs.other h.l3 _, h.mov.put hp e1 e2, h.turn.step (grown_set _ _ _) (.inl rfl), h.l1, h.l2, h.l3, h.l4, h.l5, by simpa [World.setCell] using h.l6⟩
theorem DrAt.push (h : DrAt B n B0 go co gn w wr a m ca row out nd M) {g' cap H p : Nat} (hm : m = row.length) (ho : wr'.ownsRow B0 3 1 (.slice (some ⟨g', 0, none⟩) (m + 1) cap) (m + 1) (nvals row ++ [.int .i64 (p : Int)])) (hg : wr.grownBy wr' (Value.slice a m ca).ownBlock) (hat : (Value.slice a m ca).ownBlock = some g' ∨ g' = H) (hH : wr.heap.size = H) :
    DrAt B n B0 go co gn w wr' (some ⟨g', 0, none⟩) (m + 1) cap (row ++ [p]) out nd M := by
  have h1 := h.own.append (news := [.int .i64 (p : Int)]) ho (by rw [nvals_len, hm]; simp) hg hat hH
  have l1 := h.l1
  have l2 := h.l2
  have hb : ∀ b, (Value.slice a m ca).ownBlock = some b → B0 ≤ b := fun b hb => (h.own.row.lt b hb).1
  refine ⟨?_, h.outs.grownO hg (fun b e => by have := hb b e; omega), h.mov.grownO hg (fun b e => by have := hb b e; omega), ?_, h.l1, h.l2, h.l3, h.l4, h.l5, Nat.le_trans h.l6 hg.size⟩
  · simpa [nvals] using h1
  · cases e : (Value.slice a m ca).ownBlock with
    | none => rw [e] at hg; exact h.turn.grow hg
    | some b => rw [e] at hg; exact h.turn.step hg (.inr (by have := hb b e; have := h.l5; omega))
theorem DrAt.rowC (h : DrAt B n B0 go co gn w wr a m ca row out nd M) {k : Nat} (hk : k < row.length) : ∃ b, a = some ⟨b, 0, none⟩ ∧ wr.cell? ⟨b, k, none⟩ = some (.int .i64 ((row.getD k 0 : Nat) : Int)) := by
  obtain ⟨g, cap, e, _⟩ := h.own.form (by rw [nvals_len]; omega)
  cases e
  exact ⟨g, rfl, h.own.cell (nvals_get hk)⟩
end

theorem needF_range {G : Gm} (hG : GoodG G) {i : Int} {part : Nat → Bool} {p : Nat} (hp : p < G.n) : 0 ≤ needF G i part p ∧ needF G i part p ≤ 100 := by
  have h1 := cntL_le_len part (G.nx p)
  have h2 := List.Nodup.length_le_of_subset (hG.nodup p hp) (l₂ := List.range G.n) (fun q hq => List.mem_range.2 (hG.lt p hp q hq))
  rw [List.length_range] at h2
  have := hG.n60
  unfold needF
  split
  · split <;> omega
  · omega
theorem Que.range {G : Gm} (hG : GoodG G) {i : Int} {goal part : Nat → Bool} {M0 : Nat → Int} {k : Nat} {ps row : List Nat} {out : Nat → Bool} {nd M : Nat → Int} (h : Que G i goal part M0 k ps row out nd M) {p : Nat} (hp : p < G.n) : -300 ≤ nd p ∧ nd p ≤ 300 := by
  have h0 := needF_range hG (i := i) (part := part) hp
  have h1 := cntL_le_len (dnB row k) (G.nx p)
  have h2 := List.Nodup.length_le_of_subset (hG.nodup p hp) (l₂ := List.range G.n) (fun q hq => List.mem_range.2 (hG.lt p hp q hq))
  rw [List.length_range] at h2
  have h3 := hG.n60
  have h4 := h.need p hp
  have h5 : (if p ∈ ps then 1 else 0) ≤ 1 := by split <;> omega
  omega
theorem Que.rowLen {G : Gm} {i : Int} {goal part : Nat → Bool} {M0 : Nat → Int} {k : Nat} {ps row : List Nat} {out : Nat → Bool} {nd M : Nat → Int} (h : Que G i goal part M0 k ps row out nd M) (hS : Sub G part) : row.length ≤ G.n := by
  have h2 := List.Nodup.length_le_of_subset h.nodup (l₂ := List.range G.n) (fun q hq => List.mem_range.2 (hS q (h.within q hq)).1)
  rwa [List.length_range] at h2

/-- From where one comes to each place. -/
structure FrOk (G : Gm) (fr : Nat → List Nat) : Prop where
  mem : ∀ x, x < G.n → ∀ p, p ∈ fr x ↔ p < G.n ∧ x ∈ G.nx p
  nodup : ∀ x, x < G.n → (fr x).Nodup
theorem FrOk.len {G : Gm} {fr : Nat → List Nat} (h : FrOk G fr) {x : Nat} (hx : x < G.n) : (fr x).length ≤ G.n := by
  have h2 := List.Nodup.length_le_of_subset (h.nodup x hx) (l₂ := List.range G.n) (fun q hq => List.mem_range.2 ((h.mem x hx q).1 hq).1)
  rwa [List.length_range] at h2

def DrawPost (G : Gm) (B : Box) (i : Int) (goal part : Nat → Bool) (M : Nat → Int) (w : World) (E : Ending) (w' : World) : Prop :=
  ∃ g c out M' ρ, E = .returned (.slice (some ⟨g, 0, none⟩) G.n c) ∧ BRow w' g G.n c out ∧ w.heap.size ≤ g ∧ IRow w' B.bm G.n G.n M' ∧ Drawn G i goal part out M M' ρ ∧ Turn (fun x => x = B.bm) w w'

end Go.Proofs.Ytnlkdihfoekjmaa
