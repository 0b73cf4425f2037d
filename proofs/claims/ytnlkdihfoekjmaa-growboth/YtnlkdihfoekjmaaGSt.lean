/- A round of solving, without the program; and what each of the solver's functions leaves, in one form. -/
import Derived.Test.YtnlkdihfoekjmaaGDrawn
namespace Go.Proofs.Ytnlkdihfoekjmaa
open Go.RowKit
set_option linter.unusedVariables false

/-- While a part is solved: what is left of it. -/
structure Lp (G : Gm) (P : Nat → Bool) (W M : Nat → Int) (Q : Nat → Bool) (Wc Mc : Nat → Int) : Prop where
  sub : Sub G Q
  inP : ∀ p, Q p = true → P p = true
  out : ∀ p, P p = false → Wc p = W p ∧ Mc p = M p
  fin : ∀ W' M', (∀ p, Q p = false → W' p = Wc p ∧ M' p = Mc p) → Solved G Q W' M' → Solved G P W' M'
theorem Lp.start {G : Gm} {P : Nat → Bool} (h : Sub G P) (W M : Nat → Int) : Lp G P W M P W M := ⟨h, fun _ e => e, fun _ _ => ⟨rfl, rfl⟩, fun _ _ _ e => e⟩
theorem Lp.notQ {G : Gm} {P Q : Nat → Bool} {W M Wc Mc : Nat → Int} (h : Lp G P W M Q Wc Mc) {p : Nat} (hp : P p = false) : Q p = false := by
  cases e : Q p with
  | false => rfl
  | true => rw [h.inP p e] at hp; cases hp

/-- One round. -/
structure Rd (G : Gm) (Q : Nat → Bool) (Wc Mc : Nat → Int) (m i j : Int) (a : Nat → Bool) (M1 : Nat → Int) (ρ1 : Nat → Nat) (W1 M1' : Nat → Int) (taken : Nat → Bool) (M2 : Nat → Int) (ρ2 : Nat → Nat) : Prop where
  ij : (i = 0 ∧ j = 1) ∨ (i = 1 ∧ j = 0)
  mi : m % 2 = i
  low : ∀ p, Q p = true → m ≤ G.mark p
  own : ∀ p, Q p = true → G.own p = i ∨ G.own p = j
  dA : Drawn G i (fun p => Q p && decide (G.mark p = m)) Q a Mc M1 ρ1
  same : ∀ p, less Q a p = false → W1 p = Wc p ∧ M1' p = M1 p
  sol : Solved G (less Q a) W1 M1'
  dT : Drawn G j (fun p => less Q a p && decide (W1 p = j)) Q taken M1' M2 ρ2
section
variable {G : Gm} {P Q : Nat → Bool} {W M Wc Mc : Nat → Int} {m i j : Int} {a : Nat → Bool} {M1 : Nat → Int} {ρ1 : Nat → Nat} {W1 M1' : Nat → Int} {taken : Nat → Bool} {M2 : Nat → Int} {ρ2 : Nat → Nat}
theorem Rd.rnd (h : Rd G Q Wc Mc m i j a M1 ρ1 W1 M1' taken M2 ρ2) : Rnd G i j Q (fun p => Q p && decide (G.mark p = m)) a (fun p => less Q a p && decide (W1 p = j)) taken W1 Mc M1 M1' M2 ρ1 ρ2 :=
  ⟨h.ij, h.own, h.dA, h.sol, fun p => by simp, h.dT⟩
theorem Rd.outside (h : Rd G Q Wc Mc m i j a M1 ρ1 W1 M1' taken M2 ρ2) {p : Nat} (hp : Q p = false) : taken p = false ∧ W1 p = Wc p ∧ M2 p = Mc p := by
  have ht : taken p = false := by
    cases e : taken p with
    | false => rfl
    | true => rw [h.dT.within p e] at hp; cases hp
  have ha : a p = false := by
    cases e : a p with
    | false => rfl
    | true => rw [h.dA.within p e] at hp; cases hp
  obtain ⟨h1, h2⟩ := h.same p (less_no.2 (.inl hp))
  exact ⟨ht, h1, (h.dT.keep p (.inl ht)).trans (h2.trans (h.dA.keep p (.inl ha)))⟩
theorem Rd.again (h : Rd G Q Wc Mc m i j a M1 ρ1 W1 M1' taken M2 ρ2) (hL : Lp G P W M Q Wc Mc) : Lp G P W M (less Q taken) (giveF taken j W1) M2 := by
  have no : ∀ p, Q p = false → giveF taken j W1 p = Wc p ∧ M2 p = Mc p := fun p hp => by
    obtain ⟨h1, h2, h3⟩ := h.outside hp
    exact ⟨by simp [giveF, h1, h2], h3⟩
  refine ⟨h.dT.rest hL.sub, fun p hp => hL.inP p (less_iff.1 hp).1, fun p hp => ?_, fun W' M' hw hs => ?_⟩
  · obtain ⟨h1, h2⟩ := no p (hL.notQ hp)
    obtain ⟨h3, h4⟩ := hL.out p hp
    exact ⟨h1.trans h3, h2.trans h4⟩
  · refine hL.fin W' M' (fun p hp => ?_) (h.rnd.again hs (fun p hp => ?_) (fun p hp => ?_))
    · obtain ⟨h1, h2⟩ := no p hp
      obtain ⟨h3, h4⟩ := hw p (less_no.2 (.inl hp))
      exact ⟨h3.trans h1, h4.trans h2⟩
    · rw [(hw p (less_no.2 (.inr hp))).1]; simp [giveF, hp]
    · exact (hw p (less_no.2 (.inr hp))).2
theorem Rd.finish (h : Rd G Q Wc Mc m i j a M1 ρ1 W1 M1' taken M2 ρ2) (hL : Lp G P W M Q Wc Mc) (hT : ∀ p, taken p = (less Q a p && decide (W1 p = j))) :
    (∀ p, P p = false → giveF (less Q taken) i (giveF taken j W1) p = W p ∧ stayF G (fun p => Q p && decide (G.mark p = m)) (less Q taken) M2 p = M p) ∧ Solved G P (giveF (less Q taken) i (giveF taken j W1)) (stayF G (fun p => Q p && decide (G.mark p = m)) (less Q taken) M2) := by
  have no : ∀ p, Q p = false → giveF (less Q taken) i (giveF taken j W1) p = Wc p ∧ stayF G (fun p => Q p && decide (G.mark p = m)) (less Q taken) M2 p = Mc p := fun p hp => by
    obtain ⟨h1, h2, h3⟩ := h.outside hp
    exact ⟨by simp [giveF, less, h1, h2, hp], by simp [stayF, hp, h3]⟩
  refine ⟨fun p hp => ?_, hL.fin _ _ no ?_⟩
  · obtain ⟨h1, h2⟩ := no p (hL.notQ hp)
    obtain ⟨h3, h4⟩ := hL.out p hp
    exact ⟨h1.trans h3, h2.trans h4⟩
  · refine h.rnd.finish (m := m) hT h.mi h.low (fun p => by simp) (fun p ha => (h.same p (less_no.2 (.inr ha))).2) (fun p hp => ?_) (fun p hp => ?_) (fun p hp hq => ?_) (fun p hp => ?_)
    · simp [giveF, hp]
    · have : less Q taken p = false := less_no.2 (.inr hp)
      simp [giveF, hp, this]
    · obtain ⟨q, h1, h2, h3⟩ := lastIn_some (d := M2 p) hq
      exact ⟨q, h1, h2, by simp only [stayF]; rw [if_pos hp]; exact h3⟩
    · simp only [stayF]; rw [if_neg (by rw [hp]; simp)]
end

/-- A set that the solver's writing does not reach. -/
structure SetR (B : Box) (n : Nat) (w : World) (g c : Nat) (o : Nat → Bool) : Prop where
  row : BRow w g n c o
  nw : g ≠ B.bw
  nm : g ≠ B.bm
theorem SetR.turn {B : Box} {n : Nat} {w w' : World} {g c : Nat} {o : Nat → Bool} (h : SetR B n w g c o) (ht : Turn (WM B) w w') : SetR B n w' g c o :=
  ⟨h.row.turn ht (fun e => by rcases e with e | e; exact h.nw e; exact h.nm e), h.nw, h.nm⟩
/-- The solver, with who wins and how one moves. -/
structure St (G : Gm) (fr : Nat → List Nat) (B : Box) (w : World) (W M : Nat → Int) : Prop where
  ready : Ready G fr B w
  won : IRow w B.bw G.n G.n W
  mov : IRow w B.bm G.n G.n M
  ne : B.bw ≠ B.bm
section
variable {G : Gm} {fr : Nat → List Nat} {B : Box} {w w' : World} {W M : Nat → Int}
theorem St.grown (h : St G fr B w W M) (hg : w.grownBy w' none) : St G fr B w' W M := ⟨h.ready.grown hg, h.won.kept hg, h.mov.kept hg, h.ne⟩
theorem St.newSet (h : St G fr B w W M) {g c : Nat} {o : Nat → Bool} (hr : BRow w' g G.n c o) (hb : w.heap.size ≤ g) : SetR B G.n w' g c o := by
  have h1 := h.won.lt
  have h2 := h.mov.lt
  exact ⟨hr, by omega, by omega⟩
def SetQ (G : Gm) (fr : Nat → List Nat) (B : Box) (W M : Nat → Int) (o : Nat → Bool) (w : World) (E : Ending) (w' : World) : Prop :=
  ∃ g c, E = .returned (.slice (some ⟨g, 0, none⟩) G.n c) ∧ SetR B G.n w' g c o ∧ St G fr B w' W M ∧ Turn (WM B) w w'
def DrawQ (G : Gm) (fr : Nat → List Nat) (B : Box) (i : Int) (goal part : Nat → Bool) (W M : Nat → Int) (w : World) (E : Ending) (w' : World) : Prop :=
  ∃ g c out M' ρ, E = .returned (.slice (some ⟨g, 0, none⟩) G.n c) ∧ SetR B G.n w' g c out ∧ St G fr B w' W M' ∧ Drawn G i goal part out M M' ρ ∧ Turn (WM B) w w'
def StQ (G : Gm) (fr : Nat → List Nat) (B : Box) (W M : Nat → Int) (w : World) (E : Ending) (w' : World) : Prop :=
  E = .returned (.tuple #[]) ∧ St G fr B w' W M ∧ Turn (WM B) w w'
theorem St.setq (h : St G fr B w W M) {o : Nat → Bool} {E : Ending} (hp : SetPost G.n o w E w') : SetQ G fr B W M o w E w' := by
  obtain ⟨g, c, rfl, hr, hb, hg⟩ := hp
  exact ⟨g, c, rfl, h.newSet hr hb, h.grown hg, Turn.of hg⟩
theorem St.drawq (h : St G fr B w W M) {i : Int} {goal part : Nat → Bool} {E : Ending} (hp : DrawPost G B i goal part M w E w') : DrawQ G fr B i goal part W M w E w' := by
  obtain ⟨g, c, out, M', ρ, rfl, hr, hb, hm, hd, ht⟩ := hp
  have ht' : Turn (WM B) w w' := ht.mono (fun _ _ e => .inr e)
  exact ⟨g, c, out, M', ρ, rfl, h.newSet hr hb, ⟨h.ready.turn ht', h.won.turn ht h.ne, hm, h.ne⟩, hd, ht'⟩
theorem St.giveq (h : St G fr B w W M) {f : Nat → Int} {E : Ending} (hp : GivePost G B.bw f w E w') : StQ G fr B f M w E w' := by
  obtain ⟨rfl, hr, ht⟩ := hp
  have ht' : Turn (WM B) w w' := ht.mono (fun _ _ e => .inl e)
  exact ⟨rfl, ⟨h.ready.turn ht', hr, h.mov.turn ht (Ne.symm h.ne), h.ne⟩, ht'⟩
theorem St.moveq (h : St G fr B w W M) {f : Nat → Int} {E : Ending} (hp : GivePost G B.bm f w E w') : StQ G fr B W f w E w' := by
  obtain ⟨rfl, hr, ht⟩ := hp
  have ht' : Turn (WM B) w w' := ht.mono (fun _ _ e => .inr e)
  exact ⟨rfl, ⟨h.ready.turn ht', h.won.turn ht h.ne, hr, h.ne⟩, ht'⟩
end

/-- How many places of a set there are, read off memory. -/
def cntW (v : Value) (w : World) : Nat := match v with
  | .slice (some a) n _ => cntL (fun i => match w.cell? ⟨a.block, i, none⟩ with | some (.bool b) => b | _ => false) (List.range n)
  | _ => 0
theorem cntW_eq {w : World} {g n c : Nat} {o : Nat → Bool} (h : BRow w g n c o) : cntW (.slice (some ⟨g, 0, none⟩) n c) w = cntL o (List.range n) := by
  unfold cntW
  refine cntL_congr fun q hq => ?_
  rw [h.cell (List.mem_range.1 hq)]
theorem cntL_less {n : Nat} {P a : Nat → Bool} {p : Nat} (hp : p < n) (h1 : P p = true) (h2 : a p = true) : cntL (less P a) (List.range n) < cntL P (List.range n) := by
  rcases Nat.lt_or_ge (cntL (less P a) (List.range n)) (cntL P (List.range n)) with h | h
  · exact h
  · have := cntL_eq (d := less P a) (e := P) (l := List.range n) (fun q _ hq => (less_iff.1 hq).1) h p (List.mem_range.2 hp) h1
    rw [less_iff, h2] at this
    simp at this

def SolveQ (G : Gm) (fr : Nat → List Nat) (B : Box) (P : Nat → Bool) (W M : Nat → Int) (w : World) (E : Ending) (w' : World) : Prop :=
  ∃ W' M', E = .returned (.tuple #[]) ∧ St G fr B w' W' M' ∧ (∀ p, P p = false → W' p = W p ∧ M' p = M p) ∧ Solved G P W' M' ∧ Turn (WM B) w w'
def SolveC (N : Nat) : Prop := ∀ (G : Gm) (fr : Nat → List Nat) (B : Box) (g c : Nat) (P : Nat → Bool) (W M : Nat → Int) (w : World), GoodG G → FrOk G fr → cntL P (List.range G.n) < N → St G fr B w W M → SetR B G.n w g c P → Sub G P →
  Calls Try.prog 29 #[.pointer (some ⟨B.s, 0, none⟩), .slice (some ⟨g, 0, none⟩) G.n c] w (SolveQ G fr B P W M w)

theorem tmod2 {y : Int} (h0 : 0 ≤ y) : ∃ i : Int, Int.tmod y 2 = i ∧ y % 2 = i ∧ (i = 0 ∨ i = 1) := by
  refine ⟨y % 2, ?_, rfl, by omega⟩
  rw [Int.tmod_eq_emod_of_nonneg h0]

end Go.Proofs.Ytnlkdihfoekjmaa
