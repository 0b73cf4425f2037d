/- Games without the program: ways round, what it is to be solved, and how parts that are solved make a whole (McNaughton, Zielonka). -/
import Derived.Test.YtnlkdihfoekjmaaGrow
namespace Go.Proofs.Ytnlkdihfoekjmaa
set_option linter.unusedVariables false

/-- A game: how many places, whose each is, its mark, where one can move to. -/
structure Gm where
  n : Nat
  own : Nat → Int
  mark : Nat → Int
  nx : Nat → List Nat
structure GoodG (G : Gm) : Prop where
  n1 : 1 ≤ G.n
  n60 : G.n ≤ 100
  own : ∀ p, p < G.n → G.own p = 0 ∨ G.own p = 1
  mark : ∀ p, p < G.n → 0 ≤ G.mark p ∧ G.mark p ≤ 9
  some : ∀ p, p < G.n → G.nx p ≠ []
  lt : ∀ p, p < G.n → ∀ q, q ∈ G.nx p → q < G.n
  nodup : ∀ p, p < G.n → (G.nx p).Nodup

/-- A way of one step or more. -/
inductive Pt (E : Nat → Nat → Prop) : Nat → Nat → Prop
  | one {x y : Nat} : E x y → Pt E x y
  | more {x y z : Nat} : Pt E x y → E y z → Pt E x z
theorem Pt.mono {E E' : Nat → Nat → Prop} {x y : Nat} (h : Pt E x y) (hE : ∀ x y, E x y → E' x y) : Pt E' x y := by
  induction h with
  | one h => exact .one (hE _ _ h)
  | more _ h ih => exact .more ih (hE _ _ h)
theorem Pt.start {E : Nat → Nat → Prop} {x y : Nat} (h : Pt E x y) : ∃ z, E x z := by
  induction h with
  | one h => exact ⟨_, h⟩
  | more _ _ ih => exact ih
/-- Where no step goes up, a way round stays at one height. -/
theorem Pt.level {E : Nat → Nat → Prop} {f : Nat → Nat} (hf : ∀ x y, E x y → f y ≤ f x) {p q : Nat} (h : Pt E p q) : f q ≤ f p ∧ (f q = f p → Pt (fun x y => E x y ∧ f x = f p ∧ f y = f p) p q) := by
  induction h with
  | one h => exact ⟨hf _ _ h, fun e => .one ⟨h, rfl, e⟩⟩
  | more _ h ih =>
    have h1 := hf _ _ h
    refine ⟨Nat.le_trans h1 ih.1, fun e => ?_⟩
    have h2 : f _ = f _ := Nat.le_antisymm ih.1 (e ▸ h1)
    exact .more (ih.2 h2) ⟨h, h2, e⟩
theorem Pt.round {E : Nat → Nat → Prop} {f : Nat → Nat} (hf : ∀ x y, E x y → f y ≤ f x) {p : Nat} (h : Pt E p p) : Pt (fun x y => E x y ∧ f x = f p ∧ f y = f p) p p := (h.level hf).2 rfl
theorem Pt.falls {E : Nat → Nat → Prop} {f : Nat → Nat} (hf : ∀ x y, E x y → f y < f x) {p : Nat} (h : Pt E p p) : False := by
  obtain ⟨z, h1, h2, h3⟩ := (h.round (fun x y e => Nat.le_of_lt (hf x y e))).start
  have := hf _ _ h1
  omega

/-- A step within a part, among places of one winner, over marks that are no less: the winner moves as told. -/
def Ed (G : Gm) (P : Nat → Bool) (W M : Nat → Int) (i m : Int) (x y : Nat) : Prop :=
  y ∈ G.nx x ∧ P x = true ∧ P y = true ∧ W x = i ∧ W y = i ∧ m ≤ G.mark x ∧ m ≤ G.mark y ∧ (G.own x = i → M x = (y : Int))
structure Solved (G : Gm) (P : Nat → Bool) (W M : Nat → Int) : Prop where
  who : ∀ p, P p = true → W p = 0 ∨ W p = 1
  mine : ∀ p, P p = true → G.own p = W p → ∃ q : Nat, q ∈ G.nx p ∧ M p = (q : Int) ∧ P q = true ∧ W q = W p
  oth : ∀ p, P p = true → G.own p ≠ W p → ∀ q, q ∈ G.nx p → P q = true → W q = W p
  bad : ∀ p, P p = true → G.mark p % 2 ≠ W p → ¬ Pt (Ed G P W M (W p) (G.mark p)) p p

/-- A part: from each place of it one can stay in it. -/
def Sub (G : Gm) (P : Nat → Bool) : Prop := ∀ p, P p = true → p < G.n ∧ ∃ q, q ∈ G.nx p ∧ P q = true

/-- What is drawn to a goal. -/
structure Drawn (G : Gm) (i : Int) (goal part out : Nat → Bool) (M M' : Nat → Int) (ρ : Nat → Nat) : Prop where
  sub : ∀ p, goal p = true → out p = true
  within : ∀ p, out p = true → part p = true
  mine : ∀ p, out p = true → goal p = false → G.own p = i → ∃ q : Nat, q ∈ G.nx p ∧ M' p = (q : Int) ∧ out q = true ∧ ρ q < ρ p
  oth : ∀ p, out p = true → goal p = false → G.own p ≠ i → ∀ q, q ∈ G.nx p → part q = true → out q = true ∧ ρ q < ρ p
  outM : ∀ p, part p = true → out p = false → G.own p = i → ∀ q, q ∈ G.nx p → out q = false
  outO : ∀ p, part p = true → out p = false → G.own p ≠ i → ∃ q, q ∈ G.nx p ∧ part q = true ∧ out q = false
  keep : ∀ p, out p = false ∨ goal p = true → M' p = M p

/-- The one without the other. -/
def less (P o : Nat → Bool) : Nat → Bool := fun p => P p && !o p
theorem less_iff {P o : Nat → Bool} {p : Nat} : less P o p = true ↔ P p = true ∧ o p = false := by simp [less]
theorem less_no {P o : Nat → Bool} {p : Nat} : less P o p = false ↔ P p = false ∨ o p = true := by
  unfold less
  cases P p <;> cases o p <;> simp

theorem Drawn.rest {G : Gm} {i : Int} {goal part out : Nat → Bool} {M M' : Nat → Int} {ρ : Nat → Nat} (h : Drawn G i goal part out M M' ρ) (hS : Sub G part) : Sub G (less part out) := by
  intro p hp
  obtain ⟨h1, h2⟩ := less_iff.1 hp
  obtain ⟨hn, q, hq, hq'⟩ := hS p h1
  refine ⟨hn, ?_⟩
  by_cases ho : G.own p = i
  · exact ⟨q, hq, less_iff.2 ⟨hq', h.outM p h1 h2 ho q hq⟩⟩
  · obtain ⟨r, h3, h4, h5⟩ := h.outO p h1 h2 ho
    exact ⟨r, h3, less_iff.2 ⟨h4, h5⟩⟩

/-- What both ends of a round of solving know. -/
structure Rnd (G : Gm) (i j : Int) (P best a lost taken : Nat → Bool) (W1 M0 M1 M1' M2 : Nat → Int) (ρ1 ρ2 : Nat → Nat) : Prop where
  ij : (i = 0 ∧ j = 1) ∨ (i = 1 ∧ j = 0)
  own : ∀ p, P p = true → G.own p = i ∨ G.own p = j
  dA : Drawn G i best P a M0 M1 ρ1
  sol : Solved G (less P a) W1 M1'
  loss : ∀ p, lost p = true ↔ less P a p = true ∧ W1 p = j
  dT : Drawn G j lost P taken M1' M2 ρ2

section
variable {G : Gm} {i j : Int} {P best a lost taken : Nat → Bool} {W1 M0 M1 M1' M2 : Nat → Int} {ρ1 ρ2 : Nat → Nat}
theorem Rnd.ne (h : Rnd G i j P best a lost taken W1 M0 M1 M1' M2 ρ1 ρ2) : i ≠ j := by rcases h.ij with ⟨rfl, rfl⟩ | ⟨rfl, rfl⟩ <;> simp
theorem Rnd.ownI (h : Rnd G i j P best a lost taken W1 M0 M1 M1' M2 ρ1 ρ2) {p : Nat} (hp : P p = true) (ho : G.own p ≠ j) : G.own p = i := (h.own p hp).resolve_right ho
theorem Rnd.ownJ (h : Rnd G i j P best a lost taken W1 M0 M1 M1' M2 ρ1 ρ2) {p : Nat} (hp : P p = true) (ho : G.own p ≠ i) : G.own p = j := (h.own p hp).resolve_left ho
theorem Rnd.whoI (h : Rnd G i j P best a lost taken W1 M0 M1 M1' M2 ρ1 ρ2) {p : Nat} (hp : less P a p = true) (hl : lost p = false) : W1 p = i := by
  have h1 := h.sol.who p hp
  have h2 : W1 p ≠ j := fun e => by have := (h.loss p).2 ⟨hp, e⟩; rw [hl] at this; cases this
  rcases h.ij with ⟨rfl, rfl⟩ | ⟨rfl, rfl⟩ <;> omega
/-- From what is lost a step leads to what is lost. -/
theorem Rnd.lostO (h : Rnd G i j P best a lost taken W1 M0 M1 M1' M2 ρ1 ρ2) {p q : Nat} (hp : lost p = true) (ho : G.own p ≠ j) (hq : q ∈ G.nx p) (hP : P q = true) : lost q = true := by
  obtain ⟨h1, h2⟩ := (h.loss p).1 hp
  obtain ⟨h3, h4⟩ := less_iff.1 h1
  have h5 := h.dA.outM p h3 h4 (h.ownI h3 ho) q hq
  have h6 : less P a q = true := less_iff.2 ⟨hP, h5⟩
  exact (h.loss q).2 ⟨h6, (h.sol.oth p h1 (by rw [h2]; exact ho) q hq h6).trans h2⟩
theorem Rnd.lostM (h : Rnd G i j P best a lost taken W1 M0 M1 M1' M2 ρ1 ρ2) {p : Nat} (hp : lost p = true) (ho : G.own p = j) : ∃ q : Nat, q ∈ G.nx p ∧ M1' p = (q : Int) ∧ lost q = true := by
  obtain ⟨h1, h2⟩ := (h.loss p).1 hp
  obtain ⟨q, hq, hm, h3, h4⟩ := h.sol.mine p h1 (ho.trans h2.symm)
  exact ⟨q, hq, hm, (h.loss q).2 ⟨h3, h4.trans h2⟩⟩
theorem Rnd.lostP (h : Rnd G i j P best a lost taken W1 M0 M1 M1' M2 ρ1 ρ2) {p : Nat} (hp : lost p = true) : P p = true ∧ a p = false ∧ W1 p = j := by
  obtain ⟨h1, h2⟩ := (h.loss p).1 hp
  obtain ⟨h3, h4⟩ := less_iff.1 h1
  exact ⟨h3, h4, h2⟩

/-- More was taken than was lost: what is left is solved anew. -/
theorem Rnd.again (h : Rnd G i j P best a lost taken W1 M0 M1 M1' M2 ρ1 ρ2) {W3 M3 : Nat → Int} (R : Solved G (less P taken) W3 M3) (hW : ∀ p, taken p = true → W3 p = j) (hM : ∀ p, taken p = true → M3 p = M2 p) : Solved G P W3 M3 := by
  have hne := h.ne
  have part : ∀ p, P p = true → taken p = false → less P taken p = true := fun p h1 h2 => less_iff.2 ⟨h1, h2⟩
  have mL : ∀ p, lost p = true → M3 p = M1' p := fun p hl => (hM p (h.dT.sub p hl)).trans (h.dT.keep p (.inr hl))
  have whoR : ∀ p, P p = true → taken p = false → W3 p = i ∨ W3 p = j := fun p h1 h2 => by
    rcases h.ij with ⟨rfl, rfl⟩ | ⟨rfl, rfl⟩
    · exact R.who p (part p h1 h2)
    · exact (R.who p (part p h1 h2)).symm
  -- a step of j's out of what is taken
  have stepT : ∀ x y, taken x = true → y ∈ G.nx x → P y = true → (G.own x = j → M3 x = (y : Int)) → taken y = true ∧ (lost x = true → lost y = true) ∧ (lost x = false → ρ2 y < ρ2 x) := by
    intro x y hx hy hP ho
    have hPx := h.dT.within x hx
    cases hl : lost x with
    | true =>
      have : lost y = true := by
        by_cases hj : G.own x = j
        · obtain ⟨q, hq, hm, hql⟩ := h.lostM hl hj
          have e : q = y := by have := ho hj; rw [mL x hl, hm] at this; exact Int.ofNat.inj this
          exact e ▸ hql
        · exact h.lostO hl hj hy hP
      exact ⟨h.dT.sub y this, fun _ => this, fun e => by cases e⟩
    | false =>
      by_cases hj : G.own x = j
      · obtain ⟨q, hq, hm, hqt, hr⟩ := h.dT.mine x hx hl hj
        have e : q = y := by have := ho hj; rw [hM x hx, hm] at this; exact Int.ofNat.inj this
        subst e
        exact ⟨hqt, (by simp), fun _ => hr⟩
      · obtain ⟨h1, h2⟩ := h.dT.oth x hx hl hj y hy hP
        exact ⟨h1, (by simp), fun _ => h2⟩
  refine ⟨fun p hp => ?_, fun p hp ho => ?_, fun p hp ho q hq hP => ?_, fun p hp hm hc => ?_⟩
  · cases ht : taken p with
    | true => rw [hW p ht]; rcases h.ij with ⟨_, rfl⟩ | ⟨_, rfl⟩ <;> simp
    | false => exact R.who p (part p hp ht)
  · cases ht : taken p with
    | true =>
      rw [hW p ht] at ho ⊢
      cases hl : lost p with
      | true =>
        obtain ⟨q, hq, hm, hql⟩ := h.lostM hl ho
        exact ⟨q, hq, (mL p hl).trans hm, (h.lostP hql).1, hW q (h.dT.sub q hql)⟩
      | false =>
        obtain ⟨q, hq, hm, hqt, _⟩ := h.dT.mine p ht hl ho
        exact ⟨q, hq, (hM p ht).trans hm, h.dT.within q hqt, hW q hqt⟩
    | false =>
      obtain ⟨q, hq, hm, hqr, hw⟩ := R.mine p (part p hp ht) ho
      exact ⟨q, hq, hm, (less_iff.1 hqr).1, hw⟩
  · cases ht : taken p with
    | true =>
      rw [hW p ht] at ho ⊢
      exact hW q (stepT p q ht hq hP (fun e => absurd e ho)).1
    | false =>
      cases htq : taken q with
      | false => exact R.oth p (part p hp ht) ho q hq (part q hP htq)
      | true =>
        rw [hW q htq]
        rcases whoR p hp ht with e | e
        · have := h.dT.outM p hp ht (h.ownJ hp (e ▸ ho)) q hq
          rw [htq] at this; cases this
        · exact e.symm
  · cases ht : taken p with
    | false =>
      -- never into what is taken: else never back
      have hl := hc.round (f := fun x => if taken x = true then 0 else 1) (fun x y e => by
        obtain ⟨e1, e2, e3, e4, e5, _, _, e6⟩ := e
        cases htx : taken x with
        | false => simp; split <;> omega
        | true =>
          have hwj : W3 p = j := e4.symm.trans (hW x htx)
          have := (stepT x y htx e1 e3 (fun ho => e6 (ho.trans hwj.symm))).1
          simp [this])
      refine R.bad p (part p hp ht) hm (hl.mono fun x y e => ?_)
      obtain ⟨⟨e1, e2, e3, e4, e5, e7, e8, e6⟩, e9, e10⟩ := e
      simp only [ht] at e9 e10
      have hx : taken x = false := by cases hh : taken x with | false => rfl | true => rw [hh] at e9; simp at e9
      have hy : taken y = false := by cases hh : taken y with | false => rfl | true => rw [hh] at e10; simp at e10
      exact ⟨e1, part x e2 hx, part y e3 hy, e4, e5, e7, e8, e6⟩
    | true =>
      have hwj : W3 p = j := hW p ht
      rw [hwj] at hm hc
      -- all of it is taken
      have h1 := hc.round (f := fun x => if taken x = true then 0 else 1) (fun x y e => by
        obtain ⟨e1, e2, e3, e4, e5, _, _, e6⟩ := e
        cases htx : taken x with
        | false => simp; split <;> omega
        | true => have := (stepT x y htx e1 e3 e6).1; simp [this])
      have h2 : Pt (fun x y => Ed G P W3 M3 j (G.mark p) x y ∧ taken x = true) p p := h1.mono fun x y e => by
        refine ⟨e.1, ?_⟩
        have e9 := e.2.1
        simp only [ht] at e9
        cases hh : taken x with | true => rfl | false => rw [hh] at e9; simp at e9
      have h3 := h2.round (f := fun x => if lost x = true then 0 else ρ2 x + 1) (fun x y e => by
        obtain ⟨⟨e1, e2, e3, e4, e5, _, _, e6⟩, e7⟩ := e
        obtain ⟨_, f1, f2⟩ := stepT x y e7 e1 e3 e6
        cases hl : lost x with
        | true => simp [f1 hl]
        | false => have := f2 hl; simp; split <;> omega)
      cases hl : lost p with
      | true =>
        refine h.sol.bad p ((h.loss p).1 hl).1 (by rw [((h.loss p).1 hl).2]; exact hm) ?_
        rw [((h.loss p).1 hl).2]
        refine h3.mono fun x y e => ?_
        obtain ⟨⟨⟨e1, e2, e3, e4, e5, e7, e8, e6⟩, e7'⟩, e9, e10⟩ := e
        simp only [hl] at e9 e10
        have hx : lost x = true := by cases hh : lost x with | true => rfl | false => rw [hh] at e9; simp at e9
        have hy : lost y = true := by cases hh : lost y with | true => rfl | false => rw [hh] at e10; simp at e10
        exact ⟨e1, ((h.loss x).1 hx).1, ((h.loss y).1 hy).1, ((h.loss x).1 hx).2, ((h.loss y).1 hy).2, e7, e8, fun ho => (mL x hx).symm.trans (e6 ho)⟩
      | false =>
        obtain ⟨z, ⟨⟨e1, e2, e3, e4, e5, _, _, e6⟩, e7⟩, e9, e10⟩ := h3.start
        obtain ⟨_, f1, f2⟩ := stepT p z e7 e1 e3 e6
        have := f2 hl
        simp only [hl] at e10
        split at e10 <;> simp at e10 <;> omega

/-- No more was taken than was lost: all else is the other one's. -/
theorem Rnd.finish (h : Rnd G i j P best a lost taken W1 M0 M1 M1' M2 ρ1 ρ2) {m : Int} (hT : ∀ p, taken p = lost p) (hm : m % 2 = i) (hmin : ∀ p, P p = true → m ≤ G.mark p) (hbest : ∀ p, best p = true ↔ P p = true ∧ G.mark p = m)
    (hM1 : ∀ p, a p = true → M1' p = M1 p) {W3 M3 : Nat → Int} (hWi : ∀ p, less P taken p = true → W3 p = i) (hWj : ∀ p, taken p = true → W3 p = j)
    (hS : ∀ p, best p = true → (∃ q, q ∈ G.nx p ∧ less P taken q = true) → ∃ q : Nat, q ∈ G.nx p ∧ less P taken q = true ∧ M3 p = (q : Int)) (hM : ∀ p, best p = false → M3 p = M2 p) : Solved G P W3 M3 := by
  have hne := h.ne
  have m2 : ∀ p, M2 p = M1' p := fun p => h.dT.keep p (by rw [hT]; cases lost p <;> simp)
  have part : ∀ p, P p = true → lost p = false → less P taken p = true := fun p h1 h2 => less_iff.2 ⟨h1, (hT p).trans h2⟩
  have wI : ∀ p, P p = true → lost p = false → W3 p = i := fun p h1 h2 => hWi p (part p h1 h2)
  have wJ : ∀ p, lost p = true → W3 p = j := fun p h1 => hWj p ((hT p).trans h1)
  have ba : ∀ p, best p = true → a p = true := fun p hb => h.dA.sub p hb
  have la : ∀ p, lost p = true → best p = false := fun p hl => by
    cases hb : best p with
    | false => rfl
    | true => have := (h.lostP hl).2.1; rw [ba p hb] at this; cases this
  have mL : ∀ p, lost p = true → M3 p = M1' p := fun p hl => (hM p (la p hl)).trans (m2 p)
  have al : ∀ p, a p = true → lost p = false := fun p ha => by
    cases hl : lost p with
    | false => rfl
    | true => have := (h.lostP hl).2.1; rw [ha] at this; cases this
  -- a step of i's out of what is drawn to the best
  have stepA : ∀ x y, a x = true → best x = false → y ∈ G.nx x → P y = true → (G.own x = i → M3 x = (y : Int)) → a y = true ∧ ρ1 y < ρ1 x := by
    intro x y hx hb hy hP ho
    by_cases hi : G.own x = i
    · obtain ⟨q, hq, hmq, hqa, hr⟩ := h.dA.mine x hx hb hi
      have e : q = y := by have := ho hi; rw [hM x hb, m2, hM1 x hx, hmq] at this; exact Int.ofNat.inj this
      subst e
      exact ⟨hqa, hr⟩
    · exact h.dA.oth x hx hb hi y hy hP
  refine ⟨fun p hp => ?_, fun p hp ho => ?_, fun p hp ho q hq hP => ?_, fun p hp hmk hc => ?_⟩
  · cases hl : lost p with
    | true => rw [wJ p hl]; rcases h.ij with ⟨_, rfl⟩ | ⟨_, rfl⟩ <;> simp
    | false => rw [wI p hp hl]; rcases h.ij with ⟨rfl, _⟩ | ⟨rfl, _⟩ <;> simp
  · cases hl : lost p with
    | true =>
      rw [wJ p hl] at ho ⊢
      obtain ⟨q, hq, hmq, hql⟩ := h.lostM hl ho
      exact ⟨q, hq, (mL p hl).trans hmq, (h.lostP hql).1, wJ q hql⟩
    | false =>
      rw [wI p hp hl] at ho ⊢
      have hTp : taken p = false := (hT p).trans hl
      cases ha : a p with
      | true =>
        cases hb : best p with
        | true =>
          obtain ⟨q, hq, hqP, hqt⟩ := h.dT.outO p hp hTp (by rw [ho]; exact hne)
          obtain ⟨r, hr, hrP, hrm⟩ := hS p hb ⟨q, hq, less_iff.2 ⟨hqP, hqt⟩⟩
          exact ⟨r, hr, hrm, (less_iff.1 hrP).1, hWi r hrP⟩
        | false =>
          obtain ⟨q, hq, hmq, hqa, hr⟩ := h.dA.mine p ha hb ho
          exact ⟨q, hq, by rw [hM p hb, m2, hM1 p ha, hmq], h.dA.within q hqa, wI q (h.dA.within q hqa) (al q hqa)⟩
      | false =>
        have hlp : less P a p = true := less_iff.2 ⟨hp, ha⟩
        have hb : best p = false := by cases hb : best p with | false => rfl | true => rw [ba p hb] at ha; cases ha
        obtain ⟨q, hq, hmq, hqP, hqw⟩ := h.sol.mine p hlp (by rw [h.whoI hlp hl]; exact ho)
        have hql : lost q = false := by
          cases hh : lost q with
          | false => rfl
          | true => have := (h.lostP hh).2.2; rw [hqw, h.whoI hlp hl] at this; exact absurd this hne
        exact ⟨q, hq, by rw [hM p hb, m2, hmq], (less_iff.1 hqP).1, wI q (less_iff.1 hqP).1 hql⟩
  · cases hl : lost p with
    | true =>
      rw [wJ p hl] at ho ⊢
      exact wJ q (h.lostO hl ho hq hP)
    | false =>
      rw [wI p hp hl] at ho ⊢
      have := h.dT.outM p hp ((hT p).trans hl) (h.ownJ hp ho) q hq
      exact wI q hP ((hT q).symm.trans this)
  · cases hl : lost p with
    | true =>
      have hw := (h.loss p).1 hl
      rw [wJ p hl] at hmk hc
      refine h.sol.bad p hw.1 (by rw [hw.2]; exact hmk) ?_
      rw [hw.2]
      refine hc.mono fun x y e => ?_
      obtain ⟨e1, e2, e3, e4, e5, e7, e8, e6⟩ := e
      have hx : lost x = true := by cases hh : lost x with | true => rfl | false => rw [wI x e2 hh] at e4; exact absurd e4 hne
      have hy : lost y = true := by cases hh : lost y with | true => rfl | false => rw [wI y e3 hh] at e5; exact absurd e5 hne
      exact ⟨e1, ((h.loss x).1 hx).1, ((h.loss y).1 hy).1, ((h.loss x).1 hx).2, ((h.loss y).1 hy).2, e7, e8, fun ho => (mL x hx).symm.trans (e6 ho)⟩
    | false =>
      rw [wI p hp hl] at hmk hc
      have hmp : m < G.mark p := by
        have := hmin p hp
        rcases Int.lt_or_eq_of_le this with h1 | h1
        · exact h1
        · rw [← h1] at hmk; exact absurd hm hmk
      have nb : ∀ x, G.mark p ≤ G.mark x → best x = false := fun x hx => by
        cases hb : best x with
        | false => rfl
        | true => have := ((hbest x).1 hb).2; omega
      have h1 := hc.round (f := fun x => if a x = true then 0 else 1) (fun x y e => by
        obtain ⟨e1, e2, e3, e4, e5, e7, e8, e6⟩ := e
        cases hax : a x with
        | false => simp; split <;> omega
        | true => have := (stepA x y hax (nb x e7) e1 e3 e6).1; simp [this])
      cases ha : a p with
      | true =>
        have h2 : Pt (fun x y => Ed G P W3 M3 i (G.mark p) x y ∧ a x = true) p p := h1.mono fun x y e => by
          refine ⟨e.1, ?_⟩
          have e9 := e.2.1
          simp only [ha] at e9
          cases hh : a x with | true => rfl | false => rw [hh] at e9; simp at e9
        refine h2.falls (f := ρ1) fun x y e => ?_
        obtain ⟨⟨e1, e2, e3, e4, e5, e7, e8, e6⟩, e9⟩ := e
        exact (stepA x y e9 (nb x e7) e1 e3 e6).2
      | false =>
        have hlp : less P a p = true := less_iff.2 ⟨hp, ha⟩
        refine h.sol.bad p hlp (by rw [h.whoI hlp hl]; exact hmk) ?_
        rw [h.whoI hlp hl]
        refine h1.mono fun x y e => ?_
        obtain ⟨⟨e1, e2, e3, e4, e5, e7, e8, e6⟩, e9, e10⟩ := e
        simp only [ha] at e9 e10
        have hax : a x = false := by cases hh : a x with | false => rfl | true => rw [hh] at e9; simp at e9
        have hay : a y = false := by cases hh : a y with | false => rfl | true => rw [hh] at e10; simp at e10
        have hlx : lost x = false := by cases hh : lost x with | false => rfl | true => rw [wJ x hh] at e4; exact absurd e4.symm hne
        have hly : lost y = false := by cases hh : lost y with | false => rfl | true => rw [wJ y hh] at e5; exact absurd e5.symm hne
        have hx' : less P a x = true := less_iff.2 ⟨e2, hax⟩
        have hy' : less P a y = true := less_iff.2 ⟨e3, hay⟩
        exact ⟨e1, hx', hy', h.whoI hx' hlx, h.whoI hy' hly, e7, e8, fun ho => by rw [← m2, ← hM x (nb x e7)]; exact e6 ho⟩
end

/-- Nothing is solved. -/
theorem Solved.none {G : Gm} {P : Nat → Bool} (h : ∀ p, P p = false) (W M : Nat → Int) : Solved G P W M :=
  ⟨fun p hp => absurd hp (by simp [h p]), fun p hp => absurd hp (by simp [h p]), fun p hp => absurd hp (by simp [h p]), fun p hp => absurd hp (by simp [h p])⟩

end Go.Proofs.Ytnlkdihfoekjmaa
