/- What it costs to read signs by edges; edges that rules make; ways. No program is in it. -/
import Derived.Test.YthnbiiipfcogeaaSkSpec
namespace Go.Proofs.Ythnbiiipfcogeaa
set_option linter.unusedVariables false

def sumC (x y : Nat) : Nat := if max x y = 2002 then 2002 else min (x + y) 2001
/-- The cost of an edge: from, sign, to. -/
abbrev Edg := Nat → Nat → Nat → Nat
def minF (g : Nat → Nat) : Nat → Nat
  | 0 => 2002
  | k + 1 => min (minF g k) (g k)
def byC (E : Edg) (row : Nat → Nat) (s : Int) : Nat → Nat := fun t => minF (fun f => sumC (row f) (E f s.toNat t)) 6
def row0 (a : Nat) : Nat → Nat := fun s => if s = a then 0 else 2002
def readsC (E : Edg) (row : Nat → Nat) (zs : List Int) : Nat → Nat := zs.foldl (byC E) row
def readC (E : Edg) (a : Nat) (zs : List Int) : Nat → Nat := readsC E (row0 a) zs

theorem sumC_le (x y : Nat) : sumC x y ≤ 2002 := by unfold sumC; split <;> omega
theorem sumC_fin {x y : Nat} (hx : x ≤ 2002) (hy : y ≤ 2002) : sumC x y < 2002 ↔ x < 2002 ∧ y < 2002 := by unfold sumC; split <;> omega
theorem sumC_mono {x y x' y' : Nat} (h1 : x ≤ x') (h2 : y ≤ y') (hx : x' ≤ 2002) (hy : y' ≤ 2002) : sumC x y ≤ sumC x' y' := by unfold sumC; split <;> split <;> omega
theorem sumC_exact {x y : Nat} (h : sumC x y ≤ 2000) (hx : x ≤ 2002) (hy : y ≤ 2002) : x + y = sumC x y := by unfold sumC at h ⊢; split at h <;> split <;> omega
theorem minF_top (g : Nat → Nat) (n : Nat) : minF g n ≤ 2002 := by
  induction n with
  | zero => exact Nat.le_refl _
  | succ n ih => unfold minF; omega
theorem minF_le {g : Nat → Nat} {n k : Nat} (h : k < n) : minF g n ≤ g k := by
  induction n with
  | zero => omega
  | succ n ih =>
    unfold minF
    by_cases e : k = n
    · subst e; omega
    · have := ih (by omega); omega
theorem minF_at (g : Nat → Nat) (n : Nat) : minF g n = 2002 ∨ ∃ k, k < n ∧ minF g n = g k := by
  induction n with
  | zero => exact .inl rfl
  | succ n ih =>
    unfold minF
    by_cases h : g n ≤ minF g n
    · exact .inr ⟨n, by omega, by omega⟩
    · rcases ih with e | ⟨k, hk, e⟩
      · left; omega
      · exact .inr ⟨k, by omega, by omega⟩
theorem minF_mono {g g' : Nat → Nat} {n : Nat} (h : ∀ k, k < n → g k ≤ g' k) : minF g n ≤ minF g' n := by
  induction n with
  | zero => exact Nat.le_refl _
  | succ n ih =>
    have := ih (fun k hk => h k (by omega))
    have := h n (by omega)
    unfold minF
    omega
theorem byC_top (E : Edg) (row : Nat → Nat) (s : Int) (t : Nat) : byC E row s t ≤ 2002 := minF_top _ _
def Top (E : Edg) : Prop := ∀ f s t, E f s t ≤ 2002
theorem byC_mono {E E' : Edg} {row row' : Nat → Nat} (h : ∀ f s t, E f s t ≤ E' f s t) (hr : ∀ f, row f ≤ row' f) (hE : Top E') (hr' : ∀ f, row' f ≤ 2002) (s : Int) (t : Nat) : byC E row s t ≤ byC E' row' s t :=
  minF_mono fun k _ => sumC_mono (hr k) (h _ _ _) (hr' k) (hE _ _ _)
theorem readsC_nil (E : Edg) (row : Nat → Nat) : readsC E row [] = row := by unfold readsC; rw [List.foldl_nil]
theorem readsC_cons (E : Edg) (row : Nat → Nat) (z : Int) (zs : List Int) : readsC E row (z :: zs) = readsC E (byC E row z) zs := by unfold readsC; rw [List.foldl_cons]
theorem readsC_mono {E E' : Edg} (h : ∀ f s t, E f s t ≤ E' f s t) (hE : Top E') : ∀ (zs : List Int) {row row' : Nat → Nat}, (∀ f, row f ≤ row' f) → (∀ f, row' f ≤ 2002) → ∀ t, readsC E row zs t ≤ readsC E' row' zs t
  | [], row, row', hr, _, t => by rw [readsC_nil, readsC_nil]; exact hr t
  | z :: zs, row, row', hr, hr', t => by
    rw [readsC_cons, readsC_cons]
    exact readsC_mono h hE zs (byC_mono h hr hE hr' z) (byC_top E' row' z) t
theorem row0_top (a s : Nat) : row0 a s ≤ 2002 := by unfold row0; split <;> omega
theorem readC_mono {E E' : Edg} (h : ∀ f s t, E f s t ≤ E' f s t) (hE : Top E') (a : Nat) (zs : List Int) (t : Nat) : readC E a zs t ≤ readC E' a zs t := readsC_mono h hE zs (fun _ => Nat.le_refl _) (row0_top a) t
theorem readsC_top (E : Edg) : ∀ (zs : List Int) {row : Nat → Nat}, (∀ f, row f ≤ 2002) → ∀ t, readsC E row zs t ≤ 2002
  | [], row, hr, t => by rw [readsC_nil]; exact hr t
  | z :: zs, row, hr, t => by
    rw [readsC_cons]
    exact readsC_top E zs (byC_top E row z) t
theorem readC_top (E : Edg) (a : Nat) (zs : List Int) (t : Nat) : readC E a zs t ≤ 2002 := readsC_top E zs (row0_top a) t
theorem readsC_snoc (E : Edg) (row : Nat → Nat) (zs : List Int) (z : Int) : readsC E row (zs ++ [z]) = byC E (readsC E row zs) z := by unfold readsC; rw [List.foldl_append]; rfl

/-- Edges that are there, one behind the other. -/
def PthR (D : Nat → Nat → Nat → Prop) : Nat → List Int → Nat → Prop
  | f, [], t => f = t
  | f, z :: zs, t => ∃ m, m < 6 ∧ D f z.toNat m ∧ PthR D m zs t
abbrev Pth (E : Edg) : Nat → List Int → Nat → Prop := PthR fun f s t => E f s t < 2002
theorem PthR.mono {D D' : Nat → Nat → Nat → Prop} (h : ∀ f s t, D f s t → D' f s t) : ∀ (zs : List Int) {f t : Nat}, PthR D f zs t → PthR D' f zs t
  | [], f, t, e => e
  | z :: zs, f, t, ⟨m, hm, h1, h2⟩ => ⟨m, hm, h _ _ _ h1, PthR.mono h zs h2⟩
theorem pth_app (D : Nat → Nat → Nat → Prop) : ∀ (ys zs : List Int) (f t : Nat), f < 6 → (PthR D f (ys ++ zs) t ↔ ∃ m, m < 6 ∧ PthR D f ys m ∧ PthR D m zs t)
  | [], zs, f, t, hf => ⟨fun h => ⟨f, hf, rfl, h⟩, fun ⟨m, _, e, h⟩ => by cases e; exact h⟩
  | y :: ys, zs, f, t, hf => by
    constructor
    · rintro ⟨m, hm, h1, h2⟩
      obtain ⟨k, hk, h3, h4⟩ := (pth_app D ys zs m t hm).1 h2
      exact ⟨k, hk, ⟨m, hm, h1, h3⟩, h4⟩
    · rintro ⟨k, hk, ⟨m, hm, h1, h3⟩, h4⟩
      exact ⟨m, hm, h1, (pth_app D ys zs m t hm).2 ⟨k, hk, h3, h4⟩⟩
theorem byC_fin {E : Edg} {row : Nat → Nat} (hE : Top E) (hr : ∀ f, row f ≤ 2002) (s : Int) (t : Nat) : byC E row s t < 2002 ↔ ∃ f, f < 6 ∧ row f < 2002 ∧ E f s.toNat t < 2002 := by
  constructor
  · intro h
    rcases minF_at (fun f => sumC (row f) (E f s.toNat t)) 6 with e | ⟨k, hk, e⟩
    · unfold byC at h; omega
    · unfold byC at h
      rw [e] at h
      exact ⟨k, hk, (sumC_fin (hr k) (hE _ _ _)).1 h⟩
  · rintro ⟨f, hf, h1, h2⟩
    have := minF_le (g := fun f => sumC (row f) (E f s.toNat t)) hf
    have h3 := (sumC_fin (hr f) (hE f s.toNat t)).2 ⟨h1, h2⟩
    unfold byC
    omega
theorem readsC_fin {E : Edg} (hE : Top E) : ∀ (zs : List Int) {row : Nat → Nat}, (∀ f, row f ≤ 2002) → ∀ t, t < 6 → (readsC E row zs t < 2002 ↔ ∃ f, f < 6 ∧ row f < 2002 ∧ Pth E f zs t)
  | [], row, hr, t, ht => by
    rw [readsC_nil]
    exact ⟨fun h => ⟨t, ht, h, rfl⟩, fun ⟨f, _, h, e⟩ => by cases e; exact h⟩
  | z :: zs, row, hr, t, ht => by
    rw [readsC_cons]
    refine (readsC_fin hE zs (byC_top E row z) t ht).trans ?_
    constructor
    · rintro ⟨m, hm, h1, h2⟩
      obtain ⟨f, hf, h3, h4⟩ := (byC_fin hE hr z m).1 h1
      exact ⟨f, hf, h3, m, hm, h4, h2⟩
    · rintro ⟨f, hf, h3, m, hm, h4, h2⟩
      exact ⟨m, hm, (byC_fin hE hr z m).2 ⟨f, hf, h3, h4⟩, h2⟩
theorem readC_fin {E : Edg} (hE : Top E) {a : Nat} (ha : a < 6) (zs : List Int) {t : Nat} (ht : t < 6) : readC E a zs t < 2002 ↔ Pth E a zs t := by
  refine (readsC_fin hE zs (row0_top a) t ht).trans ⟨?_, fun h => ⟨a, ha, by unfold row0; rw [if_pos rfl]; omega, h⟩⟩
  rintro ⟨f, hf, h1, h2⟩
  unfold row0 at h1
  split at h1
  · next e => rw [← e]; exact h2
  · omega

/-- No rule makes an edge cheaper. -/
def ClosedC (L : List Psh) (E : Edg) : Prop := ∀ i, i < L.length → ∀ t, t < 6 → E (L.getD i pu0).F.toNat (L.getD i pu0).T.toNat t ≤ sumC (readC E (L.getD i pu0).O.toNat (L.getD i pu0).P t) 1
/-- Each edge that costs something was made by a rule. -/
def MadeC (L : List Psh) (E : Edg) : Prop := ∀ f s t, 0 < E f s t → E f s t < 2002 → f < 6 ∧ s < 3 ∧ t < 6 ∧ ∃ i, i < L.length ∧ (L.getD i pu0).F.toNat = f ∧ (L.getD i pu0).T.toNat = s ∧ sumC (readC E (L.getD i pu0).O.toNat (L.getD i pu0).P t) 1 ≤ E f s t
/-- What rules ask for is there. -/
def ClosX (L : List Psh) (X : Nat → Nat → Nat → Prop) : Prop := ∀ i, i < L.length → ∀ t, t < 6 → PthR X (L.getD i pu0).O.toNat (L.getD i pu0).P t → X (L.getD i pu0).F.toNat (L.getD i pu0).T.toNat t
/-- The state behind so many of the goal's signs. -/
def behC (c k : Nat) : Nat := if k = 0 then c else k + 2
/-- The goal's own edges are there. -/
def GoalX (c : Nat) (zs : List Int) (X : Nat → Nat → Nat → Prop) : Prop := ∀ k, k < zs.length → X (behC c k) (zs.getD k 0).toNat (behC c (k + 1))
/-- All that the goal and the rules ask for, and nothing else. -/
def LeastD (L : List Psh) (c : Nat) (zs : List Int) (f s t : Nat) : Prop := ∀ X, GoalX c zs X → ClosX L X → X f s t
theorem least_goal (L : List Psh) (c : Nat) (zs : List Int) : GoalX c zs (LeastD L c zs) := fun k hk X h1 h2 => h1 k hk
theorem least_clos (L : List Psh) (c : Nat) (zs : List Int) : ClosX L (LeastD L c zs) := fun i hi t ht hp X h1 h2 => h2 i hi t ht (PthR.mono (fun f s t h => h X h1 h2) _ hp)
theorem goes_back {L : List Psh} {D : Nat → Nat → Nat → Prop} (hC : ClosX L D) {i : Nat} (hi : i < L.length) (hO : (L.getD i pu0).O.toNat < 6) {zs : List Int} {t : Nat} (h : PthR D (L.getD i pu0).O.toNat ((L.getD i pu0).P ++ zs) t) : PthR D (L.getD i pu0).F.toNat ((L.getD i pu0).T :: zs) t := by
  obtain ⟨m, hm, h1, h2⟩ := (pth_app D _ _ _ _ hO).1 h
  exact ⟨m, hm, hC i hi m hm h1, h2⟩
theorem closed_closX {L : List Psh} {E : Edg} (hE : Top E) (hC : ClosedC L E) (hO : ∀ i, i < L.length → (L.getD i pu0).O.toNat < 6) : ClosX L fun f s t => E f s t < 2002 := by
  intro i hi t ht h1
  have h3 := (readC_fin hE (hO i hi) (L.getD i pu0).P ht).2 h1
  have h4 := hC i hi t ht
  have h5 := (sumC_fin (readC_top E _ (L.getD i pu0).P t) (show 1 ≤ 2002 by omega)).2 ⟨h3, by omega⟩
  show E _ _ _ < 2002
  omega
theorem made_rule {L : List Psh} {E : Edg} (hC : ClosedC L E) (hM : MadeC L E) {f s t : Nat} (h0 : 0 < E f s t) (h1 : E f s t < 2002) : ∃ i, i < L.length ∧ (L.getD i pu0).F.toNat = f ∧ (L.getD i pu0).T.toNat = s ∧ sumC (readC E (L.getD i pu0).O.toNat (L.getD i pu0).P t) 1 = E f s t := by
  obtain ⟨_, _, ht, i, hi, e1, e2, h2⟩ := hM f s t h0 h1
  have h3 := hC i hi t ht
  rw [e1, e2] at h3
  exact ⟨i, hi, e1, e2, by omega⟩

/-- One edge is given a cost. -/
def updE (E : Edg) (f s t c : Nat) : Edg := fun f' s' t' => if f' = f ∧ s' = s ∧ t' = t then c else E f' s' t'
theorem updE_same (E : Edg) (f s t c : Nat) : updE E f s t c f s t = c := by unfold updE; rw [if_pos ⟨rfl, rfl, rfl⟩]
theorem updE_le {E : Edg} {f s t c : Nat} (h : c ≤ E f s t) (f' s' t' : Nat) : updE E f s t c f' s' t' ≤ E f' s' t' := by
  unfold updE
  split
  · next e => obtain ⟨rfl, rfl, rfl⟩ := e; exact h
  · exact Nat.le_refl _
theorem updE_top {E : Edg} (hE : Top E) {f s t c : Nat} (h : c ≤ E f s t) : Top (updE E f s t c) := fun f' s' t' => Nat.le_trans (updE_le h f' s' t') (hE _ _ _)
def sumF (g : Nat → Nat) : Nat → Nat
  | 0 => 0
  | n + 1 => sumF g n + g n
theorem sumF_le {g g' : Nat → Nat} {n : Nat} (h : ∀ k, k < n → g k ≤ g' k) : sumF g n ≤ sumF g' n := by
  induction n with
  | zero => exact Nat.le_refl _
  | succ n ih =>
    have := ih (fun k hk => h k (by omega))
    have := h n (by omega)
    unfold sumF; omega
theorem sumF_lt {g g' : Nat → Nat} {n : Nat} (h : ∀ k, k < n → g k ≤ g' k) {j : Nat} (hj : j < n) (hl : g j < g' j) : sumF g n < sumF g' n := by
  induction n with
  | zero => omega
  | succ n ih =>
    have h1 := h n (by omega)
    unfold sumF
    by_cases e : j = n
    · subst e
      have := sumF_le (n := j) (fun k hk => h k (by omega))
      omega
    · have := ih (fun k hk => h k (by omega)) (by omega)
      omega
/-- All costs together. -/
def muE (E : Edg) : Nat := sumF (fun k => E (k / 18) (k / 6 % 3) (k % 6)) 108
theorem muE_le {E : Edg} (hE : Top E) : muE E ≤ 216216 := by
  have : ∀ n, sumF (fun k => E (k / 18) (k / 6 % 3) (k % 6)) n ≤ n * 2002 := by
    intro n
    induction n with
    | zero => exact Nat.le_refl _
    | succ n ih => unfold sumF; have := hE (n / 18) (n / 6 % 3) (n % 6); omega
  exact this 108
theorem muE_lt {E : Edg} {f s t c : Nat} (hf : f < 6) (hs : s < 3) (ht : t < 6) (h : c < E f s t) : muE (updE E f s t c) < muE E := by
  refine sumF_lt (fun k _ => updE_le (by omega) _ _ _) (j := f * 18 + s * 6 + t) (by omega) ?_
  have e1 : (f * 18 + s * 6 + t) / 18 = f := by omega
  have e2 : (f * 18 + s * 6 + t) / 6 % 3 = s := by omega
  have e3 : (f * 18 + s * 6 + t) % 6 = t := by omega
  simp only [e1, e2, e3, updE_same]
  exact h
theorem muE_congr {E E' : Edg} (h : ∀ f s t, f < 6 → s < 3 → t < 6 → E f s t = E' f s t) : muE E = muE E' := by
  have : ∀ n, n ≤ 108 → sumF (fun k => E (k / 18) (k / 6 % 3) (k % 6)) n = sumF (fun k => E' (k / 18) (k / 6 % 3) (k % 6)) n := by
    intro n
    induction n with
    | zero => intro _; rfl
    | succ n ih => intro hn; unfold sumF; rw [ih (by omega), h _ _ _ (by omega) (by omega) (by omega)]
  exact this 108 (Nat.le_refl _)
theorem made_upd {L : List Psh} {E : Edg} (hE : Top E) (hM : MadeC L E) {i t c : Nat} (hi : i < L.length) (hF : (L.getD i pu0).F.toNat < 6) (hT : (L.getD i pu0).T.toNat < 3) (ht : t < 6) (hc : sumC (readC E (L.getD i pu0).O.toNat (L.getD i pu0).P t) 1 ≤ c) (hlt : c < E (L.getD i pu0).F.toNat (L.getD i pu0).T.toNat t) : MadeC L (updE E (L.getD i pu0).F.toNat (L.getD i pu0).T.toNat t c) := by
  have hle := updE_le (E := E) (f := (L.getD i pu0).F.toNat) (s := (L.getD i pu0).T.toNat) (t := t) (c := c) (by omega)
  have hm : ∀ j t', sumC (readC (updE E (L.getD i pu0).F.toNat (L.getD i pu0).T.toNat t c) (L.getD j pu0).O.toNat (L.getD j pu0).P t') 1 ≤ sumC (readC E (L.getD j pu0).O.toNat (L.getD j pu0).P t') 1 := fun j t' => sumC_mono (readC_mono hle hE _ _ _) (Nat.le_refl _) (readC_top _ _ _ _) (by omega)
  intro f' s' t' h0 h1
  by_cases e : f' = (L.getD i pu0).F.toNat ∧ s' = (L.getD i pu0).T.toNat ∧ t' = t
  · obtain ⟨rfl, rfl, rfl⟩ := e
    rw [updE_same] at h1 ⊢
    exact ⟨hF, hT, ht, i, hi, rfl, rfl, Nat.le_trans (hm i t') hc⟩
  · have e2 : updE E (L.getD i pu0).F.toNat (L.getD i pu0).T.toNat t c f' s' t' = E f' s' t' := by unfold updE; rw [if_neg e]
    rw [e2] at h0 h1 ⊢
    obtain ⟨a1, a2, a3, j, hj, b1, b2, b3⟩ := hM f' s' t' h0 h1
    exact ⟨a1, a2, a3, j, hj, b1, b2, Nat.le_trans (hm j t') b3⟩

/-- Edges as a list, and what they cost together. -/
abbrev Ed3 := Nat × Nat × Nat
def cstE (E : Edg) (es : List Ed3) : Nat := (es.map fun e => E e.1 e.2.1 e.2.2).sum
def InE (es : List Ed3) : Prop := ∀ e, e ∈ es → e.1 < 6 ∧ e.2.1 < 3 ∧ e.2.2 < 6
theorem cstE_app (E : Edg) (xs ys : List Ed3) : cstE E (xs ++ ys) = cstE E xs + cstE E ys := by unfold cstE; rw [List.map_append, List.sum_append]
theorem cstE_mem {E : Edg} {es : List Ed3} {e : Ed3} (h : e ∈ es) : E e.1 e.2.1 e.2.2 ≤ cstE E es := by
  induction es with
  | nil => simp at h
  | cons x es ih =>
    have e1 : cstE E (x :: es) = E x.1 x.2.1 x.2.2 + cstE E es := by unfold cstE; rw [List.map_cons, List.sum_cons]
    rcases List.mem_cons.1 h with rfl | h
    · omega
    · have := ih h; omega
theorem last_cost {E : Edg} {row : Nat → Nat} {s : Int} {t f : Nat} (hE : Top E) (hr : ∀ f, row f ≤ 2002) (hc : byC E row s t ≤ 2000) (hf : (∃ k, k < 6 ∧ sumC (row k) (E k s.toNat t) = byC E row s t) → sumC (row f) (E f s.toNat t) = byC E row s t) : row f + E f s.toNat t = byC E row s t := by
  have h1 : ∃ k, k < 6 ∧ sumC (row k) (E k s.toNat t) = byC E row s t := by
    rcases minF_at (fun f => sumC (row f) (E f s.toNat t)) 6 with e | ⟨k, hk, e⟩
    · unfold byC at hc; omega
    · exact ⟨k, hk, e.symm⟩
  have h2 := hf h1
  have h3 := sumC_exact (x := row f) (y := E f s.toNat t) (by omega) (hr f) (hE _ _ _)
  omega

end Go.Proofs.Ythnbiiipfcogeaa
