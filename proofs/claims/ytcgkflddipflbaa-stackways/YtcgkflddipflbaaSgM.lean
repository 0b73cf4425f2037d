/- What it costs to read signs by edges; edges that rules make; ways. No program is in it. -/
/- Edges one behind the other that read a stack; what is left where the topmost costs nothing. No program is in it. -/
import Derived.Test.YtcgkflddipflbaaSkSpec
namespace Go.Proofs.Ytcgkflddipflbaa
set_option linter.unusedVariables false

def sumC (x y : Nat) : Nat := if max x y = 2002 then 2002 else min (x + y) 2001
/-- The cost of an edge: from, sign, to. -/
abbrev Edg := Nat → Nat → Nat → Nat
def minF (g : Nat → Nat) : Nat → Nat
  | 0 => 2002
  | k + 1 => min (minF g k) (g k)
def byC (E : Edg) (row : Nat → Nat) (s : Int) : Nat → Nat := fun t => minF (fun f => sumC (row f) (E f s.toNat t)) 6
def row0 (a : Nat) : Nat → Nat := fun s => if s = a then 0 else 2002
def readsC (E : Edg) (row : Nat → Nat) (zs : List Int) : Nat → Nat := zs.foldl (byC E) row
def readC (E : Edg) (a : Nat) (zs : List Int) : Nat → Nat := readsC E (row0 a) zs

theorem sumC_le (x y : Nat) : sumC x y ≤ 2002 := by unfold sumC; split <;> omega
theorem sumC_fin {x y : Nat} (hx : x ≤ 2002) (hy : y ≤ 2002) : sumC x y < 2002 ↔ x < 2002 ∧ y < 2002 := by unfold sumC; split <;> omega
theorem sumC_mono {x y x' y' : Nat} (h1 : x ≤ x') (h2 : y ≤ y') (hx : x' ≤ 2002) (hy : y' ≤ 2002) : sumC x y ≤ sumC x' y' := by unfold sumC; split <;> split <;> omega
theorem sumC_exact {x y : Nat} (h : sumC x y ≤ 2000) (hx : x ≤ 2002) (hy : y ≤ 2002) : x + y = sumC x y := by unfold sumC at h ⊢; split at h <;> split <;> omega
theorem minF_top (g : Nat → Nat) (n : Nat) : minF g n ≤ 2002 := by
  induction n with
  | zero => exact Nat.le_refl _
  | succ n ih => unfold minF; omega
theorem minF_le {g : Nat → Nat} {n k : Nat} (h : k < n) : minF g n ≤ g k := by
  induction n with
  | zero => omega
  | succ n ih =>
    unfold minF
    by_cases e : k = n
    · subst e; omega
    · have := ih (by omega); omega
theorem minF_at (g : Nat → Nat) (n : Nat) : minF g n = 2002 ∨ ∃ k, k < n ∧ minF g n = g k := by
  induction n with
  | zero => exact .inl rfl
  | succ n ih =>
    unfold minF
    by_cases h : g n ≤ minF g n
    · exact .inr ⟨n, by omega, by omega⟩
    · rcases ih with e | ⟨k, hk, e⟩
      · left; omega
      · exact .inr ⟨k, by omega, by omega⟩
theorem minF_mono {g g' : Nat → Nat} {n : Nat} (h : ∀ k, k < n → g k ≤ g' k) : minF g n ≤ minF g' n := by
  induction n with
  | zero => exact Nat.le_refl _
  | succ n ih =>
    have := ih (fun k hk => h k (by omega))
    have := h n (by omega)
    unfold minF
    omega
theorem byC_top (E : Edg) (row : Nat → Nat) (s : Int) (t : Nat) : byC E row s t ≤ 2002 := minF_top _ _
def Top (E : Edg) : Prop := ∀ f s t, E f s t ≤ 2002
theorem byC_mono {E E' : Edg} {row row' : Nat → Nat} (h : ∀ f s t, E f s t ≤ E' f s t) (hr : ∀ f, row f ≤ row' f) (hE : Top E') (hr' : ∀ f, row' f ≤ 2002) (s : Int) (t : Nat) : byC E row s t ≤ byC E' row' s t :=
  minF_mono fun k _ => sumC_mono (hr k) (h _ _ _) (hr' k) (hE _ _ _)
theorem readsC_nil (E : Edg) (row : Nat → Nat) : readsC E row [] = row := by unfold readsC; rw [List.foldl_nil]
theorem readsC_cons (E : Edg) (row : Nat → Nat) (z : Int) (zs : List Int) : readsC E row (z :: zs) = readsC E (byC E row z) zs := by unfold readsC; rw [List.foldl_cons]
theorem readsC_mono {E E' : Edg} (h : ∀ f s t, E f s t ≤ E' f s t) (hE : Top E') : ∀ (zs : List Int) {row row' : Nat → Nat}, (∀ f, row f ≤ row' f) → (∀ f, row' f ≤ 2002) → ∀ t, readsC E row zs t ≤ readsC E' row' zs t
  | [], row, row', hr, _, t => by rw [readsC_nil, readsC_nil]; exact hr t
  | z :: zs, row, row', hr, hr', t => by
    rw [readsC_cons, readsC_cons]
    exact readsC_mono h hE zs (byC_mono h hr hE hr' z) (byC_top E' row' z) t
theorem row0_top (a s : Nat) : row0 a s ≤ 2002 := by unfold row0; split <;> omega
theorem readC_mono {E E' : Edg} (h : ∀ f s t, E f s t ≤ E' f s t) (hE : Top E') (a : Nat) (zs : List Int) (t : Nat) : readC E a zs t ≤ readC E' a zs t := readsC_mono h hE zs (fun _ => Nat.le_refl _) (row0_top a) t
theorem readsC_top (E : Edg) : ∀ (zs : List Int) {row : Nat → Nat}, (∀ f, row f ≤ 2002) → ∀ t, readsC E row zs t ≤ 2002
  | [], row, hr, t => by rw [readsC_nil]; exact hr t
  | z :: zs, row, hr, t => by
    rw [readsC_cons]
    exact readsC_top E zs (byC_top E row z) t
theorem readC_top (E : Edg) (a : Nat) (zs : List Int) (t : Nat) : readC E a zs t ≤ 2002 := readsC_top E zs (row0_top a) t
theorem readsC_snoc (E : Edg) (row : Nat → Nat) (zs : List Int) (z : Int) : readsC E row (zs ++ [z]) = byC E (readsC E row zs) z := by unfold readsC; rw [List.foldl_append]; rfl

/-- Edges that are there, one behind the other. -/
def PthR (D : Nat → Nat → Nat → Prop) : Nat → List Int → Nat → Prop
  | f, [], t => f = t
  | f, z :: zs, t => ∃ m, m < 6 ∧ D f z.toNat m ∧ PthR D m zs t
abbrev Pth (E : Edg) : Nat → List Int → Nat → Prop := PthR fun f s t => E f s t < 2002
theorem PthR.mono {D D' : Nat → Nat → Nat → Prop} (h : ∀ f s t, D f s t → D' f s t) : ∀ (zs : List Int) {f t : Nat}, PthR D f zs t → PthR D' f zs t
  | [], f, t, e => e
  | z :: zs, f, t, ⟨m, hm, h1, h2⟩ => ⟨m, hm, h _ _ _ h1, PthR.mono h zs h2⟩
theorem pth_app (D : Nat → Nat → Nat → Prop) : ∀ (ys zs : List Int) (f t : Nat), f < 6 → (PthR D f (ys ++ zs) t ↔ ∃ m, m < 6 ∧ PthR D f ys m ∧ PthR D m zs t)
  | [], zs, f, t, hf => ⟨fun h => ⟨f, hf, rfl, h⟩, fun ⟨m, _, e, h⟩ => by cases e; exact h⟩
  | y :: ys, zs, f, t, hf => by
    constructor
    · rintro ⟨m, hm, h1, h2⟩
      obtain ⟨k, hk, h3, h4⟩ := (pth_app D ys zs m t hm).1 h2
      exact ⟨k, hk, ⟨m, hm, h1, h3⟩, h4⟩
    · rintro ⟨k, hk, ⟨m, hm, h1, h3⟩, h4⟩
      exact ⟨m, hm, h1, (pth_app D ys zs m t hm).2 ⟨k, hk, h3, h4⟩⟩
theorem byC_fin {E : Edg} {row : Nat → Nat} (hE : Top E) (hr : ∀ f, row f ≤ 2002) (s : Int) (t : Nat) : byC E row s t < 2002 ↔ ∃ f, f < 6 ∧ row f < 2002 ∧ E f s.toNat t < 2002 := by
  constructor
  · intro h
    rcases minF_at (fun f => sumC (row f) (E f s.toNat t)) 6 with e | ⟨k, hk, e⟩
    · unfold byC at h; omega
    · unfold byC at h
      rw [e] at h
      exact ⟨k, hk, (sumC_fin (hr k) (hE _ _ _)).1 h⟩
  · rintro ⟨f, hf, h1, h2⟩
    have := minF_le (g := fun f => sumC (row f) (E f s.toNat t)) hf
    have h3 := (sumC_fin (hr f) (hE f s.toNat t)).2 ⟨h1, h2⟩
    unfold byC
    omega
theorem readsC_fin {E : Edg} (hE : Top E) : ∀ (zs : List Int) {row : Nat → Nat}, (∀ f, row f ≤ 2002) → ∀ t, t < 6 → (readsC E row zs t < 2002 ↔ ∃ f, f < 6 ∧ row f < 2002 ∧ Pth E f zs t)
  | [], row, hr, t, ht => by
    rw [readsC_nil]
    exact ⟨fun h => ⟨t, ht, h, rfl⟩, fun ⟨f, _, h, e⟩ => by cases e; exact h⟩
  | z :: zs, row, hr, t, ht => by
    rw [readsC_cons]
    refine (readsC_fin hE zs (byC_top E row z) t ht).trans ?_
    constructor
    · rintro ⟨m, hm, h1, h2⟩
      obtain ⟨f, hf, h3, h4⟩ := (byC_fin hE hr z m).1 h1
      exact ⟨f, hf, h3, m, hm, h4, h2⟩
    · rintro ⟨f, hf, h3, m, hm, h4, h2⟩
      exact ⟨m, hm, (byC_fin hE hr z m).2 ⟨f, hf, h3, h4⟩, h2⟩
theorem readC_fin {E : Edg} (hE : Top E) {a : Nat} (ha : a < 6) (zs : List Int) {t : Nat} (ht : t < 6) : readC E a zs t < 2002 ↔ Pth E a zs t := by
  refine (readsC_fin hE zs (row0_top a) t ht).trans ⟨?_, fun h => ⟨a, ha, by unfold row0; rw [if_pos rfl]; omega, h⟩⟩
  rintro ⟨f, hf, h1, h2⟩
  unfold row0 at h1
  split at h1
  · next e => rw [← e]; exact h2
  · omega

/-- No rule makes an edge cheaper. -/
def ClosedC (L : List Psh) (E : Edg) : Prop := ∀ i, i < L.length → ∀ t, t < 6 → E (L.getD i pu0).F.toNat (L.getD i pu0).T.toNat t ≤ sumC (readC E (L.getD i pu0).O.toNat (L.getD i pu0).P t) 1
/-- Each edge that costs something was made by a rule. -/
def MadeC (L : List Psh) (E : Edg) : Prop := ∀ f s t, 0 < E f s t → E f s t < 2002 → f < 6 ∧ s < 3 ∧ t < 6 ∧ ∃ i, i < L.length ∧ (L.getD i pu0).F.toNat = f ∧ (L.getD i pu0).T.toNat = s ∧ sumC (readC E (L.getD i pu0).O.toNat (L.getD i pu0).P t) 1 ≤ E f s t
/-- What rules ask for is there. -/
def ClosX (L : List Psh) (X : Nat → Nat → Nat → Prop) : Prop := ∀ i, i < L.length → ∀ t, t < 6 → PthR X (L.getD i pu0).O.toNat (L.getD i pu0).P t → X (L.getD i pu0).F.toNat (L.getD i pu0).T.toNat t
/-- The state behind so many of the goal's signs. -/
def behC (c k : Nat) : Nat := if k = 0 then c else k + 2
/-- The goal's own edges are there. -/
def GoalX (c : Nat) (zs : List Int) (X : Nat → Nat → Nat → Prop) : Prop := ∀ k, k < zs.length → X (behC c k) (zs.getD k 0).toNat (behC c (k + 1))
/-- All that the goal and the rules ask for, and nothing else. -/
def LeastD (L : List Psh) (c : Nat) (zs : List Int) (f s t : Nat) : Prop := ∀ X, GoalX c zs X → ClosX L X → X f s t
theorem least_goal (L : List Psh) (c : Nat) (zs : List Int) : GoalX c zs (LeastD L c zs) := fun k hk X h1 h2 => h1 k hk
theorem least_clos (L : List Psh) (c : Nat) (zs : List Int) : ClosX L (LeastD L c zs) := fun i hi t ht hp X h1 h2 => h2 i hi t ht (PthR.mono (fun f s t h => h X h1 h2) _ hp)
theorem goes_back {L : List Psh} {D : Nat → Nat → Nat → Prop} (hC : ClosX L D) {i : Nat} (hi : i < L.length) (hO : (L.getD i pu0).O.toNat < 6) {zs : List Int} {t : Nat} (h : PthR D (L.getD i pu0).O.toNat ((L.getD i pu0).P ++ zs) t) : PthR D (L.getD i pu0).F.toNat ((L.getD i pu0).T :: zs) t := by
  obtain ⟨m, hm, h1, h2⟩ := (pth_app D _ _ _ _ hO).1 h
  exact ⟨m, hm, hC i hi m hm h1, h2⟩
theorem closed_closX {L : List Psh} {E : Edg} (hE : Top E) (hC : ClosedC L E) (hO : ∀ i, i < L.length → (L.getD i pu0).O.toNat < 6) : ClosX L fun f s t => E f s t < 2002 := by
  intro i hi t ht h1
  have h3 := (readC_fin hE (hO i hi) (L.getD i pu0).P ht).2 h1
  have h4 := hC i hi t ht
  have h5 := (sumC_fin (readC_top E _ (L.getD i pu0).P t) (show 1 ≤ 2002 by omega)).2 ⟨h3, by omega⟩
  show E _ _ _ < 2002
  omega
theorem made_rule {L : List Psh} {E : Edg} (hC : ClosedC L E) (hM : MadeC L E) {f s t : Nat} (h0 : 0 < E f s t) (h1 : E f s t < 2002) : ∃ i, i < L.length ∧ (L.getD i pu0).F.toNat = f ∧ (L.getD i pu0).T.toNat = s ∧ sumC (readC E (L.getD i pu0).O.toNat (L.getD i pu0).P t) 1 = E f s t := by
  obtain ⟨_, _, ht, i, hi, e1, e2, h2⟩ := hM f s t h0 h1
  have h3 := hC i hi t ht
  rw [e1, e2] at h3
  exact ⟨i, hi, e1, e2, by omega⟩

/-- One edge is given a cost. -/
def updE (E : Edg) (f s t c : Nat) : Edg := fun f' s' t' => if f' = f ∧ s' = s ∧ t' = t then c else E f' s' t'
theorem updE_same (E : Edg) (f s t c : Nat) : updE E f s t c f s t = c := by unfold updE; rw [if_pos ⟨rfl, rfl, rfl⟩]
theorem updE_le {E : Edg} {f s t c : Nat} (h : c ≤ E f s t) (f' s' t' : Nat) : updE E f s t c f' s' t' ≤ E f' s' t' := by
  unfold updE
  split
  · next e => obtain ⟨rfl, rfl, rfl⟩ := e; exact h
  · exact Nat.le_refl _
theorem updE_top {E : Edg} (hE : Top E) {f s t c : Nat} (h : c ≤ E f s t) : Top (updE E f s t c) := fun f' s' t' => Nat.le_trans (updE_le h f' s' t') (hE _ _ _)
def sumF (g : Nat → Nat) : Nat → Nat
  | 0 => 0
  | n + 1 => sumF g n + g n
theorem sumF_le {g g' : Nat → Nat} {n : Nat} (h : ∀ k, k < n → g k ≤ g' k) : sumF g n ≤ sumF g' n := by
  induction n with
  | zero => exact Nat.le_refl _
  | succ n ih =>
    have := ih (fun k hk => h k (by omega))
    have := h n (by omega)
    unfold sumF; omega
theorem sumF_lt {g g' : Nat → Nat} {n : Nat} (h : ∀ k, k < n → g k ≤ g' k) {j : Nat} (hj : j < n) (hl : g j < g' j) : sumF g n < sumF g' n := by
  induction n with
  | zero => omega
  | succ n ih =>
    have h1 := h n (by omega)
    unfold sumF
    by_cases e : j = n
    · subst e
      have := sumF_le (n := j) (fun k hk => h k (by omega))
      omega
    · have := ih (fun k hk => h k (by omega)) (by omega)
      omega
/-- All costs together. -/
def muE (E : Edg) : Nat := sumF (fun k => E (k / 18) (k / 6 % 3) (k % 6)) 108
theorem muE_le {E : Edg} (hE : Top E) : muE E ≤ 216216 := by
  have : ∀ n, sumF (fun k => E (k / 18) (k / 6 % 3) (k % 6)) n ≤ n * 2002 := by
    intro n
    induction n with
    | zero => exact Nat.le_refl _
    | succ n ih => unfold sumF; have := hE (n / 18) (n / 6 % 3) (n % 6); omega
  exact this 108
theorem muE_lt {E : Edg} {f s t c : Nat} (hf : f < 6) (hs : s < 3) (ht : t < 6) (h : c < E f s t) : muE (updE E f s t c) < muE E := by
  refine sumF_lt (fun k _ => updE_le (by omega) _ _ _) (j := f * 18 + s * 6 + t) (by omega) ?_
  have e1 : (f * 18 + s * 6 + t) / 18 = f := by omega
  have e2 : (f * 18 + s * 6 + t) / 6 % 3 = s := by omega
  have e3 : (f * 18 + s * 6 + t) % 6 = t := by omega
  simp only [e1, e2, e3, updE_same]
  exact h
theorem muE_congr {E E' : Edg} (h : ∀ f s t, f < 6 → s < 3 → t < 6 → E f s t = E' f s t) : muE E = muE E' := by
  have : ∀ n, n ≤ 108 → sumF (fun k => E (k / 18) (k / 6 % 3) (k % 6)) n = sumF (fun k => E' (k / 18) (k / 6 % 3) (k % 6)) n := by
    intro n
    induction n with
    | zero => intro _; rfl
    | succ n ih => intro hn; unfold sumF; rw [ih (by omega), h _ _ _ (by omega) (by omega) (by omega)]
  exact this 108 (Nat.le_refl _)
theorem made_upd {L : List Psh} {E : Edg} (hE : Top E) (hM : MadeC L E) {i t c : Nat} (hi : i < L.length) (hF : (L.getD i pu0).F.toNat < 6) (hT : (L.getD i pu0).T.toNat < 3) (ht : t < 6) (hc : sumC (readC E (L.getD i pu0).O.toNat (L.getD i pu0).P t) 1 ≤ c) (hlt : c < E (L.getD i pu0).F.toNat (L.getD i pu0).T.toNat t) : MadeC L (updE E (L.getD i pu0).F.toNat (L.getD i pu0).T.toNat t c) := by
  have hle := updE_le (E := E) (f := (L.getD i pu0).F.toNat) (s := (L.getD i pu0).T.toNat) (t := t) (c := c) (by omega)
  have hm : ∀ j t', sumC (readC (updE E (L.getD i pu0).F.toNat (L.getD i pu0).T.toNat t c) (L.getD j pu0).O.toNat (L.getD j pu0).P t') 1 ≤ sumC (readC E (L.getD j pu0).O.toNat (L.getD j pu0).P t') 1 := fun j t' => sumC_mono (readC_mono hle hE _ _ _) (Nat.le_refl _) (readC_top _ _ _ _) (by omega)
  intro f' s' t' h0 h1
  by_cases e : f' = (L.getD i pu0).F.toNat ∧ s' = (L.getD i pu0).T.toNat ∧ t' = t
  · obtain ⟨rfl, rfl, rfl⟩ := e
    rw [updE_same] at h1 ⊢
    exact ⟨hF, hT, ht, i, hi, rfl, rfl, Nat.le_trans (hm i t') hc⟩
  · have e2 : updE E (L.getD i pu0).F.toNat (L.getD i pu0).T.toNat t c f' s' t' = E f' s' t' := by unfold updE; rw [if_neg e]
    rw [e2] at h0 h1 ⊢
    obtain ⟨a1, a2, a3, j, hj, b1, b2, b3⟩ := hM f' s' t' h0 h1
    exact ⟨a1, a2, a3, j, hj, b1, b2, Nat.le_trans (hm j t') b3⟩

/-- Edges as a list, and what they cost together. -/
abbrev Ed3 := Nat × Nat × Nat
def cstE (E : Edg) (es : List Ed3) : Nat := (es.map fun e => E e.1 e.2.1 e.2.2).sum
def InE (es : List Ed3) : Prop := ∀ e, e ∈ es → e.1 < 6 ∧ e.2.1 < 3 ∧ e.2.2 < 6
theorem cstE_app (E : Edg) (xs ys : List Ed3) : cstE E (xs ++ ys) = cstE E xs + cstE E ys := by unfold cstE; rw [List.map_append, List.sum_append]
theorem cstE_mem {E : Edg} {es : List Ed3} {e : Ed3} (h : e ∈ es) : E e.1 e.2.1 e.2.2 ≤ cstE E es := by
  induction es with
  | nil => simp at h
  | cons x es ih =>
    have e1 : cstE E (x :: es) = E x.1 x.2.1 x.2.2 + cstE E es := by unfold cstE; rw [List.map_cons, List.sum_cons]
    rcases List.mem_cons.1 h with rfl | h
    · omega
    · have := ih h; omega
theorem last_cost {E : Edg} {row : Nat → Nat} {s : Int} {t f : Nat} (hE : Top E) (hr : ∀ f, row f ≤ 2002) (hc : byC E row s t ≤ 2000) (hf : (∃ k, k < 6 ∧ sumC (row k) (E k s.toNat t) = byC E row s t) → sumC (row f) (E f s.toNat t) = byC E row s t) : row f + E f s.toNat t = byC E row s t := by
  have h1 : ∃ k, k < 6 ∧ sumC (row k) (E k s.toNat t) = byC E row s t := by
    rcases minF_at (fun f => sumC (row f) (E f s.toNat t)) 6 with e | ⟨k, hk, e⟩
    · unfold byC at hc; omega
    · exact ⟨k, hk, e.symm⟩
  have h2 := hf h1
  have h3 := sumC_exact (x := row f) (y := E f s.toNat t) (by omega) (hr f) (hE _ _ _)
  omega

end Go.Proofs.Ytcgkflddipflbaa

namespace Go.Proofs.Ytcgkflddipflbaa
set_option linter.unusedVariables false

/-- The edges, the topmost first, read the signs from a state to a state. -/
def ChainE : Nat → List Ed3 → List Int → Nat → Prop
  | c, [], [], t => c = t
  | c, e :: es, z :: zs, t => e.1 = c ∧ e.2.1 = z.toNat ∧ ChainE e.2.2 es zs t
  | _, _, _, _ => False
theorem chain_app : ∀ {c m t : Nat} {es fs : List Ed3} {ys zs : List Int}, ChainE c es ys m → ChainE m fs zs t → ChainE c (es ++ fs) (ys ++ zs) t
  | c, m, t, [], fs, [], zs, h, h2 => by
    have e : c = m := h
    subst e; exact h2
  | c, m, t, e :: es, fs, y :: ys, zs, h, h2 => ⟨h.1, h.2.1, chain_app h.2.2 h2⟩
  | c, m, t, [], fs, y :: ys, zs, h, h2 => h.elim
  | c, m, t, e :: es, fs, [], zs, h, h2 => h.elim
theorem chain_len : ∀ {c t : Nat} {es : List Ed3} {zs : List Int}, ChainE c es zs t → es.length = zs.length
  | c, t, [], [], h => rfl
  | c, t, e :: es, z :: zs, h => by simp only [List.length_cons]; rw [chain_len h.2.2]
  | c, t, [], z :: zs, h => h.elim
  | c, t, e :: es, [], h => h.elim
/-- What costs nothing is the goal's own. -/
def ZeroC (c : Nat) (gz : List Int) (E : Edg) : Prop := ∀ f s t, E f s t = 0 → ∃ j, j < gz.length ∧ f = behC c j ∧ s = (gz.getD j 0).toNat ∧ t = behC c (j + 1)
theorem behC_inj {c i j : Nat} (hc : c < 3) (h : behC c i = behC c j) : i = j := by
  unfold behC at h
  split at h <;> split at h <;> omega
/-- From the goal's own states on, the goal's own signs alone are read. -/
theorem chain_goal {L : List Psh} {c : Nat} {gz : List Int} {E : Edg} (hc : c < 3) (hZ : ZeroC c gz E) (hM : MadeC L E) (hF : ∀ i, i < L.length → (L.getD i pu0).F.toNat < 3) (hgz : ∀ j, j < gz.length → 0 ≤ gz.getD j 0) : ∀ {es : List Ed3} {zs : List Int} {j : Nat}, 1 ≤ j → (∀ e, e ∈ es → E e.1 e.2.1 e.2.2 < 2002) → (∀ z, z ∈ zs → 0 ≤ z) → ChainE (behC c j) es zs (behC c gz.length) → j ≤ gz.length → zs = gz.drop j
  | [], [], j, hj, _, _, h, hl => by
    have e : j = gz.length := behC_inj hc h
    rw [e, List.drop_length]
  | e :: es, z :: zs, j, hj, hfin, hz, h, hl => by
    obtain ⟨h1, h2, h3⟩ := h
    have hf := hfin e (by simp)
    have h0 : E e.1 e.2.1 e.2.2 = 0 := by
      rcases Nat.eq_zero_or_pos (E e.1 e.2.1 e.2.2) with h0 | h0
      · exact h0
      · exfalso
        obtain ⟨_, _, _, i, hi, e1, _⟩ := hM _ _ _ h0 hf
        have := hF i hi
        rw [e1, h1] at this
        unfold behC at this
        rw [if_neg (by omega)] at this
        omega
    obtain ⟨i, hi, e1, e2, e3⟩ := hZ _ _ _ h0
    have : j = i := behC_inj hc (by rw [← h1]; exact e1)
    subst this
    rw [e3] at h3
    have ih := chain_goal hc hZ hM hF hgz (es := es) (zs := zs) (j := j + 1) (by omega) (fun x hx => hfin x (by simp [hx])) (fun x hx => hz x (by simp [hx])) h3 (by omega)
    have hz0 := hz z (by simp)
    have hg0 := hgz j hi
    have ez : z = gz.getD j 0 := by rw [h2] at e2; omega
    rw [ih, ez, List.drop_eq_getElem_cons hi]
    simp [List.getD, hi]
  | [], z :: zs, j, _, _, _, h, _ => h.elim
  | e :: es, [], j, _, _, _, h, _ => h.elim
/-- Where the topmost costs nothing, or nothing is left, the goal is come to. -/
theorem chain_end {L : List Psh} {c ctl : Nat} {gz zs : List Int} {E : Edg} {es : List Ed3} (hc : c < 3) (hZ : ZeroC c gz E) (hM : MadeC L E) (hF : ∀ i, i < L.length → (L.getD i pu0).F.toNat < 3) (hgz : ∀ j, j < gz.length → 0 ≤ gz.getD j 0) (hct : ctl < 3) (hfin : ∀ e, e ∈ es → E e.1 e.2.1 e.2.2 < 2002) (hz : ∀ z, z ∈ zs → 0 ≤ z) (h : ChainE ctl es zs (behC c gz.length)) (h0 : ∀ e, es.head? = some e → E e.1 e.2.1 e.2.2 = 0) : ctl = c ∧ zs = gz := by
  match es, zs, h with
  | [], [], h =>
    have e : ctl = behC c gz.length := h
    unfold behC at e
    by_cases hl : gz.length = 0
    · rw [if_pos hl] at e
      exact ⟨e, (List.length_eq_zero_iff.1 hl).symm⟩
    · rw [if_neg hl] at e; omega
  | e :: es, z :: zs, h =>
    obtain ⟨h1, h2, h3⟩ := h
    obtain ⟨j, hj, e1, e2, e3⟩ := hZ _ _ _ (h0 e rfl)
    have hj0 : j = 0 := by
      rw [h1] at e1
      unfold behC at e1
      split at e1 <;> omega
    subst hj0
    have ec : ctl = c := by rw [← h1, e1]; rfl
    rw [e3] at h3
    have ih := chain_goal hc hZ hM hF hgz (es := es) (zs := zs) (j := 1) (by omega) (fun x hx => hfin x (by simp [hx])) (fun x hx => hz x (by simp [hx])) h3 (by omega)
    have hz0 := hz z (by simp)
    have hg0 := hgz 0 hj
    have ez : z = gz.getD 0 0 := by rw [h2] at e2; omega
    refine ⟨ec, ?_⟩
    rw [ih, ez]
    cases gz with
    | nil => simp at hj
    | cons g gz => rfl
theorem sumC_assoc {x y z : Nat} (hx : x ≤ 2002) (hy : y ≤ 2002) (hz : z ≤ 2002) : sumC (sumC x y) z = sumC x (sumC y z) := by
  unfold sumC
  by_cases h1 : x = 2002
  · subst h1
    rw [if_pos (by omega : max 2002 y = 2002), if_pos (by omega : max 2002 z = 2002)]
    split <;> (rw [if_pos]; omega)
  · by_cases h2 : y = 2002
    · subst h2
      rw [if_pos (by omega : max x 2002 = 2002), if_pos (by omega : max 2002 z = 2002), if_pos (by omega)]
    · by_cases h3 : z = 2002
      · subst h3
        rw [if_neg (by omega : ¬ max x y = 2002), if_pos (by omega : max y 2002 = 2002), if_pos (by omega), if_pos (by omega)]
      · rw [if_neg (by omega : ¬ max x y = 2002), if_neg (by omega : ¬ max y z = 2002), if_neg (by omega), if_neg (by omega)]
        omega
theorem sumC_zero {x : Nat} (hx : x ≤ 2002) : sumC x 0 = x := by unfold sumC; split <;> omega
theorem sumC_le_add (x y : Nat) (hx : x ≤ 2002) (hy : y ≤ 2002) : sumC x y ≤ x + y := by unfold sumC; split <;> omega
/-- What costs x more ahead costs at most x more behind. -/
theorem reads_scale {E : Edg} (hE : Top E) {x : Nat} (hx : x ≤ 2002) : ∀ (zs : List Int) {row row' : Nat → Nat}, (∀ f, row f ≤ 2002) → (∀ f, row' f ≤ 2002) → (∀ f, row' f ≤ sumC x (row f)) → ∀ t, readsC E row' zs t ≤ sumC x (readsC E row zs t)
  | [], row, row', _, _, h, t => by rw [readsC_nil, readsC_nil]; exact h t
  | z :: zs, row, row', hr, hr', h, t => by
    rw [readsC_cons, readsC_cons]
    refine reads_scale hE hx zs (byC_top E row z) (byC_top E row' z) (fun j => ?_) t
    rcases minF_at (fun f => sumC (row f) (E f z.toNat j)) 6 with e | ⟨f, hf, e⟩
    · have h1 : byC E row z j = 2002 := e
      rw [h1]
      have := byC_top E row' z j
      have h2 : sumC x 2002 = 2002 := by unfold sumC; rw [if_pos (by omega)]
      omega
    · have h1 : byC E row z j = sumC (row f) (E f z.toNat j) := e
      rw [h1, ← sumC_assoc hx (hr f) (hE _ _ _)]
      have h2 := minF_le (g := fun f => sumC (row' f) (E f z.toNat j)) hf
      have h3 := sumC_mono (h f) (Nat.le_refl (E f z.toNat j)) (sumC_le _ _) (hE _ _ _)
      exact Nat.le_trans h2 h3
theorem reads_upper {E : Edg} (hE : Top E) {row : Nat → Nat} (hr : ∀ f, row f ≤ 2002) (m : Nat) (zs : List Int) (t : Nat) : readsC E row zs t ≤ sumC (row m) (readC E m zs t) := by
  refine reads_scale hE (hr m) zs (row0_top m) hr (fun f => ?_) t
  unfold row0
  by_cases e : f = m
  · subst e; rw [if_pos rfl, sumC_zero (hr f)]; exact Nat.le_refl _
  · rw [if_neg e]
    have h2 : sumC (row m) 2002 = 2002 := by unfold sumC; rw [if_pos (by have := hr m; omega)]
    rw [h2]; exact hr f
theorem reads_split {E : Edg} (hE : Top E) : ∀ (zs : List Int) {row : Nat → Nat}, (∀ f, row f ≤ 2002) → ∀ {t k : Nat}, t < 6 → k ≤ 2000 → readsC E row zs t ≤ k → ∃ m, m < 6 ∧ row m + readC E m zs t ≤ k
  | [], row, hr, t, k, ht, hk, h => by
    rw [readsC_nil] at h
    refine ⟨t, ht, ?_⟩
    have : readC E t [] t = 0 := by
      have e : readC E t [] = row0 t := readsC_nil E (row0 t)
      rw [e]; unfold row0; rw [if_pos rfl]
    omega
  | z :: zs, row, hr, t, k, ht, hk, h => by
    rw [readsC_cons] at h
    obtain ⟨m, hm, h1⟩ := reads_split hE zs (byC_top E row z) ht hk h
    rcases minF_at (fun f => sumC (row f) (E f z.toNat m)) 6 with e | ⟨f, hf, e⟩
    · have h2 : byC E row z m = 2002 := e
      omega
    · have h2 : byC E row z m = sumC (row f) (E f z.toNat m) := e
      have h3 := sumC_exact (x := row f) (y := E f z.toNat m) (by omega) (hr f) (hE _ _ _)
      refine ⟨f, hf, ?_⟩
      have h4 : readC E f (z :: zs) t ≤ E f z.toNat m + readC E m zs t := by
        have e1 : readC E f (z :: zs) t = readsC E (byC E (row0 f) z) zs t := by show readsC E (row0 f) (z :: zs) t = _; rw [readsC_cons]
        have h5 := reads_upper hE (byC_top E (row0 f) z) m zs t
        have h6 := minF_le (g := fun q => sumC (row0 f q) (E q z.toNat m)) hf
        have h7 : sumC (row0 f f) (E f z.toNat m) ≤ E f z.toNat m := by
          have := sumC_le_add (row0 f f) (E f z.toNat m) (row0_top f f) (hE _ _ _)
          have e0 : row0 f f = 0 := by unfold row0; rw [if_pos rfl]
          omega
        have h8 : byC E (row0 f) z m ≤ E f z.toNat m := Nat.le_trans h6 h7
        have h9 := sumC_le_add (byC E (row0 f) z m) (readC E m zs t) (byC_top _ _ _ _) (readC_top _ _ _ _)
        omega
      omega
/-- A config from which the goal is come to by k rules costs at most k. -/
theorem cost_step {L : List Psh} {E : Edg} (hE : Top E) (hC : ClosedC L E) {i k t : Nat} (hi : i < L.length) (hF : (L.getD i pu0).F.toNat < 6) (ht : t < 6) {zs : List Int} (h : readC E (L.getD i pu0).O.toNat ((L.getD i pu0).P ++ zs) t ≤ k) (hk : k ≤ 2000) : readC E (L.getD i pu0).F.toNat ((L.getD i pu0).T :: zs) t ≤ k + 1 := by
  have e1 : readC E (L.getD i pu0).O.toNat ((L.getD i pu0).P ++ zs) t = readsC E (readC E (L.getD i pu0).O.toNat (L.getD i pu0).P) zs t := by
    unfold readC readsC
    rw [List.foldl_append]
  rw [e1] at h
  obtain ⟨m, hm, h1⟩ := reads_split hE zs (fun f => readC_top E _ _ f) ht hk h
  have h2 := hC i hi m hm
  have h3 := sumC_le_add (readC E (L.getD i pu0).O.toNat (L.getD i pu0).P m) 1 (readC_top _ _ _ _) (by omega)
  have e2 : readC E (L.getD i pu0).F.toNat ((L.getD i pu0).T :: zs) t = readsC E (byC E (row0 (L.getD i pu0).F.toNat) (L.getD i pu0).T) zs t := by
    show readsC E (row0 (L.getD i pu0).F.toNat) ((L.getD i pu0).T :: zs) t = _
    rw [readsC_cons]
  have h5 := reads_upper hE (byC_top E (row0 (L.getD i pu0).F.toNat) (L.getD i pu0).T) m zs t
  have h6 := minF_le (g := fun q => sumC (row0 (L.getD i pu0).F.toNat q) (E q (L.getD i pu0).T.toNat m)) hF
  have h7 := sumC_le_add (row0 (L.getD i pu0).F.toNat (L.getD i pu0).F.toNat) (E (L.getD i pu0).F.toNat (L.getD i pu0).T.toNat m) (row0_top _ _) (hE _ _ _)
  have e0 : row0 (L.getD i pu0).F.toNat (L.getD i pu0).F.toNat = 0 := by unfold row0; rw [if_pos rfl]
  have h8 : byC E (row0 (L.getD i pu0).F.toNat) (L.getD i pu0).T m ≤ sumC (row0 (L.getD i pu0).F.toNat (L.getD i pu0).F.toNat) (E (L.getD i pu0).F.toNat (L.getD i pu0).T.toNat m) := h6
  have h9 := sumC_le_add (byC E (row0 (L.getD i pu0).F.toNat) (L.getD i pu0).T m) (readC E m zs t) (byC_top _ _ _ _) (readC_top _ _ _ _)
  omega

end Go.Proofs.Ytcgkflddipflbaa
