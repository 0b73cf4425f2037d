/- How a formula over infinite words is read: what both readers come to. No program is in it. -/
import Derived.Test.YtneialmpaiejcaaGrow
namespace Go.Proofs.Ytneialmpaiejcaa
open Go.RowKit
set_option linter.unusedVariables false

/-- The byte at a place of a text; 0 behind its end. -/
def byT (s : ByteArray) (i : Nat) : Nat := if h : i < s.size then s[i].toNat else 0
theorem byT_lt (s : ByteArray) (i : Nat) : byT s i < 256 := by
  unfold byT
  split
  · exact UInt8.toNat_lt _
  · omega
theorem byT_pos {s : ByteArray} {i c : Nat} (h : byT s i = c) (hc : 0 < c) : i < s.size := by
  unfold byT at h
  by_cases hi : i < s.size
  · exact hi
  · simp [hi] at h; omega

/-- A formula. -/
inductive Fm where
  | zero | one | p | q
  | not (a : Fm) | next (a : Fm) | ev (a : Fm) | glob (a : Fm)
  | and (a b : Fm) | or (a b : Fm) | til (a b : Fm) | rel (a b : Fm)
/-- A formula as the program keeps it: a node's kind, and what stands to its left and right. -/
inductive Tr where
  | nil
  | node (k : Nat) (l r : Tr)
def trRel (a b : Tr) : Tr := .node 4 (.node 8 (.node 4 a .nil) (.node 4 b .nil)) .nil
def trOf : Fm → Tr
  | .zero => .node 0 .nil .nil
  | .one => .node 1 .nil .nil
  | .p => .node 2 .nil .nil
  | .q => .node 3 .nil .nil
  | .not a => .node 4 (trOf a) .nil
  | .next a => .node 7 (trOf a) .nil
  | .ev a => .node 8 (.node 1 .nil .nil) (trOf a)
  | .glob a => trRel (.node 0 .nil .nil) (trOf a)
  | .and a b => .node 5 (trOf a) (trOf b)
  | .or a b => .node 6 (trOf a) (trOf b)
  | .til a b => .node 8 (trOf a) (trOf b)
  | .rel a b => trRel (trOf a) (trOf b)
def unF (c : Nat) (f : Fm) : Fm := if c = 33 then .not f else if c = 88 then .next f else if c = 70 then .ev f else .glob f
def lfF (c : Nat) : Fm := if c = 112 then .p else if c = 113 then .q else if c = 49 then .one else .zero
def biF (c : Nat) (f g : Fm) : Fm := if c = 85 then .til f g else .rel f g

/-- What comes of reading: the formula, the place behind it, how many nodes and how many of time there are; or the fault and its place. -/
inductive TRes where
  | good (f : Fm) (i n t : Nat)
  | bad (c : Int) (j : Nat)
/-- Is it an operator of time? -/
def isT (c : Nat) : Bool := c == 88 || c == 70 || c == 71 || c == 85 || c == 82
def tmC (c t : Nat) : Nat := if isT c = true then t + 1 else t
def fullC (c n t : Nat) : Bool := decide (30 < n + 1) || decide (5 < tmC c t)
/-- A reader: at a place, with so many nodes, so many of time, within so many brackets. -/
abbrev PT := Nat → Nat → Nat → Nat → TRes

section
variable (s : ByteArray)
def rowL (op : Nat) (mk : Fm → Fm → Fm) (P : PT) (d : Nat) : Nat → Fm → Nat → Nat → Nat → TRes
  | 0, f, j, n, t => .bad 4 j
  | k + 1, f, j, n, t => if byT s j = op then if fullC op n t = true then .bad 7 j else
      match P (j + 1) (n + 1) (tmC op t) d with
      | .bad c j' => .bad c j'
      | .good g j' n' t' => rowL op mk P d k (mk f g) j' n' t'
    else .good f j n t
def rowP (op : Nat) (mk : Fm → Fm → Fm) (P : PT) : PT := fun i n t d => match P i n t d with
  | .bad c j => .bad c j
  | .good f j n' t' => rowL s op mk P d (s.size + 1) f j n' t'
def partQ (O P : PT) : PT := fun i n t d => match O i n t d with
  | .bad c j => .bad c j
  | .good f j n' t' => if byT s j = 85 ∨ byT s j = 82 then if fullC (byT s j) n' t' = true then .bad 7 j else
      match P (j + 1) (n' + 1) (tmC (byT s j) t') d with
      | .bad c j' => .bad c j'
      | .good g j' n2 t2 => .good (biF (byT s j) f g) j' n2 t2
    else .good f j n' t'
def brackQ (W : PT) : PT := fun i n t d => if d = 40 then .bad 7 i else match W (i + 1) n t (d + 1) with
  | .bad c j => .bad c j
  | .good f j n' t' => if byT s j = 41 then .good f (j + 1) n' t' else .bad 4 j
def oneQ (O W : PT) : PT := fun i n t d =>
  if byT s i = 33 ∨ byT s i = 88 ∨ byT s i = 70 ∨ byT s i = 71 then if fullC (byT s i) n t = true then .bad 7 i else
    match O (i + 1) (n + 1) (tmC (byT s i) t) d with
    | .bad c j => .bad c j
    | .good f j n' t' => .good (unF (byT s i) f) j n' t'
  else if byT s i = 40 then brackQ s W i n t d
  else if byT s i = 112 ∨ byT s i = 113 ∨ byT s i = 48 ∨ byT s i = 49 then if fullC (byT s i) n t = true then .bad 7 i else .good (lfF (byT s i)) (i + 1) (n + 1) (tmC (byT s i) t)
  else .bad 4 i
def termQ (P : PT) : PT := rowP s 38 .and P
def formQ (P : PT) : PT := rowP s 124 .or (termQ s P)
def lvQ : Nat → PT × PT
  | 0 => (fun i _ _ _ => .bad 4 i, fun i _ _ _ => .bad 4 i)
  | k + 1 => (oneQ s (lvQ k).1 (formQ s (lvQ k).2), partQ s (oneQ s (lvQ k).1 (formQ s (lvQ k).2)) (lvQ k).2)
def parseQ : TRes := if 4000 < s.size then .bad 1 0 else match formQ s (lvQ s (s.size + 1)).2 0 0 0 0 with
  | .bad c j => .bad c j
  | .good f j n t => if j < s.size then .bad 4 j else .good f j n t

/-- What was read lies ahead and within the text; there are not too many nodes; a fault is one, and lies within. -/
structure Fwd (S : PT) : Prop where
  good : ∀ {i n t d f j n' t'}, S i n t d = .good f j n' t' → i ≤ s.size → n ≤ 30 → t ≤ 5 → i < j ∧ j ≤ s.size ∧ n ≤ n' ∧ n' ≤ 30 ∧ t' ≤ 5
  bad : ∀ {i n t d c j}, S i n t d = .bad c j → i ≤ s.size → n ≤ 30 → t ≤ 5 → (c = 4 ∨ c = 7) ∧ j ≤ s.size
variable {s}
theorem full_not {c n t : Nat} (h : ¬ fullC c n t = true) : n + 1 ≤ 30 ∧ tmC c t ≤ 5 := by
  unfold fullC at h
  simp only [Bool.or_eq_true, decide_eq_true_eq] at h
  omega
theorem rowL_fwd {op : Nat} {mk : Fm → Fm → Fm} {P : PT} (hP : Fwd s P) (hop : 0 < op) (d : Nat) : ∀ k f j n t, j ≤ s.size → n ≤ 30 → t ≤ 5 →
    (∀ f' j' n' t', rowL s op mk P d k f j n t = .good f' j' n' t' → j ≤ j' ∧ j' ≤ s.size ∧ n ≤ n' ∧ n' ≤ 30 ∧ t' ≤ 5) ∧ (∀ c j', rowL s op mk P d k f j n t = .bad c j' → (c = 4 ∨ c = 7) ∧ j' ≤ s.size) := by
  intro k
  induction k with
  | zero => intro f j n t hj hn ht; exact ⟨fun f' j' n' t' h => by simp [rowL] at h, fun c j' h => by simp only [rowL, TRes.bad.injEq] at h; exact ⟨.inl h.1.symm, by omega⟩⟩
  | succ k ih =>
    intro f j n t hj hn ht
    rw [rowL]
    by_cases h1 : byT s j = op
    · rw [if_pos h1]
      have hjl := byT_pos h1 hop
      by_cases h2 : fullC op n t = true
      · rw [if_pos h2]; exact ⟨fun f' j' n' t' h => (TRes.noConfusion h), fun c j' h => by simp only [TRes.bad.injEq] at h; exact ⟨.inr h.1.symm, by omega⟩⟩
      · rw [if_neg h2]
        obtain ⟨q1, q2⟩ := full_not h2
        cases hR : P (j + 1) (n + 1) (tmC op t) d with
        | bad c j' => exact ⟨fun f' j' n' t' h => (TRes.noConfusion h), fun c' j2 h => by simp only [TRes.bad.injEq] at h; obtain ⟨rfl, rfl⟩ := h; exact hP.bad hR hjl q1 q2⟩
        | good g j' n' t' =>
          obtain ⟨a1, a2, a3, a4, a5⟩ := hP.good hR hjl q1 q2
          obtain ⟨i1, i2⟩ := ih (mk f g) j' n' t' a2 a4 a5
          exact ⟨fun f' j2 n2 t2 h => by obtain ⟨b1, b2, b3, b4, b5⟩ := i1 f' j2 n2 t2 h; exact ⟨by omega, b2, by omega, b4, b5⟩, i2⟩
    · rw [if_neg h1]
      exact ⟨fun f' j' n' t' h => by simp only [TRes.good.injEq] at h; obtain ⟨_, rfl, rfl, rfl⟩ := h; exact ⟨Nat.le_refl _, hj, Nat.le_refl _, hn, ht⟩, fun c j' h => (TRes.noConfusion h)⟩
theorem rowP_fwd {op : Nat} {mk : Fm → Fm → Fm} {P : PT} (hP : Fwd s P) (hop : 0 < op) : Fwd s (rowP s op mk P) := by
  constructor
  · intro i n t d f j n' t' h hi hn ht
    unfold rowP at h
    cases hR : P i n t d with
    | bad c j' => rw [hR] at h; exact TRes.noConfusion h
    | good g j' n2 t2 =>
      rw [hR] at h
      obtain ⟨a1, a2, a3, a4, a5⟩ := hP.good hR hi hn ht
      obtain ⟨b1, b2, b3, b4, b5⟩ := (rowL_fwd hP hop d _ _ _ _ _ a2 a4 a5).1 _ _ _ _ h
      exact ⟨by omega, b2, by omega, b4, b5⟩
  · intro i n t d c j h hi hn ht
    unfold rowP at h
    cases hR : P i n t d with
    | bad c' j' => rw [hR] at h; simp only [TRes.bad.injEq] at h; obtain ⟨rfl, rfl⟩ := h; exact hP.bad hR hi hn ht
    | good g j' n2 t2 =>
      rw [hR] at h
      obtain ⟨a1, a2, a3, a4, a5⟩ := hP.good hR hi hn ht
      exact (rowL_fwd hP hop d _ _ _ _ _ a2 a4 a5).2 _ _ h
theorem partQ_fwd {O P : PT} (hO : Fwd s O) (hP : Fwd s P) : Fwd s (partQ s O P) := by
  constructor
  · intro i n t d f j n' t' h hi hn ht
    unfold partQ at h
    cases hR : O i n t d with
    | bad c j' => rw [hR] at h; exact TRes.noConfusion h
    | good g j' n2 t2 =>
      rw [hR] at h
      obtain ⟨a1, a2, a3, a4, a5⟩ := hO.good hR hi hn ht
      simp only at h
      by_cases h1 : byT s j' = 85 ∨ byT s j' = 82
      · rw [if_pos h1] at h
        have hjl : j' < s.size := by rcases h1 with h1 | h1 <;> exact byT_pos h1 (by omega)
        by_cases h2 : fullC (byT s j') n2 t2 = true
        · rw [if_pos h2] at h; exact TRes.noConfusion h
        · rw [if_neg h2] at h
          obtain ⟨q1, q2⟩ := full_not h2
          cases hQ : P (j' + 1) (n2 + 1) (tmC (byT s j') t2) d with
          | bad c j3 => rw [hQ] at h; exact TRes.noConfusion h
          | good g3 j3 n3 t3 =>
            rw [hQ] at h
            simp only [TRes.good.injEq] at h
            obtain ⟨_, rfl, rfl, rfl⟩ := h
            obtain ⟨b1, b2, b3, b4, b5⟩ := hP.good hQ hjl q1 q2
            exact ⟨by omega, b2, by omega, b4, b5⟩
      · rw [if_neg h1] at h
        simp only [TRes.good.injEq] at h
        obtain ⟨_, rfl, rfl, rfl⟩ := h
        exact ⟨a1, a2, a3, a4, a5⟩
  · intro i n t d c j h hi hn ht
    unfold partQ at h
    cases hR : O i n t d with
    | bad c' j' => rw [hR] at h; simp only [TRes.bad.injEq] at h; obtain ⟨rfl, rfl⟩ := h; exact hO.bad hR hi hn ht
    | good g j' n2 t2 =>
      rw [hR] at h
      obtain ⟨a1, a2, a3, a4, a5⟩ := hO.good hR hi hn ht
      simp only at h
      by_cases h1 : byT s j' = 85 ∨ byT s j' = 82
      · rw [if_pos h1] at h
        have hjl : j' < s.size := by rcases h1 with h1 | h1 <;> exact byT_pos h1 (by omega)
        by_cases h2 : fullC (byT s j') n2 t2 = true
        · rw [if_pos h2] at h; simp only [TRes.bad.injEq] at h; exact ⟨.inr h.1.symm, by omega⟩
        · rw [if_neg h2] at h
          obtain ⟨q1, q2⟩ := full_not h2
          cases hQ : P (j' + 1) (n2 + 1) (tmC (byT s j') t2) d with
          | bad c3 j3 => rw [hQ] at h; simp only [TRes.bad.injEq] at h; obtain ⟨rfl, rfl⟩ := h; exact hP.bad hQ hjl q1 q2
          | good g3 j3 n3 t3 => rw [hQ] at h; exact TRes.noConfusion h
      · rw [if_neg h1] at h; exact TRes.noConfusion h
theorem brackQ_fwd {W : PT} (hW : Fwd s W) {i n t d : Nat} (hi : i < s.size) (hn : n ≤ 30) (ht : t ≤ 5) : (∀ f j n' t', brackQ s W i n t d = .good f j n' t' → i < j ∧ j ≤ s.size ∧ n ≤ n' ∧ n' ≤ 30 ∧ t' ≤ 5) ∧ (∀ c j, brackQ s W i n t d = .bad c j → (c = 4 ∨ c = 7) ∧ j ≤ s.size) := by
  unfold brackQ
  by_cases h1 : d = 40
  · rw [if_pos h1]; exact ⟨fun f j n' t' h => (TRes.noConfusion h), fun c j h => by simp only [TRes.bad.injEq] at h; exact ⟨.inr h.1.symm, by omega⟩⟩
  · rw [if_neg h1]
    cases hR : W (i + 1) n t (d + 1) with
    | bad c j' => exact ⟨fun f j n' t' h => (TRes.noConfusion h), fun c2 j2 h => by simp only [TRes.bad.injEq] at h; obtain ⟨rfl, rfl⟩ := h; exact hW.bad hR hi hn ht⟩
    | good g j' n2 t2 =>
      obtain ⟨a1, a2, a3, a4, a5⟩ := hW.good hR hi hn ht
      simp only
      by_cases h2 : byT s j' = 41
      · rw [if_pos h2]
        have := byT_pos h2 (by omega)
        exact ⟨fun f j n' t' h => by simp only [TRes.good.injEq] at h; obtain ⟨_, rfl, rfl, rfl⟩ := h; exact ⟨by omega, by omega, a3, a4, a5⟩, fun c j h => (TRes.noConfusion h)⟩
      · rw [if_neg h2]; exact ⟨fun f j n' t' h => (TRes.noConfusion h), fun c j h => by simp only [TRes.bad.injEq] at h; obtain ⟨rfl, rfl⟩ := h; exact ⟨.inl rfl, by omega⟩⟩
theorem oneQ_fwd {O W : PT} (hO : Fwd s O) (hW : Fwd s W) : Fwd s (oneQ s O W) := by
  have key : ∀ {i n t d}, i ≤ s.size → n ≤ 30 → t ≤ 5 → (∀ f j n' t', oneQ s O W i n t d = .good f j n' t' → i < j ∧ j ≤ s.size ∧ n ≤ n' ∧ n' ≤ 30 ∧ t' ≤ 5) ∧ (∀ c j, oneQ s O W i n t d = .bad c j → (c = 4 ∨ c = 7) ∧ j ≤ s.size) := by
    intro i n t d hi hn ht
    unfold oneQ
    by_cases h1 : byT s i = 33 ∨ byT s i = 88 ∨ byT s i = 70 ∨ byT s i = 71
    · rw [if_pos h1]
      have hil : i < s.size := by rcases h1 with h | h | h | h <;> exact byT_pos h (by omega)
      by_cases h2 : fullC (byT s i) n t = true
      · rw [if_pos h2]; exact ⟨fun f j n' t' h => (TRes.noConfusion h), fun c j h => by simp only [TRes.bad.injEq] at h; exact ⟨.inr h.1.symm, by omega⟩⟩
      · rw [if_neg h2]
        obtain ⟨q1, q2⟩ := full_not h2
        cases hR : O (i + 1) (n + 1) (tmC (byT s i) t) d with
        | bad c j' => exact ⟨fun f j n' t' h => (TRes.noConfusion h), fun c2 j2 h => by simp only [TRes.bad.injEq] at h; obtain ⟨rfl, rfl⟩ := h; exact hO.bad hR hil q1 q2⟩
        | good g j' n2 t2 =>
          obtain ⟨a1, a2, a3, a4, a5⟩ := hO.good hR hil q1 q2
          exact ⟨fun f j n' t' h => by simp only [TRes.good.injEq] at h; obtain ⟨_, rfl, rfl, rfl⟩ := h; exact ⟨by omega, a2, by omega, a4, a5⟩, fun c j h => (TRes.noConfusion h)⟩
    · rw [if_neg h1]
      by_cases h2 : byT s i = 40
      · rw [if_pos h2]; exact brackQ_fwd hW (byT_pos h2 (by omega)) hn ht
      · rw [if_neg h2]
        by_cases h3 : byT s i = 112 ∨ byT s i = 113 ∨ byT s i = 48 ∨ byT s i = 49
        · rw [if_pos h3]
          have hil : i < s.size := by rcases h3 with h | h | h | h <;> exact byT_pos h (by omega)
          by_cases h4 : fullC (byT s i) n t = true
          · rw [if_pos h4]; exact ⟨fun f j n' t' h => (TRes.noConfusion h), fun c j h => by simp only [TRes.bad.injEq] at h; exact ⟨.inr h.1.symm, by omega⟩⟩
          · rw [if_neg h4]
            obtain ⟨q1, q2⟩ := full_not h4
            exact ⟨fun f j n' t' h => by simp only [TRes.good.injEq] at h; obtain ⟨_, rfl, rfl, rfl⟩ := h; exact ⟨by omega, by omega, by omega, q1, q2⟩, fun c j h => (TRes.noConfusion h)⟩
        · rw [if_neg h3]; exact ⟨fun f j n' t' h => (TRes.noConfusion h), fun c j h => by simp only [TRes.bad.injEq] at h; exact ⟨.inl h.1.symm, by omega⟩⟩
  exact ⟨fun h hi hn ht => (key hi hn ht).1 _ _ _ _ h, fun h hi hn ht => (key hi hn ht).2 _ _ h⟩
theorem termQ_fwd {P : PT} (hP : Fwd s P) : Fwd s (termQ s P) := rowP_fwd hP (by omega)
theorem formQ_fwd {P : PT} (hP : Fwd s P) : Fwd s (formQ s P) := rowP_fwd (termQ_fwd hP) (by omega)
theorem lvQ_fwd : ∀ k, Fwd s (lvQ s k).1 ∧ Fwd s (lvQ s k).2 := by
  intro k
  induction k with
  | zero =>
    have h0 : Fwd s (fun i _ _ _ => TRes.bad 4 i) := ⟨fun h _ _ _ => (TRes.noConfusion h), fun h hi _ _ => by simp only [TRes.bad.injEq] at h; obtain ⟨rfl, rfl⟩ := h; exact ⟨.inl rfl, hi⟩⟩
    exact ⟨h0, h0⟩
  | succ k ih =>
    have h1 := oneQ_fwd ih.1 (formQ_fwd ih.2)
    exact ⟨h1, partQ_fwd h1 ih.2⟩
end

end Go.Proofs.Ytneialmpaiejcaa
