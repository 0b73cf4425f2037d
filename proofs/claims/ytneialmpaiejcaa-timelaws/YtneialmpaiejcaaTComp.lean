/- What comes of a text that is put together from texts. No program is in it. -/
import Derived.Test.YtneialmpaiejcaaTSpec
namespace Go.Proofs.Ytneialmpaiejcaa
open Go.RowKit
set_option linter.unusedVariables false

/-- The text s stands in S, from place o on, and a closing bracket behind it. -/
structure Emb (o : Nat) (s S : ByteArray) : Prop where
  same : ∀ i, i < s.size → byT S (o + i) = byT s i
  close : byT S (o + s.size) = 41
theorem byT_end {s : ByteArray} {i : Nat} (h : s.size ≤ i) : byT s i = 0 := by unfold byT; rw [dif_neg (by omega)]
theorem Emb.iff {o : Nat} {s S : ByteArray} (h : Emb o s S) {i c : Nat} (hi : i ≤ s.size) (h0 : c ≠ 0) (h1 : c ≠ 41) : byT s i = c ↔ byT S (o + i) = c := by
  by_cases e : i < s.size
  · rw [h.same i e]
  · obtain rfl : i = s.size := by omega
    rw [h.close, byT_end (Nat.le_refl _)]
    constructor <;> intro h' <;> omega
/-- Both readers read the same, if both read. -/
structure Sim (o : Nat) (s : ByteArray) (P Q : PT) : Prop where
  go : ∀ {i n t d f j n' t' N T D g J N' T'}, P i n t d = .good f j n' t' → Q (o + i) N T D = .good g J N' T' → i ≤ s.size → g = f ∧ J = o + j ∧ j ≤ s.size
theorem rowL_sim {o : Nat} {s S : ByteArray} (h : Emb o s S) {op : Nat} (h0 : op ≠ 0) (h1 : op ≠ 41) {mk : Fm → Fm → Fm} {P Q : PT} (hP : Sim o s P Q) :
    ∀ k k' {d D f j n t N T f' j' n' t' g J N' T'}, rowL s op mk P d k f j n t = .good f' j' n' t' → rowL S op mk Q D k' f (o + j) N T = .good g J N' T' → j ≤ s.size → g = f' ∧ J = o + j' ∧ j' ≤ s.size := by
  intro k
  induction k with
  | zero => intro k' d D f j n t N T f' j' n' t' g J N' T' e1; simp [rowL] at e1
  | succ k ih =>
    intro k' d D f j n t N T f' j' n' t' g J N' T' e1 e2 hj
    cases k' with
    | zero => simp [rowL] at e2
    | succ k' =>
      rw [rowL] at e1 e2
      by_cases hb : byT s j = op
      · rw [if_pos hb] at e1
        rw [if_pos ((h.iff hj h0 h1).1 hb)] at e2
        have hjl : j < s.size := byT_pos hb (by omega)
        by_cases f1 : fullC op n t = true
        · rw [if_pos f1] at e1; exact TRes.noConfusion e1
        · rw [if_neg f1] at e1
          by_cases f2 : fullC op N T = true
          · rw [if_pos f2] at e2; exact TRes.noConfusion e2
          · rw [if_neg f2] at e2
            cases hR : P (j + 1) (n + 1) (tmC op t) d with
            | bad c j2 => rw [hR] at e1; exact TRes.noConfusion e1
            | good g1 j1 n1 t1 =>
              rw [hR] at e1
              cases hQ : Q (o + j + 1) (N + 1) (tmC op T) D with
              | bad c j2 => rw [hQ] at e2; exact TRes.noConfusion e2
              | good g2 j2 n2 t2 =>
                rw [hQ] at e2
                obtain ⟨rfl, rfl, q⟩ := hP.go hR hQ (by omega)
                exact ih k' e1 e2 q
      · rw [if_neg hb] at e1
        rw [if_neg (fun x => hb ((h.iff hj h0 h1).2 x))] at e2
        simp only [TRes.good.injEq] at e1 e2
        obtain ⟨rfl, rfl, _⟩ := e1
        obtain ⟨rfl, rfl, _⟩ := e2
        exact ⟨rfl, rfl, hj⟩
theorem rowP_sim {o : Nat} {s S : ByteArray} (h : Emb o s S) {op : Nat} (h0 : op ≠ 0) (h1 : op ≠ 41) {mk : Fm → Fm → Fm} {P Q : PT} (hP : Sim o s P Q) : Sim o s (rowP s op mk P) (rowP S op mk Q) := by
  refine ⟨?_⟩
  intro i n t d f j n' t' N T D g J N' T' e1 e2 hi
  unfold rowP at e1 e2
  cases hR : P i n t d with
  | bad c j2 => rw [hR] at e1; exact TRes.noConfusion e1
  | good g1 j1 n1 t1 =>
    rw [hR] at e1
    cases hQ : Q (o + i) N T D with
    | bad c j2 => rw [hQ] at e2; exact TRes.noConfusion e2
    | good g2 j2 n2 t2 =>
      rw [hQ] at e2
      obtain ⟨rfl, rfl, q⟩ := hP.go hR hQ hi
      exact rowL_sim h h0 h1 hP _ _ e1 e2 q
theorem partQ_sim {o : Nat} {s S : ByteArray} (h : Emb o s S) {O P O' P' : PT} (hO : Sim o s O O') (hP : Sim o s P P') : Sim o s (partQ s O P) (partQ S O' P') := by
  refine ⟨?_⟩
  intro i n t d f j n' t' N T D g J N' T' e1 e2 hi
  unfold partQ at e1 e2
  cases hR : O i n t d with
  | bad c j2 => rw [hR] at e1; exact TRes.noConfusion e1
  | good g1 j1 n1 t1 =>
    rw [hR] at e1
    cases hQ : O' (o + i) N T D with
    | bad c j2 => rw [hQ] at e2; exact TRes.noConfusion e2
    | good g2 j2 n2 t2 =>
      rw [hQ] at e2
      obtain ⟨rfl, rfl, q⟩ := hO.go hR hQ hi
      simp only at e1 e2
      have k1 := h.iff q (c := 85) (by omega) (by omega)
      have k2 := h.iff q (c := 82) (by omega) (by omega)
      by_cases hb : byT s j1 = 85 ∨ byT s j1 = 82
      · have hB : byT S (o + j1) = 85 ∨ byT S (o + j1) = 82 := hb.imp k1.1 k2.1
        have eb : byT S (o + j1) = byT s j1 := by
          rcases hb with x | x
          · rw [x, k1.1 x]
          · rw [x, k2.1 x]
        rw [if_pos hb] at e1
        rw [if_pos hB, eb] at e2
        have hjl : j1 < s.size := by rcases hb with x | x <;> exact byT_pos x (by omega)
        split at e1
        · exact TRes.noConfusion e1
        · split at e2
          · exact TRes.noConfusion e2
          · cases hR2 : P (j1 + 1) (n1 + 1) (tmC (byT s j1) t1) d with
            | bad c j2 => rw [hR2] at e1; exact TRes.noConfusion e1
            | good g3 j3 n3 t3 =>
              rw [hR2] at e1
              cases hQ2 : P' (o + j1 + 1) (n2 + 1) (tmC (byT s j1) t2) D with
              | bad c j2 => rw [hQ2] at e2; exact TRes.noConfusion e2
              | good g4 j4 n4 t4 =>
                rw [hQ2] at e2
                obtain ⟨rfl, rfl, q2⟩ := hP.go hR2 hQ2 (by omega)
                simp only [TRes.good.injEq] at e1 e2
                obtain ⟨rfl, rfl, _⟩ := e1
                obtain ⟨rfl, rfl, _⟩ := e2
                exact ⟨rfl, rfl, q2⟩
      · have hB : ¬ (byT S (o + j1) = 85 ∨ byT S (o + j1) = 82) := fun x => hb (x.imp k1.2 k2.2)
        rw [if_neg hb] at e1
        rw [if_neg hB] at e2
        simp only [TRes.good.injEq] at e1 e2
        obtain ⟨rfl, rfl, _⟩ := e1
        obtain ⟨rfl, rfl, _⟩ := e2
        exact ⟨rfl, rfl, q⟩
theorem brackQ_sim {o : Nat} {s S : ByteArray} (h : Emb o s S) {W W' : PT} (hW : Sim o s W W') {i n t d f j n' t' N T D g J N' T'} (e1 : brackQ s W i n t d = .good f j n' t') (e2 : brackQ S W' (o + i) N T D = .good g J N' T') (hi : i < s.size) : g = f ∧ J = o + j ∧ j ≤ s.size := by
  unfold brackQ at e1 e2
  split at e1
  · exact TRes.noConfusion e1
  · split at e2
    · exact TRes.noConfusion e2
    · cases hR : W (i + 1) n t (d + 1) with
      | bad c j2 => rw [hR] at e1; exact TRes.noConfusion e1
      | good g1 j1 n1 t1 =>
        rw [hR] at e1
        cases hQ : W' (o + i + 1) N T (D + 1) with
        | bad c j2 => rw [hQ] at e2; exact TRes.noConfusion e2
        | good g2 j2 n2 t2 =>
          rw [hQ] at e2
          obtain ⟨rfl, rfl, q⟩ := hW.go hR hQ (by omega)
          simp only at e1 e2
          split at e1
          · rename_i hb
            have := byT_pos hb (by omega)
            split at e2
            · simp only [TRes.good.injEq] at e1 e2
              obtain ⟨rfl, rfl, _⟩ := e1
              obtain ⟨rfl, rfl, _⟩ := e2
              exact ⟨rfl, by omega, by omega⟩
            · exact TRes.noConfusion e2
          · exact TRes.noConfusion e1
theorem oneQ_sim {o : Nat} {s S : ByteArray} (h : Emb o s S) {O W O' W' : PT} (hO : Sim o s O O') (hW : Sim o s W W') : Sim o s (oneQ s O W) (oneQ S O' W') := by
  refine ⟨?_⟩
  intro i n t d f j n' t' N T D g J N' T' e1 e2 hi
  have hil : i < s.size := by
    by_cases e : i < s.size
    · exact e
    · unfold oneQ at e1
      rw [byT_end (by omega)] at e1
      simp at e1
  unfold oneQ at e1 e2
  rw [h.same i hil] at e2
  by_cases c1 : byT s i = 33 ∨ byT s i = 88 ∨ byT s i = 70 ∨ byT s i = 71
  · rw [if_pos c1] at e1 e2
    split at e1
    · exact TRes.noConfusion e1
    · split at e2
      · exact TRes.noConfusion e2
      · cases hR : O (i + 1) (n + 1) (tmC (byT s i) t) d with
        | bad c j2 => rw [hR] at e1; exact TRes.noConfusion e1
        | good g1 j1 n1 t1 =>
          rw [hR] at e1
          cases hQ : O' (o + i + 1) (N + 1) (tmC (byT s i) T) D with
          | bad c j2 => rw [hQ] at e2; exact TRes.noConfusion e2
          | good g2 j2 n2 t2 =>
            rw [hQ] at e2
            obtain ⟨rfl, rfl, q⟩ := hO.go hR hQ (by omega)
            simp only [TRes.good.injEq] at e1 e2
            obtain ⟨rfl, rfl, _⟩ := e1
            obtain ⟨rfl, rfl, _⟩ := e2
            exact ⟨rfl, rfl, q⟩
  · rw [if_neg c1] at e1 e2
    by_cases c2 : byT s i = 40
    · rw [if_pos c2] at e1 e2
      exact brackQ_sim h hW e1 e2 hil
    · rw [if_neg c2] at e1 e2
      by_cases c3 : byT s i = 112 ∨ byT s i = 113 ∨ byT s i = 48 ∨ byT s i = 49
      · rw [if_pos c3] at e1 e2
        split at e1
        · exact TRes.noConfusion e1
        · split at e2
          · exact TRes.noConfusion e2
          · simp only [TRes.good.injEq] at e1 e2
            obtain ⟨rfl, rfl, _⟩ := e1
            obtain ⟨rfl, rfl, _⟩ := e2
            exact ⟨rfl, by omega, by omega⟩
      · rw [if_neg c3] at e1; exact TRes.noConfusion e1
theorem formQ_sim {o : Nat} {s S : ByteArray} (h : Emb o s S) {P Q : PT} (hP : Sim o s P Q) : Sim o s (formQ s P) (formQ S Q) := rowP_sim h (by omega) (by omega) (rowP_sim h (by omega) (by omega) hP)
theorem lvQ_sim {o : Nat} {s S : ByteArray} (h : Emb o s S) : ∀ k k', Sim o s (lvQ s k).1 (lvQ S k').1 ∧ Sim o s (lvQ s k).2 (lvQ S k').2 := by
  intro k
  induction k with
  | zero => intro k'; exact ⟨⟨fun e1 => by simp [lvQ] at e1⟩, ⟨fun e1 => by simp [lvQ] at e1⟩⟩
  | succ k ih =>
    intro k'
    cases k' with
    | zero => exact ⟨⟨fun _ e2 => by simp [lvQ] at e2⟩, ⟨fun _ e2 => by simp [lvQ] at e2⟩⟩
    | succ k' =>
      have h1 := oneQ_sim h (ih k').1 (formQ_sim h (ih k').2)
      exact ⟨h1, partQ_sim h h1 (ih k').2⟩

/-- From place i to place j the text is this, as far as it can be read there. -/
def OneIs (S : ByteArray) (i j : Nat) (f : Fm) : Prop := ∀ {k n t d g J n' t'}, (lvQ S k).1 i n t d = .good g J n' t' → g = f ∧ J = j
def PartIs (S : ByteArray) (i j : Nat) (f : Fm) : Prop := ∀ {k n t d g J n' t'}, (lvQ S k).2 i n t d = .good g J n' t' → g = f ∧ J = j
def TermIs (S : ByteArray) (i j : Nat) (f : Fm) : Prop := ∀ {k n t d g J n' t'}, termQ S (lvQ S k).2 i n t d = .good g J n' t' → g = f ∧ J = j
def FormIs (S : ByteArray) (i j : Nat) (f : Fm) : Prop := ∀ {k n t d g J n' t'}, formQ S (lvQ S k).2 i n t d = .good g J n' t' → g = f ∧ J = j
theorem one_un {S : ByteArray} {i j c : Nat} {f : Fm} (hb : byT S i = c) (hc : c = 33 ∨ c = 88 ∨ c = 70 ∨ c = 71) (h : OneIs S (i + 1) j f) : OneIs S i j (unF c f) := by
  intro k n t d g J n' t' e
  cases k with
  | zero => simp [lvQ] at e
  | succ k =>
    simp only [lvQ, oneQ, hb] at e
    rw [if_pos hc] at e
    split at e
    · exact TRes.noConfusion e
    · split at e
      · exact TRes.noConfusion e
      · rename_i hR
        simp only [TRes.good.injEq] at e
        obtain ⟨rfl, rfl, _⟩ := e
        obtain ⟨rfl, rfl⟩ := h hR
        exact ⟨rfl, rfl⟩
theorem one_br {S : ByteArray} {i j : Nat} {f : Fm} (hb : byT S i = 40) (h : FormIs S (i + 1) j f) : OneIs S i (j + 1) f := by
  intro k n t d g J n' t' e
  cases k with
  | zero => simp [lvQ] at e
  | succ k =>
    simp only [lvQ, oneQ, hb] at e
    rw [if_neg (by omega), if_pos trivial] at e
    unfold brackQ at e
    split at e
    · exact TRes.noConfusion e
    · split at e
      · exact TRes.noConfusion e
      · rename_i hR
        split at e
        · simp only [TRes.good.injEq] at e
          obtain ⟨rfl, rfl, _⟩ := e
          obtain ⟨rfl, rfl⟩ := h hR
          exact ⟨rfl, rfl⟩
        · exact TRes.noConfusion e
theorem one_lv {S : ByteArray} {i j : Nat} {f : Fm} (h : OneIs S i j f) {k n t d g J n' t'} (e : oneQ S (lvQ S k).1 (formQ S (lvQ S k).2) i n t d = .good g J n' t') : g = f ∧ J = j := h (k := k + 1) e
theorem part_one {S : ByteArray} {i j : Nat} {f : Fm} (h : OneIs S i j f) (h1 : byT S j ≠ 85) (h2 : byT S j ≠ 82) : PartIs S i j f := by
  intro k n t d g J n' t' e
  cases k with
  | zero => simp [lvQ] at e
  | succ k =>
    simp only [lvQ, partQ] at e
    split at e
    · exact TRes.noConfusion e
    · rename_i hR
      obtain ⟨rfl, rfl⟩ := one_lv h hR
      rw [if_neg (by omega)] at e
      simp only [TRes.good.injEq] at e
      obtain ⟨rfl, rfl, _⟩ := e
      exact ⟨rfl, rfl⟩
theorem part_bi {S : ByteArray} {i j j' c : Nat} {f g0 : Fm} (h : OneIs S i j f) (hb : byT S j = c) (hc : c = 85 ∨ c = 82) (h2 : PartIs S (j + 1) j' g0) : PartIs S i j' (biF c f g0) := by
  intro k n t d g J n' t' e
  cases k with
  | zero => simp [lvQ] at e
  | succ k =>
    simp only [lvQ, partQ] at e
    split at e
    · exact TRes.noConfusion e
    · rename_i hR
      obtain ⟨rfl, rfl⟩ := one_lv h hR
      rw [hb, if_pos hc] at e
      split at e
      · exact TRes.noConfusion e
      · split at e
        · exact TRes.noConfusion e
        · rename_i hQ
          simp only [TRes.good.injEq] at e
          obtain ⟨rfl, rfl, _⟩ := e
          obtain ⟨rfl, rfl⟩ := h2 hQ
          exact ⟨rfl, rfl⟩
theorem rowL_end {S : ByteArray} {op : Nat} {mk : Fm → Fm → Fm} {P : PT} {d k : Nat} {f : Fm} {j n t : Nat} {g : Fm} {J n' t' : Nat} (hb : byT S j ≠ op) (e : rowL S op mk P d k f j n t = .good g J n' t') : g = f ∧ J = j := by
  cases k with
  | zero => simp [rowL] at e
  | succ k =>
    rw [rowL, if_neg hb] at e
    simp only [TRes.good.injEq] at e
    obtain ⟨rfl, rfl, _⟩ := e
    exact ⟨rfl, rfl⟩
theorem rowL_two {S : ByteArray} {op : Nat} {mk : Fm → Fm → Fm} {P : PT} {d k : Nat} {f h0 : Fm} {j j' n t : Nat} {g : Fm} {J n' t' : Nat} (hb : byT S j = op) (hP : ∀ {n t d g J n' t'}, P (j + 1) n t d = .good g J n' t' → g = h0 ∧ J = j') (hb' : byT S j' ≠ op) (e : rowL S op mk P d k f j n t = .good g J n' t') : g = mk f h0 ∧ J = j' := by
  cases k with
  | zero => simp [rowL] at e
  | succ k =>
    rw [rowL, if_pos hb] at e
    split at e
    · exact TRes.noConfusion e
    · split at e
      · exact TRes.noConfusion e
      · rename_i hR
        obtain ⟨rfl, rfl⟩ := hP hR
        exact rowL_end hb' e
theorem term_one {S : ByteArray} {i j : Nat} {f : Fm} (h : PartIs S i j f) (hb : byT S j ≠ 38) : TermIs S i j f := by
  intro k n t d g J n' t' e
  unfold termQ rowP at e
  split at e
  · exact TRes.noConfusion e
  · rename_i hR
    obtain ⟨rfl, rfl⟩ := h hR
    exact rowL_end hb e
theorem term_two {S : ByteArray} {i j j' : Nat} {f h0 : Fm} (h : PartIs S i j f) (hb : byT S j = 38) (h2 : PartIs S (j + 1) j' h0) (hb' : byT S j' ≠ 38) : TermIs S i j' (.and f h0) := by
  intro k n t d g J n' t' e
  unfold termQ rowP at e
  split at e
  · exact TRes.noConfusion e
  · rename_i hR
    obtain ⟨rfl, rfl⟩ := h hR
    exact rowL_two hb (fun e => h2 e) hb' e
theorem form_one {S : ByteArray} {i j : Nat} {f : Fm} (h : TermIs S i j f) (hb : byT S j ≠ 124) : FormIs S i j f := by
  intro k n t d g J n' t' e
  unfold formQ rowP at e
  split at e
  · exact TRes.noConfusion e
  · rename_i hR
    obtain ⟨rfl, rfl⟩ := h hR
    exact rowL_end hb e
theorem form_two {S : ByteArray} {i j j' : Nat} {f h0 : Fm} (h : TermIs S i j f) (hb : byT S j = 124) (h2 : TermIs S (j + 1) j' h0) (hb' : byT S j' ≠ 124) : FormIs S i j' (.or f h0) := by
  intro k n t d g J n' t' e
  unfold formQ rowP at e
  split at e
  · exact TRes.noConfusion e
  · rename_i hR
    obtain ⟨rfl, rfl⟩ := h hR
    exact rowL_two hb (fun e => h2 e) hb' e
theorem form_emb {o : Nat} {s S : ByteArray} {f : Fm} {j n t : Nat} (h : Emb o s S) (hp : parseQ s = .good f j n t) : FormIs S o (o + s.size) f := by
  intro k n1 t1 d g J n' t' e
  unfold parseQ at hp
  split at hp
  · exact TRes.noConfusion hp
  · split at hp
    · exact TRes.noConfusion hp
    · rename_i hR
      split at hp
      · exact TRes.noConfusion hp
      · simp only [TRes.good.injEq] at hp
        obtain ⟨rfl, rfl, rfl, rfl⟩ := hp
        obtain ⟨rfl, rfl, q⟩ := (formQ_sim h (lvQ_sim h _ k).2).go hR (by rw [Nat.add_zero]; exact e) (Nat.zero_le _)
        exact ⟨rfl, by omega⟩
/-- What a whole text is, if it is one. -/
theorem parse_is {S : ByteArray} {j0 : Nat} {f : Fm} (h : FormIs S 0 j0 f) {g : Fm} {j n t : Nat} (hp : parseQ S = .good g j n t) : g = f := by
  unfold parseQ at hp
  split at hp
  · exact TRes.noConfusion hp
  · split at hp
    · exact TRes.noConfusion hp
    · rename_i hR
      split at hp
      · exact TRes.noConfusion hp
      · simp only [TRes.good.injEq] at hp
        obtain ⟨rfl, rfl, rfl, rfl⟩ := hp
        exact (h hR).1

end Go.Proofs.Ytneialmpaiejcaa
