/- Trails, without the program: what is come to, and how; ways and words; when some lasso is accepted. -/
import Derived.Test.YtfjpdeoldcfhdaaUSem
namespace Go.Proofs.Ytfjpdeoldcfhdaa
set_option linter.unusedVariables false

/-- A trail: a state, from which earlier trail (-1: it begins), by which letter. -/
structure Trl where
  st : Nat
  fr : Int
  lt : Nat

/-- The trails that begin with some states, so far: all of the first i are gone on from, and c steps of the next one. -/
structure TrAt (T : List StepI) (bs : List Nat) (tr : List Trl) : Prop where
  begin_ : ∀ i, i < bs.length → tr[i]? = some ⟨bs.getD i 0, -1, 0⟩
  later : ∀ i t, bs.length ≤ i → tr[i]? = some t → ∃ (k : Nat) (u : Trl), t.fr = k ∧ k < i ∧ tr[k]? = some u ∧ stepR T u.st t.lt t.st
/-- Every trail is gone on from. -/
def TrEnd (T : List StepI) (bs : List Nat) (tr : List Trl) : Prop := ∀ (i : Nat) (t : Trl) (a q : Nat), tr[i]? = some t → stepR T t.st a q → ∃ j u, bs.length ≤ j ∧ tr[j]? = some u ∧ u.st = q
section
variable {T : List StepI} {bs : List Nat} {tr : List Trl}
theorem TrAt.len (h : TrAt T bs tr) : bs.length ≤ tr.length := by
  rcases Nat.eq_zero_or_pos bs.length with h0 | h0
  · omega
  · have := h.begin_ (bs.length - 1) (by omega)
    have := (List.getElem?_eq_some_iff.1 this).1
    omega
/-- The word of a trail: how it is come to. -/
theorem TrAt.word (h : TrAt T bs tr) : ∀ (i : Nat) (t : Trl), tr[i]? = some t → ∃ (w : List Nat) (b : Nat), b ∈ bs ∧ plainP T w b t.st ∧ w.length ≤ i - bs.length + 1 ∧ (bs.length ≤ i → 1 ≤ w.length) ∧ (i < bs.length → w = []) := by
  intro i
  induction i using Nat.strongRecOn with
  | _ i ih =>
    intro t ht
    rcases Nat.lt_or_ge i bs.length with hi | hi
    · have h1 := h.begin_ i hi
      rw [h1] at ht
      cases ht
      refine ⟨[], bs.getD i 0, ?_, rfl, by simp, (fun h2 => by omega), fun _ => rfl⟩
      rw [List.getD, List.getElem?_eq_getElem hi]
      exact List.getElem_mem _
    · obtain ⟨k, u, h1, h2, h3, h4⟩ := h.later i t hi ht
      obtain ⟨w, b, h5, h6, h7, h8, h9⟩ := ih k h2 u h3
      refine ⟨w ++ [t.lt], b, h5, plainP_append.2 ⟨u.st, h6, t.st, h4, rfl⟩, ?_, (fun _ => by simp), fun h10 => by omega⟩
      rw [List.length_append, List.length_singleton]
      rcases Nat.lt_or_ge k bs.length with hk | hk
      · rw [h9 hk]; simp
      · omega
theorem TrEnd.all (h : TrAt T bs tr) (he : TrEnd T bs tr) {w : List Nat} {b q : Nat} (hw : w ≠ []) (hb : b ∈ bs) (hp : plainP T w b q) : ∃ j u, bs.length ≤ j ∧ tr[j]? = some u ∧ u.st = q := by
  have key : ∀ (w : List Nat) (i : Nat) (t : Trl), w ≠ [] → tr[i]? = some t → plainP T w t.st q → ∃ j u, bs.length ≤ j ∧ tr[j]? = some u ∧ u.st = q := by
    intro w
    induction w with
    | nil => intro i t h1; exact absurd rfl h1
    | cons a w ih =>
      intro i t _ ht hp
      obtain ⟨r, h1, h2⟩ := hp
      obtain ⟨j, u, h3, h4, h5⟩ := he i t a r ht h1
      by_cases hw : w = []
      · subst hw
        have : r = q := h2
        exact ⟨j, u, h3, h4, by rw [h5, this]⟩
      · exact ih j u hw h4 (by rw [h5]; exact h2)
  obtain ⟨i, hi, he2⟩ := List.getElem_of_mem hb
  have h1 := h.begin_ i hi
  refine key w i _ hw h1 ?_
  have : bs.getD i 0 = b := by rw [List.getD, List.getElem?_eq_getElem hi, he2]; rfl
  simp only [this]
  exact hp
end
/-- A state of a set is come to from the start, and from itself again. -/
def SomeAt (T : List StepI) (ss f : Nat) : Prop := (∃ w q0, ss.testBit q0 = true ∧ plainP T w q0 f) ∧ ∃ w, w ≠ [] ∧ plainP T w f f
theorem good_mid {T : List StepI} {fs : Nat} {z : List Nat} {p q : Nat} (h : goodP T fs z p q) : ∃ f u v, fs.testBit f = true ∧ v ≠ [] ∧ plainP T u p f ∧ plainP T v f q := by
  induction z generalizing p with
  | nil => exact h.elim
  | cons a z ih =>
    obtain ⟨r, h1, ⟨h2, h3⟩ | h2⟩ := h
    · exact ⟨p, [], a :: z, h2, by simp, rfl, r, h1, h3⟩
    · obtain ⟨f, u, v, h3, h4, h5, h6⟩ := ih h2
      exact ⟨f, a :: u, v, h3, h4, ⟨r, h1, h5⟩, h6⟩
theorem some_of_acc {T : List StepI} {ss fs : Nat} {h lp : List Nat} (hA : AccL T ss fs h lp) : ∃ f, fs.testBit f = true ∧ SomeAt T ss f := by
  obtain ⟨q0, q, i, j, h1, h2, h3⟩ := hA
  obtain ⟨f, u, v, h4, h5, h6, h7⟩ := good_mid h3
  refine ⟨f, h4, ⟨_, q0, h1, plainP_append.2 ⟨q, h2, h6⟩⟩, v ++ u, by simp [h5], plainP_append.2 ⟨q, h7, h6⟩⟩
theorem acc_of_some {T : List StepI} {ss fs : Nat} {w z : List Nat} {q0 f : Nat} (h0 : ss.testBit q0 = true) (h1 : plainP T w q0 f) (hf : fs.testBit f = true) (hz : z ≠ []) (h2 : plainP T z f f) : AccL T ss fs w z := by
  refine ⟨q0, f, 0, 1, h0, by simpa [pw] using h1, ?_⟩
  simp only [pw, List.nil_append]
  cases z with
  | nil => exact absurd rfl hz
  | cons a z =>
    obtain ⟨r, h3, h4⟩ := h2
    exact ⟨r, h3, .inl ⟨hf, h4⟩⟩

/-- The letters of a way are letters. -/
theorem plain_letters {T : List StepI} {l n : Nat} (hT : InT T l n) {w : List Nat} {p q : Nat} (h : plainP T w p q) : ∀ a, a ∈ w → a < l := by
  induction w generalizing p with
  | nil => intro a ha; simp at ha
  | cons b w ih =>
    obtain ⟨r, ⟨t, ht, _, h2, _⟩, h3⟩ := h
    intro a ha
    rcases List.mem_cons.1 ha with rfl | ha
    · have := (memT_in hT ht).2.2; omega
    · exact ih h3 a ha

/-- The rows of steps by their states. -/
def fromT (T : List StepI) (f : Nat) : List StepI := T.filter fun t => decide (t.1.toNat = f)
theorem fromT_snoc {T : List StepI} {x : StepI} {f : Nat} : fromT (T ++ [x]) f = if x.1.toNat = f then fromT T f ++ [x] else fromT T f := by
  unfold fromT
  rw [List.filter_append]
  by_cases h : x.1.toNat = f
  · rw [if_pos h]; simp [h]
  · rw [if_neg h]; simp [h]
theorem fromT_step {T : List StepI} {f a q : Nat} : stepR T f a q ↔ ∃ t, t ∈ fromT T f ∧ t.2.1.toNat = a ∧ t.2.2.toNat = q := by
  unfold fromT stepR
  constructor
  · rintro ⟨t, h1, h2, h3, h4⟩; exact ⟨t, List.mem_filter.2 ⟨h1, by simpa using h2⟩, h3, h4⟩
  · rintro ⟨t, h1, h3, h4⟩
    obtain ⟨h5, h6⟩ := List.mem_filter.1 h1
    exact ⟨t, h5, by simpa using h6, h3, h4⟩

end Go.Proofs.Ytfjpdeoldcfhdaa
