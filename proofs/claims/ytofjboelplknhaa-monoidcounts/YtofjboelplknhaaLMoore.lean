/- Classes of states, without the program: how they are parted round by round until nothing parts them any more (Moore). -/
import Derived.Test.YtofjboelplknhaaLBfs
namespace Go.Proofs.Ytofjboelplknhaa
set_option linter.unusedVariables false

/-- No word tells two states apart. -/
def Ner (δ : Nat → Nat → Nat) (m : Nat → Bool) (l p q : Nat) : Prop := ∀ z : List Nat, (∀ a, a ∈ z → a < l) → m (z.foldl δ p) = m (z.foldl δ q)
theorem Ner.mark {δ : Nat → Nat → Nat} {m : Nat → Bool} {l p q : Nat} (h : Ner δ m l p q) : m p = m q := h [] (by simp)
theorem Ner.step {δ : Nat → Nat → Nat} {m : Nat → Bool} {l p q a : Nat} (h : Ner δ m l p q) (ha : a < l) : Ner δ m l (δ p a) (δ q a) := fun z hz => h (a :: z) (fun b hb => by
  rcases List.mem_cons.1 hb with rfl | hb
  · exact ha
  · exact hz b hb)
theorem Ner.refl (δ : Nat → Nat → Nat) (m : Nat → Bool) (l p : Nat) : Ner δ m l p p := fun _ _ => rfl
theorem Ner.symm {δ : Nat → Nat → Nat} {m : Nat → Bool} {l p q : Nat} (h : Ner δ m l p q) : Ner δ m l q p := fun z hz => (h z hz).symm
theorem Ner.trans {δ : Nat → Nat → Nat} {m : Nat → Bool} {l p q r : Nat} (h : Ner δ m l p q) (k : Ner δ m l q r) : Ner δ m l p r := fun z hz => (h z hz).trans (k z hz)
/-- What keeps the marks and is kept by letters is told apart by no word. -/
theorem ner_of_stable {δ : Nat → Nat → Nat} {m : Nat → Bool} {n l : Nat} {f : Nat → Nat} (hδ : ∀ s a, s < n → a < l → δ s a < n) (hm : ∀ p q, p < n → q < n → f p = f q → m p = m q) (hs : ∀ p q a, p < n → q < n → a < l → f p = f q → f (δ p a) = f (δ q a)) :
    ∀ p q, p < n → q < n → f p = f q → Ner δ m l p q := by
  intro p q hp hq e z
  induction z generalizing p q with
  | nil => intro _; exact hm p q hp hq e
  | cons a z ih =>
    intro hz
    have ha := hz a (by simp)
    exact ih (δ p a) (δ q a) (hδ _ _ hp ha) (hδ _ _ hq ha) (hs p q a hp hq ha e) (fun b hb => hz b (by simp [hb]))

/-- Two states have one class, and so have those that letters lead to. -/
def eqF (f : Nat → Nat) (δ : Nat → Nat → Nat) (l p q : Nat) : Bool := decide (f p = f q) && (List.range l).all fun a => decide (f (δ p a) = f (δ q a))
theorem eqF_iff (f : Nat → Nat) (δ : Nat → Nat → Nat) (l p q : Nat) : eqF f δ l p q = true ↔ f p = f q ∧ ∀ a, a < l → f (δ p a) = f (δ q a) := by simp [eqF]
theorem eqF_refl (f : Nat → Nat) (δ : Nat → Nat → Nat) (l p : Nat) : eqF f δ l p p = true := by simp [eqF]
theorem eqF_symm {f : Nat → Nat} {δ : Nat → Nat → Nat} {l p q : Nat} (h : eqF f δ l p q = true) : eqF f δ l q p = true := by
  rw [eqF_iff] at h ⊢; exact ⟨h.1.symm, fun a ha => (h.2 a ha).symm⟩
theorem eqF_trans {f : Nat → Nat} {δ : Nat → Nat → Nat} {l p q r : Nat} (h : eqF f δ l p q = true) (k : eqF f δ l q r = true) : eqF f δ l p r = true := by
  rw [eqF_iff] at h k ⊢; exact ⟨h.1.trans k.1, fun a ha => (h.2 a ha).trans (k.2 a ha)⟩

def ixE (e : Nat → Nat → Bool) : List Nat → Nat → Nat
  | [], _ => 0
  | r :: rs, q => if e r q = true then 0 else ixE e rs q + 1
def anyE (e : Nat → Nat → Bool) (xs : List Nat) (q : Nat) : Prop := ∃ r, r ∈ xs ∧ e r q = true
theorem ixE_lt {e : Nat → Nat → Bool} {xs : List Nat} {q : Nat} (h : anyE e xs q) : ixE e xs q < xs.length := by
  obtain ⟨r, hr, he⟩ := h
  induction xs with
  | nil => simp at hr
  | cons x xs ih =>
    simp only [ixE]
    split
    · simp
    · next hne =>
      rcases List.mem_cons.1 hr with rfl | hr
      · exact absurd he hne
      · have := ih hr; simp; omega
theorem ixE_rel {e : Nat → Nat → Bool} {xs : List Nat} {q : Nat} (h : anyE e xs q) : e (xs.getD (ixE e xs q) 0) q = true := by
  obtain ⟨r, hr, he⟩ := h
  induction xs with
  | nil => simp at hr
  | cons x xs ih =>
    simp only [ixE]
    split
    · next h => simpa using h
    · next hne =>
      rcases List.mem_cons.1 hr with rfl | hr
      · exact absurd he hne
      · simpa using ih hr
/-- Where it stands first: by what stands ahead. -/
theorem ixE_eq {e : Nat → Nat → Bool} {xs : List Nat} {q k : Nat} (hk : k ≤ xs.length) (h : ∀ j, j < k → e (xs.getD j 0) q = false) (h2 : k < xs.length → e (xs.getD k 0) q = true) : ixE e xs q = k := by
  induction xs generalizing k with
  | nil => simp at hk; subst hk; rfl
  | cons x xs ih =>
    cases k with
    | zero => have := h2 (by simp); simp only [ixE]; rw [if_pos (by simpa using this)]
    | succ k =>
      have h0 := h 0 (by omega)
      simp only [ixE]
      rw [if_neg (by simpa using h0), ih (by simpa using hk) (fun j hj => by simpa using h (j + 1) (by omega)) (fun hl => by simpa using h2 (by simp; omega))]
theorem ixE_append {e : Nat → Nat → Bool} {xs : List Nat} {q : Nat} (h : anyE e xs q) (ys : List Nat) : ixE e (xs ++ ys) q = ixE e xs q := by
  obtain ⟨r, hr, he⟩ := h
  induction xs with
  | nil => simp at hr
  | cons x xs ih =>
    simp only [ixE, List.cons_append]
    split
    · rfl
    · next hne =>
      rcases List.mem_cons.1 hr with rfl | hr
      · exact absurd he hne
      · rw [ih hr]

/-- The first ones of each class, of the states ahead of q. -/
def fsE (e : Nat → Nat → Bool) : Nat → List Nat
  | 0 => []
  | q + 1 => if (fsE e q).any (fun r => e r q) = true then fsE e q else fsE e q ++ [q]
theorem fsE_any {e : Nat → Nat → Bool} {q : Nat} : (fsE e q).any (fun r => e r q) = true ↔ anyE e (fsE e q) q := by simp [anyE]
theorem fsE_old {e : Nat → Nat → Bool} {q : Nat} (h : anyE e (fsE e q) q) : fsE e (q + 1) = fsE e q := by simp only [fsE]; rw [if_pos (fsE_any.2 h)]
theorem fsE_new {e : Nat → Nat → Bool} {q : Nat} (h : ¬ anyE e (fsE e q) q) : fsE e (q + 1) = fsE e q ++ [q] := by simp only [fsE]; rw [if_neg (fun c => h (fsE_any.1 c))]
theorem fsE_le (e : Nat → Nat → Bool) {i j : Nat} (h : i ≤ j) : ∃ zs, fsE e j = fsE e i ++ zs := by
  induction j with
  | zero => have : i = 0 := by omega
            subst this; exact ⟨[], by simp⟩
  | succ j ih =>
    by_cases c : i = j + 1
    · subst c; exact ⟨[], by simp⟩
    · obtain ⟨zs, h1⟩ := ih (by omega)
      by_cases hc : anyE e (fsE e j) j
      · exact ⟨zs, by rw [fsE_old hc, h1]⟩
      · exact ⟨zs ++ [j], by rw [fsE_new hc, h1, List.append_assoc]⟩
theorem fsE_lt (e : Nat → Nat → Bool) (q : Nat) : ∀ r, r ∈ fsE e q → r < q := by
  induction q with
  | zero => intro r hr; simp [fsE] at hr
  | succ q ih =>
    intro r hr
    by_cases hc : anyE e (fsE e q) q
    · rw [fsE_old hc] at hr; have := ih r hr; omega
    · rw [fsE_new hc] at hr
      rcases List.mem_append.1 hr with h | h
      · have := ih r h; omega
      · simp at h; omega
theorem fsE_len (e : Nat → Nat → Bool) (q : Nat) : (fsE e q).length ≤ q := by
  induction q with
  | zero => simp [fsE]
  | succ q ih =>
    by_cases hc : anyE e (fsE e q) q
    · rw [fsE_old hc]; omega
    · rw [fsE_new hc]; simp; exact ih
section
variable {e : Nat → Nat → Bool}
theorem fsE_has (hr : ∀ p, e p p = true) {q N : Nat} (h : q < N) : anyE e (fsE e N) q := by
  obtain ⟨zs, h1⟩ := fsE_le e (show q + 1 ≤ N by omega)
  have h2 : anyE e (fsE e (q + 1)) q := by
    by_cases hc : anyE e (fsE e q) q
    · rw [fsE_old hc]; exact hc
    · rw [fsE_new hc]; exact ⟨q, by simp, hr q⟩
  obtain ⟨r, h3, h4⟩ := h2
  exact ⟨r, by rw [h1]; simp [h3], h4⟩
/-- No two of the first ones are in one class. -/
theorem fsE_apart (hs : ∀ p q, e p q = true → e q p = true) (ht : ∀ p q r, e p q = true → e q r = true → e p r = true) (N : Nat) : ∀ i j, i < j → j < (fsE e N).length → e ((fsE e N).getD i 0) ((fsE e N).getD j 0) = false := by
  induction N with
  | zero => intro i j _ hj; simp [fsE] at hj
  | succ N ih =>
    intro i j hij hj
    by_cases hc : anyE e (fsE e N) N
    · rw [fsE_old hc] at hj ⊢; exact ih i j hij hj
    · rw [fsE_new hc] at hj ⊢
      by_cases hjl : j < (fsE e N).length
      · rw [getD_app _ hjl, getD_app _ (by omega)]; exact ih i j hij hjl
      · have hje : j = (fsE e N).length := by simp at hj; omega
        subst hje
        have e1 : (fsE e N ++ [N]).getD (fsE e N).length 0 = N := by simp [List.getD]
        rw [e1, getD_app _ hij]
        cases hb : e ((fsE e N).getD i 0) N with
        | false => rfl
        | true => exact absurd ⟨_, getD_mem hij, hb⟩ hc
/-- The class of a state. -/
def clE (e : Nat → Nat → Bool) (N q : Nat) : Nat := ixE e (fsE e N) q
theorem clE_lt (hr : ∀ p, e p p = true) {N q : Nat} (h : q < N) : clE e N q < (fsE e N).length := ixE_lt (fsE_has hr h)
theorem clE_iff (hr : ∀ p, e p p = true) (hs : ∀ p q, e p q = true → e q p = true) (ht : ∀ p q r, e p q = true → e q r = true → e p r = true) {N p q : Nat} (hp : p < N) (hq : q < N) : clE e N p = clE e N q ↔ e p q = true := by
  have a1 := ixE_rel (fsE_has hr hp)
  have a2 := ixE_rel (fsE_has hr hq)
  have l1 := ixE_lt (fsE_has hr hp)
  have l2 := ixE_lt (fsE_has hr hq)
  constructor
  · intro h
    unfold clE at h
    rw [h] at a1
    exact ht _ _ _ (hs _ _ a1) a2
  · intro h
    have a3 : e ((fsE e N).getD (ixE e (fsE e N) p) 0) ((fsE e N).getD (ixE e (fsE e N) q) 0) = true := ht _ _ _ (ht _ _ _ a1 h) (hs _ _ a2)
    unfold clE
    rcases Nat.lt_trichotomy (ixE e (fsE e N) p) (ixE e (fsE e N) q) with c | c | c
    · have := fsE_apart hs ht N _ _ c l2; rw [this] at a3; cases a3
    · exact c
    · have := fsE_apart hs ht N _ _ c l1; rw [hs _ _ a3] at this; cases this
theorem clE_onto (hr : ∀ p, e p p = true) (hs : ∀ p q, e p q = true → e q p = true) (ht : ∀ p q r, e p q = true → e q r = true → e p r = true) {N c : Nat} (h : c < (fsE e N).length) : ∃ s, s < N ∧ clE e N s = c := by
  refine ⟨(fsE e N).getD c 0, fsE_lt e N _ (getD_mem h), ?_⟩
  refine ixE_eq (by omega) (fun j hj => fsE_apart hs ht N j c hj h) (fun _ => hr _)
theorem clE_at (hr : ∀ p, e p p = true) {N q : Nat} (h : q < N) : ixE e (fsE e (q + 1)) q = clE e N q := by
  obtain ⟨zs, h1⟩ := fsE_le e (show q + 1 ≤ N by omega)
  unfold clE
  rw [h1, ixE_append (fsE_has hr (by omega))]
end

/-- A list in which all numbers below m stand has m of them, or more. -/
theorem cover_len (m : Nat) : ∀ xs : List Nat, (∀ c, c < m → c ∈ xs) → m ≤ xs.length := by
  induction m with
  | zero => intro xs _; omega
  | succ m ih =>
    intro xs h
    have hm := h m (by omega)
    have h1 := ih (xs.erase m) (fun c hc => (List.mem_erase_of_ne (by omega)).2 (h c (by omega)))
    have h2 := List.length_erase_of_mem hm
    have h3 : 0 < xs.length := List.length_pos_of_mem hm
    omega
/-- .. and if it has just m, no two are the same. -/
theorem cover_inj {m : Nat} {xs : List Nat} (h : ∀ c, c < m → c ∈ xs) (hl : xs.length = m) {i j : Nat} (hij : i < j) (hj : j < xs.length) : xs.getD i 0 ≠ xs.getD j 0 := by
  intro hc
  have h1 := cover_len m (xs.eraseIdx j) (fun c hcm => by
    obtain ⟨k, hk, rfl⟩ := List.getElem_of_mem (h c hcm)
    rw [List.mem_eraseIdx_iff_getElem]
    by_cases hkj : k = j
    · subst hkj
      refine ⟨i, by omega, by omega, ?_⟩
      simpa [List.getD, hk, show i < xs.length by omega] using hc
    · exact ⟨k, hk, hkj, rfl⟩)
  rw [List.length_eraseIdx_of_lt hj] at h1
  omega

/-- What holds of classes at a round's head. -/
structure Moore (δ : Nat → Nat → Nat) (m : Nat → Bool) (n l : Nat) (f : Nat → Nat) (cnt : Nat) : Prop where
  keeps : ∀ p q, p < n → q < n → f p = f q → m p = m q
  coarse : ∀ p q, p < n → q < n → Ner δ m l p q → f p = f q
  onto : cnt = 0 ∨ ((∀ s, s < n → f s < cnt) ∧ ∀ c, c < cnt → ∃ s, s < n ∧ f s = c)
section
variable {δ : Nat → Nat → Nat} {m : Nat → Bool} {n l : Nat} {f : Nat → Nat} {cnt : Nat}
theorem moore_eq (δ : Nat → Nat → Nat) (l : Nat) (f : Nat → Nat) : (∀ p, eqF f δ l p p = true) ∧ (∀ p q, eqF f δ l p q = true → eqF f δ l q p = true) ∧ (∀ p q r, eqF f δ l p q = true → eqF f δ l q r = true → eqF f δ l p r = true) :=
  ⟨eqF_refl f δ l, fun _ _ => eqF_symm, fun _ _ _ => eqF_trans⟩
theorem Moore.start (δ : Nat → Nat → Nat) (m : Nat → Bool) (n l : Nat) : Moore δ m n l (fun s => if m s = true then 1 else 0) 0 := by
  refine ⟨fun p q _ _ h => ?_, fun p q _ _ h => by show (if m p = true then 1 else 0) = (if m q = true then 1 else 0); rw [h.mark], .inl rfl⟩
  cases h1 : m p <;> cases h2 : m q <;> simp [h1, h2] at h ⊢
/-- A round more. -/
theorem Moore.next (h : Moore δ m n l f cnt) (hδ : ∀ s a, s < n → a < l → δ s a < n) : Moore δ m n l (clE (eqF f δ l) n) (fsE (eqF f δ l) n).length := by
  obtain ⟨hr, hs, ht⟩ := moore_eq δ l f
  refine ⟨fun p q hp hq e => ?_, fun p q hp hq e => ?_, .inr ⟨fun s hs2 => clE_lt hr hs2, fun c hc => clE_onto hr hs ht hc⟩⟩
  · exact h.keeps p q hp hq ((eqF_iff f δ l p q).1 ((clE_iff hr hs ht hp hq).1 e)).1
  · exact (clE_iff hr hs ht hp hq).2 ((eqF_iff f δ l p q).2 ⟨h.coarse p q hp hq e, fun a ha => h.coarse _ _ (hδ _ _ hp ha) (hδ _ _ hq ha) (e.step ha)⟩)
theorem Moore.cover (h : Moore δ m n l f cnt) : ∀ c, c < cnt → c ∈ (fsE (eqF f δ l) n).map f := by
  obtain ⟨hr, hs, ht⟩ := moore_eq δ l f
  intro c hc
  rcases h.onto with h0 | ⟨_, h1⟩
  · omega
  · obtain ⟨s, hs1, rfl⟩ := h1 c hc
    have h2 := ixE_rel (fsE_has hr hs1)
    exact List.mem_map.2 ⟨_, getD_mem (ixE_lt (fsE_has hr hs1)), ((eqF_iff f δ l _ _).1 h2).1⟩
theorem Moore.grows (h : Moore δ m n l f cnt) : cnt ≤ (fsE (eqF f δ l) n).length := by
  have := cover_len cnt _ h.cover
  simpa using this
/-- Nothing has been parted: then no word tells apart what is in one class. -/
theorem Moore.end (h : Moore δ m n l f cnt) (hδ : ∀ s a, s < n → a < l → δ s a < n) (hn : 0 < n) (he : (fsE (eqF f δ l) n).length = cnt) {p q : Nat} (hp : p < n) (hq : q < n) : clE (eqF f δ l) n p = clE (eqF f δ l) n q ↔ Ner δ m l p q := by
  obtain ⟨hr, hs, ht⟩ := moore_eq δ l f
  have hstab : ∀ p q, p < n → q < n → f p = f q → eqF f δ l p q = true := by
    intro p q hp hq hf
    cases hb : eqF f δ l p q with
    | true => rfl
    | false =>
      have l1 := ixE_lt (fsE_has hr hp)
      have l2 := ixE_lt (fsE_has hr hq)
      have r1 := (eqF_iff f δ l _ _).1 (ixE_rel (fsE_has hr hp))
      have r2 := (eqF_iff f δ l _ _).1 (ixE_rel (fsE_has hr hq))
      have hne : ixE (eqF f δ l) (fsE (eqF f δ l) n) p ≠ ixE (eqF f δ l) (fsE (eqF f δ l) n) q := fun e => by
        have := (clE_iff hr hs ht hp hq).1 e
        rw [hb] at this; cases this
      have gm : ∀ i, i < (fsE (eqF f δ l) n).length → ((fsE (eqF f δ l) n).map f).getD i 0 = f ((fsE (eqF f δ l) n).getD i 0) := fun i hi => by simp [List.getD, hi]
      rcases Nat.lt_or_gt_of_ne hne with c | c
      · exact absurd (by rw [gm _ l1, gm _ l2, r1.1, r2.1, hf]) (cover_inj h.cover (by simpa using he) c (by simpa using l2))
      · exact absurd (by rw [gm _ l1, gm _ l2, r1.1, r2.1, hf]) (cover_inj h.cover (by simpa using he) c (by simpa using l1))
  constructor
  · intro e
    have e1 := ((eqF_iff f δ l p q).1 ((clE_iff hr hs ht hp hq).1 e)).1
    exact ner_of_stable hδ h.keeps (fun p q a hp hq ha e => ((eqF_iff f δ l p q).1 (hstab p q hp hq e)).2 a ha) p q hp hq e1
  · exact fun e => (h.next hδ).coarse p q hp hq e
end

end Go.Proofs.Ytofjboelplknhaa
