/- The least automaton, without the program and in memory: what comes of classes that are numbered as they are come to. -/
import Derived.Test.YticmfgclkepgoaaHCs
import Derived.Test.YticmfgclkepgoaaHBk
import Derived.Test.YticmfgclkepgoaaLClos
import Derived.Test.YticmfgclkepgoaaLOfG
import Derived.Test.YticmfgclkepgoaaLOfL
namespace Go.Proofs.Yticmfgclkepgoaa
open Go.RowKit
set_option linter.unusedVariables false

theorem IsEnd.one {f : Nat → List Nat} {k k' : Nat} (h : IsEnd f k) (h' : IsEnd f k') : k = k' := by
  rcases Nat.lt_trichotomy k k' with c | c | c
  · have := h'.go k c; rw [h.len] at this; omega
  · exact c
  · have := h.go k' c; rw [h'.len] at this; omega

/-- Rows and marks are those of the least automaton. -/
def LeastOf (δ : Nat → Nat → Nat) (m : Nat → Bool) (n l S : Nat) (R : List (List Int)) (M : List Int) : Prop :=
  ∀ κ : Nat → Nat, (∀ p q, p < n → q < n → (κ p = κ q ↔ Ner δ m l p q)) → ∃ k, IsEnd (bfsL κ δ l S) k ∧ R = resR κ δ l (bfsL κ δ l S k) ∧ M = resM m (bfsL κ δ l S k)

theorem LeastOf.eq {δ : Nat → Nat → Nat} {m : Nat → Bool} {n l S : Nat} {R R' : List (List Int)} {M M' : List Int} (h : LeastOf δ m n l S R M) (h' : LeastOf δ m n l S R' M') {κ : Nat → Nat} (hκ : ∀ p q, p < n → q < n → (κ p = κ q ↔ Ner δ m l p q)) : R = R' ∧ M = M' := by
  obtain ⟨k, e, r1, m1⟩ := h κ hκ
  obtain ⟨k', e', r2, m2⟩ := h' κ hκ
  obtain rfl := e.one e'
  exact ⟨r1.trans r2.symm, m1.trans m2.symm⟩

/-- By one numbering's key, by every key. -/
theorem LeastOf.of {δ : Nat → Nat → Nat} {m : Nat → Bool} {n l S k : Nat} {g : Nat → Nat} (hδ : ∀ s a, s < n → a < l → δ s a < n) (hS : S < n) (hg : ∀ p q, p < n → q < n → (g p = g q ↔ Ner δ m l p q)) (e : IsEnd (bfsL g δ l S) k) :
    LeastOf δ m n l S (resR g δ l (bfsL g δ l S k)) (resM m (bfsL g δ l S k)) := by
  intro κ hκ
  have h0 : S < n ∧ S < n ∧ S = S := ⟨hS, hS, rfl⟩
  have hs : ∀ x y a, (x < n ∧ y < n ∧ x = y) → a < l → (δ x a < n ∧ δ y a < n ∧ δ x a = δ y a) := fun x y a h ha => ⟨hδ _ _ h.1 ha, hδ _ _ h.2.1 ha, by rw [h.2.2]⟩
  have hk : ∀ x y x' y', (x < n ∧ y < n ∧ x = y) → (x' < n ∧ y' < n ∧ x' = y') → (g x = g x' ↔ κ y = κ y') := fun x y x' y' h h' => by
    obtain ⟨h1, _, rfl⟩ := h
    obtain ⟨h3, _, rfl⟩ := h'
    rw [hg _ _ h1 h3, hκ _ _ h1 h3]
  have hb := beside_bfs (κ1 := g) (κ2 := κ) (δ1 := δ) (δ2 := δ) (l := l) (ρ := fun x y => x < n ∧ y < n ∧ x = y) h0 hs hk
  have e2 : IsEnd (bfsL κ δ l S) k := ⟨by rw [← (hb k).1]; exact e.len, fun i hi => by rw [← (hb i).1]; exact e.go i hi⟩
  obtain ⟨r1, m1⟩ := beside_res (m1 := m) (m2 := m) (ρ := fun x y => x < n ∧ y < n ∧ x = y) h0 hs hk (fun x y h => by rw [h.2.2]) e e2
  exact ⟨k, e2, r1, m1⟩

section
variable {δ : Nat → Nat → Nat} {m : Nat → Bool} {n l S k0 : Nat}
/-- The states that are come to, as they are numbered. -/
theorem reach_facts (hδ : ∀ s a, s < n → a < l → δ s a < n) (hS : S < n) (e0 : IsEnd (bfsL id δ l S) k0) :
    (∀ i, i < k0 → (bfsL id δ l S k0).getD i 0 < n) ∧ (bfsL id δ l S k0).getD 0 0 = S ∧ 0 < k0 ∧
    ∀ i a, i < k0 → a < l → ix id (bfsL id δ l S k0) (δ ((bfsL id δ l S k0).getD i 0) a) < k0 ∧ (bfsL id δ l S k0).getD (ix id (bfsL id δ l S k0) (δ ((bfsL id δ l S k0).getD i 0) a)) 0 = δ ((bfsL id δ l S k0).getD i 0) a := by
  have hk : 0 < k0 := by
    rcases Nat.eq_zero_or_pos k0 with h | h
    · subst h; have := e0.len; simp [bfsL] at this
    · exact h
  refine ⟨fun i hi => bfsL_lt id hδ hS k0 _ (getD_mem (by rw [e0.len]; exact hi)), ?_, hk, fun i a hi ha => ?_⟩
  · obtain ⟨zs, h1⟩ := bfsL_le id δ l S (Nat.zero_le k0)
    rw [h1]; simp [bfsL]
  · have h1 := bfsL_has (κ := id) (δ := δ) (l := l) (x0 := S) (i := i) (j := k0) (a := a) hi (e0.go i hi) ha
    have h2 := ix_lt h1
    rw [e0.len] at h2
    exact ⟨h2, ix_key h1⟩
end

/-- An automaton's numbers, as states that are come to have them. -/
def reachD (δ : Nat → Nat → Nat) (m : Nat → Bool) (l S k0 : Nat) : Dfa := ⟨l, 0, resR id δ l (bfsL id δ l S k0), resM m (bfsL id δ l S k0)⟩
section
variable {δ : Nat → Nat → Nat} {m : Nat → Bool} {n l S k0 : Nat}
theorem reachD_n (e0 : IsEnd (bfsL id δ l S) k0) : (reachD δ m l S k0).R.length = k0 := by simp [reachD, resR, e0.len]
theorem reachD_row (e0 : IsEnd (bfsL id δ l S) k0) {i : Nat} (hi : i < k0) : (reachD δ m l S k0).R.getD i [] = rowR id δ l (bfsL id δ l S k0) ((bfsL id δ l S k0).getD i 0) := by
  have : i < (bfsL id δ l S k0).length := by rw [e0.len]; exact hi
  simp [reachD, resR, List.getD, this]
theorem reachD_nx (e0 : IsEnd (bfsL id δ l S) k0) {i a : Nat} (hi : i < k0) (ha : a < l) : (reachD δ m l S k0).nx i a = ix id (bfsL id δ l S k0) (δ ((bfsL id δ l S k0).getD i 0) a) := by
  unfold Dfa.nx
  rw [reachD_row e0 hi]
  simp [rowR, List.getD, ha]
theorem reachD_mk (e0 : IsEnd (bfsL id δ l S) k0) {i : Nat} (hi : i < k0) : (reachD δ m l S k0).mk1 i = m ((bfsL id δ l S k0).getD i 0) := by
  have : i < (bfsL id δ l S k0).length := by rw [e0.len]; exact hi
  simp [Dfa.mk1, reachD, resM, List.getD, this]
theorem reachD_good (hl1 : 1 ≤ l) (hl : l ≤ 4) (hn : n ≤ 3000) (hδ : ∀ s a, s < n → a < l → δ s a < n) (hS : S < n) (e0 : IsEnd (bfsL id δ l S) k0) (hk : k0 ≤ n) : Good (reachD δ m l S k0) := by
  obtain ⟨f1, f2, f3, f4⟩ := reach_facts hδ hS e0
  have hR := reachD_n (m := m) e0
  refine ⟨?_, ?_, by omega, by omega, by simp [reachD, resR, resM], fun i hi => ?_, fun i hi a ha => ?_, ?_, fun i hi => ?_⟩
  · show (1 : Int) ≤ (l : Int); omega
  · show (l : Int) ≤ 4; omega
  · rw [hR] at hi
    rw [reachD_row e0 hi]
    simp [rowR, reachD]
  · rw [hR] at hi
    rw [reachD_row e0 hi] at ha ⊢
    have hal : a < l := by simpa [rowR] using ha
    have := (f4 i a hi hal).1
    rw [hR]
    simp [rowR, List.getD, hal]
    simp only [List.getD] at this
    omega
  · rw [hR]; show (0 : Int) ≤ 0 ∧ (0 : Int) < (k0 : Int); omega
  · simp [reachD, resM, List.getD] at hi ⊢
    rw [List.getElem?_eq_getElem (by simpa using hi)]
    simp
/-- What tells numbers apart tells the states apart. -/
theorem reach_ner (hδ : ∀ s a, s < n → a < l → δ s a < n) (hS : S < n) (e0 : IsEnd (bfsL id δ l S) k0) {i j : Nat} (hi : i < k0) (hj : j < k0) :
    Ner (reachD δ m l S k0).nx (reachD δ m l S k0).mk1 l i j ↔ Ner δ m l ((bfsL id δ l S k0).getD i 0) ((bfsL id δ l S k0).getD j 0) := by
  obtain ⟨f1, f2, f3, f4⟩ := reach_facts hδ hS e0
  have key : ∀ (z : List Nat) (i : Nat), i < k0 → (∀ a, a ∈ z → a < l) → z.foldl (reachD δ m l S k0).nx i < k0 ∧ (bfsL id δ l S k0).getD (z.foldl (reachD δ m l S k0).nx i) 0 = z.foldl δ ((bfsL id δ l S k0).getD i 0) := by
    intro z
    induction z with
    | nil => intro i hi _; exact ⟨hi, rfl⟩
    | cons a z ih =>
      intro i hi hz
      have ha := hz a (by simp)
      have h1 := f4 i a hi ha
      have h2 := reachD_nx (m := m) e0 hi ha
      simp only [List.foldl_cons]
      rw [h2]
      have h3 := ih _ h1.1 (fun b hb => hz b (by simp [hb]))
      rw [h1.2] at h3
      exact h3
  constructor
  · intro h z hz
    have h1 := h z hz
    obtain ⟨a1, a2⟩ := key z i hi hz
    obtain ⟨b1, b2⟩ := key z j hj hz
    rw [reachD_mk e0 a1, reachD_mk e0 b1, a2, b2] at h1
    exact h1
  · intro h z hz
    have h1 := h z hz
    obtain ⟨a1, a2⟩ := key z i hi hz
    obtain ⟨b1, b2⟩ := key z j hj hz
    rw [reachD_mk e0 a1, reachD_mk e0 b1, a2, b2]
    exact h1

/-- The least one, out of classes of the states that are come to. -/
theorem least_of_classes (hδ : ∀ s a, s < n → a < l → δ s a < n) (hS : S < n) (e0 : IsEnd (bfsL id δ l S) k0) {K k1 : Nat} {cls one : Nat → Nat}
    (hc : ∀ s t, s < k0 → t < k0 → (cls s = cls t ↔ Ner (reachD δ m l S k0).nx (reachD δ m l S k0).mk1 l s t)) (hK : ∀ s, s < k0 → cls s < K) (ho : ∀ j, j < K → one j < k0 ∧ cls (one j) = j)
    (e1 : IsEnd (bfsL id (fun c a => cls ((reachD δ m l S k0).nx (one c) a)) l (cls 0)) k1) :
    LeastOf δ m n l S (resR id (fun c a => cls ((reachD δ m l S k0).nx (one c) a)) l (bfsL id (fun c a => cls ((reachD δ m l S k0).nx (one c) a)) l (cls 0) k1)) (resM (fun c => (reachD δ m l S k0).mk1 (one c)) (bfsL id (fun c a => cls ((reachD δ m l S k0).nx (one c) a)) l (cls 0) k1)) := by
  obtain ⟨f1, f2, f3, f4⟩ := reach_facts hδ hS e0
  intro κ hκ
  have ner : ∀ {i j}, i < k0 → j < k0 → (cls i = cls j ↔ Ner δ m l ((bfsL id δ l S k0).getD i 0) ((bfsL id δ l S k0).getD j 0)) := fun hi hj => (hc _ _ hi hj).trans (reach_ner hδ hS e0 hi hj)
  have hst : ∀ t, t < k0 → Ner δ m l ((bfsL id δ l S k0).getD (one (cls t)) 0) ((bfsL id δ l S k0).getD t 0) := fun t ht => by
    have h1 := ho _ (hK t ht)
    exact (ner h1.1 ht).1 h1.2
  have h0 : cls 0 < K ∧ S < n ∧ Ner δ m l ((bfsL id δ l S k0).getD (one (cls 0)) 0) S := ⟨hK 0 f3, hS, by have := hst 0 f3; rwa [f2] at this⟩
  have hnx : ∀ c a, c < K → a < l → (reachD δ m l S k0).nx (one c) a < k0 ∧ (bfsL id δ l S k0).getD ((reachD δ m l S k0).nx (one c) a) 0 = δ ((bfsL id δ l S k0).getD (one c) 0) a := fun c a hcK ha => by
    rw [reachD_nx e0 (ho c hcK).1 ha]
    exact f4 _ _ (ho c hcK).1 ha
  have hs : ∀ c q a, (c < K ∧ q < n ∧ Ner δ m l ((bfsL id δ l S k0).getD (one c) 0) q) → a < l → (cls ((reachD δ m l S k0).nx (one c) a) < K ∧ δ q a < n ∧ Ner δ m l ((bfsL id δ l S k0).getD (one (cls ((reachD δ m l S k0).nx (one c) a))) 0) (δ q a)) := fun c q a h ha => by
    obtain ⟨h1, h2⟩ := hnx c a h.1 ha
    refine ⟨hK _ h1, hδ _ _ h.2.1 ha, (hst _ h1).trans ?_⟩
    rw [h2]
    exact h.2.2.step ha
  have hk : ∀ c q c' q', (c < K ∧ q < n ∧ Ner δ m l ((bfsL id δ l S k0).getD (one c) 0) q) → (c' < K ∧ q' < n ∧ Ner δ m l ((bfsL id δ l S k0).getD (one c') 0) q') → (id c = id c' ↔ κ q = κ q') := fun c q c' q' h h' => by
    rw [hκ _ _ h.2.1 h'.2.1]
    constructor
    · intro e
      have e' : c = c' := e
      subst e'
      exact h.2.2.symm.trans h'.2.2
    · intro e
      have h1 := (ner (ho c h.1).1 (ho c' h'.1).1).2 ((h.2.2.trans e).trans h'.2.2.symm)
      rw [(ho c h.1).2, (ho c' h'.1).2] at h1
      exact h1
  have hb := beside_bfs (κ1 := id) (κ2 := κ) (δ1 := fun c a => cls ((reachD δ m l S k0).nx (one c) a)) (δ2 := δ) (l := l) (ρ := fun c q => c < K ∧ q < n ∧ Ner δ m l ((bfsL id δ l S k0).getD (one c) 0) q) h0 hs hk
  have e2 : IsEnd (bfsL κ δ l S) k1 := ⟨by rw [← (hb k1).1]; exact e1.len, fun i hi => by rw [← (hb i).1]; exact e1.go i hi⟩
  obtain ⟨r1, m1⟩ := beside_res (m1 := fun c => (reachD δ m l S k0).mk1 (one c)) (m2 := m) (ρ := fun c q => c < K ∧ q < n ∧ Ner δ m l ((bfsL id δ l S k0).getD (one c) 0) q) h0 hs hk (fun c q h => by
    rw [reachD_mk e0 (ho c h.1).1]
    exact h.2.2.mark) e1 e2
  exact ⟨k1, e2, r1, m1⟩
end

/-- Rows and marks that are one's own are an automaton's. -/
theorem det_of_owns {B : Nat} {w : World} {L S : Int} {aR aM : Option Addr} {cR cM nR nM : Nat} {rs : List (Value × List Int)} {M : List Int} {its : List Item} (h : Owns B w ((23, .slice aR nR cR, rs.map (·.1)) :: (3, .slice aM nM cM, vals M) :: (rowItems rs ++ its))) (hm : ∀ x, x ∈ rs → x.2.length ≤ maxLen) (hR : rs.length ≤ maxLen) (hM : M.length ≤ maxLen) :
    DetAt w ⟨L, S, rs.map (·.2), M⟩ aR aM := by
  refine ⟨?_, ((at_2 h).ints).2, by simpa using hR, hM⟩
  by_cases h0 : rs = []
  · left; simp [h0]
  · right
    have hl : 0 < rs.length := List.length_pos_iff.2 h0
    obtain ⟨g, rfl⟩ := h.formM List.mem_cons_self (by simpa using hl)
    refine ⟨g, 0, rfl, fun i hi => ?_⟩
    have hi' : i < rs.length := by simpa using hi
    have e1 : (rs.map (·.2)).getD i [] = rs[i].2 := by simp [List.getD, hi']
    have m1 : (3, rs[i].1, vals rs[i].2) ∈ ((23, Value.slice (some ⟨g, 0, none⟩) nR cR, rs.map (·.1)) :: (3, .slice aM nM cM, vals M) :: (rowItems rs ++ its) : List Item) :=
      List.mem_cons_of_mem _ (List.mem_cons_of_mem _ (List.mem_append_left _ (List.mem_map.2 ⟨rs[i], List.getElem_mem _, rfl⟩)))
    obtain ⟨o1, ax, cx, hv⟩ := h.1 _ m1
    simp only [vals_len] at hv o1
    rw [e1]
    refine ⟨ax, cx, ?_, ?_, hm _ (List.getElem_mem _)⟩
    · rw [Nat.zero_add]
      refine h.cell ?_
      rw [List.getElem?_map, List.getElem?_eq_getElem hi', ← hv]; rfl
    · rw [hv] at m1
      have h2 : Owns B w [(3, .slice ax rs[i].2.length cx, vals rs[i].2)] := ⟨fun it hm2 => by simp at hm2; subst hm2; exact h.1 _ m1, List.pairwise_singleton _ _⟩
      exact h2.ints.2

def LeastPost (δ : Nat → Nat → Nat) (m : Nat → Bool) (n l S : Nat) (w : World) (E : Ending) (w' : World) : Prop :=
  ∃ (aR : Option Addr) (cR : Nat) (aM : Option Addr) (cM : Nat) (rs : List (Value × List Int)) (M : List Int), E = .returned (.agg #[.int .i64 l, .int .i64 0, .slice aR rs.length cR, .slice aM M.length cM]) ∧ LeastOf δ m n l S (rs.map (·.2)) M ∧ rs.length ≤ n ∧ M.length = rs.length ∧ (∀ x, x ∈ rs → x.2.length = l) ∧
    Owns w.heap.size w' ((23, .slice aR rs.length cR, rs.map (·.1)) :: (3, .slice aM M.length cM, vals M) :: rowItems rs) ∧ w.grownBy w' none

end Go.Proofs.Yticmfgclkepgoaa
