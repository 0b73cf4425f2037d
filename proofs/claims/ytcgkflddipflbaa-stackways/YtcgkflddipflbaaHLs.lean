/- The least automaton, without the program and in memory: what comes of classes that are numbered as they are come to. -/
/- det.least: the least automaton. -/
import Derived.Test.YtcgkflddipflbaaHCs
import Derived.Test.YtcgkflddipflbaaHBk
import Derived.Test.YtcgkflddipflbaaLClos
import Derived.Test.YtcgkflddipflbaaLOg
import Derived.Deep.RegionHeld3
import Derived.Deep.CutRange
import Derived.Deep.DeepCutAuto
namespace Go.Proofs.Ytcgkflddipflbaa
open Go.RowKit
set_option linter.unusedVariables false

theorem IsEnd.one {f : Nat → List Nat} {k k' : Nat} (h : IsEnd f k) (h' : IsEnd f k') : k = k' := by
  rcases Nat.lt_trichotomy k k' with c | c | c
  · have := h'.go k c; rw [h.len] at this; omega
  · exact c
  · have := h.go k' c; rw [h'.len] at this; omega

/-- Rows and marks are those of the least automaton. -/
def LeastOf (δ : Nat → Nat → Nat) (m : Nat → Bool) (n l S : Nat) (R : List (List Int)) (M : List Int) : Prop :=
  ∀ κ : Nat → Nat, (∀ p q, p < n → q < n → (κ p = κ q ↔ Ner δ m l p q)) → ∃ k, IsEnd (bfsL κ δ l S) k ∧ R = resR κ δ l (bfsL κ δ l S k) ∧ M = resM m (bfsL κ δ l S k)

theorem LeastOf.eq {δ : Nat → Nat → Nat} {m : Nat → Bool} {n l S : Nat} {R R' : List (List Int)} {M M' : List Int} (h : LeastOf δ m n l S R M) (h' : LeastOf δ m n l S R' M') {κ : Nat → Nat} (hκ : ∀ p q, p < n → q < n → (κ p = κ q ↔ Ner δ m l p q)) : R = R' ∧ M = M' := by
  obtain ⟨k, e, r1, m1⟩ := h κ hκ
  obtain ⟨k', e', r2, m2⟩ := h' κ hκ
  obtain rfl := e.one e'
  exact ⟨r1.trans r2.symm, m1.trans m2.symm⟩

/-- By one numbering's key, by every key. -/
theorem LeastOf.of {δ : Nat → Nat → Nat} {m : Nat → Bool} {n l S k : Nat} {g : Nat → Nat} (hδ : ∀ s a, s < n → a < l → δ s a < n) (hS : S < n) (hg : ∀ p q, p < n → q < n → (g p = g q ↔ Ner δ m l p q)) (e : IsEnd (bfsL g δ l S) k) :
    LeastOf δ m n l S (resR g δ l (bfsL g δ l S k)) (resM m (bfsL g δ l S k)) := by
  intro κ hκ
  have h0 : S < n ∧ S < n ∧ S = S := ⟨hS, hS, rfl⟩
  have hs : ∀ x y a, (x < n ∧ y < n ∧ x = y) → a < l → (δ x a < n ∧ δ y a < n ∧ δ x a = δ y a) := fun x y a h ha => ⟨hδ _ _ h.1 ha, hδ _ _ h.2.1 ha, by rw [h.2.2]⟩
  have hk : ∀ x y x' y', (x < n ∧ y < n ∧ x = y) → (x' < n ∧ y' < n ∧ x' = y') → (g x = g x' ↔ κ y = κ y') := fun x y x' y' h h' => by
    obtain ⟨h1, _, rfl⟩ := h
    obtain ⟨h3, _, rfl⟩ := h'
    rw [hg _ _ h1 h3, hκ _ _ h1 h3]
  have hb := beside_bfs (κ1 := g) (κ2 := κ) (δ1 := δ) (δ2 := δ) (l := l) (ρ := fun x y => x < n ∧ y < n ∧ x = y) h0 hs hk
  have e2 : IsEnd (bfsL κ δ l S) k := ⟨by rw [← (hb k).1]; exact e.len, fun i hi => by rw [← (hb i).1]; exact e.go i hi⟩
  obtain ⟨r1, m1⟩ := beside_res (m1 := m) (m2 := m) (ρ := fun x y => x < n ∧ y < n ∧ x = y) h0 hs hk (fun x y h => by rw [h.2.2]) e e2
  exact ⟨k, e2, r1, m1⟩

section
variable {δ : Nat → Nat → Nat} {m : Nat → Bool} {n l S k0 : Nat}
/-- The states that are come to, as they are numbered. -/
theorem reach_facts (hδ : ∀ s a, s < n → a < l → δ s a < n) (hS : S < n) (e0 : IsEnd (bfsL id δ l S) k0) :
    (∀ i, i < k0 → (bfsL id δ l S k0).getD i 0 < n) ∧ (bfsL id δ l S k0).getD 0 0 = S ∧ 0 < k0 ∧
    ∀ i a, i < k0 → a < l → ix id (bfsL id δ l S k0) (δ ((bfsL id δ l S k0).getD i 0) a) < k0 ∧ (bfsL id δ l S k0).getD (ix id (bfsL id δ l S k0) (δ ((bfsL id δ l S k0).getD i 0) a)) 0 = δ ((bfsL id δ l S k0).getD i 0) a := by
  have hk : 0 < k0 := by
    rcases Nat.eq_zero_or_pos k0 with h | h
    · subst h; have := e0.len; simp [bfsL] at this
    · exact h
  refine ⟨fun i hi => bfsL_lt id hδ hS k0 _ (getD_mem (by rw [e0.len]; exact hi)), ?_, hk, fun i a hi ha => ?_⟩
  · obtain ⟨zs, h1⟩ := bfsL_le id δ l S (Nat.zero_le k0)
    rw [h1]; simp [bfsL]
  · have h1 := bfsL_has (κ := id) (δ := δ) (l := l) (x0 := S) (i := i) (j := k0) (a := a) hi (e0.go i hi) ha
    have h2 := ix_lt h1
    rw [e0.len] at h2
    exact ⟨h2, ix_key h1⟩
end

/-- An automaton's numbers, as states that are come to have them. -/
def reachD (δ : Nat → Nat → Nat) (m : Nat → Bool) (l S k0 : Nat) : Dfa := ⟨l, 0, resR id δ l (bfsL id δ l S k0), resM m (bfsL id δ l S k0)⟩
section
variable {δ : Nat → Nat → Nat} {m : Nat → Bool} {n l S k0 : Nat}
theorem reachD_n (e0 : IsEnd (bfsL id δ l S) k0) : (reachD δ m l S k0).R.length = k0 := by simp [reachD, resR, e0.len]
theorem reachD_row (e0 : IsEnd (bfsL id δ l S) k0) {i : Nat} (hi : i < k0) : (reachD δ m l S k0).R.getD i [] = rowR id δ l (bfsL id δ l S k0) ((bfsL id δ l S k0).getD i 0) := by
  have : i < (bfsL id δ l S k0).length := by rw [e0.len]; exact hi
  simp [reachD, resR, List.getD, this]
theorem reachD_nx (e0 : IsEnd (bfsL id δ l S) k0) {i a : Nat} (hi : i < k0) (ha : a < l) : (reachD δ m l S k0).nx i a = ix id (bfsL id δ l S k0) (δ ((bfsL id δ l S k0).getD i 0) a) := by
  unfold Dfa.nx
  rw [reachD_row e0 hi]
  simp [rowR, List.getD, ha]
theorem reachD_mk (e0 : IsEnd (bfsL id δ l S) k0) {i : Nat} (hi : i < k0) : (reachD δ m l S k0).mk1 i = m ((bfsL id δ l S k0).getD i 0) := by
  have : i < (bfsL id δ l S k0).length := by rw [e0.len]; exact hi
  simp [Dfa.mk1, reachD, resM, List.getD, this]
theorem reachD_good (hl1 : 1 ≤ l) (hl : l ≤ 4) (hn : n ≤ 3000) (hδ : ∀ s a, s < n → a < l → δ s a < n) (hS : S < n) (e0 : IsEnd (bfsL id δ l S) k0) (hk : k0 ≤ n) : Good (reachD δ m l S k0) := by
  obtain ⟨f1, f2, f3, f4⟩ := reach_facts hδ hS e0
  have hR := reachD_n (m := m) e0
  refine ⟨?_, ?_, by omega, by omega, by simp [reachD, resR, resM], fun i hi => ?_, fun i hi a ha => ?_, ?_, fun i hi => ?_⟩
  · show (1 : Int) ≤ (l : Int); omega
  · show (l : Int) ≤ 4; omega
  · rw [hR] at hi
    rw [reachD_row e0 hi]
    simp [rowR, reachD]
  · rw [hR] at hi
    rw [reachD_row e0 hi] at ha ⊢
    have hal : a < l := by simpa [rowR] using ha
    have := (f4 i a hi hal).1
    rw [hR]
    simp [rowR, List.getD, hal]
    simp only [List.getD] at this
    omega
  · rw [hR]; show (0 : Int) ≤ 0 ∧ (0 : Int) < (k0 : Int); omega
  · simp [reachD, resM, List.getD] at hi ⊢
    rw [List.getElem?_eq_getElem (by simpa using hi)]
    simp
/-- What tells numbers apart tells the states apart. -/
theorem reach_ner (hδ : ∀ s a, s < n → a < l → δ s a < n) (hS : S < n) (e0 : IsEnd (bfsL id δ l S) k0) {i j : Nat} (hi : i < k0) (hj : j < k0) :
    Ner (reachD δ m l S k0).nx (reachD δ m l S k0).mk1 l i j ↔ Ner δ m l ((bfsL id δ l S k0).getD i 0) ((bfsL id δ l S k0).getD j 0) := by
  obtain ⟨f1, f2, f3, f4⟩ := reach_facts hδ hS e0
  have key : ∀ (z : List Nat) (i : Nat), i < k0 → (∀ a, a ∈ z → a < l) → z.foldl (reachD δ m l S k0).nx i < k0 ∧ (bfsL id δ l S k0).getD (z.foldl (reachD δ m l S k0).nx i) 0 = z.foldl δ ((bfsL id δ l S k0).getD i 0) := by
    intro z
    induction z with
    | nil => intro i hi _; exact ⟨hi, rfl⟩
    | cons a z ih =>
      intro i hi hz
      have ha := hz a (by simp)
      have h1 := f4 i a hi ha
      have h2 := reachD_nx (m := m) e0 hi ha
      simp only [List.foldl_cons]
      rw [h2]
      have h3 := ih _ h1.1 (fun b hb => hz b (by simp [hb]))
      rw [h1.2] at h3
      exact h3
  constructor
  · intro h z hz
    have h1 := h z hz
    obtain ⟨a1, a2⟩ := key z i hi hz
    obtain ⟨b1, b2⟩ := key z j hj hz
    rw [reachD_mk e0 a1, reachD_mk e0 b1, a2, b2] at h1
    exact h1
  · intro h z hz
    have h1 := h z hz
    obtain ⟨a1, a2⟩ := key z i hi hz
    obtain ⟨b1, b2⟩ := key z j hj hz
    rw [reachD_mk e0 a1, reachD_mk e0 b1, a2, b2]
    exact h1

/-- The least one, out of classes of the states that are come to. -/
theorem least_of_classes (hδ : ∀ s a, s < n → a < l → δ s a < n) (hS : S < n) (e0 : IsEnd (bfsL id δ l S) k0) {K k1 : Nat} {cls one : Nat → Nat}
    (hc : ∀ s t, s < k0 → t < k0 → (cls s = cls t ↔ Ner (reachD δ m l S k0).nx (reachD δ m l S k0).mk1 l s t)) (hK : ∀ s, s < k0 → cls s < K) (ho : ∀ j, j < K → one j < k0 ∧ cls (one j) = j)
    (e1 : IsEnd (bfsL id (fun c a => cls ((reachD δ m l S k0).nx (one c) a)) l (cls 0)) k1) :
    LeastOf δ m n l S (resR id (fun c a => cls ((reachD δ m l S k0).nx (one c) a)) l (bfsL id (fun c a => cls ((reachD δ m l S k0).nx (one c) a)) l (cls 0) k1)) (resM (fun c => (reachD δ m l S k0).mk1 (one c)) (bfsL id (fun c a => cls ((reachD δ m l S k0).nx (one c) a)) l (cls 0) k1)) := by
  obtain ⟨f1, f2, f3, f4⟩ := reach_facts hδ hS e0
  intro κ hκ
  have ner : ∀ {i j}, i < k0 → j < k0 → (cls i = cls j ↔ Ner δ m l ((bfsL id δ l S k0).getD i 0) ((bfsL id δ l S k0).getD j 0)) := fun hi hj => (hc _ _ hi hj).trans (reach_ner hδ hS e0 hi hj)
  have hst : ∀ t, t < k0 → Ner δ m l ((bfsL id δ l S k0).getD (one (cls t)) 0) ((bfsL id δ l S k0).getD t 0) := fun t ht => by
    have h1 := ho _ (hK t ht)
    exact (ner h1.1 ht).1 h1.2
  have h0 : cls 0 < K ∧ S < n ∧ Ner δ m l ((bfsL id δ l S k0).getD (one (cls 0)) 0) S := ⟨hK 0 f3, hS, by have := hst 0 f3; rwa [f2] at this⟩
  have hnx : ∀ c a, c < K → a < l → (reachD δ m l S k0).nx (one c) a < k0 ∧ (bfsL id δ l S k0).getD ((reachD δ m l S k0).nx (one c) a) 0 = δ ((bfsL id δ l S k0).getD (one c) 0) a := fun c a hcK ha => by
    rw [reachD_nx e0 (ho c hcK).1 ha]
    exact f4 _ _ (ho c hcK).1 ha
  have hs : ∀ c q a, (c < K ∧ q < n ∧ Ner δ m l ((bfsL id δ l S k0).getD (one c) 0) q) → a < l → (cls ((reachD δ m l S k0).nx (one c) a) < K ∧ δ q a < n ∧ Ner δ m l ((bfsL id δ l S k0).getD (one (cls ((reachD δ m l S k0).nx (one c) a))) 0) (δ q a)) := fun c q a h ha => by
    obtain ⟨h1, h2⟩ := hnx c a h.1 ha
    refine ⟨hK _ h1, hδ _ _ h.2.1 ha, (hst _ h1).trans ?_⟩
    rw [h2]
    exact h.2.2.step ha
  have hk : ∀ c q c' q', (c < K ∧ q < n ∧ Ner δ m l ((bfsL id δ l S k0).getD (one c) 0) q) → (c' < K ∧ q' < n ∧ Ner δ m l ((bfsL id δ l S k0).getD (one c') 0) q') → (id c = id c' ↔ κ q = κ q') := fun c q c' q' h h' => by
    rw [hκ _ _ h.2.1 h'.2.1]
    constructor
    · intro e
      have e' : c = c' := e
      subst e'
      exact h.2.2.symm.trans h'.2.2
    · intro e
      have h1 := (ner (ho c h.1).1 (ho c' h'.1).1).2 ((h.2.2.trans e).trans h'.2.2.symm)
      rw [(ho c h.1).2, (ho c' h'.1).2] at h1
      exact h1
  have hb := beside_bfs (κ1 := id) (κ2 := κ) (δ1 := fun c a => cls ((reachD δ m l S k0).nx (one c) a)) (δ2 := δ) (l := l) (ρ := fun c q => c < K ∧ q < n ∧ Ner δ m l ((bfsL id δ l S k0).getD (one c) 0) q) h0 hs hk
  have e2 : IsEnd (bfsL κ δ l S) k1 := ⟨by rw [← (hb k1).1]; exact e1.len, fun i hi => by rw [← (hb i).1]; exact e1.go i hi⟩
  obtain ⟨r1, m1⟩ := beside_res (m1 := fun c => (reachD δ m l S k0).mk1 (one c)) (m2 := m) (ρ := fun c q => c < K ∧ q < n ∧ Ner δ m l ((bfsL id δ l S k0).getD (one c) 0) q) h0 hs hk (fun c q h => by
    rw [reachD_mk e0 (ho c h.1).1]
    exact h.2.2.mark) e1 e2
  exact ⟨k1, e2, r1, m1⟩
end

/-- Rows and marks that are one's own are an automaton's. -/
theorem det_of_owns {B : Nat} {w : World} {L S : Int} {aR aM : Option Addr} {cR cM nR nM : Nat} {rs : List (Value × List Int)} {M : List Int} {its : List Item} (h : Owns B w ((23, .slice aR nR cR, rs.map (·.1)) :: (3, .slice aM nM cM, vals M) :: (rowItems rs ++ its))) (hm : ∀ x, x ∈ rs → x.2.length ≤ maxLen) (hR : rs.length ≤ maxLen) (hM : M.length ≤ maxLen) :
    DetAt w ⟨L, S, rs.map (·.2), M⟩ aR aM := by
  refine ⟨?_, ((at_2 h).ints).2, by simpa using hR, hM⟩
  by_cases h0 : rs = []
  · left; simp [h0]
  · right
    have hl : 0 < rs.length := List.length_pos_iff.2 h0
    obtain ⟨g, rfl⟩ := h.formM List.mem_cons_self (by simpa using hl)
    refine ⟨g, 0, rfl, fun i hi => ?_⟩
    have hi' : i < rs.length := by simpa using hi
    have e1 : (rs.map (·.2)).getD i [] = rs[i].2 := by simp [List.getD, hi']
    have m1 : (3, rs[i].1, vals rs[i].2) ∈ ((23, Value.slice (some ⟨g, 0, none⟩) nR cR, rs.map (·.1)) :: (3, .slice aM nM cM, vals M) :: (rowItems rs ++ its) : List Item) :=
      List.mem_cons_of_mem _ (List.mem_cons_of_mem _ (List.mem_append_left _ (List.mem_map.2 ⟨rs[i], List.getElem_mem _, rfl⟩)))
    obtain ⟨o1, ax, cx, hv⟩ := h.1 _ m1
    simp only [vals_len] at hv o1
    rw [e1]
    refine ⟨ax, cx, ?_, ?_, hm _ (List.getElem_mem _)⟩
    · rw [Nat.zero_add]
      refine h.cell ?_
      rw [List.getElem?_map, List.getElem?_eq_getElem hi', ← hv]; rfl
    · rw [hv] at m1
      have h2 : Owns B w [(3, .slice ax rs[i].2.length cx, vals rs[i].2)] := ⟨fun it hm2 => by simp at hm2; subst hm2; exact h.1 _ m1, List.pairwise_singleton _ _⟩
      exact h2.ints.2

def LeastPost (δ : Nat → Nat → Nat) (m : Nat → Bool) (n l S : Nat) (w : World) (E : Ending) (w' : World) : Prop :=
  ∃ (aR : Option Addr) (cR : Nat) (aM : Option Addr) (cM : Nat) (rs : List (Value × List Int)) (M : List Int), E = .returned (.agg #[.int .i64 l, .int .i64 0, .slice aR rs.length cR, .slice aM M.length cM]) ∧ LeastOf δ m n l S (rs.map (·.2)) M ∧ rs.length ≤ n ∧ M.length = rs.length ∧ (∀ x, x ∈ rs → x.2.length = l) ∧
    Owns w.heap.size w' ((23, .slice aR rs.length cR, rs.map (·.1)) :: (3, .slice aM M.length cM, vals M) :: rowItems rs) ∧ w.grownBy w' none

end Go.Proofs.Ytcgkflddipflbaa

namespace Go.Proofs.Ytcgkflddipflbaa
open Go.RowKit
set_option linter.unusedVariables false

theorem keepB {W1 W : World} {b : Nat} {v0 v1 v2 v3 : Value} (h : W1.grownBy W none) (hb : W.cell? ⟨b, 0, none⟩ = some v0 ∧ W.cell? ⟨b, 1, none⟩ = some v1 ∧ W.cell? ⟨b, 2, none⟩ = some v2 ∧ W.cell? ⟨b, 3, none⟩ = some v3) :
    W1.grownBy W none ∧ W.cell? ⟨b, 0, none⟩ = some v0 ∧ W.cell? ⟨b, 1, none⟩ = some v1 ∧ W.cell? ⟨b, 2, none⟩ = some v2 ∧ W.cell? ⟨b, 3, none⟩ = some v3 := ⟨h, hb⟩
theorem keepG {W1 W W' : World} {b : Nat} {v0 v1 v2 v3 : Value} (h : W1.grownBy W none ∧ W.cell? ⟨b, 0, none⟩ = some v0 ∧ W.cell? ⟨b, 1, none⟩ = some v1 ∧ W.cell? ⟨b, 2, none⟩ = some v2 ∧ W.cell? ⟨b, 3, none⟩ = some v3) (hg : W.grownBy W' none) :
    W1.grownBy W' none ∧ W'.cell? ⟨b, 0, none⟩ = some v0 ∧ W'.cell? ⟨b, 1, none⟩ = some v1 ∧ W'.cell? ⟨b, 2, none⟩ = some v2 ∧ W'.cell? ⟨b, 3, none⟩ = some v3 :=
  ⟨grown_trans h.1 hg, hg.cell h.2.1 (by simp), hg.cell h.2.2.1 (by simp), hg.cell h.2.2.2.1 (by simp), hg.cell h.2.2.2.2 (by simp)⟩
/-- A new block is written into. -/
theorem keepW {W1 W : World} {b g : Nat} {v0 v1 v2 v3 u0 u1 u2 u3 : Value} (h : W1.grownBy W none ∧ W.cell? ⟨b, 0, none⟩ = some v0 ∧ W.cell? ⟨b, 1, none⟩ = some v1 ∧ W.cell? ⟨b, 2, none⟩ = some v2 ∧ W.cell? ⟨b, 3, none⟩ = some v3) (hg : W1.heap.size ≤ g) (hb : b < W1.heap.size) :
    W1.grownBy ((((W.setCell ⟨g, 0, none⟩ u0).setCell ⟨g, 1, none⟩ u1).setCell ⟨g, 2, none⟩ u2).setCell ⟨g, 3, none⟩ u3) none ∧ ((((W.setCell ⟨g, 0, none⟩ u0).setCell ⟨g, 1, none⟩ u1).setCell ⟨g, 2, none⟩ u2).setCell ⟨g, 3, none⟩ u3).cell? ⟨b, 0, none⟩ = some v0 ∧ ((((W.setCell ⟨g, 0, none⟩ u0).setCell ⟨g, 1, none⟩ u1).setCell ⟨g, 2, none⟩ u2).setCell ⟨g, 3, none⟩ u3).cell? ⟨b, 1, none⟩ = some v1 ∧ ((((W.setCell ⟨g, 0, none⟩ u0).setCell ⟨g, 1, none⟩ u1).setCell ⟨g, 2, none⟩ u2).setCell ⟨g, 3, none⟩ u3).cell? ⟨b, 2, none⟩ = some v2 ∧ ((((W.setCell ⟨g, 0, none⟩ u0).setCell ⟨g, 1, none⟩ u1).setCell ⟨g, 2, none⟩ u2).setCell ⟨g, 3, none⟩ u3).cell? ⟨b, 3, none⟩ = some v3 := by
  have hgr : W.grownBy ((((W.setCell ⟨g, 0, none⟩ u0).setCell ⟨g, 1, none⟩ u1).setCell ⟨g, 2, none⟩ u2).setCell ⟨g, 3, none⟩ u3) (some g) := grown_set2 (grown_set2 (grown_set2 (grown_set W ⟨g, 0, none⟩ u0) 1 u1) 2 u2) 3 u3
  have hne : some b ≠ some g := by simp; omega
  exact ⟨grown_new h.1 hgr hg, hgr.cell h.2.1 hne, hgr.cell h.2.2.1 hne, hgr.cell h.2.2.2.1 hne, hgr.cell h.2.2.2.2 hne⟩

/-- An automaton's box that holds nothing yet. -/
def Nz (W : World) (b : Nat) : Prop := W.heap[b]? = some (.cells #[.int .i64 0, .int .i64 0, .slice none 0 0, .slice none 0 0] 36 (0, 0))
theorem nz_cells {W : World} {b : Nat} (h : Nz W b) : W.cell? ⟨b, 0, none⟩ = some (.int .i64 0) ∧ W.cell? ⟨b, 1, none⟩ = some (.int .i64 0) ∧ W.cell? ⟨b, 2, none⟩ = some (.slice none 0 0) ∧ W.cell? ⟨b, 3, none⟩ = some (.slice none 0 0) ∧ W.frozen? ⟨b, 0, none⟩ = false ∧ W.frozen? ⟨b, 1, none⟩ = false ∧ W.frozen? ⟨b, 2, none⟩ = false ∧ W.frozen? ⟨b, 3, none⟩ = false := by
  obtain ⟨h0, h1, h2, h3, hf⟩ := block_cells h
  exact ⟨h0, h1, h2, h3, hf 0, hf 1, hf 2, hf 3⟩
theorem nz_new {W W' : World} (h : (W.alloc (.cells #[.int .i64 0, .int .i64 0, .slice none 0 0, .slice none 0 0] 36)).grownBy W' none) : Nz W' W.heap.size :=
  (h.block _ (by simp) (by simp)).trans (heap_alloc_new W _)
theorem nz_new' {W W' : World} (h : (W.alloc (.cells #[.int .i64 0, .int .i64 0, .slice none 0 0, .slice none 0 0] 36)).drew.grownBy W' none) : Nz W' W.heap.size := nz_new (grown_trans (grown_drew (grown_refl _ _)) h)
theorem Nz.keep {W W' : World} {b : Nat} (h : Nz W b) (hg : W.grownBy W' none) : Nz W' b := (hg.block _ (Array.getElem?_eq_some_iff.1 h).1 (by simp)).trans h

/-- The states that are come to, in a box of their own. -/
def ReachAt (B : Nat) (W1 : World) (δ : Nat → Nat → Nat) (mk : Nat → Bool) (n l st : Nat) (v : Value) (wc : World) : Prop :=
  ∃ (bx k0 : Nat) (aR : Option Addr) (cR : Nat) (aM : Option Addr) (cM : Nat) (rs : List (Value × List Int)), v = .pointer (some ⟨bx, 0, none⟩) ∧ IsEnd (bfsL id δ l st) k0 ∧ k0 ≤ n ∧ rs.map (·.2) = resR id δ l (bfsL id δ l st k0) ∧
    Owns B wc ((36, .slice (some ⟨bx, 0, none⟩) 4 4, [.int .i64 (l : Int), .int .i64 0, .slice aR k0 cR, .slice aM k0 cM]) :: (23, .slice aR k0 cR, rs.map (·.1)) :: (3, .slice aM k0 cM, vals (resM mk (bfsL id δ l st k0))) :: rowItems rs) ∧ W1.grownBy wc none
section
variable {B B' bx k0 n l st : Nat} {W1 w7 : World} {δ : Nat → Nat → Nat} {mk : Nat → Bool} {aR aM : Option Addr} {cR cM : Nat} {rs : List (Value × List Int)}
theorem reach_lens (he : IsEnd (bfsL id δ l st) k0) (hrs : rs.map (·.2) = resR id δ l (bfsL id δ l st k0)) : rs.length = k0 ∧ (resM mk (bfsL id δ l st k0)).length = k0 := by
  constructor
  · have := congrArg List.length hrs
    simpa [resR, he.len] using this
  · simp [resM, he.len]
theorem reach_new (he : IsEnd (bfsL id δ l st) k0) (hk : k0 ≤ n) (hrs : rs.map (·.2) = resR id δ l (bfsL id δ l st k0))
    (ho : Owns B' w7 ((23, .slice aR rs.length cR, rs.map (·.1)) :: (3, .slice aM (resM mk (bfsL id δ l st k0)).length cM, vals (resM mk (bfsL id δ l st k0))) :: rowItems rs)) (hB : B ≤ B') (hs : B' ≤ w7.heap.size) (hg : W1.grownBy w7 none) :
    ReachAt B W1 δ mk n l st (.pointer (some ⟨w7.heap.size, 0, none⟩)) (w7.alloc (.cells #[.int .i64 (l : Int), .int .i64 0, .slice aR rs.length cR, .slice aM (resM mk (bfsL id δ l st k0)).length cM] 36)) := by
  obtain ⟨e1, e2⟩ := reach_lens (mk := mk) he hrs
  rw [e1, e2] at ho ⊢
  exact ⟨_, k0, aR, cR, aM, cM, rs, rfl, he, hk, hrs, ((ho.base hB).made (arr := #[.int .i64 (l : Int), .int .i64 0, .slice aR k0 cR, .slice aM k0 cM]) (n := 4) (Nat.le_trans hB hs) 36 rfl (by unfold maxLen; omega)), grown_trans hg (grown_alloc _ _)⟩
theorem reach_old (he : IsEnd (bfsL id δ l st) k0) (hk : k0 ≤ n) (hrs : rs.map (·.2) = resR id δ l (bfsL id δ l st k0))
    (ho : Owns B' w7 ((23, .slice aR rs.length cR, rs.map (·.1)) :: (3, .slice aM (resM mk (bfsL id δ l st k0)).length cM, vals (resM mk (bfsL id δ l st k0))) :: rowItems rs)) (hb : bx < B') (hB : B ≤ bx) (hz : Nz w7 bx) (hW : W1.heap.size ≤ bx) (hg : W1.grownBy w7 none) :
    ReachAt B W1 δ mk n l st (.pointer (some ⟨bx, 0, none⟩)) ((((w7.setCell ⟨bx, 0, none⟩ (.int .i64 (l : Int))).setCell ⟨bx, 1, none⟩ (.int .i64 0)).setCell ⟨bx, 2, none⟩ (.slice aR rs.length cR)).setCell ⟨bx, 3, none⟩ (.slice aM (resM mk (bfsL id δ l st k0)).length cM)) := by
  obtain ⟨e1, e2⟩ := reach_lens (mk := mk) he hrs
  rw [e1, e2] at ho ⊢
  have hgr : w7.grownBy ((((w7.setCell ⟨bx, 0, none⟩ (.int .i64 (l : Int))).setCell ⟨bx, 1, none⟩ (.int .i64 0)).setCell ⟨bx, 2, none⟩ (.slice aR k0 cR)).setCell ⟨bx, 3, none⟩ (.slice aM k0 cM)) (some bx) := grown_set2 (grown_set2 (grown_set2 (grown_set w7 ⟨bx, 0, none⟩ _) 1 _) 2 _) 3 _
  have hbox : Owns B w7 ((36, .slice (some ⟨bx, 0, none⟩) 4 4, [.int .i64 0, .int .i64 0, .slice none 0 0, .slice none 0 0]) :: (23, .slice aR k0 cR, rs.map (·.1)) :: (3, .slice aM k0 cM, vals (resM mk (bfsL id δ l st k0))) :: rowItems rs) := by
    refine ⟨fun it hm => ?_, List.Pairwise.cons (fun q hq => ?_) ho.2⟩
    · rcases List.mem_cons.1 hm with rfl | hm
      · exact ⟨⟨by simp, .inr ⟨bx, 4, _, rfl, hB, hz, by simp, by unfold maxLen; omega, by simp, by simp⟩⟩, _, _, rfl⟩
      · have := ho.1 it hm
        exact ⟨ownsRow_base this.1 (by omega), this.2⟩
    · cases hq2 : q.2.1.ownBlock with
      | none => exact .inr (.inl hq2)
      | some b =>
        refine .inr (.inr ?_)
        rw [hq2]
        have := ((ho.1 q hq).1.lt b hq2).1
        simp [Value.ownBlock]
        omega
  have h1 := hbox.set (i := 0) (by decide) (.int .i64 (l : Int))
  have h2 := h1.set (i := 1) (by decide) (.int .i64 0)
  have h3 := h2.set (i := 2) (by decide) (.slice aR k0 cR)
  have h4 := h3.set (i := 3) (by decide) (.slice aM k0 cM)
  exact ⟨bx, k0, aR, cR, aM, cM, rs, rfl, he, hk, hrs, h4, grown_new hg hgr hW⟩
end

set_option maxHeartbeats 1600000 in
set_option maxRecDepth 100000 in
theorem leastP_any (L S : Int) (R : List (List Int)) (M : List Int) (a a' : Option Addr) (c c' : Nat) (w : World) (h : DetAt w ⟨L, S, R, M⟩ a a') (hG : Good ⟨L, S, R, M⟩) :
    Calls Try.prog 42 #[.agg #[.int .i64 L, .int .i64 S, .slice a R.length c, .slice a' M.length c']] w (LeastPost (Dfa.nx ⟨L, S, R, M⟩) (Dfa.mk1 ⟨L, S, R, M⟩) R.length L.toNat S.toNat w) := by
  have hn1 : 1 ≤ R.length := hG.n1
  have hn3 : R.length ≤ 3000 := hG.n3
  have hL4 : 1 ≤ L ∧ L ≤ 4 := ⟨hG.l1, hG.l4⟩
  have hS2 : 0 ≤ S ∧ S < (R.length : Int) := hG.s
  obtain ⟨l, hl⟩ : ∃ l : Nat, L = l := ⟨L.toNat, by omega⟩
  obtain ⟨st, hst⟩ : ∃ st : Nat, S = st := ⟨S.toNat, by omega⟩
  subst hl hst
  simp only [Int.toNat_natCast]
  have H : Hid (DetAt w ⟨l, st, R, M⟩ a a') := h
  have GD : Hid (Good ⟨l, st, R, M⟩) := hG
  have HGo : Hid (∀ W, Calls Try.prog 51 #[.agg #[.int .i64 l, .int .i64 st, .slice a R.length c, .slice a' M.length c']] W fun e w' => e = .returned (.func (.func 65) #[] #[.pointer (some ⟨W.heap.size, 0, none⟩)]) ∧ BoxAt w' W.heap.size ⟨l, st, R, M⟩ a a' c c' ∧ W.grownBy w' none) := fun W => goes_any _ _ _ _ _ _ _ _ W
  have HAc : Hid (∀ W, Calls Try.prog 52 #[.agg #[.int .i64 l, .int .i64 st, .slice a R.length c, .slice a' M.length c']] W fun e w' => e = .returned (.func (.func 66) #[] #[.pointer (some ⟨W.heap.size, 0, none⟩)]) ∧ BoxAt w' W.heap.size ⟨l, st, R, M⟩ a a' c c' ∧ W.grownBy w' none) := fun W => accepts_of_any _ _ _ _ _ _ _ _ W
  obtain ⟨δ, hδ⟩ : ∃ δ, Dfa.nx ⟨l, st, R, M⟩ = δ := ⟨_, rfl⟩
  obtain ⟨mk, hmk⟩ : ∃ mk, Dfa.mk1 ⟨l, st, R, M⟩ = mk := ⟨_, rfl⟩
  obtain ⟨n, hnR⟩ : ∃ n, R.length = n := ⟨_, rfl⟩
  have HDl : Hid (Dfa.nx ⟨l, st, R, M⟩ = δ) := hδ
  have HMk : Hid (Dfa.mk1 ⟨l, st, R, M⟩ = mk) := hmk
  have HRn : Hid (R.length = n) := hnR
  have HD : Hid (∀ s b, s < n → b < l → δ s b < n) := fun s b hs hb => by
    have := hG.nx_lt (s := s) (a := b) (by rw [HRn.out]; exact hs) (by simp; exact hb)
    rwa [HRn.out, HDl.out] at this
  have hsn : st < n := by omega
  have hn3' : n ≤ 3000 := by omega
  obtain ⟨W1, hW1⟩ : ∃ W1, W1 = (w.alloc (.cells #[.int .i64 l, .int .i64 st, .slice a R.length c, .slice a' M.length c'] 36)).alloc (.cells #[.int .i64 0, .int .i64 0, .slice none 0 0, .slice none 0 0] 36) := ⟨_, rfl⟩
  have HS1 : Hid (W1.heap.size = w.heap.size + 1 + 1) := by show _ = _; rw [hW1]; simp
  have Box : Hid (∀ W, W1.grownBy W none → w.grownBy W none ∧ W.cell? ⟨w.heap.size, 0, none⟩ = some (.int .i64 l) ∧ W.cell? ⟨w.heap.size, 1, none⟩ = some (.int .i64 st) ∧ W.cell? ⟨w.heap.size, 2, none⟩ = some (.slice a R.length c) ∧ W.cell? ⟨w.heap.size, 3, none⟩ = some (.slice a' M.length c')) := fun W hW => by
    have h1 : (w.alloc (.cells #[.int .i64 l, .int .i64 st, .slice a R.length c, .slice a' M.length c'] 36)).grownBy W none := grown_trans (grown_alloc _ _) (hW1 ▸ hW)
    exact ⟨grown_trans (grown_alloc _ _) h1, box4 (w := w) h1⟩
  have HZ1 : Hid (∀ W, W1.grownBy W none → Nz W (w.heap.size + 1)) := fun W hW => by
    have h1 := heap_alloc_new (w.alloc (.cells #[.int .i64 l, .int .i64 st, .slice a R.length c, .slice a' M.length c'] 36)) (.cells #[.int .i64 0, .int .i64 0, .slice none 0 0, .slice none 0 0] 36)
    rw [World.size_alloc, ← hW1] at h1
    exact (hW.block _ (by rw [HS1.out]; omega) (by simp)).trans h1
  have HOf : Hid (∀ W b1 b2, w.grownBy W none → BoxAt W b1 ⟨l, st, R, M⟩ a a' c c' → BoxAt W b2 ⟨l, st, R, M⟩ a a' c c' → Calls Try.prog 50 #[.int .i64 l, .int .i64 st, .func (.func 65) #[] #[.pointer (some ⟨b1, 0, none⟩)], .func (.func 66) #[] #[.pointer (some ⟨b2, 0, none⟩)]] W (OfPost l st n δ mk W)) := fun W b1 b2 hW hb1 hb2 => by
    refine ofG_any l st n δ mk _ _ W (by omega) (by omega) hn3' hsn HD.out (fun W' hW' s x hs hx => ?_) (fun W' hW' s hs => ?_)
    · have := goes1_any l st R M a a' c c' b1 s x W' (hb1.kept hW') (H.out.grown (grown_trans hW hW')) GD.out (by rw [HRn.out]; exact hs) (by simp; exact hx)
      rwa [HDl.out] at this
    · have := accepts1_any l st R M a a' c c' b2 s W' (hb2.kept hW') (H.out.grown (grown_trans hW hW')) GD.out (by rw [HRn.out]; exact hs)
      rwa [HMk.out] at this
  have x0 := (Box.out W1 (grown_refl _ _)).2.1
  have x1 := (Box.out W1 (grown_refl _ _)).2.2.1
  have x2 := (Box.out W1 (grown_refl _ _)).2.2.2.1
  have x3 := (Box.out W1 (grown_refl _ _)).2.2.2.2
  clear h hG hδ hmk hnR
  go_enter Try.func42, Try.ntmps42
  go_wp2_with fail
  rw [← hW1]
  clear hW1
  go_cut [3] (fun v3 wc => ReachAt W1.heap.size W1 δ mk n l st v3 wc)
  case first =>
   go_region_held3 (fun W => W1.grownBy W none ∧ W.cell? ⟨w.heap.size, 0, none⟩ = some (.int .i64 l) ∧ W.cell? ⟨w.heap.size, 1, none⟩ = some (.int .i64 st) ∧ W.cell? ⟨w.heap.size, 2, none⟩ = some (.slice a R.length c) ∧ W.cell? ⟨w.heap.size, 3, none⟩ = some (.slice a' M.length c'))
      (first | (with_reducible exact keepB (grown_drew (grown_refl _ _)) (Box.out _ (grown_drew (grown_refl _ _))).2) | (with_reducible exact keepG (by assumption) hg5) | (with_reducible exact keepG (by assumption) hg6) | (with_reducible exact sw7) | (with_reducible exact keepG (by assumption) (grown_alloc _ _)) | (with_reducible exact keepG sw7 (grown_alloc _ _)) | (with_reducible refine keepW (by assumption) ?_ ?_; (first | exact sz6 | exact sz5 | exact Nat.le_refl _); (have := HS1.out; omega)))
      (first | (go_at_call 51; refine (HGo.out _).mono ?_; rintro E w5 ⟨rfl, hb5, hg5⟩; (try (simp only [World.drew, World.size_alloc] at hb5)); have q5 := hg5.size; (try (simp only [World.size_drew, World.size_alloc] at q5)); have sz5 : W1.heap.size ≤ w5.heap.size := (Nat.le_trans (by simp) hg5.size); (try (with_reducible have z := nz_new' hg5))) | (go_at_call 52; refine (HAc.out _).mono ?_; rintro E w6 ⟨rfl, hb6, hg6⟩; (try (simp only [World.size_alloc] at hb6)); have q6 := hg6.size; (try (simp only [World.size_alloc] at q6)); have hg56 : w5.grownBy w6 none := (by first | (with_reducible exact hg6) | (with_reducible exact grown_trans (grown_alloc _ _) hg6)); have sz6 : W1.heap.size ≤ w6.heap.size := (Nat.le_trans sz5 hg56.size); (try (with_reducible have z := nz_new hg6)); (try (with_reducible have z := z.keep hg6))) | (go_at_call 50; refine (HOf.out _ _ _ (Box.out _ (by with_reducible assumption : W1.grownBy _ none ∧ _ ∧ _ ∧ _ ∧ _).1).1 (hb5.kept (by first | (with_reducible exact hg56) | (with_reducible exact grown_trans hg56 (grown_alloc _ _)))) (hb6.kept (by first | (with_reducible exact grown_refl _ _) | (with_reducible exact grown_alloc _ _)))).mono ?_; rintro E w7 ⟨k0, vR, vM, rs, he0, hk0, rfl, hrs, ho7, hg7⟩; have q7 := hg7.size; (try (simp only [World.size_alloc] at q7 ho7)); have sw7 : W1.grownBy w7 none ∧ w7.cell? ⟨w.heap.size, 0, none⟩ = some (.int .i64 l) ∧ w7.cell? ⟨w.heap.size, 1, none⟩ = some (.int .i64 st) ∧ w7.cell? ⟨w.heap.size, 2, none⟩ = some (.slice a R.length c) ∧ w7.cell? ⟨w.heap.size, 3, none⟩ = some (.slice a' M.length c') := keepG (by assumption) hg7; obtain ⟨_, aR, cR, hvR⟩ := ho7.head; obtain ⟨_, aM, cM, hvM⟩ := (at_2 ho7).head; simp only at hvR hvM; subst hvR hvM; (try (with_reducible have z := nz_new hg7)); (try (with_reducible have z := z.keep hg7)); (try (have zc := nz_cells z))))
   all_goals
    go_wp2_with fail
    go_meet
    case rel =>
     simp only [List.length_map] at ho7
     first | (with_reducible refine reach_new he0 hk0 hrs ho7 ?_ ?_ sw7.1 <;> omega) | (with_reducible refine reach_old he0 hk0 hrs ho7 ?_ ?_ z ?_ sw7.1 <;> omega)
  case rest =>
    clear HGo HAc HOf x0 x1 x2 x3
    obtain ⟨bx, k0, aR, cR, aM, cM, rs, rfl, he0, hk0, hrs, ho, hg⟩ := hcut
    obtain ⟨e1, e2⟩ := reach_lens (mk := mk) he0 hrs
    have HE0 : Hid (IsEnd (bfsL id δ l st) k0) := he0
    have HRS : Hid (rs.map (·.2) = resR id δ l (bfsL id δ l st k0)) := hrs
    have O : Hid (Owns W1.heap.size wc ((36, .slice (some ⟨bx, 0, none⟩) 4 4, [.int .i64 (l : Int), .int .i64 0, .slice aR k0 cR, .slice aM k0 cM]) :: (23, .slice aR k0 cR, rs.map (·.1)) :: (3, .slice aM k0 cM, vals (resM mk (bfsL id δ l st k0))) :: rowItems rs)) := ho
    have G : Hid (W1.grownBy wc none) := hg
    have GR : Hid (Good (reachD δ mk l st k0)) := reachD_good (by omega) (by omega) hn3' HD.out hsn he0 hk0
    have DR : Hid (∀ W, wc.grownBy W none → DetAt W ⟨l, 0, resR id δ l (bfsL id δ l st k0), resM mk (bfsL id δ l st k0)⟩ aR aM) := fun W hW => by
      have h1 := (O.out.kept hW).tail
      have h2 : Owns W1.heap.size W ((23, .slice aR k0 cR, rs.map (·.1)) :: (3, .slice aM k0 cM, vals (resM mk (bfsL id δ l st k0))) :: (rowItems rs ++ [])) := by rw [List.append_nil]; exact h1
      have h3 := det_of_owns (L := (l : Int)) (S := 0) h2 (fun x hx => by
        have h4 : x.2 ∈ rs.map (·.2) := List.mem_map.2 ⟨x, hx, rfl⟩
        rw [HRS.out] at h4
        obtain ⟨y, _, hy⟩ := List.mem_map.1 h4
        rw [← hy]; simp [rowR, maxLen]; omega) (by rw [e1]; unfold maxLen; omega) (by rw [e2]; unfold maxLen; omega)
      rw [HRS.out] at h3
      exact h3
    have hRl : (resR id δ l (bfsL id δ l st k0)).length = k0 := by simp [resR, he0.len]
    have HCls : Hid (∀ W, wc.grownBy W none → Calls Try.prog 53 #[.agg #[.int .i64 (l : Int), .int .i64 0, .slice aR k0 cR, .slice aM k0 cM]] W (ClsPost (reachD δ mk l st k0).nx (reachD δ mk l st k0).mk1 k0 l W)) := fun W hW => by
      have h1 := classesOf_any l 0 (resR id δ l (bfsL id δ l st k0)) (resM mk (bfsL id δ l st k0)) aR aM cR cM W (DR.out W hW) GR.out (fun W' hW' => backward_any l 0 (resR id δ l (bfsL id δ l st k0)) (resM mk (bfsL id δ l st k0)) aR aM cR cM W' (DR.out W' (grown_trans hW hW')) GR.out)
      rw [hRl, e2, Int.toNat_natCast] at h1
      exact h1
    have b0 := O.out.cell (i := 0) rfl
    have b1 := O.out.cell (i := 1) rfl
    have b2 := O.out.cell (i := 2) rfl
    have b3 := O.out.cell (i := 3) rfl
    clear he0 hrs ho hg e1 e2 hRl
    go_wp2_with fail
    refine (HCls.out _ (grown_refl _ _)).mono ?_
    rintro E w3 ⟨a1, c1, a2, c2, K, cls, one, rfl, ho3, hner, hcK, hone, hKk, hg3⟩
    have HN3 : Hid (∀ s t, s < k0 → t < k0 → (cls s = cls t ↔ Ner (reachD δ mk l st k0).nx (reachD δ mk l st k0).mk1 l s t)) := hner
    have HC3 : Hid (∀ s, s < k0 → cls s < K) := hcK
    have HO3 : Hid (∀ j, j < K → one j < k0 ∧ cls (one j) = j) := hone
    have O3 : Hid (Owns wc.heap.size w3 [(3, .slice a1 k0 c1, fvals k0 cls), (3, .slice a2 K c2, fvals K one)]) := ho3
    have G3 : Hid (wc.grownBy w3 none) := hg3
    clear ho3 hner hcK hone hg3 HCls b0 b1 b2 b3
    obtain ⟨_, _, f3, _⟩ := reach_facts HD.out hsn HE0.out
    have hRl : (resR id δ l (bfsL id δ l st k0)).length = k0 := by simp [resR, HE0.out.len]
    have hMl : (resM mk (bfsL id δ l st k0)).length = k0 := by simp [resM, HE0.out.len]
    obtain ⟨g1, hg1⟩ := O3.out.formM List.mem_cons_self (by rw [fvals_len]; exact f3)
    subst hg1
    obtain ⟨W4, hW4⟩ : ∃ W4, W4 = (w3.alloc (.cells #[.slice (some ⟨g1, 0, none⟩) k0 c1] 23)).alloc (.cells #[.slice a2 K c2] 23) := ⟨_, rfl⟩
    have g34 : w3.grownBy W4 none := by rw [hW4]; exact grown_trans (grown_alloc _ _) (grown_alloc _ _)
    have G4 : Hid (wc.grownBy W4 none) := grown_trans G3.out g34
    have hs4 : W4.heap.size = w3.heap.size + 1 + 1 := by rw [hW4]; simp
    have HCA : Hid (∀ W, W4.grownBy W none → ClsAt W w3.heap.size bx (w3.heap.size + 1) ⟨l, 0, resR id δ l (bfsL id δ l st k0), resM mk (bfsL id δ l st k0)⟩ aR aM cR cM ((List.range k0).map cls) ((List.range K).map one)) := fun W hW => by
      have gW : wc.grownBy W none := grown_trans G4.out hW
      have g3W : w3.grownBy W none := grown_trans g34 hW
      refine ⟨?_, DR.out W gW, ⟨some ⟨g1, 0, none⟩, c1, ?_, ?_⟩, ⟨a2, c2, ?_, ?_⟩⟩
      · have h1 := (O.out.kept gW).head.1
        rcases h1.2 with ⟨e0, _⟩ | ⟨g', cap', cur, e1, _, hh, _, _, hcs, hcur⟩
        · cases e0
        · simp only [Value.slice.injEq, Option.some.injEq, Addr.mk.injEq] at e1
          obtain ⟨⟨rfl, _, _⟩, _, rfl⟩ := e1
          show W.heap[bx]? = _
          simp only [hRl, hMl]
          have e3 : cur.toList = [.int .i64 (l : Int), .int .i64 0, .slice aR k0 cR, .slice aM k0 cM] := by
            simp only [List.length_cons, List.length_nil, Nat.mul_one, Nat.zero_add, Nat.reduceAdd] at hcur hcs
            rw [← hcur, List.take_of_length_le (by simp [hcs])]
          rw [hh]
          have e4 : cur = #[.int .i64 (l : Int), .int .i64 0, .slice aR k0 cR, .slice aM k0 cM] := by apply Array.ext'; simpa using e3
          rw [e4]
      · refine hW.cell ?_ (by simp)
        rw [hW4]
        simp
      · have := (O3.out.kept g3W).ints.2
        exact this
      · refine hW.cell ?_ (by simp)
        rw [hW4]
        simp
      · have := (own_2 (O3.out.kept g3W)).ints.2
        exact this
    have hKn : K ≤ 3000 := by omega
    have hc0 : cls 0 < K := HC3.out 0 f3
    have HDr : Hid (∀ q x, q < K → x < l → (reachD δ mk l st k0).nx (one q) x < k0) := fun q x hq hx => by
      have := GR.out.nx_lt (s := one q) (a := x) (by rw [reachD_n HE0.out]; exact (HO3.out q hq).1) (by simp [reachD]; exact hx)
      rwa [reachD_n HE0.out] at this
    have getc : ∀ s, s < k0 → ((List.range k0).map cls).getD s 0 = cls s := fun s hs => by simp [List.getD, hs]
    have geto : ∀ q, q < K → ((List.range K).map one).getD q 0 = one q := fun q hq => by simp [List.getD, hq]
    have HOf2 : Hid (∀ W, W4.grownBy W none → Calls Try.prog 50 #[.int .i64 l, .int .i64 (cls 0 : Nat), .func (.func 54) #[] #[.pointer (some ⟨w3.heap.size, 0, none⟩), .pointer (some ⟨bx, 0, none⟩), .pointer (some ⟨w3.heap.size + 1, 0, none⟩)], .func (.func 55) #[] #[.pointer (some ⟨bx, 0, none⟩), .pointer (some ⟨w3.heap.size + 1, 0, none⟩)]] W (OfPost l (cls 0) K (fun q x => cls ((reachD δ mk l st k0).nx (one q) x)) (fun q => (reachD δ mk l st k0).mk1 (one q)) W)) := fun W hW => by
      refine ofL_any l (cls 0) K _ _ _ _ _ W (by omega) (by omega) hKn hc0 (fun q x hq hx => HC3.out _ (HDr.out q x hq hx)) (fun W' hW' q x hq hx => ?_) (fun W' hW' q hq => ?_)
      · have h1 := least1_any l 0 _ _ aR aM cR cM w3.heap.size bx (w3.heap.size + 1) q x _ _ W' (HCA.out W' (grown_trans hW hW')) GR.out (by simp [hRl]) (by simp; omega) (by simp; exact hq) (by rw [geto q hq, hRl]; exact (HO3.out q hq).1) (by simp; exact hx)
        rw [geto q hq] at h1
        have e1 : ((List.range k0).map cls).getD (Dfa.nx ⟨l, 0, resR id δ l (bfsL id δ l st k0), resM mk (bfsL id δ l st k0)⟩ (one q) x) 0 = cls ((reachD δ mk l st k0).nx (one q) x) := getc _ (HDr.out q x hq hx)
        rw [e1] at h1
        exact h1
      · have h1 := least2_any l 0 _ _ aR aM cR cM w3.heap.size bx (w3.heap.size + 1) q _ _ W' (HCA.out W' (grown_trans hW hW')) GR.out (by simp; omega) (by simp; exact hq) (by rw [geto q hq, hRl]; exact (HO3.out q hq).1)
        rw [geto q hq] at h1
        exact h1
    have G14 : Hid (W1.grownBy W4 none) := grown_trans G.out G4.out
    have s0 := (Box.out W4 G14.out).2.1
    have s1 : W4.cell? ⟨w3.heap.size, 0, none⟩ = some (.slice (some ⟨g1, 0, none⟩) k0 c1) := by rw [hW4]; simp
    have s2 := (O.out.kept G4.out).cell (i := 1) rfl
    have s3 := (O3.out.kept g34).cell (fvals_get (f := cls) f3)
    have hk0i : (0 : Int) < (k0 : Int) := by omega
    have n3 : ¬ bx = w.heap.size + 1 := by have := O.out.ge.1; rw [HS1.out] at this; omega
    have n4 : ¬ g1 = w.heap.size + 1 := by have h1 := O3.out.ge.1; have h2 := G.out.size; rw [HS1.out] at h2; omega
    have n2 : ¬ w3.heap.size = w.heap.size + 1 := by have h1 := G3.out.size; have h2 := G.out.size; rw [HS1.out] at h2; omega
    have n3' : ¬ w.heap.size + 1 = bx := fun e => n3 e.symm
    have n4' : ¬ w.heap.size + 1 = g1 := fun e => n4 e.symm
    have n2' : ¬ w.heap.size + 1 = w3.heap.size := fun e => n2 e.symm
    have hmf : ∀ (fn : Fn) (first cap : Array Value) (w : World), (Instr.makeFunc fn first cap).run Try.prog w = .ok (.func fn first cap) w := fun _ _ _ _ => rfl
    clear getc geto O G HCA DR HDr
    go_wp2_with fail
    rw [← hW4]
    clear hW4 g34
    generalize hc0e : cls 0 = c0 at *
    go_region_held3 (fun W => W.cell? ⟨w.heap.size, 0, none⟩ = some (.int .i64 l) ∧ W.cell? ⟨w3.heap.size, 0, none⟩ = some (.slice (some ⟨g1, 0, none⟩) k0 c1) ∧ W.cell? ⟨bx, 1, none⟩ = some (.int .i64 0) ∧ W.cell? ⟨g1, 0, none⟩ = some (.int .i64 (c0 : Int)))
      (first | go_keep | (with_reducible exact ⟨hg9.cell s0 (by simp), hg9.cell s1 (by simp), hg9.cell s2 (by simp), hg9.cell s3 (by simp)⟩) | trace_state)
      ((go_at_call 50; refine (HOf2.out W4.drew (grown_drew (grown_refl _ _))).mono ?_; rintro E w9 ⟨k1, vR, vM, rs2, he1, hk1, rfl, hrs2, ho9, hg9d⟩; have hg9 : W4.grownBy w9 none := (grown_trans (grown_drew (grown_refl _ _)) hg9d); obtain ⟨_, aR2, cR2, hvR⟩ := ho9.head; obtain ⟨_, aM2, cM2, hvM⟩ := (at_2 ho9).head; simp only at hvR hvM; subst hvR hvM; have z := HZ1.out w9 (grown_trans G14.out hg9); have zc := nz_cells z))
    all_goals
      obtain ⟨W9, hW9, hgr9, p0, p1, p2, p3⟩ := det_store z (.int .i64 (l : Int)) (.int .i64 0) (.slice aR2 rs2.length cR2) (.slice aM2 (resM (fun q => (reachD δ mk l st k0).mk1 (one q)) (bfsL id (fun q x => cls ((reachD δ mk l st k0).nx (one q) x)) l c0 k1)).length cM2)
      have hl2 : rs2.length = k1 ∧ (resM (fun q => (reachD δ mk l st k0).mk1 (one q)) (bfsL id (fun q x => cls ((reachD δ mk l st k0).nx (one q) x)) l c0 k1)).length = k1 := by
        constructor
        · have := congrArg List.length hrs2
          simpa [resR, he1.len] using this
        · simp [resM, he1.len]
      have HL : Hid (LeastOf δ mk n l st (rs2.map (·.2)) (resM (fun q => (reachD δ mk l st k0).mk1 (one q)) (bfsL id (fun q x => cls ((reachD δ mk l st k0).nx (one q) x)) l c0 k1))) := by
        show LeastOf _ _ _ _ _ _ _
        rw [hrs2]
        have h1 := least_of_classes (m := mk) (K := K) (k1 := k1) (cls := cls) (one := one) HD.out hsn HE0.out HN3.out HC3.out HO3.out (by rw [hc0e]; exact he1)
        rw [hc0e] at h1
        exact h1
      have HRr : Hid (∀ x, x ∈ rs2 → x.2.length = l) := fun x hx => by
        have h1 : x.2 ∈ rs2.map (·.2) := List.mem_map.2 ⟨x, hx, rfl⟩
        rw [hrs2] at h1
        obtain ⟨y, _, hy⟩ := List.mem_map.1 h1
        rw [← hy]; simp [rowR]
      have hszW : w.heap.size + 1 + 1 ≤ W4.heap.size := by have := G14.out.size; rw [HS1.out] at this; exact this
      have O9 : Hid (Owns w.heap.size W9 ((23, .slice aR2 rs2.length cR2, rs2.map (·.1)) :: (3, .slice aM2 (resM (fun q => (reachD δ mk l st k0).mk1 (one q)) (bfsL id (fun q x => cls ((reachD δ mk l st k0).nx (one q) x)) l c0 k1)).length cM2, vals (resM (fun q => (reachD δ mk l st k0).mk1 (one q)) (bfsL id (fun q x => cls ((reachD δ mk l st k0).nx (one q) x)) l c0 k1))) :: rowItems rs2)) := by
        have h1 := ho9.below hgr9 (show w.heap.size + 1 < W4.heap.size by omega)
        simp only [List.length_map] at h1
        exact h1.base (show w.heap.size ≤ W4.heap.size by omega)
      have Gw : Hid (w.grownBy W9 none) := grown_new (Box.out w9 (grown_trans G14.out hg9)).1 hgr9 (by omega)
      have HN2 : Hid (rs2.length ≤ n ∧ (resM (fun q => (reachD δ mk l st k0).mk1 (one q)) (bfsL id (fun q x => cls ((reachD δ mk l st k0).nx (one q) x)) l c0 k1)).length = rs2.length) := ⟨by omega, by omega⟩
      clear ho9 hg9d hgr9 hl2 zc z s0 s1 s2 s3
      go_wp2_with fail
      rw [← hW9]
      exact bodyPost_ret (v := .agg #[.int .i64 (l : Int), .int .i64 0, .slice aR2 rs2.length cR2, .slice aM2 (resM (fun q => (reachD δ mk l st k0).mk1 (one q)) (bfsL id (fun q x => cls ((reachD δ mk l st k0).nx (one q) x)) l c0 k1)).length cM2]) (by simp [results, Try.results42, go_sem, p0, p1, p2, p3]) rfl ⟨aR2, cR2, aM2, cM2, rs2, _, rfl, by rw [HDl.out, HMk.out, HRn.out]; exact HL.out, by rw [HRn.out]; exact HN2.out.1, HN2.out.2, HRr.out, O9.out, Gw.out⟩

end Go.Proofs.Ytcgkflddipflbaa
