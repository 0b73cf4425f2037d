/- The least automaton goes beside the one that it is of; all of its states are come to, and no two are alike; all that words do is come to (no program). -/
/- The least automaton may be. No program is in it. (Parted from MLeast.) -/
/- What the least automata say. No program is in it. (Parted from KLang.) -/
import Derived.Test.YtcgkflddipflbaaHLs
import Derived.Test.YtcgkflddipflbaaLMath
namespace Go.Proofs.Ytcgkflddipflbaa
set_option linter.unusedVariables false

/-- From behind. -/
theorem rev_ind {P : List Nat → Prop} (h0 : P []) (hs : ∀ z a, P z → P (z ++ [a])) (z : List Nat) : P z := by
  have h : ∀ y : List Nat, P y.reverse := by
    intro y
    induction y with
    | nil => exact h0
    | cons a y ih => rw [List.reverse_cons]; exact hs _ _ ih
  have := h z.reverse
  rwa [List.reverse_reverse] at this
section
variable {κ : Nat → Nat} {δ : Nat → Nat → Nat} {l x0 : Nat}
theorem ix_same {xs : List Nat} {y y' : Nat} (h : κ y = κ y') : ix κ xs y = ix κ xs y' := by
  induction xs with
  | nil => rfl
  | cons x xs ih => simp only [ix]; rw [h, ih]
theorem ix_self {xs : List Nat} (hnd : (xs.map κ).Nodup) {i : Nat} (hi : i < xs.length) : ix κ xs (xs.getD i 0) = i := by
  induction xs generalizing i with
  | nil => simp at hi
  | cons x xs ih =>
    simp only [List.map_cons, List.nodup_cons] at hnd
    cases i with
    | zero => simp [ix]
    | succ i =>
      have hi' : i < xs.length := by simpa using hi
      have e1 : (x :: xs).getD (i + 1) 0 = xs.getD i 0 := by simp [List.getD]
      rw [e1]
      simp only [ix]
      rw [if_neg (fun e => hnd.1 (by rw [e]; exact List.mem_map.2 ⟨_, getD_mem hi', rfl⟩)), ih hnd.2 hi']
theorem rowL_reach {x a : Nat} {xs : List Nat} (ha : a ≤ l) (hx : ∃ z : List Nat, (∀ b, b ∈ z → b < l) ∧ x = z.foldl δ x0) (h : ∀ y, y ∈ xs → ∃ z : List Nat, (∀ b, b ∈ z → b < l) ∧ y = z.foldl δ x0) : ∀ y, y ∈ rowL κ δ x a xs → ∃ z : List Nat, (∀ b, b ∈ z → b < l) ∧ y = z.foldl δ x0 := by
  induction a with
  | zero => exact h
  | succ a ih =>
    intro y hy
    simp only [rowL, ins] at hy
    split at hy
    · exact ih (by omega) y hy
    · rcases List.mem_append.1 hy with hy | hy
      · exact ih (by omega) y hy
      · simp only [List.mem_singleton] at hy
        obtain ⟨z, hz, rfl⟩ := hx
        refine ⟨z ++ [a], fun b hb => ?_, by rw [hy, List.foldl_append]; rfl⟩
        rcases List.mem_append.1 hb with hb | hb
        · exact hz b hb
        · simp only [List.mem_singleton] at hb; omega
theorem bfsL_reach (i : Nat) : ∀ y, y ∈ bfsL κ δ l x0 i → ∃ z : List Nat, (∀ b, b ∈ z → b < l) ∧ y = z.foldl δ x0 := by
  induction i with
  | zero => intro y hy; simp only [bfsL, List.mem_singleton] at hy; exact ⟨[], by simp, hy⟩
  | succ i ih =>
    simp only [bfsL]; split
    · next h => exact rowL_reach (Nat.le_refl _) (ih _ (getD_mem h)) ih
    · exact ih
end
section
variable {δ : Nat → Nat → Nat} {m : Nat → Bool} {n l S : Nat} {R : List (List Int)} {M : List Int}
/-- Where a word leads in the least one, by a key. -/
theorem LeastOf.sim (h : LeastOf δ m n l S R M) (hδ : ∀ s a, s < n → a < l → δ s a < n) (hS : S < n) : ∃ (κ : Nat → Nat) (xs : List Nat), (∀ p q, p < n → q < n → (κ p = κ q ↔ Ner δ m l p q)) ∧ (xs.map κ).Nodup ∧ xs.length = R.length ∧ (∀ i, i < R.length → ∃ z : List Nat, (∀ b, b ∈ z → b < l) ∧ xs.getD i 0 = z.foldl δ S) ∧
    ∀ z : List Nat, (∀ b, b ∈ z → b < l) → z.foldl (Dfa.nx ⟨l, 0, R, M⟩) 0 = ix κ xs (z.foldl δ S) ∧ hasK κ xs (z.foldl δ S) ∧ Dfa.mk1 ⟨l, 0, R, M⟩ (z.foldl (Dfa.nx ⟨l, 0, R, M⟩) 0) = m (z.foldl δ S) := by
  obtain ⟨κ, hκ⟩ := ner_key δ m n l
  obtain ⟨k, e, rfl, rfl⟩ := h κ hκ
  have hxl : (bfsL κ δ l S k).length = k := e.len
  have hlt := bfsL_lt κ hδ hS k
  have hk : 0 < k := by
    rcases Nat.eq_zero_or_pos k with h0 | h0
    · subst h0; have := e.len; simp [bfsL] at this
    · exact h0
  have hx0 : (bfsL κ δ l S k).getD 0 0 = S := by
    obtain ⟨zs, h1⟩ := bfsL_le κ δ l S (Nat.zero_le k)
    rw [h1]; simp [bfsL]
  have fold_lt : ∀ z : List Nat, (∀ b, b ∈ z → b < l) → z.foldl δ S < n := by
    have key : ∀ (z : List Nat) (s : Nat), s < n → (∀ b, b ∈ z → b < l) → z.foldl δ s < n := by
      intro z
      induction z with
      | nil => intro s hs _; exact hs
      | cons a z ih => intro s hs hz; exact ih _ (hδ _ _ hs (hz a (by simp))) (fun b hb => hz b (by simp [hb]))
    exact fun z hz => key z S hS hz
  have nxe : ∀ i a, i < k → a < l → Dfa.nx ⟨l, 0, resR κ δ l (bfsL κ δ l S k), resM m (bfsL κ δ l S k)⟩ i a = ix κ (bfsL κ δ l S k) (δ ((bfsL κ δ l S k).getD i 0) a) := fun i a hi ha => by
    have hi2 : i < (bfsL κ δ l S k).length := by rw [hxl]; exact hi
    unfold Dfa.nx
    have e1 : (resR κ δ l (bfsL κ δ l S k)).getD i [] = rowR κ δ l (bfsL κ δ l S k) ((bfsL κ δ l S k).getD i 0) := by simp [resR, List.getD, hi2]
    simp only
    rw [e1]
    simp [rowR, List.getD, ha]
  have mke : ∀ i, i < k → Dfa.mk1 ⟨l, 0, resR κ δ l (bfsL κ δ l S k), resM m (bfsL κ δ l S k)⟩ i = m ((bfsL κ δ l S k).getD i 0) := fun i hi => by
    have hi2 : i < (bfsL κ δ l S k).length := by rw [hxl]; exact hi
    have e3 : (resM m (bfsL κ δ l S k)).getD i 0 = if m ((bfsL κ δ l S k).getD i 0) = true then 1 else 0 := by simp [resM, List.getD, hi2]
    unfold Dfa.mk1
    simp only
    rw [e3]
    cases m ((bfsL κ δ l S k).getD i 0) <;> simp
  have main : ∀ z : List Nat, (∀ b, b ∈ z → b < l) → z.foldl (Dfa.nx ⟨l, 0, resR κ δ l (bfsL κ δ l S k), resM m (bfsL κ δ l S k)⟩) 0 = ix κ (bfsL κ δ l S k) (z.foldl δ S) ∧ hasK κ (bfsL κ δ l S k) (z.foldl δ S) := by
    intro z
    induction z using rev_ind with
    | h0 =>
      intro _
      have hh : hasK κ (bfsL κ δ l S k) S := ⟨S, by have h1 := getD_mem (xs := bfsL κ δ l S k) (i := 0) (by rw [hxl]; exact hk); rwa [hx0] at h1, rfl⟩
      refine ⟨?_, hh⟩
      have h1 := ix_self (κ := κ) (bfsL_nodup κ δ l S k) (i := 0) (by rw [hxl]; exact hk)
      rw [hx0] at h1
      exact h1.symm
    | hs z a ih =>
      intro hz
      have hz1 : ∀ b, b ∈ z → b < l := fun b hb => hz b (List.mem_append_left _ hb)
      have ha : a < l := hz a (by simp)
      obtain ⟨e1, h1⟩ := ih hz1
      rw [List.foldl_append, List.foldl_append, e1]
      simp only [List.foldl_cons, List.foldl_nil]
      have hi := ix_lt h1
      rw [hxl] at hi
      rw [nxe _ a hi ha]
      have hkey := ix_key h1
      have hmem := getD_mem (xs := bfsL κ δ l S k) (i := ix κ (bfsL κ δ l S k) (z.foldl δ S)) (by rw [hxl]; exact hi)
      have hner := (hκ _ _ (hlt _ hmem) (fold_lt z hz1)).1 hkey
      have hk2 := (hκ _ _ (hδ _ _ (hlt _ hmem) ha) (hδ _ _ (fold_lt z hz1) ha)).2 (hner.step ha)
      refine ⟨ix_same hk2, ?_⟩
      have h3 := bfsL_has (κ := κ) (δ := δ) (x0 := S) (j := k) hi (e.go _ hi) ha
      obtain ⟨r, hr, er⟩ := h3
      exact ⟨r, hr, er.trans hk2⟩
  refine ⟨κ, bfsL κ δ l S k, hκ, bfsL_nodup κ δ l S k, by simp [resR], fun i hi => ?_, fun z hz => ⟨(main z hz).1, (main z hz).2, ?_⟩⟩
  · have hi2 : i < (bfsL κ δ l S k).length := by simpa [resR] using hi
    exact bfsL_reach k _ (getD_mem hi2)
  · obtain ⟨e1, h1⟩ := main z hz
    have hi := ix_lt h1
    rw [hxl] at hi
    rw [e1, mke _ hi]
    have hmem := getD_mem (xs := bfsL κ δ l S k) (i := ix κ (bfsL κ δ l S k) (z.foldl δ S)) (by rw [hxl]; exact hi)
    exact ((hκ _ _ (hlt _ hmem) (fold_lt z hz)).1 (ix_key h1)).mark
/-- Each state is come to. -/
theorem LeastOf.reached (h : LeastOf δ m n l S R M) (hδ : ∀ s a, s < n → a < l → δ s a < n) (hS : S < n) {i : Nat} (hi : i < R.length) : ∃ z : List Nat, (∀ b, b ∈ z → b < l) ∧ z.foldl (Dfa.nx ⟨l, 0, R, M⟩) 0 = i := by
  obtain ⟨κ, xs, hκ, hnd, hl, hr, hs⟩ := h.sim hδ hS
  obtain ⟨z, hz, e⟩ := hr i hi
  refine ⟨z, hz, ?_⟩
  rw [(hs z hz).1, ← e]
  exact ix_self hnd (by omega)
/-- It accepts the same words. -/
theorem LeastOf.lang (h : LeastOf δ m n l S R M) (hδ : ∀ s a, s < n → a < l → δ s a < n) (hS : S < n) {z : List Nat} (hz : ∀ b, b ∈ z → b < l) : Dfa.mk1 ⟨l, 0, R, M⟩ (z.foldl (Dfa.nx ⟨l, 0, R, M⟩) 0) = m (z.foldl δ S) := by
  obtain ⟨κ, xs, hκ, hnd, hl, hr, hs⟩ := h.sim hδ hS
  exact (hs z hz).2.2
/-- No two of its states are alike. -/
theorem LeastOf.apart (h : LeastOf δ m n l S R M) (hδ : ∀ s a, s < n → a < l → δ s a < n) (hS : S < n) {p q : Nat} (hp : p < R.length) (hq : q < R.length) (hn : Ner (Dfa.nx ⟨l, 0, R, M⟩) (Dfa.mk1 ⟨l, 0, R, M⟩) l p q) : p = q := by
  obtain ⟨zp, hzp, ep⟩ := h.reached hδ hS hp
  obtain ⟨zq, hzq, eq⟩ := h.reached hδ hS hq
  obtain ⟨κ, xs, hκ, hnd, hl, hr, hs⟩ := h.sim hδ hS
  have fold_lt : ∀ z : List Nat, (∀ b, b ∈ z → b < l) → z.foldl δ S < n := by
    have key : ∀ (z : List Nat) (s : Nat), s < n → (∀ b, b ∈ z → b < l) → z.foldl δ s < n := by
      intro z
      induction z with
      | nil => intro s hs _; exact hs
      | cons a z ih => intro s hs hz; exact ih _ (hδ _ _ hs (hz a (by simp))) (fun b hb => hz b (by simp [hb]))
    exact fun z hz => key z S hS hz
  have hner : Ner δ m l (zp.foldl δ S) (zq.foldl δ S) := fun z hz => by
    have h1 := hn z hz
    have app : ∀ (y : List Nat), (∀ b, b ∈ y → b < l) → Dfa.mk1 ⟨l, 0, R, M⟩ (z.foldl (Dfa.nx ⟨l, 0, R, M⟩) (y.foldl (Dfa.nx ⟨l, 0, R, M⟩) 0)) = m (z.foldl δ (y.foldl δ S)) := fun y hy => by
      have h2 := h.lang hδ hS (z := y ++ z) (fun b hb => by
        rcases List.mem_append.1 hb with hb | hb
        · exact hy b hb
        · exact hz b hb)
      rw [List.foldl_append, List.foldl_append] at h2
      exact h2
    rw [← ep, ← eq, app zp hzp, app zq hzq] at h1
    exact h1
  have hk := (hκ _ _ (fold_lt zp hzp) (fold_lt zq hzq)).2 hner
  rw [← ep, ← eq, (hs zp hzp).1, (hs zq hzq).1]
  exact ix_same hk
end

/-- All that words do is come to. -/
theorem bfsW_all {κ : List Nat → Nat} {l k : Nat} (hκ : ∀ u v a, κ u = κ v → κ (u ++ [a]) = κ (v ++ [a])) (hend : EndW κ l k) (z : List Nat) (hz : ∀ b, b ∈ z → b < l) : κ z ∈ (bfsW κ l k).map κ := by
  have row_has : ∀ (u : List Nat) (a b : Nat) (ws : List (List Nat)), b < a → κ (u ++ [b]) ∈ (rowW κ u a ws).map κ := by
    intro u a
    induction a with
    | zero => intro b ws hb; omega
    | succ a ih =>
      intro b ws hb
      have more : ∀ (xs : List (List Nat)) (v : List Nat) (y : Nat), y ∈ xs.map κ → y ∈ (addW κ xs v).map κ := fun xs v y hy => by
        unfold addW; split
        · exact hy
        · rw [List.map_append]; exact List.mem_append_left _ hy
      by_cases e : b = a
      · subst e
        simp only [rowW]
        unfold addW; split
        · assumption
        · rw [List.map_append]; exact List.mem_append_right _ (by simp)
      · exact more _ _ _ (ih b ws (by omega))
  revert hz
  induction z using rev_ind with
  | h0 =>
    intro _
    obtain ⟨zs, e⟩ := bfsW_le (κ := κ) (l := l) (Nat.zero_le k)
    rw [e, List.map_append]
    exact List.mem_append_left _ (by simp [bfsW])
  | hs z a ih =>
    intro hz
    have ha : a < l := hz a (by simp)
    obtain ⟨u, hu, eu⟩ := List.mem_map.1 (ih (fun b hb => hz b (List.mem_append_left _ hb)))
    obtain ⟨i, hi, rfl⟩ := List.getElem_of_mem hu
    have hik : i < k := by rw [hend.len] at hi; exact hi
    rw [← hκ _ _ a eu]
    have hgo := hend.go i hik
    obtain ⟨zs, e⟩ := bfsW_le (κ := κ) (l := l) (show i + 1 ≤ k by omega)
    obtain ⟨ys, e2⟩ := bfsW_more (κ := κ) (l := l) i
    have hget : (bfsW κ l k)[i] = (bfsW κ l i).getD i [] := by
      have h1 : (bfsW κ l k).getD i [] = (bfsW κ l i).getD i [] := by rw [e, e2, getDL_app _ (by simp; omega), getDL_app _ hgo]
      rw [← h1]; simp [List.getD, hi]
    rw [hget]
    have h3 : κ ((bfsW κ l i).getD i [] ++ [a]) ∈ (bfsW κ l (i + 1)).map κ := by
      simp only [bfsW]
      rw [if_pos hgo]
      exact row_has _ l a _ ha
    rw [e, List.map_append]
    exact List.mem_append_left _ h3

end Go.Proofs.Ytcgkflddipflbaa

namespace Go.Proofs.Ytcgkflddipflbaa
open Go.RowKit
set_option linter.unusedVariables false

theorem LeastOf.good {δ : Nat → Nat → Nat} {m : Nat → Bool} {n l S : Nat} {R : List (List Int)} {M : List Int} (h : LeastOf δ m n l S R M) (hδ : ∀ s a, s < n → a < l → δ s a < n) (hS : S < n) (hl1 : 1 ≤ l) (hl4 : l ≤ 4) (hn : n ≤ 3000) : Good ⟨l, 0, R, M⟩ := by
  obtain ⟨κ, hκ⟩ := ner_key δ m n l
  obtain ⟨k, e, rfl, rfl⟩ := h κ hκ
  have hnd := bfsL_nodup κ δ l S k
  have hlt := bfsL_lt κ hδ hS k
  have hk : k ≤ n := by
    have h1 := nodup_le n (bfsL κ δ l S k) ((List.pairwise_map.1 hnd).imp (fun hne e => hne (by rw [e]))) hlt
    rw [e.len] at h1
    exact h1
  have hk1 : 1 ≤ k := by
    rcases Nat.eq_zero_or_pos k with h0 | h0
    · have h1 := e.len
      subst h0
      simp [bfsL] at h1
    · exact h0
  have hR : (resR κ δ l (bfsL κ δ l S k)).length = k := by simp [resR, e.len]
  have hM : (resM m (bfsL κ δ l S k)).length = k := by simp [resM, e.len]
  have row : ∀ i, i < k → (resR κ δ l (bfsL κ δ l S k)).getD i [] = rowR κ δ l (bfsL κ δ l S k) ((bfsL κ δ l S k).getD i 0) := fun i hi => by
    have : i < (bfsL κ δ l S k).length := by rw [e.len]; exact hi
    simp [resR, List.getD, this]
  refine ⟨by simp only; omega, by simp only; omega, by simp only [hR]; exact hk1, by simp only [hR]; omega, by simp only [hR, hM], fun i hi => ?_, fun i hi x hx => ?_, by simp only [hR]; omega, fun i hi => ?_⟩
  · simp only [hR] at hi ⊢
    rw [row i hi]; simp [rowR]
  · simp only [hR] at hi ⊢
    simp only at hx
    rw [row i hi] at hx ⊢
    have hxl : x < l := by simpa [rowR] using hx
    have h1 := bfsL_has (κ := κ) (δ := δ) (x0 := S) (j := k) hi (e.go i hi) hxl
    have h2 := ix_lt h1
    rw [e.len] at h2
    have e2 : (rowR κ δ l (bfsL κ δ l S k) ((bfsL κ δ l S k).getD i 0)).getD x 0 = ((ix κ (bfsL κ δ l S k) (δ ((bfsL κ δ l S k).getD i 0) x) : Nat) : Int) := by simp [rowR, List.getD, hxl]
    rw [e2]
    omega
  · simp only [hM] at hi
    have hi2 : i < (bfsL κ δ l S k).length := by rw [e.len]; exact hi
    have e3 : (resM m (bfsL κ δ l S k)).getD i 0 = if m ((bfsL κ δ l S k).getD i 0) = true then 1 else 0 := by simp [resM, List.getD, hi2]
    simp only
    rw [e3]
    split
    · exact .inr rfl
    · exact .inl rfl

end Go.Proofs.Ytcgkflddipflbaa

namespace Go.Proofs.Ytcgkflddipflbaa
open Go.RowKit
set_option linter.unusedVariables false

def accD (d : Dfa) (z : List Nat) : Bool := d.mk1 (z.foldl d.nx d.S.toNat)
def Lets (l : Nat) (z : List Nat) : Prop := ∀ b, b ∈ z → b < l

section
variable {δ δ' : Nat → Nat → Nat} {m m' : Nat → Bool} {n n' l S S' : Nat} {R R' : List (List Int)} {M M' : List Int}
theorem foldK_lt (hδ : ∀ s a, s < n → a < l → δ s a < n) : ∀ (z : List Nat) (s : Nat), s < n → Lets l z → z.foldl δ s < n := by
  intro z
  induction z with
  | nil => intro s hs _; exact hs
  | cons a z ih => intro s hs hz; exact ih _ (hδ _ _ hs (hz a (by simp))) (fun b hb => hz b (by simp [hb]))
/-- Two automata that accept the same words have one least automaton. -/
theorem least_lang (h : LeastOf δ m n l S R M) (h' : LeastOf δ' m' n' l S' R' M') (hδ : ∀ s a, s < n → a < l → δ s a < n) (hδ' : ∀ s a, s < n' → a < l → δ' s a < n') (hS : S < n) (hS' : S' < n')
    (he : ∀ z, Lets l z → m (z.foldl δ S) = m' (z.foldl δ' S')) : R = R' ∧ M = M' := by
  obtain ⟨κ, hκ⟩ := ner_key δ m n l
  obtain ⟨κ', hκ'⟩ := ner_key δ' m' n' l
  obtain ⟨k, e, r1, m1⟩ := h κ hκ
  obtain ⟨k', e', r2, m2⟩ := h' κ' hκ'
  have h0 : ∃ z, Lets l z ∧ S = z.foldl δ S ∧ S' = z.foldl δ' S' := ⟨[], fun b hb => by simp at hb, rfl, rfl⟩
  have hs : ∀ x y a, (∃ z, Lets l z ∧ x = z.foldl δ S ∧ y = z.foldl δ' S') → a < l → ∃ z, Lets l z ∧ δ x a = z.foldl δ S ∧ δ' y a = z.foldl δ' S' := by
    rintro x y a ⟨z, hz, rfl, rfl⟩ ha
    refine ⟨z ++ [a], fun b hb => ?_, by simp, by simp⟩
    rcases List.mem_append.1 hb with hb | hb
    · exact hz b hb
    · simp only [List.mem_singleton] at hb; omega
  have key : ∀ z z1 : List Nat, Lets l z → Lets l z1 → (Ner δ m l (z.foldl δ S) (z1.foldl δ S) ↔ Ner δ' m' l (z.foldl δ' S') (z1.foldl δ' S')) := by
    intro z z1 hz hz1
    have app : ∀ y u : List Nat, Lets l y → Lets l u → m (u.foldl δ (y.foldl δ S)) = m' (u.foldl δ' (y.foldl δ' S')) := fun y u hy hu => by
      have := he (y ++ u) (fun b hb => (List.mem_append.1 hb).elim (hy b) (hu b))
      simpa using this
    constructor
    · intro hn u hu
      rw [← app z u hz hu, ← app z1 u hz1 hu]; exact hn u hu
    · intro hn u hu
      rw [app z u hz hu, app z1 u hz1 hu]; exact hn u hu
  have hk : ∀ x y x' y', (∃ z, Lets l z ∧ x = z.foldl δ S ∧ y = z.foldl δ' S') → (∃ z, Lets l z ∧ x' = z.foldl δ S ∧ y' = z.foldl δ' S') → (κ x = κ x' ↔ κ' y = κ' y') := by
    rintro x y x' y' ⟨z, hz, rfl, rfl⟩ ⟨z1, hz1, rfl, rfl⟩
    rw [hκ _ _ (foldK_lt hδ z S hS hz) (foldK_lt hδ z1 S hS hz1), hκ' _ _ (foldK_lt hδ' z S' hS' hz) (foldK_lt hδ' z1 S' hS' hz1)]
    exact key z z1 hz hz1
  obtain ⟨q1, q2⟩ := beside_res (m1 := m) (m2 := m') (ρ := fun x y => ∃ z, Lets l z ∧ x = z.foldl δ S ∧ y = z.foldl δ' S') h0 hs hk (by rintro x y ⟨z, hz, rfl, rfl⟩; exact he z hz) e e'
  exact ⟨r1.trans (q1.trans r2.symm), m1.trans (q2.trans m2.symm)⟩
theorem least_acc (h : LeastOf δ m n l S R M) (hδ : ∀ s a, s < n → a < l → δ s a < n) (hS : S < n) {z : List Nat} (hz : Lets l z) : accD ⟨l, 0, R, M⟩ z = m (z.foldl δ S) := by
  obtain ⟨κ, xs, _, _, _, _, h5⟩ := h.sim hδ hS
  exact (h5 z hz).2.2
end

end Go.Proofs.Ytcgkflddipflbaa
