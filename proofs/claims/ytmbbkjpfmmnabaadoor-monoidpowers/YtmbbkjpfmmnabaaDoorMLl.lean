/- The least automaton goes beside the one that it is of; all of its states are come to, and no two are alike; all that words do is come to (no program). -/
/- Five times a word, and six times: where no word counts they do the same, where one counts they do not (no program). -/
import Derived.Test.YtmbbkjpfmmnabaaDoorHLeastD
import Derived.Test.YtmbbkjpfmmnabaaDoorLMath
namespace Go.Proofs.YtmbbkjpfmmnabaaDoor
set_option linter.unusedVariables false

/-- From behind. -/
theorem rev_ind {P : List Nat → Prop} (h0 : P []) (hs : ∀ z a, P z → P (z ++ [a])) (z : List Nat) : P z := by
  have h : ∀ y : List Nat, P y.reverse := by
    intro y
    induction y with
    | nil => exact h0
    | cons a y ih => rw [List.reverse_cons]; exact hs _ _ ih
  have := h z.reverse
  rwa [List.reverse_reverse] at this
section
variable {κ : Nat → Nat} {δ : Nat → Nat → Nat} {l x0 : Nat}
theorem ix_same {xs : List Nat} {y y' : Nat} (h : κ y = κ y') : ix κ xs y = ix κ xs y' := by
  induction xs with
  | nil => rfl
  | cons x xs ih => simp only [ix]; rw [h, ih]
theorem ix_self {xs : List Nat} (hnd : (xs.map κ).Nodup) {i : Nat} (hi : i < xs.length) : ix κ xs (xs.getD i 0) = i := by
  induction xs generalizing i with
  | nil => simp at hi
  | cons x xs ih =>
    simp only [List.map_cons, List.nodup_cons] at hnd
    cases i with
    | zero => simp [ix]
    | succ i =>
      have hi' : i < xs.length := by simpa using hi
      have e1 : (x :: xs).getD (i + 1) 0 = xs.getD i 0 := by simp [List.getD]
      rw [e1]
      simp only [ix]
      rw [if_neg (fun e => hnd.1 (by rw [e]; exact List.mem_map.2 ⟨_, getD_mem hi', rfl⟩)), ih hnd.2 hi']
theorem rowL_reach {x a : Nat} {xs : List Nat} (ha : a ≤ l) (hx : ∃ z : List Nat, (∀ b, b ∈ z → b < l) ∧ x = z.foldl δ x0) (h : ∀ y, y ∈ xs → ∃ z : List Nat, (∀ b, b ∈ z → b < l) ∧ y = z.foldl δ x0) : ∀ y, y ∈ rowL κ δ x a xs → ∃ z : List Nat, (∀ b, b ∈ z → b < l) ∧ y = z.foldl δ x0 := by
  induction a with
  | zero => exact h
  | succ a ih =>
    intro y hy
    simp only [rowL, ins] at hy
    split at hy
    · exact ih (by omega) y hy
    · rcases List.mem_append.1 hy with hy | hy
      · exact ih (by omega) y hy
      · simp only [List.mem_singleton] at hy
        obtain ⟨z, hz, rfl⟩ := hx
        refine ⟨z ++ [a], fun b hb => ?_, by rw [hy, List.foldl_append]; rfl⟩
        rcases List.mem_append.1 hb with hb | hb
        · exact hz b hb
        · simp only [List.mem_singleton] at hb; omega
theorem bfsL_reach (i : Nat) : ∀ y, y ∈ bfsL κ δ l x0 i → ∃ z : List Nat, (∀ b, b ∈ z → b < l) ∧ y = z.foldl δ x0 := by
  induction i with
  | zero => intro y hy; simp only [bfsL, List.mem_singleton] at hy; exact ⟨[], by simp, hy⟩
  | succ i ih =>
    simp only [bfsL]; split
    · next h => exact rowL_reach (Nat.le_refl _) (ih _ (getD_mem h)) ih
    · exact ih
end
section
variable {δ : Nat → Nat → Nat} {m : Nat → Bool} {n l S : Nat} {R : List (List Int)} {M : List Int}
/-- Where a word leads in the least one, by a key. -/
theorem LeastOf.sim (h : LeastOf δ m n l S R M) (hδ : ∀ s a, s < n → a < l → δ s a < n) (hS : S < n) : ∃ (κ : Nat → Nat) (xs : List Nat), (∀ p q, p < n → q < n → (κ p = κ q ↔ Ner δ m l p q)) ∧ (xs.map κ).Nodup ∧ xs.length = R.length ∧ (∀ i, i < R.length → ∃ z : List Nat, (∀ b, b ∈ z → b < l) ∧ xs.getD i 0 = z.foldl δ S) ∧
    ∀ z : List Nat, (∀ b, b ∈ z → b < l) → z.foldl (Dfa.nx ⟨l, 0, R, M⟩) 0 = ix κ xs (z.foldl δ S) ∧ hasK κ xs (z.foldl δ S) ∧ Dfa.mk1 ⟨l, 0, R, M⟩ (z.foldl (Dfa.nx ⟨l, 0, R, M⟩) 0) = m (z.foldl δ S) := by
  obtain ⟨κ, hκ⟩ := ner_key δ m n l
  obtain ⟨k, e, rfl, rfl⟩ := h κ hκ
  have hxl : (bfsL κ δ l S k).length = k := e.len
  have hlt := bfsL_lt κ hδ hS k
  have hk : 0 < k := by
    rcases Nat.eq_zero_or_pos k with h0 | h0
    · subst h0; have := e.len; simp [bfsL] at this
    · exact h0
  have hx0 : (bfsL κ δ l S k).getD 0 0 = S := by
    obtain ⟨zs, h1⟩ := bfsL_le κ δ l S (Nat.zero_le k)
    rw [h1]; simp [bfsL]
  have fold_lt : ∀ z : List Nat, (∀ b, b ∈ z → b < l) → z.foldl δ S < n := by
    have key : ∀ (z : List Nat) (s : Nat), s < n → (∀ b, b ∈ z → b < l) → z.foldl δ s < n := by
      intro z
      induction z with
      | nil => intro s hs _; exact hs
      | cons a z ih => intro s hs hz; exact ih _ (hδ _ _ hs (hz a (by simp))) (fun b hb => hz b (by simp [hb]))
    exact fun z hz => key z S hS hz
  have nxe : ∀ i a, i < k → a < l → Dfa.nx ⟨l, 0, resR κ δ l (bfsL κ δ l S k), resM m (bfsL κ δ l S k)⟩ i a = ix κ (bfsL κ δ l S k) (δ ((bfsL κ δ l S k).getD i 0) a) := fun i a hi ha => by
    have hi2 : i < (bfsL κ δ l S k).length := by rw [hxl]; exact hi
    unfold Dfa.nx
    have e1 : (resR κ δ l (bfsL κ δ l S k)).getD i [] = rowR κ δ l (bfsL κ δ l S k) ((bfsL κ δ l S k).getD i 0) := by simp [resR, List.getD, hi2]
    simp only
    rw [e1]
    simp [rowR, List.getD, ha]
  have mke : ∀ i, i < k → Dfa.mk1 ⟨l, 0, resR κ δ l (bfsL κ δ l S k), resM m (bfsL κ δ l S k)⟩ i = m ((bfsL κ δ l S k).getD i 0) := fun i hi => by
    have hi2 : i < (bfsL κ δ l S k).length := by rw [hxl]; exact hi
    have e3 : (resM m (bfsL κ δ l S k)).getD i 0 = if m ((bfsL κ δ l S k).getD i 0) = true then 1 else 0 := by simp [resM, List.getD, hi2]
    unfold Dfa.mk1
    simp only
    rw [e3]
    cases m ((bfsL κ δ l S k).getD i 0) <;> simp
  have main : ∀ z : List Nat, (∀ b, b ∈ z → b < l) → z.foldl (Dfa.nx ⟨l, 0, resR κ δ l (bfsL κ δ l S k), resM m (bfsL κ δ l S k)⟩) 0 = ix κ (bfsL κ δ l S k) (z.foldl δ S) ∧ hasK κ (bfsL κ δ l S k) (z.foldl δ S) := by
    intro z
    induction z using rev_ind with
    | h0 =>
      intro _
      have hh : hasK κ (bfsL κ δ l S k) S := ⟨S, by have h1 := getD_mem (xs := bfsL κ δ l S k) (i := 0) (by rw [hxl]; exact hk); rwa [hx0] at h1, rfl⟩
      refine ⟨?_, hh⟩
      have h1 := ix_self (κ := κ) (bfsL_nodup κ δ l S k) (i := 0) (by rw [hxl]; exact hk)
      rw [hx0] at h1
      exact h1.symm
    | hs z a ih =>
      intro hz
      have hz1 : ∀ b, b ∈ z → b < l := fun b hb => hz b (List.mem_append_left _ hb)
      have ha : a < l := hz a (by simp)
      obtain ⟨e1, h1⟩ := ih hz1
      rw [List.foldl_append, List.foldl_append, e1]
      simp only [List.foldl_cons, List.foldl_nil]
      have hi := ix_lt h1
      rw [hxl] at hi
      rw [nxe _ a hi ha]
      have hkey := ix_key h1
      have hmem := getD_mem (xs := bfsL κ δ l S k) (i := ix κ (bfsL κ δ l S k) (z.foldl δ S)) (by rw [hxl]; exact hi)
      have hner := (hκ _ _ (hlt _ hmem) (fold_lt z hz1)).1 hkey
      have hk2 := (hκ _ _ (hδ _ _ (hlt _ hmem) ha) (hδ _ _ (fold_lt z hz1) ha)).2 (hner.step ha)
      refine ⟨ix_same hk2, ?_⟩
      have h3 := bfsL_has (κ := κ) (δ := δ) (x0 := S) (j := k) hi (e.go _ hi) ha
      obtain ⟨r, hr, er⟩ := h3
      exact ⟨r, hr, er.trans hk2⟩
  refine ⟨κ, bfsL κ δ l S k, hκ, bfsL_nodup κ δ l S k, by simp [resR], fun i hi => ?_, fun z hz => ⟨(main z hz).1, (main z hz).2, ?_⟩⟩
  · have hi2 : i < (bfsL κ δ l S k).length := by simpa [resR] using hi
    exact bfsL_reach k _ (getD_mem hi2)
  · obtain ⟨e1, h1⟩ := main z hz
    have hi := ix_lt h1
    rw [hxl] at hi
    rw [e1, mke _ hi]
    have hmem := getD_mem (xs := bfsL κ δ l S k) (i := ix κ (bfsL κ δ l S k) (z.foldl δ S)) (by rw [hxl]; exact hi)
    exact ((hκ _ _ (hlt _ hmem) (fold_lt z hz)).1 (ix_key h1)).mark
/-- Each state is come to. -/
theorem LeastOf.reached (h : LeastOf δ m n l S R M) (hδ : ∀ s a, s < n → a < l → δ s a < n) (hS : S < n) {i : Nat} (hi : i < R.length) : ∃ z : List Nat, (∀ b, b ∈ z → b < l) ∧ z.foldl (Dfa.nx ⟨l, 0, R, M⟩) 0 = i := by
  obtain ⟨κ, xs, hκ, hnd, hl, hr, hs⟩ := h.sim hδ hS
  obtain ⟨z, hz, e⟩ := hr i hi
  refine ⟨z, hz, ?_⟩
  rw [(hs z hz).1, ← e]
  exact ix_self hnd (by omega)
/-- It accepts the same words. -/
theorem LeastOf.lang (h : LeastOf δ m n l S R M) (hδ : ∀ s a, s < n → a < l → δ s a < n) (hS : S < n) {z : List Nat} (hz : ∀ b, b ∈ z → b < l) : Dfa.mk1 ⟨l, 0, R, M⟩ (z.foldl (Dfa.nx ⟨l, 0, R, M⟩) 0) = m (z.foldl δ S) := by
  obtain ⟨κ, xs, hκ, hnd, hl, hr, hs⟩ := h.sim hδ hS
  exact (hs z hz).2.2
/-- No two of its states are alike. -/
theorem LeastOf.apart (h : LeastOf δ m n l S R M) (hδ : ∀ s a, s < n → a < l → δ s a < n) (hS : S < n) {p q : Nat} (hp : p < R.length) (hq : q < R.length) (hn : Ner (Dfa.nx ⟨l, 0, R, M⟩) (Dfa.mk1 ⟨l, 0, R, M⟩) l p q) : p = q := by
  obtain ⟨zp, hzp, ep⟩ := h.reached hδ hS hp
  obtain ⟨zq, hzq, eq⟩ := h.reached hδ hS hq
  obtain ⟨κ, xs, hκ, hnd, hl, hr, hs⟩ := h.sim hδ hS
  have fold_lt : ∀ z : List Nat, (∀ b, b ∈ z → b < l) → z.foldl δ S < n := by
    have key : ∀ (z : List Nat) (s : Nat), s < n → (∀ b, b ∈ z → b < l) → z.foldl δ s < n := by
      intro z
      induction z with
      | nil => intro s hs _; exact hs
      | cons a z ih => intro s hs hz; exact ih _ (hδ _ _ hs (hz a (by simp))) (fun b hb => hz b (by simp [hb]))
    exact fun z hz => key z S hS hz
  have hner : Ner δ m l (zp.foldl δ S) (zq.foldl δ S) := fun z hz => by
    have h1 := hn z hz
    have app : ∀ (y : List Nat), (∀ b, b ∈ y → b < l) → Dfa.mk1 ⟨l, 0, R, M⟩ (z.foldl (Dfa.nx ⟨l, 0, R, M⟩) (y.foldl (Dfa.nx ⟨l, 0, R, M⟩) 0)) = m (z.foldl δ (y.foldl δ S)) := fun y hy => by
      have h2 := h.lang hδ hS (z := y ++ z) (fun b hb => by
        rcases List.mem_append.1 hb with hb | hb
        · exact hy b hb
        · exact hz b hb)
      rw [List.foldl_append, List.foldl_append] at h2
      exact h2
    rw [← ep, ← eq, app zp hzp, app zq hzq] at h1
    exact h1
  have hk := (hκ _ _ (fold_lt zp hzp) (fold_lt zq hzq)).2 hner
  rw [← ep, ← eq, (hs zp hzp).1, (hs zq hzq).1]
  exact ix_same hk
end

/-- All that words do is come to. -/
theorem bfsW_all {κ : List Nat → Nat} {l k : Nat} (hκ : ∀ u v a, κ u = κ v → κ (u ++ [a]) = κ (v ++ [a])) (hend : EndW κ l k) (z : List Nat) (hz : ∀ b, b ∈ z → b < l) : κ z ∈ (bfsW κ l k).map κ := by
  have row_has : ∀ (u : List Nat) (a b : Nat) (ws : List (List Nat)), b < a → κ (u ++ [b]) ∈ (rowW κ u a ws).map κ := by
    intro u a
    induction a with
    | zero => intro b ws hb; omega
    | succ a ih =>
      intro b ws hb
      have more : ∀ (xs : List (List Nat)) (v : List Nat) (y : Nat), y ∈ xs.map κ → y ∈ (addW κ xs v).map κ := fun xs v y hy => by
        unfold addW; split
        · exact hy
        · rw [List.map_append]; exact List.mem_append_left _ hy
      by_cases e : b = a
      · subst e
        simp only [rowW]
        unfold addW; split
        · assumption
        · rw [List.map_append]; exact List.mem_append_right _ (by simp)
      · exact more _ _ _ (ih b ws (by omega))
  revert hz
  induction z using rev_ind with
  | h0 =>
    intro _
    obtain ⟨zs, e⟩ := bfsW_le (κ := κ) (l := l) (Nat.zero_le k)
    rw [e, List.map_append]
    exact List.mem_append_left _ (by simp [bfsW])
  | hs z a ih =>
    intro hz
    have ha : a < l := hz a (by simp)
    obtain ⟨u, hu, eu⟩ := List.mem_map.1 (ih (fun b hb => hz b (List.mem_append_left _ hb)))
    obtain ⟨i, hi, rfl⟩ := List.getElem_of_mem hu
    have hik : i < k := by rw [hend.len] at hi; exact hi
    rw [← hκ _ _ a eu]
    have hgo := hend.go i hik
    obtain ⟨zs, e⟩ := bfsW_le (κ := κ) (l := l) (show i + 1 ≤ k by omega)
    obtain ⟨ys, e2⟩ := bfsW_more (κ := κ) (l := l) i
    have hget : (bfsW κ l k)[i] = (bfsW κ l i).getD i [] := by
      have h1 : (bfsW κ l k).getD i [] = (bfsW κ l i).getD i [] := by rw [e, e2, getDL_app _ (by simp; omega), getDL_app _ hgo]
      rw [← h1]; simp [List.getD, hi]
    rw [hget]
    have h3 : κ ((bfsW κ l i).getD i [] ++ [a]) ∈ (bfsW κ l (i + 1)).map κ := by
      simp only [bfsW]
      rw [if_pos hgo]
      exact row_has _ l a _ ha
    rw [e, List.map_append]
    exact List.mem_append_left _ h3

end Go.Proofs.YtmbbkjpfmmnabaaDoor

namespace Go.Proofs.YtmbbkjpfmmnabaaDoor
set_option linter.unusedVariables false

/-- A word so many times. -/
def pw (u : List Nat) : Nat → List Nat
  | 0 => []
  | k + 1 => pw u k ++ u
theorem pw_len (u : List Nat) (k : Nat) : (pw u k).length = k * u.length := by
  induction k with
  | zero => simp [pw]
  | succ k ih => simp [pw, ih, Nat.succ_mul]
theorem pw_mem {u : List Nat} {l : Nat} (h : ∀ x, x ∈ u → x < l) (k : Nat) : ∀ x, x ∈ pw u k → x < l := by
  induction k with
  | zero => intro x hx; simp [pw] at hx
  | succ k ih =>
    intro x hx
    rcases List.mem_append.1 hx with hx | hx
    · exact ih x hx
    · exact h x hx
theorem itr_add (c i j s : Nat) : itr c (i + j) s = itr c i (itr c j s) := by
  induction i with
  | zero => rw [Nat.zero_add]; rfl
  | succ i ih => rw [Nat.succ_add]; show dg c (itr c (i + j) s) = dg c (itr c i (itr c j s)); rw [ih]
theorem itr_fix {c x : Nat} (h : dg c x = x) (k : Nat) : itr c k x = x := by
  induction k with
  | zero => rfl
  | succ k ih => show dg c (itr c k x) = x; rw [ih]; exact h
section
variable {δ : Nat → Nat → Nat} {n l : Nat}
theorem pw_fold (hn : n ≤ 5) (hδ : ∀ s a, s < n → a < l → δ s a < n) {u : List Nat} (hu : ∀ x, x ∈ u → x < l) {s : Nat} (hs : s < n) (k : Nat) : (pw u k).foldl δ s = itr (deed δ n u) k s ∧ itr (deed δ n u) k s < n := by
  have hd := (deed_facts hn hδ u hu).2.1
  induction k with
  | zero => exact ⟨rfl, hs⟩
  | succ k ih =>
    obtain ⟨h1, h2⟩ := ih
    obtain ⟨h3, h4⟩ := hd _ h2
    constructor
    · simp only [pw, List.foldl_append]
      rw [h1, ← h3]
      rfl
    · show dg _ _ < n
      rw [h3]; exact h4
/-- The deeds of two powers are one if they are one at each state. -/
theorem pw_same (hn : n ≤ 5) (hδ : ∀ s a, s < n → a < l → δ s a < n) {u : List Nat} (hu : ∀ x, x ∈ u → x < l) (i j : Nat) : deed δ n (pw u i) = deed δ n (pw u j) ↔ ∀ s, s < n → itr (deed δ n u) i s = itr (deed δ n u) j s := by
  have f1 := deed_facts hn hδ (pw u i) (pw_mem hu i)
  have f2 := deed_facts hn hδ (pw u j) (pw_mem hu j)
  constructor
  · intro h s hs
    rw [← (pw_fold hn hδ hu hs i).1, ← (pw_fold hn hδ hu hs j).1, ← (f1.2.1 s hs).1, ← (f2.2.1 s hs).1, h]
  · intro h
    refine does_inj hn hδ (pw_mem hu i) (pw_mem hu j) ?_
    unfold doesL
    refine List.map_congr_left fun s hs => ?_
    have hs' := List.mem_range.1 hs
    rw [(f1.2.1 s hs').1, (f2.2.1 s hs').1, (pw_fold hn hδ hu hs' i).1, (pw_fold hn hδ hu hs' j).1]
    exact h s hs'
end
theorem rnd_back {c s : Nat} (h : rnd c s ≠ 0) : itr c (rnd c s) s = s := by
  unfold rnd at h ⊢
  repeat' (first | (split at h <;> simp_all; done) | split)
  all_goals first | assumption | simp_all
theorem rnd_one {c s : Nat} : rnd c s = 1 ↔ dg c s = s := by
  unfold rnd
  constructor
  · intro h
    by_cases e : itr c 1 s = s
    · exact e
    · rw [if_neg e] at h
      repeat' (first | omega | split at h)
  · intro h
    rw [if_pos (show itr c 1 s = s from h)]
/-- Whether a state is come back to behind more than once. -/
theorem cbk_pos {c : Nat} : ∀ k, 0 < cbk c k ↔ ∃ s, s < k ∧ 1 < rnd c s
  | 0 => by simp [cbk]
  | k + 1 => by
    have ih := cbk_pos (c := c) k
    rw [cbk_step]
    unfold bst
    constructor
    · intro h
      by_cases e : 1 < rnd c k ∧ (cbk c k = 0 ∨ rnd c k < cbk c k)
      · exact ⟨k, by omega, e.1⟩
      · rw [if_neg e] at h
        obtain ⟨s, h1, h2⟩ := ih.1 h
        exact ⟨s, by omega, h2⟩
    · rintro ⟨s, h1, h2⟩
      by_cases e : 1 < rnd c k ∧ (cbk c k = 0 ∨ rnd c k < cbk c k)
      · rw [if_pos e]; omega
      · rw [if_neg e]
        by_cases hs : s = k
        · subst hs
          rcases Nat.eq_zero_or_pos (cbk c s) with h0 | h0
          · exact absurd ⟨h2, .inl h0⟩ e
          · exact h0
        · exact ih.2 ⟨s, by omega, h2⟩
theorem cbk_one {c : Nat} : ∀ k, 0 < cbk c k → 1 < cbk c k
  | 0, h => by simp [cbk] at h
  | k + 1, h => by
    have ih := cbk_one (c := c) k
    rw [cbk_step] at h ⊢
    unfold bst at h ⊢
    split at h
    · next e => rw [if_pos e]; exact e.1
    · next e => rw [if_neg e]; exact ih h

theorem itr_mul {c r s : Nat} (h : itr c r s = s) : ∀ k, itr c (r * k) s = s
  | 0 => rfl
  | k + 1 => by rw [Nat.mul_succ, itr_add, h, itr_mul h k]
theorem rnd_zero {c s k : Nat} (h : rnd c s = 0) (h1 : 1 ≤ k) (h5 : k ≤ 5) : itr c k s ≠ s := by
  intro e
  by_cases e1 : itr c 1 s = s
  · rw [rnd_first (k := 0) (by omega) e1 (fun j _ _ => by omega)] at h; omega
  by_cases e2 : itr c 2 s = s
  · rw [rnd_first (k := 1) (by omega) e2 (fun j a b => by
      have : j = 1 := by omega
      rw [this]; exact e1)] at h; omega
  by_cases e3 : itr c 3 s = s
  · rw [rnd_first (k := 2) (by omega) e3 (fun j a b => by
      have : j = 1 ∨ j = 2 := by omega
      rcases this with rfl | rfl <;> assumption)] at h; omega
  by_cases e4 : itr c 4 s = s
  · rw [rnd_first (k := 3) (by omega) e4 (fun j a b => by
      have : j = 1 ∨ j = 2 ∨ j = 3 := by omega
      rcases this with rfl | rfl | rfl <;> assumption)] at h; omega
  by_cases e5 : itr c 5 s = s
  · rw [rnd_first (k := 4) (by omega) e5 (fun j a b => by
      have : j = 1 ∨ j = 2 ∨ j = 3 ∨ j = 4 := by omega
      rcases this with rfl | rfl | rfl | rfl <;> assumption)] at h; omega
  have : k = 1 ∨ k = 2 ∨ k = 3 ∨ k = 4 ∨ k = 5 := by omega
  rcases this with rfl | rfl | rfl | rfl | rfl <;> contradiction
section
variable {δ : Nat → Nat → Nat} {n l : Nat}
theorem pow_counts (hn : n ≤ 5) (hδ : ∀ s a, s < n → a < l → δ s a < n) {u : List Nat} (hu : ∀ x, x ∈ u → x < l) (h : 0 < cbk (deed δ n u) 5) : deed δ n (pw u 5) ≠ deed δ n (pw u 6) := by
  intro he
  have hs := (pw_same hn hδ hu 5 6).1 he
  obtain ⟨s, hs5, hr⟩ := (cbk_pos 5).1 h
  have hsn : s < n := by
    rcases Nat.lt_or_ge s n with h1 | h1
    · exact h1
    · have := rnd_one.2 ((deed_facts hn hδ u hu).2.2 s h1 hs5)
      omega
  have hx := hs s hsn
  generalize deed δ n u = c at *
  have hfix : dg c (itr c 5 s) = itr c 5 s := by
    have e : itr c 6 s = dg c (itr c 5 s) := rfl
    rw [← e, ← hx]
  have hb := rnd_back (c := c) (s := s) (by omega)
  have h5 := itr_mul hb 5
  have e2 : rnd c s * 5 = (rnd c s * 5 - 5) + 5 := by omega
  rw [e2, itr_add, itr_fix hfix] at h5
  rw [h5] at hfix
  have := rnd_one.2 hfix
  omega
theorem pow_rest (hn : n ≤ 5) (hδ : ∀ s a, s < n → a < l → δ s a < n) {u : List Nat} (hu : ∀ x, x ∈ u → x < l) (h : cbk (deed δ n u) 5 = 0) : deed δ n (pw u 5) = deed δ n (pw u 6) := by
  refine (pw_same hn hδ hu 5 6).2 fun s hs => ?_
  have hlt := fun k => (pw_fold hn hδ hu hs k).2
  have hno : ∀ x, x < 5 → ¬ 1 < rnd (deed δ n u) x := fun x hx hr => by
    have := (cbk_pos (c := deed δ n u) 5).2 ⟨x, hx, hr⟩
    omega
  generalize deed δ n u = c at *
  have hdup : ∃ a b, a < b ∧ b < 6 ∧ itr c a s = itr c b s := by
    refine Classical.byContradiction fun hc => ?_
    have hnd : ((List.range 6).map fun i => itr c i s).Nodup := by
      refine List.pairwise_map.2 ((List.pairwise_lt_range (n := 6)).imp_of_mem fun {a b} ha hb hab e => ?_)
      exact hc ⟨a, b, hab, List.mem_range.1 hb, e⟩
    have h2 := nodup_le n _ hnd (fun x hx => by obtain ⟨i, _, rfl⟩ := List.mem_map.1 hx; exact hlt i)
    simp at h2
    omega
  obtain ⟨a, b, hab, hb6, he⟩ := hdup
  have hper : itr c (b - a) (itr c a s) = itr c a s := by
    rw [← itr_add, show b - a + a = b by omega, he]
  have hr1 : rnd c (itr c a s) = 1 := by
    have h0 : rnd c (itr c a s) ≠ 0 := fun h0 => rnd_zero h0 (by omega) (by omega) hper
    have := hno (itr c a s) (by have := hlt a; omega)
    omega
  have hfix := rnd_one.1 hr1
  have e5 : itr c 5 s = itr c a s := by rw [show 5 = (5 - a) + a by omega, itr_add, itr_fix hfix]
  have e6 : itr c 6 s = itr c a s := by
    show dg c (itr c 5 s) = _
    rw [e5]; exact hfix
  rw [e5, e6]
/-- Where no word that is come to counts, none does. -/
theorem none_counts {k : Nat} (hend : EndW (deed δ n) l k) (h : ∀ v, v ∈ bfsW (deed δ n) l k → cbk (deed δ n v) 5 = 0) {u : List Nat} (hu : ∀ x, x ∈ u → x < l) : cbk (deed δ n u) 5 = 0 := by
  have h1 := bfsW_all (κ := deed δ n) (fun u v a e => by rw [deed_snoc, deed_snoc, e]) hend u hu
  obtain ⟨v, hv, e⟩ := List.mem_map.1 h1
  rw [← e]
  exact h v hv
end

end Go.Proofs.YtmbbkjpfmmnabaaDoor
