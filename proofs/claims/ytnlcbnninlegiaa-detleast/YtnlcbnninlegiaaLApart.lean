/- The first word that tells two states apart, without the program: words in their order, a walk through them that leaves words out, kin. -/
import Derived.Test.YtnlcbnninlegiaaLHop
namespace Go.Proofs.Ytnlcbnninlegiaa
set_option linter.unusedVariables false

/-- A word's place in the order of all words: shorter ones first, then letter by letter. -/
def numF (l : Nat) (k : Nat) (w : List Nat) : Nat := w.foldl (fun k a => k * l + a + 1) k
abbrev num (l : Nat) (w : List Nat) : Nat := numF l 0 w
theorem numF_app (l k : Nat) (u v : List Nat) : numF l k (u ++ v) = numF l (numF l k u) v := by simp [numF, List.foldl_append]
theorem num_snoc (l : Nat) (u : List Nat) (a : Nat) : num l (u ++ [a]) = num l u * l + a + 1 := by simp [num, numF, List.foldl_append]
theorem numF_lt {l : Nat} (hl : 1 ≤ l) (v : List Nat) : ∀ {k k' : Nat}, k < k' → numF l k v < numF l k' v := by
  induction v with
  | nil => intro k k' h; exact h
  | cons a v ih =>
    intro k k' h
    refine ih ?_
    have := Nat.mul_lt_mul_of_pos_right h (show 0 < l by omega)
    show k * l + a + 1 < k' * l + a + 1
    omega
theorem num_app_lt {l : Nat} (hl : 1 ≤ l) {u u' : List Nat} (v : List Nat) (h : num l u < num l u') : num l (u ++ v) < num l (u' ++ v) := by
  unfold num at *
  rw [numF_app, numF_app]
  exact numF_lt hl v h
theorem num_le_app {l : Nat} (hl : 1 ≤ l) (k : Nat) (v : List Nat) : k ≤ numF l k v := by
  induction v generalizing k with
  | nil => exact Nat.le_refl _
  | cons a v ih =>
    refine Nat.le_trans ?_ (ih (k * l + a + 1))
    have := Nat.mul_le_mul_left k hl
    omega
theorem num_inj {l : Nat} (hl : 1 ≤ l) : ∀ (n : Nat) {u v : List Nat}, u.length = n → (∀ a, a ∈ u → a < l) → (∀ a, a ∈ v → a < l) → num l u = num l v → u = v := by
  intro n
  induction n with
  | zero =>
    intro u v hn hu hv h
    have : u = [] := List.length_eq_zero_iff.1 hn
    subst this
    rcases List.eq_nil_or_concat v with rfl | ⟨v', b, rfl⟩
    · rfl
    · rw [List.concat_eq_append, num_snoc] at h
      simp [num, numF] at h
  | succ n ih =>
    intro u v hn hu hv h
    rcases List.eq_nil_or_concat u with rfl | ⟨u', a, rfl⟩
    · simp at hn
    · rw [List.concat_eq_append] at *
      rcases List.eq_nil_or_concat v with rfl | ⟨v', b, rfl⟩
      · rw [num_snoc] at h
        simp [num, numF] at h
      · rw [List.concat_eq_append] at *
        rw [num_snoc, num_snoc] at h
        have ha := hu a (by simp)
        have hb := hv b (by simp)
        have e1 : num l u' = num l v' := by
          rcases Nat.lt_trichotomy (num l u') (num l v') with c | c | c
          · have := Nat.mul_le_mul_right l (show num l u' + 1 ≤ num l v' by omega)
            rw [Nat.add_mul, Nat.one_mul] at this
            omega
          · exact c
          · have := Nat.mul_le_mul_right l (show num l v' + 1 ≤ num l u' by omega)
            rw [Nat.add_mul, Nat.one_mul] at this
            omega
        rw [e1] at h
        have e2 : a = b := by omega
        rw [ih (by simpa using hn) (fun x hx => hu x (by simp [hx])) (fun x hx => hv x (by simp [hx])) e1, e2]

/-- A walk through words in their order: at the i-th, ahead of the letter a. -/
structure Walk (T : List Nat → Bool) (l : Nat) (ws : List (List Nat)) (i a : Nat) : Prop where
  len : i < ws.length
  zero : ws.getD 0 [] = []
  low : ∀ u, u ∈ ws → ∀ x, x ∈ u → x < l
  inc : ∀ j j', j < j' → j' < ws.length → num l (ws.getD j []) < num l (ws.getD j' [])
  top : ∀ u, u ∈ ws → num l u ≤ num l (ws.getD i []) * l + a
  proc : ∀ j b, j < ws.length → (j < i ∧ b < l) ∨ (j = i ∧ b < a) → (ws.getD j [] ++ [b] ∈ ws) ∨ ∀ v, (∀ x, x ∈ v → x < l) → (∀ u, u ∈ ws → num l u < num l (ws.getD j [] ++ [b]) → T (u ++ v) = false) → T (ws.getD j [] ++ [b] ++ v) = false
  no : ∀ j, j < i → T (ws.getD j []) = false

section
variable {T : List Nat → Bool} {l : Nat} {ws : List (List Nat)} {i a : Nat}
theorem getD_appL {α : Type} {d : α} {xs : List α} (ys : List α) {i : Nat} (h : i < xs.length) : (xs ++ ys).getD i d = xs.getD i d := by simp [List.getD, List.getElem?_append_left h]
theorem getD_last {α : Type} {d : α} (xs : List α) (y : α) : (xs ++ [y]).getD xs.length d = y := by simp [List.getD]
theorem getD_memL {α : Type} {d : α} {xs : List α} {i : Nat} (h : i < xs.length) : xs.getD i d ∈ xs := by simp [List.getD, h]
theorem Walk.start (T : List Nat → Bool) (l : Nat) : Walk T l [[]] 0 0 :=
  ⟨by simp, rfl, fun u hu x hx => by simp at hu; subst hu; simp at hx, fun j j' h1 h2 => by simp at h2; omega, fun u hu => by simp at hu; subst hu; simp [num, numF], fun j b _ h => by omega, fun j hj => by omega⟩
/-- A word is put behind. -/
theorem Walk.put (h : Walk T l ws i a) (ha : a < l) : Walk T l (ws ++ [ws.getD i [] ++ [a]]) i (a + 1) := by
  have hi := h.len
  have hg := getD_appL (d := ([] : List Nat)) [ws.getD i [] ++ [a]] hi
  refine ⟨by simp; omega, by rw [getD_appL _ (by omega)]; exact h.zero, fun u hu x hx => ?_, fun j j' h1 h2 => ?_, fun u hu => ?_, fun j b hj hc => ?_, fun j hj => by rw [getD_appL _ (by omega)]; exact h.no j hj⟩
  · rcases List.mem_append.1 hu with hu | hu
    · exact h.low u hu x hx
    · simp only [List.mem_singleton] at hu
      subst hu
      rcases List.mem_append.1 hx with hx | hx
      · exact h.low _ (getD_memL hi) x hx
      · simp at hx; omega
  · by_cases e : j' < ws.length
    · rw [getD_appL _ e, getD_appL _ (by omega)]; exact h.inc j j' h1 e
    · have e2 : j' = ws.length := by simp at h2; omega
      subst e2
      rw [getD_last, getD_appL _ h1, num_snoc]
      have := h.top _ (getD_memL (d := []) h1)
      omega
  · rw [hg]
    rcases List.mem_append.1 hu with hu | hu
    · have := h.top u hu; omega
    · simp only [List.mem_singleton] at hu
      subst hu
      rw [num_snoc]; omega
  · by_cases e : j < ws.length
    · rw [getD_appL _ e]
      by_cases e2 : j = i ∧ b = a
      · obtain ⟨rfl, rfl⟩ := e2
        left; simp
      · rcases h.proc j b e (by omega) with h1 | h1
        · left; exact List.mem_append_left _ h1
        · right
          exact fun v hv hu => h1 v hv (fun u hm => hu u (List.mem_append_left _ hm))
    · omega
/-- A word is left out: what it tells, some word ahead of it tells. -/
theorem Walk.skip (h : Walk T l ws i a) (hp : ∀ v, (∀ x, x ∈ v → x < l) → (∀ u, u ∈ ws → T (u ++ v) = false) → T (ws.getD i [] ++ [a] ++ v) = false) : Walk T l ws i (a + 1) := by
  refine ⟨h.len, h.zero, h.low, h.inc, fun u hu => by have := h.top u hu; omega, fun j b hj hc => ?_, h.no⟩
  by_cases e2 : j = i ∧ b = a
  · obtain ⟨rfl, rfl⟩ := e2
    right
    refine fun v hv hu => hp v hv (fun u hm => hu u hm ?_)
    have := h.top u hm
    rw [num_snoc]; omega
  · exact h.proc j b hj (by omega)
/-- The next word. -/
theorem Walk.next (h : Walk T l ws i l) (hT : T (ws.getD i []) = false) (hi : i + 1 < ws.length) : Walk T l ws (i + 1) 0 := by
  refine ⟨hi, h.zero, h.low, h.inc, fun u hu => ?_, fun j b hj hc => h.proc j b hj (by omega), fun j hj => ?_⟩
  · have h1 := h.top u hu
    have h2 := h.inc i (i + 1) (by omega) hi
    have := Nat.mul_le_mul_right l (show num l (ws.getD i []) + 1 ≤ num l (ws.getD (i + 1) []) by omega)
    rw [Nat.add_mul, Nat.one_mul] at this
    omega
  · by_cases e : j = i
    · subst e; exact hT
    · exact h.no j (by omega)
/-- What is not reached tells nothing. -/
theorem walk_none (hl : 1 ≤ l) {e : Nat} (zero : ws.getD 0 [] = []) (h0 : 0 < ws.length) (low : ∀ u, u ∈ ws → ∀ x, x ∈ u → x < l)
    (proc : ∀ j b, j < ws.length → j < e → b < l → (ws.getD j [] ++ [b] ∈ ws) ∨ ∀ v, (∀ x, x ∈ v → x < l) → (∀ u, u ∈ ws → num l u < num l (ws.getD j [] ++ [b]) → T (u ++ v) = false) → T (ws.getD j [] ++ [b] ++ v) = false)
    (no : ∀ j, j < e → j < ws.length → T (ws.getD j []) = false) :
    ∀ (N : Nat) (z : List Nat), num l z = N → (∀ x, x ∈ z → x < l) → (∀ j, j < ws.length → num l (ws.getD j []) ≤ num l z → j < e) → T z = false := by
  intro N
  induction N using Nat.strongRecOn with
  | _ N IH =>
    intro z hN hz hb
    have key : ∀ (v u : List Nat), z = u ++ v → u ∈ ws → T z = false := by
      intro v
      induction v with
      | nil =>
        intro u e1 hu
        rw [List.append_nil] at e1
        subst e1
        obtain ⟨j, hj, rfl⟩ := List.getElem_of_mem hu
        have e2 : ws.getD j [] = ws[j] := by simp [List.getD, hj]
        have := no j (hb j hj (by rw [e2]; exact Nat.le_refl _)) hj
        rwa [e2] at this
      | cons a v ih =>
        intro u e1 hu
        obtain ⟨j, hj, rfl⟩ := List.getElem_of_mem hu
        have e2 : ws.getD j [] = ws[j] := by simp [List.getD, hj]
        have hjn : num l (ws.getD j []) ≤ num l z := by
          rw [e2, e1]; unfold num; rw [numF_app]; exact num_le_app hl _ _
        have hje := hb j hj hjn
        have ha : a < l := hz a (by rw [e1]; simp)
        have e3 : z = ws[j] ++ [a] ++ v := by rw [e1]; simp
        rcases proc j a hj hje ha with h1 | h1
        · rw [e2] at h1
          exact ih _ e3 h1
        · rw [e2] at h1
          rw [e3]
          refine h1 v (fun x hx => hz x (by rw [e1]; simp [hx])) (fun u hm hlt => ?_)
          have hlt2 : num l (u ++ v) < num l z := by rw [e3]; exact num_app_lt hl v hlt
          exact IH _ (by omega) (u ++ v) rfl (fun x hx => by
            rcases List.mem_append.1 hx with hx | hx
            · exact low u hm x hx
            · exact hz x (by rw [e1]; simp [hx])) (fun j' hj' hle => hb j' hj' (by omega))
    exact key z [] (by simp) (by rw [← zero]; exact getD_memL h0)
/-- It ends: no word tells anything. -/
theorem Walk.over (h : Walk T l ws i l) (hl : 1 ≤ l) (hT : T (ws.getD i []) = false) (hi : i + 1 = ws.length) (z : List Nat) (hz : ∀ x, x ∈ z → x < l) : T z = false := by
  have hlen := h.len
  refine walk_none (e := ws.length) hl h.zero (by omega) h.low (fun j b hj _ hb => h.proc j b hj (by omega)) (fun j hj _ => ?_) _ z rfl hz (fun j hj _ => hj)
  by_cases e : j = i
  · subst e; exact hT
  · exact h.no j (by omega)
/-- The first one that tells something is the first of all. -/
theorem Walk.first (h : Walk T l ws i 0) (hl : 1 ≤ l) (z : List Nat) (hz : ∀ x, x ∈ z → x < l) (ht : T z = true) : num l (ws.getD i []) ≤ num l z := by
  have hlen := h.len
  rcases Nat.lt_or_ge (num l z) (num l (ws.getD i [])) with hc | hc
  · have := walk_none (e := i) hl h.zero (by omega) h.low (fun j b hj hje hb => h.proc j b hj (.inl ⟨hje, hb⟩)) (fun j hj _ => h.no j hj) _ z rfl hz (fun j hj hle => by
      rcases Nat.lt_or_ge j i with h1 | h1
      · exact h1
      · exfalso
        rcases Nat.eq_or_lt_of_le h1 with h2 | h2
        · subst h2; omega
        · have := h.inc i j h2 hj; omega)
    rw [this] at ht; cases ht
  · exact hc
end

/-- What comes of two states: the first word that tells something, or that there is none. -/
def FirstOf (T : List Nat → Bool) (l : Nat) (w : List Nat) (is : Bool) : Prop :=
  (∀ x, x ∈ w → x < l) ∧ ((is = true ∧ T w = true ∧ ∀ z, (∀ x, x ∈ z → x < l) → T z = true → num l w ≤ num l z) ∨ (is = false ∧ w = [] ∧ ∀ z, (∀ x, x ∈ z → x < l) → T z = false))
theorem FirstOf.one {T : List Nat → Bool} {l : Nat} (hl : 1 ≤ l) {w w' : List Nat} {is is' : Bool} (h : FirstOf T l w is) (h' : FirstOf T l w' is') : w = w' ∧ is = is' := by
  obtain ⟨h1, h⟩ := h
  obtain ⟨h1', h'⟩ := h'
  rcases h with ⟨rfl, h2, h3⟩ | ⟨rfl, rfl, h3⟩
  · rcases h' with ⟨rfl, h2', h3'⟩ | ⟨rfl, rfl, h3'⟩
    · exact ⟨num_inj hl _ rfl h1 h1' (Nat.le_antisymm (h3 w' h1' h2') (h3' w h1 h2)), rfl⟩
    · rw [h3' w h1] at h2; cases h2
  · rcases h' with ⟨rfl, h2', h3'⟩ | ⟨rfl, rfl, h3'⟩
    · rw [h3 w' h1'] at h2'; cases h2'
    · exact ⟨rfl, rfl⟩

/-- What all that treat the pairs alike treat alike. -/
def Linked (ps : List (Nat × Nat)) (s t : Nat) : Prop := ∀ f : Nat → Bool, (∀ x, x ∈ ps → f x.1 = f x.2) → f s = f t
theorem Linked.more {ps qs : List (Nat × Nat)} {s t : Nat} (h : Linked ps s t) : Linked (ps ++ qs) s t := fun f hf => h f (fun x hx => hf x (by simp [hx]))

/-- Kin: each state knows another one of its kind, nearer to the head, or is the head. -/
structure Kin (n : Nat) (k hd r : Nat → Nat) (B : Nat) : Prop where
  lt : ∀ s, s < n → k s < n
  hk : ∀ s, s < n → hd (k s) = hd s
  hh : ∀ s, s < n → k s = s → hd s = s
  hr : ∀ s, s < n → k s ≠ s → r s < r (k s)
  hl : ∀ s, s < n → hd s < n
  hf : ∀ s, s < n → k (hd s) = hd s
  rb : ∀ s, s < n → r s ≤ B
section
variable {n : Nat} {k hd r : Nat → Nat} {B : Nat}
theorem Kin.start (n : Nat) : Kin n id id (fun _ => 0) 0 :=
  ⟨fun s hs => hs, fun s _ => rfl, fun s _ _ => rfl, fun s _ h => absurd rfl h, fun s hs => hs, fun s _ => rfl, fun s _ => Nat.le_refl _⟩
/-- A way is made shorter. -/
theorem Kin.short (h : Kin n k hd r B) {s : Nat} (hs : s < n) (hne : k s ≠ s) : Kin n (upd k s (k (k s))) hd r B ∧ ∀ t, t < n → (upd k s (k (k s)) t = t ↔ k t = t) := by
  have hks := h.lt s hs
  have hkks := h.lt _ hks
  have hr1 := h.hr s hs hne
  have hr2 : r (k s) ≤ r (k (k s)) := by
    by_cases e : k (k s) = k s
    · rw [e]; exact Nat.le_refl _
    · exact Nat.le_of_lt (h.hr _ hks e)
  have hne2 : k (k s) ≠ s := fun e => by rw [e] at hr2; omega
  have iff : ∀ t, t < n → (upd k s (k (k s)) t = t ↔ k t = t) := fun t ht => by
    by_cases e : t = s
    · subst e; rw [upd_same]; exact ⟨fun e => absurd e hne2, fun e => absurd e hne⟩
    · rw [upd_ne e]
  refine ⟨⟨fun t ht => ?_, fun t ht => ?_, fun t ht he => h.hh t ht ((iff t ht).1 he), fun t ht he => ?_, h.hl, fun t ht => (iff _ (h.hl t ht)).2 (h.hf t ht), h.rb⟩, iff⟩
  · by_cases e : t = s
    · subst e; rw [upd_same]; exact hkks
    · rw [upd_ne e]; exact h.lt t ht
  · by_cases e : t = s
    · subst e; rw [upd_same, h.hk _ hks, h.hk t ht]
    · rw [upd_ne e]; exact h.hk t ht
  · by_cases e : t = s
    · subst e; rw [upd_same]; omega
    · rw [upd_ne e] at he ⊢; exact h.hr t ht he
/-- How many heads there are. -/
def heads (n : Nat) (k : Nat → Nat) : Nat := ((List.range n).filter fun s => k s == s).length
theorem heads_congr {k' : Nat → Nat} (h : ∀ t, t < n → (k' t = t ↔ k t = t)) : heads n k' = heads n k := by
  unfold heads
  congr 1
  refine List.filter_congr fun t ht => ?_
  have := h t (List.mem_range.1 ht)
  rw [Bool.eq_iff_iff]; simpa using this
theorem heads_id (n : Nat) : heads n id = n := by
  unfold heads
  rw [List.filter_eq_self.2 (by simp)]; simp
theorem heads_pos (h : Kin n k hd r B) (hn : 0 < n) : 0 < heads n k := by
  unfold heads
  exact List.length_pos_of_mem (List.mem_filter.2 ⟨List.mem_range.2 (h.hl 0 hn), by simpa using h.hf 0 hn⟩)
theorem heads_join {p q : Nat} (hp : p < n) (hk : k p = p) (hne : p ≠ q) : heads n (upd k p q) + 1 = heads n k := by
  unfold heads
  have : ∀ m, (∀ s, s ∈ List.range m → s < n → True) → ((List.range m).filter fun s => upd k p q s == s).length + (if p < m then 1 else 0) = ((List.range m).filter fun s => k s == s).length := by
    intro m _
    induction m with
    | zero => simp
    | succ m ih =>
      have ih := ih (fun _ _ _ => trivial)
      rw [List.range_succ, List.filter_append, List.filter_append, List.length_append, List.length_append]
      by_cases e : m = p
      · subst e
        have h1 : (upd k m q m == m) = false := by rw [upd_same]; simpa using Ne.symm hne
        have h2 : (k m == m) = true := by simpa using hk
        rw [if_neg (Nat.lt_irrefl _)] at ih
        simp only [List.filter_cons, h1, h2, List.filter_nil, if_pos (Nat.lt_succ_self m)]
        simp only [Bool.false_eq_true, if_false, if_true, List.length_nil, List.length_singleton]
        omega
      · have h1 : (upd k p q m == m) = (k m == m) := by rw [upd_ne e]
        simp only [List.filter_cons, h1, List.filter_nil]
        by_cases h2 : p < m
        · rw [if_pos h2] at ih
          rw [if_pos (show p < m + 1 by omega)]; omega
        · rw [if_neg h2] at ih
          rw [if_neg (show ¬ p < m + 1 by omega)]; omega
  have h1 := this n (fun _ _ _ => trivial)
  rw [if_pos hp] at h1
  exact h1
/-- Two kinds become one. -/
theorem Kin.join (h : Kin n k hd r B) {p q : Nat} (hp : p < n) (hq : q < n) (hne : hd p ≠ hd q) :
    Kin n (upd k (hd p) (hd q)) (fun s => if hd s = hd p then hd q else hd s) (fun s => if hd s = hd q then r s + r (hd p) + 1 else r s) (B + B + 1) := by
  have hhp := h.hl p hp
  have hhq := h.hl q hq
  have hpp := h.hh _ hhp (h.hf p hp)
  have hqq := h.hh _ hhq (h.hf q hq)
  refine ⟨fun s hs => ?_, fun s hs => ?_, fun s hs he => ?_, fun s hs he => ?_, fun s hs => ?_, fun s hs => ?_, fun s hs => ?_⟩
  · by_cases e : s = hd p
    · subst e; rw [upd_same]; exact hhq
    · rw [upd_ne e]; exact h.lt s hs
  · by_cases e : s = hd p
    · subst e; rw [upd_same, hqq, hpp, if_neg (Ne.symm hne), if_pos rfl]
    · rw [upd_ne e, h.hk s hs]
  · by_cases e : s = hd p
    · subst e; rw [upd_same] at he; exact absurd he.symm hne
    · rw [upd_ne e] at he
      have := h.hh s hs he
      rw [this, if_neg e]
  · by_cases e : s = hd p
    · subst e; rw [upd_same, hpp, hqq, if_neg hne, if_pos rfl]; omega
    · rw [upd_ne e] at he ⊢
      have := h.hr s hs he
      rw [h.hk s hs]
      split <;> omega
  · split
    · exact hhq
    · exact h.hl s hs
  · split
    · rw [upd_ne (Ne.symm hne)]; exact h.hf q hq
    · next hx => rw [upd_ne hx]; exact h.hf s hs
  · have := h.rb s hs
    have := h.rb _ hhp
    split <;> omega
/-- Who has one head is linked by the pairs. -/
def Links (n : Nat) (ps : List (Nat × Nat)) (hd : Nat → Nat) : Prop := ∀ s t, s < n → t < n → hd s = hd t → Linked ps s t
theorem links_start (n : Nat) : Links n [] id := fun s t _ _ e f _ => by rw [show s = t from e]
theorem Links.join {ps : List (Nat × Nat)} (h : Links n ps hd) {p q : Nat} (hp : p < n) (hq : q < n) : Links n (ps ++ [(p, q)]) (fun s => if hd s = hd p then hd q else hd s) := by
  intro s t hs ht e f hf
  have hpq : f p = f q := hf (p, q) (by simp)
  have hf' : ∀ x, x ∈ ps → f x.1 = f x.2 := fun x hx => hf x (by simp [hx])
  have key : ∀ s, s < n → ∃ u, u < n ∧ f s = f u ∧ hd u = (if hd s = hd p then hd q else hd s) := fun s hs => by
    by_cases c : hd s = hd p
    · exact ⟨q, hq, by rw [h s p hs hp c f hf', hpq], by rw [if_pos c]⟩
    · exact ⟨s, hs, rfl, by rw [if_neg c]⟩
  obtain ⟨u, hu, e1, e2⟩ := key s hs
  obtain ⟨v, hv, e3, e4⟩ := key t ht
  rw [e1, e3]
  exact h u v hu hv (by rw [e2, e4]; exact e) f hf'
theorem Links.mono {ps qs : List (Nat × Nat)} (h : Links n ps hd) : Links n (ps ++ qs) hd := fun s t hs ht e => (h s t hs ht e).more
end

/-- How words are known: each by an earlier one and a letter. -/
def Node (ws : List (List Nat)) (fr : Nat → Int) (le : Nat → Nat) : Prop :=
  ∀ i, i < ws.length → (i = 0 ∧ fr i = -1 ∧ ws.getD i [] = []) ∨ (∃ j, j < i ∧ fr i = (j : Int) ∧ ws.getD i [] = ws.getD j [] ++ [le i])

end Go.Proofs.Ytnlcbnninlegiaa
