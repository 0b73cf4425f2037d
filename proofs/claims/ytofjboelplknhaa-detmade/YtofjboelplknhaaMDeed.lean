/- What words do to at most five states, as one number; words in the order in which they are come to (no program). -/
import Derived.Test.YtofjboelplknhaaLMath
namespace Go.Proofs.Ytofjboelplknhaa
set_option linter.unusedVariables false

/-- Five digits. -/
def dg (c s : Nat) : Nat := c / 5 ^ s % 5
def mkc (f : Nat → Nat) : Nat := f 0 + 5 * f 1 + 25 * f 2 + 125 * f 3 + 625 * f 4
theorem dg_lt (c s : Nat) : dg c s < 5 := Nat.mod_lt _ (by omega)
theorem five {s : Nat} (h : s < 5) : s = 0 ∨ s = 1 ∨ s = 2 ∨ s = 3 ∨ s = 4 := by omega
theorem dg_mkc {f : Nat → Nat} (hf : ∀ s, s < 5 → f s < 5) {s : Nat} (hs : s < 5) : dg (mkc f) s = f s := by
  have h0 := hf 0 (by omega)
  have h1 := hf 1 (by omega)
  have h2 := hf 2 (by omega)
  have h3 := hf 3 (by omega)
  have h4 := hf 4 (by omega)
  unfold dg mkc
  rcases five hs with rfl | rfl | rfl | rfl | rfl <;> simp only [Nat.reducePow] <;> omega
theorem mkc_lt {f : Nat → Nat} (hf : ∀ s, s < 5 → f s < 5) : mkc f < 3125 := by
  have h0 := hf 0 (by omega)
  have h1 := hf 1 (by omega)
  have h2 := hf 2 (by omega)
  have h3 := hf 3 (by omega)
  have h4 := hf 4 (by omega)
  unfold mkc; omega
theorem dg_inj {c c' : Nat} (hc : c < 3125) (hc' : c' < 3125) (h : ∀ s, s < 5 → dg c s = dg c' s) : c = c' := by
  have h0 := h 0 (by omega)
  have h1 := h 1 (by omega)
  have h2 := h 2 (by omega)
  have h3 := h 3 (by omega)
  have h4 := h 4 (by omega)
  unfold dg at h0 h1 h2 h3 h4
  simp only [Nat.reducePow] at h0 h1 h2 h3 h4
  omega
/-- A letter behind what was done: the first k states have gone on. -/
def thenK (δ : Nat → Nat → Nat) (k c a : Nat) : Nat := mkc fun s => if s < k then δ (dg c s) a else dg c s
def idle0 : Nat := mkc fun s => s
theorem idle_dg {s : Nat} (hs : s < 5) : dg idle0 s = s := dg_mkc (fun s h => h) hs
/-- What a word does. -/
def deed (δ : Nat → Nat → Nat) (n : Nat) (w : List Nat) : Nat := w.foldl (thenK δ n) idle0
section
variable {δ : Nat → Nat → Nat} {n l : Nat}
theorem deed_snoc (w : List Nat) (a : Nat) : deed δ n (w ++ [a]) = thenK δ n (deed δ n w) a := by unfold deed; rw [List.foldl_append]; rfl
theorem deed_facts (hn : n ≤ 5) (hδ : ∀ s a, s < n → a < l → δ s a < n) (w : List Nat) (hw : ∀ a, a ∈ w → a < l) : deed δ n w < 3125 ∧ (∀ s, s < n → dg (deed δ n w) s = w.foldl δ s ∧ w.foldl δ s < n) ∧ ∀ s, n ≤ s → s < 5 → dg (deed δ n w) s = s := by
  have key : ∀ u : List Nat, (∀ a, a ∈ u → a < l) → ∀ c, c < 3125 → (∀ s, s < n → dg c s < n) → u.foldl (thenK δ n) c < 3125 ∧ (∀ s, s < n → dg (u.foldl (thenK δ n) c) s = u.foldl δ (dg c s) ∧ u.foldl δ (dg c s) < n) ∧ ∀ s, n ≤ s → s < 5 → dg (u.foldl (thenK δ n) c) s = dg c s := by
    intro u
    induction u with
    | nil => intro _ c hc hd; exact ⟨hc, fun s hs => ⟨rfl, hd s hs⟩, fun _ _ _ => rfl⟩
    | cons a u ih =>
      intro hu c hc hd
      have ha := hu a (by simp)
      have hf : ∀ s, s < 5 → (if s < n then δ (dg c s) a else dg c s) < 5 := fun s hs => by
        split
        · next h => have := hδ _ _ (hd s h) ha; omega
        · exact dg_lt _ _
      have e : ∀ s, s < 5 → dg (thenK δ n c a) s = if s < n then δ (dg c s) a else dg c s := fun s hs => dg_mkc hf hs
      obtain ⟨h1, h2, h3⟩ := ih (fun x hx => hu x (by simp [hx])) (thenK δ n c a) (mkc_lt hf) (fun s hs => by rw [e s (by omega), if_pos hs]; exact hδ _ _ (hd s hs) ha)
      simp only [List.foldl_cons]
      refine ⟨h1, fun s hs => ?_, fun s hs hs5 => ?_⟩
      · obtain ⟨h4, h5⟩ := h2 s hs
        rw [e s (by omega), if_pos hs] at h4 h5
        exact ⟨h4, h5⟩
      · rw [h3 s hs hs5, e s hs5, if_neg (by omega)]
  have hid : ∀ s, s < n → dg idle0 s < n := fun s hs => by rw [idle_dg (by omega)]; exact hs
  obtain ⟨h1, h2, h3⟩ := key w hw idle0 (mkc_lt (fun s h => h)) hid
  refine ⟨h1, fun s hs => ?_, fun s hs hs5 => ?_⟩
  · have := h2 s hs
    rw [idle_dg (by omega)] at this
    exact this
  · have := h3 s hs hs5
    rw [idle_dg hs5] at this
    exact this
/-- What is seen of it: the states. -/
def doesL (n c : Nat) : List Nat := (List.range n).map (dg c)
theorem doesL_len (n c : Nat) : (doesL n c).length = n := by simp [doesL]
theorem doesL_get {n c s : Nat} (h : s < n) : (doesL n c).getD s 0 = dg c s := by simp [doesL, List.getD, h]
theorem does_inj (hn : n ≤ 5) (hδ : ∀ s a, s < n → a < l → δ s a < n) {u v : List Nat} (hu : ∀ a, a ∈ u → a < l) (hv : ∀ a, a ∈ v → a < l) (h : doesL n (deed δ n u) = doesL n (deed δ n v)) : deed δ n u = deed δ n v := by
  obtain ⟨a1, a2, a3⟩ := deed_facts hn hδ u hu
  obtain ⟨b1, b2, b3⟩ := deed_facts hn hδ v hv
  refine dg_inj a1 b1 fun s hs => ?_
  by_cases hsn : s < n
  · have e1 := doesL_get (c := deed δ n u) hsn
    rw [h, doesL_get hsn] at e1
    exact e1.symm
  · rw [a3 s (by omega) hs, b3 s (by omega) hs]
end

/-- A word is put behind, if what it does is new. -/
def addW (κ : List Nat → Nat) (ws : List (List Nat)) (u : List Nat) : List (List Nat) := if κ u ∈ ws.map κ then ws else ws ++ [u]
def rowW (κ : List Nat → Nat) (u : List Nat) : Nat → List (List Nat) → List (List Nat)
  | 0, ws => ws
  | a + 1, ws => addW κ (rowW κ u a ws) (u ++ [a])
def bfsW (κ : List Nat → Nat) (l : Nat) : Nat → List (List Nat)
  | 0 => [[]]
  | i + 1 => if i < (bfsW κ l i).length then rowW κ ((bfsW κ l i).getD i []) l (bfsW κ l i) else bfsW κ l i
/-- It ends behind the k-th. -/
structure EndW (κ : List Nat → Nat) (l k : Nat) : Prop where
  len : (bfsW κ l k).length = k
  go : ∀ i, i < k → i < (bfsW κ l i).length
section
variable {κ : List Nat → Nat} {l : Nat}
theorem addW_more (ws : List (List Nat)) (u : List Nat) : ∃ zs, addW κ ws u = ws ++ zs := by
  unfold addW; split
  · exact ⟨[], by simp⟩
  · exact ⟨[u], rfl⟩
theorem rowW_more (u : List Nat) (a : Nat) (ws : List (List Nat)) : ∃ zs, rowW κ u a ws = ws ++ zs := by
  induction a with
  | zero => exact ⟨[], by simp [rowW]⟩
  | succ a ih =>
    obtain ⟨zs, e⟩ := ih
    obtain ⟨ys, e'⟩ := addW_more (κ := κ) (rowW κ u a ws) (u ++ [a])
    exact ⟨zs ++ ys, by simp only [rowW]; rw [e', e, List.append_assoc]⟩
theorem bfsW_more (i : Nat) : ∃ zs, bfsW κ l (i + 1) = bfsW κ l i ++ zs := by
  simp only [bfsW]; split
  · exact rowW_more _ _ _
  · exact ⟨[], by simp⟩
theorem bfsW_le {i j : Nat} (h : i ≤ j) : ∃ zs, bfsW κ l j = bfsW κ l i ++ zs := by
  induction j with
  | zero => have : i = 0 := by omega
            subst this; exact ⟨[], by simp⟩
  | succ j ih =>
    by_cases e : i = j + 1
    · subst e; exact ⟨[], by simp⟩
    · obtain ⟨zs, e1⟩ := ih (by omega)
      obtain ⟨ys, e2⟩ := bfsW_more (κ := κ) (l := l) j
      exact ⟨zs ++ ys, by rw [e2, e1, List.append_assoc]⟩
theorem EndW.one {k k' : Nat} (h : EndW κ l k) (h' : EndW κ l k') : k = k' := by
  rcases Nat.lt_trichotomy k k' with e | e | e
  · have := h'.go k e; rw [h.len] at this; omega
  · exact e
  · have := h.go k' e; rw [h'.len] at this; omega
theorem addW_nodup {ws : List (List Nat)} (h : (ws.map κ).Nodup) (u : List Nat) : ((addW κ ws u).map κ).Nodup := by
  unfold addW; split
  · exact h
  · next hn =>
    rw [List.map_append, List.nodup_append]
    refine ⟨h, by simp, fun a ha b hb => ?_⟩
    simp only [List.map_cons, List.map_nil, List.mem_singleton] at hb
    subst hb
    exact fun e => hn (e ▸ ha)
theorem rowW_nodup {ws : List (List Nat)} (h : (ws.map κ).Nodup) (u : List Nat) (a : Nat) : ((rowW κ u a ws).map κ).Nodup := by
  induction a with
  | zero => exact h
  | succ a ih => exact addW_nodup ih _
theorem bfsW_nodup (i : Nat) : ((bfsW κ l i).map κ).Nodup := by
  induction i with
  | zero => simp [bfsW]
  | succ i ih => simp only [bfsW]; split
                 · exact rowW_nodup ih _ _
                 · exact ih
theorem rowW_letters {ws : List (List Nat)} (h : ∀ u, u ∈ ws → ∀ x, x ∈ u → x < l) {u : List Nat} (hu : ∀ x, x ∈ u → x < l) {a : Nat} (ha : a ≤ l) : ∀ v, v ∈ rowW κ u a ws → ∀ x, x ∈ v → x < l := by
  induction a with
  | zero => exact h
  | succ a ih =>
    intro v hv
    simp only [rowW, addW] at hv
    split at hv
    · exact ih (by omega) v hv
    · rcases List.mem_append.1 hv with hv | hv
      · exact ih (by omega) v hv
      · simp only [List.mem_singleton] at hv
        subst hv
        intro x hx
        rcases List.mem_append.1 hx with hx | hx
        · exact hu x hx
        · simp only [List.mem_singleton] at hx; omega
theorem getDL_mem {ws : List (List Nat)} {i : Nat} (h : i < ws.length) : ws.getD i [] ∈ ws := by simp [List.getD, h]
theorem getDL_app {ws : List (List Nat)} (zs : List (List Nat)) {i : Nat} (h : i < ws.length) : (ws ++ zs).getD i [] = ws.getD i [] := by simp [List.getD, List.getElem?_append_left h]
theorem bfsW_letters (i : Nat) : ∀ v, v ∈ bfsW κ l i → ∀ x, x ∈ v → x < l := by
  induction i with
  | zero => intro v hv; simp only [bfsW, List.mem_singleton] at hv; subst hv; intro x hx; simp at hx
  | succ i ih =>
    simp only [bfsW]; split
    · next h => exact rowW_letters ih (ih _ (getDL_mem h)) (Nat.le_refl _)
    · exact ih
/-- A list of words under way has few. -/
theorem words_few {ws : List (List Nat)} (h : (ws.map κ).Nodup) (hl : ∀ u, u ∈ ws → κ u < 3125) : ws.length ≤ 3125 := by
  have := nodup_le 3125 (ws.map κ) h (fun x hx => by obtain ⟨u, hu, rfl⟩ := List.mem_map.1 hx; exact hl u hu)
  simpa using this
end

end Go.Proofs.Ytofjboelplknhaa
