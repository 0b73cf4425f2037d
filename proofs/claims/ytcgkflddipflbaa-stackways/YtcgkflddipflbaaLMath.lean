/- States numbered as they are come to, without the program: what comes out hangs on nothing but which keys are the same. -/
/- Classes of states, without the program: how they are parted round by round until nothing parts them any more (Moore). -/
/- Classes of states that are parted in place, without the program (Hopcroft): what stays true while states are picked, classes are cut, and all classes are gone through. -/
/- States that no word tells apart have one number (no program). -/
/- What words do to at most five states, as one number; words in the order in which they are come to (no program). -/
import Derived.Test.YtcgkflddipflbaaDSpec
namespace Go.Proofs.Ytcgkflddipflbaa
set_option linter.unusedVariables false

/-- Where a key stands first. -/
def ix (κ : Nat → Nat) : List Nat → Nat → Nat
  | [], _ => 0
  | r :: rs, y => if κ r = κ y then 0 else ix κ rs y + 1
/-- Whether a key stands there. -/
def hasK (κ : Nat → Nat) (xs : List Nat) (y : Nat) : Prop := ∃ r, r ∈ xs ∧ κ r = κ y

theorem ix_lt {κ : Nat → Nat} {xs : List Nat} {y : Nat} (h : hasK κ xs y) : ix κ xs y < xs.length := by
  obtain ⟨r, hr, e⟩ := h
  induction xs with
  | nil => simp at hr
  | cons x xs ih =>
    simp only [ix]
    split
    · simp
    · next hne =>
      rcases List.mem_cons.1 hr with rfl | hr
      · exact absurd e hne
      · have := ih hr; simp; omega
theorem ix_key {κ : Nat → Nat} {xs : List Nat} {y : Nat} (h : hasK κ xs y) : κ (xs.getD (ix κ xs y) 0) = κ y := by
  obtain ⟨r, hr, e⟩ := h
  induction xs with
  | nil => simp at hr
  | cons x xs ih =>
    simp only [ix]
    split
    · next h => simpa using h
    · next hne =>
      rcases List.mem_cons.1 hr with rfl | hr
      · exact absurd e hne
      · simpa using ih hr
theorem ix_not {κ : Nat → Nat} {xs : List Nat} {y : Nat} (h : ¬ hasK κ xs y) : ix κ xs y = xs.length := by
  induction xs with
  | nil => rfl
  | cons x xs ih =>
    simp only [ix]
    rw [if_neg (fun e => h ⟨x, by simp, e⟩), ih (fun ⟨r, hr, e⟩ => h ⟨r, by simp [hr], e⟩)]
    simp
theorem ix_append {κ : Nat → Nat} {xs : List Nat} {y : Nat} (h : hasK κ xs y) (ys : List Nat) : ix κ (xs ++ ys) y = ix κ xs y := by
  obtain ⟨r, hr, e⟩ := h
  induction xs with
  | nil => simp at hr
  | cons x xs ih =>
    simp only [ix, List.cons_append]
    split
    · rfl
    · next hne =>
      rcases List.mem_cons.1 hr with rfl | hr
      · exact absurd e hne
      · rw [ih hr]
theorem ix_last {κ : Nat → Nat} {xs : List Nat} {y : Nat} (h : ¬ hasK κ xs y) : ix κ (xs ++ [y]) y = xs.length := by
  induction xs with
  | nil => simp [ix]
  | cons x xs ih =>
    simp only [ix, List.cons_append]
    rw [if_neg (fun e => h ⟨x, by simp, e⟩), ih (fun ⟨r, hr, e⟩ => h ⟨r, by simp [hr], e⟩)]
    simp
theorem hasK_append {κ : Nat → Nat} {xs : List Nat} {y : Nat} (h : hasK κ xs y) (ys : List Nat) : hasK κ (xs ++ ys) y := by
  obtain ⟨r, hr, e⟩ := h; exact ⟨r, by simp [hr], e⟩

def hasB (κ : Nat → Nat) (xs : List Nat) (y : Nat) : Bool := xs.any fun r => κ r == κ y
theorem hasB_iff (κ : Nat → Nat) (xs : List Nat) (y : Nat) : hasB κ xs y = true ↔ hasK κ xs y := by simp [hasB, hasK]
/-- A state is put behind, if its key is new. -/
def ins (κ : Nat → Nat) (xs : List Nat) (y : Nat) : List Nat := if hasB κ xs y = true then xs else xs ++ [y]

theorem ins_old {κ : Nat → Nat} {xs : List Nat} {y : Nat} (h : hasK κ xs y) : ins κ xs y = xs := by unfold ins; rw [if_pos ((hasB_iff _ _ _).2 h)]
theorem ins_new {κ : Nat → Nat} {xs : List Nat} {y : Nat} (h : ¬ hasK κ xs y) : ins κ xs y = xs ++ [y] := by unfold ins; rw [if_neg (fun e => h ((hasB_iff _ _ _).1 e))]
theorem ins_more (κ : Nat → Nat) (xs : List Nat) (y : Nat) : ∃ zs, ins κ xs y = xs ++ zs := by
  unfold ins; split
  · exact ⟨[], by simp⟩
  · exact ⟨[y], rfl⟩
theorem ins_has (κ : Nat → Nat) (xs : List Nat) (y : Nat) : hasK κ (ins κ xs y) y := by
  by_cases h : hasK κ xs y
  · rw [ins_old h]; exact h
  · rw [ins_new h]; exact ⟨y, by simp, rfl⟩

/-- .. by the letters ahead of a. -/
def rowL (κ : Nat → Nat) (δ : Nat → Nat → Nat) (x : Nat) : Nat → List Nat → List Nat
  | 0, xs => xs
  | a + 1, xs => ins κ (rowL κ δ x a xs) (δ x a)
/-- .. by the states ahead of the i-th. -/
def bfsL (κ : Nat → Nat) (δ : Nat → Nat → Nat) (l x0 : Nat) : Nat → List Nat
  | 0 => [x0]
  | i + 1 => if i < (bfsL κ δ l x0 i).length then rowL κ δ ((bfsL κ δ l x0 i).getD i 0) l (bfsL κ δ l x0 i) else bfsL κ δ l x0 i

theorem rowL_more (κ : Nat → Nat) (δ : Nat → Nat → Nat) (x a : Nat) (xs : List Nat) : ∃ zs, rowL κ δ x a xs = xs ++ zs := by
  induction a with
  | zero => exact ⟨[], by simp [rowL]⟩
  | succ a ih =>
    obtain ⟨zs, e⟩ := ih
    obtain ⟨ys, e'⟩ := ins_more κ (rowL κ δ x a xs) (δ x a)
    exact ⟨zs ++ ys, by simp only [rowL]; rw [e', e, List.append_assoc]⟩
theorem rowL_has (κ : Nat → Nat) (δ : Nat → Nat → Nat) (x : Nat) (xs : List Nat) {a b : Nat} (h : b < a) : hasK κ (rowL κ δ x a xs) (δ x b) := by
  induction a with
  | zero => omega
  | succ a ih =>
    by_cases e : b = a
    · subst e; exact ins_has _ _ _
    · obtain ⟨ys, e'⟩ := ins_more κ (rowL κ δ x a xs) (δ x a)
      simp only [rowL]; rw [e']; exact hasK_append (ih (by omega)) _
theorem bfsL_more (κ : Nat → Nat) (δ : Nat → Nat → Nat) (l x0 i : Nat) : ∃ zs, bfsL κ δ l x0 (i + 1) = bfsL κ δ l x0 i ++ zs := by
  simp only [bfsL]; split
  · exact rowL_more _ _ _ _ _
  · exact ⟨[], by simp⟩
theorem bfsL_le (κ : Nat → Nat) (δ : Nat → Nat → Nat) (l x0 : Nat) {i j : Nat} (h : i ≤ j) : ∃ zs, bfsL κ δ l x0 j = bfsL κ δ l x0 i ++ zs := by
  induction j with
  | zero => have : i = 0 := by omega
            subst this; exact ⟨[], by simp⟩
  | succ j ih =>
    by_cases e : i = j + 1
    · subst e; exact ⟨[], by simp⟩
    · obtain ⟨zs, e1⟩ := ih (by omega)
      obtain ⟨ys, e2⟩ := bfsL_more κ δ l x0 j
      exact ⟨zs ++ ys, by rw [e2, e1, List.append_assoc]⟩
theorem getD_app {xs : List Nat} (ys : List Nat) {i : Nat} (h : i < xs.length) : (xs ++ ys).getD i 0 = xs.getD i 0 := by simp [List.getD, List.getElem?_append_left h]

/-- All of a state's ways are there, once it has been gone through. -/
theorem bfsL_has {κ : Nat → Nat} {δ : Nat → Nat → Nat} {l x0 i j a : Nat} (hij : i < j) (hi : i < (bfsL κ δ l x0 i).length) (ha : a < l) : hasK κ (bfsL κ δ l x0 j) (δ ((bfsL κ δ l x0 j).getD i 0) a) := by
  obtain ⟨zs, e⟩ := bfsL_le κ δ l x0 (show i + 1 ≤ j by omega)
  obtain ⟨ys, e2⟩ := bfsL_more κ δ l x0 i
  have hx : (bfsL κ δ l x0 j).getD i 0 = (bfsL κ δ l x0 i).getD i 0 := by rw [e, e2, getD_app _ (by simp; omega), getD_app _ hi]
  rw [hx, e]
  refine hasK_append ?_ _
  simp only [bfsL]; rw [if_pos hi]
  exact rowL_has _ _ _ _ ha

/-- It ends behind the k-th. -/
structure IsEnd (f : Nat → List Nat) (k : Nat) : Prop where
  len : (f k).length = k
  go : ∀ i, i < k → i < (f i).length

def rowR (κ : Nat → Nat) (δ : Nat → Nat → Nat) (l : Nat) (xs : List Nat) (x : Nat) : List Int := (List.range l).map fun a => ((ix κ xs (δ x a) : Nat) : Int)
/-- The rows of what comes out, and its marks. -/
def resR (κ : Nat → Nat) (δ : Nat → Nat → Nat) (l : Nat) (xs : List Nat) : List (List Int) := xs.map (rowR κ δ l xs)
def resM (m : Nat → Bool) (xs : List Nat) : List Int := xs.map fun x => if m x = true then 1 else 0

theorem rowR_stable {κ : Nat → Nat} {δ : Nat → Nat → Nat} {l x : Nat} {xs : List Nat} (ys : List Nat) (h : ∀ a, a < l → hasK κ xs (δ x a)) : rowR κ δ l (xs ++ ys) x = rowR κ δ l xs x := by
  unfold rowR
  refine List.map_congr_left fun a ha => ?_
  rw [ix_append (h a (List.mem_range.1 ha))]

/-- The rows of the states ahead of the i-th. -/
def partR (κ : Nat → Nat) (δ : Nat → Nat → Nat) (l x0 i : Nat) : List (List Int) := ((bfsL κ δ l x0 i).take i).map (rowR κ δ l (bfsL κ δ l x0 i))
theorem partR_step {κ : Nat → Nat} {δ : Nat → Nat → Nat} {l x0 i : Nat} (hgo : ∀ j, j ≤ i → j < (bfsL κ δ l x0 j).length) :
    partR κ δ l x0 (i + 1) = partR κ δ l x0 i ++ [rowR κ δ l (bfsL κ δ l x0 (i + 1)) ((bfsL κ δ l x0 i).getD i 0)] := by
  obtain ⟨zs, e⟩ := bfsL_more κ δ l x0 i
  have hi := hgo i (Nat.le_refl _)
  unfold partR
  rw [List.take_add_one, List.map_append]
  congr 1
  · rw [e, List.take_append_of_le_length (by omega)]
    refine List.map_congr_left fun x hx => ?_
    obtain ⟨j, hj, rfl⟩ := List.getElem_of_mem hx
    rw [List.length_take] at hj
    have hji : j < i := by omega
    refine rowR_stable _ fun a ha => ?_
    have := bfsL_has (κ := κ) (δ := δ) (l := l) (x0 := x0) (i := j) (j := i) (a := a) hji (hgo j (by omega)) ha
    rw [List.getElem_take]
    have e3 : (bfsL κ δ l x0 i).getD j 0 = (bfsL κ δ l x0 i)[j] := by simp [List.getD, show j < (bfsL κ δ l x0 i).length by omega]
    rwa [e3] at this
  · have : (bfsL κ δ l x0 (i + 1))[i]? = some ((bfsL κ δ l x0 i).getD i 0) := by
      rw [e, List.getElem?_append_left hi]; simp [List.getD, hi]
    rw [this]; rfl
theorem partR_end {κ : Nat → Nat} {δ : Nat → Nat → Nat} {l x0 k : Nat} (h : IsEnd (bfsL κ δ l x0) k) : partR κ δ l x0 k = resR κ δ l (bfsL κ δ l x0 k) := by
  unfold partR resR
  rw [List.take_of_length_le (by rw [h.len]; exact Nat.le_refl _)]
def partM (κ : Nat → Nat) (δ : Nat → Nat → Nat) (m : Nat → Bool) (l x0 i : Nat) : List Int := ((bfsL κ δ l x0 i).take i).map fun x => if m x = true then 1 else 0
theorem partM_step {κ : Nat → Nat} {δ : Nat → Nat → Nat} {m : Nat → Bool} {l x0 i : Nat} (hi : i < (bfsL κ δ l x0 i).length) :
    partM κ δ m l x0 (i + 1) = partM κ δ m l x0 i ++ [if m ((bfsL κ δ l x0 i).getD i 0) = true then 1 else 0] := by
  obtain ⟨zs, e⟩ := bfsL_more κ δ l x0 i
  unfold partM
  rw [List.take_add_one, List.map_append]
  congr 1
  · rw [e, List.take_append_of_le_length (by omega)]
  · have : (bfsL κ δ l x0 (i + 1))[i]? = some ((bfsL κ δ l x0 i).getD i 0) := by
      rw [e, List.getElem?_append_left hi]; simp [List.getD, hi]
    rw [this]; rfl
theorem partM_end {κ : Nat → Nat} {δ : Nat → Nat → Nat} {m : Nat → Bool} {l x0 k : Nat} (h : IsEnd (bfsL κ δ l x0) k) : partM κ δ m l x0 k = resM m (bfsL κ δ l x0 k) := by
  unfold partM resM
  rw [List.take_of_length_le (by rw [h.len]; exact Nat.le_refl _)]

/-- Two lists, one beside the other. -/
def Beside (ρ : Nat → Nat → Prop) (xs ys : List Nat) : Prop := xs.length = ys.length ∧ ∀ j, j < xs.length → ρ (xs.getD j 0) (ys.getD j 0)
theorem Beside.tail {ρ : Nat → Nat → Prop} {x y : Nat} {xs ys : List Nat} (h : Beside ρ (x :: xs) (y :: ys)) : ρ x y ∧ Beside ρ xs ys :=
  ⟨by simpa using h.2 0 (by simp), by simpa using h.1, fun j hj => by simpa using h.2 (j + 1) (by simp; exact hj)⟩
theorem Beside.snoc {ρ : Nat → Nat → Prop} {x y : Nat} {xs ys : List Nat} (h : Beside ρ xs ys) (hr : ρ x y) : Beside ρ (xs ++ [x]) (ys ++ [y]) := by
  refine ⟨by simp [h.1], fun j hj => ?_⟩
  by_cases e : j < xs.length
  · rw [getD_app _ e, getD_app _ (by rw [← h.1]; exact e)]; exact h.2 j e
  · have : j = xs.length := by simp at hj; omega
    subst this
    simp [List.getD, h.1]
    exact hr
section
variable {κ1 κ2 : Nat → Nat} {δ1 δ2 : Nat → Nat → Nat} {m1 m2 : Nat → Bool} {l x1 x2 : Nat} {ρ : Nat → Nat → Prop}
theorem beside_ix (hk : ∀ x y x' y', ρ x y → ρ x' y' → (κ1 x = κ1 x' ↔ κ2 y = κ2 y')) {xs : List Nat} : ∀ {ys : List Nat}, Beside ρ xs ys → ∀ {u v : Nat}, ρ u v → ix κ1 xs u = ix κ2 ys v ∧ (hasK κ1 xs u ↔ hasK κ2 ys v) := by
  induction xs with
  | nil =>
    intro ys h u v _
    cases ys with
    | nil => exact ⟨rfl, by simp [hasK]⟩
    | cons _ _ => have := h.1; simp at this
  | cons x xs ih =>
    intro ys h u v huv
    cases ys with
    | nil => have := h.1; simp at this
    | cons y ys =>
      obtain ⟨h1, h2⟩ := h.tail
      obtain ⟨i1, i2⟩ := ih h2 huv
      have hh := hk x y u v h1 huv
      have e1 : hasK κ1 (x :: xs) u ↔ κ1 x = κ1 u ∨ hasK κ1 xs u := by simp [hasK]
      have e2 : hasK κ2 (y :: ys) v ↔ κ2 y = κ2 v ∨ hasK κ2 ys v := by simp [hasK]
      refine ⟨?_, by rw [e1, e2, hh, i2]⟩
      simp only [ix]
      by_cases hc : κ1 x = κ1 u
      · rw [if_pos hc, if_pos (hh.1 hc)]
      · rw [if_neg hc, if_neg (fun e => hc (hh.2 e)), i1]
theorem beside_row (hs : ∀ x y a, ρ x y → a < l → ρ (δ1 x a) (δ2 y a)) (hk : ∀ x y x' y', ρ x y → ρ x' y' → (κ1 x = κ1 x' ↔ κ2 y = κ2 y')) {xs ys : List Nat} (h : Beside ρ xs ys) {u v : Nat} (huv : ρ u v) {a : Nat} (ha : a ≤ l) :
    Beside ρ (rowL κ1 δ1 u a xs) (rowL κ2 δ2 v a ys) := by
  induction a with
  | zero => exact h
  | succ a ih =>
    have h1 := ih (by omega)
    have h2 := (beside_ix hk h1 (hs u v a huv (by omega))).2
    simp only [rowL]
    by_cases hc : hasK κ1 (rowL κ1 δ1 u a xs) (δ1 u a)
    · rw [ins_old hc, ins_old (h2.1 hc)]; exact h1
    · rw [ins_new hc, ins_new (fun e => hc (h2.2 e))]; exact h1.snoc (hs u v a huv (by omega))
theorem beside_bfs (h0 : ρ x1 x2) (hs : ∀ x y a, ρ x y → a < l → ρ (δ1 x a) (δ2 y a)) (hk : ∀ x y x' y', ρ x y → ρ x' y' → (κ1 x = κ1 x' ↔ κ2 y = κ2 y')) (i : Nat) :
    Beside ρ (bfsL κ1 δ1 l x1 i) (bfsL κ2 δ2 l x2 i) := by
  induction i with
  | zero => exact ⟨rfl, fun j hj => by have : j = 0 := by simpa [bfsL] using hj
                                       subst this; simpa [bfsL] using h0⟩
  | succ i ih =>
    simp only [bfsL]
    by_cases hc : i < (bfsL κ1 δ1 l x1 i).length
    · rw [if_pos hc, if_pos (by rw [← ih.1]; exact hc)]
      exact beside_row hs hk ih (ih.2 i hc) (Nat.le_refl _)
    · rw [if_neg hc, if_neg (by rw [← ih.1]; exact hc)]; exact ih
/-- What comes out is the same. -/
theorem beside_res (h0 : ρ x1 x2) (hs : ∀ x y a, ρ x y → a < l → ρ (δ1 x a) (δ2 y a)) (hk : ∀ x y x' y', ρ x y → ρ x' y' → (κ1 x = κ1 x' ↔ κ2 y = κ2 y')) (hm : ∀ x y, ρ x y → m1 x = m2 y) {k1 k2 : Nat}
    (e1 : IsEnd (bfsL κ1 δ1 l x1) k1) (e2 : IsEnd (bfsL κ2 δ2 l x2) k2) :
    resR κ1 δ1 l (bfsL κ1 δ1 l x1 k1) = resR κ2 δ2 l (bfsL κ2 δ2 l x2 k2) ∧ resM m1 (bfsL κ1 δ1 l x1 k1) = resM m2 (bfsL κ2 δ2 l x2 k2) := by
  have hb := beside_bfs (κ1 := κ1) (κ2 := κ2) (δ1 := δ1) (δ2 := δ2) (l := l) h0 hs hk
  have hkk : k1 = k2 := by
    rcases Nat.lt_trichotomy k1 k2 with h | h | h
    · have a := e2.go k1 h; rw [← (hb k1).1, e1.len] at a; omega
    · exact h
    · have a := e1.go k2 h; rw [(hb k2).1, e2.len] at a; omega
  subst hkk
  have h := hb k1
  generalize bfsL κ1 δ1 l x1 k1 = xs at *
  generalize bfsL κ2 δ2 l x2 k1 = ys at *
  have hx : ∀ j, j < xs.length → ρ (xs[j]?.getD 0) (ys[j]?.getD 0) := h.2
  refine ⟨List.ext_getElem (by simp [resR, h.1]) fun j h1 h2 => ?_, List.ext_getElem (by simp [resM, h.1]) fun j h1 h2 => ?_⟩
  · simp [resR] at h1 h2 ⊢
    have hr := hx j h1
    simp only [h1, h2, List.getElem?_eq_getElem, Option.getD_some] at hr
    refine List.map_congr_left fun a ha => ?_
    rw [(beside_ix hk h (hs _ _ a hr (List.mem_range.1 ha))).1]
  · simp [resM] at h1 h2 ⊢
    have hr := hx j h1
    simp only [h1, h2, List.getElem?_eq_getElem, Option.getD_some] at hr
    rw [hm _ _ hr]
end

/-- No more than n numbers below n, if no two are the same. -/
theorem nodup_le (n : Nat) : ∀ xs : List Nat, xs.Nodup → (∀ x, x ∈ xs → x < n) → xs.length ≤ n := by
  induction n with
  | zero => intro xs _ h; cases xs with | nil => simp | cons x _ => have := h x (by simp); omega
  | succ n ih =>
    intro xs hn h
    have h1 := ih (xs.erase n) (hn.erase n) (fun x hx => by
      have h2 := (List.Nodup.mem_erase_iff hn).1 hx
      have := h x h2.2
      have := h2.1
      omega)
    have h2 := List.length_erase (a := n) (l := xs)
    split at h2 <;> omega

/-- The keys of those that are come to: no two the same. -/
theorem ins_nodup {κ : Nat → Nat} {xs : List Nat} (h : (xs.map κ).Nodup) (y : Nat) : ((ins κ xs y).map κ).Nodup := by
  by_cases hc : hasK κ xs y
  · rw [ins_old hc]; exact h
  · rw [ins_new hc, List.map_append, List.nodup_append]
    refine ⟨h, by simp, fun a ha b hb => ?_⟩
    simp at hb; subst hb
    intro e
    obtain ⟨r, hr, e2⟩ := List.mem_map.1 ha
    exact hc ⟨r, hr, by rw [e2, e]⟩
theorem rowL_nodup {κ : Nat → Nat} {δ : Nat → Nat → Nat} {x : Nat} {xs : List Nat} (h : (xs.map κ).Nodup) (a : Nat) : ((rowL κ δ x a xs).map κ).Nodup := by
  induction a with
  | zero => exact h
  | succ a ih => exact ins_nodup ih _
theorem bfsL_nodup (κ : Nat → Nat) (δ : Nat → Nat → Nat) (l x0 i : Nat) : ((bfsL κ δ l x0 i).map κ).Nodup := by
  induction i with
  | zero => simp [bfsL]
  | succ i ih => simp only [bfsL]; split
                 · exact rowL_nodup ih _
                 · exact ih
theorem rowL_lt {κ : Nat → Nat} {δ : Nat → Nat → Nat} {n l x : Nat} (hδ : ∀ s a, s < n → a < l → δ s a < n) (hx : x < n) {xs : List Nat} (h : ∀ y, y ∈ xs → y < n) {a : Nat} (ha : a ≤ l) : ∀ y, y ∈ rowL κ δ x a xs → y < n := by
  induction a with
  | zero => exact h
  | succ a ih =>
    intro y hy
    simp only [rowL] at hy
    by_cases hc : hasK κ (rowL κ δ x a xs) (δ x a)
    · rw [ins_old hc] at hy; exact ih (by omega) y hy
    · rw [ins_new hc] at hy
      rcases List.mem_append.1 hy with h1 | h1
      · exact ih (by omega) y h1
      · simp at h1; subst h1; exact hδ _ _ hx (by omega)
theorem bfsL_lt (κ : Nat → Nat) {δ : Nat → Nat → Nat} {n l x0 : Nat} (hδ : ∀ s a, s < n → a < l → δ s a < n) (h0 : x0 < n) (i : Nat) : ∀ y, y ∈ bfsL κ δ l x0 i → y < n := by
  induction i with
  | zero => intro y hy; simp [bfsL] at hy; subst hy; exact h0
  | succ i ih =>
    simp only [bfsL]; split
    · next hi => exact rowL_lt hδ (ih _ (by simp [List.getD, hi])) ih (Nat.le_refl _)
    · exact ih
theorem getD_mem {xs : List Nat} {i : Nat} (h : i < xs.length) : xs.getD i 0 ∈ xs := by simp [List.getD, h]

end Go.Proofs.Ytcgkflddipflbaa

namespace Go.Proofs.Ytcgkflddipflbaa
set_option linter.unusedVariables false

/-- No word tells two states apart. -/
def Ner (δ : Nat → Nat → Nat) (m : Nat → Bool) (l p q : Nat) : Prop := ∀ z : List Nat, (∀ a, a ∈ z → a < l) → m (z.foldl δ p) = m (z.foldl δ q)
theorem Ner.mark {δ : Nat → Nat → Nat} {m : Nat → Bool} {l p q : Nat} (h : Ner δ m l p q) : m p = m q := h [] (by simp)
theorem Ner.step {δ : Nat → Nat → Nat} {m : Nat → Bool} {l p q a : Nat} (h : Ner δ m l p q) (ha : a < l) : Ner δ m l (δ p a) (δ q a) := fun z hz => h (a :: z) (fun b hb => by
  rcases List.mem_cons.1 hb with rfl | hb
  · exact ha
  · exact hz b hb)
theorem Ner.refl (δ : Nat → Nat → Nat) (m : Nat → Bool) (l p : Nat) : Ner δ m l p p := fun _ _ => rfl
theorem Ner.symm {δ : Nat → Nat → Nat} {m : Nat → Bool} {l p q : Nat} (h : Ner δ m l p q) : Ner δ m l q p := fun z hz => (h z hz).symm
theorem Ner.trans {δ : Nat → Nat → Nat} {m : Nat → Bool} {l p q r : Nat} (h : Ner δ m l p q) (k : Ner δ m l q r) : Ner δ m l p r := fun z hz => (h z hz).trans (k z hz)
/-- What keeps the marks and is kept by letters is told apart by no word. -/
theorem ner_of_stable {δ : Nat → Nat → Nat} {m : Nat → Bool} {n l : Nat} {f : Nat → Nat} (hδ : ∀ s a, s < n → a < l → δ s a < n) (hm : ∀ p q, p < n → q < n → f p = f q → m p = m q) (hs : ∀ p q a, p < n → q < n → a < l → f p = f q → f (δ p a) = f (δ q a)) :
    ∀ p q, p < n → q < n → f p = f q → Ner δ m l p q := by
  intro p q hp hq e z
  induction z generalizing p q with
  | nil => intro _; exact hm p q hp hq e
  | cons a z ih =>
    intro hz
    have ha := hz a (by simp)
    exact ih (δ p a) (δ q a) (hδ _ _ hp ha) (hδ _ _ hq ha) (hs p q a hp hq ha e) (fun b hb => hz b (by simp [hb]))

/-- Two states have one class, and so have those that letters lead to. -/
def eqF (f : Nat → Nat) (δ : Nat → Nat → Nat) (l p q : Nat) : Bool := decide (f p = f q) && (List.range l).all fun a => decide (f (δ p a) = f (δ q a))
theorem eqF_iff (f : Nat → Nat) (δ : Nat → Nat → Nat) (l p q : Nat) : eqF f δ l p q = true ↔ f p = f q ∧ ∀ a, a < l → f (δ p a) = f (δ q a) := by simp [eqF]
theorem eqF_refl (f : Nat → Nat) (δ : Nat → Nat → Nat) (l p : Nat) : eqF f δ l p p = true := by simp [eqF]
theorem eqF_symm {f : Nat → Nat} {δ : Nat → Nat → Nat} {l p q : Nat} (h : eqF f δ l p q = true) : eqF f δ l q p = true := by
  rw [eqF_iff] at h ⊢; exact ⟨h.1.symm, fun a ha => (h.2 a ha).symm⟩
theorem eqF_trans {f : Nat → Nat} {δ : Nat → Nat → Nat} {l p q r : Nat} (h : eqF f δ l p q = true) (k : eqF f δ l q r = true) : eqF f δ l p r = true := by
  rw [eqF_iff] at h k ⊢; exact ⟨h.1.trans k.1, fun a ha => (h.2 a ha).trans (k.2 a ha)⟩

def ixE (e : Nat → Nat → Bool) : List Nat → Nat → Nat
  | [], _ => 0
  | r :: rs, q => if e r q = true then 0 else ixE e rs q + 1
def anyE (e : Nat → Nat → Bool) (xs : List Nat) (q : Nat) : Prop := ∃ r, r ∈ xs ∧ e r q = true
theorem ixE_lt {e : Nat → Nat → Bool} {xs : List Nat} {q : Nat} (h : anyE e xs q) : ixE e xs q < xs.length := by
  obtain ⟨r, hr, he⟩ := h
  induction xs with
  | nil => simp at hr
  | cons x xs ih =>
    simp only [ixE]
    split
    · simp
    · next hne =>
      rcases List.mem_cons.1 hr with rfl | hr
      · exact absurd he hne
      · have := ih hr; simp; omega
theorem ixE_rel {e : Nat → Nat → Bool} {xs : List Nat} {q : Nat} (h : anyE e xs q) : e (xs.getD (ixE e xs q) 0) q = true := by
  obtain ⟨r, hr, he⟩ := h
  induction xs with
  | nil => simp at hr
  | cons x xs ih =>
    simp only [ixE]
    split
    · next h => simpa using h
    · next hne =>
      rcases List.mem_cons.1 hr with rfl | hr
      · exact absurd he hne
      · simpa using ih hr
/-- Where it stands first: by what stands ahead. -/
theorem ixE_eq {e : Nat → Nat → Bool} {xs : List Nat} {q k : Nat} (hk : k ≤ xs.length) (h : ∀ j, j < k → e (xs.getD j 0) q = false) (h2 : k < xs.length → e (xs.getD k 0) q = true) : ixE e xs q = k := by
  induction xs generalizing k with
  | nil => simp at hk; subst hk; rfl
  | cons x xs ih =>
    cases k with
    | zero => have := h2 (by simp); simp only [ixE]; rw [if_pos (by simpa using this)]
    | succ k =>
      have h0 := h 0 (by omega)
      simp only [ixE]
      rw [if_neg (by simpa using h0), ih (by simpa using hk) (fun j hj => by simpa using h (j + 1) (by omega)) (fun hl => by simpa using h2 (by simp; omega))]
theorem ixE_append {e : Nat → Nat → Bool} {xs : List Nat} {q : Nat} (h : anyE e xs q) (ys : List Nat) : ixE e (xs ++ ys) q = ixE e xs q := by
  obtain ⟨r, hr, he⟩ := h
  induction xs with
  | nil => simp at hr
  | cons x xs ih =>
    simp only [ixE, List.cons_append]
    split
    · rfl
    · next hne =>
      rcases List.mem_cons.1 hr with rfl | hr
      · exact absurd he hne
      · rw [ih hr]

/-- The first ones of each class, of the states ahead of q. -/
def fsE (e : Nat → Nat → Bool) : Nat → List Nat
  | 0 => []
  | q + 1 => if (fsE e q).any (fun r => e r q) = true then fsE e q else fsE e q ++ [q]
theorem fsE_any {e : Nat → Nat → Bool} {q : Nat} : (fsE e q).any (fun r => e r q) = true ↔ anyE e (fsE e q) q := by simp [anyE]
theorem fsE_old {e : Nat → Nat → Bool} {q : Nat} (h : anyE e (fsE e q) q) : fsE e (q + 1) = fsE e q := by simp only [fsE]; rw [if_pos (fsE_any.2 h)]
theorem fsE_new {e : Nat → Nat → Bool} {q : Nat} (h : ¬ anyE e (fsE e q) q) : fsE e (q + 1) = fsE e q ++ [q] := by simp only [fsE]; rw [if_neg (fun c => h (fsE_any.1 c))]
theorem fsE_le (e : Nat → Nat → Bool) {i j : Nat} (h : i ≤ j) : ∃ zs, fsE e j = fsE e i ++ zs := by
  induction j with
  | zero => have : i = 0 := by omega
            subst this; exact ⟨[], by simp⟩
  | succ j ih =>
    by_cases c : i = j + 1
    · subst c; exact ⟨[], by simp⟩
    · obtain ⟨zs, h1⟩ := ih (by omega)
      by_cases hc : anyE e (fsE e j) j
      · exact ⟨zs, by rw [fsE_old hc, h1]⟩
      · exact ⟨zs ++ [j], by rw [fsE_new hc, h1, List.append_assoc]⟩
theorem fsE_lt (e : Nat → Nat → Bool) (q : Nat) : ∀ r, r ∈ fsE e q → r < q := by
  induction q with
  | zero => intro r hr; simp [fsE] at hr
  | succ q ih =>
    intro r hr
    by_cases hc : anyE e (fsE e q) q
    · rw [fsE_old hc] at hr; have := ih r hr; omega
    · rw [fsE_new hc] at hr
      rcases List.mem_append.1 hr with h | h
      · have := ih r h; omega
      · simp at h; omega
theorem fsE_len (e : Nat → Nat → Bool) (q : Nat) : (fsE e q).length ≤ q := by
  induction q with
  | zero => simp [fsE]
  | succ q ih =>
    by_cases hc : anyE e (fsE e q) q
    · rw [fsE_old hc]; omega
    · rw [fsE_new hc]; simp; exact ih
section
variable {e : Nat → Nat → Bool}
theorem fsE_has (hr : ∀ p, e p p = true) {q N : Nat} (h : q < N) : anyE e (fsE e N) q := by
  obtain ⟨zs, h1⟩ := fsE_le e (show q + 1 ≤ N by omega)
  have h2 : anyE e (fsE e (q + 1)) q := by
    by_cases hc : anyE e (fsE e q) q
    · rw [fsE_old hc]; exact hc
    · rw [fsE_new hc]; exact ⟨q, by simp, hr q⟩
  obtain ⟨r, h3, h4⟩ := h2
  exact ⟨r, by rw [h1]; simp [h3], h4⟩
/-- No two of the first ones are in one class. -/
theorem fsE_apart (hs : ∀ p q, e p q = true → e q p = true) (ht : ∀ p q r, e p q = true → e q r = true → e p r = true) (N : Nat) : ∀ i j, i < j → j < (fsE e N).length → e ((fsE e N).getD i 0) ((fsE e N).getD j 0) = false := by
  induction N with
  | zero => intro i j _ hj; simp [fsE] at hj
  | succ N ih =>
    intro i j hij hj
    by_cases hc : anyE e (fsE e N) N
    · rw [fsE_old hc] at hj ⊢; exact ih i j hij hj
    · rw [fsE_new hc] at hj ⊢
      by_cases hjl : j < (fsE e N).length
      · rw [getD_app _ hjl, getD_app _ (by omega)]; exact ih i j hij hjl
      · have hje : j = (fsE e N).length := by simp at hj; omega
        subst hje
        have e1 : (fsE e N ++ [N]).getD (fsE e N).length 0 = N := by simp [List.getD]
        rw [e1, getD_app _ hij]
        cases hb : e ((fsE e N).getD i 0) N with
        | false => rfl
        | true => exact absurd ⟨_, getD_mem hij, hb⟩ hc
/-- The class of a state. -/
def clE (e : Nat → Nat → Bool) (N q : Nat) : Nat := ixE e (fsE e N) q
theorem clE_lt (hr : ∀ p, e p p = true) {N q : Nat} (h : q < N) : clE e N q < (fsE e N).length := ixE_lt (fsE_has hr h)
theorem clE_iff (hr : ∀ p, e p p = true) (hs : ∀ p q, e p q = true → e q p = true) (ht : ∀ p q r, e p q = true → e q r = true → e p r = true) {N p q : Nat} (hp : p < N) (hq : q < N) : clE e N p = clE e N q ↔ e p q = true := by
  have a1 := ixE_rel (fsE_has hr hp)
  have a2 := ixE_rel (fsE_has hr hq)
  have l1 := ixE_lt (fsE_has hr hp)
  have l2 := ixE_lt (fsE_has hr hq)
  constructor
  · intro h
    unfold clE at h
    rw [h] at a1
    exact ht _ _ _ (hs _ _ a1) a2
  · intro h
    have a3 : e ((fsE e N).getD (ixE e (fsE e N) p) 0) ((fsE e N).getD (ixE e (fsE e N) q) 0) = true := ht _ _ _ (ht _ _ _ a1 h) (hs _ _ a2)
    unfold clE
    rcases Nat.lt_trichotomy (ixE e (fsE e N) p) (ixE e (fsE e N) q) with c | c | c
    · have := fsE_apart hs ht N _ _ c l2; rw [this] at a3; cases a3
    · exact c
    · have := fsE_apart hs ht N _ _ c l1; rw [hs _ _ a3] at this; cases this
theorem clE_onto (hr : ∀ p, e p p = true) (hs : ∀ p q, e p q = true → e q p = true) (ht : ∀ p q r, e p q = true → e q r = true → e p r = true) {N c : Nat} (h : c < (fsE e N).length) : ∃ s, s < N ∧ clE e N s = c := by
  refine ⟨(fsE e N).getD c 0, fsE_lt e N _ (getD_mem h), ?_⟩
  refine ixE_eq (by omega) (fun j hj => fsE_apart hs ht N j c hj h) (fun _ => hr _)
theorem clE_at (hr : ∀ p, e p p = true) {N q : Nat} (h : q < N) : ixE e (fsE e (q + 1)) q = clE e N q := by
  obtain ⟨zs, h1⟩ := fsE_le e (show q + 1 ≤ N by omega)
  unfold clE
  rw [h1, ixE_append (fsE_has hr (by omega))]
end

/-- A list in which all numbers below m stand has m of them, or more. -/
theorem cover_len (m : Nat) : ∀ xs : List Nat, (∀ c, c < m → c ∈ xs) → m ≤ xs.length := by
  induction m with
  | zero => intro xs _; omega
  | succ m ih =>
    intro xs h
    have hm := h m (by omega)
    have h1 := ih (xs.erase m) (fun c hc => (List.mem_erase_of_ne (by omega)).2 (h c (by omega)))
    have h2 := List.length_erase_of_mem hm
    have h3 : 0 < xs.length := List.length_pos_of_mem hm
    omega
/-- .. and if it has just m, no two are the same. -/
theorem cover_inj {m : Nat} {xs : List Nat} (h : ∀ c, c < m → c ∈ xs) (hl : xs.length = m) {i j : Nat} (hij : i < j) (hj : j < xs.length) : xs.getD i 0 ≠ xs.getD j 0 := by
  intro hc
  have h1 := cover_len m (xs.eraseIdx j) (fun c hcm => by
    obtain ⟨k, hk, rfl⟩ := List.getElem_of_mem (h c hcm)
    rw [List.mem_eraseIdx_iff_getElem]
    by_cases hkj : k = j
    · subst hkj
      refine ⟨i, by omega, by omega, ?_⟩
      simpa [List.getD, hk, show i < xs.length by omega] using hc
    · exact ⟨k, hk, hkj, rfl⟩)
  rw [List.length_eraseIdx_of_lt hj] at h1
  omega

/-- What holds of classes at a round's head. -/
structure Moore (δ : Nat → Nat → Nat) (m : Nat → Bool) (n l : Nat) (f : Nat → Nat) (cnt : Nat) : Prop where
  keeps : ∀ p q, p < n → q < n → f p = f q → m p = m q
  coarse : ∀ p q, p < n → q < n → Ner δ m l p q → f p = f q
  onto : cnt = 0 ∨ ((∀ s, s < n → f s < cnt) ∧ ∀ c, c < cnt → ∃ s, s < n ∧ f s = c)
section
variable {δ : Nat → Nat → Nat} {m : Nat → Bool} {n l : Nat} {f : Nat → Nat} {cnt : Nat}
theorem moore_eq (δ : Nat → Nat → Nat) (l : Nat) (f : Nat → Nat) : (∀ p, eqF f δ l p p = true) ∧ (∀ p q, eqF f δ l p q = true → eqF f δ l q p = true) ∧ (∀ p q r, eqF f δ l p q = true → eqF f δ l q r = true → eqF f δ l p r = true) :=
  ⟨eqF_refl f δ l, fun _ _ => eqF_symm, fun _ _ _ => eqF_trans⟩
theorem Moore.start (δ : Nat → Nat → Nat) (m : Nat → Bool) (n l : Nat) : Moore δ m n l (fun s => if m s = true then 1 else 0) 0 := by
  refine ⟨fun p q _ _ h => ?_, fun p q _ _ h => by show (if m p = true then 1 else 0) = (if m q = true then 1 else 0); rw [h.mark], .inl rfl⟩
  cases h1 : m p <;> cases h2 : m q <;> simp [h1, h2] at h ⊢
/-- A round more. -/
theorem Moore.next (h : Moore δ m n l f cnt) (hδ : ∀ s a, s < n → a < l → δ s a < n) : Moore δ m n l (clE (eqF f δ l) n) (fsE (eqF f δ l) n).length := by
  obtain ⟨hr, hs, ht⟩ := moore_eq δ l f
  refine ⟨fun p q hp hq e => ?_, fun p q hp hq e => ?_, .inr ⟨fun s hs2 => clE_lt hr hs2, fun c hc => clE_onto hr hs ht hc⟩⟩
  · exact h.keeps p q hp hq ((eqF_iff f δ l p q).1 ((clE_iff hr hs ht hp hq).1 e)).1
  · exact (clE_iff hr hs ht hp hq).2 ((eqF_iff f δ l p q).2 ⟨h.coarse p q hp hq e, fun a ha => h.coarse _ _ (hδ _ _ hp ha) (hδ _ _ hq ha) (e.step ha)⟩)
theorem Moore.cover (h : Moore δ m n l f cnt) : ∀ c, c < cnt → c ∈ (fsE (eqF f δ l) n).map f := by
  obtain ⟨hr, hs, ht⟩ := moore_eq δ l f
  intro c hc
  rcases h.onto with h0 | ⟨_, h1⟩
  · omega
  · obtain ⟨s, hs1, rfl⟩ := h1 c hc
    have h2 := ixE_rel (fsE_has hr hs1)
    exact List.mem_map.2 ⟨_, getD_mem (ixE_lt (fsE_has hr hs1)), ((eqF_iff f δ l _ _).1 h2).1⟩
theorem Moore.grows (h : Moore δ m n l f cnt) : cnt ≤ (fsE (eqF f δ l) n).length := by
  have := cover_len cnt _ h.cover
  simpa using this
/-- Nothing has been parted: then no word tells apart what is in one class. -/
theorem Moore.end (h : Moore δ m n l f cnt) (hδ : ∀ s a, s < n → a < l → δ s a < n) (hn : 0 < n) (he : (fsE (eqF f δ l) n).length = cnt) {p q : Nat} (hp : p < n) (hq : q < n) : clE (eqF f δ l) n p = clE (eqF f δ l) n q ↔ Ner δ m l p q := by
  obtain ⟨hr, hs, ht⟩ := moore_eq δ l f
  have hstab : ∀ p q, p < n → q < n → f p = f q → eqF f δ l p q = true := by
    intro p q hp hq hf
    cases hb : eqF f δ l p q with
    | true => rfl
    | false =>
      have l1 := ixE_lt (fsE_has hr hp)
      have l2 := ixE_lt (fsE_has hr hq)
      have r1 := (eqF_iff f δ l _ _).1 (ixE_rel (fsE_has hr hp))
      have r2 := (eqF_iff f δ l _ _).1 (ixE_rel (fsE_has hr hq))
      have hne : ixE (eqF f δ l) (fsE (eqF f δ l) n) p ≠ ixE (eqF f δ l) (fsE (eqF f δ l) n) q := fun e => by
        have := (clE_iff hr hs ht hp hq).1 e
        rw [hb] at this; cases this
      have gm : ∀ i, i < (fsE (eqF f δ l) n).length → ((fsE (eqF f δ l) n).map f).getD i 0 = f ((fsE (eqF f δ l) n).getD i 0) := fun i hi => by simp [List.getD, hi]
      rcases Nat.lt_or_gt_of_ne hne with c | c
      · exact absurd (by rw [gm _ l1, gm _ l2, r1.1, r2.1, hf]) (cover_inj h.cover (by simpa using he) c (by simpa using l2))
      · exact absurd (by rw [gm _ l1, gm _ l2, r1.1, r2.1, hf]) (cover_inj h.cover (by simpa using he) c (by simpa using l1))
  constructor
  · intro e
    have e1 := ((eqF_iff f δ l p q).1 ((clE_iff hr hs ht hp hq).1 e)).1
    exact ner_of_stable hδ h.keeps (fun p q a hp hq ha e => ((eqF_iff f δ l p q).1 (hstab p q hp hq e)).2 a ha) p q hp hq e1
  · exact fun e => (h.next hδ).coarse p q hp hq e
end

end Go.Proofs.Ytcgkflddipflbaa

namespace Go.Proofs.Ytcgkflddipflbaa
set_option linter.unusedVariables false

/-- One value is turned. -/
def upd (f : Nat → Nat) (i x : Nat) : Nat → Nat := fun j => if j = i then x else f j
theorem upd_same (f : Nat → Nat) (i x : Nat) : upd f i x i = x := by simp [upd]
theorem upd_ne {f : Nat → Nat} {i x j : Nat} (h : j ≠ i) : upd f i x j = f j := by simp [upd, h]

/-- States in classes: their order, where each stands, its class; where each class begins and ends. -/
structure Parted (n K : Nat) (o p c b e : Nat → Nat) : Prop where
  on : ∀ i, i < n → o i < n
  po : ∀ i, i < n → p (o i) = i
  pn : ∀ s, s < n → p s < n
  op : ∀ s, s < n → o (p s) = s
  ck : ∀ s, s < n → c s < K
  cb : ∀ s, s < n → b (c s) ≤ p s
  ce : ∀ s, s < n → p s < e (c s)
  be : ∀ j, j < K → b j < e j
  en : ∀ j, j < K → e j ≤ n
  co : ∀ j, j < K → ∀ i, b j ≤ i → i < e j → c (o i) = j

section
variable {n K : Nat} {o p c b e k : Nat → Nat}

theorem Parted.start (n : Nat) (h : 0 < n) : Parted n 1 id id (fun _ => 0) (fun _ => 0) (fun _ => n) :=
  ⟨fun i hi => hi, fun i hi => rfl, fun s hs => hs, fun s hs => rfl, fun s hs => by omega, fun s hs => by omega, fun s hs => hs, fun j hj => h, fun j hj => Nat.le_refl _, fun j hj i _ _ => by omega⟩
/-- No more classes than states. -/
theorem Parted.le (h : Parted n K o p c b e) : K ≤ n := by
  have hnd : ((List.range K).map fun j => o (b j)).Nodup := by
    rw [List.nodup_iff_pairwise_ne, List.pairwise_map]
    refine List.Pairwise.imp_of_mem ?_ (List.nodup_iff_pairwise_ne.1 List.nodup_range)
    intro i j hi hj hij he
    have hi := List.mem_range.1 hi
    have hj := List.mem_range.1 hj
    have h1 := h.co i hi (b i) (Nat.le_refl _) (h.be i hi)
    have h2 := h.co j hj (b j) (Nat.le_refl _) (h.be j hj)
    rw [he] at h1
    exact hij (h1.symm.trans h2)
  have := nodup_le n _ hnd (fun x hx => by
    obtain ⟨j, hj, rfl⟩ := List.mem_map.1 hx
    have hj := List.mem_range.1 hj
    exact h.on _ (by have := h.be j hj; have := h.en j hj; omega))
  simpa using this
theorem Parted.bn (h : Parted n K o p c b e) {j : Nat} (hj : j < K) : b j < n := by have := h.be j hj; have := h.en j hj; omega
theorem Parted.mem (h : Parted n K o p c b e) {j s : Nat} (hj : j < K) (hs : s < n) : c s = j ↔ b j ≤ p s ∧ p s < e j := by
  constructor
  · rintro rfl; exact ⟨h.cb s hs, h.ce s hs⟩
  · rintro ⟨h1, h2⟩
    have := h.co j hj (p s) h1 h2
    rwa [h.op s hs] at this

/-- While states are picked: the picked ones of a class stand first in it. -/
structure Picking (n K : Nat) (o p c b e k : Nat → Nat) (T touched : List Nat) : Prop where
  parted : Parted n K o p c b e
  le : ∀ j, j < K → b j + k j ≤ e j
  pick : ∀ j, j < K → ∀ i, b j ≤ i → i < e j → (i < b j + k j ↔ o i ∈ T)
  tl : ∀ j, j ∈ touched ↔ (j < K ∧ 0 < k j)
  nd : touched.Nodup

theorem Picking.start (h : Parted n K o p c b e) (hk : ∀ j, j < K → k j = 0) : Picking n K o p c b e k [] [] :=
  ⟨h, fun j hj => by have := h.be j hj; rw [hk j hj]; omega, fun j hj i h1 h2 => by rw [hk j hj]; simp; omega, fun j => by
    constructor
    · intro h; simp at h
    · rintro ⟨hj, h0⟩; rw [hk j hj] at h0; omega, List.nodup_nil⟩

/-- Where the next one goes. -/
theorem Picking.to {T touched : List Nat} (h : Picking n K o p c b e k T touched) {s : Nat} (hs : s < n) (hT : s ∉ T) : b (c s) + k (c s) ≤ p s ∧ p s < n ∧ b (c s) + k (c s) < e (c s) ∧ o (b (c s) + k (c s)) < n := by
  have hj := h.parted.ck s hs
  have h1 := h.pick (c s) hj (p s) (h.parted.cb s hs) (h.parted.ce s hs)
  rw [h.parted.op s hs] at h1
  have h2 : ¬ p s < b (c s) + k (c s) := fun hc => hT (h1.1 hc)
  have h3 := h.parted.ce s hs
  have h4 := h.parted.pn s hs
  exact ⟨by omega, h4, by omega, h.parted.on _ (by omega)⟩

/-- Two of one class change places. -/
theorem Parted.move (h : Parted n K o p c b e) {s to : Nat} (hs : s < n) (h1 : b (c s) ≤ to) (h2 : to < e (c s)) :
    Parted n K (upd (upd o (p s) (o to)) to s) (upd (upd p (o to) (p s)) s to) c b e := by
  have hj := h.ck s hs
  have hto : to < n := by have := h.en _ hj; omega
  have hps := h.pn s hs
  have hot := h.on to hto
  have hco := h.co _ hj to h1 h2
  have hop := h.op s hs
  have hpo := h.po to hto
  have inj : ∀ i i', i < n → i' < n → o i = o i' → i = i' := fun i i' hi hi' e => by rw [← h.po i hi, e, h.po i' hi']
  have injp : ∀ i i', i < n → i' < n → p i = p i' → i = i' := fun i i' hi hi' e => by rw [← h.op i hi, e, h.op i' hi']
  refine ⟨fun i hi => ?_, fun i hi => ?_, fun t ht => ?_, fun t ht => ?_, h.ck, fun t ht => ?_, fun t ht => ?_, h.be, h.en, fun j hj' i hi1 hi2 => ?_⟩
  · unfold upd; split
    · exact hs
    · split
      · exact hot
      · exact h.on i hi
  · by_cases e1 : i = to
    · subst e1; rw [upd_same, upd_same]
    · rw [upd_ne e1]
      by_cases e2 : i = p s
      · subst e2
        rw [upd_same]
        by_cases e3 : o to = s
        · exact absurd (by rw [← e3, hpo]) e1
        · rw [upd_ne e3, upd_same]
      · rw [upd_ne e2]
        have e3 : o i ≠ s := fun e => e2 (by rw [← e, h.po i hi])
        have e4 : o i ≠ o to := fun e => e1 (inj _ _ hi hto e)
        rw [upd_ne e3, upd_ne e4, h.po i hi]
  · unfold upd; split
    · exact hto
    · split
      · exact hps
      · exact h.pn t ht
  · by_cases e1 : t = s
    · subst e1; rw [upd_same, upd_same]
    · rw [upd_ne e1]
      by_cases e2 : t = o to
      · subst e2
        rw [upd_same]
        by_cases e3 : p s = to
        · exact absurd (by rw [← e3, hop]) e1
        · rw [upd_ne e3, upd_same]
      · rw [upd_ne e2]
        have e3 : p t ≠ to := fun e => e2 (by rw [← e, h.op t ht])
        have e4 : p t ≠ p s := fun e => e1 (injp _ _ ht hs e)
        rw [upd_ne e3, upd_ne e4, h.op t ht]
  · by_cases e1 : t = s
    · subst e1; rw [upd_same]; exact h1
    · rw [upd_ne e1]
      by_cases e2 : t = o to
      · subst e2; rw [upd_same, hco]; exact h.cb s hs
      · rw [upd_ne e2]; exact h.cb t ht
  · by_cases e1 : t = s
    · subst e1; rw [upd_same]; exact h2
    · rw [upd_ne e1]
      by_cases e2 : t = o to
      · subst e2; rw [upd_same, hco]; exact h.ce s hs
      · rw [upd_ne e2]; exact h.ce t ht
  · have hin : i < n := by have := h.en j hj'; omega
    by_cases e1 : i = to
    · subst e1
      rw [upd_same]
      have := h.co j hj' i hi1 hi2
      exact hco.symm.trans this
    · rw [upd_ne e1]
      by_cases e2 : i = p s
      · subst e2
        rw [upd_same, hco]
        have := h.co j hj' _ hi1 hi2
        rwa [hop] at this
      · rw [upd_ne e2]; exact h.co j hj' i hi1 hi2

theorem Picking.step {T touched : List Nat} (h : Picking n K o p c b e k T touched) {s : Nat} (hs : s < n) (hT : s ∉ T) :
    Picking n K (upd (upd o (p s) (o (b (c s) + k (c s)))) (b (c s) + k (c s)) s) (upd (upd p (o (b (c s) + k (c s))) (p s)) s (b (c s) + k (c s))) c b e (upd k (c s) (k (c s) + 1)) (T ++ [s]) (if k (c s) = 0 then touched ++ [c s] else touched) := by
  obtain ⟨h1, h2, h3, h4⟩ := h.to hs hT
  have hj := h.parted.ck s hs
  refine ⟨h.parted.move hs (by omega) h3, fun j hj' => ?_, fun j hj' i hi1 hi2 => ?_, fun j => ?_, ?_⟩
  · by_cases e1 : j = c s
    · subst e1; rw [upd_same]; omega
    · rw [upd_ne e1]; exact h.le j hj'
  · have hin : i < n := by have := h.parted.en j hj'; omega
    generalize hto : b (c s) + k (c s) = to at *
    have hton : to < n := by have := h.parted.en _ hj; omega
    have hpick := h.pick j hj' i hi1 hi2
    by_cases e1 : i = to
    · subst e1
      rw [upd_same]
      have hjc : j = c s := by
        have a1 := h.parted.co j hj' i hi1 hi2
        have a2 := h.parted.co (c s) hj i (by omega) h3
        exact a1.symm.trans a2
      subst hjc
      rw [upd_same]
      simp; omega
    · rw [upd_ne e1]
      by_cases e2 : i = p s
      · subst e2
        rw [upd_same]
        have hjc : j = c s := by
          have a1 := h.parted.co j hj' _ hi1 hi2
          rw [h.parted.op s hs] at a1
          exact a1.symm
        subst hjc
        rw [upd_same]
        have hne : o to ≠ s := fun e => e1 (by rw [← e, h.parted.po to hton])
        have hp2 := h.pick (c s) hj to (by omega) h3
        have hnt : o to ∉ T := fun hc => by have := hp2.2 hc; omega
        simp [hne, hnt]; omega
      · rw [upd_ne e2]
        have hne : o i ≠ s := fun e => e2 (by rw [← e, h.parted.po i hin])
        simp only [List.mem_append, List.mem_singleton, hne, or_false]
        rw [← hpick]
        by_cases e3 : j = c s
        · subst e3; rw [upd_same]; omega
        · rw [upd_ne e3]
  · by_cases e1 : j = c s
    · subst e1
      rw [upd_same]
      split
      · simp [hj]
      · rw [h.tl]; omega
    · rw [upd_ne e1, ← h.tl j]
      split
      · simp [e1]
      · rfl
  · split
    · next h0 =>
      rw [List.nodup_append]
      refine ⟨h.nd, by simp, fun a ha b hb => ?_⟩
      simp at hb
      subst hb
      intro e
      subst e
      have := ((h.tl _).1 ha).2
      omega
    · exact h.nd

/-- While classes are cut: those of todo are not yet. -/
structure Cutting (n K0 : Nat) (c0 : Nat → Nat) (S todo : List Nat) (K : Nat) (o p c b e k : Nat → Nat) : Prop where
  parted : Parted n K o p c b e
  k0 : K0 ≤ K
  le : ∀ j, j < K → b j + k j ≤ e j
  rest : ∀ j, j ∈ todo → j < K0 ∧ 0 < k j ∧ ∀ i, b j ≤ i → i < e j → (i < b j + k j ↔ o i ∈ S)
  zero : ∀ j, j < K → j ∉ todo → k j = 0
  keep : ∀ s, s < n → c s = c0 s ∨ K0 ≤ c s
  nd : todo.Nodup
  old : ∀ s, s < n → c0 s ∈ todo → c s = c0 s
  same : ∀ s t, s < n → t < n → (c s = c t ↔ c0 s = c0 t ∧ (c0 s ∉ todo → (s ∈ S ↔ t ∈ S)))

theorem Cutting.start {S touched : List Nat} (h : Picking n K o p c b e k S touched) : Cutting n K c S touched K o p c b e k := by
  refine ⟨h.parted, Nat.le_refl _, h.le, fun j hj => ⟨((h.tl j).1 hj).1, ((h.tl j).1 hj).2, h.pick j ((h.tl j).1 hj).1⟩, fun j hj hn => ?_, fun s _ => .inl rfl, h.nd, fun s _ _ => rfl, fun s t hs ht => ?_⟩
  · have : ¬ (j < K ∧ 0 < k j) := fun hc => hn ((h.tl j).2 hc)
    omega
  · constructor
    · intro he
      refine ⟨he, fun hn => ?_⟩
      have hk : k (c s) = 0 := by
        have : ¬ (c s < K ∧ 0 < k (c s)) := fun hc => hn ((h.tl _).2 hc)
        have := h.parted.ck s hs
        omega
      have no : ∀ x, x < n → c x = c s → x ∉ S := fun x hx hxc hxS => by
        have := (h.pick (c x) (h.parted.ck x hx) (p x) (h.parted.cb x hx) (h.parted.ce x hx)).2 (by rw [h.parted.op x hx]; exact hxS)
        have := h.parted.cb x hx
        rw [hxc] at *
        omega
      simp [no s hs rfl, no t ht he.symm]
    · exact fun h => h.1

/-- A class whose states are all picked stays. -/
theorem Cutting.stay {K0 : Nat} {c0 : Nat → Nat} {S todo : List Nat} {j : Nat} (h : Cutting n K0 c0 S (j :: todo) K o p c b e k) (hat : ¬ b j + k j < e j) : Cutting n K0 c0 S todo K o p c b e (upd k j 0) := by
  obtain ⟨hj0, hk, hpick⟩ := h.rest j (by simp)
  have hjK : j < K := Nat.lt_of_lt_of_le hj0 h.k0
  have hnj := (List.nodup_cons.1 h.nd).1
  refine ⟨h.parted, h.k0, fun i hi => ?_, fun i hi => ?_, fun i hi hn => ?_, h.keep, (List.nodup_cons.1 h.nd).2, fun s hs hc => h.old s hs (by simp [hc]), fun s t hs ht => ?_⟩
  · by_cases e1 : i = j
    · subst e1; rw [upd_same]; have := h.parted.be i hi; omega
    · rw [upd_ne e1]; exact h.le i hi
  · obtain ⟨a1, a2, a3⟩ := h.rest i (by simp [hi])
    have e1 : i ≠ j := fun e => hnj (e ▸ hi)
    rw [upd_ne e1]
    exact ⟨a1, a2, a3⟩
  · by_cases e1 : i = j
    · subst e1; rw [upd_same]
    · rw [upd_ne e1]; exact h.zero i hi (by simp [e1, hn])
  · rw [h.same s t hs ht]
    refine and_congr_right fun he => ?_
    by_cases e1 : c0 s = j
    · have all : ∀ x, x < n → c0 x = j → x ∈ S := fun x hx hxc => by
        have hc : c x = j := by rw [h.old x hx (by simp [hxc]), hxc]
        have h1 := h.parted.cb x hx
        have h2 := h.parted.ce x hx
        rw [hc] at h1 h2
        have := (hpick (p x) h1 h2).1 (by omega)
        rwa [h.parted.op x hx] at this
      simp [all s hs e1, all t ht (by rw [← he, e1])]
    · simp [e1]

/-- A class is cut: [lo, hi) is the new one, [lo', hi') stays. -/
theorem Parted.cut (h : Parted n K o p c b e) {j lo hi lo' hi' : Nat} (hj : j < K) (h1 : lo < hi) (h2 : lo' < hi') (hs : (lo = b j ∧ hi = lo' ∧ hi' = e j) ∨ (lo' = b j ∧ hi' = lo ∧ hi = e j)) :
    Parted n (K + 1) o p (fun s => if lo ≤ p s ∧ p s < hi then K else c s) (upd (upd b j lo') K lo) (upd (upd e j hi') K hi) := by
  have hjK : j ≠ K := by omega
  have hen := h.en j hj
  refine ⟨h.on, h.po, h.pn, h.op, fun s hs' => ?_, fun s hs' => ?_, fun s hs' => ?_, fun i hi => ?_, fun i hi => ?_, fun i hi q hq1 hq2 => ?_⟩
  · have := h.ck s hs'; split <;> omega
  · skip
    split
    · next hc => rw [upd_same]; exact hc.1
    · next hc =>
      have hck := h.ck s hs'
      have hcb := h.cb s hs'
      have hce := h.ce s hs'
      rw [upd_ne (by omega)]
      by_cases e1 : c s = j
      · rw [e1] at hcb hce ⊢
        rw [upd_same]
        omega
      · rw [upd_ne e1]; exact hcb
  · skip
    split
    · next hc => rw [upd_same]; exact hc.2
    · next hc =>
      have hck := h.ck s hs'
      have hcb := h.cb s hs'
      have hce := h.ce s hs'
      rw [upd_ne (by omega)]
      by_cases e1 : c s = j
      · rw [e1] at hcb hce ⊢
        rw [upd_same]
        omega
      · rw [upd_ne e1]; exact hce
  · by_cases e0 : i = K
    · subst e0; rw [upd_same, upd_same]; exact h1
    · rw [upd_ne e0, upd_ne e0]
      by_cases e1 : i = j
      · subst e1; rw [upd_same, upd_same]; exact h2
      · rw [upd_ne e1, upd_ne e1]; exact h.be i (by omega)
  · by_cases e0 : i = K
    · subst e0; rw [upd_same]; omega
    · rw [upd_ne e0]
      by_cases e1 : i = j
      · subst e1; rw [upd_same]; omega
      · rw [upd_ne e1]; exact h.en i (by omega)
  · by_cases e0 : i = K
    · subst e0
      rw [upd_same] at hq1 hq2
      have hqn : q < n := by omega
      rw [h.po q hqn, if_pos ⟨hq1, hq2⟩]
    · rw [upd_ne e0] at hq1 hq2
      by_cases e1 : i = j
      · subst e1
        rw [upd_same] at hq1 hq2
        have hqn : q < n := by omega
        rw [h.po q hqn, if_neg (by omega)]
        exact h.co i hj q (by omega) (by omega)
      · rw [upd_ne e1] at hq1 hq2
        have hiK : i < K := by omega
        have hqn : q < n := by have := h.en i hiK; omega
        have hco := h.co i hiK q hq1 hq2
        rw [h.po q hqn, if_neg]
        · exact hco
        · intro hc
          have := h.co j hj q (by omega) (by omega)
          exact e1 (hco.symm.trans this)

theorem Cutting.cut {K0 : Nat} {c0 : Nat → Nat} {S todo : List Nat} {j lo hi lo' hi' : Nat} (h : Cutting n K0 c0 S (j :: todo) K o p c b e k) (hat : b j + k j < e j)
    (hs : (lo = b j ∧ hi = b j + k j ∧ lo' = b j + k j ∧ hi' = e j) ∨ (lo' = b j ∧ hi' = b j + k j ∧ lo = b j + k j ∧ hi = e j)) :
    Cutting n K0 c0 S todo (K + 1) o p (fun s => if lo ≤ p s ∧ p s < hi then K else c s) (upd (upd b j lo') K lo) (upd (upd e j hi') K hi) (upd (upd k j 0) K 0) := by
  obtain ⟨hj0, hk, hpick⟩ := h.rest j (by simp)
  have hjK : j < K := Nat.lt_of_lt_of_le hj0 h.k0
  have hnj := (List.nodup_cons.1 h.nd).1
  have hk0 := h.k0
  have hP := h.parted.cut (lo := lo) (hi := hi) (lo' := lo') (hi' := hi') hjK (by omega) (by omega) (by omega)
  have hin : ∀ s, s < n → (lo ≤ p s ∧ p s < hi) → c s = j := fun s hs' hc => (h.parted.mem hjK hs').2 ⟨by omega, by omega⟩
  have hins : ∀ s, s < n → c s = j → (s ∈ S ↔ p s < b j + k j) := fun s hs' hc => by
    have := (h.parted.mem hjK hs').1 hc
    have := hpick (p s) this.1 this.2
    rw [h.parted.op s hs'] at this
    exact this.symm
  have hold : ∀ s, s < n → (c0 s = j ↔ c s = j) := fun s hs' => by
    constructor
    · intro hc; rw [h.old s hs' (by simp [hc]), hc]
    · intro hc
      rcases h.keep s hs' with h1 | h1
      · rw [← h1, hc]
      · omega
  refine ⟨hP, by omega, fun i hi2 => ?_, fun i hi2 => ?_, fun i hi2 hn => ?_, fun s hs' => ?_, (List.nodup_cons.1 h.nd).2, fun s hs' hc => ?_, fun s t hs' ht' => ?_⟩
  · by_cases e0 : i = K
    · subst e0; rw [upd_same, upd_same, upd_same]; omega
    · rw [upd_ne e0, upd_ne e0, upd_ne e0]
      by_cases e1 : i = j
      · subst e1; rw [upd_same, upd_same, upd_same]; omega
      · rw [upd_ne e1, upd_ne e1, upd_ne e1]; exact h.le i (by omega)
  · obtain ⟨a1, a2, a3⟩ := h.rest i (by simp [hi2])
    have e1 : i ≠ j := fun e => hnj (e ▸ hi2)
    have e0 : i ≠ K := by omega
    rw [upd_ne e0, upd_ne e1, upd_ne e0, upd_ne e1, upd_ne e0, upd_ne e1]
    exact ⟨a1, a2, a3⟩
  · by_cases e0 : i = K
    · subst e0; rw [upd_same]
    · rw [upd_ne e0]
      by_cases e1 : i = j
      · subst e1; rw [upd_same]
      · rw [upd_ne e1]; exact h.zero i (by omega) (by simp [e1, hn])
  · skip
    split
    · right; omega
    · exact h.keep s hs'
  · have e1 : c0 s ≠ j := fun e => hnj (e ▸ hc)
    rw [if_neg (fun hx => e1 ((hold s hs').2 (hin s hs' hx)))]
    exact h.old s hs' (by simp [hc])
  · have hss := h.same s t hs' ht'
    by_cases e1 : c0 s = j
    · have e1c := (hold s hs').1 e1
      have m1 := (h.parted.mem hjK hs').1 e1c
      have i1 := hins s hs' e1c
      have hnt : c0 s ∉ todo := by rw [e1]; exact hnj
      by_cases e2 : c0 t = j
      · have e2c := (hold t ht').1 e2
        have m2 := (h.parted.mem hjK ht').1 e2c
        have i2 := hins t ht' e2c
        rw [e1, e2, e1c, e2c]
        simp only [true_and, hnj, not_false_eq_true, forall_const]
        rw [i1, i2]
        have hKj : K ≠ j := by omega
        have hjK' : j ≠ K := by omega
        rcases hs with ⟨r1, r2, r3, r4⟩ | ⟨r1, r2, r3, r4⟩
        · rw [r1, r2]
          by_cases f1 : p s < b j + k j
          · by_cases f2 : p t < b j + k j
            · rw [if_pos ⟨by omega, f1⟩, if_pos ⟨by omega, f2⟩]; simp [f1, f2]
            · rw [if_pos ⟨by omega, f1⟩, if_neg (by omega)]; simp [f1, f2, hKj]
          · by_cases f2 : p t < b j + k j
            · rw [if_neg (by omega), if_pos ⟨by omega, f2⟩]; simp [f1, f2, hjK']
            · rw [if_neg (by omega), if_neg (by omega)]; simp [f1, f2]
        · rw [r3, r4]
          by_cases f1 : p s < b j + k j
          · by_cases f2 : p t < b j + k j
            · rw [if_neg (by omega), if_neg (by omega)]; simp [f1, f2]
            · rw [if_neg (by omega), if_pos (by omega)]; simp [f1, f2, hjK']
          · by_cases f2 : p t < b j + k j
            · rw [if_pos (by omega), if_neg (by omega)]; simp [f1, f2, hKj]
            · rw [if_pos (by omega), if_pos (by omega)]; simp [f1, f2]
      · have e2c : c t ≠ j := fun e => e2 ((hold t ht').2 e)
        rw [if_neg (fun hx => e2c (hin t ht' hx))]
        have hct := h.parted.ck t ht'
        constructor
        · intro hx
          exfalso
          split at hx
          · omega
          · rw [e1c] at hx; exact e2c hx.symm
        · rintro ⟨hx, _⟩
          exact absurd (by rw [← hx, e1]) e2
    · have e1c : c s ≠ j := fun e => e1 ((hold s hs').2 e)
      rw [if_neg (fun hx => e1c (hin s hs' hx))]
      have hcs := h.parted.ck s hs'
      by_cases e2 : c0 t = j
      · have e2c := (hold t ht').1 e2
        constructor
        · intro hx
          exfalso
          split at hx
          · omega
          · rw [e2c] at hx; exact e1c hx
        · rintro ⟨hx, _⟩
          exact absurd (by rw [hx, e2]) e1
      · have e2c : c t ≠ j := fun e => e2 ((hold t ht').2 e)
        rw [if_neg (fun hx => e2c (hin t ht' hx)), hss]
        simp [e1]

/-- What parting by S does. -/
structure PartOf (n K : Nat) (c : Nat → Nat) (S : Nat → Prop) (K' : Nat) (c' : Nat → Nat) : Prop where
  le : K ≤ K'
  keep : ∀ s, s < n → c' s = c s ∨ K ≤ c' s
  same : ∀ s t, s < n → t < n → (c' s = c' t ↔ c s = c t ∧ (S s ↔ S t))
theorem Cutting.done {K0 : Nat} {c0 : Nat → Nat} {S : List Nat} (h : Cutting n K0 c0 S [] K o p c b e k) : PartOf n K0 c0 (· ∈ S) K c ∧ Parted n K o p c b e ∧ ∀ j, j < K → k j = 0 :=
  ⟨⟨h.k0, h.keep, fun s t hs ht => by simpa using h.same s t hs ht⟩, h.parted, fun j hj => h.zero j hj (by simp)⟩
end

/-- All classes ahead of the k-th have been gone through. -/
structure Hop (δ : Nat → Nat → Nat) (m : Nat → Bool) (n l K : Nat) (c : Nat → Nat) (k : Nat) : Prop where
  keeps : ∀ s t, s < n → t < n → c s = c t → m s = m t
  coarse : ∀ s t, s < n → t < n → Ner δ m l s t → c s = c t
  through : ∀ s t a, s < n → t < n → a < l → c s = c t → c (δ s a) < k → c (δ t a) < k → c (δ s a) = c (δ t a)
section
variable {δ : Nat → Nat → Nat} {m : Nat → Bool} {n l : Nat}
theorem Hop.start {K : Nat} {c : Nat → Nat} (h : PartOf n 1 (fun _ => 0) (fun s => m s = true) K c) : Hop δ m n l K c 0 :=
  ⟨fun s t hs ht e => by
      have := ((h.same s t hs ht).1 e).2
      cases h1 : m s <;> cases h2 : m t <;> simp [h1, h2] at this ⊢, fun s t hs ht e => (h.same s t hs ht).2 ⟨rfl, by rw [e.mark]⟩, fun s t a _ _ _ _ h1 => by omega⟩
/-- While the letters of the k-th are gone through. -/
structure HopIn (δ : Nat → Nat → Nat) (m : Nat → Bool) (n l k K0 : Nat) (c0 : Nat → Nat) (K : Nat) (c : Nat → Nat) (a : Nat) : Prop where
  le : K0 ≤ K
  keep : ∀ s, s < n → c s = c0 s ∨ K0 ≤ c s
  fine : ∀ s t, s < n → t < n → c s = c t → c0 s = c0 t
  coarse : ∀ s t, s < n → t < n → Ner δ m l s t → c s = c t
  by_ : ∀ s t b, s < n → t < n → b < a → c s = c t → (c0 (δ s b) = k ↔ c0 (δ t b) = k)
theorem HopIn.start {k K : Nat} {c : Nat → Nat} (h : Hop δ m n l K c k) : HopIn δ m n l k K c K c 0 :=
  ⟨Nat.le_refl _, fun s _ => .inl rfl, fun _ _ _ _ e => e, h.coarse, fun s t b _ _ hb => by omega⟩
theorem HopIn.step {k K0 K K' : Nat} {c0 c c' : Nat → Nat} {a : Nat} (h0 : Hop δ m n l K0 c0 k) (hδ : ∀ s a, s < n → a < l → δ s a < n) (ha : a < l) (h : HopIn δ m n l k K0 c0 K c a) (hp : PartOf n K c (fun s => c0 (δ s a) = k) K' c') : HopIn δ m n l k K0 c0 K' c' (a + 1) := by
  have hle := h.le
  have hle' := hp.le
  refine ⟨by omega, fun s hs => ?_, fun s t hs ht e => h.fine s t hs ht ((hp.same s t hs ht).1 e).1, fun s t hs ht e => ?_, fun s t b hs ht hb e => ?_⟩
  · rcases hp.keep s hs with h1 | h1
    · rw [h1]; exact h.keep s hs
    · right; omega
  · refine (hp.same s t hs ht).2 ⟨h.coarse s t hs ht e, ?_⟩
    rw [h0.coarse _ _ (hδ _ _ hs ha) (hδ _ _ ht ha) (e.step ha)]
  · have he := (hp.same s t hs ht).1 e
    by_cases e1 : b = a
    · subst e1; exact he.2
    · exact h.by_ s t b hs ht (by omega) he.1
theorem HopIn.done {k K0 K : Nat} {c0 c : Nat → Nat} (h0 : Hop δ m n l K0 c0 k) (hδ : ∀ s a, s < n → a < l → δ s a < n) (hk : k < K0) (h : HopIn δ m n l k K0 c0 K c l) : Hop δ m n l K c (k + 1) := by
  refine ⟨fun s t hs ht e => h0.keeps s t hs ht (h.fine s t hs ht e), h.coarse, fun s t a hs ht ha e h1 h2 => ?_⟩
  have hle := h.le
  have e0 := h.fine s t hs ht e
  have k1 : c (δ s a) = c0 (δ s a) := by
    rcases h.keep _ (hδ _ _ hs ha) with hx | hx
    · exact hx
    · omega
  have k2 : c (δ t a) = c0 (δ t a) := by
    rcases h.keep _ (hδ _ _ ht ha) with hx | hx
    · exact hx
    · omega
  have hb := h.by_ s t a hs ht ha e
  rw [k1, k2]
  rw [k1] at h1
  rw [k2] at h2
  by_cases f1 : c0 (δ s a) = k
  · rw [f1, hb.1 f1]
  · have f2 : c0 (δ t a) ≠ k := fun hx => f1 (hb.2 hx)
    exact h0.through s t a hs ht ha e0 (by omega) (by omega)
/-- At the end classes are what no word tells apart. -/
theorem Hop.end {K : Nat} {c : Nat → Nat} (h : Hop δ m n l K c K) (hδ : ∀ s a, s < n → a < l → δ s a < n) (hc : ∀ s, s < n → c s < K) {s t : Nat} (hs : s < n) (ht : t < n) : c s = c t ↔ Ner δ m l s t :=
  ⟨fun e => ner_of_stable hδ h.keeps (fun p q a hp hq ha e => h.through p q a hp hq ha e (hc _ (hδ _ _ hp ha)) (hc _ (hδ _ _ hq ha))) s t hs ht e, h.coarse s t hs ht⟩
end

/-- Where a letter comes from. -/
def backL (δ : Nat → Nat → Nat) (n a s : Nat) : List Nat := (List.range n).filter fun t => δ t a == s
theorem backL_mem {δ : Nat → Nat → Nat} {n a s t : Nat} : t ∈ backL δ n a s ↔ t < n ∧ δ t a = s := by simp [backL]
theorem backL_nodup (δ : Nat → Nat → Nat) (n a s : Nat) : (backL δ n a s).Nodup := List.Pairwise.filter _ List.nodup_range
theorem backL_snoc (δ : Nat → Nat → Nat) (n a s : Nat) : backL δ (n + 1) a s = if δ n a = s then backL δ n a s ++ [n] else backL δ n a s := by
  simp only [backL, List.range_succ, List.filter_append, List.filter_cons, List.filter_nil]
  by_cases h : δ n a = s
  · simp [h]
  · simp [h]
theorem from_nodup {δ : Nat → Nat → Nat} {n a : Nat} {ms : List Nat} (h : ms.Nodup) : (ms.flatMap (backL δ n a)).Nodup := by
  refine List.pairwise_flatMap.2 ⟨fun s _ => backL_nodup _ _ _ _, ?_⟩
  refine List.Pairwise.imp ?_ h
  intro x y hxy t h1 u h2 e
  subst e
  exact hxy ((backL_mem.1 h1).2.symm.trans (backL_mem.1 h2).2)
theorem from_mem {δ : Nat → Nat → Nat} {n a t : Nat} {ms : List Nat} : t ∈ ms.flatMap (backL δ n a) ↔ t < n ∧ δ t a ∈ ms := by
  simp only [List.mem_flatMap, backL_mem]
  constructor
  · rintro ⟨s, h1, h2, rfl⟩; exact ⟨h2, h1⟩
  · rintro ⟨h1, h2⟩; exact ⟨_, h2, h1, rfl⟩
theorem from_len {δ : Nat → Nat → Nat} {n a : Nat} {ms : List Nat} (h : ms.Nodup) : (ms.flatMap (backL δ n a)).length ≤ n :=
  nodup_le n _ (from_nodup h) (fun t ht => (from_mem.1 ht).1)

end Go.Proofs.Ytcgkflddipflbaa

namespace Go.Proofs.Ytcgkflddipflbaa
set_option linter.unusedVariables false

theorem ner_key (δ : Nat → Nat → Nat) (m : Nat → Bool) (n l : Nat) : ∃ κ : Nat → Nat, ∀ p q, p < n → q < n → (κ p = κ q ↔ Ner δ m l p q) := by
  classical
  refine ⟨fun p => (List.range n).findIdx fun r => decide (Ner δ m l r p), fun p q hp hq => ?_⟩
  have key : ∀ p, p < n → Ner δ m l ((List.range n).findIdx fun r => decide (Ner δ m l r p)) p := fun p hp => by
    have h1 : (List.range n).findIdx (fun r => decide (Ner δ m l r p)) < (List.range n).length := List.findIdx_lt_length_of_exists ⟨p, List.mem_range.2 hp, by simpa using Ner.refl δ m l p⟩
    have h2 := List.findIdx_getElem (w := h1)
    simpa using h2
  constructor
  · intro e
    have h1 := key p hp
    have h2 := key q hq
    simp only at e
    rw [e] at h1
    exact h1.symm.trans h2
  · intro e
    have : (fun r => decide (Ner δ m l r p)) = fun r => decide (Ner δ m l r q) := funext fun r => by
      congr 1
      exact propext ⟨fun h => h.trans e, fun h => h.trans e.symm⟩
    simp only [this]

end Go.Proofs.Ytcgkflddipflbaa

namespace Go.Proofs.Ytcgkflddipflbaa
set_option linter.unusedVariables false

/-- Five digits. -/
def dg (c s : Nat) : Nat := c / 5 ^ s % 5
def mkc (f : Nat → Nat) : Nat := f 0 + 5 * f 1 + 25 * f 2 + 125 * f 3 + 625 * f 4
theorem dg_lt (c s : Nat) : dg c s < 5 := Nat.mod_lt _ (by omega)
theorem five {s : Nat} (h : s < 5) : s = 0 ∨ s = 1 ∨ s = 2 ∨ s = 3 ∨ s = 4 := by omega
theorem dg_mkc {f : Nat → Nat} (hf : ∀ s, s < 5 → f s < 5) {s : Nat} (hs : s < 5) : dg (mkc f) s = f s := by
  have h0 := hf 0 (by omega)
  have h1 := hf 1 (by omega)
  have h2 := hf 2 (by omega)
  have h3 := hf 3 (by omega)
  have h4 := hf 4 (by omega)
  unfold dg mkc
  rcases five hs with rfl | rfl | rfl | rfl | rfl <;> simp only [Nat.reducePow] <;> omega
theorem mkc_lt {f : Nat → Nat} (hf : ∀ s, s < 5 → f s < 5) : mkc f < 3125 := by
  have h0 := hf 0 (by omega)
  have h1 := hf 1 (by omega)
  have h2 := hf 2 (by omega)
  have h3 := hf 3 (by omega)
  have h4 := hf 4 (by omega)
  unfold mkc; omega
theorem dg_inj {c c' : Nat} (hc : c < 3125) (hc' : c' < 3125) (h : ∀ s, s < 5 → dg c s = dg c' s) : c = c' := by
  have h0 := h 0 (by omega)
  have h1 := h 1 (by omega)
  have h2 := h 2 (by omega)
  have h3 := h 3 (by omega)
  have h4 := h 4 (by omega)
  unfold dg at h0 h1 h2 h3 h4
  simp only [Nat.reducePow] at h0 h1 h2 h3 h4
  omega
/-- A letter behind what was done: the first k states have gone on. -/
def thenK (δ : Nat → Nat → Nat) (k c a : Nat) : Nat := mkc fun s => if s < k then δ (dg c s) a else dg c s
def idle0 : Nat := mkc fun s => s
theorem idle_dg {s : Nat} (hs : s < 5) : dg idle0 s = s := dg_mkc (fun s h => h) hs
/-- What a word does. -/
def deed (δ : Nat → Nat → Nat) (n : Nat) (w : List Nat) : Nat := w.foldl (thenK δ n) idle0
section
variable {δ : Nat → Nat → Nat} {n l : Nat}
theorem deed_snoc (w : List Nat) (a : Nat) : deed δ n (w ++ [a]) = thenK δ n (deed δ n w) a := by unfold deed; rw [List.foldl_append]; rfl
theorem deed_facts (hn : n ≤ 5) (hδ : ∀ s a, s < n → a < l → δ s a < n) (w : List Nat) (hw : ∀ a, a ∈ w → a < l) : deed δ n w < 3125 ∧ (∀ s, s < n → dg (deed δ n w) s = w.foldl δ s ∧ w.foldl δ s < n) ∧ ∀ s, n ≤ s → s < 5 → dg (deed δ n w) s = s := by
  have key : ∀ u : List Nat, (∀ a, a ∈ u → a < l) → ∀ c, c < 3125 → (∀ s, s < n → dg c s < n) → u.foldl (thenK δ n) c < 3125 ∧ (∀ s, s < n → dg (u.foldl (thenK δ n) c) s = u.foldl δ (dg c s) ∧ u.foldl δ (dg c s) < n) ∧ ∀ s, n ≤ s → s < 5 → dg (u.foldl (thenK δ n) c) s = dg c s := by
    intro u
    induction u with
    | nil => intro _ c hc hd; exact ⟨hc, fun s hs => ⟨rfl, hd s hs⟩, fun _ _ _ => rfl⟩
    | cons a u ih =>
      intro hu c hc hd
      have ha := hu a (by simp)
      have hf : ∀ s, s < 5 → (if s < n then δ (dg c s) a else dg c s) < 5 := fun s hs => by
        split
        · next h => have := hδ _ _ (hd s h) ha; omega
        · exact dg_lt _ _
      have e : ∀ s, s < 5 → dg (thenK δ n c a) s = if s < n then δ (dg c s) a else dg c s := fun s hs => dg_mkc hf hs
      obtain ⟨h1, h2, h3⟩ := ih (fun x hx => hu x (by simp [hx])) (thenK δ n c a) (mkc_lt hf) (fun s hs => by rw [e s (by omega), if_pos hs]; exact hδ _ _ (hd s hs) ha)
      simp only [List.foldl_cons]
      refine ⟨h1, fun s hs => ?_, fun s hs hs5 => ?_⟩
      · obtain ⟨h4, h5⟩ := h2 s hs
        rw [e s (by omega), if_pos hs] at h4 h5
        exact ⟨h4, h5⟩
      · rw [h3 s hs hs5, e s hs5, if_neg (by omega)]
  have hid : ∀ s, s < n → dg idle0 s < n := fun s hs => by rw [idle_dg (by omega)]; exact hs
  obtain ⟨h1, h2, h3⟩ := key w hw idle0 (mkc_lt (fun s h => h)) hid
  refine ⟨h1, fun s hs => ?_, fun s hs hs5 => ?_⟩
  · have := h2 s hs
    rw [idle_dg (by omega)] at this
    exact this
  · have := h3 s hs hs5
    rw [idle_dg hs5] at this
    exact this
/-- What is seen of it: the states. -/
def doesL (n c : Nat) : List Nat := (List.range n).map (dg c)
theorem doesL_len (n c : Nat) : (doesL n c).length = n := by simp [doesL]
theorem doesL_get {n c s : Nat} (h : s < n) : (doesL n c).getD s 0 = dg c s := by simp [doesL, List.getD, h]
theorem does_inj (hn : n ≤ 5) (hδ : ∀ s a, s < n → a < l → δ s a < n) {u v : List Nat} (hu : ∀ a, a ∈ u → a < l) (hv : ∀ a, a ∈ v → a < l) (h : doesL n (deed δ n u) = doesL n (deed δ n v)) : deed δ n u = deed δ n v := by
  obtain ⟨a1, a2, a3⟩ := deed_facts hn hδ u hu
  obtain ⟨b1, b2, b3⟩ := deed_facts hn hδ v hv
  refine dg_inj a1 b1 fun s hs => ?_
  by_cases hsn : s < n
  · have e1 := doesL_get (c := deed δ n u) hsn
    rw [h, doesL_get hsn] at e1
    exact e1.symm
  · rw [a3 s (by omega) hs, b3 s (by omega) hs]
end

/-- A word is put behind, if what it does is new. -/
def addW (κ : List Nat → Nat) (ws : List (List Nat)) (u : List Nat) : List (List Nat) := if κ u ∈ ws.map κ then ws else ws ++ [u]
def rowW (κ : List Nat → Nat) (u : List Nat) : Nat → List (List Nat) → List (List Nat)
  | 0, ws => ws
  | a + 1, ws => addW κ (rowW κ u a ws) (u ++ [a])
def bfsW (κ : List Nat → Nat) (l : Nat) : Nat → List (List Nat)
  | 0 => [[]]
  | i + 1 => if i < (bfsW κ l i).length then rowW κ ((bfsW κ l i).getD i []) l (bfsW κ l i) else bfsW κ l i
/-- It ends behind the k-th. -/
structure EndW (κ : List Nat → Nat) (l k : Nat) : Prop where
  len : (bfsW κ l k).length = k
  go : ∀ i, i < k → i < (bfsW κ l i).length
section
variable {κ : List Nat → Nat} {l : Nat}
theorem addW_more (ws : List (List Nat)) (u : List Nat) : ∃ zs, addW κ ws u = ws ++ zs := by
  unfold addW; split
  · exact ⟨[], by simp⟩
  · exact ⟨[u], rfl⟩
theorem rowW_more (u : List Nat) (a : Nat) (ws : List (List Nat)) : ∃ zs, rowW κ u a ws = ws ++ zs := by
  induction a with
  | zero => exact ⟨[], by simp [rowW]⟩
  | succ a ih =>
    obtain ⟨zs, e⟩ := ih
    obtain ⟨ys, e'⟩ := addW_more (κ := κ) (rowW κ u a ws) (u ++ [a])
    exact ⟨zs ++ ys, by simp only [rowW]; rw [e', e, List.append_assoc]⟩
theorem bfsW_more (i : Nat) : ∃ zs, bfsW κ l (i + 1) = bfsW κ l i ++ zs := by
  simp only [bfsW]; split
  · exact rowW_more _ _ _
  · exact ⟨[], by simp⟩
theorem bfsW_le {i j : Nat} (h : i ≤ j) : ∃ zs, bfsW κ l j = bfsW κ l i ++ zs := by
  induction j with
  | zero => have : i = 0 := by omega
            subst this; exact ⟨[], by simp⟩
  | succ j ih =>
    by_cases e : i = j + 1
    · subst e; exact ⟨[], by simp⟩
    · obtain ⟨zs, e1⟩ := ih (by omega)
      obtain ⟨ys, e2⟩ := bfsW_more (κ := κ) (l := l) j
      exact ⟨zs ++ ys, by rw [e2, e1, List.append_assoc]⟩
theorem EndW.one {k k' : Nat} (h : EndW κ l k) (h' : EndW κ l k') : k = k' := by
  rcases Nat.lt_trichotomy k k' with e | e | e
  · have := h'.go k e; rw [h.len] at this; omega
  · exact e
  · have := h.go k' e; rw [h'.len] at this; omega
theorem addW_nodup {ws : List (List Nat)} (h : (ws.map κ).Nodup) (u : List Nat) : ((addW κ ws u).map κ).Nodup := by
  unfold addW; split
  · exact h
  · next hn =>
    rw [List.map_append, List.nodup_append]
    refine ⟨h, by simp, fun a ha b hb => ?_⟩
    simp only [List.map_cons, List.map_nil, List.mem_singleton] at hb
    subst hb
    exact fun e => hn (e ▸ ha)
theorem rowW_nodup {ws : List (List Nat)} (h : (ws.map κ).Nodup) (u : List Nat) (a : Nat) : ((rowW κ u a ws).map κ).Nodup := by
  induction a with
  | zero => exact h
  | succ a ih => exact addW_nodup ih _
theorem bfsW_nodup (i : Nat) : ((bfsW κ l i).map κ).Nodup := by
  induction i with
  | zero => simp [bfsW]
  | succ i ih => simp only [bfsW]; split
                 · exact rowW_nodup ih _ _
                 · exact ih
theorem rowW_letters {ws : List (List Nat)} (h : ∀ u, u ∈ ws → ∀ x, x ∈ u → x < l) {u : List Nat} (hu : ∀ x, x ∈ u → x < l) {a : Nat} (ha : a ≤ l) : ∀ v, v ∈ rowW κ u a ws → ∀ x, x ∈ v → x < l := by
  induction a with
  | zero => exact h
  | succ a ih =>
    intro v hv
    simp only [rowW, addW] at hv
    split at hv
    · exact ih (by omega) v hv
    · rcases List.mem_append.1 hv with hv | hv
      · exact ih (by omega) v hv
      · simp only [List.mem_singleton] at hv
        subst hv
        intro x hx
        rcases List.mem_append.1 hx with hx | hx
        · exact hu x hx
        · simp only [List.mem_singleton] at hx; omega
theorem getDL_mem {ws : List (List Nat)} {i : Nat} (h : i < ws.length) : ws.getD i [] ∈ ws := by simp [List.getD, h]
theorem getDL_app {ws : List (List Nat)} (zs : List (List Nat)) {i : Nat} (h : i < ws.length) : (ws ++ zs).getD i [] = ws.getD i [] := by simp [List.getD, List.getElem?_append_left h]
theorem bfsW_letters (i : Nat) : ∀ v, v ∈ bfsW κ l i → ∀ x, x ∈ v → x < l := by
  induction i with
  | zero => intro v hv; simp only [bfsW, List.mem_singleton] at hv; subst hv; intro x hx; simp at hx
  | succ i ih =>
    simp only [bfsW]; split
    · next h => exact rowW_letters ih (ih _ (getDL_mem h)) (Nat.le_refl _)
    · exact ih
/-- A list of words under way has few. -/
theorem words_few {ws : List (List Nat)} (h : (ws.map κ).Nodup) (hl : ∀ u, u ∈ ws → κ u < 3125) : ws.length ≤ 3125 := by
  have := nodup_le 3125 (ws.map κ) h (fun x hx => by obtain ⟨u, hu, rfl⟩ := List.mem_map.1 hx; exact hl u hu)
  simpa using this
end

end Go.Proofs.Ytcgkflddipflbaa
