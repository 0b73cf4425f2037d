/- How a formula over words is read: what both readers come to. No program is in it. -/
import Derived.Test.YtaommgnlnfhbfaaTSpec
namespace Go.Proofs.Ytaommgnlnfhbfaa
open Go.RowKit
set_option linter.unusedVariables false

/-- A formula; variables are told by how many stand around theirs. -/
inductive Lf where
  | letter (c x : Nat) | lt (x y : Nat) | eq (x y : Nat) | nx (x y : Nat) | inn (x y : Nat)
  | not (a : Lf) | and (a b : Lf) | or (a b : Lf) | some (s : Bool) (a : Lf) | every (s : Bool) (a : Lf)
inductive LRes where
  | good (f : Lf) (i n : Nat)
  | bad (c : Int) (j : Nat)
/-- A reader: at a place, with so many nodes, within so many brackets, with these variables around. -/
abbrev PL := Nat → Nat → Nat → List Nat → LRes
def isPl (c : Nat) : Bool := decide (120 ≤ c) && decide (c ≤ 122)
def isSe (c : Nat) : Bool := decide (88 ≤ c) && decide (c ≤ 90)
theorem isPl_pos {c : Nat} (h : isPl c = true) : 0 < c := by simp [isPl] at h; omega
theorem isSe_pos {c : Nat} (h : isSe c = true) : 0 < c := by simp [isSe] at h; omega
/-- The last one of the first k that is c. -/
def idxB (sc : List Nat) (c : Nat) : Nat → Option Nat
  | 0 => none
  | k + 1 => if sc.getD k 0 = c then some k else idxB sc c k
def idxF (sc : List Nat) (c : Nat) : Option Nat := idxB sc c sc.length
theorem idxB_lt {sc : List Nat} {c : Nat} : ∀ {k x : Nat}, idxB sc c k = some x → x < k := by
  intro k
  induction k with
  | zero => intro x h; simp [idxB] at h
  | succ k ih =>
    intro x h
    rw [idxB] at h
    by_cases e : sc.getD k 0 = c
    · rw [if_pos e] at h; simp at h; omega
    · rw [if_neg e] at h; have := ih h; omega
def relF (r x y : Nat) : Lf := if r = 60 then .lt x y else if r = 61 then .eq x y else .nx x y

section
variable (s : ByteArray)
def placeK (sc : List Nat) (j : Nat) (K : Nat → LRes) : LRes := if isPl (byT s j) = true then match idxF sc (byT s j) with
  | none => .bad 5 j
  | some k => K k
  else .bad 4 j
def atomK : PL := fun i n d sc =>
  if byT s i = 97 ∨ byT s i = 98 then if 30 < n + 1 then .bad 7 i else placeK s sc (i + 1) fun x => .good (.letter (byT s i - 97) x) (i + 2) (n + 1)
  else if isSe (byT s i) = true then match idxF sc (byT s i) with
    | none => .bad 5 i
    | some y => if 30 < n + 1 then .bad 7 i else placeK s sc (i + 1) fun x => .good (.inn x y) (i + 2) (n + 1)
  else if isPl (byT s i) = true then match idxF sc (byT s i) with
    | none => .bad 5 i
    | some x => if 30 < n + 1 then .bad 7 i else if byT s (i + 1) = 60 ∨ byT s (i + 1) = 61 ∨ byT s (i + 1) = 126 then placeK s sc (i + 2) fun y => .good (relF (byT s (i + 1)) x y) (i + 3) (n + 1) else .bad 4 (i + 1)
  else .bad 4 i
def qF (c : Nat) (se : Bool) (f : Lf) : Lf := if c = 69 then .some se f else .every se f
def partK (P W : PL) : PL := fun i n d sc =>
  if byT s i = 33 then if 30 < n + 1 then .bad 7 i else match P (i + 1) (n + 1) d sc with
    | .bad c j => .bad c j
    | .good f j n' => .good (.not f) j n'
  else if byT s i = 40 then if d = 40 then .bad 7 i else match W (i + 1) n (d + 1) sc with
    | .bad c j => .bad c j
    | .good f j n' => if byT s j = 41 then .good f (j + 1) n' else .bad 4 j
  else if byT s i = 69 ∨ byT s i = 65 then if sc.length = 3 ∨ 30 < n + 1 then .bad 7 i else if isPl (byT s (i + 1)) = true ∨ isSe (byT s (i + 1)) = true then match P (i + 2) (n + 1) d (sc ++ [byT s (i + 1)]) with
      | .bad c j => .bad c j
      | .good f j n' => .good (qF (byT s i) (isSe (byT s (i + 1))) f) j n'
    else .bad 4 (i + 1)
  else atomK s i n d sc
def rowKL (op : Nat) (mk : Lf → Lf → Lf) (P : PL) (d : Nat) (sc : List Nat) : Nat → Lf → Nat → Nat → LRes
  | 0, f, j, n => .bad 4 j
  | k + 1, f, j, n => if byT s j = op then if 30 < n + 1 then .bad 7 j else
      match P (j + 1) (n + 1) d sc with
      | .bad c j' => .bad c j'
      | .good g j' n' => rowKL op mk P d sc k (mk f g) j' n'
    else .good f j n
def rowK (op : Nat) (mk : Lf → Lf → Lf) (P : PL) : PL := fun i n d sc => match P i n d sc with
  | .bad c j => .bad c j
  | .good f j n' => rowKL s op mk P d sc (s.size + 1) f j n'
def termK (P : PL) : PL := rowK s 38 .and P
def formK (P : PL) : PL := rowK s 124 .or (termK s P)
def lvK : Nat → PL
  | 0 => fun i _ _ _ => .bad 4 i
  | k + 1 => partK s (lvK k) (formK s (lvK k))
def parseK : LRes := if 4000 < s.size then .bad 1 0 else match formK s (lvK s (s.size + 1)) 0 0 0 [] with
  | .bad c j => .bad c j
  | .good f j n => if j < s.size then .bad 4 j else .good f j n

/-- What was read lies ahead and within the text; there are not too many nodes; a fault is one, and lies within. -/
def GoodK (i n : Nat) (R : LRes) : Prop := match R with
  | .good f j n' => i < j ∧ j ≤ s.size ∧ n ≤ n' ∧ n' ≤ 30
  | .bad c j => (c = 4 ∨ c = 5 ∨ c = 7) ∧ j ≤ s.size
def FwdK (S : PL) : Prop := ∀ i n d sc, i ≤ s.size → n ≤ 30 → GoodK s i n (S i n d sc)
variable {s}
theorem placeK_fwd {sc : List Nat} {i j n : Nat} {K : Nat → LRes} (hj : j ≤ s.size) (hK : j < s.size → ∀ k, GoodK s i n (K k)) : GoodK s i n (placeK s sc j K) := by
  unfold placeK
  by_cases h1 : isPl (byT s j) = true
  · rw [if_pos h1]
    have := byT_pos (s := s) (i := j) rfl (isPl_pos h1)
    cases idxF sc (byT s j) with
    | none => exact ⟨.inr (.inl rfl), hj⟩
    | some k => exact hK this k
  · rw [if_neg h1]; exact ⟨.inl rfl, hj⟩
theorem atomK_fwd : FwdK s (atomK s) := by
  intro i n d sc hi hn
  unfold atomK
  by_cases h1 : byT s i = 97 ∨ byT s i = 98
  · rw [if_pos h1]
    have hil : i < s.size := by rcases h1 with h | h <;> exact byT_pos h (by omega)
    by_cases h2 : 30 < n + 1
    · rw [if_pos h2]; exact ⟨.inr (.inr rfl), hi⟩
    · rw [if_neg h2]; exact placeK_fwd hil fun h k => ⟨by omega, by omega, by omega, by omega⟩
  · rw [if_neg h1]
    by_cases h3 : isSe (byT s i) = true
    · rw [if_pos h3]
      have hil := byT_pos (s := s) (i := i) rfl (isSe_pos h3)
      cases idxF sc (byT s i) with
      | none => exact ⟨.inr (.inl rfl), hi⟩
      | some y =>
        simp only
        by_cases h2 : 30 < n + 1
        · rw [if_pos h2]; exact ⟨.inr (.inr rfl), hi⟩
        · rw [if_neg h2]; exact placeK_fwd hil fun h k => ⟨by omega, by omega, by omega, by omega⟩
    · rw [if_neg h3]
      by_cases h4 : isPl (byT s i) = true
      · rw [if_pos h4]
        have hil := byT_pos (s := s) (i := i) rfl (isPl_pos h4)
        cases idxF sc (byT s i) with
        | none => exact ⟨.inr (.inl rfl), hi⟩
        | some x =>
          simp only
          by_cases h2 : 30 < n + 1
          · rw [if_pos h2]; exact ⟨.inr (.inr rfl), hi⟩
          · rw [if_neg h2]
            by_cases h5 : byT s (i + 1) = 60 ∨ byT s (i + 1) = 61 ∨ byT s (i + 1) = 126
            · rw [if_pos h5]
              have : i + 1 < s.size := by rcases h5 with h | h | h <;> exact byT_pos h (by omega)
              exact placeK_fwd this fun h k => ⟨by omega, by omega, by omega, by omega⟩
            · rw [if_neg h5]; exact ⟨.inl rfl, hil⟩
      · rw [if_neg h4]; exact ⟨.inl rfl, hi⟩
theorem goodK_from {i j n m : Nat} {R : LRes} (h : GoodK s j m R) (hi : i ≤ j) (hn : n ≤ m) : GoodK s i n R := by
  cases R with
  | good f x y => obtain ⟨a, b, c, d⟩ := h; exact ⟨by omega, b, by omega, d⟩
  | bad c j => exact h
theorem partK_fwd {P W : PL} (hP : FwdK s P) (hW : FwdK s W) : FwdK s (partK s P W) := by
  intro i n d sc hi hn
  unfold partK
  by_cases h1 : byT s i = 33
  · rw [if_pos h1]
    have hil := byT_pos h1 (by omega)
    by_cases h2 : 30 < n + 1
    · rw [if_pos h2]; exact ⟨.inr (.inr rfl), hi⟩
    · rw [if_neg h2]
      have h3 := hP (i + 1) (n + 1) d sc hil (by omega)
      cases hR : P (i + 1) (n + 1) d sc with
      | bad c j => rw [hR] at h3; exact h3
      | good f j n' => rw [hR] at h3; obtain ⟨a, b, c, e⟩ := h3; exact ⟨by omega, b, by omega, e⟩
  · rw [if_neg h1]
    by_cases h4 : byT s i = 40
    · rw [if_pos h4]
      have hil := byT_pos h4 (by omega)
      by_cases h5 : d = 40
      · rw [if_pos h5]; exact ⟨.inr (.inr rfl), hi⟩
      · rw [if_neg h5]
        have h3 := hW (i + 1) n (d + 1) sc hil hn
        cases hR : W (i + 1) n (d + 1) sc with
        | bad c j => rw [hR] at h3; exact h3
        | good f j n' =>
          rw [hR] at h3
          obtain ⟨a, b, c, e⟩ := h3
          simp only
          by_cases h6 : byT s j = 41
          · rw [if_pos h6]; have := byT_pos h6 (by omega); exact ⟨by omega, by omega, c, e⟩
          · rw [if_neg h6]; exact ⟨.inl rfl, b⟩
    · rw [if_neg h4]
      by_cases h5 : byT s i = 69 ∨ byT s i = 65
      · rw [if_pos h5]
        have hil : i < s.size := by rcases h5 with h | h <;> exact byT_pos h (by omega)
        by_cases h6 : sc.length = 3 ∨ 30 < n + 1
        · rw [if_pos h6]; exact ⟨.inr (.inr rfl), hi⟩
        · rw [if_neg h6]
          by_cases h7 : isPl (byT s (i + 1)) = true ∨ isSe (byT s (i + 1)) = true
          · rw [if_pos h7]
            have hil2 : i + 1 < s.size := h7.elim (fun h => byT_pos rfl (isPl_pos h)) (fun h => byT_pos rfl (isSe_pos h))
            have h3 := hP (i + 2) (n + 1) d (sc ++ [byT s (i + 1)]) hil2 (by omega)
            cases hR : P (i + 2) (n + 1) d (sc ++ [byT s (i + 1)]) with
            | bad c j => rw [hR] at h3; exact h3
            | good f j n' => rw [hR] at h3; obtain ⟨a, b, c, e⟩ := h3; exact ⟨by omega, b, by omega, e⟩
          · rw [if_neg h7]; exact ⟨.inl rfl, hil⟩
      · rw [if_neg h5]; exact atomK_fwd i n d sc hi hn
theorem rowKL_fwd {op : Nat} {mk : Lf → Lf → Lf} {P : PL} (hP : FwdK s P) (hop : 0 < op) (d : Nat) (sc : List Nat) : ∀ k f i j n, i < j → j ≤ s.size → n ≤ 30 → GoodK s i n (rowKL s op mk P d sc k f j n) := by
  intro k
  induction k with
  | zero => intro f i j n hi hj hn; exact ⟨.inl rfl, hj⟩
  | succ k ih =>
    intro f i j n hi hj hn
    rw [rowKL]
    by_cases h1 : byT s j = op
    · rw [if_pos h1]
      have hjl := byT_pos h1 hop
      by_cases h2 : 30 < n + 1
      · rw [if_pos h2]; exact ⟨.inr (.inr rfl), hj⟩
      · rw [if_neg h2]
        have h3 := hP (j + 1) (n + 1) d sc hjl (by omega)
        cases hR : P (j + 1) (n + 1) d sc with
        | bad c j' => rw [hR] at h3; exact h3
        | good g j' n' =>
          rw [hR] at h3
          obtain ⟨a, b, c, e⟩ := h3
          exact goodK_from (ih (mk f g) i j' n' (by omega) b e) (Nat.le_refl _) (by omega)
    · rw [if_neg h1]; exact ⟨hi, hj, Nat.le_refl _, hn⟩
theorem rowK_fwd {op : Nat} {mk : Lf → Lf → Lf} {P : PL} (hP : FwdK s P) (hop : 0 < op) : FwdK s (rowK s op mk P) := by
  intro i n d sc hi hn
  unfold rowK
  have h3 := hP i n d sc hi hn
  cases hR : P i n d sc with
  | bad c j => rw [hR] at h3; exact h3
  | good f j n' =>
    rw [hR] at h3
    obtain ⟨a, b, c, e⟩ := h3
    exact goodK_from (rowKL_fwd hP hop d sc _ f i j n' a b e) (Nat.le_refl _) c
theorem termK_fwd {P : PL} (hP : FwdK s P) : FwdK s (termK s P) := rowK_fwd hP (by omega)
theorem formK_fwd {P : PL} (hP : FwdK s P) : FwdK s (formK s P) := rowK_fwd (termK_fwd hP) (by omega)
theorem lvK_fwd : ∀ k, FwdK s (lvK s k) := by
  intro k
  induction k with
  | zero => intro i n d sc hi hn; exact ⟨.inl rfl, hi⟩
  | succ k ih => exact partK_fwd ih (formK_fwd ih)
end

end Go.Proofs.Ytaommgnlnfhbfaa
