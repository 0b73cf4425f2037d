/- When a formula over words is true of a word; and what is read is right in its variables. No program is in it. -/
import Derived.Test.YtaommgnlnfhbfaaKSpec
namespace Go.Proofs.Ytaommgnlnfhbfaa
open Go.RowKit
set_option linter.unusedVariables false
set_option linter.unusedSimpArgs false

/-- How many a variable can be. -/
def manyL (se : Bool) (n : Nat) : Nat := if se = true then 2 ^ n else n
/-- Is a formula true of a word, with these for the variables around it? -/
def holdL (w : List Nat) : Lf → List Nat → Bool
  | .letter c x, vs => w.getD (vs.getD x 0) 0 == c
  | .lt x y, vs => decide (vs.getD x 0 < vs.getD y 0)
  | .eq x y, vs => vs.getD x 0 == vs.getD y 0
  | .nx x y, vs => vs.getD x 0 + 1 == vs.getD y 0
  | .inn x y, vs => vs.getD y 0 / 2 ^ vs.getD x 0 % 2 == 1
  | .not a, vs => !holdL w a vs
  | .and a b, vs => holdL w a vs && holdL w b vs
  | .or a b, vs => holdL w a vs || holdL w b vs
  | .some se a, vs => (List.range (manyL se w.length)).any fun v => holdL w a (vs ++ [v])
  | .every se a, vs => (List.range (manyL se w.length)).all fun v => holdL w a (vs ++ [v])
/-- Its variables stand around it, and are of the right kind (true: one for sets). -/
def WellL : Lf → List Bool → Prop
  | .letter c x, ts => c < 2 ∧ ts[x]? = some false
  | .lt x y, ts => ts[x]? = some false ∧ ts[y]? = some false
  | .eq x y, ts => ts[x]? = some false ∧ ts[y]? = some false
  | .nx x y, ts => ts[x]? = some false ∧ ts[y]? = some false
  | .inn x y, ts => ts[x]? = some false ∧ ts[y]? = some true
  | .not a, ts => WellL a ts
  | .and a b, ts => WellL a ts ∧ WellL b ts
  | .or a b, ts => WellL a ts ∧ WellL b ts
  | .some se a, ts => ts.length ≤ 2 ∧ WellL a (ts ++ [se])
  | .every se a, ts => ts.length ≤ 2 ∧ WellL a (ts ++ [se])
def kindsL (sc : List Nat) : List Bool := sc.map isSe
theorem idxB_get {sc : List Nat} {c : Nat} : ∀ {k x : Nat}, idxB sc c k = some x → sc.getD x 0 = c := by
  intro k
  induction k with
  | zero => intro x h; simp [idxB] at h
  | succ k ih =>
    intro x h
    rw [idxB] at h
    by_cases e : sc.getD k 0 = c
    · rw [if_pos e] at h; simp at h; rw [← h]; exact e
    · rw [if_neg e] at h; exact ih h
theorem idxF_kind {sc : List Nat} {c x : Nat} (h : idxF sc c = some x) : (kindsL sc)[x]? = some (isSe c) := by
  have h1 := idxB_lt h
  have h2 := idxB_get h
  unfold kindsL
  rw [List.getElem?_map, List.getElem?_eq_getElem h1]
  simp [List.getD, List.getElem?_eq_getElem h1] at h2
  simp [h2]
theorem isPl_kind {c : Nat} (h : isPl c = true) : isSe c = false := by simp [isPl] at h; simp [isSe]; omega
/-- A reader reads formulas that are right in their variables. -/
def WellP (S : PL) : Prop := ∀ i n d sc f j n', sc.length ≤ 3 → S i n d sc = .good f j n' → WellL f (kindsL sc)
section
variable {s : ByteArray}
theorem placeK_well {sc : List Nat} {j : Nat} {K : Nat → LRes} {f : Lf} {j' n' : Nat} (h : placeK s sc j K = .good f j' n') : ∃ k, (kindsL sc)[k]? = some false ∧ K k = .good f j' n' := by
  unfold placeK at h
  by_cases hp : isPl (byT s j) = true
  · rw [if_pos hp] at h
    cases ho : idxF sc (byT s j) with
    | none => rw [ho] at h; cases h
    | some k => rw [ho] at h; exact ⟨k, by rw [idxF_kind ho, isPl_kind hp], h⟩
  · rw [if_neg hp] at h; cases h
theorem atomK_well : WellP (atomK s) := by
  intro i n d sc f j n' hl h
  unfold atomK at h
  by_cases h1 : byT s i = 97 ∨ byT s i = 98
  · rw [if_pos h1] at h
    by_cases h2 : 30 < n + 1
    · rw [if_pos h2] at h; cases h
    · rw [if_neg h2] at h
      obtain ⟨k, hk, he⟩ := placeK_well h
      cases he
      exact ⟨by omega, hk⟩
  · rw [if_neg h1] at h
    by_cases h3 : isSe (byT s i) = true
    · rw [if_pos h3] at h
      cases ho : idxF sc (byT s i) with
      | none => rw [ho] at h; cases h
      | some y =>
        rw [ho] at h
        simp only at h
        by_cases h2 : 30 < n + 1
        · rw [if_pos h2] at h; cases h
        · rw [if_neg h2] at h
          obtain ⟨k, hk, he⟩ := placeK_well h
          cases he
          exact ⟨hk, by rw [idxF_kind ho, h3]⟩
    · rw [if_neg h3] at h
      by_cases h4 : isPl (byT s i) = true
      · rw [if_pos h4] at h
        cases ho : idxF sc (byT s i) with
        | none => rw [ho] at h; cases h
        | some x =>
          rw [ho] at h
          simp only at h
          have hx : (kindsL sc)[x]? = some false := by rw [idxF_kind ho, isPl_kind h4]
          by_cases h2 : 30 < n + 1
          · rw [if_pos h2] at h; cases h
          · rw [if_neg h2] at h
            by_cases h5 : byT s (i + 1) = 60 ∨ byT s (i + 1) = 61 ∨ byT s (i + 1) = 126
            · rw [if_pos h5] at h
              obtain ⟨k, hk, he⟩ := placeK_well h
              cases he
              unfold relF
              by_cases e1 : byT s (i + 1) = 60
              · rw [if_pos e1]; exact ⟨hx, hk⟩
              · rw [if_neg e1]
                by_cases e2 : byT s (i + 1) = 61
                · rw [if_pos e2]; exact ⟨hx, hk⟩
                · rw [if_neg e2]; exact ⟨hx, hk⟩
            · rw [if_neg h5] at h; cases h
      · rw [if_neg h4] at h; cases h
theorem partK_well {P W : PL} (hP : WellP P) (hW : WellP W) : WellP (partK s P W) := by
  intro i n d sc f j n' hl h
  unfold partK at h
  by_cases h1 : byT s i = 33
  · rw [if_pos h1] at h
    by_cases h2 : 30 < n + 1
    · rw [if_pos h2] at h; cases h
    · rw [if_neg h2] at h
      cases hR : P (i + 1) (n + 1) d sc with
      | bad c j => rw [hR] at h; cases h
      | good g x y => rw [hR] at h; cases h; exact (show WellL g (kindsL sc) from hP _ _ _ _ _ _ _ hl hR)
  · rw [if_neg h1] at h
    by_cases h4 : byT s i = 40
    · rw [if_pos h4] at h
      by_cases h5 : d = 40
      · rw [if_pos h5] at h; cases h
      · rw [if_neg h5] at h
        cases hR : W (i + 1) n (d + 1) sc with
        | bad c j => rw [hR] at h; cases h
        | good g x y =>
          rw [hR] at h
          simp only at h
          by_cases h6 : byT s x = 41
          · rw [if_pos h6] at h; cases h; exact hW _ _ _ _ _ _ _ hl hR
          · rw [if_neg h6] at h; cases h
    · rw [if_neg h4] at h
      by_cases h5 : byT s i = 69 ∨ byT s i = 65
      · rw [if_pos h5] at h
        by_cases h6 : sc.length = 3 ∨ 30 < n + 1
        · rw [if_pos h6] at h; cases h
        · rw [if_neg h6] at h
          by_cases h7 : isPl (byT s (i + 1)) = true ∨ isSe (byT s (i + 1)) = true
          · rw [if_pos h7] at h
            cases hR : P (i + 2) (n + 1) d (sc ++ [byT s (i + 1)]) with
            | bad c j => rw [hR] at h; cases h
            | good g x y =>
              rw [hR] at h
              cases h
              have hl2 : sc.length ≤ 2 := by omega
              have h8 := hP _ _ _ _ _ _ _ (by simp; omega) hR
              have hk : (kindsL sc).length ≤ 2 := by simp [kindsL]; omega
              have e : kindsL (sc ++ [byT s (i + 1)]) = kindsL sc ++ [isSe (byT s (i + 1))] := by simp [kindsL]
              rw [e] at h8
              unfold qF
              by_cases e1 : byT s i = 69
              · rw [if_pos e1]; exact ⟨hk, h8⟩
              · rw [if_neg e1]; exact ⟨hk, h8⟩
          · rw [if_neg h7] at h; cases h
      · rw [if_neg h5] at h; exact atomK_well i n d sc f j n' hl h
theorem rowKL_well {op : Nat} {mk : Lf → Lf → Lf} {P : PL} (hmk : ∀ a b ts, WellL a ts → WellL b ts → WellL (mk a b) ts) (hP : WellP P) (d : Nat) (sc : List Nat) (hl : sc.length ≤ 3) : ∀ k f i n f' j n', WellL f (kindsL sc) → rowKL s op mk P d sc k f i n = .good f' j n' → WellL f' (kindsL sc) := by
  intro k
  induction k with
  | zero => intro f i n f' j n' hf h; rw [rowKL] at h; cases h
  | succ k ih =>
    intro f i n f' j n' hf h
    rw [rowKL] at h
    by_cases h1 : byT s i = op
    · rw [if_pos h1] at h
      by_cases h2 : 30 < n + 1
      · rw [if_pos h2] at h; cases h
      · rw [if_neg h2] at h
        cases hR : P (i + 1) (n + 1) d sc with
        | bad c j => rw [hR] at h; cases h
        | good g x y => rw [hR] at h; exact ih _ _ _ _ _ _ (hmk _ _ _ hf (hP _ _ _ _ _ _ _ hl hR)) h
    · rw [if_neg h1] at h; cases h; exact hf
theorem rowK_well {op : Nat} {mk : Lf → Lf → Lf} {P : PL} (hmk : ∀ a b ts, WellL a ts → WellL b ts → WellL (mk a b) ts) (hP : WellP P) : WellP (rowK s op mk P) := by
  intro i n d sc f j n' hl h
  unfold rowK at h
  cases hR : P i n d sc with
  | bad c j => rw [hR] at h; cases h
  | good g x y => rw [hR] at h; exact rowKL_well hmk hP d sc hl _ _ _ _ _ _ _ (hP _ _ _ _ _ _ _ hl hR) h
theorem termK_well {P : PL} (hP : WellP P) : WellP (termK s P) := rowK_well (fun a b ts h1 h2 => ⟨h1, h2⟩) hP
theorem formK_well {P : PL} (hP : WellP P) : WellP (formK s P) := rowK_well (fun a b ts h1 h2 => ⟨h1, h2⟩) (termK_well hP)
theorem lvK_well : ∀ k, WellP (lvK s k) := by
  intro k
  induction k with
  | zero => intro i n d sc f j n' hl h; cases h
  | succ k ih => exact partK_well ih (formK_well ih)
/-- What is read of a whole text is right in its variables. -/
theorem parseK_well {f : Lf} {j n : Nat} (h : parseK s = .good f j n) : WellL f [] := by
  unfold parseK at h
  by_cases hs : 4000 < s.size
  · rw [if_pos hs] at h; cases h
  · rw [if_neg hs] at h
    cases hR : formK s (lvK s (s.size + 1)) 0 0 0 [] with
    | bad c j => rw [hR] at h; cases h
    | good g x y =>
      rw [hR] at h
      simp only at h
      by_cases hj : x < s.size
      · rw [if_pos hj] at h; cases h
      · rw [if_neg hj] at h; cases h; exact formK_well (lvK_well _) _ _ _ _ _ _ _ (by simp) hR
end

end Go.Proofs.Ytaommgnlnfhbfaa
