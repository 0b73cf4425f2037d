/- How a text is read: what both readers come to, and what a text tells of a word from place to place. No program is in it. -/
import Derived.Test.YtepldeogcoigkaaDoorBase
namespace Go.Proofs.YtepldeogcoigkaaDoor
open Go.RowKit
set_option linter.unusedVariables false

/-- What a part tells of a word: from which place to which a word of it leads. -/
abbrev Sense := List Int → Nat → Nat → Prop

def noneS : Sense := fun _ _ _ => False
def emptyS : Sense := fun _ i j => i = j
def letterS (c : Int) : Sense := fun z i j => i < z.length ∧ z.getD i 0 = c ∧ j = i + 1
def eitherOf (ms : List Sense) : Sense := fun z i j => ∃ k, k < ms.length ∧ ms.getD k noneS z i j
def rowOf : List Sense → Sense
  | [] => emptyS
  | m :: ms => fun z i j => ∃ k, m z i k ∧ rowOf ms z k j
inductive Star (m : Sense) (z : List Int) : Nat → Nat → Prop
  | here (i : Nat) : Star m z i i
  | step {i k j : Nat} : m z i k → Star m z k j → Star m z i j
def starS (m : Sense) : Sense := Star m

theorem Star.trans {m : Sense} {z : List Int} {i k j : Nat} (h : Star m z i k) (h' : Star m z k j) : Star m z i j := by
  induction h with
  | here _ => exact h'
  | step a _ ih => exact .step a (ih h')

theorem star_star (m : Sense) : starS (starS m) = starS m := by
  funext z i j
  refine propext ⟨fun h => ?_, fun h => .step h (.here _)⟩
  induction h with
  | here _ => exact .here _
  | step a _ ih => exact Star.trans a ih

theorem eitherOf_one (m : Sense) : eitherOf [m] = m := by
  funext z i j
  refine propext ⟨?_, fun h => ⟨0, by simp, by simpa using h⟩⟩
  rintro ⟨k, hk, h⟩
  have : k = 0 := by simpa using hk
  subst this
  simpa using h

theorem rowOf_one (m : Sense) : rowOf [m] = m := by
  funext z i j
  refine propext ⟨?_, fun h => ⟨j, h, rfl⟩⟩
  rintro ⟨k, h, rfl⟩
  exact h

theorem eitherOf_nil : eitherOf [] = noneS := by
  funext z i j
  refine propext ⟨?_, fun h => h.elim⟩
  rintro ⟨k, hk, _⟩
  simp at hk

/-- What comes of reading: what was read and the place behind it, or the fault and its place. -/
inductive Res where
  | good (m : Sense) (j : Nat)
  | bad (c : Int) (j : Nat)

def beginsF (c : Nat) : Bool := c == 48 || c == 49 || c == 40 || (decide (97 ≤ c) && decide (c ≤ 100))

section
variable (s : ByteArray)

def bracketS (W : Nat → Nat → Res) (i d : Nat) : Res :=
  if d = 40 then .bad 7 i else match W (i + 1) (d + 1) with
    | .bad c j => .bad c j
    | .good m j => if byteAt s j = 41 then .good m (j + 1) else .bad 4 j

def partS (W : Nat → Nat → Res) (i d : Nat) : Res :=
  if beginsF (byteAt s i) = false then .bad 4 i
  else if byteAt s i = 40 then bracketS s W i d
  else if byteAt s i = 48 then .good noneS (i + 1)
  else if byteAt s i = 49 then .good emptyS (i + 1)
  else .good (letterS (byteAt s i - 97 : Nat)) (i + 1)

def starL : Nat → Sense → Nat → Res
  | 0, m, j => .good m j
  | k + 1, m, j => if byteAt s j = 42 then starL k (starS m) (j + 1) else .good m j

def oneS (P : Nat → Nat → Res) (i d : Nat) : Res :=
  match P i d with
  | .bad c j => .bad c j
  | .good m j => starL s (s.size + 1) m j

def rowL (O : Nat → Nat → Res) (d : Nat) : Nat → List Sense → Nat → Res
  | 0, ms, j => .bad 4 j
  | k + 1, ms, j => if beginsF (byteAt s j) = true then
      match O j d with
      | .bad c j' => .bad c j'
      | .good m j' => rowL O d k (ms ++ [m]) j'
    else .good (rowOf ms) j

def rowS (O : Nat → Nat → Res) (i d : Nat) : Res :=
  match O i d with
  | .bad c j => .bad c j
  | .good m j => rowL s O d (s.size + 1) [m] j

def eitherL (R : Nat → Nat → Res) (d : Nat) : Nat → List Sense → Nat → Res
  | 0, ms, j => .bad 4 j
  | k + 1, ms, j => if byteAt s j = 43 then
      match R (j + 1) d with
      | .bad c j' => .bad c j'
      | .good m j' => eitherL R d k (ms ++ [m]) j'
    else .good (eitherOf ms) j

def eitherS (R : Nat → Nat → Res) (i d : Nat) : Res :=
  match R i d with
  | .bad c j => .bad c j
  | .good m j => eitherL s R d (s.size + 1) [m] j

def wholeF : Nat → Nat → Nat → Res
  | 0 => fun i _ => .bad 4 i
  | n + 1 => eitherS s (rowS s (oneS s (partS s (wholeF n))))

def partF (n : Nat) := partS s (wholeF s n)
def oneF (n : Nat) := oneS s (partF s n)
def rowF (n : Nat) := rowS s (oneF s n)

/-- What was read lies ahead and within the text. -/
def Adv (S : Nat → Nat → Res) : Prop := ∀ i d m j, S i d = .good m j → i < j ∧ (i ≤ s.size → j ≤ s.size)

variable {s}
theorem byte_lt {i c : Nat} (h : byteAt s i = c) (hc : c ≠ 0) : i < s.size := byteAt_pos (by omega)

theorem begins_lt {i : Nat} (h : beginsF (byteAt s i) = true) : i < s.size := by
  refine byteAt_pos (fun h0 => ?_)
  rw [h0] at h
  simp [beginsF] at h

theorem adv_part {W : Nat → Nat → Res} (hW : Adv s W) : Adv s (partS s W) := by
  intro i d m j h
  unfold partS at h
  split at h
  · cases h
  · rename_i hb
    have hlt := begins_lt (s := s) (i := i) (by simpa using hb)
    split at h
    · unfold bracketS at h
      split at h
      · cases h
      · split at h
        · cases h
        · rename_i m' j' hw
          split at h
          · rename_i hc
            have := hW _ _ _ _ hw
            have := byte_lt hc (by omega)
            cases h
            omega
          · cases h
    · split at h
      · cases h; omega
      · split at h
        · cases h; omega
        · cases h; omega

theorem starL_adv : ∀ (k : Nat) (m : Sense) (j : Nat) (m' : Sense) (j' : Nat), starL s k m j = .good m' j' → j ≤ j' ∧ (j ≤ s.size → j' ≤ s.size)
  | 0, m, j, m', j', h => by cases h; omega
  | k + 1, m, j, m', j', h => by
    unfold starL at h
    split at h
    · rename_i hc
      have := starL_adv k _ _ _ _ h
      have := byte_lt hc (by omega)
      omega
    · cases h; omega

theorem starL_good : ∀ (k : Nat) (m : Sense) (j : Nat), ∃ m' j', starL s k m j = .good m' j'
  | 0, m, j => ⟨_, _, rfl⟩
  | k + 1, m, j => by
    unfold starL
    split
    · exact starL_good k _ _
    · exact ⟨_, _, rfl⟩

theorem adv_one {P : Nat → Nat → Res} (hP : Adv s P) : Adv s (oneS s P) := by
  intro i d m j h
  unfold oneS at h
  split at h
  · cases h
  · rename_i m' j' hp
    have := hP _ _ _ _ hp
    have := starL_adv _ _ _ _ _ h
    omega

theorem rowL_adv {O : Nat → Nat → Res} (hO : Adv s O) (d : Nat) : ∀ (k : Nat) (ms : List Sense) (j : Nat) (m' : Sense) (j' : Nat), rowL s O d k ms j = .good m' j' → j ≤ j' ∧ (j ≤ s.size → j' ≤ s.size)
  | 0, m, j, m', j', h => by cases h
  | k + 1, m, j, m', j', h => by
    unfold rowL at h
    split at h
    · split at h
      · cases h
      · rename_i ho
        have := hO _ _ _ _ ho
        have := rowL_adv hO d k _ _ _ _ h
        omega
    · cases h; omega

theorem adv_row {O : Nat → Nat → Res} (hO : Adv s O) : Adv s (rowS s O) := by
  intro i d m j h
  unfold rowS at h
  split at h
  · cases h
  · rename_i m' j' hp
    have := hO _ _ _ _ hp
    have := rowL_adv hO _ _ _ _ _ _ h
    omega

theorem eitherL_adv {O : Nat → Nat → Res} (hO : Adv s O) (d : Nat) : ∀ (k : Nat) (ms : List Sense) (j : Nat) (m' : Sense) (j' : Nat), eitherL s O d k ms j = .good m' j' → j ≤ j' ∧ (j ≤ s.size → j' ≤ s.size)
  | 0, m, j, m', j', h => by cases h
  | k + 1, m, j, m', j', h => by
    unfold eitherL at h
    split at h
    · rename_i hc
      have := byte_lt hc (by omega)
      split at h
      · cases h
      · rename_i ho
        have := hO _ _ _ _ ho
        have := eitherL_adv hO d k _ _ _ _ h
        omega
    · cases h; omega

theorem adv_either {O : Nat → Nat → Res} (hO : Adv s O) : Adv s (eitherS s O) := by
  intro i d m j h
  unfold eitherS at h
  split at h
  · cases h
  · rename_i m' j' hp
    have := hO _ _ _ _ hp
    have := eitherL_adv hO _ _ _ _ _ _ h
    omega

theorem adv_whole : ∀ n, Adv s (wholeF s n)
  | 0 => fun _ _ _ _ h => by cases h
  | n + 1 => adv_either (adv_row (adv_one (adv_part (adv_whole n))))

theorem adv_partF (n : Nat) : Adv s (partF s n) := adv_part (adv_whole n)
theorem adv_oneF (n : Nat) : Adv s (oneF s n) := adv_one (adv_partF n)
theorem adv_rowF (n : Nat) : Adv s (rowF s n) := adv_row (adv_oneF n)
end

/-- What comes of a whole text. -/
def parseR (s : ByteArray) : Res :=
  if 4000 < s.size then .bad 1 0 else match wholeF s (s.size + 1) 0 0 with
    | .bad c j => .bad c j
    | .good m j => if j < s.size then .bad 4 j else .good m j

end Go.Proofs.YtepldeogcoigkaaDoor
