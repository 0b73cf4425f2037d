/- (Base without the program's reader.) The words that the contracts of this seat are said in: a reader's block, how memory grows, what a text's byte is. -/
/- What is read of a text, as it is built (where the places of its letters matter); what it tells of a word. No program is in it. -/
/- How a text is read: what both readers come to, and what a text tells of a word from place to place. No program is in it. -/
/- What a text tells, word by word. No program is in it. (Parted from PTell.) -/
/- The end of what is read; bytes of texts put together. No program is in it. (Parted from PComp.) -/
/- No letter that is read lies below 0. No program is in it. (Parted from PGreat.) -/
import Derived.Test.YticmfgclkepgoaaGrow
namespace Go.Proofs.Yticmfgclkepgoaa
open Go.RowKit
set_option linter.unusedVariables false

/-- The byte at a place of a text; 0 behind its end. -/
def byteAt (s : ByteArray) (i : Nat) : Nat := if h : i < s.size then s[i].toNat else 0

theorem byteAt_lt (s : ByteArray) (i : Nat) : byteAt s i < 256 := by
  unfold byteAt
  split
  · exact UInt8.toNat_lt _
  · omega

theorem byteAt_pos {s : ByteArray} {i : Nat} (h : byteAt s i ≠ 0) : i < s.size := by
  unfold byteAt at h
  by_cases hi : i < s.size
  · exact hi
  · simp [hi] at h

/-- The place at which a reader is. -/
def placeOf (w : World) (b : Nat) : Nat := match w.cell? ⟨b, 1, none⟩ with | some v => (intOf v).toNat | none => 0
theorem two_cells {w : World} {b : Nat} {u0 u1 : Value} {t : TypeId} (h : w.heap[b]? = some (.cells #[u0, u1] t (0, 0))) :
    w.cell? ⟨b, 0, none⟩ = some u0 ∧ w.cell? ⟨b, 1, none⟩ = some u1 ∧ w.frozen? ⟨b, 0, none⟩ = false ∧ w.frozen? ⟨b, 1, none⟩ = false :=
  ⟨by rw [cell_of_row w b 0 _ t (0, 0) h]; rfl, by rw [cell_of_row w b 1 _ t (0, 0) h]; rfl, frozen_of_row w b 0 _ t h, frozen_of_row w b 1 _ t h⟩

end Go.Proofs.Yticmfgclkepgoaa

namespace Go.Proofs.Yticmfgclkepgoaa
open Go.RowKit
set_option linter.unusedVariables false

/-- A text as it is built. -/
inductive Rx where
  | none
  | empty
  | letter (c : Int)
  | alt (a b : Rx)
  | cat (a b : Rx)
  | star (a : Rx)
abbrev Sense := Rx
def noneS : Sense := .none
def emptyS : Sense := .empty
def letterS (c : Int) : Sense := .letter c
def eitherOf : List Sense → Sense
  | [] => .none
  | m :: ms => ms.foldl .alt m
def rowOf : List Sense → Sense
  | [] => .empty
  | m :: ms => ms.foldl .cat m
def starS : Sense → Sense
  | .star m => .star m
  | m => .star m
theorem star_star (m : Sense) : starS (starS m) = starS m := by cases m <;> rfl
theorem eitherOf_one (m : Sense) : eitherOf [m] = m := rfl
theorem rowOf_one (m : Sense) : rowOf [m] = m := rfl
theorem eitherOf_nil : eitherOf [] = noneS := rfl
theorem eitherOf_snoc {ms : List Sense} (h : 0 < ms.length) (m : Sense) : eitherOf (ms ++ [m]) = .alt (eitherOf ms) m := by
  cases ms with
  | nil => simp at h
  | cons x xs => simp [eitherOf, List.foldl_append]
theorem rowOf_snoc {ms : List Sense} (h : 0 < ms.length) (m : Sense) : rowOf (ms ++ [m]) = .cat (rowOf ms) m := by
  cases ms with
  | nil => simp at h
  | cons x xs => simp [rowOf, List.foldl_append]

end Go.Proofs.Yticmfgclkepgoaa

namespace Go.Proofs.Yticmfgclkepgoaa
open Go.RowKit
set_option linter.unusedVariables false

/-- What comes of reading: what was read and the place behind it, or the fault and its place. -/
inductive Res where
  | good (m : Sense) (j : Nat)
  | bad (c : Int) (j : Nat)

def beginsF (c : Nat) : Bool := c == 48 || c == 49 || c == 40 || (decide (97 ≤ c) && decide (c ≤ 100))

section
variable (s : ByteArray)

def bracketS (W : Nat → Nat → Res) (i d : Nat) : Res :=
  if d = 40 then .bad 7 i else match W (i + 1) (d + 1) with
    | .bad c j => .bad c j
    | .good m j => if byteAt s j = 41 then .good m (j + 1) else .bad 4 j

def partS (W : Nat → Nat → Res) (i d : Nat) : Res :=
  if beginsF (byteAt s i) = false then .bad 4 i
  else if byteAt s i = 40 then bracketS s W i d
  else if byteAt s i = 48 then .good noneS (i + 1)
  else if byteAt s i = 49 then .good emptyS (i + 1)
  else .good (letterS (byteAt s i - 97 : Nat)) (i + 1)

def starL : Nat → Sense → Nat → Res
  | 0, m, j => .good m j
  | k + 1, m, j => if byteAt s j = 42 then starL k (starS m) (j + 1) else .good m j

def oneS (P : Nat → Nat → Res) (i d : Nat) : Res :=
  match P i d with
  | .bad c j => .bad c j
  | .good m j => starL s (s.size + 1) m j

def rowX (O : Nat → Nat → Res) (d : Nat) : Nat → List Sense → Nat → Res
  | 0, ms, j => .bad 4 j
  | k + 1, ms, j => if beginsF (byteAt s j) = true then
      match O j d with
      | .bad c j' => .bad c j'
      | .good m j' => rowX O d k (ms ++ [m]) j'
    else .good (rowOf ms) j

def rowS (O : Nat → Nat → Res) (i d : Nat) : Res :=
  match O i d with
  | .bad c j => .bad c j
  | .good m j => rowX s O d (s.size + 1) [m] j

def eitherL (R : Nat → Nat → Res) (d : Nat) : Nat → List Sense → Nat → Res
  | 0, ms, j => .bad 4 j
  | k + 1, ms, j => if byteAt s j = 43 then
      match R (j + 1) d with
      | .bad c j' => .bad c j'
      | .good m j' => eitherL R d k (ms ++ [m]) j'
    else .good (eitherOf ms) j

def eitherS (R : Nat → Nat → Res) (i d : Nat) : Res :=
  match R i d with
  | .bad c j => .bad c j
  | .good m j => eitherL s R d (s.size + 1) [m] j

def wholeF : Nat → Nat → Nat → Res
  | 0 => fun i _ => .bad 4 i
  | n + 1 => eitherS s (rowS s (oneS s (partS s (wholeF n))))

def partF (n : Nat) := partS s (wholeF s n)
def oneF (n : Nat) := oneS s (partF s n)
def rowF (n : Nat) := rowS s (oneF s n)

/-- What was read lies ahead and within the text. -/
def Adv (S : Nat → Nat → Res) : Prop := ∀ i d m j, S i d = .good m j → i < j ∧ (i ≤ s.size → j ≤ s.size)

variable {s}
theorem byte_lt {i c : Nat} (h : byteAt s i = c) (hc : c ≠ 0) : i < s.size := byteAt_pos (by omega)

theorem begins_lt {i : Nat} (h : beginsF (byteAt s i) = true) : i < s.size := by
  refine byteAt_pos (fun h0 => ?_)
  rw [h0] at h
  simp [beginsF] at h

theorem adv_part {W : Nat → Nat → Res} (hW : Adv s W) : Adv s (partS s W) := by
  intro i d m j h
  unfold partS at h
  split at h
  · cases h
  · rename_i hb
    have hlt := begins_lt (s := s) (i := i) (by simpa using hb)
    split at h
    · unfold bracketS at h
      split at h
      · cases h
      · split at h
        · cases h
        · rename_i m' j' hw
          split at h
          · rename_i hc
            have := hW _ _ _ _ hw
            have := byte_lt hc (by omega)
            cases h
            omega
          · cases h
    · split at h
      · cases h; omega
      · split at h
        · cases h; omega
        · cases h; omega

theorem starL_adv : ∀ (k : Nat) (m : Sense) (j : Nat) (m' : Sense) (j' : Nat), starL s k m j = .good m' j' → j ≤ j' ∧ (j ≤ s.size → j' ≤ s.size)
  | 0, m, j, m', j', h => by cases h; omega
  | k + 1, m, j, m', j', h => by
    unfold starL at h
    split at h
    · rename_i hc
      have := starL_adv k _ _ _ _ h
      have := byte_lt hc (by omega)
      omega
    · cases h; omega

theorem starL_good : ∀ (k : Nat) (m : Sense) (j : Nat), ∃ m' j', starL s k m j = .good m' j'
  | 0, m, j => ⟨_, _, rfl⟩
  | k + 1, m, j => by
    unfold starL
    split
    · exact starL_good k _ _
    · exact ⟨_, _, rfl⟩

theorem adv_one {P : Nat → Nat → Res} (hP : Adv s P) : Adv s (oneS s P) := by
  intro i d m j h
  unfold oneS at h
  split at h
  · cases h
  · rename_i m' j' hp
    have := hP _ _ _ _ hp
    have := starL_adv _ _ _ _ _ h
    omega

theorem rowX_adv {O : Nat → Nat → Res} (hO : Adv s O) (d : Nat) : ∀ (k : Nat) (ms : List Sense) (j : Nat) (m' : Sense) (j' : Nat), rowX s O d k ms j = .good m' j' → j ≤ j' ∧ (j ≤ s.size → j' ≤ s.size)
  | 0, m, j, m', j', h => by cases h
  | k + 1, m, j, m', j', h => by
    unfold rowX at h
    split at h
    · split at h
      · cases h
      · rename_i ho
        have := hO _ _ _ _ ho
        have := rowX_adv hO d k _ _ _ _ h
        omega
    · cases h; omega

theorem adv_row {O : Nat → Nat → Res} (hO : Adv s O) : Adv s (rowS s O) := by
  intro i d m j h
  unfold rowS at h
  split at h
  · cases h
  · rename_i m' j' hp
    have := hO _ _ _ _ hp
    have := rowX_adv hO _ _ _ _ _ _ h
    omega

theorem eitherL_adv {O : Nat → Nat → Res} (hO : Adv s O) (d : Nat) : ∀ (k : Nat) (ms : List Sense) (j : Nat) (m' : Sense) (j' : Nat), eitherL s O d k ms j = .good m' j' → j ≤ j' ∧ (j ≤ s.size → j' ≤ s.size)
  | 0, m, j, m', j', h => by cases h
  | k + 1, m, j, m', j', h => by
    unfold eitherL at h
    split at h
    · rename_i hc
      have := byte_lt hc (by omega)
      split at h
      · cases h
      · rename_i ho
        have := hO _ _ _ _ ho
        have := eitherL_adv hO d k _ _ _ _ h
        omega
    · cases h; omega

theorem adv_either {O : Nat → Nat → Res} (hO : Adv s O) : Adv s (eitherS s O) := by
  intro i d m j h
  unfold eitherS at h
  split at h
  · cases h
  · rename_i m' j' hp
    have := hO _ _ _ _ hp
    have := eitherL_adv hO _ _ _ _ _ _ h
    omega

theorem adv_whole : ∀ n, Adv s (wholeF s n)
  | 0 => fun _ _ _ _ h => by cases h
  | n + 1 => adv_either (adv_row (adv_one (adv_part (adv_whole n))))

theorem adv_partF (n : Nat) : Adv s (partF s n) := adv_part (adv_whole n)
theorem adv_oneF (n : Nat) : Adv s (oneF s n) := adv_one (adv_partF n)
theorem adv_rowF (n : Nat) : Adv s (rowF s n) := adv_row (adv_oneF n)
end

/-- What comes of a whole text. -/
def parseR (s : ByteArray) : Res :=
  if 4000 < s.size then .bad 1 0 else match wholeF s (s.size + 1) 0 0 with
    | .bad c j => .bad c j
    | .good m j => if j < s.size then .bad 4 j else .good m j

end Go.Proofs.Yticmfgclkepgoaa

namespace Go.Proofs.Yticmfgclkepgoaa
set_option linter.unusedVariables false

/-- Words of a set, one behind the other. -/
def StarW (L : List Nat → Prop) (w : List Nat) : Prop := ∃ ws : List (List Nat), (∀ x, x ∈ ws → L x) ∧ w = ws.flatten
theorem StarW.nil (L : List Nat → Prop) : StarW L [] := ⟨[], fun x h => by simp at h, rfl⟩
theorem StarW.put {L : List Nat → Prop} {u v : List Nat} (h1 : L u) (h2 : StarW L v) : StarW L (u ++ v) := by
  obtain ⟨ws, h, rfl⟩ := h2
  exact ⟨u :: ws, fun x hx => by rcases List.mem_cons.1 hx with rfl | hx; exact h1; exact h x hx, by simp⟩
theorem StarW.one {L : List Nat → Prop} {u : List Nat} (h : L u) : StarW L u := by
  have := h; have h2 := StarW.put h (StarW.nil L); simpa using h2
theorem StarW.app {L : List Nat → Prop} {u v : List Nat} (h1 : StarW L u) (h2 : StarW L v) : StarW L (u ++ v) := by
  obtain ⟨ws, h, rfl⟩ := h1
  obtain ⟨vs, h', rfl⟩ := h2
  exact ⟨ws ++ vs, fun x hx => (List.mem_append.1 hx).elim (h x) (h' x), by simp⟩
theorem StarW.first {L : List Nat → Prop} {c : Nat} {w : List Nat} (h : StarW L (c :: w)) : ∃ x r, w = x ++ r ∧ L (c :: x) ∧ StarW L r := by
  obtain ⟨ws, h, e⟩ := h
  induction ws with
  | nil => simp at e
  | cons y ws ih =>
    cases y with
    | nil => exact ih (fun x hx => h x (by simp [hx])) (by simpa using e)
    | cons d y =>
      simp only [List.flatten_cons, List.cons_append, List.cons.injEq] at e
      obtain ⟨rfl, rfl⟩ := e
      exact ⟨y, ws.flatten, rfl, h _ (by simp), ws, fun x hx => h x (by simp [hx]), rfl⟩
theorem StarW.mono {L L' : List Nat → Prop} (h : ∀ x, L x → L' x) {w : List Nat} (hw : StarW L w) : StarW L' w := by
  obtain ⟨ws, h1, e⟩ := hw
  exact ⟨ws, fun x hx => h x (h1 x hx), e⟩
theorem StarW.again {L : List Nat → Prop} {w : List Nat} (h : StarW (StarW L) w) : StarW L w := by
  obtain ⟨ws, h1, rfl⟩ := h
  induction ws with
  | nil => exact StarW.nil L
  | cons y ws ih => exact StarW.app (h1 y (by simp)) (ih (fun x hx => h1 x (by simp [hx])))

def tells : Rx → List Nat → Prop
  | .none, _ => False
  | .empty, w => w = []
  | .letter c, w => w = [c.toNat]
  | .alt a b, w => tells a w ∨ tells b w
  | .cat a b, w => ∃ u v, w = u ++ v ∧ tells a u ∧ tells b v
  | .star a, w => StarW (tells a) w
theorem tells_star (m : Rx) (w : List Nat) : tells (starS m) w ↔ StarW (tells m) w := by
  cases m with
  | star m => exact ⟨fun h => StarW.one h, fun h => StarW.again h⟩
  | _ => exact Iff.rfl

end Go.Proofs.Yticmfgclkepgoaa

namespace Go.Proofs.Yticmfgclkepgoaa
open Go.RowKit
set_option linter.unusedVariables false

section
variable {s : ByteArray}
theorem parse_end {m : Rx} {j : Nat} (h : parseR s = .good m j) : s.size ≤ 4000 ∧ j = s.size ∧ wholeF s (s.size + 1) 0 0 = .good m s.size := by
  unfold parseR at h
  split at h
  · cases h
  · rename_i hs
    split at h
    · cases h
    · rename_i m' j' hw
      split at h
      · cases h
      · rename_i hj
        cases h
        have := (adv_whole (s.size + 1) _ _ _ _ hw).2 (Nat.zero_le _)
        have e : j = s.size := by omega
        subst e
        exact ⟨by omega, rfl, hw⟩
end
theorem byteAt_end {s : ByteArray} {i : Nat} (h : s.size ≤ i) : byteAt s i = 0 := by
  rcases Nat.eq_zero_or_pos (byteAt s i) with h0 | h0
  · exact h0
  · have := byteAt_pos (s := s) (i := i) (by omega); omega
theorem byteAt_left {a b : ByteArray} {i : Nat} (h : i < a.size) : byteAt (a ++ b) i = byteAt a i := by
  unfold byteAt
  rw [dif_pos (by rw [ByteArray.size_append]; omega), dif_pos h, ByteArray.getElem_append_left h]
theorem byteAt_right {a b : ByteArray} {i : Nat} (h : a.size ≤ i) : byteAt (a ++ b) i = byteAt b (i - a.size) := by
  unfold byteAt
  by_cases hi : i < a.size + b.size
  · rw [dif_pos (by rw [ByteArray.size_append]; omega), dif_pos (by omega), ByteArray.getElem_append_right h]
  · rw [dif_neg (by rw [ByteArray.size_append]; omega), dif_neg (by omega)]

end Go.Proofs.Yticmfgclkepgoaa

namespace Go.Proofs.Yticmfgclkepgoaa
open Go.RowKit
set_option linter.unusedVariables false

/-- No letter lies below 0. -/
def NN : Rx → Prop
  | .none => True
  | .empty => True
  | .letter c => 0 ≤ c
  | .alt a b => NN a ∧ NN b
  | .cat a b => NN a ∧ NN b
  | .star a => NN a
theorem nn_star {m : Rx} (h : NN m) : NN (starS m) := by cases m <;> exact h
theorem nn_rowS {ms : List Rx} (h : 0 < ms.length) {m : Rx} (h1 : NN (rowOf ms)) (h2 : NN m) : NN (rowOf (ms ++ [m])) := by rw [rowOf_snoc h]; exact ⟨h1, h2⟩
theorem nn_eitherS {ms : List Rx} (h : 0 < ms.length) {m : Rx} (h1 : NN (eitherOf ms)) (h2 : NN m) : NN (eitherOf (ms ++ [m])) := by rw [eitherOf_snoc h]; exact ⟨h1, h2⟩

section nn
variable {s : ByteArray}
def Nng (s : ByteArray) (S : Nat → Nat → Res) : Prop := ∀ i d m j, S i d = .good m j → NN m
theorem nng_part {W : Nat → Nat → Res} (hW : Nng s W) : Nng s (partS s W) := by
  intro i d m j h
  unfold partS at h
  split at h
  · cases h
  · split at h
    · unfold bracketS at h
      split at h
      · cases h
      · split at h
        · cases h
        · rename_i m' j' hw
          split at h
          · cases h
            exact hW _ _ _ _ hw
          · cases h
    · split at h
      · cases h
        trivial
      · split at h
        · cases h
          trivial
        · cases h
          show (0 : Int) ≤ ((byteAt s i - 97 : Nat) : Int)
          omega
theorem nng_star : ∀ (k : Nat) (m : Rx) (j : Nat) (m' : Rx) (j' : Nat), NN m → starL s k m j = .good m' j' → NN m'
  | 0, m, j, m', j', hn, h => by cases h; exact hn
  | k + 1, m, j, m', j', hn, h => by
    unfold starL at h
    split at h
    · exact nng_star k _ _ _ _ (nn_star hn) h
    · cases h; exact hn
theorem nng_one {P : Nat → Nat → Res} (hP : Nng s P) : Nng s (oneS s P) := by
  intro i d m j h
  unfold oneS at h
  split at h
  · cases h
  · rename_i m' j' hp
    exact nng_star _ _ _ _ _ (hP _ _ _ _ hp) h
theorem nng_rowX {O : Nat → Nat → Res} (hO : Nng s O) (d : Nat) : ∀ (k : Nat) (ms : List Rx) (j : Nat) (m' : Rx) (j' : Nat), 0 < ms.length → NN (rowOf ms) → rowX s O d k ms j = .good m' j' → NN m'
  | 0, ms, j, m', j', hl, hn, h => by cases h
  | k + 1, ms, j, m', j', hl, hn, h => by
    unfold rowX at h
    split at h
    · split at h
      · cases h
      · rename_i m1 j1 ho
        exact nng_rowX hO d k _ _ _ _ (by simp) (nn_rowS hl hn (hO _ _ _ _ ho)) h
    · cases h; exact hn
theorem nng_row {O : Nat → Nat → Res} (hO : Nng s O) : Nng s (rowS s O) := by
  intro i d m j h
  unfold rowS at h
  split at h
  · cases h
  · rename_i m' j' hp
    exact nng_rowX hO _ _ [m'] _ _ _ (by simp) (by rw [rowOf_one]; exact hO _ _ _ _ hp) h
theorem nng_eitherL {O : Nat → Nat → Res} (hO : Nng s O) (d : Nat) : ∀ (k : Nat) (ms : List Rx) (j : Nat) (m' : Rx) (j' : Nat), 0 < ms.length → NN (eitherOf ms) → eitherL s O d k ms j = .good m' j' → NN m'
  | 0, ms, j, m', j', hl, hn, h => by cases h
  | k + 1, ms, j, m', j', hl, hn, h => by
    unfold eitherL at h
    split at h
    · split at h
      · cases h
      · rename_i m1 j1 ho
        exact nng_eitherL hO d k _ _ _ _ (by simp) (nn_eitherS hl hn (hO _ _ _ _ ho)) h
    · cases h; exact hn
theorem nng_either {O : Nat → Nat → Res} (hO : Nng s O) : Nng s (eitherS s O) := by
  intro i d m j h
  unfold eitherS at h
  split at h
  · cases h
  · rename_i m' j' hp
    exact nng_eitherL hO _ _ [m'] _ _ _ (by simp) (by rw [eitherOf_one]; exact hO _ _ _ _ hp) h
theorem nng_whole : ∀ n, Nng s (wholeF s n)
  | 0 => fun _ _ _ _ h => by cases h
  | n + 1 => nng_either (nng_row (nng_one (nng_part (nng_whole n))))
/-- No letter that is read lies below 0. -/
theorem parse_nn {m : Rx} {j : Nat} (h : parseR s = .good m j) : NN m := by
  obtain ⟨_, _, hw⟩ := parse_end h
  exact nng_whole _ _ _ _ _ hw
end nn

end Go.Proofs.Yticmfgclkepgoaa
