/- The words that the contracts of this seat are said in: a reader's block, how memory grows, what a text's byte is. -/
/- What is read of a text, as it is built (where the places of its letters matter); what it tells of a word. No program is in it. -/
/- How a text is read: what both readers come to, and what a text tells of a word from place to place. No program is in it. -/
/- The next byte, as the program's reader tells it; which bytes begin a part. -/
/- What was read lies in memory as the program keeps it; and how it stays there. -/
/- A fault's number is not 0. No program is in it. -/
import Derived.Test.YtkkmdcnbifepjaaDoorGrow
namespace Go.Proofs.YtkkmdcnbifepjaaDoor
open Go.RowKit
set_option linter.unusedVariables false

/-- The byte at a place of a text; 0 behind its end. -/
def byteAt (s : ByteArray) (i : Nat) : Nat := if h : i < s.size then s[i].toNat else 0

theorem byteAt_lt (s : ByteArray) (i : Nat) : byteAt s i < 256 := by
  unfold byteAt
  split
  · exact UInt8.toNat_lt _
  · omega

theorem byteAt_pos {s : ByteArray} {i : Nat} (h : byteAt s i ≠ 0) : i < s.size := by
  unfold byteAt at h
  by_cases hi : i < s.size
  · exact hi
  · simp [hi] at h

/-- The program's reader lies in block b. -/
def Rd (w : World) (b : Nat) (s : ByteArray) (i d : Nat) : Prop := w.heap[b]? = some (.cells #[.string s, .int .i64 i, .int .i64 d] 78 (0, 0))

theorem Rd.lt {w : World} {b : Nat} {s : ByteArray} {i d : Nat} (h : Rd w b s i d) : b < w.heap.size := (Array.getElem?_eq_some_iff.1 h).1
theorem Rd.c0 {w : World} {b : Nat} {s : ByteArray} {i d : Nat} (h : Rd w b s i d) : w.cell? ⟨b, 0, none⟩ = some (.string s) := by rw [cell_of_row w b 0 _ _ (0, 0) h]; rfl
theorem Rd.c1 {w : World} {b : Nat} {s : ByteArray} {i d : Nat} (h : Rd w b s i d) : w.cell? ⟨b, 1, none⟩ = some (.int .i64 i) := by rw [cell_of_row w b 1 _ _ (0, 0) h]; rfl
theorem Rd.c2 {w : World} {b : Nat} {s : ByteArray} {i d : Nat} (h : Rd w b s i d) : w.cell? ⟨b, 2, none⟩ = some (.int .i64 d) := by rw [cell_of_row w b 2 _ _ (0, 0) h]; rfl
theorem Rd.f {w : World} {b : Nat} {s : ByteArray} {i d : Nat} (h : Rd w b s i d) (k : Nat) : w.frozen? ⟨b, k, none⟩ = false := frozen_of_row w b k _ _ h
theorem Rd.set1 {w : World} {b : Nat} {s : ByteArray} {i d : Nat} (h : Rd w b s i d) (j : Nat) {x : Int} (hx : x = j) : Rd (w.setCell ⟨b, 1, none⟩ (.int .i64 x)) b s j d := by
  subst hx; unfold Rd at h ⊢; rw [heap_setCell_same w b 1 _ _ _ h]; rfl
theorem Rd.set2 {w : World} {b : Nat} {s : ByteArray} {i d : Nat} (h : Rd w b s i d) (j : Nat) {x : Int} (hx : x = j) : Rd (w.setCell ⟨b, 2, none⟩ (.int .i64 x)) b s i j := by
  subst hx; unfold Rd at h ⊢; rw [heap_setCell_same w b 2 _ _ _ h]; rfl

/-- The place at which a reader is. -/
def placeOf (w : World) (b : Nat) : Nat := match w.cell? ⟨b, 1, none⟩ with | some v => (intOf v).toNat | none => 0
theorem Rd.place {w : World} {b : Nat} {s : ByteArray} {i d : Nat} (h : Rd w b s i d) : placeOf w b = i := by simp [placeOf, h.c1, intOf]

theorem Rd.kept {w w' : World} {b : Nat} {s : ByteArray} {i d : Nat} (h : Rd w b s i d) (hg : w.grownBy w' none) : Rd w' b s i d := (hg.block b h.lt (by simp)).trans h
theorem Rd.kept' {w w' : World} {b g : Nat} {s : ByteArray} {i d : Nat} (h : Rd w b s i d) (hg : w.grownBy w' (some g)) (hne : b ≠ g) : Rd w' b s i d := (hg.block b h.lt (by simpa using hne)).trans h

end Go.Proofs.YtkkmdcnbifepjaaDoor

namespace Go.Proofs.YtkkmdcnbifepjaaDoor
open Go.RowKit
set_option linter.unusedVariables false

/-- A text as it is built. -/
inductive Rx where
  | none
  | empty
  | letter (c : Int)
  | alt (a b : Rx)
  | cat (a b : Rx)
  | star (a : Rx)
abbrev Sense := Rx
def noneS : Sense := .none
def emptyS : Sense := .empty
def letterS (c : Int) : Sense := .letter c
def eitherOf : List Sense → Sense
  | [] => .none
  | m :: ms => ms.foldl .alt m
def rowOf : List Sense → Sense
  | [] => .empty
  | m :: ms => ms.foldl .cat m
def starS : Sense → Sense
  | .star m => .star m
  | m => .star m
theorem star_star (m : Sense) : starS (starS m) = starS m := by cases m <;> rfl
theorem eitherOf_one (m : Sense) : eitherOf [m] = m := rfl
theorem rowOf_one (m : Sense) : rowOf [m] = m := rfl
theorem eitherOf_nil : eitherOf [] = noneS := rfl
theorem eitherOf_snoc {ms : List Sense} (h : 0 < ms.length) (m : Sense) : eitherOf (ms ++ [m]) = .alt (eitherOf ms) m := by
  cases ms with
  | nil => simp at h
  | cons x xs => simp [eitherOf, List.foldl_append]
theorem rowOf_snoc {ms : List Sense} (h : 0 < ms.length) (m : Sense) : rowOf (ms ++ [m]) = .cat (rowOf ms) m := by
  cases ms with
  | nil => simp at h
  | cons x xs => simp [rowOf, List.foldl_append]

end Go.Proofs.YtkkmdcnbifepjaaDoor

namespace Go.Proofs.YtkkmdcnbifepjaaDoor
open Go.RowKit
set_option linter.unusedVariables false

/-- What comes of reading: what was read and the place behind it, or the fault and its place. -/
inductive Res where
  | good (m : Sense) (j : Nat)
  | bad (c : Int) (j : Nat)

def beginsF (c : Nat) : Bool := c == 48 || c == 49 || c == 40 || (decide (97 ≤ c) && decide (c ≤ 100))

section
variable (s : ByteArray)

def bracketS (W : Nat → Nat → Res) (i d : Nat) : Res :=
  if d = 40 then .bad 7 i else match W (i + 1) (d + 1) with
    | .bad c j => .bad c j
    | .good m j => if byteAt s j = 41 then .good m (j + 1) else .bad 4 j

def partS (W : Nat → Nat → Res) (i d : Nat) : Res :=
  if beginsF (byteAt s i) = false then .bad 4 i
  else if byteAt s i = 40 then bracketS s W i d
  else if byteAt s i = 48 then .good noneS (i + 1)
  else if byteAt s i = 49 then .good emptyS (i + 1)
  else .good (letterS (byteAt s i - 97 : Nat)) (i + 1)

def starL : Nat → Sense → Nat → Res
  | 0, m, j => .good m j
  | k + 1, m, j => if byteAt s j = 42 then starL k (starS m) (j + 1) else .good m j

def oneS (P : Nat → Nat → Res) (i d : Nat) : Res :=
  match P i d with
  | .bad c j => .bad c j
  | .good m j => starL s (s.size + 1) m j

def rowX (O : Nat → Nat → Res) (d : Nat) : Nat → List Sense → Nat → Res
  | 0, ms, j => .bad 4 j
  | k + 1, ms, j => if beginsF (byteAt s j) = true then
      match O j d with
      | .bad c j' => .bad c j'
      | .good m j' => rowX O d k (ms ++ [m]) j'
    else .good (rowOf ms) j

def rowS (O : Nat → Nat → Res) (i d : Nat) : Res :=
  match O i d with
  | .bad c j => .bad c j
  | .good m j => rowX s O d (s.size + 1) [m] j

def eitherL (R : Nat → Nat → Res) (d : Nat) : Nat → List Sense → Nat → Res
  | 0, ms, j => .bad 4 j
  | k + 1, ms, j => if byteAt s j = 43 then
      match R (j + 1) d with
      | .bad c j' => .bad c j'
      | .good m j' => eitherL R d k (ms ++ [m]) j'
    else .good (eitherOf ms) j

def eitherS (R : Nat → Nat → Res) (i d : Nat) : Res :=
  match R i d with
  | .bad c j => .bad c j
  | .good m j => eitherL s R d (s.size + 1) [m] j

def wholeF : Nat → Nat → Nat → Res
  | 0 => fun i _ => .bad 4 i
  | n + 1 => eitherS s (rowS s (oneS s (partS s (wholeF n))))

def partF (n : Nat) := partS s (wholeF s n)
def oneF (n : Nat) := oneS s (partF s n)
def rowF (n : Nat) := rowS s (oneF s n)

/-- What was read lies ahead and within the text. -/
def Adv (S : Nat → Nat → Res) : Prop := ∀ i d m j, S i d = .good m j → i < j ∧ (i ≤ s.size → j ≤ s.size)

variable {s}
theorem byte_lt {i c : Nat} (h : byteAt s i = c) (hc : c ≠ 0) : i < s.size := byteAt_pos (by omega)

theorem begins_lt {i : Nat} (h : beginsF (byteAt s i) = true) : i < s.size := by
  refine byteAt_pos (fun h0 => ?_)
  rw [h0] at h
  simp [beginsF] at h

theorem adv_part {W : Nat → Nat → Res} (hW : Adv s W) : Adv s (partS s W) := by
  intro i d m j h
  unfold partS at h
  split at h
  · cases h
  · rename_i hb
    have hlt := begins_lt (s := s) (i := i) (by simpa using hb)
    split at h
    · unfold bracketS at h
      split at h
      · cases h
      · split at h
        · cases h
        · rename_i m' j' hw
          split at h
          · rename_i hc
            have := hW _ _ _ _ hw
            have := byte_lt hc (by omega)
            cases h
            omega
          · cases h
    · split at h
      · cases h; omega
      · split at h
        · cases h; omega
        · cases h; omega

theorem starL_adv : ∀ (k : Nat) (m : Sense) (j : Nat) (m' : Sense) (j' : Nat), starL s k m j = .good m' j' → j ≤ j' ∧ (j ≤ s.size → j' ≤ s.size)
  | 0, m, j, m', j', h => by cases h; omega
  | k + 1, m, j, m', j', h => by
    unfold starL at h
    split at h
    · rename_i hc
      have := starL_adv k _ _ _ _ h
      have := byte_lt hc (by omega)
      omega
    · cases h; omega

theorem starL_good : ∀ (k : Nat) (m : Sense) (j : Nat), ∃ m' j', starL s k m j = .good m' j'
  | 0, m, j => ⟨_, _, rfl⟩
  | k + 1, m, j => by
    unfold starL
    split
    · exact starL_good k _ _
    · exact ⟨_, _, rfl⟩

theorem adv_one {P : Nat → Nat → Res} (hP : Adv s P) : Adv s (oneS s P) := by
  intro i d m j h
  unfold oneS at h
  split at h
  · cases h
  · rename_i m' j' hp
    have := hP _ _ _ _ hp
    have := starL_adv _ _ _ _ _ h
    omega

theorem rowX_adv {O : Nat → Nat → Res} (hO : Adv s O) (d : Nat) : ∀ (k : Nat) (ms : List Sense) (j : Nat) (m' : Sense) (j' : Nat), rowX s O d k ms j = .good m' j' → j ≤ j' ∧ (j ≤ s.size → j' ≤ s.size)
  | 0, m, j, m', j', h => by cases h
  | k + 1, m, j, m', j', h => by
    unfold rowX at h
    split at h
    · split at h
      · cases h
      · rename_i ho
        have := hO _ _ _ _ ho
        have := rowX_adv hO d k _ _ _ _ h
        omega
    · cases h; omega

theorem adv_row {O : Nat → Nat → Res} (hO : Adv s O) : Adv s (rowS s O) := by
  intro i d m j h
  unfold rowS at h
  split at h
  · cases h
  · rename_i m' j' hp
    have := hO _ _ _ _ hp
    have := rowX_adv hO _ _ _ _ _ _ h
    omega

theorem eitherL_adv {O : Nat → Nat → Res} (hO : Adv s O) (d : Nat) : ∀ (k : Nat) (ms : List Sense) (j : Nat) (m' : Sense) (j' : Nat), eitherL s O d k ms j = .good m' j' → j ≤ j' ∧ (j ≤ s.size → j' ≤ s.size)
  | 0, m, j, m', j', h => by cases h
  | k + 1, m, j, m', j', h => by
    unfold eitherL at h
    split at h
    · rename_i hc
      have := byte_lt hc (by omega)
      split at h
      · cases h
      · rename_i ho
        have := hO _ _ _ _ ho
        have := eitherL_adv hO d k _ _ _ _ h
        omega
    · cases h; omega

theorem adv_either {O : Nat → Nat → Res} (hO : Adv s O) : Adv s (eitherS s O) := by
  intro i d m j h
  unfold eitherS at h
  split at h
  · cases h
  · rename_i m' j' hp
    have := hO _ _ _ _ hp
    have := eitherL_adv hO _ _ _ _ _ _ h
    omega

theorem adv_whole : ∀ n, Adv s (wholeF s n)
  | 0 => fun _ _ _ _ h => by cases h
  | n + 1 => adv_either (adv_row (adv_one (adv_part (adv_whole n))))

theorem adv_partF (n : Nat) : Adv s (partF s n) := adv_part (adv_whole n)
theorem adv_oneF (n : Nat) : Adv s (oneF s n) := adv_one (adv_partF n)
theorem adv_rowF (n : Nat) : Adv s (rowF s n) := adv_row (adv_oneF n)
end

/-- What comes of a whole text. -/
def parseR (s : ByteArray) : Res :=
  if 4000 < s.size then .bad 1 0 else match wholeF s (s.size + 1) 0 0 with
    | .bad c j => .bad c j
    | .good m j => if j < s.size then .bad 4 j else .good m j

end Go.Proofs.YtkkmdcnbifepjaaDoor

namespace Go.Proofs.YtkkmdcnbifepjaaDoor
open Go.RowKit
set_option linter.unusedVariables false

theorem peek_any (s : ByteArray) (b i d : Nat) (w : World) (hs : s.size ≤ 4000) (hi : i ≤ s.size) (h : Rd w b s i d) :
    Calls Tryd.prog 52 #[.pointer (some ⟨b, 0, none⟩)] w fun e w' => e = .returned (.int .u8 (byteAt s i)) ∧ w.grownBy w' none := by
  have c0 := h.c0
  have c1 := h.c1
  have f0 := h.f 0
  have f1 := h.f 1
  clear h
  by_cases h1 : i = s.size
  · have h1' : ((i : Int) == (s.size : Int)) = true := by simp; omega
    go_enter Tryd.func52, Tryd.ntmps52
    go_wp2
    go_quiet (fail)
    go_wp2
    go_ret
    exact ⟨by simp [byteAt, h1], grown_drewN (grown_refl _ _) _⟩
  · have h2 : i < s.size := by omega
    have h1' : ((i : Int) == (s.size : Int)) = false := by simp; omega
    have h3 : (i : Int) < (s.size : Int) := by omega
    have h4 : (0 : Int) ≤ (i : Int) := by omega
    go_enter Tryd.func52, Tryd.ntmps52
    go_wp2
    go_quiet (fail)
    go_wp2
    go_quiet (fail)
    go_wp2
    go_ret
    exact ⟨by simp [byteAt, h2], grown_drewN (grown_drewN (grown_refl _ _) _) _⟩
end Go.Proofs.YtkkmdcnbifepjaaDoor

namespace Go.Proofs.YtkkmdcnbifepjaaDoor
open Go.RowKit
set_option linter.unusedVariables false

/-- The value v is a part that tells m; the memory that it lies in is of blocks that are ok. -/
inductive Lies (ok : Nat → Prop) (w : World) : Value → Sense → Prop
  | letter (c : Nat) (hc : c < 4) : Lies ok w (.iface 109 (.int .i64 c)) (letterS c)
  | none (a : Option Addr) (cap : Nat) : Lies ok w (.iface 108 (.slice a 0 cap)) noneS
  | empty (a : Option Addr) (cap : Nat) : Lies ok w (.iface 112 (.slice a 0 cap)) emptyS
  | either (g cap : Nat) (vs : List Value) (ms : List Sense) (hok : ok g) (hn : ms.length ≤ 4001) (hc : ∀ k, k < ms.length → w.cell? ⟨g, k, none⟩ = some (vs.getD k .nilIface))
      (hl : ∀ k, k < ms.length → Lies ok w (vs.getD k .nilIface) (ms.getD k noneS)) : Lies ok w (.iface 108 (.slice (some ⟨g, 0, Option.none⟩) ms.length cap)) (eitherOf ms)
  | row (g cap : Nat) (vs : List Value) (ms : List Sense) (hok : ok g) (hn : ms.length ≤ 4001) (hc : ∀ k, k < ms.length → w.cell? ⟨g, k, none⟩ = some (vs.getD k .nilIface))
      (hl : ∀ k, k < ms.length → Lies ok w (vs.getD k .nilIface) (ms.getD k noneS)) : Lies ok w (.iface 112 (.slice (some ⟨g, 0, Option.none⟩) ms.length cap)) (rowOf ms)
  | star (v : Value) (m : Sense) (h : Lies ok w v m) : Lies ok w (.iface 115 (.agg #[v])) (starS m)

theorem Lies.kept {ok ok' : Nat → Prop} {w w' : World} {v : Value} {m : Sense} (h : Lies ok w v m) (hk : ∀ g, ok g → g < w.heap.size → ok' g ∧ w'.heap[g]? = w.heap[g]?) : Lies ok' w' v m := by
  have hc : ∀ (g : Nat) (o : Nat) (x : Value), ok g → w.cell? ⟨g, o, Option.none⟩ = some x → ok' g ∧ w'.cell? ⟨g, o, Option.none⟩ = some x := by
    intro g o x hg hx
    have hlt := World.block_lt_of_cell? w _ hx
    obtain ⟨k1, k2⟩ := hk g hg hlt
    exact ⟨k1, (World.cell?_of_block (a := ⟨g, o, Option.none⟩) k2).trans hx⟩
  induction h with
  | letter c hc => exact .letter c hc
  | none a cap => exact .none a cap
  | empty a cap => exact .empty a cap
  | either g cap vs ms hok hn hcs hl ih =>
    by_cases h0 : ms.length = 0
    · have : ms = [] := List.eq_nil_of_length_eq_zero h0
      subst this
      rw [eitherOf_nil]
      exact .none _ _
    · exact .either g cap vs ms (hc g 0 _ hok (hcs 0 (by omega))).1 hn (fun k hk => (hc g k _ hok (hcs k hk)).2) ih
  | row g cap vs ms hok hn hcs hl ih =>
    by_cases h0 : ms.length = 0
    · have : ms = [] := List.eq_nil_of_length_eq_zero h0
      subst this
      exact .empty _ _
    · exact .row g cap vs ms (hc g 0 _ hok (hcs 0 (by omega))).1 hn (fun k hk => (hc g k _ hok (hcs k hk)).2) ih
  | star v m _ ih => exact .star v m ih

theorem Lies.form {ok : Nat → Prop} {w : World} {v : Value} {m : Sense} (h : Lies ok w v m) : ∃ t x, v = .iface t x := by
  cases h <;> exact ⟨_, _, rfl⟩

/-- A list of parts that the call has made. -/
structure Kids (base : Nat) (w : World) (v : Value) (ms : List Sense) (vs : List Value) : Prop where
  own : w.ownsRow base 44 1 v ms.length vs
  lie : ∀ k, k < ms.length → Lies (fun q => base ≤ q ∧ v.ownBlock ≠ some q) w (vs.getD k .nilIface) (ms.getD k noneS)

theorem Kids.len {base : Nat} {w : World} {v : Value} {ms : List Sense} {vs : List Value} (h : Kids base w v ms vs) : vs.length = ms.length := by have := h.own.1; omega

theorem Kids.kept {base : Nat} {w w' : World} {v : Value} {ms : List Sense} {vs : List Value} {b : Nat} (h : Kids base w v ms vs) (hg : w.grownBy w' (some b)) (hb : b < base) : Kids base w' v ms vs := by
  refine ⟨h.own.kept hg ?_, fun k hk => (h.lie k hk).kept fun g hg' hlt => ⟨hg', hg.block g hlt (by simp; omega)⟩⟩
  cases hv : v.ownBlock with
  | none => simp
  | some q => have := h.own.lt q hv; simp; omega

/-- The first one. -/
theorem Kids.first {base : Nat} {w w0 : World} {v : Value} {m : Sense} (hv : Lies (fun k => w0.heap.size ≤ k) w v m) (hb : base ≤ w0.heap.size) (hs : w0.heap.size ≤ w.heap.size) :
    Kids base (w.alloc (.cells #[v] 44)) (.slice (some ⟨w.heap.size, 0, none⟩) 1 1) [m] [v] := by
  refine ⟨⟨rfl, .inr ⟨w.heap.size, 1, #[v], rfl, by omega, heap_alloc_new w _, by simp, by unfold maxLen; omega, rfl, by simp⟩⟩, fun k hk => ?_⟩
  have : k = 0 := by simpa using hk
  subst this
  refine hv.kept fun g hg hlt => ⟨⟨by omega, by simp [Value.ownBlock]; omega⟩, Below.heap_alloc _ _ _ hlt⟩

/-- One more: behind the append. -/
theorem Kids.push {base : Nat} {w2 w3 : World} {v v' x : Value} {ms : List Sense} {vs : List Value} {m : Sense} {n : Nat} (h : Kids base w2 v ms vs) (hn : n ≤ w2.heap.size) (hv : ∀ q, v.ownBlock = some q → q < n) (hbase : base ≤ n) (hx : Lies (fun k => n ≤ k) w2 x m)
    (ho : w3.ownsRow base 44 1 v' (ms.length + 1) (vs ++ [x])) (hg : (w2.alloc (.cells #[x] 44)).grownBy w3 v.ownBlock) (hat : v'.ownBlock = v.ownBlock ∨ v'.ownBlock = some (w2.heap.size + 1)) : Kids base w3 v' (ms ++ [m]) (vs ++ [x]) := by
  have hsz : (w2.alloc (.cells #[x] 44)).heap.size = w2.heap.size + 1 := by simp
  have hstep : ∀ q, q < w2.heap.size → v.ownBlock ≠ some q → w3.heap[q]? = w2.heap[q]? := fun q hq hne =>
    (hg.block q (by omega) (Ne.symm hne)).trans (Below.heap_alloc _ _ _ hq)
  have hout : ∀ q, q < w2.heap.size → v.ownBlock ≠ some q → v'.ownBlock ≠ some q := by
    intro q hq hne
    rcases hat with e | e
    · rw [e]; exact hne
    · rw [e]; simp; omega
  refine ⟨by simpa using ho, fun k hk => ?_⟩
  have hl := h.len
  by_cases hk' : k < ms.length
  · have e1 : (vs ++ [x]).getD k .nilIface = vs.getD k .nilIface := by simp [List.getD, List.getElem?_append_left (show k < vs.length by omega)]
    have e2 : (ms ++ [m]).getD k noneS = ms.getD k noneS := by simp [List.getD, List.getElem?_append_left hk']
    rw [e1, e2]
    exact (h.lie k hk').kept fun g ⟨hg1, hg2⟩ hlt => ⟨⟨hg1, hout g hlt hg2⟩, hstep g hlt hg2⟩
  · have hke : k = ms.length := by simp at hk; omega
    subst hke
    have e1 : (vs ++ [x]).getD ms.length .nilIface = x := by simp [List.getD, ← hl]
    have e2 : (ms ++ [m]).getD ms.length noneS = m := by simp [List.getD]
    rw [e1, e2]
    refine hx.kept fun g hg1 hlt => ?_
    have hne : v.ownBlock ≠ some g := fun e => by have := hv g e; omega
    exact ⟨⟨by omega, hout g hlt hne⟩, hstep g hlt hne⟩

/-- What a call of the program's reader leaves behind. -/
def Gives (s : ByteArray) (b d : Nat) (w : World) (R : Res) (e : Ending) (w' : World) : Prop :=
  w.grownBy w' (some b) ∧ match R with
  | .good m j => ∃ v, e = .returned v ∧ Rd w' b s j d ∧ Lies (fun k => w.heap.size ≤ k) w' v m
  | .bad c j => (c = 4 ∧ e = .panicked [{ v := .iface 74 (.int .i64 j), recovered := false }]) ∨ (c = 7 ∧ e = .panicked [{ v := .iface 75 (.int .i64 j), recovered := false }])

/-- A function of the program's reader reads as S says, at places with less than n bytes behind them. -/
def Does (f : Nat) (s : ByteArray) (S : Nat → Nat → Res) (n : Nat) : Prop :=
  ∀ (i d b : Nat) (w : World), i ≤ s.size → s.size - i < n → d ≤ 40 → Rd w b s i d → Calls Tryd.prog f #[.pointer (some ⟨b, 0, none⟩)] w (Gives s b d w (S i d))

/-- A bad end of a part of what is read is a bad end of the whole. -/
theorem Gives.bad_trans {s : ByteArray} {b d d' : Nat} {w w1 w2 : World} {c : Int} {j : Nat} {e : Ending} (h0 : w.grownBy w1 (some b)) (h : Gives s b d' w1 (.bad c j) e w2) : Gives s b d w (.bad c j) e w2 :=
  ⟨grown_trans h0 h.1, h.2⟩

theorem begins_any (c : Nat) (w : World) (hc : c < 256) : Calls Tryd.prog 68 #[.int .u8 c] w fun e w' => e = .returned (.bool (beginsF c)) ∧ w' = w := by
  by_cases h1 : c = 48
  · subst h1
    go_enter Tryd.func68, Tryd.ntmps68
    go_wp2
    go_ret
    exact ⟨ret_bool (by simp [beginsF]), rfl⟩
  · have h1' : ((c : Int) == 48) = false := by simp; omega
    by_cases h2 : c = 49
    · subst h2
      go_enter Tryd.func68, Tryd.ntmps68
      go_wp2
      go_ret
      exact ⟨ret_bool (by simp [beginsF]), rfl⟩
    · have h2' : ((c : Int) == 49) = false := by simp; omega
      by_cases h3 : c = 40
      · subst h3
        go_enter Tryd.func68, Tryd.ntmps68
        go_wp2
        go_ret
        exact ⟨ret_bool (by simp [beginsF]), rfl⟩
      · have h3' : ((c : Int) == 40) = false := by simp; omega
        by_cases h4 : 97 ≤ c
        · have h4' : (97 : Int) ≤ (c : Int) := by omega
          go_enter Tryd.func68, Tryd.ntmps68
          go_wp2
          go_ret
          refine ⟨ret_bool ?_, rfl⟩
          have e1 : (c == 48) = false := by simpa using h1
          have e2 : (c == 49) = false := by simpa using h2
          have e3 : (c == 40) = false := by simpa using h3
          simp only [beginsF, e1, e2, e3, Bool.false_or, decide_eq_true h4, Bool.true_and]
          by_cases h : c ≤ 100
          · rw [decide_eq_true h, decide_eq_true (by omega)]
          · rw [decide_eq_false h, decide_eq_false (by omega)]
        · have h4' : decide ((97 : Int) ≤ (c : Int)) = false := by simp; omega
          go_enter Tryd.func68, Tryd.ntmps68
          go_wp2
          go_ret
          exact ⟨ret_bool (by simp [beginsF, h1, h2, h3, h4]), rfl⟩

end Go.Proofs.YtkkmdcnbifepjaaDoor

namespace Go.Proofs.YtkkmdcnbifepjaaDoor
open Go.RowKit
set_option linter.unusedVariables false

/-- A fault's number is not 0. -/
def NZ (S : Nat → Nat → Res) : Prop := ∀ i d c j, S i d = .bad c j → c ≠ 0
section
variable {s : ByteArray}
theorem nz_part {W : Nat → Nat → Res} (hW : NZ W) : NZ (partS s W) := by
  intro i d c j h
  unfold partS at h
  split at h
  · cases h; decide
  · split at h
    · unfold bracketS at h
      split at h
      · cases h; decide
      · split at h
        · rename_i c' j' hw
          cases h
          exact hW _ _ _ _ hw
        · split at h
          · cases h
          · cases h; decide
    · split at h
      · cases h
      · split at h
        · cases h
        · cases h
theorem nz_one {P : Nat → Nat → Res} (hP : NZ P) : NZ (oneS s P) := by
  intro i d c j h
  unfold oneS at h
  split at h
  · rename_i c' j' hw
    cases h
    exact hP _ _ _ _ hw
  · rename_i m' j' hw
    obtain ⟨m2, j2, h2⟩ := starL_good (s := s) (s.size + 1) m' j'
    rw [h2] at h
    cases h
theorem nz_rowL {O : Nat → Nat → Res} (hO : NZ O) (d : Nat) : ∀ (k : Nat) (ms : List Sense) (j : Nat) (c : Int) (j' : Nat), rowX s O d k ms j = .bad c j' → c ≠ 0
  | 0, ms, j, c, j', h => by cases h; decide
  | k + 1, ms, j, c, j', h => by
    unfold rowX at h
    split at h
    · split at h
      · rename_i c2 j2 hw
        cases h
        exact hO _ _ _ _ hw
      · exact nz_rowL hO d k _ _ _ _ h
    · cases h
theorem nz_row {O : Nat → Nat → Res} (hO : NZ O) : NZ (rowS s O) := by
  intro i d c j h
  unfold rowS at h
  split at h
  · rename_i c2 j2 hw
    cases h
    exact hO _ _ _ _ hw
  · exact nz_rowL hO _ _ _ _ _ _ h
theorem nz_eitherL {O : Nat → Nat → Res} (hO : NZ O) (d : Nat) : ∀ (k : Nat) (ms : List Sense) (j : Nat) (c : Int) (j' : Nat), eitherL s O d k ms j = .bad c j' → c ≠ 0
  | 0, ms, j, c, j', h => by cases h; decide
  | k + 1, ms, j, c, j', h => by
    unfold eitherL at h
    split at h
    · split at h
      · rename_i c2 j2 hw
        cases h
        exact hO _ _ _ _ hw
      · exact nz_eitherL hO d k _ _ _ _ h
    · cases h
theorem nz_either {O : Nat → Nat → Res} (hO : NZ O) : NZ (eitherS s O) := by
  intro i d c j h
  unfold eitherS at h
  split at h
  · rename_i c2 j2 hw
    cases h
    exact hO _ _ _ _ hw
  · exact nz_eitherL hO _ _ _ _ _ _ h
theorem nz_whole : ∀ n, NZ (wholeF s n)
  | 0 => fun _ _ _ _ h => by cases h; decide
  | n + 1 => nz_either (nz_row (nz_one (nz_part (nz_whole n))))
theorem parseR_nz {c : Int} {j : Nat} (h : parseR s = .bad c j) : c ≠ 0 := by
  unfold parseR at h
  split at h
  · cases h; decide
  · split at h
    · rename_i c2 j2 hw
      cases h
      exact nz_whole _ _ _ _ _ hw
    · split at h
      · cases h; decide
      · cases h
end

end Go.Proofs.YtkkmdcnbifepjaaDoor
