/- The words that the contracts of this seat are said in: a reader's block, how memory grows, what a text's byte is. -/
import Derived.Test.YtepldeogcoigkaaDoorRows
import Derived.WalkKit
import Derived.WalkSpells
import Derived.WalkLawsBesides
import Derived.BigQuiet
import Derived.Deep.QuietTactic
import Derived.Deep.AppendLies
namespace Go.Proofs.YtepldeogcoigkaaDoor
open Go.RowKit
set_option linter.unusedVariables false

/-- The byte at a place of a text; 0 behind its end. -/
def byteAt (s : ByteArray) (i : Nat) : Nat := if h : i < s.size then s[i].toNat else 0

theorem byteAt_lt (s : ByteArray) (i : Nat) : byteAt s i < 256 := by
  unfold byteAt
  split
  · exact UInt8.toNat_lt _
  · omega

theorem byteAt_pos {s : ByteArray} {i : Nat} (h : byteAt s i ≠ 0) : i < s.size := by
  unfold byteAt at h
  by_cases hi : i < s.size
  · exact hi
  · simp [hi] at h

/-- The program's reader lies in block b. -/
def Rd (w : World) (b : Nat) (s : ByteArray) (i d : Nat) : Prop := w.heap[b]? = some (.cells #[.string s, .int .i64 i, .int .i64 d] 51 (0, 0))

theorem Rd.lt {w : World} {b : Nat} {s : ByteArray} {i d : Nat} (h : Rd w b s i d) : b < w.heap.size := (Array.getElem?_eq_some_iff.1 h).1
theorem Rd.c0 {w : World} {b : Nat} {s : ByteArray} {i d : Nat} (h : Rd w b s i d) : w.cell? ⟨b, 0, none⟩ = some (.string s) := by rw [cell_of_row w b 0 _ _ (0, 0) h]; rfl
theorem Rd.c1 {w : World} {b : Nat} {s : ByteArray} {i d : Nat} (h : Rd w b s i d) : w.cell? ⟨b, 1, none⟩ = some (.int .i64 i) := by rw [cell_of_row w b 1 _ _ (0, 0) h]; rfl
theorem Rd.c2 {w : World} {b : Nat} {s : ByteArray} {i d : Nat} (h : Rd w b s i d) : w.cell? ⟨b, 2, none⟩ = some (.int .i64 d) := by rw [cell_of_row w b 2 _ _ (0, 0) h]; rfl
theorem Rd.f {w : World} {b : Nat} {s : ByteArray} {i d : Nat} (h : Rd w b s i d) (k : Nat) : w.frozen? ⟨b, k, none⟩ = false := frozen_of_row w b k _ _ h
theorem Rd.set1 {w : World} {b : Nat} {s : ByteArray} {i d : Nat} (h : Rd w b s i d) (j : Nat) {x : Int} (hx : x = j) : Rd (w.setCell ⟨b, 1, none⟩ (.int .i64 x)) b s j d := by
  subst hx; unfold Rd at h ⊢; rw [heap_setCell_same w b 1 _ _ _ h]; rfl
theorem Rd.set2 {w : World} {b : Nat} {s : ByteArray} {i d : Nat} (h : Rd w b s i d) (j : Nat) {x : Int} (hx : x = j) : Rd (w.setCell ⟨b, 2, none⟩ (.int .i64 x)) b s i j := by
  subst hx; unfold Rd at h ⊢; rw [heap_setCell_same w b 2 _ _ _ h]; rfl

/-- The place at which a reader is. -/
def placeOf (w : World) (b : Nat) : Nat := match w.cell? ⟨b, 1, none⟩ with | some v => (intOf v).toNat | none => 0
theorem Rd.place {w : World} {b : Nat} {s : ByteArray} {i d : Nat} (h : Rd w b s i d) : placeOf w b = i := by simp [placeOf, h.c1, intOf]

theorem grown_refl (w : World) (row : Option Nat) : w.grownBy w row := ⟨rfl, rfl, rfl, Nat.le_refl _, fun _ _ _ => rfl⟩
theorem grown_drew {w w' : World} {row : Option Nat} (h : w.grownBy w' row) : w.grownBy w'.drew row := ⟨h.os, h.tape, h.output, h.size, h.block⟩
theorem grown_drewN {w w' : World} {row : Option Nat} (h : w.grownBy w' row) (n : Nat) : w.grownBy (w'.drewN n) row := ⟨h.os, h.tape, h.output, h.size, h.block⟩
theorem grown_trans {a b c : World} {row : Option Nat} (h : a.grownBy b row) (k : b.grownBy c row) : a.grownBy c row :=
  ⟨k.os.trans h.os, k.tape.trans h.tape, k.output.trans h.output, Nat.le_trans h.size k.size, fun i hi hr => (k.block i (Nat.lt_of_lt_of_le hi h.size) hr).trans (h.block i hi hr)⟩
theorem grown_some {a b : World} {row : Option Nat} (h : a.grownBy b none) : a.grownBy b row := ⟨h.os, h.tape, h.output, h.size, fun i hi _ => h.block i hi (by simp)⟩
theorem grown_set (w : World) (p : Addr) (v : Value) : w.grownBy (w.setCell p v) (some p.block) :=
  ⟨rfl, rfl, rfl, by simp [World.setCell], fun k _ hk => Below.heap_setCell _ _ _ _ (by simpa using hk)⟩
/-- A row that is new may have been written besides. -/
theorem grown_new {a b c : World} {row : Option Nat} {g : Nat} (h : a.grownBy b row) (k : b.grownBy c (some g)) (hg : a.heap.size ≤ g) : a.grownBy c row :=
  ⟨k.os.trans h.os, k.tape.trans h.tape, k.output.trans h.output, Nat.le_trans h.size k.size, fun i hi hr => (k.block i (Nat.lt_of_lt_of_le hi h.size) (by simp; omega)).trans (h.block i hi hr)⟩
theorem grown_below {B : Nat} {a b : World} {g : Nat} (h : a.grownBy b (some g)) (hg : B ≤ g) (hB : B ≤ a.heap.size) : Below B a b :=
  ⟨h.os, h.tape, h.output, h.size, fun k hk => h.block k (by omega) (by simp; omega)⟩
theorem Rd.kept {w w' : World} {b : Nat} {s : ByteArray} {i d : Nat} (h : Rd w b s i d) (hg : w.grownBy w' none) : Rd w' b s i d := (hg.block b h.lt (by simp)).trans h
theorem Rd.kept' {w w' : World} {b g : Nat} {s : ByteArray} {i d : Nat} (h : Rd w b s i d) (hg : w.grownBy w' (some g)) (hne : b ≠ g) : Rd w' b s i d := (hg.block b h.lt (by simpa using hne)).trans h

theorem ret_int {k : IntKind} {a b : Int} (h : a = b) : Ending.returned (.int k a) = .returned (.int k b) := by rw [h]
theorem ret_bool {a b : Bool} (h : a = b) : Ending.returned (.bool a) = .returned (.bool b) := by rw [h]

end Go.Proofs.YtepldeogcoigkaaDoor
