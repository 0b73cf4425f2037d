/- How memory grows, and numbers that lie in a row: the words of all contracts. -/
/- Rows that a call has made, no two in one block: how they grow, are written into, and stay. -/
/- Rows of rows of numbers in memory; and among the arguments. -/
/- Rows that are there, as values and as what they hold. -/
/- Transducers: which may be, what they say to a word. Without the program. -/
/- A truth that is told. -/
/- What calls answer, in a word. -/
/- Transducers in memory; and among the arguments. -/
/- An append under a name; numbers in a row. (Parted from YConcat.) -/
/- A word behind a row of one's own; what lies there. (Parted from SkCat.) -/
/- What a step reads of a transducer; a word that is written piece by piece. -/
/- Rows of words that are put together. -/
/- Rows of one's own, and words that lie elsewhere: they stay while the rows grow and are written into. -/
import Derived.Test.YtodcmlcpicabaaaRows
import Derived.WalkKit
import Derived.WalkSpells
import Derived.WalkLawsBesides
import Derived.BigQuiet
import Derived.Deep.QuietTactic
import Derived.Deep.AppendLies
import Derived.Lib.SmallJoins
import Derived.ProofKit
import Derived.OpenShut
import Derived.ShutString
import Derived.ChangeOld
import Derived.Below
import Derived.Deep.Matrix
import Derived.Deep.Slices
import Derived.Lib.AppendZeros
import Derived.Laws.OwnMore
import Derived.LoopN
namespace Go.Proofs.Ytodcmlcpicabaaa
open Go.RowKit
set_option linter.unusedVariables false

theorem grown_refl (w : World) (row : Option Nat) : w.grownBy w row := ⟨rfl, rfl, rfl, Nat.le_refl _, fun _ _ _ => rfl⟩
theorem grown_drew {w w' : World} {row : Option Nat} (h : w.grownBy w' row) : w.grownBy w'.drew row := ⟨h.os, h.tape, h.output, h.size, h.block⟩
theorem grown_drewN {w w' : World} {row : Option Nat} (h : w.grownBy w' row) (n : Nat) : w.grownBy (w'.drewN n) row := ⟨h.os, h.tape, h.output, h.size, h.block⟩
theorem grown_trans {a b c : World} {row : Option Nat} (h : a.grownBy b row) (k : b.grownBy c row) : a.grownBy c row :=
  ⟨k.os.trans h.os, k.tape.trans h.tape, k.output.trans h.output, Nat.le_trans h.size k.size, fun i hi hr => (k.block i (Nat.lt_of_lt_of_le hi h.size) hr).trans (h.block i hi hr)⟩
theorem grown_some {a b : World} {row : Option Nat} (h : a.grownBy b none) : a.grownBy b row := ⟨h.os, h.tape, h.output, h.size, fun i hi _ => h.block i hi (by simp)⟩
theorem grown_set (w : World) (p : Addr) (v : Value) : w.grownBy (w.setCell p v) (some p.block) :=
  ⟨rfl, rfl, rfl, by simp [World.setCell], fun k _ hk => Below.heap_setCell _ _ _ _ (by simpa using hk)⟩
/-- A row that is new may have been written besides. -/
theorem grown_new {a b c : World} {row : Option Nat} {g : Nat} (h : a.grownBy b row) (k : b.grownBy c (some g)) (hg : a.heap.size ≤ g) : a.grownBy c row :=
  ⟨k.os.trans h.os, k.tape.trans h.tape, k.output.trans h.output, Nat.le_trans h.size k.size, fun i hi hr => (k.block i (Nat.lt_of_lt_of_le hi h.size) (by simp; omega)).trans (h.block i hi hr)⟩
theorem grown_below {B : Nat} {a b : World} {g : Nat} (h : a.grownBy b (some g)) (hg : B ≤ g) (hB : B ≤ a.heap.size) : Below B a b :=
  ⟨h.os, h.tape, h.output, h.size, fun k hk => h.block k (by omega) (by simp; omega)⟩
theorem grown_of_below {w w' : World} (h : Below w.heap.size w w') : w.grownBy w' none := ⟨h.os, h.tape, h.output, h.size, fun k hk _ => h.block k hk⟩
theorem below_of_grown {w w' : World} (h : w.grownBy w' none) : Below w.heap.size w w' := ⟨h.os, h.tape, h.output, h.size, fun k hk => h.block k hk (by simp)⟩

theorem grown_alloc (w : World) (o : Obj) : w.grownBy (w.alloc o) none := grown_of_below ((Below.refl _ _).alloc (Nat.le_refl _) o)

theorem ret_int {k : IntKind} {a b : Int} (h : a = b) : Ending.returned (.int k a) = .returned (.int k b) := by rw [h]
theorem ret_bool {a b : Bool} (h : a = b) : Ending.returned (.bool a) = .returned (.bool b) := by rw [h]

/-- The numbers zs lie at the address a (of an empty list nothing is said). -/
def Ints (w : World) (a : Option Addr) (zs : List Int) : Prop :=
  zs = [] ∨ ∃ b off, a = some ⟨b, off, none⟩ ∧ ∀ i, i < zs.length → w.cell? ⟨b, off + i, none⟩ = some (.int .i64 (zs.getD i 0))
theorem Ints.grown {w w' : World} {a : Option Addr} {zs : List Int} (h : Ints w a zs) (hg : w.grownBy w' none) : Ints w' a zs := by
  rcases h with h | ⟨b, off, ha, hc⟩
  · exact .inl h
  · exact .inr ⟨b, off, ha, fun i hi => hg.cell (hc i hi) (by simp)⟩
theorem Ints.at {w : World} {a : Option Addr} {zs : List Int} (h : Ints w a zs) {k : Nat} (hk : k < zs.length) :
    ∃ b off, a = some ⟨b, off, none⟩ ∧ ∀ i, i < zs.length → w.cell? ⟨b, off + i, none⟩ = some (.int .i64 (zs.getD i 0)) := by
  rcases h with rfl | h
  · simp at hk
  · exact h

theorem getD_lt {zs : List Int} {k : Nat} (h : k < zs.length) : zs.getD k 0 = zs[k] := by simp [List.getD, h]

end Go.Proofs.Ytodcmlcpicabaaa

namespace Go.Proofs.Ytodcmlcpicabaaa
open Go.RowKit
set_option linter.unusedVariables false

theorem ownsRow_base {B B' n size : Nat} {w : World} {e : TypeId} {v : Value} {xs : List Value} (h : w.ownsRow B e size v n xs) (hB : B' ≤ B) : w.ownsRow B' e size v n xs := by
  obtain ⟨h1, h2⟩ := h
  refine ⟨h1, ?_⟩
  rcases h2 with h2 | ⟨g, cap, cur, h3, h4, h5⟩
  · exact .inl h2
  · exact .inr ⟨g, cap, cur, h3, Nat.le_trans hB h4, h5⟩
/-- An element's type, a slice, what lies in it. -/
abbrev Item := TypeId × Value × List Value
def OwnsI (B : Nat) (w : World) (it : Item) : Prop := w.ownsRow B it.1 1 it.2.1 it.2.2.length it.2.2 ∧ ∃ a c, it.2.1 = .slice a it.2.2.length c
def Apart (u v : Value) : Prop := u.ownBlock = none ∨ v.ownBlock = none ∨ u.ownBlock ≠ v.ownBlock
theorem Apart.symm {u v : Value} (h : Apart u v) : Apart v u := by
  rcases h with h | h | h
  · exact .inr (.inl h)
  · exact .inl h
  · exact .inr (.inr (Ne.symm h))
/-- All of these are one's own, from block B on, no two in one block. -/
def Owns (B : Nat) (w : World) (its : List Item) : Prop := (∀ it, it ∈ its → OwnsI B w it) ∧ its.Pairwise (fun p q => Apart p.2.1 q.2.1)

section
variable {B : Nat} {w w' : World} {its r : List Item} {e : TypeId} {v : Value} {xs : List Value}

theorem Owns.perm {its' : List Item} (h : Owns B w its) (p : its.Perm its') : Owns B w its' :=
  ⟨fun it hm => h.1 it (p.mem_iff.2 hm), (p.pairwise_iff (fun {a b} (hab : Apart a.2.1 b.2.1) => hab.symm)).1 h.2⟩
theorem Owns.no (B : Nat) (w : World) : Owns B w [] := ⟨fun _ h => by simp at h, List.Pairwise.nil⟩
theorem Owns.empty (h : Owns B w r) (e : TypeId) : Owns B w ((e, .slice none 0 0, []) :: r) := by
  refine ⟨fun it hm => ?_, List.Pairwise.cons (fun q _ => .inl rfl) h.2⟩
  rcases List.mem_cons.1 hm with rfl | hm
  · exact ⟨World.ownsRow_nil w B e 1, _, _, rfl⟩
  · exact h.1 it hm
theorem Owns.kept (h : Owns B w its) (hg : w.grownBy w' none) : Owns B w' its :=
  ⟨fun it hm => ⟨(h.1 it hm).1.kept hg (by cases it.2.1.ownBlock <;> simp), (h.1 it hm).2⟩, h.2⟩
/-- Another block has turned. -/
theorem Owns.far {b : Nat} (h : Owns B w its) (hg : w.grownBy w' (some b)) (hb : ∀ it, it ∈ its → it.2.1.ownBlock ≠ some b) : Owns B w' its :=
  ⟨fun it hm => ⟨(h.1 it hm).1.kept hg (.inr (hb it hm)), (h.1 it hm).2⟩, h.2⟩
theorem Owns.below {b : Nat} (h : Owns B w its) (hg : w.grownBy w' (some b)) (hb : b < B) : Owns B w' its :=
  h.far hg (fun it hm hc => by have := ((h.1 it hm).1.lt b hc).1; omega)
/-- A block that is no row of cells of that kind. -/
theorem Owns.other {b : Nat} {o : Obj} (h : Owns B w its) (ho : w.heap[b]? = some o) (hne : ∀ c t f, o ≠ .cells c t f) : ∀ it, it ∈ its → it.2.1.ownBlock ≠ some b := by
  intro it hm hc
  obtain ⟨⟨_, h2⟩, _⟩ := h.1 it hm
  rcases h2 with ⟨e, _⟩ | ⟨g, cap, cur, e, _, hh, _⟩
  · rw [e] at hc; cases hc
  · rw [e] at hc
    have : g = b := by simpa [Value.ownBlock] using hc
    subst this
    rw [hh] at ho
    exact hne _ _ _ (Option.some.inj ho).symm
theorem Owns.tail (h : Owns B w ((e, v, xs) :: r)) : Owns B w r := ⟨fun it hm => h.1 it (List.mem_cons_of_mem _ hm), (List.pairwise_cons.1 h.2).2⟩
theorem Owns.head (h : Owns B w ((e, v, xs) :: r)) : OwnsI B w (e, v, xs) := h.1 _ (by simp)
theorem Owns.row (h : Owns B w ((e, v, xs) :: r)) : w.ownsRow B e 1 v xs.length xs := h.head.1
/-- What was old stays, where the first has grown. -/
theorem Owns.frame {w0 : World} (h : Owns B w ((e, v, xs) :: r)) (hB : w0.heap.size ≤ B) (h1 : w0.grownBy w none) (h2 : w.grownBy w' v.ownBlock) : w0.grownBy w' none :=
  grown_of_below ((below_of_grown h1).grown h2 h1.size (fun k hk => Nat.le_trans hB (h.row.lt k hk).1))
theorem Owns.old {b : Nat} {o : Option Obj} (h : Owns B w ((e, v, xs) :: r)) (hb : b < B) (hlt : b < w.heap.size) (h2 : w.grownBy w' v.ownBlock) (ho : w.heap[b]? = o) : w'.heap[b]? = o :=
  (h2.block b hlt (fun hc => by have := (h.row.lt b hc.symm).1; omega)).trans ho
/-- The first has grown by an append. -/
theorem Owns.append {g n cap H : Nat} {news : List Value} (h : Owns B w ((e, v, xs) :: r)) (ho : w'.ownsRow B e 1 (.slice (some ⟨g, 0, none⟩) n cap) n (xs ++ news)) (hn : n = xs.length + news.length) (hg : w.grownBy w' v.ownBlock)
    (hat : v.ownBlock = some g ∨ g = H) (hH : w.heap.size = H) : Owns B w' ((e, .slice (some ⟨g, 0, none⟩) n cap, xs ++ news) :: r) := by
  have hn' : (xs ++ news).length = n := by simp [hn]
  obtain ⟨hp, hr⟩ := List.pairwise_cons.1 h.2
  refine ⟨fun it hm => ?_, List.Pairwise.cons (fun q hq => ?_) hr⟩
  · rcases List.mem_cons.1 hm with rfl | hm
    · exact ⟨by rw [hn']; exact ho, _, _, by rw [hn']⟩
    · have hi := h.1 it (List.mem_cons_of_mem _ hm)
      refine ⟨hi.1.kept hg ?_, hi.2⟩
      rcases hp it hm with h1 | h1 | h1
      · rw [h1]; cases it.2.1.ownBlock <;> simp
      · exact .inl h1
      · exact .inr (Ne.symm h1)
  · have hi := h.1 q (List.mem_cons_of_mem _ hq)
    rcases hat with h1 | h1
    · rcases hp q hq with h2 | h2 | h2
      · rw [h1] at h2; cases h2
      · exact .inr (.inl h2)
      · exact .inr (.inr (by rw [h1] at h2; exact h2))
    · cases hq2 : q.2.1.ownBlock with
      | none => exact .inr (.inl hq2)
      | some b =>
        refine .inr (.inr ?_)
        rw [hq2]
        have := (hi.1.lt b hq2).2
        simp [Value.ownBlock]
        omega
/-- A new row. -/
theorem Owns.made {arr : Array Value} {n : Nat} (h : Owns B w r) (hB : B ≤ w.heap.size) (e : TypeId) (hn : arr.size = n) (hm : n ≤ maxLen) : Owns B (w.alloc (.cells arr e)) ((e, .slice (some ⟨w.heap.size, 0, none⟩) n n, arr.toList) :: r) := by
  have hb := heap_alloc_new w (.cells arr e)
  have hlen : arr.toList.length = n := by simpa using hn
  refine ⟨fun it hmm => ?_, List.Pairwise.cons (fun q hq => ?_) h.2⟩
  · rcases List.mem_cons.1 hmm with rfl | hmm
    · refine ⟨⟨by simp, .inr ⟨w.heap.size, n, arr, by rw [hlen], hB, hb, by rw [hlen]; exact Nat.le_refl _, hm, by omega, ?_⟩⟩, _, _, by rw [hlen]⟩
      rw [hlen, Nat.mul_one, ← hlen, List.take_length]
    · exact (h.kept (grown_alloc _ _)).1 it hmm
  · cases hq2 : q.2.1.ownBlock with
    | none => exact .inr (.inl hq2)
    | some b =>
      refine .inr (.inr ?_)
      rw [hq2]
      have := ((h.1 q hq).1.lt b hq2).2
      simp [Value.ownBlock]
      omega
/-- Where the first lies. -/
theorem Owns.form (h : Owns B w ((e, v, xs) :: r)) (hx : 0 < xs.length) : ∃ g cap, v = .slice (some ⟨g, 0, none⟩) xs.length cap ∧ B ≤ g ∧ g < w.heap.size ∧ ∀ k, w.frozen? ⟨g, k, none⟩ = false := by
  obtain ⟨_, h2⟩ := h.row
  rcases h2 with ⟨_, e0⟩ | ⟨g, cap, cur, e1, hB, hh, _⟩
  · omega
  · exact ⟨g, cap, e1, hB, (Array.getElem?_eq_some_iff.1 hh).1, fun k => frozen_of_row w g k _ _ hh⟩
theorem addr_add (g i : Nat) : (⟨g, 0, none⟩ : Addr).add i = ⟨g, i, none⟩ := by
  by_cases hi0 : i = 0
  · subst hi0; simp [Addr.add]
  · simp [Addr.add, hi0]
theorem Owns.cell {g n cap i : Nat} {u : Value} (h : Owns B w ((e, .slice (some ⟨g, 0, none⟩) n cap, xs) :: r)) (hu : xs[i]? = some u) : w.cell? ⟨g, i, none⟩ = some u := by
  have := h.row.cells (g := g) rfl i u hu
  rwa [addr_add] at this
theorem Owns.fz {g n cap : Nat} (h : Owns B w ((e, .slice (some ⟨g, 0, none⟩) n cap, xs) :: r)) (k : Nat) : w.frozen? ⟨g, k, none⟩ = false := by
  obtain ⟨_, h2⟩ := h.row
  rcases h2 with ⟨e0, _⟩ | ⟨g', cap', cur, e1, hB, hh, _⟩
  · cases e0
  · cases e1; exact frozen_of_row w g k _ _ hh
theorem Owns.len {a : Option Addr} {n cap : Nat} (h : Owns B w ((e, .slice a n cap, xs) :: r)) : n = xs.length := by
  obtain ⟨_, a', c', e1⟩ := h.head
  simp at e1
  exact e1.2.1
/-- The first is written into. -/
theorem Owns.set {g n cap i : Nat} (h : Owns B w ((e, .slice (some ⟨g, 0, none⟩) n cap, xs) :: r)) (hi : i < n) (u : Value) : Owns B (w.setCell ⟨g, i, none⟩ u) ((e, .slice (some ⟨g, 0, none⟩) n cap, xs.set i u) :: r) := by
  have hn := h.len
  obtain ⟨hp, hr⟩ := List.pairwise_cons.1 h.2
  refine ⟨fun it hm => ?_, List.Pairwise.cons (fun q hq => hp q hq) hr⟩
  rcases List.mem_cons.1 hm with rfl | hm
  · obtain ⟨h1, h2⟩ := h.row
    rcases h2 with ⟨e0, _⟩ | ⟨g', cap', cur, e1, hB, hh, h5, h6, h7, h8⟩
    · cases e0
    · cases e1
      have hs := heap_setCell_same w g i cur e u hh
      refine ⟨⟨by simp, .inr ⟨g, cap, _, by simp, hB, hs, by simpa using h5, h6, by simpa using h7, ?_⟩⟩, some ⟨g, 0, none⟩, cap, by simp⟩
      simp only [List.length_set, Nat.mul_one] at h8 ⊢
      rw [Array.toList_setIfInBounds, List.take_set, h8]
  · have hi2 := h.1 it (List.mem_cons_of_mem _ hm)
    refine ⟨hi2.1.kept (grown_set w ⟨g, i, none⟩ u) ?_, hi2.2⟩
    rcases hp it hm with h1 | h1 | h1
    · cases h1
    · exact .inl h1
    · exact .inr (by simpa [Value.ownBlock] using Ne.symm h1)
end

/-- Numbers as a row's content. -/
abbrev vals (zs : List Int) : List Value := zs.map (Value.int .i64)
theorem vals_get {zs : List Int} {i : Nat} (h : i < zs.length) : (vals zs)[i]? = some (.int .i64 (zs.getD i 0)) := by simp [vals, List.getD, h]
theorem vals_set (zs : List Int) (i : Nat) (x : Int) : (vals zs).set i (.int .i64 x) = vals (zs.set i x) := by simp [vals, List.map_set]
theorem vals_snoc (zs : List Int) (x : Int) : vals zs ++ [.int .i64 x] = vals (zs ++ [x]) := by simp [vals]
theorem vals_len (zs : List Int) : (vals zs).length = zs.length := by simp [vals]
theorem Owns.ints {B : Nat} {w : World} {r : List Item} {a : Option Addr} {n c : Nat} {zs : List Int} (h : Owns B w ((3, .slice a n c, vals zs) :: r)) : n = zs.length ∧ Ints w a zs := by
  have hn := h.len
  rw [vals_len] at hn
  refine ⟨hn, ?_⟩
  by_cases h0 : zs.length = 0
  · left; exact List.length_eq_zero_iff.1 h0
  · right
    obtain ⟨g, cap, e, _⟩ := h.form (by rw [vals_len]; omega)
    cases e
    exact ⟨g, 0, rfl, fun i hi => by rw [Nat.zero_add]; exact h.cell (vals_get hi)⟩

end Go.Proofs.Ytodcmlcpicabaaa

namespace Go.Proofs.Ytodcmlcpicabaaa
open Go.ChangeShapes Go.WideShapes Go.ChangeAt Go.RowKit Go.Joins
set_option linter.unusedVariables false

/-- Rows of numbers lie at an address. -/
def RowsAt (w : World) (a : Option Addr) (R : List (List Int)) : Prop :=
  R = [] ∨ ∃ b off, a = some ⟨b, off, none⟩ ∧ ∀ i, i < R.length → ∃ x c, w.cell? ⟨b, off + i, none⟩ = some (.slice x (R.getD i []).length c) ∧ Ints w x (R.getD i []) ∧ (R.getD i []).length ≤ maxLen

theorem RowsAt.grown {w w' : World} {a : Option Addr} {R : List (List Int)} (h : RowsAt w a R) (hg : w.grownBy w' none) : RowsAt w' a R := by
  rcases h with h | ⟨b, off, ha, hc⟩
  · exact .inl h
  · refine .inr ⟨b, off, ha, fun i hi => ?_⟩
    obtain ⟨x, c, h1, h2, h3⟩ := hc i hi
    exact ⟨x, c, hg.cell h1 (by simp), h2.grown hg, h3⟩
theorem RowsAt.at {w : World} {a : Option Addr} {R : List (List Int)} (h : RowsAt w a R) {k : Nat} (hk : k < R.length) :
    ∃ b off, a = some ⟨b, off, none⟩ ∧ ∀ i, i < R.length → ∃ x c, w.cell? ⟨b, off + i, none⟩ = some (.slice x (R.getD i []).length c) ∧ Ints w x (R.getD i []) ∧ (R.getD i []).length ≤ maxLen := by
  rcases h with rfl | h
  · simp at hk
  · exact h

theorem Try.cells3 : Try.prog.cellsOf 3 = 1 := by kernel_rfl
theorem Try.cells22 : Try.prog.cellsOf 22 = 1 := by kernel_rfl
theorem Try.laidOut : laidOutB Try.prog = true := by kernel_rfl

theorem add_off (b off i : Nat) : (⟨b, off, none⟩ : Addr).add i = ⟨b, off + i, none⟩ := by
  by_cases hi0 : i = 0
  · subst hi0; simp [Addr.add]
  · simp [Addr.add, hi0]

theorem ints_of_trod {H : Type} {enc : TypeId × Value → H} {W : World} {fuel : Nat} {cs : List Value} {x : DataW H × List MemPlace} (h : DataW.trod enc Try.prog W 0 (fun _ => true) true fuel 22 cs = some x) :
    ∃ a c zs, cs = [.slice a (List.length zs) c] ∧ Ints W a zs ∧ zs.length ≤ maxLen := by
  rcases open_ints Try.underlying22 Try.underlying3 Try.cells3 h with ⟨hcs, _⟩ | ⟨x, len, cap, zs, hcs, _, hl, hm, hz, _, hcell, hwz⟩
  · exact ⟨none, 0, [], hcs, .inl rfl, Nat.zero_le _⟩
  · simp only [if_true] at hz
    have hlen : (zs.take len).length = len := by rw [List.length_take]; omega
    refine ⟨some x, cap, zs.take len, by rw [hlen]; exact hcs, ?_, by rw [hlen]; omega⟩
    by_cases h0 : len = 0
    · left; rw [h0]; rfl
    · right
      obtain ⟨b, off, spot⟩ := x
      have hc := hcell 0 (by omega)
      have hspot : spot = none := by simpa [Addr.add] using World.cell?_spot hc
      subst hspot
      refine ⟨b, off, rfl, fun i hi => ?_⟩
      rw [hlen] at hi
      have := hcell i (by omega)
      rw [add_off] at this
      rw [this]
      simp [List.getD, hi]

set_option maxRecDepth 100000 in
theorem slice_of_trod {H : Type} {enc : TypeId × Value → H} {W : World} {base : Nat} {v : Value} {d : DataW H} {p : List MemPlace} (hv : Value.okWide Try.prog W .any base 22 v) (h : DataW.Trod enc Try.prog W 0 (fun _ => true) true 22 v d p) :
    ∃ a c zs, v = .slice a (List.length zs) c ∧ Ints W a zs ∧ zs.length ≤ maxLen := by
  obtain ⟨a0, len, cap, rfl⟩ := okWide_slice Try.underlying22 hv
  obtain ⟨fuel, hf⟩ := h
  obtain ⟨a, c, zs, hcs, hi, hm⟩ := ints_of_trod hf
  simp only [Value.cells, List.cons.injEq, and_true] at hcs
  exact ⟨a, c, zs, by simpa using hcs, hi, hm⟩

set_option maxRecDepth 100000 in
theorem rows_of_trod {H : Type} {enc : TypeId × Value → H} {W : World} {fuel : Nat} {cs : List Value} {x : DataW H × List MemPlace} (h : DataW.trod enc Try.prog W 0 (fun _ => true) true fuel 23 cs = some x) :
    ∃ a c R, cs = [.slice a (List.length R) c] ∧ RowsAt W a R ∧ R.length ≤ maxLen := by
  rcases Deep.open_int_rows Try.underlying23 Try.underlying22 Try.underlying3 Try.cells22 Try.cells3 h with ⟨hcs, _⟩ | ⟨x, len, cap, A, L, C, Z, hcs, _, hl, hm, _, hr⟩
  · exact ⟨none, 0, [], hcs, .inl rfl, Nat.zero_le _⟩
  · have hlen : ((List.range len).map fun r => (Z r).take (L r)).length = len := by simp
    refine ⟨some x, cap, (List.range len).map fun r => (Z r).take (L r), by rw [hlen]; exact hcs, ?_, by rw [hlen]; omega⟩
    by_cases h0 : len = 0
    · left; rw [h0]; rfl
    · right
      obtain ⟨b, off, spot⟩ := x
      obtain ⟨hc, _⟩ := hr 0 (by omega)
      have hspot : spot = none := by simpa [Addr.add] using World.cell?_spot hc
      subst hspot
      refine ⟨b, off, rfl, fun i hi => ?_⟩
      rw [hlen] at hi
      obtain ⟨k1, k2, k3, k4, _, k6, k7⟩ := hr i (by omega)
      have hg : ((List.range len).map fun r => (Z r).take (L r)).getD i [] = (Z i).take (L i) := by simp [List.getD, hi]
      have hlz : ((Z i).take (L i)).length = L i := by rw [List.length_take]; omega
      rw [add_off] at k1
      rw [hg, hlz]
      refine ⟨A i, C i, k1, ?_, by omega⟩
      by_cases hz : L i = 0
      · left; rw [hz]; rfl
      · right
        cases hA : A i with
        | none => have := k6 hA; omega
        | some y =>
          obtain ⟨k8, k9⟩ := k7 y hA
          obtain ⟨b', off', spot'⟩ := y
          have hc' := k9 0 (by omega)
          have hspot' : spot' = none := by simpa [Addr.add] using World.cell?_spot hc'
          subst hspot'
          refine ⟨b', off', rfl, fun j hj => ?_⟩
          rw [hlz] at hj
          have := k9 j (by omega)
          rw [add_off] at this
          rw [this]
          simp [List.getD, hj]

end Go.Proofs.Ytodcmlcpicabaaa

namespace Go.Proofs.Ytodcmlcpicabaaa
open Go.RowKit
set_option linter.unusedVariables false

/-- Rows that are there, as values and as what they hold. -/
abbrev rowItems (rs : List (Value × List Int)) : List Item := rs.map fun p => (3, p.1, vals p.2)
abbrev natInts (xs : List Nat) : List Int := xs.map fun (x : Nat) => (x : Int)
theorem natInts_get {xs : List Nat} {i : Nat} (h : i < xs.length) : (vals (natInts xs))[i]? = some (.int .i64 ((xs.getD i 0 : Nat) : Int)) := by simp [vals, List.getD, h]

theorem Try.info3i : (Try.prog.info? 3).map (fun i => (i.zero, i.size, i.bytes)) = some (some (.int .i64 0), 1, 8) := by kernel_rfl
theorem Try.infoS : (Try.prog.info? 22).map (fun i => (i.zero, i.size, i.bytes)) = some (some (.slice none 0 0), 1, 24) := by kernel_rfl
theorem cell_one_new (w : World) (u : Value) (t : TypeId) : ∀ j x, [u][j]? = some x → (w.alloc (.cells #[u] t)).cell? ((⟨w.heap.size, 0, none⟩ : Addr).add j) = some x := by
  intro j x hj
  have hb := heap_alloc_new w (.cells #[u] t)
  have h0 : j = 0 := by
    cases j with
    | zero => rfl
    | succ j => simp at hj
  subst h0
  rw [addr_add, cell_of_row _ _ _ _ _ (0, 0) hb]
  simpa using hj

end Go.Proofs.Ytodcmlcpicabaaa

namespace Go.Proofs.Ytodcmlcpicabaaa
set_option linter.unusedVariables false

structure TrI where
  I : Int
  O : Int
  S : Int
  F : List Int
  N : List (List Int)
  Y : List (List (List Int))
  E : List (List Int)

def ManyT (z : Int) : Prop := 1 ≤ z ∧ z ≤ 4
def SizeT (x : TrI) : Prop := 1 ≤ x.N.length ∧ x.N.length ≤ 6
def ShapeT (x : TrI) : Prop := x.Y.length = x.N.length ∧ x.E.length = x.N.length ∧ ∀ s, s < x.N.length → ((x.N.getD s []).length : Int) = x.I ∧ ((x.Y.getD s []).length : Int) = x.I
def StT (n : Nat) (z : Int) : Prop := 0 ≤ z ∧ z < (n : Int)
def RowsT (n : Nat) (N : List (List Int)) : Prop := ∀ s, s < N.length → ∀ l, l < (N.getD s []).length → StT n ((N.getD s []).getD l 0)
def WithT (x : TrI) : Prop := RowsT x.N.length x.N ∧ StT x.N.length x.S
/-- All that is said at once, as the program goes through it; and as the reference does. -/
def sayTo (x : TrI) (k : Nat) : List (List Int) := x.F :: (List.range k).flatMap fun s => x.Y.getD s [] ++ [x.E.getD s []]
def sayT (x : TrI) : List (List Int) := sayTo x x.Y.length
def sayR (x : TrI) : List (List Int) := x.F :: (x.E ++ x.Y.flatten)
def LetT (O : Int) (u : List Int) : Prop := ∀ j, j < u.length → 0 ≤ u.getD j 0 ∧ u.getD j 0 < O
def LittleT (x : TrI) : Prop := ∀ u, u ∈ sayT x → u.length ≤ 8
def LetsT (x : TrI) : Prop := ∀ u, u ∈ sayT x → LetT x.O u

theorem sayTo_succ (x : TrI) (k : Nat) : sayTo x (k + 1) = sayTo x k ++ (x.Y.getD k [] ++ [x.E.getD k []]) := by simp [sayTo, List.range_succ]
theorem sayR_mem {x : TrI} (h : ShapeT x) (u : List Int) : u ∈ sayR x ↔ u ∈ sayT x := by
  obtain ⟨h1, h2, _⟩ := h
  have hY : ∀ s, s < x.Y.length → x.Y.getD s [] ∈ x.Y := fun s hs => by
    rw [List.getD, List.getElem?_eq_getElem hs, Option.getD_some]; exact List.getElem_mem hs
  have hE : ∀ s, s < x.Y.length → x.E.getD s [] ∈ x.E := fun s hs => by
    have hs' : s < x.E.length := by omega
    rw [List.getD, List.getElem?_eq_getElem hs', Option.getD_some]; exact List.getElem_mem hs'
  unfold sayR sayT sayTo
  constructor
  · intro hm
    rcases List.mem_cons.1 hm with rfl | hm
    · exact List.mem_cons.2 (.inl rfl)
    · refine List.mem_cons.2 (.inr (List.mem_flatMap.2 ?_))
      rcases List.mem_append.1 hm with hm | hm
      · obtain ⟨s, hs, rfl⟩ := List.getElem_of_mem hm
        refine ⟨s, by simp; omega, List.mem_append.2 (.inr ?_)⟩
        simp [List.getD, hs]
      · obtain ⟨r, hr, hu⟩ := List.mem_flatten.1 hm
        obtain ⟨s, hs, rfl⟩ := List.getElem_of_mem hr
        refine ⟨s, by simpa using hs, List.mem_append.2 (.inl ?_)⟩
        simpa [List.getD, hs] using hu
  · intro hm
    rcases List.mem_cons.1 hm with rfl | hm
    · exact List.mem_cons.2 (.inl rfl)
    · obtain ⟨s, hs, hu⟩ := List.mem_flatMap.1 hm
      have hs' : s < x.Y.length := by simpa using hs
      refine List.mem_cons.2 (.inr (List.mem_append.2 ?_))
      rcases List.mem_append.1 hu with hu | hu
      · exact .inr (List.mem_flatten.2 ⟨_, hY s hs', hu⟩)
      · refine .inl ?_
        rw [List.mem_singleton.1 hu]
        exact hE s hs'

/-- What Check answers. -/
structure ChkIs (x : TrI) (z : Int) : Prop where
  many : ¬ (ManyT x.I ∧ ManyT x.O) → z = 2
  size : ManyT x.I ∧ ManyT x.O → ¬ SizeT x → z = 1
  shape : ManyT x.I ∧ ManyT x.O → SizeT x → ¬ ShapeT x → z = 3
  within : ManyT x.I ∧ ManyT x.O → SizeT x → ShapeT x → ¬ WithT x → z = 2
  little : ManyT x.I ∧ ManyT x.O → SizeT x → ShapeT x → WithT x → ¬ LittleT x → z = 1
  lets : ManyT x.I ∧ ManyT x.O → SizeT x → ShapeT x → WithT x → LittleT x → ¬ LetsT x → z = 2
  good : ManyT x.I ∧ ManyT x.O → SizeT x → ShapeT x → WithT x → LittleT x → LetsT x → z = 0
structure GoodT (x : TrI) : Prop where
  many : ManyT x.I ∧ ManyT x.O
  size : SizeT x
  shape : ShapeT x
  within : WithT x
  little : LittleT x
  lets : LetsT x
theorem ChkIs.all {x : TrI} {z y : Int} (h : ChkIs x z) (k : ChkIs x y) : z = y ∧ (z = 0 ↔ GoodT x) := by
  by_cases h1 : ManyT x.I ∧ ManyT x.O
  · by_cases h2 : SizeT x
    · by_cases h3 : ShapeT x
      · by_cases h4 : WithT x
        · by_cases h5 : LittleT x
          · by_cases h6 : LetsT x
            · have := h.good h1 h2 h3 h4 h5 h6
              have := k.good h1 h2 h3 h4 h5 h6
              exact ⟨by omega, fun _ => ⟨h1, h2, h3, h4, h5, h6⟩, fun _ => by omega⟩
            · have := h.lets h1 h2 h3 h4 h5 h6
              have := k.lets h1 h2 h3 h4 h5 h6
              exact ⟨by omega, fun e => by omega, fun g => absurd g.lets h6⟩
          · have := h.little h1 h2 h3 h4 h5
            have := k.little h1 h2 h3 h4 h5
            exact ⟨by omega, fun e => by omega, fun g => absurd g.little h5⟩
        · have := h.within h1 h2 h3 h4
          have := k.within h1 h2 h3 h4
          exact ⟨by omega, fun e => by omega, fun g => absurd g.within h4⟩
      · have := h.shape h1 h2 h3
        have := k.shape h1 h2 h3
        exact ⟨by omega, fun e => by omega, fun g => absurd g.shape h3⟩
    · have := h.size h1 h2
      have := k.size h1 h2
      exact ⟨by omega, fun e => by omega, fun g => absurd g.size h2⟩
  · have := h.many h1
    have := k.many h1
    exact ⟨by omega, fun e => by omega, fun g => absurd g.many h1⟩

/-! What is said to a word. -/

def nxT (x : TrI) (q l : Nat) : Nat := ((x.N.getD q []).getD l 0).toNat
def syT (x : TrI) (q l : Nat) : List Int := (x.Y.getD q []).getD l []
def goT (x : TrI) : Nat → List Nat → Nat
  | q, [] => q
  | q, l :: us => goT x (nxT x q l) us
def ruT (x : TrI) : Nat → List Nat → List Int
  | _, [] => []
  | q, l :: us => syT x q l ++ ruT x (nxT x q l) us
theorem goT_snoc (x : TrI) (q : Nat) (us : List Nat) (l : Nat) : goT x q (us ++ [l]) = nxT x (goT x q us) l := by
  induction us generalizing q with
  | nil => rfl
  | cons u us ih => exact ih _
theorem ruT_snoc (x : TrI) (q : Nat) (us : List Nat) (l : Nat) : ruT x q (us ++ [l]) = ruT x q us ++ syT x (goT x q us) l := by
  induction us generalizing q with
  | nil => simp [ruT, goT]
  | cons u us ih => simp only [List.cons_append, ruT, goT]; rw [ih, List.append_assoc]
def saysT (x : TrI) (us : List Nat) : List Int := x.F ++ ruT x x.S.toNat us ++ x.E.getD (goT x x.S.toNat us) []

/-- What a transducer needs to be read: its shape, where it leads, and that little is said at once. -/
structure ReadT (x : TrI) (I : Nat) (mb : Nat := 8) : Prop where
  n1 : 1 ≤ x.N.length
  hy : x.Y.length = x.N.length
  he : x.E.length = x.N.length
  rn : ∀ s, s < x.N.length → (x.N.getD s []).length = I
  ry : ∀ s, s < x.N.length → (x.Y.getD s []).length = I
  nx : ∀ s, s < x.N.length → ∀ l, l < I → StT x.N.length ((x.N.getD s []).getD l 0)
  st : StT x.N.length x.S
  f8 : x.F.length ≤ mb
  y8 : ∀ s, s < x.N.length → ∀ l, l < I → (syT x s l).length ≤ mb
  e8 : ∀ s, s < x.N.length → (x.E.getD s []).length ≤ mb
theorem ReadT.lt {x : TrI} {I mb : Nat} (h : ReadT x I mb) {q l : Nat} (hq : q < x.N.length) (hl : l < I) : nxT x q l < x.N.length ∧ ((nxT x q l : Nat) : Int) = (x.N.getD q []).getD l 0 := by
  have := h.nx q hq l hl
  unfold StT at this
  unfold nxT
  constructor <;> omega
theorem ReadT.go {x : TrI} {I mb : Nat} (h : ReadT x I mb) (us : List Nat) (hu : ∀ l ∈ us, l < I) {q : Nat} (hq : q < x.N.length) : goT x q us < x.N.length := by
  induction us generalizing q with
  | nil => exact hq
  | cons u us ih => exact ih (fun l hl => hu l (List.mem_cons.2 (.inr hl))) (h.lt hq (hu u (List.mem_cons.2 (.inl rfl)))).1
theorem ReadT.len {x : TrI} {I : Nat} (h : ReadT x I) (us : List Nat) (hu : ∀ l ∈ us, l < I) {q : Nat} (hq : q < x.N.length) : (ruT x q us).length ≤ 8 * us.length := by
  induction us generalizing q with
  | nil => simp [ruT]
  | cons u us ih =>
    have h1 := ih (fun l hl => hu l (List.mem_cons.2 (.inr hl))) (h.lt hq (hu u (List.mem_cons.2 (.inl rfl)))).1
    have h2 := h.y8 q hq u (hu u (List.mem_cons.2 (.inl rfl)))
    simp only [ruT, List.length_append, List.length_cons]
    omega
theorem GoodT.read {x : TrI} (h : GoodT x) : ReadT x x.I.toNat := by
  obtain ⟨⟨hi1, hi2⟩, ho⟩ := h.many
  obtain ⟨hn1, hn2⟩ := h.size
  obtain ⟨hy, he, hr⟩ := h.shape
  obtain ⟨hw, hs⟩ := h.within
  have hl := h.little
  have e1 : ∀ s, s < x.N.length → (x.N.getD s []).length = x.I.toNat := fun s h => by have := (hr s h).1; omega
  have e2 : ∀ s, s < x.N.length → (x.Y.getD s []).length = x.I.toNat := fun s h => by have := (hr s h).2; omega
  refine ⟨hn1, hy, he, e1, e2, fun s h l hl => hw s h l (by rw [e1 s h]; exact hl), hs, hl _ (List.mem_cons.2 (.inl rfl)), fun s h l hl' => ?_, fun s h => ?_⟩
  · refine hl _ (List.mem_cons.2 (.inr (List.mem_flatMap.2 ⟨s, by simp; omega, List.mem_append.2 (.inl ?_)⟩)))
    have hlt : l < (x.Y.getD s []).length := by rw [e2 s h]; exact hl'
    show (x.Y.getD s []).getD l [] ∈ x.Y.getD s []
    revert hlt
    generalize x.Y.getD s [] = r
    intro hlt
    rw [List.getD, List.getElem?_eq_getElem hlt, Option.getD_some]
    exact List.getElem_mem hlt
  · exact hl _ (List.mem_cons.2 (.inr (List.mem_flatMap.2 ⟨s, by simp; omega, List.mem_append.2 (.inr (List.mem_cons.2 (.inl rfl)))⟩)))

end Go.Proofs.Ytodcmlcpicabaaa

namespace Go.Proofs.Ytodcmlcpicabaaa
open Go.RowKit
set_option linter.unusedVariables false

/-- A truth is told, and nothing old has turned. -/
def TellsB (P : Prop) (w : World) (e : Ending) (w' : World) : Prop := ∃ b, e = .returned (.bool b) ∧ (b = true ↔ P) ∧ w.grownBy w' none
theorem tellsB {P : Prop} {w w' : World} {e : Ending} (b : Bool) (he : e = .returned (.bool b)) (hb : b = true ↔ P) (hg : w.grownBy w' none) : TellsB P w e w' := ⟨b, he, hb, hg⟩

end Go.Proofs.Ytodcmlcpicabaaa

namespace Go.Proofs.Ytodcmlcpicabaaa
set_option linter.unusedVariables false

/-- A call that answers a known value and writes nothing that was there. -/
def Says (v : Value) (w : World) (e : Ending) (w' : World) : Prop := e = .returned v ∧ w.grownBy w' none

end Go.Proofs.Ytodcmlcpicabaaa

namespace Go.Proofs.Ytodcmlcpicabaaa
open Go.ChangeShapes Go.WideShapes Go.ChangeAt Go.RowKit Go.Joins
set_option linter.unusedVariables false

/-- Rows of words lie at an address. -/
def TabAt (w : World) (a : Option Addr) (Y : List (List (List Int))) : Prop :=
  Y = [] ∨ ∃ b off, a = some ⟨b, off, none⟩ ∧ ∀ i, i < Y.length → ∃ x c, w.cell? ⟨b, off + i, none⟩ = some (.slice x (Y.getD i []).length c) ∧ RowsAt w x (Y.getD i []) ∧ (Y.getD i []).length ≤ maxLen
theorem TabAt.grown {w w' : World} {a : Option Addr} {Y : List (List (List Int))} (h : TabAt w a Y) (hg : w.grownBy w' none) : TabAt w' a Y := by
  rcases h with h | ⟨b, off, ha, hc⟩
  · exact .inl h
  · refine .inr ⟨b, off, ha, fun i hi => ?_⟩
    obtain ⟨x, c, h1, h2, h3⟩ := hc i hi
    exact ⟨x, c, hg.cell h1 (by simp), h2.grown hg, h3⟩
theorem TabAt.at {w : World} {a : Option Addr} {Y : List (List (List Int))} (h : TabAt w a Y) {k : Nat} (hk : k < Y.length) :
    ∃ b off, a = some ⟨b, off, none⟩ ∧ ∀ i, i < Y.length → ∃ x c, w.cell? ⟨b, off + i, none⟩ = some (.slice x (Y.getD i []).length c) ∧ RowsAt w x (Y.getD i []) ∧ (Y.getD i []).length ≤ maxLen := by
  rcases h with rfl | h
  · simp at hk
  · exact h

structure TnAt (w : World) (x : TrI) (a3 a4 a5 a6 : Option Addr) : Prop where
  first : Ints w a3 x.F
  next : RowsAt w a4 x.N
  says : TabAt w a5 x.Y
  last : RowsAt w a6 x.E
  m3 : x.F.length ≤ maxLen
  m4 : x.N.length ≤ maxLen
  m5 : x.Y.length ≤ maxLen
  m6 : x.E.length ≤ maxLen
theorem TnAt.grown {w w' : World} {x : TrI} {a3 a4 a5 a6 : Option Addr} (h : TnAt w x a3 a4 a5 a6) (hg : w.grownBy w' none) : TnAt w' x a3 a4 a5 a6 := ⟨h.first.grown hg, h.next.grown hg, h.says.grown hg, h.last.grown hg, h.m3, h.m4, h.m5, h.m6⟩
abbrev tnV (I O S : Int) (a3 : Option Addr) (n3 c3 : Nat) (a4 : Option Addr) (n4 c4 : Nat) (a5 : Option Addr) (n5 c5 : Nat) (a6 : Option Addr) (n6 c6 : Nat) : Value := .agg #[.int .i64 I, .int .i64 O, .int .i64 S, .slice a3 n3 c3, .slice a4 n4 c4, .slice a5 n5 c5, .slice a6 n6 c6]
/-- A transducer's box. -/
structure Box7 (W : World) (b : Nat) (I O S : Int) (a3 : Option Addr) (n3 c3 : Nat) (a4 : Option Addr) (n4 c4 : Nat) (a5 : Option Addr) (n5 c5 : Nat) (a6 : Option Addr) (n6 c6 : Nat) : Prop where
  b0 : W.cell? ⟨b, 0, none⟩ = some (.int .i64 I)
  b1 : W.cell? ⟨b, 1, none⟩ = some (.int .i64 O)
  b2 : W.cell? ⟨b, 2, none⟩ = some (.int .i64 S)
  b3 : W.cell? ⟨b, 3, none⟩ = some (.slice a3 n3 c3)
  b4 : W.cell? ⟨b, 4, none⟩ = some (.slice a4 n4 c4)
  b5 : W.cell? ⟨b, 5, none⟩ = some (.slice a5 n5 c5)
  b6 : W.cell? ⟨b, 6, none⟩ = some (.slice a6 n6 c6)
theorem Box7.grown {W W' : World} {b : Nat} {I O S : Int} {a3 : Option Addr} {n3 c3 : Nat} {a4 : Option Addr} {n4 c4 : Nat} {a5 : Option Addr} {n5 c5 : Nat} {a6 : Option Addr} {n6 c6 : Nat} (h : Box7 W b I O S a3 n3 c3 a4 n4 c4 a5 n5 c5 a6 n6 c6) (g : W.grownBy W' none) : Box7 W' b I O S a3 n3 c3 a4 n4 c4 a5 n5 c5 a6 n6 c6 :=
  ⟨g.cell h.b0 (by simp), g.cell h.b1 (by simp), g.cell h.b2 (by simp), g.cell h.b3 (by simp), g.cell h.b4 (by simp), g.cell h.b5 (by simp), g.cell h.b6 (by simp)⟩
abbrev tnO (I O S : Int) (a3 : Option Addr) (n3 c3 : Nat) (a4 : Option Addr) (n4 c4 : Nat) (a5 : Option Addr) (n5 c5 : Nat) (a6 : Option Addr) (n6 c6 : Nat) : Obj := .cells #[.int .i64 I, .int .i64 O, .int .i64 S, .slice a3 n3 c3, .slice a4 n4 c4, .slice a5 n5 c5, .slice a6 n6 c6] 26
theorem box7_new (w : World) (I O S : Int) (a3 : Option Addr) (n3 c3 : Nat) (a4 : Option Addr) (n4 c4 : Nat) (a5 : Option Addr) (n5 c5 : Nat) (a6 : Option Addr) (n6 c6 : Nat) : ∃ W, W = w.alloc (tnO I O S a3 n3 c3 a4 n4 c4 a5 n5 c5 a6 n6 c6) ∧ w.grownBy W none ∧ W.heap.size = w.heap.size + 1 ∧ Box7 W w.heap.size I O S a3 n3 c3 a4 n4 c4 a5 n5 c5 a6 n6 c6 := by
  refine ⟨_, rfl, grown_alloc _ _, by simp, ?_⟩
  have hb := heap_alloc_new w (tnO I O S a3 n3 c3 a4 n4 c4 a5 n5 c5 a6 n6 c6)
  have hc : ∀ k v, #[Value.int .i64 I, .int .i64 O, .int .i64 S, .slice a3 n3 c3, .slice a4 n4 c4, .slice a5 n5 c5, .slice a6 n6 c6][k]? = some v → (w.alloc (tnO I O S a3 n3 c3 a4 n4 c4 a5 n5 c5 a6 n6 c6)).cell? ⟨w.heap.size, k, none⟩ = some v := fun k v hv => by rw [cell_of_row _ _ k _ _ (0, 0) hb]; exact hv
  exact ⟨hc 0 _ rfl, hc 1 _ rfl, hc 2 _ rfl, hc 3 _ rfl, hc 4 _ rfl, hc 5 _ rfl, hc 6 _ rfl⟩

theorem Try.cells23 : Try.prog.cellsOf 23 = 1 := by kernel_rfl
theorem Try.cells24 : Try.prog.cellsOf 24 = 1 := by kernel_rfl
theorem Try.cells26 : Try.prog.cellsOf 26 = 7 := by kernel_rfl
theorem choose_ltN {α : Type} [Inhabited α] {P : Nat → α → Prop} {m : Nat} (h : ∀ i, i < m → ∃ q, P i q) : ∃ f : Nat → α, ∀ i, i < m → P i (f i) := by
  classical
  exact ⟨fun i => if hi : i < m then (h i hi).choose else default, fun i hi => by simp only [hi, dif_pos]; exact (h i hi).choose_spec⟩

set_option maxRecDepth 100000 in
theorem tab_of_trod {H : Type} {enc : TypeId × Value → H} {W : World} {fuel : Nat} {cs : List Value} {x : DataW H × List MemPlace} (h : DataW.trod enc Try.prog W 0 (fun _ => true) true fuel 24 cs = some x) :
    ∃ a c T, cs = [.slice a (List.length T) c] ∧ TabAt W a T ∧ T.length ≤ maxLen := by
  rcases Deep.open_slice Try.underlying24 h with ⟨hcs, _⟩ | ⟨y, len, cap, m, n, D, Pl, hcs, _, hl, hm, hmm, _, hx⟩
  · exact ⟨none, 0, [], hcs, .inl rfl, Nat.zero_le _⟩
  · simp only [if_true] at hmm
    have each : ∀ i, i < m → ∃ q : Option Addr × Nat × List (List Int), W.cell? (y.add i) = some (.slice q.1 q.2.2.length q.2.1) ∧ RowsAt W q.1 q.2.2 ∧ q.2.2.length ≤ maxLen := by
      intro i hi
      obtain ⟨cs', h1, h2⟩ := hx i hi
      rw [Try.cells23] at h1
      obtain ⟨_, hlen, hcell⟩ := World.cells?_some h1
      match cs', hlen with
      | [v0], _ =>
        have e0 := hcell 0 (by omega)
        rw [Deep.add_add] at e0
        obtain ⟨a, c, R, z0, hr, hmR⟩ := rows_of_trod h2
        simp only [List.cons.injEq, and_true] at z0
        subst z0
        exact ⟨(a, c, R), by simpa using e0, hr, hmR⟩
    obtain ⟨q, hq⟩ := choose_ltN each
    have hlen : ((List.range len).map fun i => (q i).2.2).length = len := by simp
    refine ⟨some y, cap, (List.range len).map fun i => (q i).2.2, by rw [hlen]; exact hcs, ?_, by rw [hlen]; omega⟩
    by_cases h0 : len = 0
    · left; rw [h0]; rfl
    · right
      obtain ⟨b, off, spot⟩ := y
      have hc := (hq 0 (by omega)).1
      have hspot : spot = none := by simpa [Addr.add] using World.cell?_spot hc
      subst hspot
      refine ⟨b, off, rfl, fun i hi => ?_⟩
      rw [hlen] at hi
      obtain ⟨h1, h2, h3⟩ := hq i (by omega)
      rw [add_off] at h1
      have hg : ((List.range len).map fun i => (q i).2.2).getD i [] = (q i).2.2 := by simp [List.getD, hi]
      rw [hg]
      exact ⟨_, _, h1, h2, h3⟩

theorem ints_cap {H : Type} {enc : TypeId × Value → H} {W : World} {fuel : Nat} {a : Option Addr} {n c : Nat} {x : DataW H × List MemPlace} (h : DataW.trod enc Try.prog W 0 (fun _ => true) true fuel 22 [.slice a n c] = some x) : n ≤ c := by
  rcases open_ints Try.underlying22 Try.underlying3 Try.cells3 h with ⟨hcs, _⟩ | ⟨x', len, cap, zs, hcs, _, hl, hm, hz, _⟩
  · simp only [List.cons.injEq, Value.slice.injEq, and_true] at hcs
    omega
  · simp only [List.cons.injEq, Value.slice.injEq, and_true] at hcs
    omega

set_option maxRecDepth 100000 in
theorem tn_of_trod {H : Type} {enc : TypeId × Value → H} {W : World} {base : Nat} {v : Value} {d : DataW H} {p : List MemPlace} (hv : Value.okWide Try.prog W .any base 26 v) (h : DataW.Trod enc Try.prog W 0 (fun _ => true) true 26 v d p) :
    ∃ (x : TrI) (a3 a4 a5 a6 : Option Addr) (c3 c4 c5 c6 : Nat), v = tnV x.I x.O x.S a3 x.F.length c3 a4 x.N.length c4 a5 x.Y.length c5 a6 x.E.length c6 ∧ TnAt W x a3 a4 a5 a6 ∧ (Lit.int .i64 x.I).wf = true ∧ (Lit.int .i64 x.O).wf = true ∧ (Lit.int .i64 x.S).wf = true ∧ x.F.length ≤ c3 := by
  obtain ⟨cs, rfl, hsz⟩ := okWide_struct Try.underlying26 hv
  obtain ⟨fuel, hf⟩ := h
  obtain ⟨xs, k, hk, hxy, _, hxl, hf⟩ := DataW.trod_struct Try.underlying26 hf
  rw [Try.cells26] at hsz
  obtain ⟨cs⟩ := cs
  simp only [List.size_toArray] at hsz
  match xs, hxl, cs, hsz with
  | [y0, y1, y2, y3, y4, y5, y6], _, [v0, v1, v2, v3, v4, v5, v6], _ =>
    have g0 := hf 0 _ rfl
    have g1 := hf 1 _ rfl
    have g2 := hf 2 _ rfl
    have g3 := hf 3 _ rfl
    have g4 := hf 4 _ rfl
    have g5 := hf 5 _ rfl
    have g6 := hf 6 _ rfl
    simp [Try.cells3, Try.cells22, Try.cells23, Try.cells24, Value.cells] at g0 g1 g2 g3 g4 g5 g6
    obtain ⟨n0, e0, _, w0⟩ := DataW.trod_int Try.underlying3 g0
    obtain ⟨n1, e1, _, w1⟩ := DataW.trod_int Try.underlying3 g1
    obtain ⟨n2, e2, _, w2⟩ := DataW.trod_int Try.underlying3 g2
    obtain ⟨a3, c3, F, e3, i3, m3⟩ := ints_of_trod g3
    obtain ⟨a4, c4, N, e4, i4, m4⟩ := rows_of_trod g4
    obtain ⟨a5, c5, Y, e5, i5, m5⟩ := tab_of_trod g5
    obtain ⟨a6, c6, E, e6, i6, m6⟩ := rows_of_trod g6
    simp only [List.cons.injEq, and_true] at e0 e1 e2 e3 e4 e5 e6
    subst e0 e1 e2 e3 e4 e5 e6
    exact ⟨⟨n0, n1, n2, F, N, Y, E⟩, a3, a4, a5, a6, c3, c4, c5, c6, rfl, ⟨i3, i4, i5, i6, m3, m4, m5, m6⟩, w0, w1, w2, ints_cap g3⟩

end Go.Proofs.Ytodcmlcpicabaaa

namespace Go.Proofs.Ytodcmlcpicabaaa
open Go.RowKit
set_option linter.unusedVariables false
set_option linter.unusedSimpArgs false

/-- An append, under a name that the walk does not open. -/
def AppY (ts : Array TypeId) (ty : TypeId) (args : Array Value) : Sem Value := Builtin.append_ ts ty args
theorem appY_fold (ts : Array TypeId) (ty : TypeId) (args : Array Value) : Builtin.append_ ts ty args = AppY ts ty args := rfl
theorem info_partsY {P : Program} {t : TypeId} {z : Option Value} {a b : Nat} (h : (P.info? t).map (fun i => (i.zero, i.size, i.bytes)) = some (z, a, b)) : ∃ i, P.info? t = some i ∧ i.zero = z ∧ i.size = a ∧ i.bytes = b := by
  cases hi : P.info? t with
  | none => rw [hi] at h; cases h
  | some i => rw [hi] at h; simp only [Option.map_some, Option.some.injEq, Prod.mk.injEq] at h; exact ⟨i, rfl, h.1, h.2.1, h.2.2⟩
theorem Try.infoI64Y : (Try.prog.info? 3).map (fun i => (i.zero, i.size, i.bytes)) = some (some (.int .i64 0), 1, 8) := by kernel_rfl
def numsI (zs : List Int) : List Value := zs.map fun x => Value.int .i64 x

end Go.Proofs.Ytodcmlcpicabaaa

namespace Go.Proofs.Ytodcmlcpicabaaa
open Go.RowKit
set_option linter.unusedVariables false
set_option linter.unusedSimpArgs false

theorem app_anyY {w : World} {B : Nat} {a0 a : Option Addr} {c0 c : Nat} {xs us : List Int} (ho : w.ownsRow B 3 1 (.slice a0 xs.length c0) xs.length (numsI xs)) (hB : B ≤ w.heap.size) (hu : Ints w a us) (hl : xs.length + us.length ≤ 1000) :
    ∃ a1 c1 w', (AppY #[22, 22] 22 #[.slice a0 xs.length c0, .slice a us.length c]).run Try.prog w = .ok (.slice a1 (xs.length + us.length) c1) w' ∧ w'.ownsRow B 3 1 (.slice a1 (xs ++ us).length c1) (xs ++ us).length (numsI (xs ++ us)) ∧ w.grownBy w' (Value.slice a0 xs.length c0).ownBlock := by
  obtain ⟨i0, hi0, hz0, hz1, hz2⟩ := info_partsY Try.infoI64Y
  by_cases he : us = []
  · subst he
    refine ⟨a0, c0, w, ?_, by simpa using ho, grown_refl _ _⟩
    have hc := ho.2
    rcases hc with ⟨h1, _⟩ | ⟨g', cap', cur, h1, _, _, h4, _⟩
    · simp only [Value.slice.injEq] at h1
      obtain ⟨rfl, h2, rfl⟩ := h1
      rw [h2]
      cases a with
      | none => simp [AppY, Builtin.append_, run_underlying Try.underlying22, sizeOf, typeInfo, zeroValue, hi0, hz0, Builtin.lenOf, run_firstCells_none, storeCells]
      | some b =>
        have hf := run_firstCells_some (P := Try.prog) w i0.size 0 b 0 c [] (by simp) (by simp)
        simp [AppY, Builtin.append_, run_underlying Try.underlying22, sizeOf, typeInfo, zeroValue, hi0, hz0, Builtin.lenOf, hf, storeCells]
    · simp only [Value.slice.injEq] at h1
      obtain ⟨rfl, _, rfl⟩ := h1
      have h5 : ¬ c0 < xs.length := by omega
      cases a with
      | none => simp [AppY, Builtin.append_, run_underlying Try.underlying22, sizeOf, typeInfo, zeroValue, hi0, hz0, Builtin.lenOf, run_firstCells_none, storeCells, h5, h4]
      | some b =>
        have hf := run_firstCells_some (P := Try.prog) w i0.size 0 b 0 c [] (by simp) (by simp)
        simp [AppY, Builtin.append_, run_underlying Try.underlying22, sizeOf, typeInfo, zeroValue, hi0, hz0, Builtin.lenOf, hf, storeCells, h5, h4]
  · have hlen : 0 < us.length := List.length_pos_iff.2 he
    obtain ⟨b, off, rfl, hc⟩ := hu.at hlen
    obtain ⟨g1, c1, w1, hr, h2, h3, _, _⟩ := run_append_lies (P := Try.prog) w 22 22 B 3 i0 (.int .i64 0) 1 8 Try.underlying22 hi0 hz0 hz1 hz2 rfl (by decide) (.slice a0 xs.length c0) xs.length (numsI xs) ho ⟨b, off, none⟩ us.length c (numsI us) (by simp [numsI]) (fun j u hu => by
        have hj : j < us.length := by have := (List.getElem?_eq_some_iff.1 hu).1; simpa [numsI] using this
        have e : (⟨b, off, none⟩ : Addr).add j = ⟨b, off + j, none⟩ := by by_cases hj0 : j = 0 <;> simp [Addr.add, hj0]
        rw [e, hc j hj, ← hu]
        simp [numsI, hj, List.getD]) (by intro u hu; simp [numsI] at hu; obtain ⟨x, _, rfl⟩ := hu; rfl) hlen (by unfold maxLen; omega) (by omega) hB _ rfl
    refine ⟨some ⟨g1, 0, none⟩, c1, w1, hr, ?_, h3⟩
    have e : numsI xs ++ numsI us = numsI (xs ++ us) := by simp [numsI]
    rw [List.length_append, ← e]
    exact h2
theorem Ints.far {W W' : World} {B : Nat} {a : Option Addr} {zs : List Int} (hN : Ints W a zs) (h : ∀ y, a = some y → y.block ≠ B) (g : W.grownBy W' (some B)) : Ints W' a zs := by
  rcases hN with h1 | ⟨b, off, rfl, hc⟩
  · exact .inl h1
  · exact .inr ⟨b, off, rfl, fun i hi => g.cell (hc i hi) (by have := h _ rfl; simpa using this)⟩
theorem ints_of_row {w : World} {B n c : Nat} {a : Option Addr} {zs : List Int} (h : w.ownsRow B 3 1 (.slice a n c) zs.length (numsI zs)) : Ints w a zs := by
  by_cases h0 : zs.length = 0
  · left; exact List.length_eq_zero_iff.1 h0
  · right
    have h2 := h.2
    rcases h2 with ⟨h1, h3⟩ | ⟨g, cap, cur, h1, _⟩
    · exact absurd h3 h0
    · simp only [Value.slice.injEq] at h1
      obtain ⟨rfl, rfl, rfl⟩ := h1
      refine ⟨g, 0, rfl, fun i hi => ?_⟩
      rw [Nat.zero_add, h.cellAt i (by omega)]
      simp only [numsI, List.getElem?_map, List.getElem?_eq_getElem hi, Option.map_some, List.getD, Option.getD_some]

theorem new_of_row {w : World} {B n c : Nat} {a : Option Addr} {zs : List Int} (h : w.ownsRow B 3 1 (.slice a n c) zs.length (numsI zs)) : ∀ y, a = some y → B ≤ y.block := by
  intro y hy
  have h2 := h.2
  rcases h2 with ⟨h1, h3⟩ | ⟨g, cap, cur, h1, h4, _⟩
  · simp only [Value.slice.injEq] at h1
    rw [h1.1] at hy; cases hy
  · simp only [Value.slice.injEq] at h1
    rw [h1.1] at hy; cases hy
    exact h4

end Go.Proofs.Ytodcmlcpicabaaa

namespace Go.Proofs.Ytodcmlcpicabaaa
open Go.RowKit
set_option linter.unusedVariables false

def nsT (us : List Nat) : List Int := us.map fun (u : Nat) => (u : Int)
theorem nsT_len (us : List Nat) : (nsT us).length = us.length := by simp [nsT]
theorem nsT_getD {us : List Nat} {k : Nat} (h : k < us.length) : (nsT us).getD k 0 = ((us.getD k 0 : Nat) : Int) := by simp [nsT, List.getD, h]
theorem mem_getD {us : List Nat} {k : Nat} (h : k < us.length) : us.getD k 0 ∈ us := by
  rw [List.getD, List.getElem?_eq_getElem h, Option.getD_some]; exact List.getElem_mem h
theorem take_snocN {us : List Nat} {k : Nat} (h : k < us.length) : us.take (k + 1) = us.take k ++ [us.getD k 0] := by
  rw [List.getD, List.getElem?_eq_getElem h, Option.getD_some]; simp
theorem goT_take (x : TrI) (q : Nat) {us : List Nat} {k : Nat} (h : k < us.length) : goT x q (us.take (k + 1)) = nxT x (goT x q (us.take k)) (us.getD k 0) := by rw [take_snocN h, goT_snoc]
theorem ruT_take (x : TrI) (q : Nat) {us : List Nat} {k : Nat} (h : k < us.length) : ruT x q (us.take (k + 1)) = ruT x q (us.take k) ++ syT x (goT x q (us.take k)) (us.getD k 0) := by rw [take_snocN h, ruT_snoc]

section
variable {W : World} {x : TrI} {a3 a4 a5 a6 : Option Addr} {I : Nat}
theorem read_say (h : TnAt W x a3 a4 a5 a6) {mb : Nat} (hr : ReadT x I mb) {p u : Nat} (hp : p < x.N.length) (hu : u < I) :
    ∃ b5 o5 k5 b6 o6 k6 r6, a5 = some ⟨b5, o5, none⟩ ∧ (syT x p u).length ≤ mb ∧ ∀ W', W.grownBy W' none → W'.cell? ⟨b5, o5 + p, none⟩ = some (.slice (some ⟨b6, o6, none⟩) I k5) ∧ W'.cell? ⟨b6, o6 + u, none⟩ = some (.slice r6 (syT x p u).length k6) ∧ Ints W' r6 (syT x p u) := by
  have hp5 : p < x.Y.length := by rw [hr.hy]; exact hp
  obtain ⟨b5, o5, ha, hc⟩ := h.says.at hp5
  obtain ⟨r5, k5, c5, hr5, _⟩ := hc p hp5
  rw [hr.ry p hp] at c5
  have hu5 : u < (x.Y.getD p []).length := by rw [hr.ry p hp]; exact hu
  obtain ⟨b6, o6, rfl, hc6⟩ := hr5.at hu5
  obtain ⟨r6, k6, c6, hi, _⟩ := hc6 u hu5
  exact ⟨b5, o5, k5, b6, o6, k6, r6, ha, hr.y8 p hp u hu, fun W' g => ⟨g.cell c5 (by simp), g.cell c6 (by simp), hi.grown g⟩⟩
theorem read_next (h : TnAt W x a3 a4 a5 a6) {mb : Nat} (hr : ReadT x I mb) {p u : Nat} (hp : p < x.N.length) (hu : u < I) :
    ∃ b4 o4 k4 b o, a4 = some ⟨b4, o4, none⟩ ∧ ∀ W', W.grownBy W' none → W'.cell? ⟨b4, o4 + p, none⟩ = some (.slice (some ⟨b, o, none⟩) I k4) ∧ W'.cell? ⟨b, o + u, none⟩ = some (.int .i64 ((nxT x p u : Nat) : Int)) := by
  obtain ⟨b4, o4, ha, hc⟩ := h.next.at hp
  obtain ⟨r4, k4, c4, hr4, _⟩ := hc p hp
  rw [hr.rn p hp] at c4
  have hu4 : u < (x.N.getD p []).length := by rw [hr.rn p hp]; exact hu
  obtain ⟨b, o, rfl, hcr⟩ := hr4.at hu4
  have := hcr u hu4
  rw [← (hr.lt hp hu).2] at this
  exact ⟨b4, o4, k4, b, o, ha, fun W' g => ⟨g.cell c4 (by simp), g.cell this (by simp)⟩⟩
theorem read_last (h : TnAt W x a3 a4 a5 a6) {mb : Nat} (hr : ReadT x I mb) {p : Nat} (hp : p < x.N.length) :
    ∃ b6 o6 k6 r6, a6 = some ⟨b6, o6, none⟩ ∧ (x.E.getD p []).length ≤ mb ∧ ∀ W', W.grownBy W' none → W'.cell? ⟨b6, o6 + p, none⟩ = some (.slice r6 (x.E.getD p []).length k6) ∧ Ints W' r6 (x.E.getD p []) := by
  have hp6 : p < x.E.length := by rw [hr.he]; exact hp
  obtain ⟨b6, o6, ha, hc⟩ := h.last.at hp6
  obtain ⟨r6, k6, c6, hi, _⟩ := hc p hp6
  exact ⟨b6, o6, k6, r6, ha, hr.e8 p hp, fun W' g => ⟨g.cell c6 (by simp), hi.grown g⟩⟩
end

/-- A word of one's own. -/
structure OwnW (W1 W : World) (a : Option Addr) (c : Nat) (zs : List Int) : Prop where
  own : W.ownsRow W1.heap.size 3 1 (.slice a zs.length c) zs.length (numsI zs)
  gr : W1.grownBy W none
theorem OwnW.nil {W1 W : World} (g : W1.grownBy W none) : OwnW W1 W none 0 [] := ⟨World.ownsRow_nil W _ _ _, g⟩
theorem OwnW.put {W1 W : World} {a : Option Addr} {c : Nat} {zs us : List Int} {b : Option Addr} {d : Nat} (h : OwnW W1 W a c zs) (hu : Ints W b us) (hl : zs.length + us.length ≤ 1000) :
    ∃ a1 c1 W', (AppY #[22, 22] 22 #[.slice a zs.length c, .slice b us.length d]).run Try.prog W = .ok (.slice a1 (zs ++ us).length c1) W' ∧ OwnW W1 W' a1 c1 (zs ++ us) := by
  obtain ⟨a1, c1, w', hr, ho, hg⟩ := app_anyY (c := d) h.own h.gr.size hu hl
  refine ⟨a1, c1, w', ?_, ⟨ho, grown_of_below ((below_of_grown h.gr).grown hg h.gr.size (fun k hk => (h.own.lt k hk).1))⟩⟩
  rw [List.length_append]; exact hr
theorem OwnW.ints {W1 W : World} {a : Option Addr} {c : Nat} {zs : List Int} (h : OwnW W1 W a c zs) : Ints W a zs := ints_of_row h.own
theorem OwnW.new {W1 W : World} {a : Option Addr} {c : Nat} {zs : List Int} (h : OwnW W1 W a c zs) : ∀ y, a = some y → W1.heap.size ≤ y.block := new_of_row h.own
theorem OwnW.grown {W1 W W' : World} {a : Option Addr} {c : Nat} {zs : List Int} (h : OwnW W1 W a c zs) (g : W.grownBy W' none) : OwnW W1 W' a c zs := ⟨h.own.kept g (by cases (Value.slice a zs.length c).ownBlock <;> simp), grown_trans h.gr g⟩

end Go.Proofs.Ytodcmlcpicabaaa

namespace Go.Proofs.Ytodcmlcpicabaaa
open Go.RowKit
set_option linter.unusedVariables false
set_option linter.unusedSimpArgs false

abbrev Trip := Option Addr × Nat × List Int
def valT (p : Trip) : Value := .slice p.1 p.2.2.length p.2.1
def valsT (ps : List Trip) : List Value := ps.map valT
def wordsT (ps : List Trip) : List (List Int) := ps.map fun p => p.2.2
theorem wordsT_len (ps : List Trip) : (wordsT ps).length = ps.length := by simp [wordsT]
/-- All words of a list lie somewhere. -/
def LieT (w : World) (ps : List Trip) : Prop := ∀ p, p ∈ ps → Ints w p.1 p.2.2 ∧ p.2.2.length ≤ maxLen
theorem LieT.grown {w w' : World} {ps : List Trip} (h : LieT w ps) (g : w.grownBy w' none) : LieT w' ps := fun p hp => ⟨(h p hp).1.grown g, (h p hp).2⟩
/-- A row of words, word by word. -/
def TripAt (w : World) (a : Option Addr) (ps : List Trip) : Prop := ps = [] ∨ ∃ b off, a = some ⟨b, off, none⟩ ∧ ∀ i, i < ps.length → w.cell? ⟨b, off + i, none⟩ = some (valT (ps.getD i (none, 0, [])))
theorem rows_trip {w : World} {a : Option Addr} {R : List (List Int)} (h : RowsAt w a R) : ∃ ps, wordsT ps = R ∧ TripAt w a ps ∧ LieT w ps := by
  rcases h with rfl | ⟨b, off, rfl, hc⟩
  · exact ⟨[], rfl, .inl rfl, fun p hp => by simp at hp⟩
  · have each : ∀ i, i < R.length → ∃ q : Trip, w.cell? ⟨b, off + i, none⟩ = some (valT q) ∧ q.2.2 = R.getD i [] ∧ Ints w q.1 q.2.2 ∧ q.2.2.length ≤ maxLen := fun i hi => by
      obtain ⟨x, c, h1, h2, h3⟩ := hc i hi
      exact ⟨(x, c, R.getD i []), h1, rfl, h2, h3⟩
    obtain ⟨f, hf⟩ := choose_ltN each
    refine ⟨(List.range R.length).map f, ?_, .inr ⟨b, off, rfl, fun i hi => ?_⟩, fun p hp => ?_⟩
    · refine List.ext_getElem (by simp [wordsT]) fun i h1 h2 => ?_
      simp only [wordsT, List.getElem_map, List.getElem_range]
      have := (hf i h2).2.1
      rw [this, List.getD, List.getElem?_eq_getElem h2, Option.getD_some]
    · have hi' : i < R.length := by simpa using hi
      have e : ((List.range R.length).map f).getD i (none, 0, []) = f i := by simp [List.getD, hi']
      rw [e]
      exact (hf i hi').1
    · obtain ⟨i, hi, rfl⟩ := List.mem_map.1 hp
      exact (hf i (by simpa using hi)).2.2
theorem TripAt.rows {w : World} {a : Option Addr} {ps : List Trip} (h : TripAt w a ps) (hl : LieT w ps) : RowsAt w a (wordsT ps) := by
  rcases h with rfl | ⟨b, off, rfl, hc⟩
  · exact .inl rfl
  · refine .inr ⟨b, off, rfl, fun i hi => ?_⟩
    rw [wordsT_len] at hi
    have e : ps.getD i (none, 0, []) = ps[i] := by simp [List.getD, hi]
    have h1 := hc i hi
    rw [e] at h1
    have e2 : (wordsT ps).getD i [] = ps[i].2.2 := by simp [wordsT, List.getD, hi]
    have h2 := hl ps[i] (List.getElem_mem hi)
    exact ⟨ps[i].1, ps[i].2.1, by rw [e2]; exact h1, by rw [e2]; exact h2.1, by rw [e2]; exact h2.2⟩

theorem Try.infoSlY : (Try.prog.info? 22).map (fun i => (i.zero, i.size, i.bytes)) = some (some (.slice none 0 0), 1, 24) := by kernel_rfl
/-- Words of one's own in a row. -/
structure OwnR (W1 W : World) (a : Option Addr) (c : Nat) (ps : List Trip) : Prop where
  own : W.ownsRow W1.heap.size 22 1 (.slice a ps.length c) ps.length (valsT ps)
  gr : W1.grownBy W none
  lie : LieT W1 ps
theorem OwnR.nil {W1 W : World} (g : W1.grownBy W none) : OwnR W1 W none 0 [] := ⟨World.ownsRow_nil W _ _ _, g, fun p hp => by simp at hp⟩
theorem OwnR.grown {W1 W W' : World} {a : Option Addr} {c : Nat} {ps : List Trip} (h : OwnR W1 W a c ps) (g : W.grownBy W' none) : OwnR W1 W' a c ps := ⟨h.own.kept g (by cases (Value.slice a ps.length c).ownBlock <;> simp), grown_trans h.gr g, h.lie⟩
theorem OwnR.trip {W1 W : World} {a : Option Addr} {c : Nat} {ps : List Trip} (h : OwnR W1 W a c ps) : TripAt W a ps := by
  by_cases h0 : ps.length = 0
  · left; exact List.length_eq_zero_iff.1 h0
  · right
    have h2 := h.own.2
    rcases h2 with ⟨h1, h3⟩ | ⟨g, cap, cur, h1, _⟩
    · exact absurd h3 h0
    · simp only [Value.slice.injEq] at h1
      obtain ⟨rfl, _, rfl⟩ := h1
      refine ⟨g, 0, rfl, fun i hi => ?_⟩
      rw [Nat.zero_add, h.own.cellAt i (by omega)]
      simp only [valsT, List.getElem?_map, List.getElem?_eq_getElem hi, Option.map_some, List.getD, Option.getD_some]
theorem OwnR.rows {W1 W : World} {a : Option Addr} {c : Nat} {ps : List Trip} (h : OwnR W1 W a c ps) : RowsAt W a (wordsT ps) := h.trip.rows (h.lie.grown h.gr)
theorem OwnR.new {W1 W : World} {a : Option Addr} {c : Nat} {ps : List Trip} (h : OwnR W1 W a c ps) : ∀ y, a = some y → W1.heap.size ≤ y.block := by
  intro y hy
  have h2 := h.own.2
  rcases h2 with ⟨h1, h3⟩ | ⟨g, cap, cur, h1, h4, _⟩
  · simp only [Value.slice.injEq] at h1
    rw [h1.1] at hy; cases hy
  · simp only [Value.slice.injEq] at h1
    rw [h1.1] at hy; cases hy
    exact h4
theorem OwnR.put {W1 W : World} {a : Option Addr} {c : Nat} {ps us : List Trip} {b : Option Addr} {d : Nat} (h : OwnR W1 W a c ps) (hu : TripAt W b us) (hk : LieT W1 us) (hl : ps.length + us.length ≤ 1000) :
    ∃ a1 c1 W', (AppY #[23, 23] 23 #[.slice a ps.length c, .slice b us.length d]).run Try.prog W = .ok (.slice a1 (ps ++ us).length c1) W' ∧ OwnR W1 W' a1 c1 (ps ++ us) := by
  obtain ⟨i0, hi0, hz0, hz1, hz2⟩ := info_partsY Try.infoSlY
  have hB := h.gr.size
  have ho := h.own
  have hlie : LieT W1 (ps ++ us) := fun p hp => (List.mem_append.1 hp).elim (h.lie p) (hk p)
  by_cases he : us = []
  · subst he
    refine ⟨a, c, W, ?_, by simpa using h⟩
    rcases ho.2 with ⟨h1, _⟩ | ⟨g', cap', cur, h1, _, _, h4, _⟩
    · simp only [Value.slice.injEq] at h1
      obtain ⟨rfl, h2, rfl⟩ := h1
      rw [List.append_nil, h2]
      cases b with
      | none => simp [AppY, Builtin.append_, run_underlying Try.underlying23, sizeOf, typeInfo, zeroValue, hi0, hz0, Builtin.lenOf, run_firstCells_none, storeCells]
      | some b =>
        have hf := run_firstCells_some (P := Try.prog) W i0.size 0 b 0 d [] (by simp) (by simp)
        simp [AppY, Builtin.append_, run_underlying Try.underlying23, sizeOf, typeInfo, zeroValue, hi0, hz0, Builtin.lenOf, hf, storeCells]
    · simp only [Value.slice.injEq] at h1
      obtain ⟨rfl, _, rfl⟩ := h1
      have h5 : ¬ c < ps.length := by omega
      rw [List.append_nil]
      cases b with
      | none => simp [AppY, Builtin.append_, run_underlying Try.underlying23, sizeOf, typeInfo, zeroValue, hi0, hz0, Builtin.lenOf, run_firstCells_none, storeCells, h5, h4]
      | some b =>
        have hf := run_firstCells_some (P := Try.prog) W i0.size 0 b 0 d [] (by simp) (by simp)
        simp [AppY, Builtin.append_, run_underlying Try.underlying23, sizeOf, typeInfo, zeroValue, hi0, hz0, Builtin.lenOf, hf, storeCells, h5, h4]
  · have hlen : 0 < us.length := List.length_pos_iff.2 he
    rcases hu with hu | ⟨b, off, rfl, hc⟩
    · exact absurd hu he
    obtain ⟨g1, c1, w1, hr, h2, h3, _, _⟩ := run_append_lies (P := Try.prog) W 23 23 W1.heap.size 22 i0 (.slice none 0 0) 1 24 Try.underlying23 hi0 hz0 hz1 hz2 rfl (by decide) (.slice a ps.length c) ps.length (valsT ps) ho ⟨b, off, none⟩ us.length d (valsT us) (by simp [valsT]) (fun j u hu => by
        have hj : j < us.length := by have := (List.getElem?_eq_some_iff.1 hu).1; simpa [valsT] using this
        have e : (⟨b, off, none⟩ : Addr).add j = ⟨b, off + j, none⟩ := by by_cases hj0 : j = 0 <;> simp [Addr.add, hj0]
        rw [e, hc j hj, ← hu]
        simp [valsT, hj, List.getD]) (by intro u hu; simp [valsT] at hu; obtain ⟨p1, p2, p3, _, rfl⟩ := hu; rfl) hlen (by unfold maxLen; omega) (by omega) hB _ rfl
    refine ⟨some ⟨g1, 0, none⟩, c1, w1, by rw [List.length_append]; exact hr, ⟨?_, grown_of_below ((below_of_grown h.gr).grown h3 h.gr.size (fun k hk => (h.own.lt k hk).1)), hlie⟩⟩
    have e : valsT ps ++ valsT us = valsT (ps ++ us) := by simp [valsT]
    rw [List.length_append, ← e]
    exact h2

end Go.Proofs.Ytodcmlcpicabaaa

namespace Go.Proofs.Ytodcmlcpicabaaa
open Go.RowKit
set_option linter.unusedVariables false

theorem ints_lt {w : World} {a : Option Addr} {zs : List Int} {y : Addr} (h : Ints w a zs) (hn : zs ≠ []) (hy : a = some y) : y.block < w.heap.size := by
  rcases h with h | ⟨b, off, h1, h2⟩
  · exact absurd h hn
  · rw [h1] at hy
    cases hy
    have h3 := h2 0 (List.length_pos_iff.2 hn)
    show b < _
    rcases Nat.lt_or_ge b w.heap.size with h4 | h4
    · exact h4
    · have e : w.heap[b]? = none := Array.getElem?_eq_none h4
      simp [World.cell?, e] at h3
theorem ints_far {w w' : World} {a : Option Addr} {zs : List Int} {b : Nat} (h : Ints w a zs) (hb : zs ≠ [] → ∀ y, a = some y → y.block ≠ b) (g : w.grownBy w' (some b)) : Ints w' a zs := by
  by_cases hn : zs = []
  · exact .inl hn
  · exact h.far (hb hn) g

/-- Rows of one's own, and words that lie in none of their blocks, nor between lo and hi. -/
structure OwnsP (B lo hi : Nat) (w : World) (its : List Item) (ps : List Trip) : Prop where
  own : Owns B w its
  lie : ∀ p, p ∈ ps → Ints w p.1 p.2.2
  apt : ∀ p, p ∈ ps → p.2.2 ≠ [] → ∀ y, p.1 = some y → (y.block < lo ∨ hi ≤ y.block) ∧ ∀ it, it ∈ its → it.2.1.ownBlock ≠ some y.block
section
variable {B lo hi : Nat} {w w' : World} {its r : List Item} {ps : List Trip} {e : TypeId} {v : Value} {xs : List Value}
theorem OwnsP.kept (h : OwnsP B lo hi w its ps) (g : w.grownBy w' none) : OwnsP B lo hi w' its ps := ⟨h.own.kept g, fun p hp => (h.lie p hp).grown g, h.apt⟩
theorem OwnsP.perm {its' : List Item} (h : OwnsP B lo hi w its ps) (p : its.Perm its') : OwnsP B lo hi w its' ps :=
  ⟨h.own.perm p, h.lie, fun q hq hn y hy => ⟨(h.apt q hq hn y hy).1, fun it hm => (h.apt q hq hn y hy).2 it (p.mem_iff.2 hm)⟩⟩
theorem OwnsP.sub {ps' : List Trip} (h : OwnsP B lo hi w its ps) (hs : ∀ p, p ∈ ps' → p ∈ ps) : OwnsP B lo hi w its ps' := ⟨h.own, fun p hp => h.lie p (hs p hp), fun p hp => h.apt p (hs p hp)⟩
theorem OwnsP.far {b : Nat} (h : OwnsP B lo hi w its ps) (g : w.grownBy w' (some b)) (hb : ∀ it, it ∈ its → it.2.1.ownBlock ≠ some b) (h1 : lo ≤ b) (h2 : b < hi) : OwnsP B lo hi w' its ps :=
  ⟨h.own.far g hb, fun p hp => ints_far (h.lie p hp) (fun hn y hy e => by have := (h.apt p hp hn y hy).1; omega) g, h.apt⟩
theorem OwnsP.below {b : Nat} (h : OwnsP B lo hi w its ps) (g : w.grownBy w' (some b)) (hb : b < B) (h1 : lo ≤ b) (h2 : b < hi) : OwnsP B lo hi w' its ps :=
  h.far g (fun it hm hc => by have := ((h.own.1 it hm).1.lt b hc).1; omega) h1 h2
theorem OwnsP.append {g n cap H : Nat} {news : List Value} (h : OwnsP B lo hi w ((e, v, xs) :: r) ps) (ho : w'.ownsRow B e 1 (.slice (some ⟨g, 0, none⟩) n cap) n (xs ++ news)) (hn : n = xs.length + news.length) (hg : w.grownBy w' v.ownBlock)
    (hat : v.ownBlock = some g ∨ g = H) (hH : w.heap.size = H) : OwnsP B lo hi w' ((e, .slice (some ⟨g, 0, none⟩) n cap, xs ++ news) :: r) ps := by
  refine ⟨h.own.append ho hn hg hat hH, fun p hp => ?_, fun p hp hne y hy => ?_⟩
  · cases hb : v.ownBlock with
    | none => rw [hb] at hg; exact (h.lie p hp).grown hg
    | some b =>
      rw [hb] at hg
      refine ints_far (h.lie p hp) (fun hne y hy e2 => ?_) hg
      exact (h.apt p hp hne y hy).2 (e, v, xs) (List.mem_cons_self) (by rw [e2]; exact hb)
  · obtain ⟨h1, h2⟩ := h.apt p hp hne y hy
    refine ⟨h1, fun it hm => ?_⟩
    rcases List.mem_cons.1 hm with rfl | hm
    · intro e2
      have e3 : g = y.block := by simpa [Value.ownBlock] using e2
      rcases hat with h3 | h3
      · exact h2 (e, v, xs) (List.mem_cons_self) (by rw [← e3]; exact h3)
      · have := ints_lt (h.lie p hp) hne hy
        omega
    · exact h2 it (List.mem_cons_of_mem _ hm)
theorem OwnsP.made {arr : Array Value} {n : Nat} (h : OwnsP B lo hi w r ps) (hB : B ≤ w.heap.size) (e : TypeId) (hn : arr.size = n) (hm : n ≤ maxLen) : OwnsP B lo hi (w.alloc (.cells arr e)) ((e, .slice (some ⟨w.heap.size, 0, none⟩) n n, arr.toList) :: r) ps := by
  refine ⟨h.own.made hB e hn hm, fun p hp => (h.lie p hp).grown (grown_alloc _ _), fun p hp hne y hy => ?_⟩
  obtain ⟨h1, h2⟩ := h.apt p hp hne y hy
  refine ⟨h1, fun it hmm => ?_⟩
  rcases List.mem_cons.1 hmm with rfl | hmm
  · intro e2
    have e3 : w.heap.size = y.block := by simpa [Value.ownBlock] using e2
    have := ints_lt (h.lie p hp) hne hy
    omega
  · exact h2 it hmm
theorem OwnsP.set {g n cap i : Nat} (h : OwnsP B lo hi w ((e, .slice (some ⟨g, 0, none⟩) n cap, xs) :: r) ps) (hi' : i < n) (u : Value) : OwnsP B lo hi (w.setCell ⟨g, i, none⟩ u) ((e, .slice (some ⟨g, 0, none⟩) n cap, xs.set i u) :: r) ps := by
  refine ⟨h.own.set hi' u, fun p hp => ints_far (h.lie p hp) (fun hne y hy e2 => ?_) (grown_set w ⟨g, i, none⟩ u), fun p hp hne y hy => ?_⟩
  · exact (h.apt p hp hne y hy).2 _ (List.mem_cons_self) (by rw [e2]; rfl)
  · obtain ⟨h1, h2⟩ := h.apt p hp hne y hy
    refine ⟨h1, fun it hm => ?_⟩
    rcases List.mem_cons.1 hm with rfl | hm
    · exact h2 (e, .slice (some ⟨g, 0, none⟩) n cap, xs) (List.mem_cons_self)
    · exact h2 it (List.mem_cons_of_mem _ hm)
/-- A word is told. -/
theorem OwnsP.word {a : Option Addr} {zs : List Int} (h : OwnsP B lo hi w its ps) (hlo : lo ≤ B) (hhi : hi ≤ w.heap.size) (g : w.grownBy w' none) (hz : Ints w' a zs) (hnew : zs ≠ [] → ∀ y, a = some y → y.block < lo ∨ w.heap.size ≤ y.block) (c : Nat) : OwnsP B lo hi w' its ((a, c, zs) :: ps) := by
  refine ⟨h.own.kept g, fun p hp => ?_, fun p hp hne y hy => ?_⟩
  · rcases List.mem_cons.1 hp with rfl | hp
    · exact hz
    · exact (h.lie p hp).grown g
  · rcases List.mem_cons.1 hp with rfl | hp
    · have h1 := hnew hne y hy
      refine ⟨by omega, fun it hm e2 => ?_⟩
      have := (h.own.1 it hm).1.lt _ e2
      omega
    · exact h.apt p hp hne y hy
end

end Go.Proofs.Ytodcmlcpicabaaa
