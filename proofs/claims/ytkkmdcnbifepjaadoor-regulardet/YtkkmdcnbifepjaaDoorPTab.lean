/- The places of a text's letters, as they are gathered (Glushkov). No program is in it. -/
/- What turns and what stays. -/
/- Rows in memory, each a block of its own. -/
/- Sets of places as bits of a number: the lowest one and the others; the table of the library's that finds the lowest bit. -/
import Derived.Test.YtkkmdcnbifepjaaDoorRdr
import Derived.Test.YtkkmdcnbifepjaaDoorLOwn
import Derived.Lib.TrailingZeros
import Derived.Laws.Bits64b
namespace Go.Proofs.YtkkmdcnbifepjaaDoor
set_option linter.unusedVariables false

/-- How many places there are, at which each letter stands, which can come behind each. -/
structure Pl where
  many : Nat
  of : Nat → Nat
  behind : Nat → Nat
structure Rch where
  first : Nat
  last : Nat
  empty : Bool
def Pl.follow (p : Pl) (these those : Nat) : Pl := { p with behind := fun j => if these.testBit j = true then p.behind j ||| those else p.behind j }
theorem Pl.follow_zero (p : Pl) (t : Nat) : p.follow 0 t = p := by simp [Pl.follow]
theorem Pl.follow_twice (p : Pl) (s t : Nat) : (p.follow s t).follow s t = p.follow s t := by
  unfold Pl.follow
  congr 1
  funext j
  by_cases h : s.testBit j = true
  · simp [h, Nat.or_assoc]
  · simp [h]
def altR (r s : Rch) : Rch := ⟨r.first ||| s.first, r.last ||| s.last, r.empty || s.empty⟩
def catR (r s : Rch) : Rch := ⟨if r.empty = true then r.first ||| s.first else r.first, if s.empty = true then r.last ||| s.last else s.last, r.empty && s.empty⟩
def glu : Rx → Pl → Rch × Pl
  | .none, p => (⟨0, 0, false⟩, p)
  | .empty, p => (⟨0, 0, true⟩, p)
  | .letter c, p => (⟨2 ^ p.many, 2 ^ p.many, false⟩, { p with many := p.many + 1, of := fun l => if l = c.toNat then p.of l ||| 2 ^ p.many else p.of l })
  | .alt a b, p => (altR (glu a p).1 (glu b (glu a p).2).1, (glu b (glu a p).2).2)
  | .cat a b, p => (catR (glu a p).1 (glu b (glu a p).2).1, (glu b (glu a p).2).2.follow (glu a p).1.last (glu b (glu a p).2).1.first)
  | .star a, p => (⟨(glu a p).1.first, (glu a p).1.last, true⟩, (glu a p).2.follow (glu a p).1.last (glu a p).1.first)
theorem glu_star (m : Rx) (p : Pl) : glu (starS m) p = (⟨(glu m p).1.first, (glu m p).1.last, true⟩, (glu m p).2.follow (glu m p).1.last (glu m p).1.first) := by
  cases m with
  | star m =>
    simp only [starS, glu]
    rw [Pl.follow_twice]
  | _ => rfl
theorem glu_either {ms : List Rx} {k : Nat} (h : k < ms.length) (p : Pl) : glu (eitherOf (ms.take (k + 1))) p = (altR (glu (eitherOf (ms.take k)) p).1 (glu (ms.getD k noneS) (glu (eitherOf (ms.take k)) p).2).1, (glu (ms.getD k noneS) (glu (eitherOf (ms.take k)) p).2).2) := by
  have e : ms.take (k + 1) = ms.take k ++ [ms.getD k noneS] := by rw [List.take_add_one]; simp [List.getD, h]
  rw [e]
  by_cases h0 : k = 0
  · subst h0
    simp only [List.take_zero, List.nil_append, eitherOf_one, eitherOf_nil]
    simp [glu, noneS, altR]
  · rw [eitherOf_snoc (by rw [List.length_take]; omega)]
    rfl
theorem glu_row {ms : List Rx} {k : Nat} (h : k < ms.length) (p : Pl) : glu (rowOf (ms.take (k + 1))) p = (catR (glu (rowOf (ms.take k)) p).1 (glu (ms.getD k noneS) (glu (rowOf (ms.take k)) p).2).1, (glu (ms.getD k noneS) (glu (rowOf (ms.take k)) p).2).2.follow (glu (rowOf (ms.take k)) p).1.last (glu (ms.getD k noneS) (glu (rowOf (ms.take k)) p).2).1.first) := by
  have e : ms.take (k + 1) = ms.take k ++ [ms.getD k noneS] := by rw [List.take_add_one]; simp [List.getD, h]
  rw [e]
  by_cases h0 : k = 0
  · subst h0
    simp only [List.take_zero, List.nil_append, rowOf_one]
    have e2 : rowOf ([] : List Rx) = .empty := rfl
    rw [e2]
    simp [glu, catR, Pl.follow_zero]
  · rw [rowOf_snoc (by rw [List.length_take]; omega)]
    rfl

/-- How many letters stand in a text. -/
def nlet : Rx → Nat
  | .none => 0
  | .empty => 0
  | .letter _ => 1
  | .alt a b => nlet a + nlet b
  | .cat a b => nlet a + nlet b
  | .star a => nlet a
theorem nlet_star (m : Rx) : nlet (starS m) = nlet m := by cases m <;> rfl
theorem nlet_either {ms : List Rx} {k : Nat} (h : k < ms.length) : nlet (eitherOf (ms.take (k + 1))) = nlet (eitherOf (ms.take k)) + nlet (ms.getD k noneS) := by
  have e : ms.take (k + 1) = ms.take k ++ [ms.getD k noneS] := by rw [List.take_add_one]; simp [List.getD, h]
  rw [e]
  by_cases h0 : k = 0
  · subst h0; simp [eitherOf, nlet]
  · rw [eitherOf_snoc (by rw [List.length_take]; omega)]; rfl
theorem nlet_row {ms : List Rx} {k : Nat} (h : k < ms.length) : nlet (rowOf (ms.take (k + 1))) = nlet (rowOf (ms.take k)) + nlet (ms.getD k noneS) := by
  have e : ms.take (k + 1) = ms.take k ++ [ms.getD k noneS] := by rw [List.take_add_one]; simp [List.getD, h]
  rw [e]
  by_cases h0 : k = 0
  · subst h0; simp [rowOf, nlet]
  · rw [rowOf_snoc (by rw [List.length_take]; omega)]; rfl
theorem nlet_either_le {ms : List Rx} : ∀ d k, k + d = ms.length → nlet (eitherOf (ms.take k)) ≤ nlet (eitherOf ms)
  | 0, k, h => by rw [List.take_of_length_le (by omega)]; exact Nat.le_refl _
  | d + 1, k, h => by
    have h1 := nlet_either (ms := ms) (k := k) (by omega)
    have h2 := nlet_either_le (ms := ms) d (k + 1) (by omega)
    omega
theorem nlet_row_le {ms : List Rx} : ∀ d k, k + d = ms.length → nlet (rowOf (ms.take k)) ≤ nlet (rowOf ms)
  | 0, k, h => by rw [List.take_of_length_le (by omega)]; exact Nat.le_refl _
  | d + 1, k, h => by
    have h1 := nlet_row (ms := ms) (k := k) (by omega)
    have h2 := nlet_row_le (ms := ms) d (k + 1) (by omega)
    omega

/-- All sets are of eleven places at most. -/
structure Pl.Ok (p : Pl) : Prop where
  many : p.many ≤ 10
  of : ∀ l, p.of l < 2048
  behind : ∀ j, p.behind j < 2048
def Rch.Ok (r : Rch) : Prop := r.first < 2048 ∧ r.last < 2048
theorem or_2048 {a b : Nat} (ha : a < 2048) (hb : b < 2048) : a ||| b < 2048 := Nat.or_lt_two_pow (n := 11) ha hb
theorem Pl.Ok.follow {p : Pl} (h : p.Ok) (s : Nat) {t : Nat} (ht : t < 2048) : (p.follow s t).Ok := by
  refine ⟨h.many, h.of, fun j => ?_⟩
  show (if s.testBit j = true then p.behind j ||| t else p.behind j) < 2048
  split
  · exact or_2048 (h.behind j) ht
  · exact h.behind j
theorem glu_ok : ∀ (m : Rx) (p : Pl), p.Ok → p.many + nlet m ≤ 10 → (glu m p).1.Ok ∧ (glu m p).2.Ok ∧ (glu m p).2.many = p.many + nlet m
  | .none, p, h, hm => ⟨⟨Nat.zero_lt_succ _, Nat.zero_lt_succ _⟩, h, rfl⟩
  | .empty, p, h, hm => ⟨⟨Nat.zero_lt_succ _, Nat.zero_lt_succ _⟩, h, rfl⟩
  | .letter c, p, h, hm => by
    have hp : 2 ^ p.many < 2048 := by
      have : 2 ^ p.many < 2 ^ 11 := Nat.pow_lt_pow_right (by decide) (by simp [nlet] at hm; omega)
      simpa using this
    refine ⟨⟨hp, hp⟩, ⟨by simp [glu]; simp [nlet] at hm; exact hm, fun l => ?_, h.behind⟩, rfl⟩
    show (if l = c.toNat then p.of l ||| 2 ^ p.many else p.of l) < 2048
    split
    · exact or_2048 (h.of l) hp
    · exact h.of l
  | .alt a b, p, h, hm => by
    simp only [nlet] at hm
    obtain ⟨h1, h2, h3⟩ := glu_ok a p h (by omega)
    obtain ⟨h4, h5, h6⟩ := glu_ok b _ h2 (by omega)
    exact ⟨⟨or_2048 h1.1 h4.1, or_2048 h1.2 h4.2⟩, h5, by simp only [glu, nlet]; omega⟩
  | .cat a b, p, h, hm => by
    simp only [nlet] at hm
    obtain ⟨h1, h2, h3⟩ := glu_ok a p h (by omega)
    obtain ⟨h4, h5, h6⟩ := glu_ok b _ h2 (by omega)
    refine ⟨⟨?_, ?_⟩, h5.follow _ h4.1, by simp only [glu, nlet, Pl.follow]; omega⟩
    · show (if _ then _ else _) < 2048
      split
      · exact or_2048 h1.1 h4.1
      · exact h1.1
    · show (if _ then _ else _) < 2048
      split
      · exact or_2048 h1.2 h4.2
      · exact h4.2
  | .star a, p, h, hm => by
    simp only [nlet] at hm
    obtain ⟨h1, h2, h3⟩ := glu_ok a p h (by omega)
    exact ⟨h1, h2.follow _ h1.1, by simp only [glu, nlet, Pl.follow]; omega⟩

end Go.Proofs.YtkkmdcnbifepjaaDoor

namespace Go.Proofs.YtkkmdcnbifepjaaDoor
open Go.RowKit
set_option linter.unusedVariables false

/-- Nothing has turned but blocks of S, and what is new. -/
structure Turn (S : Nat → Prop) (w w' : World) : Prop where
  os : w'.os = w.os
  tape : w'.tape = w.tape
  output : w'.output = w.output
  size : w.heap.size ≤ w'.heap.size
  block : ∀ b, b < w.heap.size → ¬ S b → w'.heap[b]? = w.heap[b]?
section
variable {S S' : Nat → Prop} {a b c : World} {g : Nat}
theorem Turn.refl (S : Nat → Prop) (w : World) : Turn S w w := ⟨rfl, rfl, rfl, Nat.le_refl _, fun _ _ _ => rfl⟩
theorem Turn.trans (h : Turn S a b) (k : Turn S' b c) (hs : ∀ x, S' x → S x ∨ a.heap.size ≤ x) : Turn S a c :=
  ⟨k.os.trans h.os, k.tape.trans h.tape, k.output.trans h.output, Nat.le_trans h.size k.size, fun x hx hn => (k.block x (Nat.lt_of_lt_of_le hx h.size) (fun e => by rcases hs x e with h1 | h1; exact hn h1; omega)).trans (h.block x hx hn)⟩
theorem Turn.grow (h : Turn S a b) (k : b.grownBy c none) : Turn S a c :=
  ⟨k.os.trans h.os, k.tape.trans h.tape, k.output.trans h.output, Nat.le_trans h.size k.size, fun x hx hn => (k.block x (Nat.lt_of_lt_of_le hx h.size) (by simp)).trans (h.block x hx hn)⟩
theorem Turn.step (h : Turn S a b) (k : b.grownBy c (some g)) (hg : S g ∨ a.heap.size ≤ g) : Turn S a c :=
  ⟨k.os.trans h.os, k.tape.trans h.tape, k.output.trans h.output, Nat.le_trans h.size k.size, fun x hx hn => (k.block x (Nat.lt_of_lt_of_le hx h.size) (fun e => by simp only [Option.some.injEq] at e; subst e; rcases hg with h1 | h1; exact hn h1; omega)).trans (h.block x hx hn)⟩
theorem Turn.mono (h : Turn S a b) (hs : ∀ x, x < a.heap.size → S x → S' x) : Turn S' a b := ⟨h.os, h.tape, h.output, h.size, fun x hx hn => h.block x hx (fun e => hn (hs x hx e))⟩
theorem Turn.grown (h : Turn S a b) (hs : ∀ x, S x → a.heap.size ≤ x) : a.grownBy b none := ⟨h.os, h.tape, h.output, h.size, fun x hx _ => h.block x hx (fun e => by have := hs x e; omega)⟩
theorem Turn.of (h : a.grownBy b none) : Turn S a b := (Turn.refl S a).grow h
theorem ownsRow_turn {B : Nat} {e : TypeId} {size n : Nat} {v : Value} {xs : List Value} (h : a.ownsRow B e size v n xs) (ht : Turn S a b) (hb : ∀ g, v.ownBlock = some g → ¬ S g) : b.ownsRow B e size v n xs := by
  obtain ⟨h1, h2⟩ := h
  refine ⟨h1, ?_⟩
  rcases h2 with h2 | ⟨g, cap, cur, h3, h4, h5, h6⟩
  · exact .inl h2
  · refine .inr ⟨g, cap, cur, h3, h4, (ht.block g (Array.getElem?_eq_some_iff.1 h5).1 (hb g (by rw [h3]; rfl))).trans h5, h6⟩
theorem Owns.turn {B : Nat} {its : List Item} (h : Owns B a its) (ht : Turn S a b) (hb : ∀ it, it ∈ its → ∀ g, it.2.1.ownBlock = some g → ¬ S g) : Owns B b its :=
  ⟨fun it hm => ⟨ownsRow_turn (h.1 it hm).1 ht (hb it hm), (h.1 it hm).2⟩, h.2⟩
theorem Owns.lt {B : Nat} {its : List Item} (h : Owns B a its) {it : Item} (hm : it ∈ its) {g : Nat} (hg : it.2.1.ownBlock = some g) : B ≤ g ∧ g < a.heap.size := (h.1 it hm).1.lt g hg
end

end Go.Proofs.YtkkmdcnbifepjaaDoor

namespace Go.Proofs.YtkkmdcnbifepjaaDoor
open Go.RowKit
set_option linter.unusedVariables false

/-- A block of c cells, of which the first n are told. -/
def RowB (W : World) (g : Nat) (t : TypeId) (n c : Nat) (f : Nat → Value) : Prop := ∃ cur : Array Value, W.heap[g]? = some (.cells cur t (0, 0)) ∧ cur.size = c ∧ n ≤ c ∧ ∀ i, i < n → cur[i]? = some (f i)
section
variable {W W' : World} {g n c : Nat} {t : TypeId} {f f' : Nat → Value}
theorem RowB.lt (h : RowB W g t n c f) : g < W.heap.size := by obtain ⟨cur, h1, _⟩ := h; exact (Array.getElem?_eq_some_iff.1 h1).1
theorem RowB.cell (h : RowB W g t n c f) {i : Nat} (hi : i < n) : W.cell? ⟨g, i, none⟩ = some (f i) := by
  obtain ⟨cur, h1, _, _, h3⟩ := h
  rw [cell_of_row W g i _ _ (0, 0) h1]; exact h3 i hi
theorem RowB.frozen (h : RowB W g t n c f) (i : Nat) : W.frozen? ⟨g, i, none⟩ = false := by
  obtain ⟨cur, h1, _⟩ := h
  exact frozen_of_row W g i _ _ h1
theorem RowB.block (h : RowB W g t n c f) (e : W'.heap[g]? = W.heap[g]?) : RowB W' g t n c f := by
  obtain ⟨cur, h1, h2⟩ := h
  exact ⟨cur, e.trans h1, h2⟩
theorem RowB.kept (h : RowB W g t n c f) (hg : W.grownBy W' none) : RowB W' g t n c f := h.block (hg.block g h.lt (by simp))
theorem RowB.turn {S : Nat → Prop} (h : RowB W g t n c f) (ht : Turn S W W') (hS : ¬ S g) : RowB W' g t n c f := h.block (ht.block g h.lt hS)
theorem RowB.grown {b : Nat} (h : RowB W g t n c f) (hg : W.grownBy W' (some b)) (hb : g ≠ b) : RowB W' g t n c f := h.block (hg.block g h.lt (by simpa using hb))
theorem RowB.grownO {o : Option Nat} (h : RowB W g t n c f) (hg : W.grownBy W' o) (hb : ∀ b, o = some b → g ≠ b) : RowB W' g t n c f := h.block (hg.block g h.lt (fun e => hb g e.symm rfl))
theorem RowB.set (h : RowB W g t n c f) {i : Nat} (hi : i < n) (v : Value) : RowB (W.setCell ⟨g, i, none⟩ v) g t n c (fun j => if j = i then v else f j) := by
  obtain ⟨cur, h1, h2, h4, h3⟩ := h
  refine ⟨cur.setIfInBounds i v, heap_setCell_same W g i _ _ _ h1, by simpa using h2, h4, fun j hj => ?_⟩
  by_cases e : j = i
  · subst e; simp [show j < cur.size by omega]
  · rw [Array.getElem?_setIfInBounds_ne (by omega)]
    show _ = some (if j = i then v else f j)
    rw [if_neg e]; exact h3 j hj
theorem RowB.other (h : RowB W g t n c f) {g' i : Nat} (hne : g ≠ g') (v : Value) : RowB (W.setCell ⟨g', i, none⟩ v) g t n c f := h.block (Below.heap_setCell _ _ _ _ (by simpa using hne))
theorem RowB.congr (h : RowB W g t n c f) (e : ∀ i, i < n → f i = f' i) : RowB W g t n c f' := by
  obtain ⟨cur, h1, h2, h4, h3⟩ := h
  exact ⟨cur, h1, h2, h4, fun i hi => by rw [h3 i hi, e i hi]⟩
theorem RowB.alloc (h : RowB W g t n c f) (o : Obj) : RowB (W.alloc o) g t n c f := h.kept (grown_alloc _ _)
end
theorem RowB.make (W : World) (t : TypeId) (n : Nat) (v : Value) : RowB (W.alloc (.cells (Array.replicate n v) t)) W.heap.size t n n (fun _ => v) :=
  ⟨_, heap_alloc_new _ _, by simp, Nat.le_refl _, fun i hi => by simp [hi]⟩
/-- A row of one's own is such a block. -/
theorem RowB.of_owns {B : Nat} {W : World} {r : List Item} {e : TypeId} {g n c : Nat} {f : Nat → Value} (h : Owns B W ((e, .slice (some ⟨g, 0, none⟩) n c, (List.range n).map f) :: r)) : RowB W g e n c f := by
  obtain ⟨_, h2⟩ := h.row
  rcases h2 with ⟨e0, _⟩ | ⟨g', cap', cur, e1, _, hh, h5, h6, h7, h8⟩
  · cases e0
  · simp only [List.length_map, List.length_range, Nat.mul_one] at e1 h5 h7 h8
    cases e1
    refine ⟨cur, hh, h7, h5, fun i hi => ?_⟩
    have := congrArg (fun l => l[i]?) h8
    simp only [List.getElem?_take, hi, if_true, List.getElem?_map, List.getElem?_range hi, Option.map_some, Array.getElem?_toList] at this
    exact this
theorem RowB.owns {B : Nat} {W : World} {e : TypeId} {g n c : Nat} {f : Nat → Value} (h : RowB W g e n c f) (hB : B ≤ g) (hc : c ≤ maxLen) : Owns B W [(e, .slice (some ⟨g, 0, none⟩) n c, (List.range n).map f)] := by
  obtain ⟨cur, h1, h2, h3, h4⟩ := h
  refine ⟨fun it hm => ?_, List.Pairwise.cons (fun q hq => by simp at hq) .nil⟩
  rw [List.mem_singleton] at hm
  subst hm
  refine ⟨⟨by simp, .inr ⟨g, c, cur, by simp, hB, h1, by simpa using h3, hc, by simpa using h2, ?_⟩⟩, some ⟨g, 0, none⟩, c, by simp⟩
  simp only [List.length_map, List.length_range, Nat.mul_one]
  apply List.ext_getElem (by simp; omega)
  intro i hi1 hi2
  have hi : i < n := by simpa using hi2
  have := h4 i hi
  rw [List.getElem_take]
  rw [← Array.getElem?_toList, List.getElem?_eq_getElem (by simp; omega)] at this
  simpa using this

end Go.Proofs.YtkkmdcnbifepjaaDoor

namespace Go.Proofs.YtkkmdcnbifepjaaDoor
open Go.RowKit
set_option linter.unusedVariables false

theorem low_bit (x : Nat) (h0 : x ≠ 0) (h : x < 2 ^ 64) : x.testBit (Lib.ctz 64 x) = true ∧ (∀ k, (x &&& (x - 1)).testBit k = (x.testBit k && decide (k ≠ Lib.ctz 64 x))) ∧ x &&& (x - 1) < x := by
  obtain ⟨m, hm, hk⟩ := Lib.ctzFrom_spec 64 x (by omega) h
  have e : Lib.ctz 64 x = Lib.ctzFrom 64 x := by simp [Lib.ctz, h0]
  rw [e]
  generalize Lib.ctzFrom 64 x = c at *
  have hp : 0 < 2 ^ c := Nat.two_pow_pos c
  have e1 : x = 2 ^ c * (2 * m + 1) + 0 := by omega
  have e2 : x - 1 = 2 ^ c * (2 * m) + (2 ^ c - 1) := by
    rw [hm, Nat.mul_add]; omega
  have b1 : ∀ k, x.testBit k = if k < c then false else (2 * m + 1).testBit (k - c) := by
    intro k
    rw [e1, Nat.testBit_two_pow_mul_add _ hp]
    simp
  have b2 : ∀ k, (x - 1).testBit k = if k < c then (2 ^ c - 1).testBit k else (2 * m).testBit (k - c) := by
    intro k
    rw [e2, Nat.testBit_two_pow_mul_add _ (by omega)]
  have hb : ∀ k, (x &&& (x - 1)).testBit k = (x.testBit k && decide (k ≠ c)) := by
    intro k
    rw [Nat.testBit_and, b2, b1]
    by_cases hlt : k < c
    · simp [hlt]
    · simp only [hlt, if_false]
      by_cases hkc : k = c
      · subst hkc
        simp
      · obtain ⟨q, hq⟩ : ∃ q, k - c = q + 1 := ⟨k - c - 1, by omega⟩
        rw [hq, Nat.testBit_succ, Nat.testBit_succ]
        have d1 : (2 * m + 1) / 2 = m := by omega
        have d2 : 2 * m / 2 = m := by omega
        rw [d1, d2]
        simp [hkc]
  have hset : x.testBit c = true := by rw [b1]; simp
  refine ⟨hset, hb, ?_⟩
  have hle : x &&& (x - 1) ≤ x - 1 := Nat.and_le_right
  omega
/-- The lowest place of a set. -/
def lowP (x : Nat) : Nat := Lib.ctz 64 x
def restP (x : Nat) : Nat := x &&& (x - 1)
theorem low_set {x : Nat} (h0 : x ≠ 0) (h : x < 2048) : x.testBit (lowP x) = true ∧ (∀ k, (restP x).testBit k = (x.testBit k && decide (k ≠ lowP x))) ∧ restP x < x ∧ lowP x < 11 := by
  obtain ⟨h1, h2, h3⟩ := low_bit x h0 (by omega)
  refine ⟨h1, h2, h3, ?_⟩
  rcases Nat.lt_or_ge (lowP x) 11 with h4 | h4
  · exact h4
  · have : x.testBit (lowP x) = false := Nat.testBit_lt_two_pow (Nat.lt_of_lt_of_le h (Nat.pow_le_pow_right (by decide) h4 : 2 ^ 11 ≤ _))
    have h5 : x.testBit (lowP x) = true := h1
    rw [this] at h5; cases h5

theorem bits_and_u16 (a b : Nat) (ha : a < 65536) (hb : b < 65536) : bits .and .u16 (a : Int) (b : Int) = ((a &&& b : Nat) : Int) := by
  have hx : a &&& b < 2 ^ 16 := Nat.and_lt_two_pow _ (by omega)
  have h1 : (BitVec.ofInt 16 (a : Int)).toNat = a := by
    rw [BitVec.ofInt_natCast, BitVec.toNat_ofNat]; exact Nat.mod_eq_of_lt (by omega)
  have h2 : (BitVec.ofInt 16 (b : Int)).toNat = b := by
    rw [BitVec.ofInt_natCast, BitVec.toNat_ofNat]; exact Nat.mod_eq_of_lt (by omega)
  show IntKind.u16.wrap ((BitVec.ofInt 16 (a : Int) &&& BitVec.ofInt 16 (b : Int)).toNat : Int) = _
  rw [BitVec.toNat_and, h1, h2, IntKind.wrap_u16]
  omega
theorem bits_or_u16 (a b : Nat) (ha : a < 65536) (hb : b < 65536) : bits .or .u16 (a : Int) (b : Int) = ((a ||| b : Nat) : Int) := by
  have hx : a ||| b < 2 ^ 16 := Nat.or_lt_two_pow (by omega) (by omega)
  have h1 : (BitVec.ofInt 16 (a : Int)).toNat = a := by
    rw [BitVec.ofInt_natCast, BitVec.toNat_ofNat]; exact Nat.mod_eq_of_lt (by omega)
  have h2 : (BitVec.ofInt 16 (b : Int)).toNat = b := by
    rw [BitVec.ofInt_natCast, BitVec.toNat_ofNat]; exact Nat.mod_eq_of_lt (by omega)
  show IntKind.u16.wrap ((BitVec.ofInt 16 (a : Int) ||| BitVec.ofInt 16 (b : Int)).toNat : Int) = _
  rw [BitVec.toNat_or, h1, h2, IntKind.wrap_u16]
  omega
theorem bits_or_set {a b : Nat} (ha : a < 2048) (hb : b < 2048) : bits .or .u16 (a : Int) (b : Int) = ((a ||| b : Nat) : Int) := bits_or_u16 a b (by omega) (by omega)
theorem bits_and_set {a b : Nat} (ha : a < 2048) (hb : b < 2048) : bits .and .u16 (a : Int) (b : Int) = ((a &&& b : Nat) : Int) := bits_and_u16 a b (by omega) (by omega)

/-- The library's table lies in its variable. -/
def Tab32 (w : World) : Prop := ∀ j, j < Lib.deBruijn32tab.length → w.cell? ⟨0, j, none⟩ = some (.int .u8 (Lib.deBruijn32tab.getD j 0))
theorem Tab32.kept {w w' : World} {row : Option Nat} (h : Tab32 w) (hg : w.grownBy w' row) (hr : row ≠ some 0) : Tab32 w' := fun j hj => hg.cell (h j hj) (Ne.symm hr)

theorem tz16_core (x a k : Nat) (w : World) (hx0 : ((x : Int) == 0) = false) (hx1 : x ≠ 0) (hx : x < 65536) (ha : a < 65536) (hlow : x &&& (65536 - x) = a)
    (hi : a * 125613361 % 4294967296 / 134217728 < 32) (hk : k < 32) (hcell : w.cell? ⟨0, a * 125613361 % 4294967296 / 134217728, none⟩ = some (.int .u8 k)) :
    Calls Tryd.prog 42 #[.int .u16 x] w fun e w' => e = .returned (.int .i64 k) ∧ w' = w := by
  have e1 : IntKind.u16.wrap (-(x : Int)) = ((65536 - x : Nat) : Int) := by rw [IntKind.wrap_u16]; omega
  have e2 : bits .and .u16 (x : Int) (IntKind.u16.wrap (-(x : Int))) = (a : Int) := by rw [e1, bits_and_u16 x _ hx (by omega), hlow]
  clear e1 hlow
  go_enter Tryd.func42, Tryd.ntmps42
  go_wp2_with fail
  go_ret
  exact ⟨rfl, rfl⟩
theorem ctz_small (x : Nat) (h0 : x ≠ 0) (h : x < 2048) : Lib.ctz 16 x = lowP x := by
  have key : ∀ y : Fin 2048, Lib.ctz 16 y.val = Lib.ctz 64 y.val ∨ y.val = 0 := by decide +kernel
  rcases key ⟨x, h⟩ with e | e
  · exact e
  · exact absurd e h0
theorem tz16_any (x : Nat) (hx0 : x ≠ 0) (hx : x < 2048) (w : World) (hT : Tab32 w) :
    Calls Tryd.prog 42 #[.int .u16 x] w fun e w' => e = .returned (.int .i64 ((lowP x : Nat) : Int)) ∧ w' = w := by
  obtain ⟨hlow, hk⟩ := Lib.lowest_bit 16 x hx0 (by omega)
  obtain ⟨hi, htab⟩ := Lib.deBruijn32_at _ (Nat.lt_of_lt_of_le hk (by decide : 16 ≤ 32))
  have hcell := hT _ (by simpa [Lib.deBruijn32tab] using hi)
  rw [htab] at hcell
  have hp : 2 ^ Lib.ctz 16 x < 65536 := by
    have : 2 ^ Lib.ctz 16 x < 2 ^ 16 := Nat.pow_lt_pow_right (by decide) hk
    simpa using this
  rw [← ctz_small x hx0 hx]
  exact tz16_core x _ _ w (by simp; omega) hx0 (by omega) hp hlow hi (by omega) hcell

/-- The box of places: how many, at which each letter stands, which can come behind each, with which a word can end. -/
def plF (p : Pl) (last : Nat) (i : Nat) : Value := if i = 0 then .int .i64 (p.many : Int) else if i < 5 then .int .u16 ((p.of (i - 1) : Nat) : Int) else if i < 16 then .int .u16 ((p.behind (i - 5) : Nat) : Int) else .int .u16 (last : Int)
def PlAt (w : World) (b : Nat) (p : Pl) (last : Nat) : Prop := RowB w b 83 17 17 (plF p last)
section
variable {w w' : World} {b last : Nat} {p p' : Pl}
theorem PlAt.many (h : PlAt w b p last) : w.cell? ⟨b, 0, none⟩ = some (.int .i64 (p.many : Int)) := RowB.cell h (i := 0) (by omega)
theorem PlAt.of (h : PlAt w b p last) {l : Nat} (hl : l < 4) : w.cell? ⟨b, 1 + l, none⟩ = some (.int .u16 ((p.of l : Nat) : Int)) := by
  have := RowB.cell h (i := 1 + l) (by omega)
  rw [this]
  unfold plF
  rw [if_neg (by omega), if_pos (by omega)]
  congr 4; omega
theorem PlAt.behind (h : PlAt w b p last) {j : Nat} (hj : j < 11) : w.cell? ⟨b, 5 + j, none⟩ = some (.int .u16 ((p.behind j : Nat) : Int)) := by
  have := RowB.cell h (i := 5 + j) (by omega)
  rw [this]
  unfold plF
  rw [if_neg (by omega), if_neg (by omega), if_pos (by omega)]
  congr 4; omega
theorem PlAt.lastC (h : PlAt w b p last) : w.cell? ⟨b, 16, none⟩ = some (.int .u16 (last : Int)) := RowB.cell h (i := 16) (by omega)
theorem PlAt.fz (h : PlAt w b p last) (i : Nat) : w.frozen? ⟨b, i, none⟩ = false := RowB.frozen h i
theorem PlAt.kept (h : PlAt w b p last) (hg : w.grownBy w' none) : PlAt w' b p last := RowB.kept h hg
theorem PlAt.lt (h : PlAt w b p last) : b < w.heap.size := RowB.lt h
theorem PlAt.far {g : Nat} (h : PlAt w b p last) (hg : w.grownBy w' (some g)) (hne : b ≠ g) : PlAt w' b p last := RowB.grown h hg hne
theorem PlAt.setBehind (h : PlAt w b p last) {j x : Nat} (hj : j < 11) (hm : p'.many = p.many) (ho : p'.of = p.of) (e1 : p'.behind j = x) (e2 : ∀ k, k ≠ j → p'.behind k = p.behind k) : PlAt (w.setCell ⟨b, 5 + j, none⟩ (.int .u16 (x : Int))) b p' last := by
  refine RowB.congr (RowB.set h (i := 5 + j) (by omega) (.int .u16 (x : Int))) fun i hi => ?_
  unfold plF
  by_cases e : i = 5 + j
  · subst e
    rw [if_pos rfl, if_neg (by omega), if_neg (by omega), if_pos (by omega), show 5 + j - 5 = j by omega, e1]
  · rw [if_neg e, hm, ho]
    by_cases h1 : i = 0
    · simp [h1]
    · by_cases h2 : i < 5
      · simp [h1, h2]
      · by_cases h3 : i < 16
        · rw [if_neg h1, if_neg h2, if_pos h3, if_neg h1, if_neg h2, if_pos h3, e2 (i - 5) (by omega)]
        · simp [h1, h2, h3]
theorem PlAt.setOf (h : PlAt w b p last) {l x : Nat} (hl : l < 4) (hm : p'.many = p.many) (hb : p'.behind = p.behind) (e1 : p'.of l = x) (e2 : ∀ k, k ≠ l → p'.of k = p.of k) : PlAt (w.setCell ⟨b, 1 + l, none⟩ (.int .u16 (x : Int))) b p' last := by
  refine RowB.congr (RowB.set h (i := 1 + l) (by omega) (.int .u16 (x : Int))) fun i hi => ?_
  unfold plF
  by_cases e : i = 1 + l
  · subst e
    rw [if_pos rfl, if_neg (by omega), if_pos (by omega), show 1 + l - 1 = l by omega, e1]
  · rw [if_neg e, hm, hb]
    by_cases h1 : i = 0
    · simp [h1]
    · by_cases h2 : i < 5
      · rw [if_neg h1, if_pos h2, if_neg h1, if_pos h2, e2 (i - 1) (by omega)]
      · simp [h1, h2]
theorem PlAt.setMany (h : PlAt w b p last) {x : Nat} (hm : p'.many = x) (ho : p'.of = p.of) (hb : p'.behind = p.behind) : PlAt (w.setCell ⟨b, 0, none⟩ (.int .i64 (x : Int))) b p' last := by
  refine RowB.congr (RowB.set h (i := 0) (by omega) (.int .i64 (x : Int))) fun i hi => ?_
  unfold plF
  by_cases e : i = 0
  · simp [e, hm]
  · rw [if_neg e, if_neg e, if_neg e, ho, hb]
theorem PlAt.setLast (h : PlAt w b p last) (x : Nat) : PlAt (w.setCell ⟨b, 16, none⟩ (.int .u16 (x : Int))) b p x := by
  refine RowB.congr (RowB.set h (i := 16) (by omega) (.int .u16 (x : Int))) fun i hi => ?_
  unfold plF
  by_cases e : i = 16
  · subst e; simp
  · rw [if_neg e]
    have : i < 16 := by omega
    simp [this]
end

end Go.Proofs.YtkkmdcnbifepjaaDoor
