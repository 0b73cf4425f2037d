/- What turns and what stays; a set of rows of five, and steps, in memory. -/
import Derived.Test.YtofjboelplknhaaMIdle
import Derived.Test.YtofjboelplknhaaLNum
import Derived.WideKeyPair
import Derived.DeepKeys4
namespace Go.Proofs.Ytofjboelplknhaa
open Go.RowKit Go.Maps
set_option linter.unusedVariables false

/-- Nothing has turned but blocks of S, and what is new. -/
structure Turn (S : Nat → Prop) (w w' : World) : Prop where
  os : w'.os = w.os
  tape : w'.tape = w.tape
  output : w'.output = w.output
  size : w.heap.size ≤ w'.heap.size
  block : ∀ b, b < w.heap.size → ¬ S b → w'.heap[b]? = w.heap[b]?
section
variable {S S' : Nat → Prop} {a b c : World} {g : Nat}
theorem Turn.refl (S : Nat → Prop) (w : World) : Turn S w w := ⟨rfl, rfl, rfl, Nat.le_refl _, fun _ _ _ => rfl⟩
theorem Turn.trans (h : Turn S a b) (k : Turn S' b c) (hs : ∀ x, S' x → S x ∨ a.heap.size ≤ x) : Turn S a c :=
  ⟨k.os.trans h.os, k.tape.trans h.tape, k.output.trans h.output, Nat.le_trans h.size k.size, fun x hx hn => (k.block x (Nat.lt_of_lt_of_le hx h.size) (fun e => by rcases hs x e with h1 | h1; exact hn h1; omega)).trans (h.block x hx hn)⟩
theorem Turn.grow (h : Turn S a b) (k : b.grownBy c none) : Turn S a c :=
  ⟨k.os.trans h.os, k.tape.trans h.tape, k.output.trans h.output, Nat.le_trans h.size k.size, fun x hx hn => (k.block x (Nat.lt_of_lt_of_le hx h.size) (by simp)).trans (h.block x hx hn)⟩
theorem Turn.step (h : Turn S a b) (k : b.grownBy c (some g)) (hg : S g ∨ a.heap.size ≤ g) : Turn S a c :=
  ⟨k.os.trans h.os, k.tape.trans h.tape, k.output.trans h.output, Nat.le_trans h.size k.size, fun x hx hn => (k.block x (Nat.lt_of_lt_of_le hx h.size) (fun e => by simp only [Option.some.injEq] at e; subst e; rcases hg with h1 | h1; exact hn h1; omega)).trans (h.block x hx hn)⟩
theorem Turn.mono (h : Turn S a b) (hs : ∀ x, x < a.heap.size → S x → S' x) : Turn S' a b := ⟨h.os, h.tape, h.output, h.size, fun x hx hn => h.block x hx (fun e => hn (hs x hx e))⟩
theorem Turn.grown (h : Turn S a b) (hs : ∀ x, S x → a.heap.size ≤ x) : a.grownBy b none := ⟨h.os, h.tape, h.output, h.size, fun x hx _ => h.block x hx (fun e => by have := hs x e; omega)⟩
theorem Turn.of (h : a.grownBy b none) : Turn S a b := (Turn.refl S a).grow h
theorem ownsRow_turn {B : Nat} {e : TypeId} {size n : Nat} {v : Value} {xs : List Value} (h : a.ownsRow B e size v n xs) (ht : Turn S a b) (hb : ∀ g, v.ownBlock = some g → ¬ S g) : b.ownsRow B e size v n xs := by
  obtain ⟨h1, h2⟩ := h
  refine ⟨h1, ?_⟩
  rcases h2 with h2 | ⟨g, cap, cur, h3, h4, h5, h6⟩
  · exact .inl h2
  · refine .inr ⟨g, cap, cur, h3, h4, (ht.block g (Array.getElem?_eq_some_iff.1 h5).1 (hb g (by rw [h3]; rfl))).trans h5, h6⟩
theorem Owns.turn {B : Nat} {its : List Item} (h : Owns B a its) (ht : Turn S a b) (hb : ∀ it, it ∈ its → ∀ g, it.2.1.ownBlock = some g → ¬ S g) : Owns B b its :=
  ⟨fun it hm => ⟨ownsRow_turn (h.1 it hm).1 ht (hb it hm), (h.1 it hm).2⟩, h.2⟩
theorem Owns.lt {B : Nat} {its : List Item} (h : Owns B a its) {it : Item} (hm : it ∈ its) {g : Nat} (hg : it.2.1.ownBlock = some g) : B ≤ g ∧ g < a.heap.size := (h.1 it hm).1.lt g hg
end

/-- A row of five as a key. -/
theorem Try.arr5 : WideMaps.ArrKey Try.prog 83 3 5 := ⟨Try.underlying83, by kernel_rfl, by kernel_rfl, by kernel_rfl⟩
theorem Try.row5 : (83 : TypeId) < Try.prog.types.size := of_decide_eq_true (by kernel_rfl)
theorem pred_of5 {n t : Nat} (h : t < n) : ∃ m, n = m + 1 := ⟨n - 1, by omega⟩
set_option maxRecDepth 100000 in
theorem Try.size5 : ∃ m, Try.prog.types.size = m + 1 := pred_of5 Try.row5
theorem Try.wide5 : (match Try.prog.underlying 83 with | some (.array _ _) | some (.struct _) => true | _ => false) = true := by rw [Try.underlying83]
set_option maxRecDepth 100000 in
theorem Try.keyed5 : Keyed Try.prog 83 := Keyed.of_law (deep_law_laid Try.laidOut (m := 2) (by omega) Try.row5 (by kernel_rfl) Try.wide5)
theorem keyOf_five {P : Program} {k e : TypeId} {q : IntKind} (A : WideMaps.ArrKey P k e 5) (he : P.underlying e = some (.int q)) (hsz : ∃ m, P.types.size = m + 1) {a b c d f : Int} (wa : (Lit.int q a).wf = true) (wb : (Lit.int q b).wf = true) (wc : (Lit.int q c).wf = true) (wd : (Lit.int q d).wf = true) (wf : (Lit.int q f).wf = true) :
    keyOf P k (.agg #[.int q a, .int q b, .int q c, .int q d, .int q f]) = some (.string (keyBytes [.int q a, .int q b, .int q c, .int q d, .int q f])) := by
  have hkt := A.keyType hsz
  obtain ⟨m, hm⟩ := hsz
  unfold keyOf
  simp only [A.hu]
  rw [if_pos (by simp [hkt, Value.formed, A.hu, A.size]), hm]
  unfold Program.keyLits
  simp only [A.hu, Value.cells]
  rw [if_pos (by rw [A.size]; rfl), show List.range 5 = [0, 1, 2, 3, 4] from rfl, List.mapM_cons, List.mapM_cons, List.mapM_cons, List.mapM_cons, List.mapM_cons, List.mapM_nil]
  simp [A.one, Program.keyLits, he, wa, wb, wc, wd, wf]
def klit (c : Nat) : Lit := .string (keyBytes [.int .i64 ((dg c 0 : Nat) : Int), .int .i64 ((dg c 1 : Nat) : Int), .int .i64 ((dg c 2 : Nat) : Int), .int .i64 ((dg c 3 : Nat) : Int), .int .i64 ((dg c 4 : Nat) : Int)])
theorem dg_wf (c s : Nat) : (Lit.int .i64 ((dg c s : Nat) : Int)).wf = true := wf64 (by have := dg_lt c s; omega)
theorem klit_key (c : Nat) : keyOf Try.prog 83 (rowV c) = some (klit c) := keyOf_five Try.arr5 Try.underlying3 Try.size5 (dg_wf _ _) (dg_wf _ _) (dg_wf _ _) (dg_wf _ _) (dg_wf _ _)
theorem klit_inj {c d : Nat} (hc : c < 3125) (hd : d < 3125) (e : klit c = klit d) : c = d := by
  have h1 := Try.keyed5.inj (klit_key c) (by rw [e]; exact klit_key d)
  simp only [Value.agg.injEq, Array.mk.injEq, List.cons.injEq, Value.int.injEq, true_and, and_true] at h1
  obtain ⟨e0, e1, e2, e3, e4⟩ := h1
  refine dg_inj hc hd fun s hs => ?_
  rcases five hs with rfl | rfl | rfl | rfl | rfl <;> omega
theorem klit_lit (c : Nat) : WideAt.IsKeyLit (klit c) := by simp [WideAt.IsKeyLit, klit]

/-- The map in block b has the rows xs. -/
def SetAt (w : World) (b : Nat) (xs : List Nat) : Prop :=
  ∃ D : DataW Unit, w.ownsMap Try.prog 83 unitElem b xs.length D ∧ ∀ y : Nat, y < 3125 → (Maps.has D (klit y) = true ↔ y ∈ xs)
theorem SetAt.block {w : World} {b : Nat} {xs : List Nat} (h : SetAt w b xs) : b < w.heap.size ∧ ∃ o, w.heap[b]? = some o ∧ ∀ c t f, o ≠ .cells c t f := by
  obtain ⟨D, ⟨es, clock, hb, _⟩, _⟩ := h
  exact ⟨(Array.getElem?_eq_some_iff.1 hb).1, _, hb, fun _ _ _ e => by cases e⟩
theorem SetAt.kept {w w' : World} {b : Nat} {xs : List Nat} {row : Option Nat} (h : SetAt w b xs) (hg : w.grownBy w' row) (hne : row ≠ some b) : SetAt w' b xs := by
  obtain ⟨D, h1, h2⟩ := h
  exact ⟨D, h1.kept hg (Ne.symm hne), h2⟩
theorem SetAt.turn {S : Nat → Prop} {w w' : World} {b : Nat} {xs : List Nat} (h : SetAt w b xs) (ht : Turn S w w') (hb : ¬ S b) : SetAt w' b xs := by
  obtain ⟨D, ⟨es, clock, h0, h1⟩, h2⟩ := h
  exact ⟨D, ⟨es, clock, (ht.block b (Array.getElem?_eq_some_iff.1 h0).1 hb).trans h0, h1⟩, h2⟩
theorem zeroU (w : World) : (zeroValue 116).run Try.prog w = .ok (.agg #[]) w := by kernel_rfl
theorem SetAt.look {w : World} {b : Nat} {xs : List Nat} (h : SetAt w b xs) {y : Nat} (hy : y < 3125) :
    (Instr.lookup 117 (.map (some b)) (rowV y) true).run Try.prog w = .ok (.tuple #[.agg #[], .bool (decide (y ∈ xs))]) w := by
  obtain ⟨D, h1, h2⟩ := h
  obtain ⟨v, ps, hrun, hv⟩ := h1.look_ok Try.keyed5 Try.underlying117 (zeroU w) unitElem_mk (klit_key y)
  obtain ⟨rfl, _⟩ := unitElem_inv hv
  rw [hrun]
  have e : Maps.has D (klit y) = decide (y ∈ xs) := by
    cases hb : Maps.has D (klit y) with
    | true => rw [decide_eq_true ((h2 y hy).1 hb)]
    | false => rw [decide_eq_false (fun e => by rw [(h2 y hy).2 e] at hb; cases hb)]
  rw [e]
theorem SetAt.put {w : World} {b : Nat} {xs : List Nat} (h : SetAt w b xs) {y : Nat} (hy : y < 3125) (hl : xs.length ≤ 4000) :
    ∃ w', (Instr.mapUpdate 117 (.map (some b)) (rowV y) (.agg #[])).run Try.prog w = .ok () w' ∧ SetAt w' b (xs ++ [y]) ∧ w.grownBy w' (some b) := by
  obtain ⟨D, h1, h2⟩ := h
  obtain ⟨w', hrun, h4, h5⟩ := h1.update Try.keyed5 Try.underlying117 (by unfold maxLen; omega) (klit_key y) unitElem_mk
  refine ⟨w', hrun, ⟨_, by simpa using h4, fun z hz => ?_⟩, h5⟩
  by_cases hzy : z = y
  · subst hzy
    rw [has_put_same h1.isMap (klit_lit z)]
    simp
  · rw [has_put_other (fun e => hzy (klit_inj hz hy e)), h2 z hz]
    simp [hzy]
theorem setAt_made (w : World) : SetAt (w.alloc (.map #[] 0)) w.heap.size [] :=
  ⟨.map [], World.ownsMap_made w _ _ _, fun y _ => by simp [Maps.has_eq]⟩

end Go.Proofs.Ytofjboelplknhaa
