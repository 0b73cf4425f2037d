/- What turns and what stays. -/
import Derived.Test.YtnlkdihfoekjmaaLOwn
namespace Go.Proofs.Ytnlkdihfoekjmaa
open Go.RowKit
set_option linter.unusedVariables false

/-- Nothing has turned but blocks of S, and what is new. -/
structure Turn (S : Nat → Prop) (w w' : World) : Prop where
  os : w'.os = w.os
  tape : w'.tape = w.tape
  output : w'.output = w.output
  size : w.heap.size ≤ w'.heap.size
  block : ∀ b, b < w.heap.size → ¬ S b → w'.heap[b]? = w.heap[b]?
section
variable {S S' : Nat → Prop} {a b c : World} {g : Nat}
theorem Turn.refl (S : Nat → Prop) (w : World) : Turn S w w := ⟨rfl, rfl, rfl, Nat.le_refl _, fun _ _ _ => rfl⟩
theorem Turn.trans (h : Turn S a b) (k : Turn S' b c) (hs : ∀ x, S' x → S x ∨ a.heap.size ≤ x) : Turn S a c :=
  ⟨k.os.trans h.os, k.tape.trans h.tape, k.output.trans h.output, Nat.le_trans h.size k.size, fun x hx hn => (k.block x (Nat.lt_of_lt_of_le hx h.size) (fun e => by rcases hs x e with h1 | h1; exact hn h1; omega)).trans (h.block x hx hn)⟩
theorem Turn.grow (h : Turn S a b) (k : b.grownBy c none) : Turn S a c :=
  ⟨k.os.trans h.os, k.tape.trans h.tape, k.output.trans h.output, Nat.le_trans h.size k.size, fun x hx hn => (k.block x (Nat.lt_of_lt_of_le hx h.size) (by simp)).trans (h.block x hx hn)⟩
theorem Turn.step (h : Turn S a b) (k : b.grownBy c (some g)) (hg : S g ∨ a.heap.size ≤ g) : Turn S a c :=
  ⟨k.os.trans h.os, k.tape.trans h.tape, k.output.trans h.output, Nat.le_trans h.size k.size, fun x hx hn => (k.block x (Nat.lt_of_lt_of_le hx h.size) (fun e => by simp only [Option.some.injEq] at e; subst e; rcases hg with h1 | h1; exact hn h1; omega)).trans (h.block x hx hn)⟩
theorem Turn.mono (h : Turn S a b) (hs : ∀ x, x < a.heap.size → S x → S' x) : Turn S' a b := ⟨h.os, h.tape, h.output, h.size, fun x hx hn => h.block x hx (fun e => hn (hs x hx e))⟩
theorem Turn.grown (h : Turn S a b) (hs : ∀ x, S x → a.heap.size ≤ x) : a.grownBy b none := ⟨h.os, h.tape, h.output, h.size, fun x hx _ => h.block x hx (fun e => by have := hs x e; omega)⟩
theorem Turn.of (h : a.grownBy b none) : Turn S a b := (Turn.refl S a).grow h
theorem ownsRow_turn {B : Nat} {e : TypeId} {size n : Nat} {v : Value} {xs : List Value} (h : a.ownsRow B e size v n xs) (ht : Turn S a b) (hb : ∀ g, v.ownBlock = some g → ¬ S g) : b.ownsRow B e size v n xs := by
  obtain ⟨h1, h2⟩ := h
  refine ⟨h1, ?_⟩
  rcases h2 with h2 | ⟨g, cap, cur, h3, h4, h5, h6⟩
  · exact .inl h2
  · refine .inr ⟨g, cap, cur, h3, h4, (ht.block g (Array.getElem?_eq_some_iff.1 h5).1 (hb g (by rw [h3]; rfl))).trans h5, h6⟩
theorem Owns.turn {B : Nat} {its : List Item} (h : Owns B a its) (ht : Turn S a b) (hb : ∀ it, it ∈ its → ∀ g, it.2.1.ownBlock = some g → ¬ S g) : Owns B b its :=
  ⟨fun it hm => ⟨ownsRow_turn (h.1 it hm).1 ht (hb it hm), (h.1 it hm).2⟩, h.2⟩
theorem Owns.lt {B : Nat} {its : List Item} (h : Owns B a its) {it : Item} (hm : it ∈ its) {g : Nat} (hg : it.2.1.ownBlock = some g) : B ≤ g ∧ g < a.heap.size := (h.1 it hm).1.lt g hg
end

end Go.Proofs.Ytnlkdihfoekjmaa
