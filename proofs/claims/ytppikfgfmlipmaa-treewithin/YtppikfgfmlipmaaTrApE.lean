/- How the reference's Apart comes to rest: what is known while it goes, and what goes down. -/
import Derived.Test.YtppikfgfmlipmaaTrApD
import Derived.Test.YtppikfgfmlipmaaRowB
namespace Go.Proofs.Ytppikfgfmlipmaa
open Go.RowKit
set_option linter.unusedVariables false

section
variable {x y : Trs} {L N N' : Nat}
def lfOk (x y : Trs) (G : Nat → Nat) (l : Nat) : Prop := G (lfI x y l) = 1
def ndOk (x y : Trs) (G : Nat → Nat) (l s t : Nat) : Prop := G s ≠ 0 → G t ≠ 0 → G (ndI x y l s t) ≠ 0 ∧ G (ndI x y l s t) ≤ min (G s + G t + 1) 1000
/-- What has been looked at and was right. -/
def Fx (x y : Trs) (G : Nat → Nat) (l1 l p q : Nat) : Prop := (∀ l', l' < l1 → lfOk x y G l') ∧ ∀ l' s t, (l' < l ∨ l' = l ∧ (s < p ∨ s = p ∧ t < q)) → s < 64 → t < 64 → ndOk x y G l' s t
theorem Fx.start (G : Nat → Nat) : Fx x y G 0 0 0 0 := ⟨fun l' h => by omega, fun l' s t h => by omega⟩
theorem Fx.leaf {G : Nat → Nat} {l : Nat} (h : Fx x y G l l 0 0) (hl : lfOk x y G l) : Fx x y G (l + 1) l 0 0 := ⟨fun l' h' => by
  by_cases e : l' = l
  · subst e; exact hl
  · exact h.1 l' (by omega), h.2⟩
theorem Fx.node {G : Nat → Nat} {l1 l p q : Nat} (h : Fx x y G l1 l p q) (hn : ndOk x y G l p q) : Fx x y G l1 l p (q + 1) := ⟨h.1, fun l' s t h' hs ht => by
  by_cases e : l' = l ∧ s = p ∧ t = q
  · obtain ⟨rfl, rfl, rfl⟩ := e; exact hn
  · exact h.2 l' s t (by omega) hs ht⟩
theorem Fx.nextP {G : Nat → Nat} {l1 l p : Nat} (h : Fx x y G l1 l p 64) : Fx x y G l1 l (p + 1) 0 := ⟨h.1, fun l' s t h' hs ht => h.2 l' s t (by omega) hs ht⟩
theorem Fx.nextL {G : Nat → Nat} {l : Nat} (h : Fx x y G (l + 1) l 64 0) : Fx x y G (l + 1) (l + 1) 0 0 := ⟨h.1, fun l' s t h' hs ht => h.2 l' s t (by omega) hs ht⟩
theorem Fx.done {G : Nat → Nat} (h : Fx x y G L L 0 0) : ApF x y L G := ⟨fun l hl => h.1 l hl, fun l s t hl hs ht h1 h2 => h.2 l s t (.inl hl) hs ht h1 h2⟩

/-- What is not there yet counts more than all that can be there. -/
def wtA (g : Nat) : Nat := if g = 0 then 1001 else g
def sumA (G : Nat → Nat) : Nat → Nat
  | 0 => 0
  | n + 1 => sumA G n + wtA (G n)
theorem sumA_congr {G H : Nat → Nat} {n : Nat} (h : ∀ i, i < n → G i = H i) : sumA G n = sumA H n := by
  induction n with
  | zero => rfl
  | succ n ih => simp only [sumA]; rw [ih (fun i hi => h i (by omega)), h n (by omega)]
def updA (G : Nat → Nat) (i v : Nat) : Nat → Nat := fun s => if s = i then v else G s
theorem sumA_upd {G : Nat → Nat} {n i v : Nat} (hi : i < n) (hv : wtA v < wtA (G i)) : sumA (updA G i v) n < sumA G n := by
  induction n with
  | zero => omega
  | succ n ih =>
    simp only [sumA]
    by_cases e : i = n
    · subst e
      have : sumA (updA G i v) i = sumA G i := sumA_congr fun j hj => by unfold updA; rw [if_neg (by omega)]
      rw [this]
      have e2 : updA G i v i = v := by simp [updA]
      rw [e2]
      omega
    · have := ih (by omega)
      have e2 : updA G i v n = G n := by unfold updA; rw [if_neg (by omega)]
      rw [e2]
      omega
def bitA (b : Bool) : Nat := if b = true then 1 else 0

abbrev ARow (W : World) (g : Nat) (G : Nat → Nat) : Prop := RowB W g 3 64 64 (fun i => .int .i64 ((G i : Nat) : Int))
theorem ARow.put {W : World} {g i v : Nat} {G : Nat → Nat} (h : ARow W g G) (hi : i < 64) : ARow (W.setCell ⟨g, i, none⟩ (.int .i64 (v : Int))) g (updA G i v) :=
  (h.set hi (.int .i64 (v : Int))).congr fun j hj => by
    by_cases e : j = i
    · subst e; simp [updA]
    · simp [e, updA]

/-- While it goes. -/
structure ApSt (x y : Trs) (L : Nat) (W2 : World) (gs s0 l1 l p q : Nat) (sm : Bool) (G : Nat → Nat) (W : World) : Prop where
  row : ARow W gs G
  inv : ApI x y L G
  le : ∀ s, G s ≤ 1000
  sum : sumA G 64 + bitA sm ≤ s0
  fix : sm = false → Fx x y G l1 l p q
  gr : W2.grownBy W (some gs)
  lt : W2.heap.size ≤ W.heap.size
section
variable {W2 W W' : World} {gs s0 l1 l p q : Nat} {sm : Bool} {G : Nat → Nat}
theorem ApSt.kept (h : ApSt x y L W2 gs s0 l1 l p q sm G W) (hg : W.grownBy W' none) : ApSt x y L W2 gs s0 l1 l p q sm G W' :=
  ⟨h.row.kept hg, h.inv, h.le, h.sum, h.fix, grown_trans h.gr (grown_some hg), Nat.le_trans h.lt hg.size⟩
theorem ApSt.leafSame (h : ApSt x y L W2 gs s0 l l 0 0 sm G W) (e : G (lfI x y l) = 1) : ApSt x y L W2 gs s0 (l + 1) l 0 0 sm G W :=
  ⟨h.row, h.inv, h.le, h.sum, fun e1 => (h.fix e1).leaf e, h.gr, h.lt⟩
theorem ApSt.leafPut (h : ApSt x y L W2 gs s0 l l 0 0 sm G W) {i : Nat} (hi : lfI x y l = i) (h64 : i < 64) (hl : l < L) (e : G i ≠ 1) : ApSt x y L W2 gs s0 (l + 1) l 0 0 true (updA G i 1) (W.setCell ⟨gs, i, none⟩ (.int .i64 1)) := by
  refine ⟨h.row.put h64, ?_, fun s => ?_, ?_, (fun e1 => by cases e1), grown_trans h.gr (grown_set _ _ _), by simpa [World.setCell] using h.lt⟩
  · have := h.inv.lf hl; rw [hi] at this; exact this
  · unfold updA; split
    · omega
    · exact h.le s
  · have h1 := sumA_upd (G := G) (n := 64) (v := 1) h64 (by unfold wtA; split <;> split <;> omega)
    have h2 := h.sum
    unfold bitA at h2 ⊢
    simp only [if_true]
    split at h2 <;> omega
theorem ApSt.skip (h : ApSt x y L W2 gs s0 l1 l p q sm G W) (e : G p = 0 ∨ G q = 0) : ApSt x y L W2 gs s0 l1 l p (q + 1) sm G W :=
  ⟨h.row, h.inv, h.le, h.sum, fun e1 => (h.fix e1).node (fun a b => by omega), h.gr, h.lt⟩
theorem ApSt.same (h : ApSt x y L W2 gs s0 l1 l p q sm G W) {i n : Nat} (hi : ndI x y l p q = i) (hn : n = min (G p + G q + 1) 1000) (h0 : G i ≠ 0) (h1 : ¬ n < G i) : ApSt x y L W2 gs s0 l1 l p (q + 1) sm G W :=
  ⟨h.row, h.inv, h.le, h.sum, fun e1 => (h.fix e1).node (fun a b => by rw [hi]; exact ⟨h0, by omega⟩), h.gr, h.lt⟩
theorem ApSt.put (hx : InRu x.R L N) (hy : InRu y.R L N') (hN : N ≤ 3) (hN' : N' ≤ 3) (h : ApSt x y L W2 gs s0 l1 l p q sm G W) {i n : Nat} (hi : ndI x y l p q = i) (h64 : i < 64) (hl : l < L) (hn : n = min (G p + G q + 1) 1000) (hp : G p ≠ 0) (hq : G q ≠ 0) (h1 : G i = 0 ∨ n < G i) : ApSt x y L W2 gs s0 l1 l p (q + 1) true (updA G i n) (W.setCell ⟨gs, i, none⟩ (.int .i64 (n : Int))) := by
  refine ⟨h.row.put h64, ?_, fun s => ?_, ?_, (fun e1 => by cases e1), grown_trans h.gr (grown_set _ _ _), by simpa [World.setCell] using h.lt⟩
  · have := h.inv.nd hx hy hN hN' hl hp hq; rw [hi, ← hn] at this; exact this
  · unfold updA; split
    · omega
    · exact h.le s
  · have h1 := sumA_upd (G := G) (n := 64) (v := n) h64 (by unfold wtA; split <;> split <;> omega)
    have h2 := h.sum
    unfold bitA at h2 ⊢
    simp only [if_true]
    split at h2 <;> omega
theorem ApSt.nextP (h : ApSt x y L W2 gs s0 l1 l p 64 sm G W) : ApSt x y L W2 gs s0 l1 l (p + 1) 0 sm G W := ⟨h.row, h.inv, h.le, h.sum, fun e1 => (h.fix e1).nextP, h.gr, h.lt⟩
theorem ApSt.nextL (h : ApSt x y L W2 gs s0 (l + 1) l 64 0 sm G W) : ApSt x y L W2 gs s0 (l + 1) (l + 1) 0 0 sm G W := ⟨h.row, h.inv, h.le, h.sum, fun e1 => (h.fix e1).nextL, h.gr, h.lt⟩
end
theorem lfI_lt (hx : InRu x.R L N) (hy : InRu y.R L N') (hN : N ≤ 3) (hN' : N' ≤ 3) (l : Nat) : nxA x.R l 1 1 = 2 * (nxA x.R l 1 1 / 2) ∧ nxA y.R l 1 1 = 2 * (nxA y.R l 1 1 / 2) ∧ nxA x.R l 1 1 / 2 < 8 ∧ nxA y.R l 1 1 / 2 < 8 :=
  ⟨(nxA_half hx hN l 1 1).1, (nxA_half hy hN' l 1 1).1, (nxA_half hx hN l 1 1).2, (nxA_half hy hN' l 1 1).2⟩
/-- The sum, off the world. -/
def sumC (W : World) (g n : Nat) : Nat := sumA (fun i => match W.cell? ⟨g, i, none⟩ with | some (.int .i64 z) => z.toNat | _ => 0) n
theorem ARow.sum {W : World} {g : Nat} {G : Nat → Nat} (h : ARow W g G) : sumC W g 64 = sumA G 64 := sumA_congr fun i hi => by
  have := h.cell hi
  simp only [this]
  simp
theorem LeastI.skip {G : Nat → Nat} {k r : Nat} (h : LeastI x y G k r) (e : G k = 0 ∨ sepB x y k = false ∨ (r ≠ 0 ∧ r ≤ G k)) : LeastI x y G (k + 1) r := by
  refine ⟨fun hr => ?_, fun s hs h1 h2 => ?_⟩
  · obtain ⟨s, a, b⟩ := h.1 hr; exact ⟨s, by omega, b⟩
  · by_cases es : s = k
    · subst es
      rcases e with e | e | e
      · exact absurd e h1
      · rw [e] at h2; cases h2
      · exact e
    · exact h.2 s (by omega) h1 h2
theorem LeastI.take {G : Nat → Nat} {k r : Nat} (h : LeastI x y G k r) (h0 : G k ≠ 0) (h1 : sepB x y k = true) (e : r = 0 ∨ G k < r) : LeastI x y G (k + 1) (G k) := by
  refine ⟨fun hr => ⟨k, by omega, h0, h1, rfl⟩, fun s hs a b => ⟨h0, ?_⟩⟩
  by_cases es : s = k
  · subst es; exact Nat.le_refl _
  · have := h.2 s (by omega) a b
    omega
end

end Go.Proofs.Ytppikfgfmlipmaa
