/- Which trees are accepted: what the program's accepts goes by. -/
import Derived.Test.YtofjmakmbmndoaaTrAccD
import Derived.Test.YtofjmakmbmndoaaTrPlace
import Derived.Laws.EntriesVeiled
import Derived.Deep.RegionWith
import Derived.Deep.RegionHeld3
import Derived.Deep.CutRange
import Derived.Deep.DeepCutAuto
namespace Go.Proofs.Ytofjmakmbmndoaa
open Go.RowKit
set_option linter.unusedVariables false

/-- Rows of truths in a row of one's own, from block B on. -/
def RowS (B : Nat) (wr : World) (v : Value) (k n : Nat) (S : Nat → Nat → Bool) : Prop :=
  ∃ gs : List Nat, gs.length = k ∧ wr.ownsRow B 48 1 v k (slcs n gs) ∧ (∀ j, j < k → BRow wr (gs.getD j 0) n (S j))
theorem RowS.kept {B : Nat} {wr w' : World} {v : Value} {k n : Nat} {S : Nat → Nat → Bool} (h : RowS B wr v k n S) (hg : wr.grownBy w' none) : RowS B w' v k n S := by
  obtain ⟨gs, h1, h2, h3⟩ := h
  exact ⟨gs, h1, h2.kept hg (by cases v.ownBlock <;> simp), fun j hj => (h3 j hj).kept hg⟩
/-- A box of another kind is written over. -/
theorem RowS.far {B : Nat} {wr w' : World} {v : Value} {k n bn : Nat} {S : Nat → Nat → Bool} {cur : Array Value} (h : RowS B wr v k n S) (hg : wr.grownBy w' (some bn)) (hb : bn < B) (hc : wr.heap[bn]? = some (.cells cur 53 (0, 0))) : RowS B w' v k n S := by
  obtain ⟨gs, h1, h2, h3⟩ := h
  refine ⟨gs, h1, h2.kept hg ?_, fun j hj => (h3 j hj).block (hg.block _ (h3 j hj).lt fun e => ?_)⟩
  · cases hv : v.ownBlock with
    | none => simp
    | some x =>
      right
      intro e
      have := (h2.lt x hv).1
      cases e
      omega
  · have e' : bn = gs.getD j 0 := Option.some.inj e.symm
    obtain ⟨cur', q1, _⟩ := h3 j hj
    rw [← e', hc] at q1
    cases q1
theorem RowS.row {B : Nat} {wr : World} {a : Option Addr} {c k n : Nat} {S : Nat → Nat → Bool} (h : RowS B wr (.slice a k c) k n S) {j : Nat} (hj : j < k) : ∃ g gj, a = some ⟨g, 0, none⟩ ∧ wr.cell? ⟨g, j, none⟩ = some (.slice (some ⟨gj, 0, none⟩) n n) ∧ BRow wr gj n (S j) := by
  obtain ⟨gs, h1, h2, h3⟩ := h
  obtain ⟨g, cap, e, _, _⟩ := h2.form (by omega)
  cases e
  refine ⟨g, gs.getD j 0, rfl, ?_, h3 j hj⟩
  rw [h2.cellAt j (by omega)]
  simp [slcs, List.getD, List.getElem?_eq_getElem (show j < gs.length by omega)]
theorem rowS_nil (B : Nat) (W1 : World) (n : Nat) (S : Nat → Nat → Bool) : RowS B W1 (.slice none 0 0) 0 n S := ⟨[], rfl, World.ownsRow_nil _ _ _ _, fun j hj => by omega⟩
theorem RowS.app {B : Nat} {wr : World} {a : Option Addr} {c k n go : Nat} {S : Nat → Nat → Bool} (h : RowS B wr (.slice a k c) k n S) (hB : B ≤ wr.heap.size) (hb : BRow wr go n (S k)) (hk : k ≤ 100) :
    ∃ g c' w2, (AppS #[53, 53] 53 #[.slice a k c, .slice (some ⟨wr.heap.size, 0, none⟩) 1 1]).run Try.prog (wr.alloc (.cells #[.slice (some ⟨go, 0, none⟩) n n] 48)) = .ok (.slice (some ⟨g, 0, none⟩) (k + 1) c') w2 ∧ RowS B w2 (.slice (some ⟨g, 0, none⟩) (k + 1) c') (k + 1) n S ∧ Below B wr w2 ∧ (∀ x n' o, BRow wr x n' o → BRow w2 x n' o) := by
  obtain ⟨gs, h1, h2, h3⟩ := h
  obtain ⟨i0, hi0, hz0, hz1, hz2⟩ := info_partsW Try.infoRowZ
  have hnew := heap_alloc_new wr (.cells #[.slice (some ⟨go, 0, none⟩) n n] 48)
  have gW : wr.grownBy (wr.alloc (.cells #[.slice (some ⟨go, 0, none⟩) n n] 48)) none := grown_alloc _ _
  have hsz : (wr.alloc (.cells #[.slice (some ⟨go, 0, none⟩) n n] 48)).heap.size = wr.heap.size + 1 := by rw [World.size_alloc]
  have ho2 : (wr.alloc (.cells #[.slice (some ⟨go, 0, none⟩) n n] 48)).ownsRow B 48 1 (.slice a k c) k (slcs n gs) := h2.alloc _
  obtain ⟨g, c', w2, hr, r2, r3, _, _⟩ := run_append_lies (P := Try.prog) (wr.alloc (.cells #[.slice (some ⟨go, 0, none⟩) n n] 48)) 53 53 B 48 i0 (.slice none 0 0) 1 24 Try.underlying53 hi0 hz0 hz1 hz2 rfl (by decide) (.slice a k c) k (slcs n gs) ho2 ⟨wr.heap.size, 0, none⟩ 1 1 [.slice (some ⟨go, 0, none⟩) n n] rfl (fun j u hu => World.news_of_block hnew j u (by simpa using hu)) (by intro u hu; simp at hu; subst hu; rfl) (by omega) (by unfold maxLen; omega) (by omega) (by omega) _ rfl
  have hap : ∀ (x n' : Nat) (o : Nat → Bool), BRow wr x n' o → BRow w2 x n' o := fun x n' o hx => by
    refine (hx.kept gW).block (r3.block x (by have := hx.lt; omega) ?_)
    intro e
    rcases h2.2 with ⟨e1, _⟩ | ⟨g', cap', cur, e1, _, e3, _⟩
    · rw [e1] at e; simp [Value.ownBlock] at e
    · rw [e1] at e
      simp [Value.ownBlock] at e
      subst e
      obtain ⟨cur', q1, _⟩ := hx
      rw [e3] at q1
      cases q1
  refine ⟨g, c', w2, hr, ⟨gs ++ [go], by simp [h1], ?_, fun j hj => ?_⟩, ?_, hap⟩
  · have e : slcs n gs ++ [Value.slice (some ⟨go, 0, none⟩) n n] = slcs n (gs ++ [go]) := by simp [slcs]
    rw [← e]; exact r2
  · by_cases e : j < k
    · have : (gs ++ [go]).getD j 0 = gs.getD j 0 := by simp [List.getD, List.getElem?_append_left (show j < gs.length by omega)]
      rw [this]; exact hap _ _ _ (h3 j e)
    · obtain rfl : j = k := by omega
      have : (gs ++ [go]).getD j 0 = go := by simp [List.getD, ← h1]
      rw [this]; exact hap _ _ _ hb
  · refine ⟨r3.os.trans gW.os, r3.tape.trans gW.tape, r3.output.trans gW.output, Nat.le_trans gW.size r3.size, fun x hx => ?_⟩
    refine (r3.block x (by omega) (fun e => ?_)).trans (gW.block x (by omega) (by simp))
    have := (h2.lt x e.symm).1
    omega

theorem below_leaf (bc bn : Nat) (v : Value) (w : World) (h : w.cell? ⟨bc, 0, none⟩ = some v) (hv : ∃ g n, v = .slice (some ⟨g, 0, none⟩) n n) : Calls Try.prog 29 #[.int .i64 (-1), .pointer (some ⟨bc, 0, none⟩), .pointer (some ⟨bn, 0, none⟩)] w fun e w' => e = .returned v ∧ w' = w := by
  obtain ⟨g, n, rfl⟩ := hv
  go_enter Try.func29, Try.ntmps29
  go_wp2_with fail
  go_ret
  exact ⟨rfl, rfl⟩
theorem below_kid (bc bn k c g gj n ca : Nat) (w : World) (h : w.cell? ⟨bn, 0, none⟩ = some (.slice (some ⟨g, 0, none⟩) k c)) (h2 : w.cell? ⟨g, ca, none⟩ = some (.slice (some ⟨gj, 0, none⟩) n n)) (hk : ca < k) (hk2 : k ≤ 100) : Calls Try.prog 29 #[.int .i64 (ca : Int), .pointer (some ⟨bc, 0, none⟩), .pointer (some ⟨bn, 0, none⟩)] w fun e w' => e = .returned (.slice (some ⟨gj, 0, none⟩) n n) ∧ w' = w := by
  have e1 : ((ca : Int) == -1) = false := by rw [beq_eq_false_iff_ne]; omega
  have e2 : (ca : Int) < (k : Int) := by omega
  go_enter Try.func29, Try.ntmps29
  go_wp2_with fail
  go_ret
  exact ⟨rfl, rfl⟩

/-- A child that is not there. -/
def chB : Nat → Bool := fun j => decide (j = 0)
/-- The rows of both children, and what they tell of a rule. -/
def Kids (W : World) (n : Nat) (S : Nat → Nat → Bool) (nd : NodeI) (gl gr : Nat) (fl fr : Nat → Bool) : Prop :=
  BRow W gl n fl ∧ BRow W gr n fr ∧ ∀ (a b c d : Int) (p q : Nat), b + 1 = p → c + 1 = q → (b = -1 ↔ c = -1) → hitB S nd (a, b, c, d) = ((a == nd.1) && (fl p && fr q))
theorem kids_leaf {W : World} {n gc : Nat} {S : Nat → Nat → Bool} {y : Int} (h : BRow W gc n chB) : Kids W n S (y, -1, -1) gc gc chB chB := by
  refine ⟨h, h, fun a b c d p q hb hc hbc => ?_⟩
  unfold hitB chB
  by_cases e : b = -1
  · have e2 := hbc.1 e
    subst e e2
    have : p = 0 := by omega
    have : q = 0 := by omega
    subst p q
    simp
  · have e1 : (b == -1) = false := by simpa using e
    have : ¬ p = 0 := by omega
    simp [e1, this]
theorem kids_both {W : World} {n gl gr ca cb : Nat} {S : Nat → Nat → Bool} {y : Int} (h1 : BRow W gl n (shB (S ca))) (h2 : BRow W gr n (shB (S cb))) : Kids W n S (y, (ca : Int), (cb : Int)) gl gr (shB (S ca)) (shB (S cb)) := by
  refine ⟨h1, h2, fun a b c d p q hb hc hbc => ?_⟩
  by_cases e : b = -1
  · have e2 := hbc.1 e
    subst e e2
    have : p = 0 := by omega
    subst p
    have e1 : ((ca : Int) == -1) = false := by rw [beq_eq_false_iff_ne]; omega
    unfold hitB
    simp [e1, shB_zero]
  · have e2 : ¬ c = -1 := fun h => e (hbc.2 h)
    by_cases hl : a = y
    · by_cases hneg : 0 ≤ b ∧ 0 ≤ c
      · obtain ⟨p', rfl⟩ : ∃ p' : Nat, b = p' := ⟨b.toNat, by omega⟩
        obtain ⟨q', rfl⟩ : ∃ q' : Nat, c = q' := ⟨c.toNat, by omega⟩
        obtain rfl : p = p' + 1 := by omega
        obtain rfl : q = q' + 1 := by omega
        rw [hitB_both hl, shB_succ, shB_succ]
        simp [hl]
      · omega
    · rw [hitB_let (by simpa using hl)]
      have : (a == y) = false := by simpa using hl
      simp [this]
theorem Kids.kept {W W' : World} {n : Nat} {S : Nat → Nat → Bool} {nd : NodeI} {gl gr : Nat} {fl fr : Nat → Bool} (h : Kids W n S nd gl gr fl fr) (hg : W.grownBy W' none) : Kids W' n S nd gl gr fl fr := ⟨h.1.kept hg, h.2.1.kept hg, h.2.2⟩

end Go.Proofs.Ytofjmakmbmndoaa
