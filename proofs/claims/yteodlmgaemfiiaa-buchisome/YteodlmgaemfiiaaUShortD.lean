/- buchi.shortest: what holds while it goes. -/
import Derived.Test.YteodlmgaemfiiaaUWordT
import Derived.Test.YteodlmgaemfiiaaUAccR
namespace Go.Proofs.Yteodlmgaemfiiaa
open Go.RowKit
set_option linter.unusedVariables false

theorem rise_ge {zs : List Int} {n : Int} (hr : Rise zs) (hi : InR zs n) : ∀ i, i < zs.length → (i : Int) ≤ zs.getD i 0 := by
  intro i
  induction i with
  | zero => intro h; exact (hi 0 h).1
  | succ i ih =>
    intro h
    have h1 := ih (by omega)
    have h2 := hr i (by omega)
    omega
theorem rise_le {zs : List Int} {n : Int} (hr : Rise zs) (hi : InR zs n) (hn : 0 ≤ n) : (zs.length : Int) ≤ n := by
  rcases Nat.eq_zero_or_pos zs.length with h | h
  · omega
  · have h1 := rise_ge hr hi (zs.length - 1) (by omega)
    have h2 := (hi (zs.length - 1) (by omega)).2
    omega

set_option maxHeartbeats 1600000 in
theorem length_any (a a' : Option Addr) (p q c c' : Nat) (hp : p ≤ 1000000) (hq : q ≤ 1000000) (w : World) : Calls Try.prog 71 #[lasV a p c a' q c'] w (Says (.int .i64 ((p : Int) + q)) w) := by
  have w1 : IntKind.i64.wrap ((p : Int) + q) = (p : Int) + q := by rw [IntKind.wrap_i64]; omega
  have G : Hid (∀ o, w.grownBy (w.alloc o) none) := fun o => grown_alloc w o
  clear hp hq
  go_enter Try.func71, Try.ntmps71
  go_wp2_with fail
  go_ret
  exact ⟨rfl, G.out _⟩

/-- A lasso as the document asks it. -/
structure Best (T : List StepI) (ss fs l : Nat) (hd lp : List Nat) : Prop where
  acc : AccL T ss fs hd lp
  h3 : hd.length ≤ 300
  l3 : lp.length ≤ 300
  l1 : 1 ≤ lp.length
  hl : ∀ a, a ∈ hd → a < l
  ll : ∀ a, a ∈ lp → a < l
def SoFar (T : List StepI) (ss fs l : Nat) (F : List Int) (fo : Bool) (hd lp : List Nat) (k : Nat) : Prop :=
  (fo = true ∧ Best T ss fs l hd lp) ∨ (fo = false ∧ hd = [] ∧ lp = [] ∧ ∀ j, j < k → ¬ SomeAt T ss (F.getD j 0).toNat)
section
variable {T : List StepI} {ss fs l : Nat} {F : List Int} {fo : Bool} {hd lp : List Nat} {k : Nat}
theorem SoFar.skip (h : SoFar T ss fs l F fo hd lp k) (hn : ¬ SomeAt T ss (F.getD k 0).toNat) : SoFar T ss fs l F fo hd lp (k + 1) := by
  rcases h with h | ⟨h1, h2, h3, h4⟩
  · exact .inl h
  · refine .inr ⟨h1, h2, h3, fun j hj => ?_⟩
    by_cases e : j = k
    · subst e; exact hn
    · exact h4 j (by omega)
theorem SoFar.small (h : SoFar T ss fs l F fo hd lp k) : hd.length ≤ 300 ∧ lp.length ≤ 300 := by
  rcases h with ⟨_, h⟩ | ⟨_, h2, h3, _⟩
  · exact ⟨h.h3, h.l3⟩
  · rw [h2, h3]; simp
theorem SoFar.found (h : SoFar T ss fs l F true hd lp k) : SoFar T ss fs l F true hd lp (k + 1) := by
  rcases h with h | ⟨h1, _⟩
  · exact .inl h
  · cases h1
theorem SoFar.end_ (h : SoFar T ss (setOf F) l F fo hd lp F.length) : (fo = true ∧ Best T ss (setOf F) l hd lp) ∨ (fo = false ∧ hd = [] ∧ lp = [] ∧ ∀ h' l', ¬ AccL T ss (setOf F) h' l') := by
  rcases h with h | ⟨h1, h2, h3, h4⟩
  · exact .inl h
  · refine .inr ⟨h1, h2, h3, fun h' l' hA => ?_⟩
    obtain ⟨f, hf, hs⟩ := some_of_acc hA
    obtain ⟨z, hz, e⟩ := setOf_bit.1 hf
    obtain ⟨j, hj, e2⟩ := List.getElem_of_mem hz
    refine h4 j hj ?_
    rw [List.getD, List.getElem?_eq_getElem hj, Option.getD_some, e2, e]
    exact hs
/-- No trail of the heads comes to the state. -/
theorem no_head {bs : List Nat} {tr : List Trl} {f : Nat} (hb : ∀ q, ss.testBit q = true → q ∈ bs) (ht : TrAt T bs tr) (he : TrEnd T bs tr) (hn : ∀ (j : Nat) (t : Trl), 0 ≤ j → tr[j]? = some t → t.st ≠ f) : ¬ SomeAt T ss f := by
  rintro ⟨⟨w, q0, h0, hp⟩, _⟩
  by_cases hw : w = []
  · subst hw
    have e : q0 = f := hp
    subst e
    obtain ⟨j, hj, e2⟩ := List.getElem_of_mem (hb q0 h0)
    have h1 := ht.begin_ j hj
    refine hn j _ (by omega) h1 ?_
    simp [List.getD, hj, e2]
  · obtain ⟨j, u, _, h2, h3⟩ := TrEnd.all ht he hw (hb q0 h0) hp
    exact hn j u (by omega) h2 h3
theorem no_loop {tr : List Trl} {f : Nat} (ht : TrAt T [f] tr) (he : TrEnd T [f] tr) (hn : ∀ (j : Nat) (t : Trl), 1 ≤ j → tr[j]? = some t → t.st ≠ f) : ¬ SomeAt T ss f := by
  rintro ⟨_, w, hw, hp⟩
  obtain ⟨j, u, h1, h2, h3⟩ := TrEnd.all ht he hw (by simp) hp
  exact hn j u h1 h2 h3
theorem best_of {bs : List Nat} {tr tl : List Trl} {f i j n : Nat} {t u : Trl} (hT : InT T l n) (hn : 1 ≤ n) (hn3 : n ≤ 300) (hb : ∀ q, q ∈ bs → ss.testBit q = true) (hf : fs.testBit f = true) (ht : TrAt T bs tr) (hl : tr.length ≤ bs.length + n) (hi : tr[i]? = some t) (hts : t.st = f) (ht' : TrAt T [f] tl) (hl' : tl.length ≤ 1 + n) (h1j : 1 ≤ j) (hj : tl[j]? = some u) (hus : u.st = f) : Best T ss fs l (wd tr i) (wd tl j) := by
  obtain ⟨b, h1, h2, h3, _, _⟩ := wd_word ht i t hi
  obtain ⟨b', g1, g2, g3, g4, _⟩ := wd_word ht' j u hj
  have e : b' = f := by simpa using g1
  subst e
  rw [hts] at h2
  rw [hus] at g2
  have hil := (List.getElem?_eq_some_iff.1 hi).1
  have hjl := (List.getElem?_eq_some_iff.1 hj).1
  have g4' := g4 (by simpa using h1j)
  simp only [List.length_singleton] at g3
  exact ⟨acc_of_some (hb b h1) h2 hf (fun e => by rw [e] at g4'; simp at g4') g2, by omega, by omega, g4', plain_letters hT h2, plain_letters hT g2⟩
end

/-- The best lasso so far, in its box. -/
structure BestAt (W : World) (bb : Nat) (hd lp : List Nat) (a : Option Addr) (c : Nat) (a' : Option Addr) (c' : Nat) : Prop where
  box : W.heap[bb]? = some (.cells #[.slice a hd.length c, .slice a' lp.length c'] 42 (0, 0))
  ih : Ints W a (natInts hd)
  il : Ints W a' (natInts lp)
section
variable {W W' : World} {bb : Nat} {hd lp : List Nat} {a a' : Option Addr} {c c' : Nat}
theorem BestAt.grown (h : BestAt W bb hd lp a c a' c') (hg : W.grownBy W' none) : BestAt W' bb hd lp a c a' c' :=
  ⟨(hg.block bb (Array.getElem?_eq_some_iff.1 h.box).1 (by simp)).trans h.box, h.ih.grown hg, h.il.grown hg⟩
theorem BestAt.cells (h : BestAt W bb hd lp a c a' c') : W.cell? ⟨bb, 0, none⟩ = some (.slice a hd.length c) ∧ W.cell? ⟨bb, 1, none⟩ = some (.slice a' lp.length c') ∧ ∀ k, W.frozen? ⟨bb, k, none⟩ = false :=
  ⟨by rw [cell_of_row _ _ 0 _ _ (0, 0) h.box]; rfl, by rw [cell_of_row _ _ 1 _ _ (0, 0) h.box]; rfl, fun k => frozen_of_row W bb k _ _ h.box⟩
theorem BestAt.apart (h : BestAt W bb hd lp a c a' c') {b o : Nat} {k : IntKind} {z : Int} (hc : W.cell? ⟨b, o, none⟩ = some (.int k z)) : some b ≠ some bb := fun e => by
  cases e
  rw [cell_of_row _ _ o _ _ (0, 0) h.box] at hc
  match o, hc with
  | 0, hc => simp at hc
  | 1, hc => simp at hc
  | o + 2, hc => simp at hc
theorem BestAt.ints (h : BestAt W bb hd lp a c a' c') {e : Option Addr} {zs : List Int} (hi : Ints W e zs) (hg : W.grownBy W' (some bb)) : Ints W' e zs := by
  rcases hi with rfl | ⟨b, off, e1, hc⟩
  · exact .inl rfl
  · exact .inr ⟨b, off, e1, fun i hi => hg.cell (hc i hi) (h.apart (hc i hi))⟩
theorem BestAt.steps (h : BestAt W bb hd lp a c a' c') {e : Option Addr} {T : List StepI} (hi : StepsAt W e T) (hg : W.grownBy W' (some bb)) : StepsAt W' e T := by
  rcases hi with rfl | ⟨b, off, e1, hc⟩
  · exact .inl rfl
  · refine .inr ⟨b, off, e1, fun i hi => ?_⟩
    obtain ⟨h1, h2, h3⟩ := hc i hi
    exact ⟨hg.cell h1 (h.apart h1), hg.cell h2 (h.apart h2), hg.cell h3 (h.apart h3)⟩
theorem BestAt.tab (h : BestAt W bb hd lp a c a' c') {gt n : Nat} {T : List StepI} (hi : StepTab W gt n T) (hne : gt ≠ bb) (hg : W.grownBy W' (some bb)) : StepTab W' gt n T := fun f hf => by
  obtain ⟨a1, c1, h1, h2⟩ := hi f hf
  exact ⟨a1, c1, hg.cell h1 (fun e => hne (by cases e; rfl)), h.steps h2 hg⟩
/-- Another lasso is the best. -/
theorem BestAt.put (h : BestAt W bb hd lp a c a' c') {hd' lp' : List Nat} {e e' : Option Addr} {d d' : Nat} (hi : Ints W e (natInts hd')) (hl : Ints W e' (natInts lp')) {v0 v1 : Value} (h0 : v0 = .slice e hd'.length d) (h1 : v1 = .slice e' lp'.length d') : BestAt ((W.setCell ⟨bb, 0, none⟩ v0).setCell ⟨bb, 1, none⟩ v1) bb hd' lp' e d e' d' ∧ W.grownBy ((W.setCell ⟨bb, 0, none⟩ v0).setCell ⟨bb, 1, none⟩ v1) (some bb) := by
  subst h0 h1
  have hg : W.grownBy ((W.setCell ⟨bb, 0, none⟩ (.slice e hd'.length d)).setCell ⟨bb, 1, none⟩ (.slice e' lp'.length d')) (some bb) := grown_trans (grown_set _ _ _) (grown_set _ _ _)
  refine ⟨⟨?_, h.ints hi hg, h.ints hl hg⟩, hg⟩
  have h2 := heap_setCell_same W bb 0 _ _ (.slice e hd'.length d) h.box
  have h3 := heap_setCell_same _ bb 1 _ _ (.slice e' lp'.length d') h2
  exact h3
end

/-- What shortest answers. -/
def ShortPost (T : List StepI) (ss fs l : Nat) (w : World) (E : Ending) (w' : World) : Prop :=
  ∃ (fo : Bool) (hd lp : List Nat) (a : Option Addr) (c : Nat) (a' : Option Addr) (c' : Nat), E = .returned (.tuple #[lasV a hd.length c a' lp.length c', .bool fo]) ∧ Ints w' a (natInts hd) ∧ Ints w' a' (natInts lp) ∧ w.grownBy w' none ∧ ((fo = true ∧ Best T ss fs l hd lp) ∨ (fo = false ∧ hd = [] ∧ lp = [] ∧ ∀ h' l', ¬ AccL T ss fs h' l'))

end Go.Proofs.Yteodlmgaemfiiaa
