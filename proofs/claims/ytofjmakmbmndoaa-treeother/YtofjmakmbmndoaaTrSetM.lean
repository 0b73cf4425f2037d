/- Sets that trees lead to, one after the other: the list, the map that numbers it, both in memory. -/
import Derived.Test.YtofjmakmbmndoaaTrSub
import Derived.Test.YtofjmakmbmndoaaTrRow
import Derived.Test.YtofjmakmbmndoaaLOwn
import Derived.Maps.Own
import Derived.Maps.OwnOps
import Derived.Maps.OwnSet
import Derived.Maps.Views
namespace Go.Proofs.Ytofjmakmbmndoaa
open Go.RowKit Go.Maps
set_option linter.unusedVariables false
set_option linter.unusedSimpArgs false

theorem nodup_leT (n : Nat) : ∀ xs : List Nat, xs.Nodup → (∀ x, x ∈ xs → x < n) → xs.length ≤ n := by
  induction n with
  | zero =>
    intro xs _ h
    cases xs with
    | nil => simp
    | cons x xs => exact absurd (h x (by simp)) (by omega)
  | succ n ih =>
    intro xs hn h
    have h1 : (xs.filter (fun x => decide (x ≠ n))).length ≤ n := ih _ (hn.sublist List.filter_sublist) (fun x hx => by
      obtain ⟨h2, h3⟩ := List.mem_filter.1 hx
      have := h x h2
      have : x ≠ n := by simpa using h3
      omega)
    have h2 : xs.length ≤ (xs.filter (fun x => decide (x ≠ n))).length + 1 := by
      clear ih h h1
      induction xs with
      | nil => simp
      | cons x xs ih =>
        obtain ⟨h3, h4⟩ := List.nodup_cons.1 hn
        by_cases e : x = n
        · have : xs.filter (fun x => decide (x ≠ n)) = xs := List.filter_eq_self.2 fun y hy => by
            simp
            rintro rfl
            exact h3 (e ▸ hy)
          rw [List.filter_cons_of_neg (by simp [e]), this]
          simp
        · rw [List.filter_cons_of_pos (by simp [e])]
          have := ih h4
          simp only [List.length_cons]
          omega
    omega
/-- A set is put behind, if it is new. -/
def addS (X : List Nat) (s : Nat) : List Nat := if s ∈ X then X else X ++ [s]
theorem addS_mem (X : List Nat) (s : Nat) : s ∈ addS X s := by
  unfold addS
  split
  · assumption
  · simp
theorem addS_sub {X : List Nat} {s t : Nat} (h : t ∈ X) : t ∈ addS X s := by
  unfold addS
  split
  · exact h
  · exact List.mem_append_left _ h
theorem addS_get {X : List Nat} {s p : Nat} (h : p < X.length) : (addS X s).getD p 0 = X.getD p 0 := by
  unfold addS
  split
  · rfl
  · simp [List.getD, List.getElem?_append_left h]
theorem addS_len (X : List Nat) (s : Nat) : X.length ≤ (addS X s).length := by
  unfold addS
  split
  · exact Nat.le_refl _
  · simp
/-- All are sets of states, each comes once. -/
structure AreS (N : Nat) (X : List Nat) : Prop where
  nodup : X.Nodup
  lt : ∀ s, s ∈ X → s < 2 ^ (N + 1) ∧ s.testBit 0 = false
theorem AreS.add {N : Nat} {X : List Nat} (h : AreS N X) {s : Nat} (hs : s < 2 ^ (N + 1) ∧ s.testBit 0 = false) : AreS N (addS X s) := by
  unfold addS
  split
  · exact h
  · next hn =>
    refine ⟨?_, fun t ht => ?_⟩
    · rw [List.nodup_append]
      exact ⟨h.nodup, by simp, fun a ha b hb => by simp at hb; subst hb; rintro rfl; exact hn ha⟩
    · rcases List.mem_append.1 ht with h1 | h1
      · exact h.lt t h1
      · simp at h1; subst h1; exact hs
theorem AreS.len {N : Nat} {X : List Nat} (h : AreS N X) (hN : N ≤ 6) : X.length ≤ 64 := by
  have h2 : 2 ^ (N + 1) ≤ 2 ^ 7 := Nat.pow_le_pow_right (by decide) (by omega)
  have h1 : (X.map (· / 2)).length ≤ 64 := by
    refine nodup_leT 64 _ ?_ fun x hx => ?_
    · have : X.Pairwise (fun a b => a / 2 ≠ b / 2) := by
        refine (List.Pairwise.and_mem.1 h.nodup).imp fun {a b} hab e => ?_
        obtain ⟨ha, hb, hne⟩ := hab
        have e1 := (h.lt a ha).2
        have e2 := (h.lt b hb).2
        rw [Nat.testBit_zero, decide_eq_false_iff_not] at e1 e2
        omega
      exact List.pairwise_map.2 this
    · obtain ⟨y, hy, rfl⟩ := List.mem_map.1 hx
      have := (h.lt y hy).1
      omega
  simpa using h1
/-- Which pairs have been looked at. -/
def DoneS (R : List RuleI) (L : Nat) (X : List Nat) (i j l : Nat) : Prop :=
  ∀ l' p q : Nat, l' < L → ((p < i ∧ q < i) ∨ (p = i ∧ q < j) ∨ (q = i ∧ p < j) ∨ (l' < l ∧ ((p = i ∧ q = j) ∨ (p = j ∧ q = i)))) → nxA R l' (X.getD p 0) (X.getD q 0) ∈ X
theorem DoneS.grow {R : List RuleI} {L : Nat} {X : List Nat} {i j l s : Nat} (h : DoneS R L X i j l) (hi : i < X.length) (hj : j ≤ i) : DoneS R L (addS X s) i j l := fun l' p q hl hpq => by
  rw [addS_get (by omega), addS_get (by omega)]
  exact addS_sub (h l' p q hl hpq)
theorem DoneS.pair {R : List RuleI} {L : Nat} {X : List Nat} {i j l : Nat} (h : DoneS R L X i j l) (h1 : nxA R l (X.getD i 0) (X.getD j 0) ∈ X) (h2 : nxA R l (X.getD j 0) (X.getD i 0) ∈ X) : DoneS R L X i j (l + 1) := fun l' p q hl hpq => by
  by_cases e : l' = l ∧ ((p = i ∧ q = j) ∨ (p = j ∧ q = i))
  · obtain ⟨rfl, ⟨rfl, rfl⟩ | ⟨rfl, rfl⟩⟩ := e
    · exact h1
    · exact h2
  · exact h l' p q hl (by omega)
theorem DoneS.nextJ {R : List RuleI} {L : Nat} {X : List Nat} {i j : Nat} (h : DoneS R L X i j L) : DoneS R L X i (j + 1) 0 := fun l' p q hl hpq => h l' p q hl (by omega)
theorem DoneS.nextI {R : List RuleI} {L : Nat} {X : List Nat} {i : Nat} (h : DoneS R L X i (i + 1) 0) : DoneS R L X (i + 1) 0 0 := fun l' p q hl hpq => h l' p q hl (by omega)
theorem DoneS.closed {R : List RuleI} {L N : Nat} {X : List Nat} (h : DoneS R L X X.length 0 0) (hL : ∀ l : Nat, l < L → nxA R l 1 1 ∈ X) (hX : AreS N X) : Closed R L X := by
  refine ⟨hL, fun l hl s hs t ht => ?_, hX.nodup⟩
  obtain ⟨p, hp, rfl⟩ := List.mem_iff_getElem.1 hs
  obtain ⟨q, hq, rfl⟩ := List.mem_iff_getElem.1 ht
  have := h l p q hl (.inl ⟨hp, hq⟩)
  simpa [List.getD, hp, hq] using this

theorem Try.keyedS : Keyed Try.prog 68 := int_keyed Try.underlying68
theorem zero3S (w : World) : (zeroValue 3).run Try.prog w = .ok (.int .i64 0) w := by kernel_rfl
/-- The map in block b numbers the sets. -/
def NumS (w : World) (b : Nat) (X : List Nat) : Prop :=
  ∃ D : DataW Unit, w.ownsMap Try.prog 68 (plainElem Try.prog 3) b X.length D ∧ (∀ y : Nat, y < 4611686018427387904 → (Maps.has D (.int .i64 y) = true ↔ y ∈ X)) ∧ ∀ i, i < X.length → ∀ z, D.atKey (.int .i64 ((X.getD i 0 : Nat) : Int)) z = .lit (.int .i64 i)
theorem wf64S {y : Nat} (h : y < 4611686018427387904) : (Lit.int .i64 (y : Int)).wf = true := WalkArith.wf_i64 (by omega)
theorem NumS.kept {w w' : World} {b : Nat} {X : List Nat} {row : Option Nat} (h : NumS w b X) (hg : w.grownBy w' row) (hne : row ≠ some b) : NumS w' b X := by
  obtain ⟨D, h1, h2⟩ := h
  exact ⟨D, h1.kept hg (Ne.symm hne), h2⟩
theorem NumS.lt {w : World} {b : Nat} {X : List Nat} (h : NumS w b X) : b < w.heap.size := by
  obtain ⟨D, ⟨es, clock, hb, _⟩, _⟩ := h
  exact (Array.getElem?_eq_some_iff.1 hb).1
theorem NumS.start (w : World) : NumS (w.alloc (.map #[] 0)) w.heap.size [] := ⟨.map [], World.ownsMap_made w _ _ _, fun y _ => by simp [Maps.has_eq], fun i hi => by simp at hi⟩
theorem keyLitS {y : Int} : WideAt.IsKeyLit (.int .i64 y) := by simp [WideAt.IsKeyLit]
theorem NumS.look {w : World} {b : Nat} {X : List Nat} (h : NumS w b X) {y : Nat} (hy : y < 4611686018427387904) :
    (y ∈ X → ∃ c, (Instr.lookup 72 (.map (some b)) (.int .i64 y) true).run Try.prog w = .ok (.tuple #[.int .i64 c, .bool true]) w) ∧
    (y ∉ X → ∃ c, (Instr.lookup 72 (.map (some b)) (.int .i64 y) true).run Try.prog w = .ok (.tuple #[.int .i64 c, .bool false]) w) := by
  obtain ⟨D, h1, h2, h3⟩ := h
  obtain ⟨v, ps, hrun, hv⟩ := h1.look_ok Try.keyedS Try.underlying72 (zero3S w) (plainElem_int Try.underlying3 (by decide)) (keyOf_int_mk Try.underlying68 (wf64S hy))
  obtain ⟨c, rfl, hc, hwc⟩ := plainElem_int_inv Try.underlying3 hv
  refine ⟨fun hm => ⟨c, by rw [hrun, (h2 y hy).2 hm]⟩, fun hm => ⟨c, ?_⟩⟩
  have : Maps.has D (.int .i64 (y : Int)) = false := by
    cases hb : Maps.has D (.int .i64 (y : Int)) with
    | false => rfl
    | true => exact absurd ((h2 y hy).1 hb) hm
  rw [hrun, this]
theorem NumS.num {w : World} {b : Nat} {X : List Nat} (h : NumS w b X) {y : Nat} (hy : y < 4611686018427387904) (hm : y ∈ X) :
    (Instr.lookup 72 (.map (some b)) (.int .i64 y) false).run Try.prog w = .ok (.int .i64 ((X.idxOf y : Nat) : Int)) w := by
  obtain ⟨D, h1, h2, h3⟩ := h
  obtain ⟨c, hrun, hat, hwc⟩ := h1.lookup_int Try.keyedS Try.underlying72 Try.underlying3 (zero3S w) (keyOf_int_mk Try.underlying68 (wf64S hy))
  have hi := List.idxOf_lt_length_of_mem hm
  have e1 := h3 (X.idxOf y) hi (.lit (.int .i64 0))
  have e2 : X.getD (X.idxOf y) 0 = y := by simp [List.getD, hi]
  rw [e2, hat] at e1
  have e3 : c = (X.idxOf y : Nat) := by simpa using e1
  rw [hrun, e3]
theorem NumS.put {w : World} {b : Nat} {X : List Nat} (h : NumS w b X) {y : Nat} (hy : y < 4611686018427387904) (hm : y ∉ X) (hl : X.length < 4611686018427387904) :
    ∃ w', (Instr.mapUpdate 72 (.map (some b)) (.int .i64 y) (.int .i64 X.length)).run Try.prog w = .ok () w' ∧ NumS w' b (X ++ [y]) ∧ w.grownBy w' (some b) := by
  obtain ⟨D, h1, h2, h3⟩ := h
  obtain ⟨w', hrun, h4, h5⟩ := h1.update Try.keyedS Try.underlying72 (by unfold maxLen; omega) (keyOf_int_mk Try.underlying68 (wf64S hy)) (plainElem_int Try.underlying3 (wf64S hl))
  refine ⟨w', hrun, ⟨_, by simpa using h4, fun z hz => ?_, fun i hi z => ?_⟩, h5⟩
  · by_cases hzy : z = y
    · subst hzy
      rw [has_put_same h1.isMap keyLitS]
      simp
    · rw [has_put_other (by simp; omega), h2 z hz]
      simp [hzy]
  · simp at hi
    by_cases hil : i < X.length
    · have hmem : X.getD i 0 ∈ X := by simp [List.getD, hil]
      have e0 : (X ++ [y]).getD i 0 = X.getD i 0 := by simp [List.getD, List.getElem?_append_left hil]
      rw [e0, atKey_put_other (fun e => hm (by have e3 := e; simp only [Lit.int.injEq, true_and] at e3; have e2 : X.getD i 0 = y := Int.ofNat.inj e3; rw [← e2]; exact hmem))]
      exact h3 i hil z
    · have : i = X.length := by omega
      subst this
      have e : (X ++ [y]).getD X.length 0 = y := by simp [List.getD]
      rw [e, atKey_put_same h1.isMap keyLitS]

def valN (X : List Nat) : List Value := X.map fun s => Value.int .i64 ((s : Nat) : Int)
theorem valN_snoc (X : List Nat) (s : Nat) : valN (X ++ [s]) = valN X ++ [.int .i64 ((s : Nat) : Int)] := by simp [valN]
/-- The list in its box, the map in its box: all from block bs on. -/
structure ComeAt (w0 w : World) (bs : Nat) (a : Option Addr) (c : Nat) (X : List Nat) : Prop where
  box : w.heap[bs]? = some (.cells #[.slice a X.length c] 71 (0, 0))
  num : NumS w (bs + 1) X
  mbox : w.heap[bs + 1 + 1]? = some (.cells #[.map (some (bs + 1))] 72 (0, 0))
  row : w.ownsRow (bs + 1 + 1 + 1) 68 1 (.slice a X.length c) X.length (valN X)
  bel : Below bs w0 w
  big : bs + 1 + 1 < w.heap.size
theorem ComeAt.kept {w0 w w' : World} {bs : Nat} {a : Option Addr} {c : Nat} {X : List Nat} (h : ComeAt w0 w bs a c X) (hg : w.grownBy w' none) : ComeAt w0 w' bs a c X := by
  have hb := h.big
  exact ⟨(hg.block _ (by omega) (by simp)).trans h.box, h.num.kept hg (by simp), (hg.block _ (by omega) (by simp)).trans h.mbox, h.row.kept hg (by cases (Value.slice a X.length c).ownBlock <;> simp), h.bel.trans (Below.mono (below_of_grown hg) (by omega)), Nat.lt_of_lt_of_le hb hg.size⟩
theorem ComeAt.cells {w0 w : World} {bs : Nat} {a : Option Addr} {c : Nat} {X : List Nat} (h : ComeAt w0 w bs a c X) : w.cell? ⟨bs, 0, none⟩ = some (.slice a X.length c) ∧ w.frozen? ⟨bs, 0, none⟩ = false ∧ w.cell? ⟨bs + 1 + 1, 0, none⟩ = some (.map (some (bs + 1))) :=
  ⟨by rw [cell_of_row _ _ 0 _ _ (0, 0) h.box]; rfl, frozen_of_row w bs 0 _ _ h.box, by rw [cell_of_row _ _ 0 _ _ (0, 0) h.mbox]; rfl⟩
theorem ComeAt.at {w0 w : World} {bs : Nat} {a : Option Addr} {c : Nat} {X : List Nat} (h : ComeAt w0 w bs a c X) {i : Nat} (hi : i < X.length) : ∃ g, a = some ⟨g, 0, none⟩ ∧ w.cell? ⟨g, i, none⟩ = some (.int .i64 ((X.getD i 0 : Nat) : Int)) := by
  obtain ⟨g, cap, e, _, _⟩ := h.row.form (by omega)
  cases e
  refine ⟨g, rfl, ?_⟩
  have := h.row.cells (g := g) rfl i (.int .i64 ((X.getD i 0 : Nat) : Int)) (by simp [valN, List.getD, hi])
  rwa [addr_add] at this
theorem Try.infoSet : (Try.prog.info? 68).map (fun i => (i.zero, i.size, i.bytes)) = some (some (.int .i64 0), 1, 8) := by kernel_rfl
/-- A new set: the map first, then the row. -/
theorem ComeAt.put {w0 w : World} {bs : Nat} {a : Option Addr} {c : Nat} {X : List Nat} (h : ComeAt w0 w bs a c X) {s : Nat} (hs : s < 1000) (hm : s ∉ X) (hX : X.length ≤ 1000) :
    ∃ w1, (Instr.mapUpdate 72 (.map (some (bs + 1))) (.int .i64 s) (.int .i64 X.length)).run Try.prog w = .ok () w1 ∧ w1.cell? ⟨bs, 0, none⟩ = some (.slice a X.length c) ∧ (∀ o, (w1.alloc o).cell? ⟨bs, 0, none⟩ = some (.slice a X.length c)) ∧
      ∃ g c' w2, (AppS #[71, 71] 71 #[.slice a X.length c, .slice (some ⟨w1.heap.size, 0, none⟩) 1 1]).run Try.prog (w1.alloc (.cells #[.int .i64 s] 68)) = .ok (.slice (some ⟨g, 0, none⟩) (X.length + 1) c') w2 ∧ w2.cell? ⟨bs, 0, none⟩ = some (.slice a X.length c) ∧ w2.frozen? ⟨bs, 0, none⟩ = false ∧
        ComeAt w0 (w2.setCell ⟨bs, 0, none⟩ (.slice (some ⟨g, 0, none⟩) (X.length + 1) c')) bs (some ⟨g, 0, none⟩) c' (X ++ [s]) := by
  obtain ⟨w1, hr1, hn1, g1⟩ := h.num.put (y := s) (by omega) hm (by omega)
  have hb := h.big
  have box1 : w1.heap[bs]? = some (.cells #[.slice a X.length c] 71 (0, 0)) := (g1.block _ (by omega) (by simp)).trans h.box
  have mbox1 : w1.heap[bs + 1 + 1]? = some (.cells #[.map (some (bs + 1))] 72 (0, 0)) := (g1.block _ (by omega) (by simp)).trans h.mbox
  have hgB : ∀ k, (Value.slice a X.length c).ownBlock = some k → bs + 1 + 1 + 1 ≤ k := fun k hk => (h.row.lt k hk).1
  have row1 : w1.ownsRow (bs + 1 + 1 + 1) 68 1 (.slice a X.length c) X.length (valN X) := h.row.kept g1 (by
    cases hv : (Value.slice a X.length c).ownBlock with
    | none => simp
    | some x => right; have := hgB x hv; simp; omega)
  have c1 : w1.cell? ⟨bs, 0, none⟩ = some (.slice a X.length c) := by rw [cell_of_row _ _ 0 _ _ (0, 0) box1]; rfl
  obtain ⟨W, hW⟩ : ∃ W, W = w1.alloc (.cells #[.int .i64 (s : Int)] 68) := ⟨_, rfl⟩
  have gW : w1.grownBy W none := by rw [hW]; exact grown_alloc _ _
  have hnew : W.heap[w1.heap.size]? = some (.cells #[.int .i64 (s : Int)] 68) := by rw [hW]; exact heap_alloc_new w1 _
  have hsz : W.heap.size = w1.heap.size + 1 := by rw [hW]; exact World.size_alloc _ _
  have hs1 := g1.size
  obtain ⟨i0, hi0, hz0, hz1, hz2⟩ := info_partsW Try.infoSet
  obtain ⟨g, c', w2, hr, r2, r3, r4, _⟩ := run_append_lies (P := Try.prog) W 71 71 (bs + 1 + 1 + 1) 68 i0 (.int .i64 0) 1 8 Try.underlying71 hi0 hz0 hz1 hz2 rfl (by decide) (.slice a X.length c) X.length (valN X) (row1.kept gW (by cases (Value.slice a X.length c).ownBlock <;> simp)) ⟨w1.heap.size, 0, none⟩ 1 1 [.int .i64 (s : Int)] rfl (fun j u hu => World.news_of_block hnew j u (by simpa using hu)) (by intro u hu; simp at hu; subst hu; rfl) (by omega) (by unfold maxLen; omega) (by omega) (by omega) _ rfl
  have low : ∀ k, k < bs + 1 + 1 + 1 → w2.heap[k]? = w1.heap[k]? := fun k hk => (r3.block k (by omega) (fun e => by have := hgB k e.symm; omega)).trans (gW.block k (by omega) (by simp))
  have box2 : w2.heap[bs]? = some (.cells #[.slice a X.length c] 71 (0, 0)) := (low bs (by omega)).trans box1
  have gs2 : w2.grownBy (w2.setCell ⟨bs, 0, none⟩ (.slice (some ⟨g, 0, none⟩) (X.length + 1) c')) (some bs) := grown_set _ _ _
  have hg1 : bs + 1 + 1 + 1 ≤ g := (r2.lt g rfl).1
  have num2 : NumS w2 (bs + 1) (X ++ [s]) := (hn1.kept gW (by simp)).kept r3 (fun e => by have := hgB _ e; omega)
  rw [hW] at hr
  refine ⟨w1, hr1, c1, fun o => (grown_alloc _ o).cell c1 (by simp), g, c', w2, hr, by rw [cell_of_row _ _ 0 _ _ (0, 0) box2]; rfl, frozen_of_row w2 bs 0 _ _ box2, ⟨?_, ?_, ?_, ?_, ?_, ?_⟩⟩
  · rw [heap_setCell_same w2 bs 0 _ _ _ box2]; simp
  · exact num2.kept gs2 (by simp)
  · exact (gs2.block _ (by have := r3.size; omega) (by simp; omega)).trans ((low _ (by omega)).trans mbox1)
  · rw [valN_snoc, show (X ++ [s]).length = X.length + 1 by simp]
    exact r2.kept gs2 (.inr (by simp [Value.ownBlock]; omega))
  · refine ⟨?_, ?_, ?_, ?_, fun k hk => ?_⟩
    · exact gs2.os.trans (r3.os.trans (gW.os.trans (g1.os.trans h.bel.os)))
    · exact gs2.tape.trans (r3.tape.trans (gW.tape.trans (g1.tape.trans h.bel.tape)))
    · exact gs2.output.trans (r3.output.trans (gW.output.trans (g1.output.trans h.bel.output)))
    · exact Nat.le_trans h.bel.size (Nat.le_trans g1.size (Nat.le_trans gW.size (Nat.le_trans r3.size gs2.size)))
    · exact (gs2.block k (by have := r3.size; omega) (by simp; omega)).trans ((low k (by omega)).trans ((g1.block k (by omega) (by simp; omega)).trans (h.bel.block k hk)))
  · have := r3.size
    have := gs2.size
    omega

end Go.Proofs.Ytofjmakmbmndoaa
