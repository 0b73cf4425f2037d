/- The reference's Elements: what holds while it goes. -/
import Derived.Test.YtofjboelplknhaaMAfter
import Derived.Test.YtofjboelplknhaaMSkB
import Derived.Test.YtofjboelplknhaaRWords
import Derived.Deep.AppendSrc
import Derived.Deep.Upon
import Derived.Test.YtofjboelplknhaaMPar
namespace Go.Proofs.Ytofjboelplknhaa
open Go.RowKit
set_option linter.unusedVariables false

/-- A row of elements, and rows beside it. -/
structure OwnsE (B : Nat) (w : World) (vS : Value) (n : Nat) (cs : List Value) (its : List Item) : Prop where
  st : w.ownsRow B 49 2 vS n cs
  own : Owns B w its
  ap : ∀ it, it ∈ its → Apart vS it.2.1
section
variable {B : Nat} {w w' : World} {vS : Value} {n : Nat} {cs : List Value} {its r : List Item} {e : TypeId} {v : Value} {xs : List Value}
theorem kept_apart {size : Nat} {u : Value} {m : Nat} {ys : List Value} (h : w.ownsRow B e size v m ys) (hg : w.grownBy w' u.ownBlock) (ha : Apart v u) : w'.ownsRow B e size v m ys := by
  refine h.kept hg ?_
  rcases ha with h1 | h1 | h1
  · exact .inl h1
  · rw [h1]; cases v.ownBlock <;> simp
  · exact .inr h1
theorem OwnsE.kept (h : OwnsE B w vS n cs its) (hg : w.grownBy w' none) : OwnsE B w' vS n cs its := ⟨h.st.kept hg (by cases vS.ownBlock <;> simp), h.own.kept hg, h.ap⟩
theorem OwnsE.far {b : Nat} {o : Obj} (h : OwnsE B w vS n cs its) (hg : w.grownBy w' (some b)) (ho : w.heap[b]? = some o) (hne : ∀ c t f, o ≠ .cells c t f) : OwnsE B w' vS n cs its := by
  refine ⟨h.st.kept hg ?_, h.own.far hg (h.own.other ho hne), h.ap⟩
  rcases h.st.2 with ⟨e0, _⟩ | ⟨g, cap, cur, e1, _, hh, _⟩
  · left; rw [e0]; rfl
  · right
    rw [e1]
    intro hc
    have : g = b := by simpa [Value.ownBlock] using hc
    subst this
    rw [hh] at ho
    exact hne _ _ _ (Option.some.inj ho).symm
theorem OwnsE.below {b : Nat} (h : OwnsE B w vS n cs its) (hg : w.grownBy w' (some b)) (hb : b < B) : OwnsE B w' vS n cs its :=
  ⟨h.st.kept hg (.inr (fun hc => by have := (h.st.lt b hc).1; omega)), h.own.below hg hb, h.ap⟩
theorem OwnsE.perm {its' : List Item} (h : OwnsE B w vS n cs its) (p : its.Perm its') : OwnsE B w vS n cs its' := ⟨h.st, h.own.perm p, fun it hm => h.ap it (p.mem_iff.2 hm)⟩
theorem OwnsE.append {g m cap H : Nat} {news : List Value} (h : OwnsE B w vS n cs ((e, v, xs) :: r)) (ho : w'.ownsRow B e 1 (.slice (some ⟨g, 0, none⟩) m cap) m (xs ++ news)) (hn : m = xs.length + news.length) (hg : w.grownBy w' v.ownBlock)
    (hat : v.ownBlock = some g ∨ g = H) (hH : w.heap.size = H) : OwnsE B w' vS n cs ((e, .slice (some ⟨g, 0, none⟩) m cap, xs ++ news) :: r) := by
  have ha := h.ap (e, v, xs) (by simp)
  refine ⟨kept_apart h.st hg ha, h.own.append ho hn hg hat hH, fun it hm => ?_⟩
  rcases List.mem_cons.1 hm with rfl | hm
  · rcases hat with h1 | h1
    · rcases ha with h2 | h2 | h2
      · exact .inl h2
      · simp only at h2; rw [h1] at h2; cases h2
      · exact .inr (.inr (by simp only at h2; rw [h1] at h2; exact h2))
    · cases hq : vS.ownBlock with
      | none => exact .inl hq
      | some b =>
        refine .inr (.inr ?_)
        rw [hq]
        have := (h.st.lt b hq).2
        simp [Value.ownBlock]
        omega
  · exact h.ap it (List.mem_cons_of_mem _ hm)
theorem OwnsE.made {arr : Array Value} {m : Nat} (h : OwnsE B w vS n cs r) (hB : B ≤ w.heap.size) (e : TypeId) (hn : arr.size = m) (hm : m ≤ maxLen) : OwnsE B (w.alloc (.cells arr e)) vS n cs ((e, .slice (some ⟨w.heap.size, 0, none⟩) m m, arr.toList) :: r) := by
  refine ⟨h.st.kept (grown_alloc _ _) (by cases vS.ownBlock <;> simp), h.own.made hB e hn hm, fun it hm => ?_⟩
  rcases List.mem_cons.1 hm with rfl | hm
  · cases hq : vS.ownBlock with
    | none => exact .inl hq
    | some b =>
      refine .inr (.inr ?_)
      rw [hq]
      have := (h.st.lt b hq).2
      simp [Value.ownBlock]
      omega
  · exact h.ap it hm
theorem OwnsE.set {g m cap i : Nat} (h : OwnsE B w vS n cs ((e, .slice (some ⟨g, 0, none⟩) m cap, xs) :: r)) (hi : i < m) (u : Value) : OwnsE B (w.setCell ⟨g, i, none⟩ u) vS n cs ((e, .slice (some ⟨g, 0, none⟩) m cap, xs.set i u) :: r) := by
  refine ⟨?_, h.own.set hi u, fun it hm => ?_⟩
  · exact kept_apart (u := .slice (some ⟨g, 0, none⟩) m cap) h.st (grown_set w ⟨g, i, none⟩ u) (h.ap (e, .slice (some ⟨g, 0, none⟩) m cap, xs) (by simp))
  · rcases List.mem_cons.1 hm with rfl | hm
    · exact h.ap (e, .slice (some ⟨g, 0, none⟩) m cap, xs) (by simp)
    · exact h.ap it (List.mem_cons_of_mem _ hm)
theorem OwnsE.push {g m cap H : Nat} {news : List Value} (h : OwnsE B w vS n cs its) (ho : w'.ownsRow B 49 2 (.slice (some ⟨g, 0, none⟩) m cap) m (cs ++ news)) (hg : w.grownBy w' vS.ownBlock)
    (hat : vS.ownBlock = some g ∨ g = H) (hH : w.heap.size = H) : OwnsE B w' (.slice (some ⟨g, 0, none⟩) m cap) m (cs ++ news) its := by
  refine ⟨ho, ⟨fun it hm => ⟨kept_apart (h.own.1 it hm).1 hg (h.ap it hm).symm, (h.own.1 it hm).2⟩, h.own.2⟩, fun it hm => ?_⟩
  rcases hat with h1 | h1
  · rcases h.ap it hm with h2 | h2 | h2
    · rw [h1] at h2; cases h2
    · exact .inr (.inl h2)
    · exact .inr (.inr (by rw [h1] at h2; exact h2))
  · cases hq : it.2.1.ownBlock with
    | none => exact .inr (.inl hq)
    | some b =>
      refine .inr (.inr ?_)
      rw [hq]
      have := ((h.own.1 it hm).1.lt b hq).2
      simp [Value.ownBlock]
      omega
end


section
variable {B : Nat} {w w' : World} {vS : Value} {n : Nat} {cs : List Value} {its r its1 : List Item} {e : TypeId} {v : Value} {xs : List Value}
theorem OwnsE.join (h : OwnsE B w vS n cs its) (hg : w.grownBy w' none) (h1 : Owns w.heap.size w' its1) (hB : B ≤ w.heap.size) : OwnsE B w' vS n cs (its1 ++ its) := by
  refine ⟨h.st.kept hg (by cases vS.ownBlock <;> simp), h.own.join hg h1 hB, fun it hm => ?_⟩
  rcases List.mem_append.1 hm with hm | hm
  · cases hq : vS.ownBlock with
    | none => exact .inl hq
    | some b =>
      cases hq2 : it.2.1.ownBlock with
      | none => exact .inr (.inl hq2)
      | some b2 =>
        refine .inr (.inr ?_)
        have := (h.st.lt b hq).2
        have := (h1.1 it hm).1.lt b2 hq2
        rw [hq, hq2]
        simp only [ne_eq, Option.some.injEq]
        omega
  · exact h.ap it hm
theorem OwnsE.sub {its' : List Item} (h : OwnsE B w vS n cs its) (hs : its'.Sublist its) : OwnsE B w vS n cs its' := ⟨h.st, ⟨fun it hm => h.own.1 it (hs.subset hm), h.own.2.sublist hs⟩, fun it hm => h.ap it (hs.subset hm)⟩
end

theorem InB.long {κ : List Nat → Nat} {l k x : Nat} {v : Nat → Bool} {ws : List (List Nat)} {ss : List Stp} {u : List Nat} (h : InB κ l v k x u ws ss) : u.length ≤ k := by
  obtain ⟨hk, hu, _⟩ := h.at
  have := parW_long h.par k hk
  rwa [hu] at this
/-- An element: its row, its word, in memory and as a word. -/
abbrev Ent := Value × Value × List Nat
def ecells (es : List Ent) : List Value := es.flatMap fun e => [e.1, e.2.1]
def eits (κ : List Nat → Nat) (n : Nat) (es : List Ent) : List Item := es.flatMap fun e => [(3, e.1, vals (natInts (doesL n (κ e.2.2)))), (3, e.2.1, vals (natInts e.2.2))]
theorem ecells_get {i : Nat} {e : Ent} : ∀ {es : List Ent}, es[i]? = some e → (ecells es)[i * 2]? = some e.1 ∧ (ecells es)[i * 2 + 1]? = some e.2.1 := by
  induction i with
  | zero => intro es h; cases es with
    | nil => simp at h
    | cons x xs => simp only [List.getElem?_cons_zero, Option.some.injEq] at h; subst h; simp [ecells]
  | succ i ih => intro es h; cases es with
    | nil => simp at h
    | cons x xs =>
      have h1 := ih (es := xs) (by simpa using h)
      have e1 : ecells (x :: xs) = [x.1, x.2.1] ++ ecells xs := by unfold ecells; rw [List.flatMap_cons]
      rw [e1, List.getElem?_append_right (by simp; omega), List.getElem?_append_right (by simp; omega)]
      simp only [List.length_cons, List.length_nil]
      rw [show (i + 1) * 2 - (0 + 1 + 1) = i * 2 by omega, show (i + 1) * 2 + 1 - (0 + 1 + 1) = i * 2 + 1 by omega]
      exact h1
theorem eits_mem {κ : List Nat → Nat} {n : Nat} {es : List Ent} {e : Ent} (h : e ∈ es) : (3, e.1, vals (natInts (doesL n (κ e.2.2)))) ∈ eits κ n es ∧ (3, e.2.1, vals (natInts e.2.2)) ∈ eits κ n es :=
  ⟨List.mem_flatMap.2 ⟨e, h, by simp⟩, List.mem_flatMap.2 ⟨e, h, by simp⟩⟩
theorem Try.infoEl : (Try.prog.info? 49).map (fun i => (i.zero, i.size, i.bytes)) = some (some (.agg #[.slice none 0 0, .slice none 0 0]), 2, 48) := by kernel_rfl

/-- All elements are there, and what is under way. -/
structure ElAt (κ : List Nat → Nat) (n : Nat) (W1 w : World) (aS : Option Addr) (cS : Nat) (es : List Ent) (D : List Item) : Prop where
  own : OwnsE W1.heap.size w (.slice aS es.length cS) es.length (ecells es) (D ++ eits κ n es)
  old : W1.grownBy w none
section
variable {κ : List Nat → Nat} {n : Nat} {W1 w w' : World} {aS : Option Addr} {cS : Nat} {es : List Ent} {D : List Item}
theorem ElAt.kept (h : ElAt κ n W1 w aS cS es D) (hg : w.grownBy w' none) : ElAt κ n W1 w' aS cS es D := ⟨h.own.kept hg, grown_trans h.old hg⟩
theorem ElAt.drop (h : ElAt κ n W1 w aS cS es D) : ElAt κ n W1 w aS cS es [] := ⟨h.own.sub (List.sublist_append_right _ _), h.old⟩
theorem ints_of_mem {B : Nat} {w : World} {its : List Item} (h : Owns B w its) {v : Value} {zs : List Int} (hm : (3, v, vals zs) ∈ its) : ∃ az cz, v = .slice az zs.length cz ∧ Ints w az zs := by
  have h1 : Owns B w [(3, v, vals zs)] := ⟨fun it hit => h.1 it (by simp only [List.mem_singleton] at hit; subst hit; exact hm), List.pairwise_singleton _ _⟩
  obtain ⟨_, az, cz, hv⟩ := h1.head
  simp only [vals_len] at hv
  subst hv
  exact ⟨az, cz, rfl, h1.ints.2⟩
theorem ElAt.read (h : ElAt κ n W1 w aS cS es D) {i : Nat} {e : Ent} (hi : es[i]? = some e) : ∃ g, aS = some ⟨g, 0, none⟩ ∧ w.cell? ⟨g, i * 2, none⟩ = some e.1 ∧ w.cell? ⟨g, i * 2 + 1, none⟩ = some e.2.1 ∧ (∃ az cz, e.1 = .slice az n cz ∧ Ints w az (natInts (doesL n (κ e.2.2)))) ∧ ∃ aw cw, e.2.1 = .slice aw e.2.2.length cw ∧ Ints w aw (natInts e.2.2) := by
  have hlt : i < es.length := (List.getElem?_eq_some_iff.1 hi).1
  have hmem : e ∈ es := List.mem_of_getElem? hi
  obtain ⟨m1, m2⟩ := eits_mem (κ := κ) (n := n) hmem
  obtain ⟨az, cz, e1, i1⟩ := ints_of_mem h.own.own (List.mem_append_right D m1)
  obtain ⟨aw, cw, e2, i2⟩ := ints_of_mem h.own.own (List.mem_append_right D m2)
  have l1 : (natInts (doesL n (κ e.2.2))).length = n := by simp [doesL]
  rw [l1] at e1
  rw [List.length_map] at e2
  obtain ⟨h1, h2⟩ := ecells_get hi
  have hs := h.own.st
  rcases hs.2 with ⟨_, e0⟩ | ⟨g, cap, cur, e3, _⟩
  · omega
  · simp only [Value.slice.injEq] at e3
    obtain ⟨rfl, _, rfl⟩ := e3
    have c1 := hs.cells (g := g) rfl _ _ h1
    have c2 := hs.cells (g := g) rfl _ _ h2
    rw [addr_add] at c1 c2
    exact ⟨g, rfl, c1, c2, ⟨az, cz, e1, i1⟩, ⟨aw, cw, e2, i2⟩⟩
/-- A word is copied. -/
theorem ElAt.word {H : Nat} {u : List Nat} {aw : Option Addr} {cw : Nat} (h : ElAt κ n W1 w aS cS es []) (hH : w.heap.size = H) (hi : Ints w aw (natInts u)) (hl : u.length ≤ 1000000) :
    ∃ g cap w', (AppS #[23, 23] 23 #[.slice (some ⟨H, 0, none⟩) 0 0, .slice aw u.length cw]).run Try.prog (w.alloc (.cells #[] 3)) = .ok (.slice (some ⟨g, 0, none⟩) u.length cap) w' ∧ ElAt κ n W1 w' aS cS es [(3, .slice (some ⟨g, 0, none⟩) u.length cap, vals (natInts u))] := by
  subst hH
  obtain ⟨i0, hio, hz0, hz1, hz2⟩ := info_parts Try.info3i
  have h1 := h.own.made (arr := #[]) (m := 0) h.old.size 3 rfl (by unfold maxLen; omega)
  by_cases hu : u = []
  · subst hu
    have hsrc : Src Try.prog i0.size 23 (.slice aw 0 cw) 0 [] (w.alloc (.cells #[] 3)) := by
      cases aw with
      | none => exact Src.ofNil _ Try.underlying23 cw
      | some ad => exact Src.ofSlice _ Try.underlying23 ad 0 cw [] (by simp) (by simp) (by simp)
    have hr := run_append_nothing (P := Try.prog) (w.alloc (.cells #[] 3)) 23 23 23 3 i0 Try.underlying23 hio (some ⟨w.heap.size, 0, none⟩) 0 0 (Nat.le_refl _) (.slice aw 0 cw) hsrc
    exact ⟨w.heap.size, 0, _, hr, ⟨h1, grown_trans h.old (grown_alloc _ _)⟩⟩
  · have hpos : 0 < u.length := List.length_pos_iff.2 hu
    obtain ⟨bw, ow, rfl, hcw⟩ := hi.at (k := 0) (by rw [List.length_map]; exact hpos)
    have hr := h1.own.row
    obtain ⟨g', cap, w5, hrun, ho5, hg5, hat5, hlt5⟩ := run_append_lies (P := Try.prog) (w.alloc (.cells #[] 3)) 23 23 W1.heap.size 3 i0 (.int .i64 0) 1 8 Try.underlying23 hio hz0 hz1 hz2 rfl (by decide) (.slice (some ⟨w.heap.size, 0, none⟩) 0 0) 0 [] hr ⟨bw, ow, none⟩ u.length cw (vals (natInts u)) (by rw [vals_len, List.length_map, Nat.mul_one]) (fun j x hx => by
      have hj : j < u.length := by have := (List.getElem?_eq_some_iff.1 hx).1; rwa [vals_len, List.length_map] at this
      rw [vals_get (by rw [List.length_map]; exact hj)] at hx
      rw [add_off]
      exact (grown_alloc _ _).cell ((hcw j (by rw [List.length_map]; exact hj)).trans hx) (by simp)) (by intro x hx; simp only [vals, List.mem_map] at hx; obtain ⟨z, _, rfl⟩ := hx; rfl) (by omega) (by unfold maxLen; omega) (by omega) (by rw [World.size_alloc]; have := h.old.size; omega) _ rfl
    have h5 := h1.append (news := vals (natInts u)) ho5 (by simp [vals]) hg5 hat5 rfl
    have hk : Keeps W1.heap.size w w5 := ((Keeps.refl _ w).alloc _).trans (Keeps.first h1.own hg5)
    rw [Nat.zero_add] at hrun h5
    exact ⟨g', cap, w5, hrun, ⟨h5, hk W1 (Nat.le_refl _) h.old⟩⟩
/-- A letter is put behind it. -/
theorem ElAt.letter {H g n1 cap a : Nat} {u : List Nat} (h : ElAt κ n W1 w aS cS es [(3, .slice (some ⟨g, 0, none⟩) n1 cap, vals (natInts u))]) (hH : w.heap.size = H) (hl : u.length ≤ 1000000) :
    ∃ g' cap' w', (AppS #[23, 23] 23 #[.slice (some ⟨g, 0, none⟩) n1 cap, .slice (some ⟨H, 0, none⟩) 1 1]).run Try.prog (w.alloc (.cells #[.int .i64 ((a : Nat) : Int)] 3)) = .ok (.slice (some ⟨g', 0, none⟩) (n1 + 1) cap') w' ∧ ElAt κ n W1 w' aS cS es [(3, .slice (some ⟨g', 0, none⟩) (n1 + 1) cap', vals (natInts (u ++ [a])))] := by
  subst hH
  obtain ⟨i0, hio, hz0, hz1, hz2⟩ := info_parts Try.info3i
  have h' := h.own.kept (grown_alloc w (.cells #[.int .i64 ((a : Nat) : Int)] 3))
  have hn := h'.own.len
  rw [vals_len, List.length_map] at hn
  have hr := h'.own.row
  rw [vals_len, List.length_map, ← hn] at hr
  obtain ⟨g', cap', w5, hrun, ho5, hg5, hat5, hlt5⟩ := run_append_lies (P := Try.prog) (w.alloc (.cells #[.int .i64 ((a : Nat) : Int)] 3)) 23 23 W1.heap.size 3 i0 (.int .i64 0) 1 8 Try.underlying23 hio hz0 hz1 hz2 rfl (by decide) (.slice (some ⟨g, 0, none⟩) n1 cap) n1 (vals (natInts u)) hr ⟨w.heap.size, 0, none⟩ 1 1 [.int .i64 ((a : Nat) : Int)] rfl (cell_one_new _ _ _) (by intro x hx; simp at hx; subst hx; rfl) (by omega) (by unfold maxLen; omega) (by omega) (by rw [World.size_alloc]; have := h.old.size; omega) _ rfl
  have h5 := h'.append ho5 (by simp [vals]; omega) hg5 hat5 rfl
  have e1 : vals (natInts u) ++ [Value.int .i64 ((a : Nat) : Int)] = vals (natInts (u ++ [a])) := by simp [vals, natInts]
  rw [e1] at h5
  have hk : Keeps W1.heap.size w w5 := ((Keeps.refl _ w).alloc _).trans (Keeps.first h'.own hg5)
  exact ⟨g', cap', w5, hrun, ⟨h5, hk W1 (Nat.le_refl _) h.old⟩⟩
theorem ElAt.join {its1 : List Item} (h : ElAt κ n W1 w aS cS es D) (hg : w.grownBy w' none) (h1 : Owns w.heap.size w' its1) : ElAt κ n W1 w' aS cS es (its1 ++ D) := ⟨by rw [List.append_assoc]; exact h.own.join hg h1 h.old.size, grown_trans h.old hg⟩
/-- An element is put behind. -/
theorem ElAt.put {H : Nat} {vD vW : Value} {u : List Nat} (h : ElAt κ n W1 w aS cS es [(3, vD, vals (natInts (doesL n (κ u)))), (3, vW, vals (natInts u))]) (hH : w.heap.size = H) (hl : es.length ≤ 4000) (h1 : vD.oneCell' = true) (h2 : vW.oneCell' = true) :
    ∃ g cap w', (AppS #[46, 46] 46 #[.slice aS es.length cS, .slice (some ⟨H, 0, none⟩) 1 1]).run Try.prog (w.alloc (.cells #[vD, vW] 49)) = .ok (.slice (some ⟨g, 0, none⟩) (es.length + 1) cap) w' ∧ ElAt κ n W1 w' (some ⟨g, 0, none⟩) cap (es ++ [(vD, vW, u)]) [] := by
  subst hH
  obtain ⟨i0, hio, hz0, hz1, hz2⟩ := info_parts Try.infoEl
  have h' := h.own.kept (grown_alloc w (.cells #[vD, vW] 49))
  obtain ⟨g', cap', w5, hrun, ho5, hg5, hat5, hlt5⟩ := run_append_lies (P := Try.prog) (w.alloc (.cells #[vD, vW] 49)) 46 46 W1.heap.size 49 i0 _ 2 48 Try.underlying46 hio hz0 hz1 hz2 rfl (by decide) (.slice aS es.length cS) es.length (ecells es) h'.st ⟨w.heap.size, 0, none⟩ 1 1 [vD, vW] rfl (World.news_of_block (heap_alloc_new _ _)) (by intro x hx; simp at hx; rcases hx with rfl | rfl <;> assumption) (by omega) (by unfold maxLen; omega) (by omega) (by rw [World.size_alloc]; have := h.old.size; omega) _ rfl
  have h5 := h'.push ho5 hg5 hat5 rfl
  have e1 : ecells es ++ [vD, vW] = ecells (es ++ [(vD, vW, u)]) := by unfold ecells; rw [List.flatMap_append]; simp
  rw [e1] at h5
  refine ⟨g', cap', w5, hrun, ⟨?_, ?_⟩⟩
  · rw [List.length_append, List.length_singleton]
    refine h5.perm ?_
    have e2 : eits κ n (es ++ [(vD, vW, u)]) = eits κ n es ++ [(3, vD, vals (natInts (doesL n (κ u)))), (3, vW, vals (natInts u))] := by unfold eits; rw [List.flatMap_append]; simp
    rw [e2, List.nil_append]
    exact List.perm_append_comm
  · exact grown_of_below ((below_of_grown (grown_trans h.old (grown_alloc _ _))).grown hg5 (grown_trans h.old (grown_alloc _ _)).size (fun b hc => (h'.st.lt b hc).1))
end

end Go.Proofs.Ytofjboelplknhaa
