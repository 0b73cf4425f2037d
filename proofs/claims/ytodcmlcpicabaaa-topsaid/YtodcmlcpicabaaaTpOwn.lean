/- A row of pairs of one's own beside other rows and words; a map that numbers pairs. -/
import Derived.Test.YtodcmlcpicabaaaBas
import Derived.Test.YtodcmlcpicabaaaLBf
import Derived.WideKeyPair
import Derived.DeepKeys4
namespace Go.Proofs.Ytodcmlcpicabaaa
open Go.RowKit Go.Maps
set_option linter.unusedVariables false

/-- A row of pairs, and rows beside it. -/
structure Owns2 (B : Nat) (w : World) (vS : Value) (n : Nat) (cs : List Value) (its : List Item) : Prop where
  st : w.ownsRow B 56 2 vS n cs
  own : Owns B w its
  ap : ∀ it, it ∈ its → Apart vS it.2.1
section
variable {B : Nat} {w w' : World} {vS : Value} {n : Nat} {cs : List Value} {its r : List Item} {e : TypeId} {v : Value} {xs : List Value}
theorem kept_apart {size : Nat} {u : Value} {m : Nat} {ys : List Value} (h : w.ownsRow B e size v m ys) (hg : w.grownBy w' u.ownBlock) (ha : Apart v u) : w'.ownsRow B e size v m ys := by
  refine h.kept hg ?_
  rcases ha with h1 | h1 | h1
  · exact .inl h1
  · rw [h1]; cases v.ownBlock <;> simp
  · exact .inr h1
theorem Owns2.kept (h : Owns2 B w vS n cs its) (hg : w.grownBy w' none) : Owns2 B w' vS n cs its := ⟨h.st.kept hg (by cases vS.ownBlock <;> simp), h.own.kept hg, h.ap⟩
theorem Owns2.far {b : Nat} {o : Obj} (h : Owns2 B w vS n cs its) (hg : w.grownBy w' (some b)) (ho : w.heap[b]? = some o) (hne : ∀ c t f, o ≠ .cells c t f) : Owns2 B w' vS n cs its := by
  refine ⟨h.st.kept hg ?_, h.own.far hg (h.own.other ho hne), h.ap⟩
  rcases h.st.2 with ⟨e0, _⟩ | ⟨g, cap, cur, e1, _, hh, _⟩
  · left; rw [e0]; rfl
  · right
    rw [e1]
    intro hc
    have : g = b := by simpa [Value.ownBlock] using hc
    subst this
    rw [hh] at ho
    exact hne _ _ _ (Option.some.inj ho).symm
theorem Owns2.below {b : Nat} (h : Owns2 B w vS n cs its) (hg : w.grownBy w' (some b)) (hb : b < B) : Owns2 B w' vS n cs its :=
  ⟨h.st.kept hg (.inr (fun hc => by have := (h.st.lt b hc).1; omega)), h.own.below hg hb, h.ap⟩
theorem Owns2.perm {its' : List Item} (h : Owns2 B w vS n cs its) (p : its.Perm its') : Owns2 B w vS n cs its' := ⟨h.st, h.own.perm p, fun it hm => h.ap it (p.mem_iff.2 hm)⟩
theorem Owns2.append {g m cap H : Nat} {news : List Value} (h : Owns2 B w vS n cs ((e, v, xs) :: r)) (ho : w'.ownsRow B e 1 (.slice (some ⟨g, 0, none⟩) m cap) m (xs ++ news)) (hn : m = xs.length + news.length) (hg : w.grownBy w' v.ownBlock)
    (hat : v.ownBlock = some g ∨ g = H) (hH : w.heap.size = H) : Owns2 B w' vS n cs ((e, .slice (some ⟨g, 0, none⟩) m cap, xs ++ news) :: r) := by
  have ha := h.ap (e, v, xs) (by simp)
  refine ⟨kept_apart h.st hg ha, h.own.append ho hn hg hat hH, fun it hm => ?_⟩
  rcases List.mem_cons.1 hm with rfl | hm
  · rcases hat with h1 | h1
    · rcases ha with h2 | h2 | h2
      · exact .inl h2
      · simp only at h2; rw [h1] at h2; cases h2
      · exact .inr (.inr (by simp only at h2; rw [h1] at h2; exact h2))
    · cases hq : vS.ownBlock with
      | none => exact .inl hq
      | some b =>
        refine .inr (.inr ?_)
        rw [hq]
        have := (h.st.lt b hq).2
        simp [Value.ownBlock]
        omega
  · exact h.ap it (List.mem_cons_of_mem _ hm)
theorem Owns2.made {arr : Array Value} {m : Nat} (h : Owns2 B w vS n cs r) (hB : B ≤ w.heap.size) (e : TypeId) (hn : arr.size = m) (hm : m ≤ maxLen) : Owns2 B (w.alloc (.cells arr e)) vS n cs ((e, .slice (some ⟨w.heap.size, 0, none⟩) m m, arr.toList) :: r) := by
  refine ⟨h.st.kept (grown_alloc _ _) (by cases vS.ownBlock <;> simp), h.own.made hB e hn hm, fun it hm => ?_⟩
  rcases List.mem_cons.1 hm with rfl | hm
  · cases hq : vS.ownBlock with
    | none => exact .inl hq
    | some b =>
      refine .inr (.inr ?_)
      rw [hq]
      have := (h.st.lt b hq).2
      simp [Value.ownBlock]
      omega
  · exact h.ap it hm
theorem Owns2.set {g m cap i : Nat} (h : Owns2 B w vS n cs ((e, .slice (some ⟨g, 0, none⟩) m cap, xs) :: r)) (hi : i < m) (u : Value) : Owns2 B (w.setCell ⟨g, i, none⟩ u) vS n cs ((e, .slice (some ⟨g, 0, none⟩) m cap, xs.set i u) :: r) := by
  refine ⟨?_, h.own.set hi u, fun it hm => ?_⟩
  · exact kept_apart (u := .slice (some ⟨g, 0, none⟩) m cap) h.st (grown_set w ⟨g, i, none⟩ u) (h.ap (e, .slice (some ⟨g, 0, none⟩) m cap, xs) (by simp))
  · rcases List.mem_cons.1 hm with rfl | hm
    · exact h.ap (e, .slice (some ⟨g, 0, none⟩) m cap, xs) (by simp)
    · exact h.ap it (List.mem_cons_of_mem _ hm)
theorem Owns2.push {g m cap H : Nat} {news : List Value} (h : Owns2 B w vS n cs its) (ho : w'.ownsRow B 56 2 (.slice (some ⟨g, 0, none⟩) m cap) m (cs ++ news)) (hg : w.grownBy w' vS.ownBlock)
    (hat : vS.ownBlock = some g ∨ g = H) (hH : w.heap.size = H) : Owns2 B w' (.slice (some ⟨g, 0, none⟩) m cap) m (cs ++ news) its := by
  refine ⟨ho, ⟨fun it hm => ⟨kept_apart (h.own.1 it hm).1 hg (h.ap it hm).symm, (h.own.1 it hm).2⟩, h.own.2⟩, fun it hm => ?_⟩
  rcases hat with h1 | h1
  · rcases h.ap it hm with h2 | h2 | h2
    · rw [h1] at h2; cases h2
    · exact .inr (.inl h2)
    · exact .inr (.inr (by rw [h1] at h2; exact h2))
  · cases hq : it.2.1.ownBlock with
    | none => exact .inr (.inl hq)
    | some b =>
      refine .inr (.inr ?_)
      rw [hq]
      have := ((h.own.1 it hm).1.lt b hq).2
      simp [Value.ownBlock]
      omega
end

/-- A pair of states as one number: its first, its second. -/
def pxx (k s : Nat) : Nat := s / k
def pyy (k s : Nat) : Nat := s % k
abbrev pvl (k s : Nat) : Value := .agg #[.int .i64 ((pxx k s : Nat) : Int), .int .i64 ((pyy k s : Nat) : Int)]
def pcells (k : Nat) (xs : List Nat) : List Value := xs.flatMap fun s => [.int .i64 ((pxx k s : Nat) : Int), .int .i64 ((pyy k s : Nat) : Int)]
theorem pcells_len (k : Nat) (xs : List Nat) : (pcells k xs).length = xs.length * 2 := by
  unfold pcells
  induction xs with
  | nil => rfl
  | cons x xs ih => rw [List.flatMap_cons, List.length_append, ih]; simp; omega
theorem pcells_snoc (k : Nat) (xs : List Nat) (y : Nat) : pcells k (xs ++ [y]) = pcells k xs ++ [.int .i64 ((pxx k y : Nat) : Int), .int .i64 ((pyy k y : Nat) : Int)] := by
  unfold pcells; rw [List.flatMap_append]; simp
theorem pcells_get {k i : Nat} : ∀ {xs : List Nat}, i < xs.length → (pcells k xs)[i * 2]? = some (.int .i64 ((pxx k (xs.getD i 0) : Nat) : Int)) ∧ (pcells k xs)[i * 2 + 1]? = some (.int .i64 ((pyy k (xs.getD i 0) : Nat) : Int)) := by
  induction i with
  | zero => intro xs h; cases xs with
    | nil => simp at h
    | cons x xs => simp [pcells]
  | succ i ih => intro xs h; cases xs with
    | nil => simp at h
    | cons x xs =>
      have h1 := ih (xs := xs) (by simpa using h)
      have e : pcells k (x :: xs) = [.int .i64 ((pxx k x : Nat) : Int), .int .i64 ((pyy k x : Nat) : Int)] ++ pcells k xs := by unfold pcells; rw [List.flatMap_cons]
      rw [e, show (i + 1) * 2 = 2 + i * 2 by omega, show 2 + i * 2 + 1 = 2 + (i * 2 + 1) by omega]
      rw [List.getElem?_append_right (by simp), List.getElem?_append_right (by simp)]
      simp only [List.length_cons, List.length_nil]
      rw [show 2 + i * 2 - (0 + 1 + 1) = i * 2 by omega, show 2 + (i * 2 + 1) - (0 + 1 + 1) = i * 2 + 1 by omega]
      simpa using h1
theorem code_injQ {k a b : Nat} (h : pxx k a = pxx k b) (h2 : pyy k a = pyy k b) : a = b := by
  unfold pxx at h
  unfold pyy at h2
  rw [← Nat.div_add_mod a k, ← Nat.div_add_mod b k, h, h2]

theorem Try.arr2 : WideMaps.ArrKey Try.prog 56 3 2 := ⟨Try.underlying56, by kernel_rfl, by kernel_rfl, by kernel_rfl⟩
theorem Try.row2 : (56 : TypeId) < Try.prog.types.size := of_decide_eq_true (by kernel_rfl)
theorem pred_of {n t : Nat} (h : t < n) : ∃ m, n = m + 1 := ⟨n - 1, by omega⟩
set_option maxRecDepth 100000 in
theorem Try.size2 : ∃ m, Try.prog.types.size = m + 1 := pred_of Try.row2
theorem Try.wide2 : (match Try.prog.underlying 56 with | some (.array _ _) | some (.struct _) => true | _ => false) = true := by rw [Try.underlying56]
set_option maxRecDepth 100000 in
theorem Try.keyed2 : Keyed Try.prog 56 := Keyed.of_law (deep_law_laid Try.laidOut (m := 2) (by omega) Try.row2 (by kernel_rfl) Try.wide2)

def pkl (k s : Nat) : Lit := .string (keyBytes [.int .i64 ((pxx k s : Nat) : Int), .int .i64 ((pyy k s : Nat) : Int)])
theorem div_lt64 {k s : Nat} (h : s < 4611686018427387904) : pxx k s < 4611686018427387904 := Nat.lt_of_le_of_lt (Nat.div_le_self _ _) h
theorem mod_lt64 {k s : Nat} (h : s < 4611686018427387904) : pyy k s < 4611686018427387904 := Nat.lt_of_le_of_lt (Nat.mod_le _ _) h
theorem pkl_key {k s : Nat} (h : s < 4611686018427387904) : keyOf Try.prog 56 (pvl k s) = some (pkl k s) := WideMaps.keyOf_pair Try.arr2 Try.underlying3 Try.size2 (wf64 (div_lt64 h)) (wf64 (mod_lt64 h))
theorem pkl_inj {k s t : Nat} (h : s < 4611686018427387904) (h' : t < 4611686018427387904) (e : pkl k s = pkl k t) : s = t := by
  have h1 := Try.keyed2.inj (pkl_key (k := k) h) (by rw [e]; exact pkl_key h')
  simp only [Value.agg.injEq, Array.mk.injEq, List.cons.injEq, Value.int.injEq, true_and, and_true] at h1
  exact code_injQ (k := k) (by omega) (by omega)
theorem pkl_lit (k s : Nat) : WideAt.IsKeyLit (pkl k s) := by simp [WideAt.IsKeyLit, pkl]

/-- The map in block b numbers the pairs xs. -/
def NumAt2 (w : World) (b k : Nat) (xs : List Nat) : Prop :=
  ∃ D : DataW Unit, w.ownsMap Try.prog 56 (plainElem Try.prog 3) b xs.length D ∧ (∀ y : Nat, y < 4611686018427387904 → (Maps.has D (pkl k y) = true ↔ y ∈ xs)) ∧ ∀ i, i < xs.length → ∀ z, D.atKey (pkl k (xs.getD i 0)) z = .lit (.int .i64 i)
theorem NumAt2.kept {w w' : World} {b k : Nat} {xs : List Nat} {row : Option Nat} (h : NumAt2 w b k xs) (hg : w.grownBy w' row) (hne : row ≠ some b) : NumAt2 w' b k xs := by
  obtain ⟨D, h1, h2⟩ := h
  exact ⟨D, h1.kept hg (Ne.symm hne), h2⟩
theorem NumAt2.block {w : World} {b k : Nat} {xs : List Nat} (h : NumAt2 w b k xs) : b < w.heap.size ∧ ∃ o, w.heap[b]? = some o ∧ ∀ c t f, o ≠ .cells c t f := by
  obtain ⟨D, ⟨es, clock, hb, _⟩, _⟩ := h
  exact ⟨(Array.getElem?_eq_some_iff.1 hb).1, _, hb, fun _ _ _ e => by cases e⟩
theorem NumAt2.look {w : World} {b k : Nat} {xs : List Nat} (h : NumAt2 w b k xs) {y : Nat} (hy : y < 4611686018427387904) :
    (y ∈ xs → (Instr.lookup 81 (.map (some b)) (pvl k y) true).run Try.prog w = .ok (.tuple #[.int .i64 ((ix id xs y : Nat) : Int), .bool true]) w) ∧
    (y ∉ xs → ∃ c, (Instr.lookup 81 (.map (some b)) (pvl k y) true).run Try.prog w = .ok (.tuple #[.int .i64 c, .bool false]) w) := by
  obtain ⟨D, h1, h2, h3⟩ := h
  obtain ⟨v, ps, hrun, hv⟩ := h1.look_ok Try.keyed2 Try.underlying81 (zero3 w) (plainElem_int Try.underlying3 (by decide)) (pkl_key hy)
  obtain ⟨c, rfl, hc, hwc⟩ := plainElem_int_inv Try.underlying3 hv
  simp only [Prod.mk.injEq] at hc
  refine ⟨fun hm => ?_, fun hm => ⟨c, ?_⟩⟩
  · have hk : hasK id xs y := ⟨y, hm, rfl⟩
    have e1 := h3 (ix id xs y) (ix_lt hk) (.lit (.int .i64 0))
    have e2 : xs.getD (ix id xs y) 0 = y := ix_key hk
    rw [e2] at e1
    rw [e1] at hc
    have e3 : c = (ix id xs y : Nat) := by have := hc.1; simp at this; exact this.symm
    rw [hrun, (h2 y hy).2 hm, e3]
  · have : Maps.has D (pkl k y) = false := by
      cases hb : Maps.has D (pkl k y) with
      | false => rfl
      | true => exact absurd ((h2 y hy).1 hb) hm
    rw [hrun, this]
theorem NumAt2.put {w : World} {b k : Nat} {xs : List Nat} (h : NumAt2 w b k xs) {y : Nat} (hy : y < 4611686018427387904) (hxs : ∀ x, x ∈ xs → x < 4611686018427387904) (hm : y ∉ xs) (hl : xs.length < 4611686018427387904) :
    ∃ w', (Instr.mapUpdate 81 (.map (some b)) (pvl k y) (.int .i64 xs.length)).run Try.prog w = .ok () w' ∧ NumAt2 w' b k (xs ++ [y]) ∧ w.grownBy w' (some b) := by
  obtain ⟨D, h1, h2, h3⟩ := h
  obtain ⟨w', hrun, h4, h5⟩ := h1.update Try.keyed2 Try.underlying81 (by unfold maxLen; omega) (pkl_key hy) (plainElem_int Try.underlying3 (wf64 hl))
  refine ⟨w', hrun, ⟨_, by simpa using h4, fun z hz => ?_, fun i hi z => ?_⟩, h5⟩
  · by_cases hzy : z = y
    · subst hzy
      rw [has_put_same h1.isMap (pkl_lit k z)]
      simp
    · rw [has_put_other (fun e => hzy (pkl_inj hz hy e)), h2 z hz]
      simp [hzy]
  · simp at hi
    by_cases hil : i < xs.length
    · have hmem := getD_mem hil
      rw [getD_app _ hil, atKey_put_other (fun e => hm (by rw [← pkl_inj (hxs _ hmem) hy e]; exact hmem))]
      exact h3 i hil z
    · have : i = xs.length := by omega
      subst this
      have e : (xs ++ [y]).getD xs.length 0 = y := by simp [List.getD]
      rw [e, atKey_put_same h1.isMap (pkl_lit k y)]
theorem numAt2_made (w : World) (k : Nat) : NumAt2 (w.alloc (.map #[] 0)) w.heap.size k [] :=
  ⟨.map [], World.ownsMap_made w _ _ _, fun y _ => by simp [Maps.has_eq], fun i hi => by simp at hi⟩

/-! A row of pairs beside rows of one's own and words that lie elsewhere. -/
structure OwnsQ (B lo hi : Nat) (w : World) (vS : Value) (n : Nat) (cs : List Value) (its : List Item) (ps : List Trip) : Prop where
  st : w.ownsRow B 56 2 vS n cs
  own : OwnsP B lo hi w its ps
  ap : ∀ it, it ∈ its → Apart vS it.2.1
  aw : ∀ p, p ∈ ps → p.2.2 ≠ [] → ∀ y, p.1 = some y → vS.ownBlock ≠ some y.block
section
variable {B lo hi : Nat} {w w' : World} {vS v : Value} {n : Nat} {cs xs : List Value} {its r : List Item} {ps : List Trip} {e : TypeId}
theorem OwnsQ.two (h : OwnsQ B lo hi w vS n cs its ps) : Owns2 B w vS n cs its := ⟨h.st, h.own.own, h.ap⟩
theorem OwnsQ.kept (h : OwnsQ B lo hi w vS n cs its ps) (g : w.grownBy w' none) : OwnsQ B lo hi w' vS n cs its ps := ⟨(h.two.kept g).st, h.own.kept g, h.ap, h.aw⟩
theorem OwnsQ.perm {its' : List Item} (h : OwnsQ B lo hi w vS n cs its ps) (p : its.Perm its') : OwnsQ B lo hi w vS n cs its' ps := ⟨h.st, h.own.perm p, fun it hm => h.ap it (p.mem_iff.2 hm), h.aw⟩
theorem OwnsQ.sub {ps' : List Trip} (h : OwnsQ B lo hi w vS n cs its ps) (hs : ∀ p, p ∈ ps' → p ∈ ps) : OwnsQ B lo hi w vS n cs its ps' := ⟨h.st, h.own.sub hs, h.ap, fun p hp => h.aw p (hs p hp)⟩
theorem OwnsQ.far {b : Nat} {o : Obj} (h : OwnsQ B lo hi w vS n cs its ps) (g : w.grownBy w' (some b)) (ho : w.heap[b]? = some o) (hne : ∀ c t f, o ≠ .cells c t f) (h1 : lo ≤ b) (h2 : b < hi) : OwnsQ B lo hi w' vS n cs its ps :=
  ⟨(h.two.far g ho hne).st, h.own.far g (h.own.own.other ho hne) h1 h2, h.ap, h.aw⟩
theorem OwnsQ.below {b : Nat} (h : OwnsQ B lo hi w vS n cs its ps) (g : w.grownBy w' (some b)) (hb : b < B) (h1 : lo ≤ b) (h2 : b < hi) : OwnsQ B lo hi w' vS n cs its ps :=
  ⟨(h.two.below g hb).st, h.own.below g hb h1 h2, h.ap, h.aw⟩
theorem OwnsQ.append {g m cap H : Nat} {news : List Value} (h : OwnsQ B lo hi w vS n cs ((e, v, xs) :: r) ps) (ho : w'.ownsRow B e 1 (.slice (some ⟨g, 0, none⟩) m cap) m (xs ++ news)) (hn : m = xs.length + news.length) (hg : w.grownBy w' v.ownBlock)
    (hat : v.ownBlock = some g ∨ g = H) (hH : w.heap.size = H) : OwnsQ B lo hi w' vS n cs ((e, .slice (some ⟨g, 0, none⟩) m cap, xs ++ news) :: r) ps := by
  have h2 := h.two.append ho hn hg hat hH
  exact ⟨h2.st, h.own.append ho hn hg hat hH, h2.ap, h.aw⟩
theorem OwnsQ.made {arr : Array Value} {m : Nat} (h : OwnsQ B lo hi w vS n cs r ps) (hB : B ≤ w.heap.size) (e : TypeId) (hn : arr.size = m) (hm : m ≤ maxLen) : OwnsQ B lo hi (w.alloc (.cells arr e)) vS n cs ((e, .slice (some ⟨w.heap.size, 0, none⟩) m m, arr.toList) :: r) ps := by
  have h2 := h.two.made hB e hn hm
  exact ⟨h2.st, h.own.made hB e hn hm, h2.ap, h.aw⟩
theorem OwnsQ.set {g m cap i : Nat} (h : OwnsQ B lo hi w vS n cs ((e, .slice (some ⟨g, 0, none⟩) m cap, xs) :: r) ps) (hi' : i < m) (u : Value) : OwnsQ B lo hi (w.setCell ⟨g, i, none⟩ u) vS n cs ((e, .slice (some ⟨g, 0, none⟩) m cap, xs.set i u) :: r) ps := by
  have h2 := h.two.set hi' u
  exact ⟨h2.st, h.own.set hi' u, h2.ap, h.aw⟩
theorem OwnsQ.word {a : Option Addr} {zs : List Int} (h : OwnsQ B lo hi w vS n cs its ps) (hlo : lo ≤ B) (hhi : hi ≤ w.heap.size) (g : w.grownBy w' none) (hz : Ints w' a zs) (hnew : zs ≠ [] → ∀ y, a = some y → y.block < lo ∨ w.heap.size ≤ y.block) (c : Nat) : OwnsQ B lo hi w' vS n cs its ((a, c, zs) :: ps) := by
  refine ⟨(h.two.kept g).st, h.own.word hlo hhi g hz hnew c, h.ap, fun p hp hne y hy e2 => ?_⟩
  rcases List.mem_cons.1 hp with rfl | hp
  · have h1 := hnew hne y hy
    have h3 := h.st.lt _ e2
    omega
  · exact h.aw p hp hne y hy e2
theorem OwnsQ.push {g m cap H : Nat} {news : List Value} (h : OwnsQ B lo hi w vS n cs its ps) (ho : w'.ownsRow B 56 2 (.slice (some ⟨g, 0, none⟩) m cap) m (cs ++ news)) (hg : w.grownBy w' vS.ownBlock)
    (hat : vS.ownBlock = some g ∨ g = H) (hH : w.heap.size = H) : OwnsQ B lo hi w' (.slice (some ⟨g, 0, none⟩) m cap) m (cs ++ news) its ps := by
  have h2 := h.two.push ho hg hat hH
  refine ⟨h2.st, ⟨h2.own, fun p hp => ?_, h.own.apt⟩, h2.ap, fun p hp hne y hy e2 => ?_⟩
  · cases hb : vS.ownBlock with
    | none => rw [hb] at hg; exact (h.own.lie p hp).grown hg
    | some b =>
      rw [hb] at hg
      exact ints_far (h.own.lie p hp) (fun hne y hy e2 => h.aw p hp hne y hy (by rw [e2]; exact hb)) hg
  · have e3 : g = y.block := by simpa [Value.ownBlock] using e2
    rcases hat with h3 | h3
    · exact h.aw p hp hne y hy (by rw [← e3]; exact h3)
    · have := ints_lt (h.own.lie p hp) hne hy
      omega
end

end Go.Proofs.Ytodcmlcpicabaaa
