/- A set of pairs, and meetings, in memory. -/
import Derived.Test.YtdajdnilhjcniaaTnRows
import Derived.Test.YtdajdnilhjcniaaTdMath
import Derived.WideKeyPair
import Derived.DeepKeys4
import Derived.Maps.Own
namespace Go.Proofs.Ytdajdnilhjcniaa
open Go.RowKit Go.Maps
set_option linter.unusedVariables false
set_option linter.unusedSimpArgs false

abbrev pairV (p q : Nat) : Value := .agg #[.int .i64 (p : Int), .int .i64 (q : Int)]
theorem Try.arrP : WideMaps.ArrKey Try.prog 44 3 2 := ⟨Try.underlying44, by kernel_rfl, by kernel_rfl, by kernel_rfl⟩
theorem pred_ofP {n t : Nat} (h : t < n) : ∃ m, n = m + 1 := ⟨n - 1, by omega⟩
theorem Try.rowP : (44 : TypeId) < Try.prog.types.size := of_decide_eq_true (by kernel_rfl)
set_option maxRecDepth 100000 in
theorem Try.sizeP : ∃ m, Try.prog.types.size = m + 1 := pred_ofP Try.rowP
theorem Try.wideP : (match Try.prog.underlying 44 with | some (.array _ _) | some (.struct _) => true | _ => false) = true := by rw [Try.underlying44]
set_option maxRecDepth 100000 in
theorem Try.keyedP : Keyed Try.prog 44 := Keyed.of_law (deep_law_laid Try.laidOut (m := 2) (by omega) Try.rowP (by kernel_rfl) Try.wideP)
theorem wfP {p : Nat} (h : p < 4611686018427387904) : (Lit.int .i64 (p : Int)).wf = true := WalkArith.wf_i64 (by omega)
def plit (p q : Nat) : Lit := .string (keyBytes [.int .i64 (p : Int), .int .i64 (q : Int)])
theorem plit_key {p q : Nat} (hp : p < 1000) (hq : q < 1000) : keyOf Try.prog 44 (pairV p q) = some (plit p q) := WideMaps.keyOf_pair Try.arrP Try.underlying3 Try.sizeP (wfP (by omega)) (wfP (by omega))
theorem plit_inj {p q p' q' : Nat} (hp : p < 1000) (hq : q < 1000) (hp' : p' < 1000) (hq' : q' < 1000) (e : plit p q = plit p' q') : p = p' ∧ q = q' := by
  have h1 := Try.keyedP.inj (plit_key hp hq) (by rw [e]; exact plit_key hp' hq')
  simp only [pairV, Value.agg.injEq, Array.mk.injEq, List.cons.injEq, Value.int.injEq, true_and, and_true] at h1
  omega
theorem plit_lit (p q : Nat) : WideAt.IsKeyLit (plit p q) := by simp [WideAt.IsKeyLit, plit]
/-- The map in block b has the pairs whose numbers are S. -/
def SetP (w : World) (b n : Nat) (S : List Nat) : Prop :=
  ∃ D : DataW Unit, w.ownsMap Try.prog 44 unitElem b S.length D ∧ ∀ p q : Nat, p < 1000 → q < n → (Maps.has D (plit p q) = true ↔ p * n + q ∈ S)
theorem SetP.kept {w w' : World} {b n : Nat} {S : List Nat} {row : Option Nat} (h : SetP w b n S) (hg : w.grownBy w' row) (hne : row ≠ some b) : SetP w' b n S := by
  obtain ⟨D, h1, h2⟩ := h
  exact ⟨D, h1.kept hg (Ne.symm hne), h2⟩
theorem SetP.block {w : World} {b n : Nat} {S : List Nat} (h : SetP w b n S) : b < w.heap.size ∧ ∃ o, w.heap[b]? = some o ∧ ∀ c t f, o ≠ .cells c t f := by
  obtain ⟨D, ⟨es, clock, hb, _⟩, _⟩ := h
  exact ⟨(Array.getElem?_eq_some_iff.1 hb).1, _, hb, fun _ _ _ e => by cases e⟩
theorem zeroUP (w : World) : (zeroValue 53).run Try.prog w = .ok (.agg #[]) w := by kernel_rfl
theorem SetP.look {w : World} {b n : Nat} {S : List Nat} (h : SetP w b n S) {p q : Nat} (hp : p < 1000) (hq : q < n) (hn : n ≤ 1000) :
    (Instr.lookup 50 (.map (some b)) (pairV p q) true).run Try.prog w = .ok (.tuple #[.agg #[], .bool (decide (p * n + q ∈ S))]) w := by
  obtain ⟨D, h1, h2⟩ := h
  have hq1 : q < 1000 := by omega
  obtain ⟨v, ps, hrun, hv⟩ := h1.look_ok Try.keyedP Try.underlying50 (zeroUP w) unitElem_mk (plit_key hp hq1)
  obtain ⟨rfl, _⟩ := unitElem_inv hv
  rw [hrun]
  have e : Maps.has D (plit p q) = decide (p * n + q ∈ S) := by
    cases hb : Maps.has D (plit p q) with
    | true => rw [decide_eq_true ((h2 p q hp hq).1 hb)]
    | false => rw [decide_eq_false (fun e => by rw [(h2 p q hp hq).2 e] at hb; cases hb)]
  rw [e]
theorem code_inj {n p q p' q' : Nat} (hq : q < n) (hq' : q' < n) (h : p * n + q = p' * n + q') : p = p' ∧ q = q' := by
  have e1 : (p * n + q) % n = q := by rw [Nat.mul_comm, Nat.mul_add_mod]; exact Nat.mod_eq_of_lt hq
  have e2 : (p' * n + q') % n = q' := by rw [Nat.mul_comm, Nat.mul_add_mod]; exact Nat.mod_eq_of_lt hq'
  have e3 : q = q' := by rw [← e1, ← e2, h]
  subst e3
  exact ⟨Nat.eq_of_mul_eq_mul_right (by omega) (show p * n = p' * n by omega), rfl⟩
theorem SetP.put {w : World} {b n : Nat} {S : List Nat} (h : SetP w b n S) {p q : Nat} (hp : p < 1000) (hq : q < n) (hn : n ≤ 1000) (hl : S.length ≤ 4000) :
    ∃ w', (Instr.mapUpdate 50 (.map (some b)) (pairV p q) (.agg #[])).run Try.prog w = .ok () w' ∧ SetP w' b n (S ++ [p * n + q]) ∧ w.grownBy w' (some b) := by
  obtain ⟨D, h1, h2⟩ := h
  have hq1 : q < 1000 := by omega
  obtain ⟨w', hrun, h4, h5⟩ := h1.update Try.keyedP Try.underlying50 (by unfold maxLen; omega) (plit_key hp hq1) unitElem_mk
  refine ⟨w', hrun, ⟨_, by simpa using h4, fun p' q' hp' hq' => ?_⟩, h5⟩
  by_cases e : p' = p ∧ q' = q
  · obtain ⟨rfl, rfl⟩ := e
    rw [has_put_same h1.isMap (plit_lit _ _)]
    simp
  · rw [has_put_other (fun e' => e (plit_inj hp' (by omega) hp hq1 e')), h2 p' q' hp' hq']
    have : p' * n + q' ≠ p * n + q := fun e' => e (code_inj hq' hq e')
    simp [this]
theorem setP_made (w : World) (n : Nat) : SetP (w.alloc (.map #[] 0)) w.heap.size n [] :=
  ⟨.map [], World.ownsMap_made w _ _ _, fun p q _ _ => by simp [Maps.has_eq]⟩

/-! Meetings. -/
structure Mt where
  p : Nat
  q : Nat
  fr : Int
  l : Int
  m : Trip
  n : Trip
def cellsM (x : Mt) : List Value := [.int .i64 (x.p : Int), .int .i64 (x.q : Int), .int .i64 x.fr, .int .i64 x.l, valT x.m, valT x.n]
abbrev mtV (x : Mt) : Value := .agg #[.int .i64 (x.p : Int), .int .i64 (x.q : Int), .int .i64 x.fr, .int .i64 x.l, .slice x.m.1 x.m.2.2.length x.m.2.1, .slice x.n.1 x.n.2.2.length x.n.2.1]
def flatM (ms : List Mt) : List Value := ms.flatMap cellsM
def mt0 : Mt := ⟨0, 0, 0, 0, (none, 0, []), (none, 0, [])⟩
theorem flatM_len (ms : List Mt) : (flatM ms).length = ms.length * 6 := by
  induction ms with
  | nil => rfl
  | cons a ms ih => unfold flatM at *; rw [List.flatMap_cons, List.length_append, ih]; simp [cellsM]; omega
theorem flatM_get {ms : List Mt} {i k : Nat} (hi : i < ms.length) (hk : k < 6) : (flatM ms)[i * 6 + k]? = (cellsM (ms.getD i mt0))[k]? := by
  induction ms generalizing i with
  | nil => simp at hi
  | cons a ms ih =>
    cases i with
    | zero =>
      unfold flatM
      rw [List.flatMap_cons, List.getElem?_append_left (by simp [cellsM]; omega)]
      simp
    | succ i =>
      have := ih (i := i) (by simpa using hi)
      unfold flatM at *
      rw [List.flatMap_cons, List.getElem?_append_right (by simp [cellsM]; omega)]
      rw [show (i + 1) * 6 + k - (cellsM a).length = i * 6 + k by simp [cellsM]; omega, this]
      simp
/-- A word that lies elsewhere than in block g. -/
def LieP (W : World) (g : Nat) (t : Trip) : Prop := Ints W t.1 t.2.2 ∧ t.2.2.length ≤ 16 ∧ (t.2.2 = [] ∨ ∃ y, t.1 = some y ∧ y.block ≠ g ∧ y.block < W.heap.size)
theorem LieP.grown {W W' : World} {g : Nat} {t : Trip} (h : LieP W g t) (hg : W.grownBy W' none) : LieP W' g t :=
  ⟨h.1.grown hg, h.2.1, h.2.2.imp id fun ⟨y, h1, h2, h3⟩ => ⟨y, h1, h2, Nat.lt_of_lt_of_le h3 hg.size⟩⟩
theorem LieP.turn {W W' : World} {g b : Nat} {t : Trip} (h : LieP W g t) (hg : W.grownBy W' (some b)) (hb : t.2.2 = [] ∨ ∀ y, t.1 = some y → y.block ≠ b) : LieP W' g t := by
  refine ⟨?_, h.2.1, h.2.2.imp id fun ⟨y, h1, h2, h3⟩ => ⟨y, h1, h2, Nat.lt_of_lt_of_le h3 hg.size⟩⟩
  rcases hb with hb | hb
  · exact .inl hb
  · exact h.1.far hb hg
structure OwnM (W1 W : World) (g c : Nat) (ms : List Mt) : Prop where
  own : W.ownsRow W1.heap.size 48 6 (.slice (some ⟨g, 0, none⟩) ms.length c) ms.length (flatM ms)
  gr : W1.grownBy W none
  lie : ∀ x, x ∈ ms → LieP W g x.m ∧ LieP W g x.n
theorem OwnM.g_lt {W1 W : World} {g c : Nat} {ms : List Mt} (h : OwnM W1 W g c ms) : W1.heap.size ≤ g ∧ g < W.heap.size := h.own.lt g rfl
theorem OwnM.grown {W1 W W' : World} {g c : Nat} {ms : List Mt} (h : OwnM W1 W g c ms) (hg : W.grownBy W' none) : OwnM W1 W' g c ms :=
  ⟨h.own.kept hg (.inr (by simp [Value.ownBlock])), grown_trans h.gr hg, fun x hx => ⟨(h.lie x hx).1.grown hg, (h.lie x hx).2.grown hg⟩⟩
/-- A block that is no cells has turned. -/
theorem OwnM.far {W1 W W' : World} {g c b : Nat} {ms : List Mt} {o : Obj} (h : OwnM W1 W g c ms) (hg : W.grownBy W' (some b)) (ho : W.heap[b]? = some o) (hne : ∀ c t f, o ≠ .cells c t f) (hb : W1.heap.size ≤ b) : OwnM W1 W' g c ms := by
  have hcell : ∀ (y : Addr) v, W.cell? y = some v → y.block ≠ b := fun y v hy e => by
    have hh : ∃ c t f, W.heap[y.block]? = some (.cells c t f) := by
      unfold World.cell? at hy
      revert hy
      cases hob : W.heap[y.block]? with
      | none => simp
      | some o' => cases o' <;> simp
    obtain ⟨c, t, f, h1⟩ := hh
    rw [e, ho] at h1
    exact hne _ _ _ (Option.some.inj h1)
  have hlie : ∀ t : Trip, LieP W g t → LieP W' g t := fun t ht => ht.turn hg (by
    rcases ht.2.2 with h1 | ⟨y, h1, _⟩
    · exact .inl h1
    · by_cases he : t.2.2 = []
      · exact .inl he
      · refine .inr fun y' hy' => ?_
        obtain ⟨bb, off, hb', hc⟩ := ht.1.at (List.length_pos_iff.2 he)
        rw [hb'] at hy'
        cases hy'
        exact hcell _ _ (hc 0 (List.length_pos_iff.2 he)))
  refine ⟨h.own.kept hg ?_, ?_, fun x hx => ⟨hlie _ (h.lie x hx).1, hlie _ (h.lie x hx).2⟩⟩
  · right
    rcases h.own.2 with ⟨e0, _⟩ | ⟨g', cap, cur, e1, _, hh, _⟩
    · cases e0
    · simp only [Value.slice.injEq, Option.some.injEq, Addr.mk.injEq] at e1
      obtain ⟨⟨rfl, _⟩, _⟩ := e1
      intro hc
      have : g = b := by simpa [Value.ownBlock] using hc
      subst this
      rw [hh] at ho
      exact hne _ _ _ (Option.some.inj ho).symm
  · exact grown_of_below ((below_of_grown h.gr).grown hg h.gr.size (fun k hk => by cases hk; exact hb))
theorem OwnM.at {W1 W : World} {g c : Nat} {ms : List Mt} (h : OwnM W1 W g c ms) {i : Nat} (hi : i < ms.length) :
    W.cell? ⟨g, i * 6, none⟩ = some (.int .i64 ((ms.getD i mt0).p : Int)) ∧ W.cell? ⟨g, i * 6 + 1, none⟩ = some (.int .i64 ((ms.getD i mt0).q : Int)) ∧ W.cell? ⟨g, i * 6 + 2, none⟩ = some (.int .i64 (ms.getD i mt0).fr) ∧ W.cell? ⟨g, i * 6 + 3, none⟩ = some (.int .i64 (ms.getD i mt0).l) ∧ W.cell? ⟨g, i * 6 + 4, none⟩ = some (valT (ms.getD i mt0).m) ∧ W.cell? ⟨g, i * 6 + 5, none⟩ = some (valT (ms.getD i mt0).n) := by
  have hc : ∀ k v, k < 6 → (cellsM (ms.getD i mt0))[k]? = some v → W.cell? ⟨g, i * 6 + k, none⟩ = some v := fun k v hk hv => by
    have hlt : i * 6 + k < ms.length * 6 := by omega
    have h1 := h.own.cellAt (i * 6 + k) hlt
    rw [flatM_get hi hk] at h1
    rw [h1]
    exact hv
  exact ⟨hc 0 _ (by omega) rfl, hc 1 _ (by omega) rfl, hc 2 _ (by omega) rfl, hc 3 _ (by omega) rfl, hc 4 _ (by omega) rfl, hc 5 _ (by omega) rfl⟩
theorem Try.infoMt : (Try.prog.info? 48).map (fun i => (i.zero, i.size, i.bytes)) = some (some (.agg #[.int .i64 0, .int .i64 0, .int .i64 0, .int .i64 0, .slice none 0 0, .slice none 0 0]), 6, 80) := by kernel_rfl
theorem OwnM.put {W1 W : World} {g c : Nat} {ms : List Mt} {x : Mt} {B d : Nat} (h : OwnM W1 W g c ms) (hx : ∀ k v, (cellsM x)[k]? = some v → W.cell? ⟨B, k, none⟩ = some v) (hm : LieP W g x.m) (hn : LieP W g x.n) (hl : ms.length + 1 ≤ 1000) :
    ∃ g1 c1 W', (AppY #[49, 49] 49 #[.slice (some ⟨g, 0, none⟩) ms.length c, .slice (some ⟨B, 0, none⟩) 1 d]).run Try.prog W = .ok (.slice (some ⟨g1, 0, none⟩) (ms.length + 1) c1) W' ∧ OwnM W1 W' g1 c1 (ms ++ [x]) ∧ W.grownBy W' (some g) ∧ (g1 = g ∨ g1 = W.heap.size) := by
  obtain ⟨i0, hi0, hz0, hz1, hz2⟩ := info_partsY Try.infoMt
  obtain ⟨g1, c1, w1, hr, h2, h3, h4, h5⟩ := run_append_lies (P := Try.prog) W 49 49 W1.heap.size 48 i0 _ 6 80 Try.underlying49 hi0 hz0 hz1 hz2 rfl (by decide) (.slice (some ⟨g, 0, none⟩) ms.length c) ms.length (flatM ms) h.own ⟨B, 0, none⟩ 1 d (cellsM x) (by simp [cellsM]) (fun j u hu => by
      have e : (⟨B, 0, none⟩ : Addr).add j = ⟨B, j, none⟩ := by by_cases hj0 : j = 0 <;> simp [Addr.add, hj0]
      rw [e]; exact hx j u hu) (by intro u hu; simp [cellsM, valT] at hu; rcases hu with rfl | rfl | rfl | rfl | rfl | rfl <;> rfl) (by omega) (by unfold maxLen; omega) (by omega) h.gr.size _ rfl
  have hg : W.grownBy w1 (some g) := h3
  have hlie : ∀ t : Trip, LieP W g t → LieP w1 g1 t := fun t ht => by
    have h6 := ht.turn hg (by
      rcases ht.2.2 with h1 | ⟨y, h1, h2, _⟩
      · exact .inl h1
      · exact .inr fun y' hy' => by rw [h1] at hy'; cases hy'; exact h2)
    refine ⟨h6.1, h6.2.1, ?_⟩
    rcases ht.2.2 with h1 | ⟨y, h1, h2, h3⟩
    · exact .inl h1
    · refine .inr ⟨y, h1, ?_, Nat.lt_of_lt_of_le h3 hg.size⟩
      rcases h4 with h4 | h4
      · have : g = g1 := by simpa [Value.ownBlock] using h4
        rw [← this]; exact h2
      · rw [h4]; omega
  have e : flatM ms ++ cellsM x = flatM (ms ++ [x]) := by simp [flatM]
  refine ⟨g1, c1, w1, hr, ⟨by rw [List.length_append, ← e]; exact h2, grown_of_below ((below_of_grown h.gr).grown hg h.gr.size (fun k hk => by cases hk; exact h.g_lt.1)), fun y hy => ?_⟩, hg, ?_⟩
  rotate_left
  · rcases h4 with h4 | h4
    · left
      have : g = g1 := by simpa [Value.ownBlock] using h4
      exact this.symm
    · exact .inr h4
  rcases List.mem_append.1 hy with hy | hy
  · exact ⟨hlie _ (h.lie y hy).1, hlie _ (h.lie y hy).2⟩
  · rw [List.mem_singleton.1 hy]; exact ⟨hlie _ hm, hlie _ hn⟩

theorem OwnM.ne_map {W1 W : World} {g c b n : Nat} {ms : List Mt} {S : List Nat} (h : OwnM W1 W g c ms) (k : SetP W b n S) : g ≠ b := by
  obtain ⟨_, o, ho, hne⟩ := k.block
  rcases h.own.2 with ⟨e0, _⟩ | ⟨g', cap, cur, e1, _, hh, _⟩
  · cases e0
  · simp only [Value.slice.injEq, Option.some.injEq, Addr.mk.injEq] at e1
    obtain ⟨⟨rfl, _⟩, _⟩ := e1
    intro e
    subst e
    rw [hh] at ho
    exact hne _ _ _ (Option.some.inj ho).symm

end Go.Proofs.Ytdajdnilhjcniaa
