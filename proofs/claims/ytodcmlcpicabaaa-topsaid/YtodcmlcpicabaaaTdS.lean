/- Whether two words are one: slices.Equal. (Parted from TdWord.) -/
/- A set of pairs, and meetings, in memory. -/
/- With how many letters two words begin; what is left; whether two are one; a word turned round. -/
/- Whether two words are one; a word turned round; the word that leads to a meeting. -/
import Derived.Test.YtodcmlcpicabaaaBas
import Derived.Test.YtodcmlcpicabaaaTlM
import Derived.WideKeyPair
import Derived.DeepKeys4
import Derived.Maps.Own
import Derived.Test.YtodcmlcpicabaaaCts
import Derived.Test.YtodcmlcpicabaaaShelf
namespace Go.Proofs.Ytodcmlcpicabaaa
open Go.RowKit
set_option linter.unusedVariables false
set_option linter.unusedSimpArgs false

theorem ext_getD {xs ys : List Int} (hl : xs.length = ys.length) (h : ∀ i, i < xs.length → xs.getD i 0 = ys.getD i 0) : xs = ys := by
  refine List.ext_getElem hl fun i h1 h2 => ?_
  have := h i h1
  rwa [List.getD, List.getD, List.getElem?_eq_getElem h1, List.getElem?_eq_getElem h2, Option.getD_some, Option.getD_some] at this

set_option maxHeartbeats 1600000 in
set_option maxRecDepth 100000 in
theorem equalI_any (v u : List Int) (a b : Option Addr) (c d : Nat) (w : World) (hv : Ints w a v) (hu : Ints w b u) (hm : v.length ≤ 1000) (hm' : u.length ≤ 1000) :
    Calls Try.prog 56 #[.slice a v.length c, .slice b u.length d] w (TellsB (v = u) w) := by
  have HV : Hid (Ints w a v) := hv
  have HU : Hid (Ints w b u) := hu
  clear hv hu
  by_cases el : v.length = u.length
  · have HE : Hid (v.length = u.length) := el
    have d0 : ((v.length : Int) != (u.length : Int)) = false := by simp [el]
    clear el
    go_enter Try.func56, Try.ntmps56
    go_wp2_with fail
    go_loopw [13] (fun t W => ∃ k : Nat, k ≤ v.length ∧ t = .int .i64 k ∧ w.grownBy W none ∧ ∀ j, j < k → v.getD j 0 = u.getD j 0) (fun t _ => v.length - (intOf t).toNat)
    case atStart => exact ⟨0, Nat.zero_le _, rfl, grown_refl _ _, fun j hj => by omega⟩
    case round =>
      obtain ⟨k, hk, rfl, hg, hj⟩ := hrel
      have HG : Hid (w.grownBy wr none) := hg
      have HJ : Hid (∀ j, j < k → v.getD j 0 = u.getD j 0) := hj
      clear hg hj
      by_cases h1 : k < v.length
      · have h2 : k < u.length := by have := HE.out; omega
        have i1 : (k : Int) < (v.length : Int) := by omega
        have i2 : (k : Int) < (u.length : Int) := by omega
        obtain ⟨b1, o1, rfl, hc1⟩ := (HV.out.grown HG.out).at h1
        obtain ⟨b2, o2, rfl, hc2⟩ := (HU.out.grown HG.out).at h2
        have x1 := hc1 k h1
        have x2 := hc2 k h2
        obtain ⟨z1, hz1⟩ : ∃ z, v.getD k 0 = z := ⟨_, rfl⟩
        obtain ⟨z2, hz2⟩ : ∃ z, u.getD k 0 = z := ⟨_, rfl⟩
        rw [hz1] at x1
        rw [hz2] at x2
        by_cases e : z1 = z2
        · have d1 : (z1 != z2) = false := by simpa using e
          have HN : Hid (∀ j, j < k + 1 → v.getD j 0 = u.getD j 0) := fun j hj => by
            by_cases hjk : j = k
            · subst hjk; rw [hz1, hz2]; exact e
            · exact HJ.out j (by omega)
          clear hz1 hz2 e hc1 hc2
          go_wp2_with fail
          go_quiet (fail)
          go_wp2_with fail
          go_roundw
          case rel => exact ⟨k + 1, by omega, by go_num, grown_drewN HG.out _, HN.out⟩
          case measure => simp [intOf]; omega
        · have d1 : (z1 != z2) = true := by simpa using e
          have HN : Hid (¬ v = u) := fun e2 => e (by rw [← hz1, ← hz2, e2])
          clear hz1 hz2 e hc1 hc2
          go_wp2_with fail
          go_quiet (fail)
          go_wp2_with fail
          go_ret
          exact tellsB false rfl ⟨(fun e => by cases e), fun e => absurd e HN.out⟩ (grown_drewN HG.out _)
      · have i1 : ¬ (k : Int) < (v.length : Int) := by omega
        have HN : Hid (v = u) := ext_getD HE.out fun i hi => HJ.out i (by omega)
        go_wp2_with fail
        go_ret
        exact tellsB true rfl ⟨fun _ => HN.out, fun _ => rfl⟩ HG.out
  · have d0 : ((v.length : Int) != (u.length : Int)) = true := by simp; omega
    have HN : Hid (¬ v = u) := fun e => el (by rw [e])
    clear el
    go_enter Try.func56, Try.ntmps56
    go_wp2_with fail
    go_ret
    exact tellsB false rfl ⟨(fun e => by cases e), fun e => absurd e HN.out⟩ (grown_refl _ _)


end Go.Proofs.Ytodcmlcpicabaaa

namespace Go.Proofs.Ytodcmlcpicabaaa
open Go.RowKit Go.Maps
set_option linter.unusedVariables false
set_option linter.unusedSimpArgs false

abbrev pairV (p q : Nat) : Value := .agg #[.int .i64 (p : Int), .int .i64 (q : Int)]
theorem Try.arrP : WideMaps.ArrKey Try.prog 56 3 2 := ⟨Try.underlying56, by kernel_rfl, by kernel_rfl, by kernel_rfl⟩
theorem pred_ofP {n t : Nat} (h : t < n) : ∃ m, n = m + 1 := ⟨n - 1, by omega⟩
theorem Try.rowP : (56 : TypeId) < Try.prog.types.size := of_decide_eq_true (by kernel_rfl)
set_option maxRecDepth 100000 in
theorem Try.sizeP : ∃ m, Try.prog.types.size = m + 1 := pred_ofP Try.rowP
theorem Try.wideP : (match Try.prog.underlying 56 with | some (.array _ _) | some (.struct _) => true | _ => false) = true := by rw [Try.underlying56]
set_option maxRecDepth 100000 in
theorem Try.keyedP : Keyed Try.prog 56 := Keyed.of_law (deep_law_laid Try.laidOut (m := 2) (by omega) Try.rowP (by kernel_rfl) Try.wideP)
theorem wfP {p : Nat} (h : p < 4611686018427387904) : (Lit.int .i64 (p : Int)).wf = true := WalkArith.wf_i64 (by omega)
def plit (p q : Nat) : Lit := .string (keyBytes [.int .i64 (p : Int), .int .i64 (q : Int)])
theorem plit_key {p q : Nat} (hp : p < 1000) (hq : q < 1000) : keyOf Try.prog 56 (pairV p q) = some (plit p q) := WideMaps.keyOf_pair Try.arrP Try.underlying3 Try.sizeP (wfP (by omega)) (wfP (by omega))
theorem plit_inj {p q p' q' : Nat} (hp : p < 1000) (hq : q < 1000) (hp' : p' < 1000) (hq' : q' < 1000) (e : plit p q = plit p' q') : p = p' ∧ q = q' := by
  have h1 := Try.keyedP.inj (plit_key hp hq) (by rw [e]; exact plit_key hp' hq')
  simp only [pairV, Value.agg.injEq, Array.mk.injEq, List.cons.injEq, Value.int.injEq, true_and, and_true] at h1
  omega
theorem plit_lit (p q : Nat) : WideAt.IsKeyLit (plit p q) := by simp [WideAt.IsKeyLit, plit]
/-- The map in block b has the pairs whose numbers are S. -/
def SetP (w : World) (b n : Nat) (S : List Nat) : Prop :=
  ∃ D : DataW Unit, w.ownsMap Try.prog 56 unitElem b S.length D ∧ ∀ p q : Nat, p < 1000 → q < n → (Maps.has D (plit p q) = true ↔ p * n + q ∈ S)
theorem SetP.kept {w w' : World} {b n : Nat} {S : List Nat} {row : Option Nat} (h : SetP w b n S) (hg : w.grownBy w' row) (hne : row ≠ some b) : SetP w' b n S := by
  obtain ⟨D, h1, h2⟩ := h
  exact ⟨D, h1.kept hg (Ne.symm hne), h2⟩
theorem SetP.block {w : World} {b n : Nat} {S : List Nat} (h : SetP w b n S) : b < w.heap.size ∧ ∃ o, w.heap[b]? = some o ∧ ∀ c t f, o ≠ .cells c t f := by
  obtain ⟨D, ⟨es, clock, hb, _⟩, _⟩ := h
  exact ⟨(Array.getElem?_eq_some_iff.1 hb).1, _, hb, fun _ _ _ e => by cases e⟩
theorem zeroUP (w : World) : (zeroValue 71).run Try.prog w = .ok (.agg #[]) w := by kernel_rfl
theorem SetP.look {w : World} {b n : Nat} {S : List Nat} (h : SetP w b n S) {p q : Nat} (hp : p < 1000) (hq : q < n) (hn : n ≤ 1000) :
    (Instr.lookup 68 (.map (some b)) (pairV p q) true).run Try.prog w = .ok (.tuple #[.agg #[], .bool (decide (p * n + q ∈ S))]) w := by
  obtain ⟨D, h1, h2⟩ := h
  have hq1 : q < 1000 := by omega
  obtain ⟨v, ps, hrun, hv⟩ := h1.look_ok Try.keyedP Try.underlying68 (zeroUP w) unitElem_mk (plit_key hp hq1)
  obtain ⟨rfl, _⟩ := unitElem_inv hv
  rw [hrun]
  have e : Maps.has D (plit p q) = decide (p * n + q ∈ S) := by
    cases hb : Maps.has D (plit p q) with
    | true => rw [decide_eq_true ((h2 p q hp hq).1 hb)]
    | false => rw [decide_eq_false (fun e => by rw [(h2 p q hp hq).2 e] at hb; cases hb)]
  rw [e]
theorem code_inj {n p q p' q' : Nat} (hq : q < n) (hq' : q' < n) (h : p * n + q = p' * n + q') : p = p' ∧ q = q' := by
  have e1 : (p * n + q) % n = q := by rw [Nat.mul_comm, Nat.mul_add_mod]; exact Nat.mod_eq_of_lt hq
  have e2 : (p' * n + q') % n = q' := by rw [Nat.mul_comm, Nat.mul_add_mod]; exact Nat.mod_eq_of_lt hq'
  have e3 : q = q' := by rw [← e1, ← e2, h]
  subst e3
  exact ⟨Nat.eq_of_mul_eq_mul_right (by omega) (show p * n = p' * n by omega), rfl⟩
theorem SetP.put {w : World} {b n : Nat} {S : List Nat} (h : SetP w b n S) {p q : Nat} (hp : p < 1000) (hq : q < n) (hn : n ≤ 1000) (hl : S.length ≤ 4000) :
    ∃ w', (Instr.mapUpdate 68 (.map (some b)) (pairV p q) (.agg #[])).run Try.prog w = .ok () w' ∧ SetP w' b n (S ++ [p * n + q]) ∧ w.grownBy w' (some b) := by
  obtain ⟨D, h1, h2⟩ := h
  have hq1 : q < 1000 := by omega
  obtain ⟨w', hrun, h4, h5⟩ := h1.update Try.keyedP Try.underlying68 (by unfold maxLen; omega) (plit_key hp hq1) unitElem_mk
  refine ⟨w', hrun, ⟨_, by simpa using h4, fun p' q' hp' hq' => ?_⟩, h5⟩
  by_cases e : p' = p ∧ q' = q
  · obtain ⟨rfl, rfl⟩ := e
    rw [has_put_same h1.isMap (plit_lit _ _)]
    simp
  · rw [has_put_other (fun e' => e (plit_inj hp' (by omega) hp hq1 e')), h2 p' q' hp' hq']
    have : p' * n + q' ≠ p * n + q := fun e' => e (code_inj hq' hq e')
    simp [this]
theorem setP_made (w : World) (n : Nat) : SetP (w.alloc (.map #[] 0)) w.heap.size n [] :=
  ⟨.map [], World.ownsMap_made w _ _ _, fun p q _ _ => by simp [Maps.has_eq]⟩

/-! Meetings. -/
structure Mt where
  p : Nat
  q : Nat
  fr : Int
  l : Int
  m : Trip
  n : Trip
def cellsM (x : Mt) : List Value := [.int .i64 (x.p : Int), .int .i64 (x.q : Int), .int .i64 x.fr, .int .i64 x.l, valT x.m, valT x.n]
abbrev mtV (x : Mt) : Value := .agg #[.int .i64 (x.p : Int), .int .i64 (x.q : Int), .int .i64 x.fr, .int .i64 x.l, .slice x.m.1 x.m.2.2.length x.m.2.1, .slice x.n.1 x.n.2.2.length x.n.2.1]
def flatM (ms : List Mt) : List Value := ms.flatMap cellsM
def mt0 : Mt := ⟨0, 0, 0, 0, (none, 0, []), (none, 0, [])⟩
theorem flatM_len (ms : List Mt) : (flatM ms).length = ms.length * 6 := by
  induction ms with
  | nil => rfl
  | cons a ms ih => unfold flatM at *; rw [List.flatMap_cons, List.length_append, ih]; simp [cellsM]; omega
theorem flatM_get {ms : List Mt} {i k : Nat} (hi : i < ms.length) (hk : k < 6) : (flatM ms)[i * 6 + k]? = (cellsM (ms.getD i mt0))[k]? := by
  induction ms generalizing i with
  | nil => simp at hi
  | cons a ms ih =>
    cases i with
    | zero =>
      unfold flatM
      rw [List.flatMap_cons, List.getElem?_append_left (by simp [cellsM]; omega)]
      simp
    | succ i =>
      have := ih (i := i) (by simpa using hi)
      unfold flatM at *
      rw [List.flatMap_cons, List.getElem?_append_right (by simp [cellsM]; omega)]
      rw [show (i + 1) * 6 + k - (cellsM a).length = i * 6 + k by simp [cellsM]; omega, this]
      simp
/-- A word that lies elsewhere than in block g. -/
def LieP (W : World) (g : Nat) (t : Trip) : Prop := Ints W t.1 t.2.2 ∧ t.2.2.length ≤ 16 ∧ (t.2.2 = [] ∨ ∃ y, t.1 = some y ∧ y.block ≠ g ∧ y.block < W.heap.size)
theorem LieP.grown {W W' : World} {g : Nat} {t : Trip} (h : LieP W g t) (hg : W.grownBy W' none) : LieP W' g t :=
  ⟨h.1.grown hg, h.2.1, h.2.2.imp id fun ⟨y, h1, h2, h3⟩ => ⟨y, h1, h2, Nat.lt_of_lt_of_le h3 hg.size⟩⟩
theorem LieP.turn {W W' : World} {g b : Nat} {t : Trip} (h : LieP W g t) (hg : W.grownBy W' (some b)) (hb : t.2.2 = [] ∨ ∀ y, t.1 = some y → y.block ≠ b) : LieP W' g t := by
  refine ⟨?_, h.2.1, h.2.2.imp id fun ⟨y, h1, h2, h3⟩ => ⟨y, h1, h2, Nat.lt_of_lt_of_le h3 hg.size⟩⟩
  rcases hb with hb | hb
  · exact .inl hb
  · exact h.1.far hb hg
structure OwnM (W1 W : World) (g c : Nat) (ms : List Mt) : Prop where
  own : W.ownsRow W1.heap.size 66 6 (.slice (some ⟨g, 0, none⟩) ms.length c) ms.length (flatM ms)
  gr : W1.grownBy W none
  lie : ∀ x, x ∈ ms → LieP W g x.m ∧ LieP W g x.n
theorem OwnM.g_lt {W1 W : World} {g c : Nat} {ms : List Mt} (h : OwnM W1 W g c ms) : W1.heap.size ≤ g ∧ g < W.heap.size := h.own.lt g rfl
theorem OwnM.grown {W1 W W' : World} {g c : Nat} {ms : List Mt} (h : OwnM W1 W g c ms) (hg : W.grownBy W' none) : OwnM W1 W' g c ms :=
  ⟨h.own.kept hg (.inr (by simp [Value.ownBlock])), grown_trans h.gr hg, fun x hx => ⟨(h.lie x hx).1.grown hg, (h.lie x hx).2.grown hg⟩⟩
/-- A block that is no cells has turned. -/
theorem OwnM.far {W1 W W' : World} {g c b : Nat} {ms : List Mt} {o : Obj} (h : OwnM W1 W g c ms) (hg : W.grownBy W' (some b)) (ho : W.heap[b]? = some o) (hne : ∀ c t f, o ≠ .cells c t f) (hb : W1.heap.size ≤ b) : OwnM W1 W' g c ms := by
  have hcell : ∀ (y : Addr) v, W.cell? y = some v → y.block ≠ b := fun y v hy e => by
    have hh : ∃ c t f, W.heap[y.block]? = some (.cells c t f) := by
      unfold World.cell? at hy
      revert hy
      cases hob : W.heap[y.block]? with
      | none => simp
      | some o' => cases o' <;> simp
    obtain ⟨c, t, f, h1⟩ := hh
    rw [e, ho] at h1
    exact hne _ _ _ (Option.some.inj h1)
  have hlie : ∀ t : Trip, LieP W g t → LieP W' g t := fun t ht => ht.turn hg (by
    rcases ht.2.2 with h1 | ⟨y, h1, _⟩
    · exact .inl h1
    · by_cases he : t.2.2 = []
      · exact .inl he
      · refine .inr fun y' hy' => ?_
        obtain ⟨bb, off, hb', hc⟩ := ht.1.at (List.length_pos_iff.2 he)
        rw [hb'] at hy'
        cases hy'
        exact hcell _ _ (hc 0 (List.length_pos_iff.2 he)))
  refine ⟨h.own.kept hg ?_, ?_, fun x hx => ⟨hlie _ (h.lie x hx).1, hlie _ (h.lie x hx).2⟩⟩
  · right
    rcases h.own.2 with ⟨e0, _⟩ | ⟨g', cap, cur, e1, _, hh, _⟩
    · cases e0
    · simp only [Value.slice.injEq, Option.some.injEq, Addr.mk.injEq] at e1
      obtain ⟨⟨rfl, _⟩, _⟩ := e1
      intro hc
      have : g = b := by simpa [Value.ownBlock] using hc
      subst this
      rw [hh] at ho
      exact hne _ _ _ (Option.some.inj ho).symm
  · exact grown_of_below ((below_of_grown h.gr).grown hg h.gr.size (fun k hk => by cases hk; exact hb))
theorem OwnM.at {W1 W : World} {g c : Nat} {ms : List Mt} (h : OwnM W1 W g c ms) {i : Nat} (hi : i < ms.length) :
    W.cell? ⟨g, i * 6, none⟩ = some (.int .i64 ((ms.getD i mt0).p : Int)) ∧ W.cell? ⟨g, i * 6 + 1, none⟩ = some (.int .i64 ((ms.getD i mt0).q : Int)) ∧ W.cell? ⟨g, i * 6 + 2, none⟩ = some (.int .i64 (ms.getD i mt0).fr) ∧ W.cell? ⟨g, i * 6 + 3, none⟩ = some (.int .i64 (ms.getD i mt0).l) ∧ W.cell? ⟨g, i * 6 + 4, none⟩ = some (valT (ms.getD i mt0).m) ∧ W.cell? ⟨g, i * 6 + 5, none⟩ = some (valT (ms.getD i mt0).n) := by
  have hc : ∀ k v, k < 6 → (cellsM (ms.getD i mt0))[k]? = some v → W.cell? ⟨g, i * 6 + k, none⟩ = some v := fun k v hk hv => by
    have hlt : i * 6 + k < ms.length * 6 := by omega
    have h1 := h.own.cellAt (i * 6 + k) hlt
    rw [flatM_get hi hk] at h1
    rw [h1]
    exact hv
  exact ⟨hc 0 _ (by omega) rfl, hc 1 _ (by omega) rfl, hc 2 _ (by omega) rfl, hc 3 _ (by omega) rfl, hc 4 _ (by omega) rfl, hc 5 _ (by omega) rfl⟩
theorem Try.infoMt : (Try.prog.info? 66).map (fun i => (i.zero, i.size, i.bytes)) = some (some (.agg #[.int .i64 0, .int .i64 0, .int .i64 0, .int .i64 0, .slice none 0 0, .slice none 0 0]), 6, 80) := by kernel_rfl
theorem OwnM.put {W1 W : World} {g c : Nat} {ms : List Mt} {x : Mt} {B d : Nat} (h : OwnM W1 W g c ms) (hx : ∀ k v, (cellsM x)[k]? = some v → W.cell? ⟨B, k, none⟩ = some v) (hm : LieP W g x.m) (hn : LieP W g x.n) (hl : ms.length + 1 ≤ 1000) :
    ∃ g1 c1 W', (AppY #[67, 67] 67 #[.slice (some ⟨g, 0, none⟩) ms.length c, .slice (some ⟨B, 0, none⟩) 1 d]).run Try.prog W = .ok (.slice (some ⟨g1, 0, none⟩) (ms.length + 1) c1) W' ∧ OwnM W1 W' g1 c1 (ms ++ [x]) ∧ W.grownBy W' (some g) ∧ (g1 = g ∨ g1 = W.heap.size) := by
  obtain ⟨i0, hi0, hz0, hz1, hz2⟩ := info_partsY Try.infoMt
  obtain ⟨g1, c1, w1, hr, h2, h3, h4, h5⟩ := run_append_lies (P := Try.prog) W 67 67 W1.heap.size 66 i0 _ 6 80 Try.underlying67 hi0 hz0 hz1 hz2 rfl (by decide) (.slice (some ⟨g, 0, none⟩) ms.length c) ms.length (flatM ms) h.own ⟨B, 0, none⟩ 1 d (cellsM x) (by simp [cellsM]) (fun j u hu => by
      have e : (⟨B, 0, none⟩ : Addr).add j = ⟨B, j, none⟩ := by by_cases hj0 : j = 0 <;> simp [Addr.add, hj0]
      rw [e]; exact hx j u hu) (by intro u hu; simp [cellsM, valT] at hu; rcases hu with rfl | rfl | rfl | rfl | rfl | rfl <;> rfl) (by omega) (by unfold maxLen; omega) (by omega) h.gr.size _ rfl
  have hg : W.grownBy w1 (some g) := h3
  have hlie : ∀ t : Trip, LieP W g t → LieP w1 g1 t := fun t ht => by
    have h6 := ht.turn hg (by
      rcases ht.2.2 with h1 | ⟨y, h1, h2, _⟩
      · exact .inl h1
      · exact .inr fun y' hy' => by rw [h1] at hy'; cases hy'; exact h2)
    refine ⟨h6.1, h6.2.1, ?_⟩
    rcases ht.2.2 with h1 | ⟨y, h1, h2, h3⟩
    · exact .inl h1
    · refine .inr ⟨y, h1, ?_, Nat.lt_of_lt_of_le h3 hg.size⟩
      rcases h4 with h4 | h4
      · have : g = g1 := by simpa [Value.ownBlock] using h4
        rw [← this]; exact h2
      · rw [h4]; omega
  have e : flatM ms ++ cellsM x = flatM (ms ++ [x]) := by simp [flatM]
  refine ⟨g1, c1, w1, hr, ⟨by rw [List.length_append, ← e]; exact h2, grown_of_below ((below_of_grown h.gr).grown hg h.gr.size (fun k hk => by cases hk; exact h.g_lt.1)), fun y hy => ?_⟩, hg, ?_⟩
  rotate_left
  · rcases h4 with h4 | h4
    · left
      have : g = g1 := by simpa [Value.ownBlock] using h4
      exact this.symm
    · exact .inr h4
  rcases List.mem_append.1 hy with hy | hy
  · exact ⟨hlie _ (h.lie y hy).1, hlie _ (h.lie y hy).2⟩
  · rw [List.mem_singleton.1 hy]; exact ⟨hlie _ hm, hlie _ hn⟩

theorem OwnM.ne_map {W1 W : World} {g c b n : Nat} {ms : List Mt} {S : List Nat} (h : OwnM W1 W g c ms) (k : SetP W b n S) : g ≠ b := by
  obtain ⟨_, o, ho, hne⟩ := k.block
  rcases h.own.2 with ⟨e0, _⟩ | ⟨g', cap, cur, e1, _, hh, _⟩
  · cases e0
  · simp only [Value.slice.injEq, Option.some.injEq, Addr.mk.injEq] at e1
    obtain ⟨⟨rfl, _⟩, _⟩ := e1
    intro e
    subst e
    rw [hh] at ho
    exact hne _ _ _ (Option.some.inj ho).symm

end Go.Proofs.Ytodcmlcpicabaaa

namespace Go.Proofs.Ytodcmlcpicabaaa
open Go.RowKit
set_option linter.unusedVariables false
set_option linter.unusedSimpArgs false

def ApartP (v u : List Int) (a b : Option Addr) (c d : Nat) (w : World) (e : Ending) (w' : World) : Prop :=
  e = .returned (.agg #[.slice (dropA a (comT v u) c) (v.drop (comT v u)).length (c - comT v u), .slice (dropA b (comT v u) d) (u.drop (comT v u)).length (d - comT v u)]) ∧ w.grownBy w' none
theorem box2_cells (w : World) (v0 v1 : Value) (t : TypeId) : ∃ W, W = w.alloc (.cells #[v0, v1] t) ∧ w.grownBy W none ∧ W.heap.size = w.heap.size + 1 ∧ W.heap[w.heap.size]? = some (.cells #[v0, v1] t (0, 0)) := ⟨_, rfl, grown_alloc _ _, by simp, heap_alloc_new w _⟩
theorem two_store {W : World} {B : Nat} {t : TypeId} {u0 u1 : Value} (h : W.heap[B]? = some (.cells #[u0, u1] t (0, 0))) (v0 v1 : Value) :
    W.cell? ⟨B, 0, none⟩ = some u0 ∧ W.cell? ⟨B, 1, none⟩ = some u1 ∧ W.frozen? ⟨B, 0, none⟩ = false ∧ W.frozen? ⟨B, 1, none⟩ = false ∧ ∃ W', W' = (W.setCell ⟨B, 0, none⟩ v0).setCell ⟨B, 1, none⟩ v1 ∧ W.grownBy W' (some B) ∧ W'.cell? ⟨B, 0, none⟩ = some v0 ∧ W'.cell? ⟨B, 1, none⟩ = some v1 := by
  have h1 := heap_setCell_same W B 0 _ _ v0 h
  have h2 := heap_setCell_same _ B 1 _ _ v1 h1
  refine ⟨by rw [cell_of_row _ _ 0 _ _ (0, 0) h]; rfl, by rw [cell_of_row _ _ 1 _ _ (0, 0) h]; rfl, frozen_of_row _ _ _ _ _ h, frozen_of_row _ _ _ _ _ h, _, rfl, grown_trans (grown_set _ _ _) (grown_set _ _ _), ?_, ?_⟩
  · rw [cell_of_row _ _ 0 _ _ (0, 0) h2]; simp
  · rw [cell_of_row _ _ 1 _ _ (0, 0) h2]; simp

set_option maxHeartbeats 1600000 in
set_option maxRecDepth 100000 in
theorem apart_any (v u : List Int) (a b : Option Addr) (c d : Nat) (w : World) (hv : Ints w a v) (hu : Ints w b u) (hc : v.length ≤ c) (hd : u.length ≤ d) (hl : v.length ≤ 1000) (hl' : u.length ≤ 1000) :
    Calls Try.prog 47 #[.slice a v.length c, .slice b u.length d] w (ApartP v u a b c d w) := by
  obtain ⟨W1, hW1, g1, s1, hb1⟩ := box2_cells w (.slice none 0 0) (.slice none 0 0) 63
  have HC : Hid (Calls Try.prog 60 #[.slice a v.length c, .slice b u.length d] W1 (Says (.int .i64 ((comT v u : Nat) : Int)) W1)) := common_any v u a b c d W1 (hv.grown g1) (hu.grown g1) (by unfold maxLen; omega) (by unfold maxLen; omega)
  have HW1 : Hid (W1 = _) := hW1
  have G1 : Hid (w.grownBy W1 none) := g1
  have HB : Hid (W1.heap[w.heap.size]? = some (.cells #[.slice none 0 0, .slice none 0 0] 63 (0, 0)) ∧ w.heap.size < W1.heap.size) := ⟨hb1, by omega⟩
  obtain ⟨l1, l2⟩ := comT_le v u
  have e1 : Hid ((v.drop (comT v u)).length = v.length - comT v u ∧ (u.drop (comT v u)).length = u.length - comT v u) := ⟨by simp, by simp⟩
  obtain ⟨Po, hPo⟩ : ∃ P, P = ApartP v u a b c d w := ⟨_, rfl⟩
  have HP : Hid (∀ W, w.grownBy W none → Po (.returned (.agg #[.slice (dropA a (comT v u) c) (v.length - comT v u) (c - comT v u), .slice (dropA b (comT v u) d) (u.length - comT v u) (d - comT v u)])) W) := fun W h1 => by
    rw [hPo]; exact ⟨by rw [e1.out.1, e1.out.2], h1⟩
  have R1 := drop_run a v.length (comT v u) c l1 hc (by unfold maxLen; omega)
  have R2 := drop_run b u.length (comT v u) d l2 hd (by unfold maxLen; omega)
  rw [← hPo]
  generalize comT v u = n at *
  generalize v.length = nv at *
  generalize u.length = nu at *
  clear hW1 g1 s1 hb1 hPo e1 hv hu
  go_enter Try.func47, Try.ntmps47
  go_wp2_with fail
  rw [← HW1.out]
  refine HC.out.mono ?_
  rintro E w2 ⟨rfl, hg2⟩
  have hb2 : w2.heap[w.heap.size]? = some (.cells #[.slice none 0 0, .slice none 0 0] 63 (0, 0)) := (hg2.block _ HB.out.2 (by simp)).trans HB.out.1
  obtain ⟨q0, q1, f0, f1, W5, hW5, g5, r0, r1⟩ := two_store hb2 (.slice (dropA a n c) (nv - n) (c - n)) (.slice (dropA b n d) (nu - n) (d - n))
  have F : Hid (Po (.returned (.agg #[.slice (dropA a n c) (nv - n) (c - n), .slice (dropA b n d) (nu - n) (d - n)])) W5.drew) := HP.out _ (grown_drew (grown_new (grown_trans G1.out hg2) g5 (Nat.le_refl _)))
  have HW5 : Hid (W5 = _) := hW5
  clear hg2 hb2 g5 hW5
  go_wp2_with fail
  go_region
  all_goals
    go_wp2_with fail
    rw [← HW5.out]
    exact bodyPost_ret (v := .agg #[.slice (dropA a n c) (nv - n) (c - n), .slice (dropA b n d) (nu - n) (d - n)]) (by simp [results, Try.results47, go_sem, r0, r1]) rfl F.out

end Go.Proofs.Ytodcmlcpicabaaa

namespace Go.Proofs.Ytodcmlcpicabaaa
open Go.RowKit Go.Shelf
set_option linter.unusedVariables false
set_option linter.unusedSimpArgs false

theorem grown_setCells (b : Nat) (vs : List Value) : ∀ (o : Nat) (w : World), w.grownBy (w.setCells b o vs) (some b) := by
  induction vs with
  | nil => intro o w; exact grown_refl _ _
  | cons v r ih => intro o w; exact grown_trans (grown_set w ⟨b, o, none⟩ v) (ih (o + 1) _)
def RevP (W1 W : World) (a : Option Addr) (zs : List Int) (e : Ending) (w' : World) : Prop := e = .returned (.tuple #[]) ∧ Ints w' a zs.reverse ∧ W1.grownBy w' none
theorem reverse_any {W1 W : World} {a : Option Addr} {c : Nat} {zs : List Int} (h : OwnW W1 W a c zs) (hl : zs.length ≤ 1000) : Calls Try.prog 61 #[.slice a zs.length c] W (RevP W1 W a zs) := by
  by_cases h0 : zs.length = 0
  · have e : zs = [] := List.length_eq_zero_iff.1 h0
    subst e
    refine (Any.slices_Reverse_int_empty Try.lays112 a c W).mono ?_
    rintro e w' ⟨rfl, rfl⟩
    exact ⟨rfl, .inl rfl, h.gr⟩
  · have hi := h.ints
    rcases h.own.2 with ⟨h1, h3⟩ | ⟨g, cap, cur, h1, h4, h5, _⟩
    · exact absurd h3 h0
    · simp only [Value.slice.injEq] at h1
      obtain ⟨rfl, _, rfl⟩ := h1
      have hc : ∀ j, j < zs.length → W.cell? ⟨g, 0 + j, none⟩ = some (.int .i64 (zs.getD j 0)) := fun j hj => by
        obtain ⟨b, off, hb, hcc⟩ := hi.at hj
        cases hb
        exact hcc j hj
      refine (Any.slices_Reverse_int_cells Try.lays112 g 0 zs.length c zs W (Nat.le_refl _) (by omega) hc (fun j hj => frozen_of_row _ _ _ _ _ h5)).mono ?_
      rintro e w' ⟨rfl, q, rfl⟩
      refine ⟨rfl, .inr ⟨g, 0, rfl, fun i hi' => ?_⟩, ?_⟩
      · rw [List.length_reverse] at hi'
        rw [List.take_length, World.cell?_setCells_in g _ 0 _ (fun j hj => by
          rw [List.length_map, List.length_reverse] at hj
          have := hc j hj
          rw [show (W.drewN q).cell? ⟨g, 0 + j, none⟩ = W.cell? ⟨g, 0 + j, none⟩ from rfl, this]; rfl) i (by simpa using hi')]
        simp [List.getD, hi']
      · exact grown_of_below ((below_of_grown (grown_drewN h.gr q)).grown (grown_setCells g _ 0 _) (grown_drewN h.gr q).size (fun k hk => by cases hk; exact h4))

/-- What a meeting tells of its word. -/
def MtIs (ws : List (List Nat)) (i : Nat) (m : Mt) : Prop := (m.fr = -1 ∧ ws.getD i [] = []) ∨ ∃ j l : Nat, j < i ∧ m.fr = (j : Int) ∧ m.l = (l : Int) ∧ ws.getD i [] = ws.getD j [] ++ [l]
def WordTP (z : List Nat) (w : World) (e : Ending) (w' : World) : Prop := ∃ a c, e = .returned (.slice a z.length c) ∧ Ints w' a (nsT z) ∧ w.grownBy w' none
theorem one_row (W : World) (z : Int) : ∃ W', W' = W.alloc (.cells #[.int .i64 z] 3) ∧ W.grownBy W' none ∧ Ints W' (some ⟨W.heap.size, 0, none⟩) [z] := by
  refine ⟨_, rfl, grown_alloc _ _, .inr ⟨W.heap.size, 0, rfl, fun i hi => ?_⟩⟩
  have e : i = 0 := by simpa using hi
  subst e
  have hb := heap_alloc_new W (.cells #[.int .i64 z] 3)
  rw [cell_of_row _ _ 0 _ _ (0, 0) hb]; rfl

attribute [local go_sem ↓] appY_fold in
set_option maxHeartbeats 3200000 in
set_option maxRecDepth 100000 in
theorem wordTo_any {W1 : World} (g c : Nat) (ms : List Mt) (ws : List (List Nat)) (i : Nat) (w : World) (h : OwnM W1 w g c ms) (hn : ∀ k, k < ms.length → MtIs ws k (ms.getD k mt0)) (hi : i < ms.length) (hl : ms.length ≤ 1000) (hz : (ws.getD i []).length ≤ 60) :
    Calls Try.prog 49 #[.slice (some ⟨g, 0, none⟩) ms.length c, .int .i64 (i : Int)] w (WordTP (ws.getD i []) w) := by
  have HM : Hid (OwnM W1 w g c ms) := h
  have HN : Hid (∀ k, k < ms.length → MtIs ws k (ms.getD k mt0)) := hn
  obtain ⟨z, hzz⟩ : ∃ z, ws.getD i [] = z := ⟨_, rfl⟩
  have HZ : Hid (ws.getD i [] = z) := hzz
  rw [hzz] at hz
  obtain ⟨Po, hPo⟩ : ∃ P, P = WordTP (ws.getD i []) w := ⟨_, rfl⟩
  have HP : Hid (∀ a k W, Ints W a (nsT z) → w.grownBy W none → Po (.returned (.slice a z.length k)) W) := fun a k W h1 h2 => by rw [hPo, HZ.out]; exact ⟨a, k, rfl, h1, h2⟩
  rw [← hPo]
  clear h hn hzz hPo
  go_enter Try.func49, Try.ntmps49
  go_wp2_with fail
  go_loopw [5, 1] (fun v5 v1 wr => ∃ (t : Nat) (zs : List Nat) (a : Option Addr) (k : Nat), t < ms.length ∧ v1 = .int .i64 (t : Int) ∧ v5 = .slice a (nsT zs).length k ∧ ws.getD t [] ++ zs.reverse = z ∧ OwnW w wr a k (nsT zs)) (fun _ v1 _ => (intOf v1).toNat)
  case atStart => exact ⟨i, [], none, 0, hi, rfl, rfl, by rw [HZ.out]; simp, OwnW.nil (grown_refl _ _)⟩
  case round =>
    obtain ⟨t, zs, a, k, ht, rfl, rfl, hw, ho⟩ := hrel
    have HO : Hid (OwnW w wr a k (nsT zs)) := ho
    have HW : Hid (ws.getD t [] ++ zs.reverse = z) := hw
    clear ho hw
    have it : (t : Int) < (ms.length : Int) := by omega
    obtain ⟨_, _, x2, x3, _, _⟩ := (HM.out.grown HO.out.gr).at ht
    rcases HN.out t ht with ⟨hf, he⟩ | ⟨j, l, hj, hf, hll, he⟩
    · rw [hf] at x2
      have ez : zs.reverse = z := by have := HW.out; rw [he] at this; simpa using this
      have hzl : zs.length ≤ 60 := by rw [← ez, List.length_reverse] at hz; exact hz
      have HR : Hid (Calls Try.prog 61 #[.slice a (nsT zs).length k] wr (RevP w wr a (nsT zs))) := reverse_any HO.out (by rw [nsT_len]; omega)
      have HF : Hid (∀ W, Ints W a (nsT zs).reverse → w.grownBy W none → Po (.returned (.slice a (nsT zs).length k)) W) := fun W h1 h2 => by
        have e1 : (nsT zs).reverse = nsT z := by rw [← ez]; simp [nsT]
        have e2 : (nsT zs).length = z.length := by rw [← ez]; simp [nsT]
        rw [e1] at h1
        rw [e2]
        exact HP.out a k W h1 h2
      clear hf he ez HP x3
      generalize (nsT zs).length = nn at *
      go_wp2_with fail
      refine HR.out.mono ?_
      rintro E w2 ⟨rfl, h1, h2⟩
      have F : Hid (Po (.returned (.slice a nn k)) w2) := HF.out w2 h1 h2
      clear h1 h2
      go_wp2_with fail
      first | exact F.out | (go_ret; exact F.out)
    · rw [hf] at x2
      rw [hll] at x3
      obtain ⟨W2, hW2, g2, i2⟩ := one_row wr (l : Int)
      have hzl : zs.length + 1 ≤ 60 := by
        have := congrArg List.length HW.out
        rw [he] at this
        simp only [List.length_append, List.length_reverse, List.length_singleton] at this
        omega
      obtain ⟨a1, k1, W3, hrun, o3⟩ := (HO.out.grown g2).put (d := 1) i2 (by simp [nsT_len]; omega)
      have e1 : nsT zs ++ [(l : Int)] = nsT (zs ++ [l]) := by simp [nsT]
      rw [e1] at hrun o3
      have HO3 : Hid (OwnW w W3 a1 k1 (nsT (zs ++ [l]))) := o3
      have HW3 : Hid (ws.getD j [] ++ (zs ++ [l]).reverse = z) := by
        show _ = _
        have := HW.out
        rw [he] at this
        rw [← this]
        simp
      obtain ⟨_, _, y2, _, _, _⟩ := (HM.out.grown o3.gr).at ht
      rw [hf] at y2
      rw [hW2] at hrun
      have ij : (0 : Int) ≤ (j : Int) := by omega
      simp only [List.length_cons, List.length_nil, Nat.zero_add] at hrun
      clear hf hll he hW2 g2 i2 o3 e1
      generalize (nsT zs).length = nn at *
      obtain ⟨n3, hn3⟩ : ∃ n, (nsT (zs ++ [l])).length = n := ⟨_, rfl⟩
      have HN3 : Hid ((nsT (zs ++ [l])).length = n3) := hn3
      rw [hn3] at hrun
      clear hn3
      go_wp2_with fail
      go_roundw
      case rel => exact ⟨j, zs ++ [l], a1, k1, by omega, rfl, by rw [HN3.out], HW3.out, HO3.out⟩
      case measure => simp [intOf]; omega

end Go.Proofs.Ytodcmlcpicabaaa
