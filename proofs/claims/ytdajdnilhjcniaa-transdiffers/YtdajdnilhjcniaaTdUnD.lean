/- What holds while pairs are gone through. -/
import Derived.Test.YtdajdnilhjcniaaTdOn
namespace Go.Proofs.Ytdajdnilhjcniaa
open Go.RowKit Go.Maps
set_option linter.unusedVariables false
set_option linter.unusedSimpArgs false

/-- What a meeting is of a word. -/
structure MtOf (x y : TrI) (ws : List (List Nat)) (k : Nat) (m : Mt) : Prop where
  is : MtIs ws k m
  p : m.p = stT x (ws.getD k [])
  q : m.q = stT y (ws.getD k [])
  more : MoreT x y (ws.getD k []) m.m.2.2 m.n.2.2
structure MetsT (x y : TrI) (ws : List (List Nat)) (ms : List Mt) : Prop where
  len : ms.length = ws.length
  all : ∀ k, k < ms.length → MtOf x y ws k (ms.getD k mt0)
theorem getD_left {α : Type} {d : α} {xs ys : List α} {k : Nat} (h : k < xs.length) : (xs ++ ys).getD k d = xs.getD k d := by simp [List.getD, List.getElem?_append_left h]
theorem getD_end {α : Type} {d : α} {xs : List α} {a : α} : (xs ++ [a]).getD xs.length d = a := by simp [List.getD]
theorem MtIs.left {ws us : List (List Nat)} {k : Nat} {m : Mt} (h : MtIs ws k m) (hk : k < ws.length) : MtIs (ws ++ us) k m := by
  rcases h with ⟨h1, h2⟩ | ⟨j, l, h1, h2, h3, h4⟩
  · exact .inl ⟨h1, by rw [getD_left hk]; exact h2⟩
  · exact .inr ⟨j, l, h1, h2, h3, by rw [getD_left hk, getD_left (by omega)]; exact h4⟩
theorem MetsT.put {x y : TrI} {ws : List (List Nat)} {ms : List Mt} {i l : Nat} {m' : Mt} (h : MetsT x y ws ms) (hi : i < ws.length) (hp : m'.p = nxT x (stT x (ws.getD i [])) l) (hq : m'.q = nxT y (stT y (ws.getD i [])) l) (hf : m'.fr = (i : Int)) (hl : m'.l = (l : Int)) (hm : MoreT x y (ws.getD i [] ++ [l]) m'.m.2.2 m'.n.2.2) : MetsT x y (ws ++ [ws.getD i [] ++ [l]]) (ms ++ [m']) := by
  refine ⟨by rw [List.length_append, List.length_append, h.len]; rfl, fun k hk => ?_⟩
  rw [List.length_append, List.length_singleton] at hk
  by_cases e : k = ms.length
  · subst e
    rw [getD_end]
    have e2 : (ws ++ [ws.getD i [] ++ [l]]).getD ms.length [] = ws.getD i [] ++ [l] := by rw [h.len]; exact getD_end
    refine ⟨.inr ⟨i, l, by rw [h.len]; exact hi, hf, hl, by rw [e2, getD_left hi]⟩, ?_, ?_, ?_⟩
    · rw [e2, stT_snoc]; exact hp
    · rw [e2, stT_snoc]; exact hq
    · rw [e2]; exact hm
  · have hk' : k < ms.length := by omega
    have hk2 : k < ws.length := by rw [← h.len]; exact hk'
    have h1 := h.all k hk'
    rw [getD_left hk']
    exact ⟨h1.is.left hk2, by rw [getD_left hk2]; exact h1.p, by rw [getD_left hk2]; exact h1.q, by rw [getD_left hk2]; exact h1.more⟩
def kidsTo (k : Nat) (w : List Nat) : List (List Nat) := (List.range k).map fun l => w ++ [l]
theorem kidsTo_succ (k : Nat) (w : List Nat) : kidsTo (k + 1) w = kidsTo k w ++ [w ++ [k]] := by simp [kidsTo, List.range_succ]

/-- Behind i looks. -/
def UnSt (x y : TrI) (I : Nat) (W1 : World) (b i : Nat) (v6 : Value) (W : World) : Prop :=
  ∃ g c ms ws S, v6 = .slice (some ⟨g, 0, none⟩) (List.length ms) c ∧ Qst x y I i ws S ∧ MetsT x y ws ms ∧ OwnM W1 W g c ms ∧ SetP W b y.N.length S
/-- In the i-th look, behind k letters. -/
def UnIn (x y : TrI) (W1 : World) (b i k : Nat) (ws : List (List Nat)) (S : List Nat) (bb : Nat) (m : Mt) (ms0 : List Mt) (v6 : Value) (W : World) : Prop :=
  ∃ g c ts, v6 = .slice (some ⟨g, 0, none⟩) (ms0 ++ ts).length c ∧ MetsT x y (ws ++ kidsTo k (ws.getD i [])) (ms0 ++ ts) ∧ OwnM W1 W g c (ms0 ++ ts) ∧ SetP W b y.N.length S ∧ g ≠ bb ∧ bb < W.heap.size ∧ Box6M W bb m
theorem cell_ltT {w : World} {p : Addr} {v : Value} (h : w.cell? p = some v) : p.block < w.heap.size := by
  cases ho : w.heap[p.block]? with
  | none =>
    unfold World.cell? at h
    revert h
    simp [ho]
  | some o => exact (Array.getElem?_eq_some_iff.1 ho).1
theorem ownM_one {W1 w : World} {m : Mt} (g : W1.grownBy w none) (hm : Ints w m.m.1 m.m.2.2) (hn : Ints w m.n.1 m.n.2.2) (lm : m.m.2.2.length ≤ 16) (ln : m.n.2.2.length ≤ 16) : OwnM W1 (w.alloc (mtO m)) w.heap.size 1 [m] := by
  have hl : ∀ t : Trip, Ints w t.1 t.2.2 → t.2.2.length ≤ 16 → LieP (w.alloc (mtO m)) w.heap.size t := fun t ht hl => by
    refine ⟨ht.grown (grown_alloc _ _), hl, ?_⟩
    rcases ht with h | ⟨b, off, h1, h2⟩
    · exact .inl h
    · by_cases h0 : t.2.2 = []
      · exact .inl h0
      · refine .inr ⟨⟨b, off, none⟩, h1, ?_⟩
        have hc := h2 0 (List.length_pos_iff.2 h0)
        have hlt : b < w.heap.size := cell_ltT hc
        exact ⟨by simp; omega, by simp; omega⟩
  refine ⟨⟨rfl, .inr ⟨w.heap.size, 1, _, rfl, g.size, heap_alloc_new w _, by simp, by unfold maxLen; omega, by simp, by simp [flatM, cellsM, valT]⟩⟩, grown_trans g (grown_alloc _ _), fun y hy => ?_⟩
  rw [List.mem_singleton.1 hy]
  exact ⟨hl _ hm lm, hl _ hn ln⟩

/-- One letter more. -/
theorem un_put {x y : TrI} {I : Nat} {W1 wi w7 W8 : World} {b i k g c bb : Nat} {ws : List (List Nat)} {S : List Nat} {m m' : Mt} {ms0 ts : List Mt} (hme : MetsT x y (ws ++ kidsTo k (ws.getD i [])) (ms0 ++ ts)) (hom : OwnM W1 wi g c (ms0 ++ ts)) (hse : SetP wi b y.N.length S) (hne : g ≠ bb) (hbb : bb < wi.heap.size) (hbx : Box6M wi bb m)
    (hi : i < ws.length) (hp : m.p = stT x (ws.getD i [])) (hq : m.q = stT y (ws.getD i [])) (hmo : MoreT x y (ws.getD i [] ++ [k]) ((m.m.2.2 ++ syT x (stT x (ws.getD i [])) k).drop (comT (m.m.2.2 ++ syT x (stT x (ws.getD i [])) k) (m.n.2.2 ++ syT y (stT y (ws.getD i [])) k))) ((m.n.2.2 ++ syT y (stT y (ws.getD i [])) k).drop (comT (m.m.2.2 ++ syT x (stT x (ws.getD i [])) k) (m.n.2.2 ++ syT y (stT y (ws.getD i [])) k))))
    (hl : (ms0 ++ ts).length + 1 ≤ 1000)
    (hm1 : m'.p = nxT x m.p k) (hm2 : m'.q = nxT y m.q k) (hm3 : m'.fr = (i : Int)) (hm4 : m'.l = (k : Int)) (hm5 : m'.m.2.2 = (m.m.2.2 ++ syT x m.p k).drop (comT (m.m.2.2 ++ syT x m.p k) (m.n.2.2 ++ syT y m.q k))) (hm6 : m'.n.2.2 = (m.n.2.2 ++ syT y m.q k).drop (comT (m.m.2.2 ++ syT x m.p k) (m.n.2.2 ++ syT y m.q k)))
    (hm7 : Ints w7 m'.m.1 m'.m.2.2) (hm8 : Ints w7 m'.n.1 m'.n.2.2) (hm9 : ∀ z, m'.m.1 = some z → wi.heap.size ≤ z.block ∧ z.block < w7.heap.size) (hm10 : ∀ z, m'.n.1 = some z → wi.heap.size ≤ z.block ∧ z.block < w7.heap.size) (hg7 : wi.grownBy w7 none) (hW8 : W8 = w7.alloc (mtO m')) :
    ∃ g9 c9 W9, (AppY #[49, 49] 49 #[.slice (some ⟨g, 0, none⟩) (ms0 ++ ts).length c, .slice (some ⟨w7.heap.size, 0, none⟩) 1 1]).run Try.prog W8 = .ok (.slice (some ⟨g9, 0, none⟩) ((ms0 ++ ts).length + 1) c9) W9 ∧ UnIn x y W1 b i (k + 1) ws S bb m ms0 (.slice (some ⟨g9, 0, none⟩) ((ms0 ++ ts).length + 1) c9) W9 := by
  obtain ⟨W8', hW8', g8, s8, b8⟩ := box6M_new w7 m'
  obtain rfl : W8' = W8 := by rw [hW8', hW8]
  rw [hp, hq] at hm5 hm6
  rw [hp] at hm1
  rw [hq] at hm2
  rw [← hm5, ← hm6] at hmo
  have hlie : ∀ t : Trip, Ints w7 t.1 t.2.2 → t.2.2.length ≤ 16 → (∀ z, t.1 = some z → wi.heap.size ≤ z.block ∧ z.block < w7.heap.size) → LieP W8' g t := fun t h1 h2 h3 => by
    refine ⟨h1.grown g8, h2, ?_⟩
    rcases h1 with h | ⟨bb, off, h4, _⟩
    · exact .inl h
    · have h5 := h3 _ h4
      have h6 := hom.g_lt.2
      exact .inr ⟨_, h4, by simp at h5 ⊢; omega, by simp at h5 ⊢; omega⟩
  obtain ⟨g9, c9, W9, hrun, hO9, hg9, hor⟩ := (hom.grown (grown_trans hg7 g8)).put (x := m') (B := w7.heap.size) (d := 1) (fun j v hj => by
    match j, hj with
    | 0, hj => simp only [cellsM, List.getElem?_cons_zero, Option.some.injEq] at hj; rw [← hj]; exact b8.b0
    | 1, hj => simp only [cellsM, List.getElem?_cons_succ, List.getElem?_cons_zero, Option.some.injEq] at hj; rw [← hj]; exact b8.b1
    | 2, hj => simp only [cellsM, List.getElem?_cons_succ, List.getElem?_cons_zero, Option.some.injEq] at hj; rw [← hj]; exact b8.b2
    | 3, hj => simp only [cellsM, List.getElem?_cons_succ, List.getElem?_cons_zero, Option.some.injEq] at hj; rw [← hj]; exact b8.b3
    | 4, hj => simp only [cellsM, List.getElem?_cons_succ, List.getElem?_cons_zero, Option.some.injEq] at hj; rw [← hj]; exact b8.b4
    | 5, hj => simp only [cellsM, List.getElem?_cons_succ, List.getElem?_cons_zero, Option.some.injEq] at hj; rw [← hj]; exact b8.b5
    | j + 6, hj => simp [cellsM] at hj) (hlie _ hm7 hmo.lm hm9) (hlie _ hm8 hmo.ln hm10) hl
  have hgg : wi.grownBy W8' none := grown_trans hg7 g8
  have hbx8 : Box6M W8' bb m := hbx.grown hgg
  have hc : ∀ k v, W8'.cell? ⟨bb, k, none⟩ = some v → W9.cell? ⟨bb, k, none⟩ = some v := fun k v hv => hg9.cell hv (by simp; omega)
  have hgi : (ws ++ kidsTo k (ws.getD i [])).getD i [] = ws.getD i [] := getD_left hi
  have hput := hme.put (i := i) (l := k) (m' := m') (by rw [List.length_append]; omega) (by rw [hgi]; exact hm1) (by rw [hgi]; exact hm2) hm3 hm4 (by rw [hgi]; exact hmo)
  rw [hgi] at hput
  refine ⟨g9, c9, W9, hrun, g9, c9, ts ++ [m'], by simp only [List.length_append, List.length_singleton, Nat.add_assoc], ?_, by rw [← List.append_assoc]; exact hO9, (hse.kept hgg (by simp)).kept hg9 (by have := hom.ne_map hse; simpa using this), ?_, ?_, ⟨hc _ _ hbx8.b0, hc _ _ hbx8.b1, hc _ _ hbx8.b2, hc _ _ hbx8.b3, hc _ _ hbx8.b4, hc _ _ hbx8.b5⟩⟩
  · rw [kidsTo_succ, ← List.append_assoc, ← List.append_assoc]; exact hput
  · rcases hor with e | e
    · rw [e]; exact hne
    · rw [e]; have := hgg.size; omega
  · have := hgg.size; have := hg9.size; omega

end Go.Proofs.Ytdajdnilhjcniaa
