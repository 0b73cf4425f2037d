/- What is said by a letter behind what is said in any case: the closures of the program's pushed. -/
import Derived.Test.YtodcmlcpicabaaaCts
import Derived.Test.YtodcmlcpicabaaaTlSmall
namespace Go.Proofs.Ytodcmlcpicabaaa
open Go.RowKit
set_option linter.unusedVariables false
set_option linter.unusedSimpArgs false

def SPu (bt bs g s nx l : Nat) (vt vs : Value) (b5 o5 : Nat) (v5 : Value) (b6 o6 : Nat) (v6 v1 v2 : Value) (W : World) : Prop :=
  W.cell? ⟨bt, 5, none⟩ = some vt ∧ W.cell? ⟨bs, 0, none⟩ = some vs ∧ W.cell? ⟨b5, o5 + s, none⟩ = some v5 ∧ W.cell? ⟨b6, o6 + l, none⟩ = some v6 ∧ W.cell? ⟨g, s, none⟩ = some v1 ∧ W.cell? ⟨g, nx, none⟩ = some v2
theorem SPu.kept {bt bs g s nx l : Nat} {vt vs : Value} {b5 o5 : Nat} {v5 : Value} {b6 o6 : Nat} {v6 v1 v2 : Value} {W W' : World} (h : SPu bt bs g s nx l vt vs b5 o5 v5 b6 o6 v6 v1 v2 W) (k : W.grownBy W' none) : SPu bt bs g s nx l vt vs b5 o5 v5 b6 o6 v6 v1 v2 W' := by
  obtain ⟨h1, h2, h3, h4, h5, h6⟩ := h
  exact ⟨k.cell h1 (by simp), k.cell h2 (by simp), k.cell h3 (by simp), k.cell h4 (by simp), k.cell h5 (by simp), k.cell h6 (by simp)⟩
/-- The words that states are sure to say, as they lie. -/
structure SureAt (W : World) (x : TrI) (I g : Nat) (ps : List Trip) (mb : Nat) : Prop where
  len : ps.length = x.N.length
  cell : ∀ i, i < ps.length → W.cell? ⟨g, i, none⟩ = some (valT (ps.getD i (none, 0, [])))
  lie : LieT W ps
  sure : SureT x I (wordsT ps)
  l8 : ∀ i, i < ps.length → ((wordsT ps).getD i []).length ≤ mb
theorem SureAt.grown {W W' : World} {x : TrI} {I g : Nat} {ps : List Trip} {mb : Nat} (h : SureAt W x I g ps mb) (k : W.grownBy W' none) : SureAt W' x I g ps mb := ⟨h.len, fun i hi => k.cell (h.cell i hi) (by simp), h.lie.grown k, h.sure, h.l8⟩
def Push1P (x : TrI) (I : Nat) (ps : List Trip) (s l : Nat) (w : World) (e : Ending) (w' : World) : Prop := ∃ a k, e = .returned (.tuple #[.slice a (syT (pushT x I (wordsT ps)) s l).length k, .int .i64 ((nxT x s l : Nat) : Int)]) ∧ Ints w' a (syT (pushT x I (wordsT ps)) s l) ∧ w.grownBy w' none ∧ (∀ y, a = some y → w.heap.size ≤ y.block) ∧ (syT (pushT x I (wordsT ps)) s l).length ≤ k

set_option maxHeartbeats 3200000 in
set_option maxRecDepth 100000 in
theorem pushed1_any (x : TrI) (I : Nat) (a3 a4 a5 a6 : Option Addr) (c3 c4 c5 c6 : Nat) (bt bs g cs : Nat) (ps : List Trip) (s l : Nat) (w : World) (h : TnAt w x a3 a4 a5 a6) {mb : Nat} (hr : ReadT x I mb) (hI : I ≤ 4) (hN : x.N.length ≤ 1000) (bx : Box7 w bt x.I x.O x.S a3 x.F.length c3 a4 x.N.length c4 a5 x.Y.length c5 a6 x.E.length c6) (hbs : w.cell? ⟨bs, 0, none⟩ = some (.slice (some ⟨g, 0, none⟩) x.N.length cs)) (hsu : SureAt w x I g ps mb) (hmb : mb ≤ 100) (hs : s < x.N.length) (hl : l < I) :
    Calls Try.prog 53 #[.int .i64 (s : Int), .int .i64 (l : Int), .pointer (some ⟨bt, 0, none⟩), .pointer (some ⟨bs, 0, none⟩)] w (Push1P x I ps s l w) := by
  obtain ⟨b5, o5, k5, b6, o6, k6, r6, rfl, h8, hs5⟩ := read_say h hr hs hl
  obtain ⟨b4, o4, k4, bb4, oo4, rfl, hs4⟩ := read_next h hr hs hl
  obtain ⟨hnx, _⟩ := hr.lt hs hl
  have hsp : s < ps.length := by rw [hsu.len]; exact hs
  have hnp : nxT x s l < ps.length := by rw [hsu.len]; exact hnx
  have w1 := words_at hsp
  have w2 := words_at hnp
  have y1 := hsu.cell s hsp
  have y2 := hsu.cell _ hnp
  have l1 := hsu.lie _ (OwnS.mem hsp)
  have l2 := hsu.lie _ (OwnS.mem hnp)
  have b1 := hsu.l8 s hsp
  have b2 := hsu.l8 _ hnp
  obtain ⟨rr, hrr⟩ := hsu.sure.step s hs l hl
  have hpy := pushT_sy (x := x) (I := I) (B := wordsT ps) hs hl
  obtain ⟨Po, hPo⟩ : ∃ P, P = Push1P x I ps s l w := ⟨_, rfl⟩
  have HP0 : Hid (∀ a k W, Ints W a (syT (pushT x I (wordsT ps)) s l) → w.grownBy W none → (∀ y, a = some y → w.heap.size ≤ y.block) → (syT (pushT x I (wordsT ps)) s l).length ≤ k → Po (.returned (.tuple #[.slice a (syT (pushT x I (wordsT ps)) s l).length k, .int .i64 ((nxT x s l : Nat) : Int)])) W) := fun a k W h1 h2 h3 h4 => by rw [hPo]; exact ⟨a, k, rfl, h1, h2, h3, h4⟩
  obtain ⟨c5a, c5b, i5⟩ := hs5 w (grown_refl _ _)
  obtain ⟨c4a, c4b⟩ := hs4 w (grown_refl _ _)
  obtain ⟨t1, ht1⟩ : ∃ t, ps.getD s (none, 0, []) = t := ⟨_, rfl⟩
  obtain ⟨t2, ht2⟩ : ∃ t, ps.getD (nxT x s l) (none, 0, []) = t := ⟨_, rfl⟩
  rw [ht1] at w1 y1 l1
  rw [ht2] at w2 y2 l2
  rw [← w1] at b1 hpy hrr
  rw [← w2] at b2 hpy hrr
  obtain ⟨X, hX⟩ : ∃ X, syT x s l ++ t2.2.2 = X := ⟨_, rfl⟩
  rw [hX] at hpy hrr
  have hXl : X.length ≤ 300 := by rw [← hX, List.length_append]; omega
  obtain ⟨n1, hn1⟩ : ∃ n, t1.2.2.length = n := ⟨_, rfl⟩
  have hn1X : n1 ≤ X.length := by rw [hrr, List.length_append]; omega
  rw [hn1] at hpy
  have HP : Hid (∀ ax kx W, Ints W ax X → w.grownBy W none → (∀ y, ax = some y → w.heap.size ≤ y.block) → X.length ≤ kx → Po (.returned (.tuple #[.slice (dropA ax n1 kx) (X.length - n1) (kx - n1), .int .i64 ((nxT x s l : Nat) : Int)])) W) := fun ax kx W h1 h2 h3 h4 => by
    have h5 := HP0.out (dropA ax n1 kx) (kx - n1) W
    rw [hpy, List.length_drop] at h5
    exact h5 (drop_ints h1 hn1X h4) h2 (fun y hy => by obtain ⟨z, e1, e2⟩ := drop_block hy; rw [e2]; exact h3 z e1) (by omega)
  have CTA0 : ∀ (W : World) (g2 : Nat), w.grownBy W none → C2 W g2 (.slice r6 (syT x s l).length k6) (.slice t2.1 t2.2.2.length t2.2.1) → Calls Try.prog 39 #[.slice (some ⟨g2, 0, none⟩) 2 2] W (CatX X W) := fun W g2 hW c2 => by
    rw [← hX]; exact catX_any _ _ _ _ _ _ g2 W (i5.grown hW) (l2.1.grown hW) (by omega) (by omega) c2.1 c2.2
  obtain ⟨nE, hnE⟩ : ∃ n, (syT x s l).length = n := ⟨_, rfl⟩
  obtain ⟨n2, hn2⟩ : ∃ n, t2.2.2.length = n := ⟨_, rfl⟩
  rw [hnE, hn2] at CTA0
  have CTA : Hid (∀ (W : World) (g2 : Nat), w.grownBy W none → C2 W g2 (.slice r6 nE k6) (.slice t2.1 n2 t2.2.1) → Calls Try.prog 39 #[.slice (some ⟨g2, 0, none⟩) 2 2] W (CatX X W)) := CTA0
  obtain ⟨nx, hnxn⟩ : ∃ nx, nxT x s l = nx := ⟨_, rfl⟩
  rw [hnxn] at HP y2 c4b hnx
  simp only [valT] at y1 y2
  rw [hn1] at y1
  rw [hn2] at y2
  rw [hnE] at c5b
  have x4 := bx.b4
  have x5 := bx.b5
  have SW : Hid (∀ W, w.grownBy W none → SPu bt bs g s nx l (.slice (some ⟨b5, o5, none⟩) x.Y.length c5) (.slice (some ⟨g, 0, none⟩) x.N.length cs) b5 o5 (.slice (some ⟨b6, o6, none⟩) I k5) b6 o6 (.slice r6 nE k6) (.slice t1.1 n1 t1.2.1) (.slice t2.1 n2 t2.2.1) W) := fun W hW => SPu.kept ⟨x5, hbs, c5a, c5b, y1, y2⟩ hW
  have is : (s : Int) < (x.N.length : Int) := by omega
  have ixn : (nx : Int) < (x.N.length : Int) := by omega
  have is5 : (s : Int) < (x.Y.length : Int) := by rw [hr.hy]; omega
  have il : (l : Int) < (I : Int) := by omega
  rw [← hPo]
  clear h hr bx hbs hsu hs5 hs4 hsp hnp w1 w2 y1 y2 l1 l2 b1 b2 hrr hpy hPo HP0 c5a c5b i5 ht1 ht2 hX CTA0 hnE hn2 hn1 hnxn x5 h8
  go_enter Try.func53, Try.ntmps53
  go_wp2_with fail
  obtain ⟨wq, hwq⟩ : ∃ W, W = w := ⟨_, rfl⟩
  have GQ : Hid (w.grownBy wq none) := by rw [hwq]; exact grown_refl _ _
  have S0 : Hid (SPu bt bs g s nx l (.slice (some ⟨b5, o5, none⟩) x.Y.length c5) (.slice (some ⟨g, 0, none⟩) x.N.length cs) b5 o5 (.slice (some ⟨b6, o6, none⟩) I k5) b6 o6 (.slice r6 nE k6) (.slice t1.1 n1 t1.2.1) (.slice t2.1 n2 t2.2.1) wq.drew) := SW.out _ (grown_drew GQ.out)
  rw [← hwq]
  clear hwq x4 c4a c4b
  refine wp_region_held_drew (S := SPu bt bs g s nx l (.slice (some ⟨b5, o5, none⟩) x.Y.length c5) (.slice (some ⟨g, 0, none⟩) x.N.length cs) b5 o5 (.slice (some ⟨b6, o6, none⟩) I k5) b6 o6 (.slice r6 nE k6) (.slice t1.1 n1 t1.2.1) (.slice t2.1 n2 t2.2.1)) (by kernel_rfl) (S0.out) (fun hHeld => ?_)
  refine wpAnyH_take (i := 0) (v := ?_) rfl (by kernel_rfl) (by kernel_rfl) (by kernel_rfl) (fun _ _ _ h => h) (Or.inl ⟨by rfl, ?_⟩) (by assumption) ?_
  rotate_left
  · intro W hSw
    obtain ⟨q0, q1, q2, q3, q4, q5⟩ := hSw
    go_simp
    with_reducible rfl
  try simp only [Act.put, List.getElem_toArray, List.getElem_cons_succ, List.getElem_cons_zero, List.setIfInBounds_toArray, List.set_cons_zero, List.set_cons_succ]
  refine wpAnyH_take (i := 1) (v := ?_) rfl (by kernel_rfl) (by kernel_rfl) (by kernel_rfl) (fun _ _ _ h => h) (Or.inl ⟨by rfl, ?_⟩) (by assumption) ?_
  rotate_left
  · intro W hSw
    obtain ⟨q0, q1, q2, q3, q4, q5⟩ := hSw
    go_simp
    with_reducible rfl
  try simp only [Act.put, List.getElem_toArray, List.getElem_cons_succ, List.getElem_cons_zero, List.setIfInBounds_toArray, List.set_cons_zero, List.set_cons_succ]
  refine wpAnyH_take (i := 2) (v := ?_) rfl (by kernel_rfl) (by kernel_rfl) (by kernel_rfl) (fun _ _ _ h => h) (Or.inl ⟨by rfl, ?_⟩) (by assumption) ?_
  rotate_left
  · intro W hSw
    obtain ⟨q0, q1, q2, q3, q4, q5⟩ := hSw
    go_simp
    with_reducible rfl
  try simp only [Act.put, List.getElem_toArray, List.getElem_cons_succ, List.getElem_cons_zero, List.setIfInBounds_toArray, List.set_cons_zero, List.set_cons_succ]
  refine wpAnyH_take (i := 3) (v := ?_) rfl (by kernel_rfl) (by kernel_rfl) (by kernel_rfl) (fun _ _ _ h => h) (Or.inl ⟨by rfl, ?_⟩) (by assumption) ?_
  rotate_left
  · intro W hSw
    obtain ⟨q0, q1, q2, q3, q4, q5⟩ := hSw
    go_simp
    with_reducible rfl
  try simp only [Act.put, List.getElem_toArray, List.getElem_cons_succ, List.getElem_cons_zero, List.setIfInBounds_toArray, List.set_cons_zero, List.set_cons_succ]
  refine wpAnyH_take (i := 4) (v := ?_) rfl (by kernel_rfl) (by kernel_rfl) (by kernel_rfl) (fun _ _ _ h => h) (Or.inl ⟨by rfl, ?_⟩) (by assumption) ?_
  rotate_left
  · intro W hSw
    obtain ⟨q0, q1, q2, q3, q4, q5⟩ := hSw
    go_simp
    with_reducible rfl
  try simp only [Act.put, List.getElem_toArray, List.getElem_cons_succ, List.getElem_cons_zero, List.setIfInBounds_toArray, List.set_cons_zero, List.set_cons_succ]
  refine wpAnyH_take (i := 5) (v := ?_) rfl (by kernel_rfl) (by kernel_rfl) (by kernel_rfl) (fun _ _ _ h => h) (Or.inl ⟨by rfl, ?_⟩) (by assumption) ?_
  rotate_left
  · intro W hSw
    obtain ⟨q0, q1, q2, q3, q4, q5⟩ := hSw
    go_simp
    with_reducible rfl
  try simp only [Act.put, List.getElem_toArray, List.getElem_cons_succ, List.getElem_cons_zero, List.setIfInBounds_toArray, List.set_cons_zero, List.set_cons_succ]
  refine wpAnyH_take (i := 6) (v := ?_) rfl (by kernel_rfl) (by kernel_rfl) (by kernel_rfl) (fun _ _ _ h => h) (Or.inl ⟨by rfl, ?_⟩) (by assumption) ?_
  rotate_left
  · intro W hSw
    obtain ⟨q0, q1, q2, q3, q4, q5⟩ := hSw
    go_simp
    with_reducible rfl
  try simp only [Act.put, List.getElem_toArray, List.getElem_cons_succ, List.getElem_cons_zero, List.setIfInBounds_toArray, List.set_cons_zero, List.set_cons_succ]
  refine wpAnyH_take (i := 7) (v := ?_) rfl (by kernel_rfl) (by kernel_rfl) (by kernel_rfl) (fun _ _ _ h => h) (Or.inl ⟨by rfl, ?_⟩) (by assumption) ?_
  rotate_left
  · intro W hSw
    obtain ⟨q0, q1, q2, q3, q4, q5⟩ := hSw
    go_simp
    with_reducible rfl
  try simp only [Act.put, List.getElem_toArray, List.getElem_cons_succ, List.getElem_cons_zero, List.setIfInBounds_toArray, List.set_cons_zero, List.set_cons_succ]
  refine wpAnyH_take (i := 8) (v := ?_) rfl (by kernel_rfl) (by kernel_rfl) (by kernel_rfl) (fun _ _ _ h => h) (Or.inl ⟨by rfl, ?_⟩) (by assumption) ?_
  rotate_left
  · intro W hSw
    obtain ⟨q0, q1, q2, q3, q4, q5⟩ := hSw
    go_simp
    with_reducible rfl
  try simp only [Act.put, List.getElem_toArray, List.getElem_cons_succ, List.getElem_cons_zero, List.setIfInBounds_toArray, List.set_cons_zero, List.set_cons_succ]
  refine wpAnyH_take (i := 9) (v := ?_) rfl (by kernel_rfl) (by kernel_rfl) (by kernel_rfl) (fun _ _ _ h => h) (Or.inl ⟨by rfl, ?_⟩) (by assumption) ?_
  rotate_left
  · intro W hSw
    obtain ⟨q0, q1, q2, q3, q4, q5⟩ := hSw
    go_simp
    with_reducible rfl
  try simp only [Act.put, List.getElem_toArray, List.getElem_cons_succ, List.getElem_cons_zero, List.setIfInBounds_toArray, List.set_cons_zero, List.set_cons_succ]
  refine wpAnyH_take (i := 10) (v := ?_) rfl (by kernel_rfl) (by kernel_rfl) (by kernel_rfl) (fun _ _ _ h => h) (Or.inl ⟨by rfl, ?_⟩) (by assumption) ?_
  rotate_left
  · intro W hSw
    obtain ⟨q0, q1, q2, q3, q4, q5⟩ := hSw
    go_simp
    with_reducible rfl
  try simp only [Act.put, List.getElem_toArray, List.getElem_cons_succ, List.getElem_cons_zero, List.setIfInBounds_toArray, List.set_cons_zero, List.set_cons_succ]
  refine wpAnyH_take (i := 11) (v := ?_) rfl (by kernel_rfl) (by kernel_rfl) (by kernel_rfl) (fun _ _ _ h => h) (Or.inl ⟨by rfl, ?_⟩) (by assumption) ?_
  rotate_left
  · intro W hSw
    obtain ⟨q0, q1, q2, q3, q4, q5⟩ := hSw
    go_simp
    with_reducible rfl
  try simp only [Act.put, List.getElem_toArray, List.getElem_cons_succ, List.getElem_cons_zero, List.setIfInBounds_toArray, List.set_cons_zero, List.set_cons_succ]
  refine wpAnyH_take (i := 14) (v := ?_) rfl (by kernel_rfl) (by kernel_rfl) (by kernel_rfl) (fun _ _ _ h => h) (Or.inl ⟨by rfl, ?_⟩) (by assumption) ?_
  rotate_left
  · intro W hSw
    obtain ⟨q0, q1, q2, q3, q4, q5⟩ := hSw
    go_simp
    with_reducible rfl
  try simp only [Act.put, List.getElem_toArray, List.getElem_cons_succ, List.getElem_cons_zero, List.setIfInBounds_toArray, List.set_cons_zero, List.set_cons_succ]
  refine wpAnyH_take (i := 15) (v := ?_) rfl (by kernel_rfl) (by kernel_rfl) (by kernel_rfl) (fun _ _ _ h => h) (Or.inl ⟨by rfl, ?_⟩) (by assumption) ?_
  rotate_left
  · intro W hSw
    obtain ⟨q0, q1, q2, q3, q4, q5⟩ := hSw
    go_simp
    with_reducible rfl
  try simp only [Act.put, List.getElem_toArray, List.getElem_cons_succ, List.getElem_cons_zero, List.setIfInBounds_toArray, List.set_cons_zero, List.set_cons_succ]
  refine wpAnyH_take (i := 16) (v := ?_) rfl (by kernel_rfl) (by kernel_rfl) (by kernel_rfl) (fun _ _ _ h => h) (Or.inl ⟨by rfl, ?_⟩) (by assumption) ?_
  rotate_left
  · intro W hSw
    obtain ⟨q0, q1, q2, q3, q4, q5⟩ := hSw
    go_simp
    with_reducible rfl
  try simp only [Act.put, List.getElem_toArray, List.getElem_cons_succ, List.getElem_cons_zero, List.setIfInBounds_toArray, List.set_cons_zero, List.set_cons_succ]
  refine wpAnyH_take (i := 17) (v := ?_) rfl (by kernel_rfl) (by kernel_rfl) (by kernel_rfl) (fun _ _ _ h => h) (Or.inl ⟨by rfl, ?_⟩) (by assumption) ?_
  rotate_left
  · intro W hSw
    obtain ⟨q0, q1, q2, q3, q4, q5⟩ := hSw
    go_simp
    with_reducible rfl
  try simp only [Act.put, List.getElem_toArray, List.getElem_cons_succ, List.getElem_cons_zero, List.setIfInBounds_toArray, List.set_cons_zero, List.set_cons_succ]
  refine wpAnyH_take (i := 18) (v := ?_) rfl (by kernel_rfl) (by kernel_rfl) (by kernel_rfl) (fun _ _ _ h => h) (Or.inl ⟨by rfl, ?_⟩) (by assumption) ?_
  rotate_left
  · intro W hSw
    obtain ⟨q0, q1, q2, q3, q4, q5⟩ := hSw
    go_simp
    with_reducible rfl
  try simp only [Act.put, List.getElem_toArray, List.getElem_cons_succ, List.getElem_cons_zero, List.setIfInBounds_toArray, List.set_cons_zero, List.set_cons_succ]
  refine wpAnyH_take (i := 20) (v := ?_) rfl (by kernel_rfl) (by kernel_rfl) (by kernel_rfl) (fun _ _ _ h => h) (Or.inl ⟨by rfl, ?_⟩) (by assumption) ?_
  rotate_left
  · intro W hSw
    obtain ⟨q0, q1, q2, q3, q4, q5⟩ := hSw
    go_simp
    with_reducible rfl
  try simp only [Act.put, List.getElem_toArray, List.getElem_cons_succ, List.getElem_cons_zero, List.setIfInBounds_toArray, List.set_cons_zero, List.set_cons_succ]
  refine wpAnyH_ready (rs := [12]) (by kernel_rfl) (by simp) ?_
  refine AllReadyH.cons (o := _) rfl (fun K' hK => ?_) ?_
  · go_simp
    refine hK.out _ _ (hHeld.kept (grown_alloc _ _)) (fun hHeld => ?_)
    clear hK K'
    try simp only [Act.put, List.getElem_toArray, List.getElem_cons_succ, List.getElem_cons_zero, List.setIfInBounds_toArray, List.set_cons_zero, List.set_cons_succ]
    refine wpAnyH_ready (rs := [13]) (by kernel_rfl) (by simp) ?_
    refine AllReadyH.cons (o := _) rfl (fun K' hK => ?_) ?_
    · go_simp
      refine (CTA.out _ _ (grown_trans GQ.out (gr_1 _ _)) (c2_a _ (.slice r6 nE k6) (.slice t2.1 n2 t2.2.1) _)).mono ?_
      rintro E w6 ⟨ax, kx, rfl, hix, hgx, hnx, hcx⟩
      have GX : Hid (w.grownBy w6 none) := grown_trans GQ.out (grown_trans (gr_1 wq _) hgx)
      have R1 := drop_run ax X.length n1 kx hn1X hcx (by unfold maxLen; omega)
      have F : Hid (Po (.returned (.tuple #[.slice (dropA ax n1 kx) (X.length - n1) (kx - n1), .int .i64 (nx : Int)])) w6) := HP.out ax kx w6 hix GX.out (fun y hy => Nat.le_trans (grown_trans GQ.out (gr_1 wq _)).size (hnx y hy).1) hcx
      clear hix hnx hcx
      go_wp2_with fail
      refine hK.out _ _ (hHeld.kept hgx) (fun hHeld => ?_)
      clear hK K'
      try simp only [Act.put, List.getElem_toArray, List.getElem_cons_succ, List.getElem_cons_zero, List.setIfInBounds_toArray, List.set_cons_zero, List.set_cons_succ]
      refine wpAnyH_ready (rs := [19]) (by kernel_rfl) (by simp) ?_
      refine AllReadyH.cons (o := _) rfl (fun K' hK => ?_) ?_
      · go_simp
        refine hK.out _ _ (by assumption) (fun hHeld => ?_)
        clear hK K'
        try simp only [Act.put, List.getElem_toArray, List.getElem_cons_succ, List.getElem_cons_zero, List.setIfInBounds_toArray, List.set_cons_zero, List.set_cons_succ]
        refine wpAnyH_take (i := 21) (v := ?_) rfl (by kernel_rfl) (by kernel_rfl) (by kernel_rfl) (fun _ _ _ h => h) (Or.inl ⟨by rfl, ?_⟩) (by assumption) ?_
        rotate_left
        · intro W hSw
          obtain ⟨q0, q1, q2, q3, q4, q5⟩ := hSw
          go_simp
          with_reducible rfl
        try simp only [Act.put, List.getElem_toArray, List.getElem_cons_succ, List.getElem_cons_zero, List.setIfInBounds_toArray, List.set_cons_zero, List.set_cons_succ]
        refine wpAnyH_take (i := 22) (v := ?_) rfl (by kernel_rfl) (by kernel_rfl) (by kernel_rfl) (fun _ _ _ h => h) (Or.inl ⟨by rfl, ?_⟩) (by assumption) ?_
        rotate_left
        · intro W hSw
          obtain ⟨q0, q1, q2, q3, q4, q5⟩ := hSw
          go_simp
          with_reducible rfl
        try simp only [Act.put, List.getElem_toArray, List.getElem_cons_succ, List.getElem_cons_zero, List.setIfInBounds_toArray, List.set_cons_zero, List.set_cons_succ]
        refine wpAnyH_done (by kernel_rfl) ?_ _
        go_wp2_with fail
        first | exact F.out | (go_ret; exact F.out) | exact bodyPost_ret (v := .tuple #[.slice (dropA ax n1 kx) (X.length - n1) (kx - n1), .int .i64 (nx : Int)]) (by simp [results, Try.results53, go_sem]) rfl F.out
      exact AllReadyH.nil
    exact AllReadyH.nil
  exact AllReadyH.nil

def Push2P (x : TrI) (I : Nat) (ps : List Trip) (s : Nat) (w0 w : World) (e : Ending) (w' : World) : Prop := ∃ a k, e = .returned (.slice a ((pushT x I (wordsT ps)).E.getD s []).length k) ∧ Ints w0 a ((pushT x I (wordsT ps)).E.getD s []) ∧ Ints w' a ((pushT x I (wordsT ps)).E.getD s []) ∧ w.grownBy w' none ∧ ((pushT x I (wordsT ps)).E.getD s []).length ≤ k

set_option maxHeartbeats 1600000 in
set_option maxRecDepth 100000 in
theorem pushed2_any (x : TrI) (I : Nat) (a3 a4 a5 a6 : Option Addr) (c3 c4 c5 c6 : Nat) (bt bs g cs : Nat) (ps : List Trip) (s : Nat) (w0 w : World) (g0 : w0.grownBy w none) (h : TnAt w0 x a3 a4 a5 a6) (hk : CapsAt w0 a6 x.E) {mb : Nat} (hr : ReadT x I mb) (hN : x.N.length ≤ 1000) (bx : Box7 w bt x.I x.O x.S a3 x.F.length c3 a4 x.N.length c4 a5 x.Y.length c5 a6 x.E.length c6) (hbs : w.cell? ⟨bs, 0, none⟩ = some (.slice (some ⟨g, 0, none⟩) x.N.length cs)) (hsu : SureAt w x I g ps mb) (hmb : mb ≤ 100) (hs : s < x.N.length) :
    Calls Try.prog 54 #[.int .i64 (s : Int), .pointer (some ⟨bt, 0, none⟩), .pointer (some ⟨bs, 0, none⟩)] w (Push2P x I ps s w0 w) := by
  have hsE : s < x.E.length := by rw [hr.he]; exact hs
  obtain ⟨qs, hq1, hq2, hq3, hq4⟩ := rows_tripC h.last hk
  have hql : qs.length = x.E.length := by rw [← hq1, wordsT_len]
  have hsq : s < qs.length := by omega
  rcases hq2 with e | ⟨b6, o6, rfl, hc6⟩
  · rw [e] at hsq; simp at hsq
  have y6 := g0.cell (hc6 s hsq) (by simp)
  have wq := words_at hsq
  rw [hq1] at wq
  have lq := hq3 _ (OwnS.mem hsq)
  have cq := hq4 _ (OwnS.mem hsq)
  have h8 := hr.e8 s hs
  have hsp : s < ps.length := by rw [hsu.len]; exact hs
  have w1 := words_at hsp
  have y1 := hsu.cell s hsp
  obtain ⟨rr, hrr⟩ := hsu.sure.last s hs
  have hpe := pushT_last (x := x) (I := I) (B := wordsT ps) hs
  obtain ⟨t1, ht1⟩ : ∃ t, ps.getD s (none, 0, []) = t := ⟨_, rfl⟩
  obtain ⟨t6, ht6⟩ : ∃ t, qs.getD s (none, 0, []) = t := ⟨_, rfl⟩
  rw [ht1] at w1 y1
  rw [ht6] at y6 wq lq cq
  rw [← w1] at hrr hpe
  rw [← wq] at hrr hpe h8
  obtain ⟨n1, hn1⟩ : ∃ n, t1.2.2.length = n := ⟨_, rfl⟩
  have hle : n1 ≤ t6.2.2.length := by rw [hrr, List.length_append]; omega
  rw [hn1] at hpe
  have R1 := drop_run t6.1 t6.2.2.length n1 t6.2.1 hle cq (by unfold maxLen; omega)
  obtain ⟨Po, hPo⟩ : ∃ P, P = Push2P x I ps s w0 w := ⟨_, rfl⟩
  have F : Hid (∀ W, w.grownBy W none → Po (.returned (.slice (dropA t6.1 n1 t6.2.1) (t6.2.2.length - n1) (t6.2.1 - n1))) W) := fun W hW => by
    rw [hPo]
    refine ⟨dropA t6.1 n1 t6.2.1, t6.2.1 - n1, by rw [hpe, List.length_drop], ?_, ?_, hW, by rw [hpe, List.length_drop]; omega⟩
    · rw [hpe]; exact drop_ints lq.1 hle cq
    · rw [hpe]; exact drop_ints (lq.1.grown (grown_trans g0 hW)) hle cq
  obtain ⟨n6, hn6⟩ : ∃ n, t6.2.2.length = n := ⟨_, rfl⟩
  simp only [valT] at y1 y6
  rw [hn1] at y1
  rw [hn6] at y6 R1 F
  have x6 := bx.b6
  have is : (s : Int) < (x.N.length : Int) := by omega
  have isE : (s : Int) < (x.E.length : Int) := by omega
  rw [← hPo]
  clear g0 h hk hr bx hsu hq1 hq3 hq4 hql hsq hc6 wq lq cq h8 hsp w1 hrr hpe ht1 ht6 hn1 hle hPo hn6 hsE
  go_enter Try.func54, Try.ntmps54
  go_wp2_with fail
  go_quiet (fail)
  go_wp2_with fail
  first | exact F.out _ (grown_drewN (grown_refl _ _) _) | (go_ret; exact F.out _ (grown_drewN (grown_refl _ _) _))

end Go.Proofs.Ytodcmlcpicabaaa
