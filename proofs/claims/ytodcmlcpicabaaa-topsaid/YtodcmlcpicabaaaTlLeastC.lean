/- Where a letter leads by kinds, and what is said: the closures of the program's least. -/
import Derived.Test.YtodcmlcpicabaaaTlPushC
namespace Go.Proofs.Ytodcmlcpicabaaa
open Go.RowKit
set_option linter.unusedVariables false
set_option linter.unusedSimpArgs false

/-- A transducer's shape, and where it leads, whatever is said. -/
structure ShpT (x : TrI) (I m : Nat) : Prop where
  n1 : 1 ≤ x.N.length
  hy : x.Y.length = x.N.length
  he : x.E.length = x.N.length
  rn : ∀ s, s < x.N.length → (x.N.getD s []).length = I
  ry : ∀ s, s < x.N.length → (x.Y.getD s []).length = I
  nx : ∀ s, s < x.N.length → ∀ l, l < I → StT x.N.length ((x.N.getD s []).getD l 0)
  ym : ∀ s, s < x.N.length → ∀ l, l < I → (syT x s l).length ≤ m
  em : ∀ s, s < x.N.length → (x.E.getD s []).length ≤ m
theorem ReadT.shp {x : TrI} {I : Nat} (h : ReadT x I) : ShpT x I 8 := ⟨h.n1, h.hy, h.he, h.rn, h.ry, h.nx, h.y8, h.e8⟩
section
variable {W : World} {x : TrI} {a3 a4 a5 a6 : Option Addr} {I m : Nat}
theorem ShpT.lt (h : ShpT x I m) {q l : Nat} (hq : q < x.N.length) (hl : l < I) : nxT x q l < x.N.length ∧ ((nxT x q l : Nat) : Int) = (x.N.getD q []).getD l 0 := by
  have := h.nx q hq l hl
  unfold StT at this
  unfold nxT
  constructor <;> omega
theorem shp_say (h : TnAt W x a3 a4 a5 a6) (hr : ShpT x I m) {p u : Nat} (hp : p < x.N.length) (hu : u < I) :
    ∃ b5 o5 k5 b6 o6 k6 r6, a5 = some ⟨b5, o5, none⟩ ∧ ∀ W', W.grownBy W' none → W'.cell? ⟨b5, o5 + p, none⟩ = some (.slice (some ⟨b6, o6, none⟩) I k5) ∧ W'.cell? ⟨b6, o6 + u, none⟩ = some (.slice r6 (syT x p u).length k6) ∧ Ints W' r6 (syT x p u) := by
  have hp5 : p < x.Y.length := by rw [hr.hy]; exact hp
  obtain ⟨b5, o5, ha, hc⟩ := h.says.at hp5
  obtain ⟨r5, k5, c5, hr5, _⟩ := hc p hp5
  rw [hr.ry p hp] at c5
  have hu5 : u < (x.Y.getD p []).length := by rw [hr.ry p hp]; exact hu
  obtain ⟨b6, o6, rfl, hc6⟩ := hr5.at hu5
  obtain ⟨r6, k6, c6, hi, _⟩ := hc6 u hu5
  exact ⟨b5, o5, k5, b6, o6, k6, r6, ha, fun W' g => ⟨g.cell c5 (by simp), g.cell c6 (by simp), hi.grown g⟩⟩
theorem shp_next (h : TnAt W x a3 a4 a5 a6) (hr : ShpT x I m) {p u : Nat} (hp : p < x.N.length) (hu : u < I) :
    ∃ b4 o4 k4 b o, a4 = some ⟨b4, o4, none⟩ ∧ ∀ W', W.grownBy W' none → W'.cell? ⟨b4, o4 + p, none⟩ = some (.slice (some ⟨b, o, none⟩) I k4) ∧ W'.cell? ⟨b, o + u, none⟩ = some (.int .i64 ((nxT x p u : Nat) : Int)) := by
  obtain ⟨b4, o4, ha, hc⟩ := h.next.at hp
  obtain ⟨r4, k4, c4, hr4, _⟩ := hc p hp
  rw [hr.rn p hp] at c4
  have hu4 : u < (x.N.getD p []).length := by rw [hr.rn p hp]; exact hu
  obtain ⟨b, o, rfl, hcr⟩ := hr4.at hu4
  have := hcr u hu4
  rw [← (hr.lt hp hu).2] at this
  exact ⟨b4, o4, k4, b, o, ha, fun W' g => ⟨g.cell c4 (by simp), g.cell this (by simp)⟩⟩
theorem shp_last (h : TnAt W x a3 a4 a5 a6) (hr : ShpT x I m) {p : Nat} (hp : p < x.N.length) :
    ∃ b6 o6 k6 r6, a6 = some ⟨b6, o6, none⟩ ∧ ∀ W', W.grownBy W' none → W'.cell? ⟨b6, o6 + p, none⟩ = some (.slice r6 (x.E.getD p []).length k6) ∧ Ints W' r6 (x.E.getD p []) := by
  have hp6 : p < x.E.length := by rw [hr.he]; exact hp
  obtain ⟨b6, o6, ha, hc⟩ := h.last.at hp6
  obtain ⟨r6, k6, c6, hi, _⟩ := hc p hp6
  exact ⟨b6, o6, k6, r6, ha, fun W' g => ⟨g.cell c6 (by simp), hi.grown g⟩⟩
end
theorem ints_nil {W : World} {a : Option Addr} {zs : List Int} (h : Ints W a zs) : a = none → zs.length = 0 := fun e => by
  rcases h with h | ⟨b, off, h1, _⟩
  · rw [h]; rfl
  · rw [e] at h1; cases h1

def SLe (bt bk s nx l : Nat) (v5 v4 vk : Value) (b5 o5 : Nat) (w5 : Value) (b6 o6 : Nat) (w6 : Value) (b4 o4 : Nat) (w4 : Value) (bb oo kb ko : Nat) (kz : Int) (W : World) : Prop :=
  W.cell? ⟨bt, 5, none⟩ = some v5 ∧ W.cell? ⟨bt, 4, none⟩ = some v4 ∧ W.cell? ⟨bk, 0, none⟩ = some vk ∧ W.cell? ⟨b5, o5 + s, none⟩ = some w5 ∧ W.cell? ⟨b6, o6 + l, none⟩ = some w6 ∧ W.cell? ⟨b4, o4 + s, none⟩ = some w4 ∧ W.cell? ⟨bb, oo + l, none⟩ = some (.int .i64 (nx : Int)) ∧ W.cell? ⟨kb, ko + nx, none⟩ = some (.int .i64 kz)
theorem SLe.kept {bt bk s nx l : Nat} {v5 v4 vk : Value} {b5 o5 : Nat} {w5 : Value} {b6 o6 : Nat} {w6 : Value} {b4 o4 : Nat} {w4 : Value} {bb oo kb ko : Nat} {kz : Int} {W W' : World} (h : SLe bt bk s nx l v5 v4 vk b5 o5 w5 b6 o6 w6 b4 o4 w4 bb oo kb ko kz W) (k : W.grownBy W' none) : SLe bt bk s nx l v5 v4 vk b5 o5 w5 b6 o6 w6 b4 o4 w4 bb oo kb ko kz W' := by
  obtain ⟨h1, h2, h3, h4, h5, h6, h7, h8⟩ := h
  exact ⟨k.cell h1 (by simp), k.cell h2 (by simp), k.cell h3 (by simp), k.cell h4 (by simp), k.cell h5 (by simp), k.cell h6 (by simp), k.cell h7 (by simp), k.cell h8 (by simp)⟩
def Least1P (x : TrI) (ks : List Int) (s l : Nat) (w : World) (e : Ending) (w' : World) : Prop := ∃ a k, e = .returned (.tuple #[.slice a (syT x s l).length k, .int .i64 (ks.getD (nxT x s l) 0)]) ∧ Ints w' a (syT x s l) ∧ w.grownBy w' none ∧ (∀ y, a = some y → w.heap.size ≤ y.block) ∧ (syT x s l).length ≤ k

set_option maxHeartbeats 3200000 in
set_option maxRecDepth 100000 in
theorem least1_any (x : TrI) (I m : Nat) (a3 a4 a5 a6 : Option Addr) (c3 c4 c5 c6 : Nat) (bt bk ck : Nat) (ak : Option Addr) (ks : List Int) (s l : Nat) (w : World) (h : TnAt w x a3 a4 a5 a6) (hr : ShpT x I m) (hm : m ≤ 900) (hI : I ≤ 4) (hN : x.N.length ≤ 1000) (bx : Box7 w bt x.I x.O x.S a3 x.F.length c3 a4 x.N.length c4 a5 x.Y.length c5 a6 x.E.length c6) (hbk : w.cell? ⟨bk, 0, none⟩ = some (.slice ak x.N.length ck)) (hki : Ints w ak ks) (hkl : ks.length = x.N.length) (hs : s < x.N.length) (hl : l < I) :
    Calls Try.prog 32 #[.int .i64 (s : Int), .int .i64 (l : Int), .pointer (some ⟨bt, 0, none⟩), .pointer (some ⟨bk, 0, none⟩)] w (Least1P x ks s l w) := by
  obtain ⟨b5, o5, k5, b6, o6, k6, r6, rfl, hs5⟩ := shp_say h hr hs hl
  obtain ⟨b4, o4, k4, bb, oo, rfl, hs4⟩ := shp_next h hr hs hl
  obtain ⟨hnx, _⟩ := hr.lt hs hl
  have hym := hr.ym s hs l hl
  obtain ⟨kb, ko, rfl, hkc⟩ := hki.at (k := nxT x s l) (by rw [hkl]; exact hnx)
  have ck0 := hkc (nxT x s l) (by rw [hkl]; exact hnx)
  obtain ⟨c5a, c5b, i5⟩ := hs5 w (grown_refl _ _)
  obtain ⟨c4a, c4b⟩ := hs4 w (grown_refl _ _)
  have CTA0 : ∀ W, w.grownBy W none → Calls Try.prog 33 #[.slice r6 (syT x s l).length k6] W (CloneW (syT x s l) W) := fun W hW => cloneW_any _ _ _ W (i5.grown hW) (by omega) (ints_nil i5)
  obtain ⟨Po, hPo⟩ : ∃ P, P = Least1P x ks s l w := ⟨_, rfl⟩
  have HP0 : ∀ a k W, Ints W a (syT x s l) → w.grownBy W none → (∀ y, a = some y → w.heap.size ≤ y.block) → (syT x s l).length ≤ k → Po (.returned (.tuple #[.slice a (syT x s l).length k, .int .i64 (ks.getD (nxT x s l) 0)])) W := fun a k W h1 h2 h3 h4 => by rw [hPo]; exact ⟨a, k, rfl, h1, h2, h3, h4⟩
  obtain ⟨Z, hZ⟩ : ∃ Z, syT x s l = Z := ⟨_, rfl⟩
  rw [hZ] at CTA0 HP0 c5b
  obtain ⟨nE, hnE⟩ : ∃ n, Z.length = n := ⟨_, rfl⟩
  obtain ⟨nx, hnxn⟩ : ∃ nx, nxT x s l = nx := ⟨_, rfl⟩
  rw [hnxn] at HP0 ck0 c4b hnx
  obtain ⟨kz, hkz⟩ : ∃ z, ks.getD nx 0 = z := ⟨_, rfl⟩
  rw [hkz] at HP0 ck0
  rw [hnE] at CTA0 c5b
  have HP : Hid (∀ a k W, Ints W a Z → w.grownBy W none → (∀ y, a = some y → w.heap.size ≤ y.block) → Z.length ≤ k → Po (.returned (.tuple #[.slice a nE k, .int .i64 kz])) W) := fun a k W h1 h2 h3 h4 => by rw [← hnE]; exact HP0 a k W h1 h2 h3 h4
  have CTA : Hid (∀ W, w.grownBy W none → Calls Try.prog 33 #[.slice r6 nE k6] W fun e w' => ∃ a c, e = .returned (.slice a nE c) ∧ Ints w' a Z ∧ W.grownBy w' none ∧ (∀ y, a = some y → w.heap.size ≤ y.block) ∧ Z.length ≤ c) := fun W hW => (CTA0 W hW).mono fun e w' ⟨a, c, h1, h2, h3, h4, h5⟩ => ⟨a, c, by rw [h1, hnE], h2, h3, fun y hy => Nat.le_trans hW.size (h4 y hy), h5⟩
  have S0 : Hid (SLe bt bk s nx l (.slice (some ⟨b5, o5, none⟩) x.Y.length c5) (.slice (some ⟨b4, o4, none⟩) x.N.length c4) (.slice (some ⟨kb, ko, none⟩) x.N.length ck) b5 o5 (.slice (some ⟨b6, o6, none⟩) I k5) b6 o6 (.slice r6 nE k6) b4 o4 (.slice (some ⟨bb, oo, none⟩) I k4) bb oo kb ko kz w.drew) := ⟨bx.b5, bx.b4, hbk, c5a, c5b, c4a, c4b, ck0⟩
  have is : (s : Int) < (x.N.length : Int) := by omega
  have ixn : (nx : Int) < (x.N.length : Int) := by omega
  have is5 : (s : Int) < (x.Y.length : Int) := by rw [hr.hy]; omega
  have il : (l : Int) < (I : Int) := by omega
  rw [← hPo]
  clear h hr bx hbk hki hkl hs5 hs4 hkc ck0 c5a c5b i5 c4a c4b CTA0 HP0 hPo hZ hnE hnxn hkz hym
  go_enter Try.func32, Try.ntmps32
  go_wp2_with fail
  refine wp_region_held_drew (S := SLe bt bk s nx l (.slice (some ⟨b5, o5, none⟩) x.Y.length c5) (.slice (some ⟨b4, o4, none⟩) x.N.length c4) (.slice (some ⟨kb, ko, none⟩) x.N.length ck) b5 o5 (.slice (some ⟨b6, o6, none⟩) I k5) b6 o6 (.slice r6 nE k6) b4 o4 (.slice (some ⟨bb, oo, none⟩) I k4) bb oo kb ko kz) (by kernel_rfl) (S0.out) (fun hHeld => ?_)
  refine wpAnyH_take (i := 0) (v := ?_) rfl (by kernel_rfl) (by kernel_rfl) (by kernel_rfl) (fun _ _ _ h => h) (Or.inl ⟨by rfl, ?_⟩) (by assumption) ?_
  rotate_left
  · intro W hSw
    obtain ⟨q0, q1, q2, q3, q4, q5, q6, q7⟩ := hSw
    go_simp
    with_reducible rfl
  try simp only [Act.put, List.getElem_toArray, List.getElem_cons_succ, List.getElem_cons_zero, List.setIfInBounds_toArray, List.set_cons_zero, List.set_cons_succ]
  refine wpAnyH_take (i := 1) (v := ?_) rfl (by kernel_rfl) (by kernel_rfl) (by kernel_rfl) (fun _ _ _ h => h) (Or.inl ⟨by rfl, ?_⟩) (by assumption) ?_
  rotate_left
  · intro W hSw
    obtain ⟨q0, q1, q2, q3, q4, q5, q6, q7⟩ := hSw
    go_simp
    with_reducible rfl
  try simp only [Act.put, List.getElem_toArray, List.getElem_cons_succ, List.getElem_cons_zero, List.setIfInBounds_toArray, List.set_cons_zero, List.set_cons_succ]
  refine wpAnyH_take (i := 2) (v := ?_) rfl (by kernel_rfl) (by kernel_rfl) (by kernel_rfl) (fun _ _ _ h => h) (Or.inl ⟨by rfl, ?_⟩) (by assumption) ?_
  rotate_left
  · intro W hSw
    obtain ⟨q0, q1, q2, q3, q4, q5, q6, q7⟩ := hSw
    go_simp
    with_reducible rfl
  try simp only [Act.put, List.getElem_toArray, List.getElem_cons_succ, List.getElem_cons_zero, List.setIfInBounds_toArray, List.set_cons_zero, List.set_cons_succ]
  refine wpAnyH_take (i := 3) (v := ?_) rfl (by kernel_rfl) (by kernel_rfl) (by kernel_rfl) (fun _ _ _ h => h) (Or.inl ⟨by rfl, ?_⟩) (by assumption) ?_
  rotate_left
  · intro W hSw
    obtain ⟨q0, q1, q2, q3, q4, q5, q6, q7⟩ := hSw
    go_simp
    with_reducible rfl
  try simp only [Act.put, List.getElem_toArray, List.getElem_cons_succ, List.getElem_cons_zero, List.setIfInBounds_toArray, List.set_cons_zero, List.set_cons_succ]
  refine wpAnyH_take (i := 4) (v := ?_) rfl (by kernel_rfl) (by kernel_rfl) (by kernel_rfl) (fun _ _ _ h => h) (Or.inl ⟨by rfl, ?_⟩) (by assumption) ?_
  rotate_left
  · intro W hSw
    obtain ⟨q0, q1, q2, q3, q4, q5, q6, q7⟩ := hSw
    go_simp
    with_reducible rfl
  try simp only [Act.put, List.getElem_toArray, List.getElem_cons_succ, List.getElem_cons_zero, List.setIfInBounds_toArray, List.set_cons_zero, List.set_cons_succ]
  refine wpAnyH_take (i := 5) (v := ?_) rfl (by kernel_rfl) (by kernel_rfl) (by kernel_rfl) (fun _ _ _ h => h) (Or.inl ⟨by rfl, ?_⟩) (by assumption) ?_
  rotate_left
  · intro W hSw
    obtain ⟨q0, q1, q2, q3, q4, q5, q6, q7⟩ := hSw
    go_simp
    with_reducible rfl
  try simp only [Act.put, List.getElem_toArray, List.getElem_cons_succ, List.getElem_cons_zero, List.setIfInBounds_toArray, List.set_cons_zero, List.set_cons_succ]
  refine wpAnyH_take (i := 6) (v := ?_) rfl (by kernel_rfl) (by kernel_rfl) (by kernel_rfl) (fun _ _ _ h => h) (Or.inl ⟨by rfl, ?_⟩) (by assumption) ?_
  rotate_left
  · intro W hSw
    obtain ⟨q0, q1, q2, q3, q4, q5, q6, q7⟩ := hSw
    go_simp
    with_reducible rfl
  try simp only [Act.put, List.getElem_toArray, List.getElem_cons_succ, List.getElem_cons_zero, List.setIfInBounds_toArray, List.set_cons_zero, List.set_cons_succ]
  refine wpAnyH_take (i := 7) (v := ?_) rfl (by kernel_rfl) (by kernel_rfl) (by kernel_rfl) (fun _ _ _ h => h) (Or.inl ⟨by rfl, ?_⟩) (by assumption) ?_
  rotate_left
  · intro W hSw
    obtain ⟨q0, q1, q2, q3, q4, q5, q6, q7⟩ := hSw
    go_simp
    with_reducible rfl
  try simp only [Act.put, List.getElem_toArray, List.getElem_cons_succ, List.getElem_cons_zero, List.setIfInBounds_toArray, List.set_cons_zero, List.set_cons_succ]
  refine wpAnyH_take (i := 9) (v := ?_) rfl (by kernel_rfl) (by kernel_rfl) (by kernel_rfl) (fun _ _ _ h => h) (Or.inl ⟨by rfl, ?_⟩) (by assumption) ?_
  rotate_left
  · intro W hSw
    obtain ⟨q0, q1, q2, q3, q4, q5, q6, q7⟩ := hSw
    go_simp
    with_reducible rfl
  try simp only [Act.put, List.getElem_toArray, List.getElem_cons_succ, List.getElem_cons_zero, List.setIfInBounds_toArray, List.set_cons_zero, List.set_cons_succ]
  refine wpAnyH_take (i := 10) (v := ?_) rfl (by kernel_rfl) (by kernel_rfl) (by kernel_rfl) (fun _ _ _ h => h) (Or.inl ⟨by rfl, ?_⟩) (by assumption) ?_
  rotate_left
  · intro W hSw
    obtain ⟨q0, q1, q2, q3, q4, q5, q6, q7⟩ := hSw
    go_simp
    with_reducible rfl
  try simp only [Act.put, List.getElem_toArray, List.getElem_cons_succ, List.getElem_cons_zero, List.setIfInBounds_toArray, List.set_cons_zero, List.set_cons_succ]
  refine wpAnyH_take (i := 11) (v := ?_) rfl (by kernel_rfl) (by kernel_rfl) (by kernel_rfl) (fun _ _ _ h => h) (Or.inl ⟨by rfl, ?_⟩) (by assumption) ?_
  rotate_left
  · intro W hSw
    obtain ⟨q0, q1, q2, q3, q4, q5, q6, q7⟩ := hSw
    go_simp
    with_reducible rfl
  try simp only [Act.put, List.getElem_toArray, List.getElem_cons_succ, List.getElem_cons_zero, List.setIfInBounds_toArray, List.set_cons_zero, List.set_cons_succ]
  refine wpAnyH_take (i := 12) (v := ?_) rfl (by kernel_rfl) (by kernel_rfl) (by kernel_rfl) (fun _ _ _ h => h) (Or.inl ⟨by rfl, ?_⟩) (by assumption) ?_
  rotate_left
  · intro W hSw
    obtain ⟨q0, q1, q2, q3, q4, q5, q6, q7⟩ := hSw
    go_simp
    with_reducible rfl
  try simp only [Act.put, List.getElem_toArray, List.getElem_cons_succ, List.getElem_cons_zero, List.setIfInBounds_toArray, List.set_cons_zero, List.set_cons_succ]
  refine wpAnyH_take (i := 13) (v := ?_) rfl (by kernel_rfl) (by kernel_rfl) (by kernel_rfl) (fun _ _ _ h => h) (Or.inl ⟨by rfl, ?_⟩) (by assumption) ?_
  rotate_left
  · intro W hSw
    obtain ⟨q0, q1, q2, q3, q4, q5, q6, q7⟩ := hSw
    go_simp
    with_reducible rfl
  try simp only [Act.put, List.getElem_toArray, List.getElem_cons_succ, List.getElem_cons_zero, List.setIfInBounds_toArray, List.set_cons_zero, List.set_cons_succ]
  refine wpAnyH_take (i := 14) (v := ?_) rfl (by kernel_rfl) (by kernel_rfl) (by kernel_rfl) (fun _ _ _ h => h) (Or.inl ⟨by rfl, ?_⟩) (by assumption) ?_
  rotate_left
  · intro W hSw
    obtain ⟨q0, q1, q2, q3, q4, q5, q6, q7⟩ := hSw
    go_simp
    with_reducible rfl
  try simp only [Act.put, List.getElem_toArray, List.getElem_cons_succ, List.getElem_cons_zero, List.setIfInBounds_toArray, List.set_cons_zero, List.set_cons_succ]
  refine wpAnyH_take (i := 15) (v := ?_) rfl (by kernel_rfl) (by kernel_rfl) (by kernel_rfl) (fun _ _ _ h => h) (Or.inl ⟨by rfl, ?_⟩) (by assumption) ?_
  rotate_left
  · intro W hSw
    obtain ⟨q0, q1, q2, q3, q4, q5, q6, q7⟩ := hSw
    go_simp
    with_reducible rfl
  try simp only [Act.put, List.getElem_toArray, List.getElem_cons_succ, List.getElem_cons_zero, List.setIfInBounds_toArray, List.set_cons_zero, List.set_cons_succ]
  refine wpAnyH_take (i := 16) (v := ?_) rfl (by kernel_rfl) (by kernel_rfl) (by kernel_rfl) (fun _ _ _ h => h) (Or.inl ⟨by rfl, ?_⟩) (by assumption) ?_
  rotate_left
  · intro W hSw
    obtain ⟨q0, q1, q2, q3, q4, q5, q6, q7⟩ := hSw
    go_simp
    with_reducible rfl
  try simp only [Act.put, List.getElem_toArray, List.getElem_cons_succ, List.getElem_cons_zero, List.setIfInBounds_toArray, List.set_cons_zero, List.set_cons_succ]
  refine wpAnyH_take (i := 17) (v := ?_) rfl (by kernel_rfl) (by kernel_rfl) (by kernel_rfl) (fun _ _ _ h => h) (Or.inl ⟨by rfl, ?_⟩) (by assumption) ?_
  rotate_left
  · intro W hSw
    obtain ⟨q0, q1, q2, q3, q4, q5, q6, q7⟩ := hSw
    go_simp
    with_reducible rfl
  try simp only [Act.put, List.getElem_toArray, List.getElem_cons_succ, List.getElem_cons_zero, List.setIfInBounds_toArray, List.set_cons_zero, List.set_cons_succ]
  refine wpAnyH_take (i := 18) (v := ?_) rfl (by kernel_rfl) (by kernel_rfl) (by kernel_rfl) (fun _ _ _ h => h) (Or.inl ⟨by rfl, ?_⟩) (by assumption) ?_
  rotate_left
  · intro W hSw
    obtain ⟨q0, q1, q2, q3, q4, q5, q6, q7⟩ := hSw
    go_simp
    with_reducible rfl
  try simp only [Act.put, List.getElem_toArray, List.getElem_cons_succ, List.getElem_cons_zero, List.setIfInBounds_toArray, List.set_cons_zero, List.set_cons_succ]
  refine wpAnyH_take (i := 19) (v := ?_) rfl (by kernel_rfl) (by kernel_rfl) (by kernel_rfl) (fun _ _ _ h => h) (Or.inl ⟨by rfl, ?_⟩) (by assumption) ?_
  rotate_left
  · intro W hSw
    obtain ⟨q0, q1, q2, q3, q4, q5, q6, q7⟩ := hSw
    go_simp
    with_reducible rfl
  try simp only [Act.put, List.getElem_toArray, List.getElem_cons_succ, List.getElem_cons_zero, List.setIfInBounds_toArray, List.set_cons_zero, List.set_cons_succ]
  refine wpAnyH_ready (rs := [8]) (by kernel_rfl) (by simp) ?_
  refine AllReadyH.cons (o := _) rfl (fun K' hK => ?_) ?_
  · go_simp
    refine (CTA.out _ (grown_drew (grown_refl _ _))).mono ?_
    rintro E w6 ⟨ax, kx, rfl, hix, hgx, hnx, hcx⟩
    have F : Hid (Po (.returned (.tuple #[.slice ax nE kx, .int .i64 kz])) w6) := HP.out ax kx w6 hix (grown_trans (grown_drew (grown_refl _ _)) hgx) hnx hcx
    clear hix hnx hcx
    go_wp2_with fail
    refine hK.out _ _ (hHeld.kept hgx) (fun hHeld => ?_)
    clear hK K'
    try simp only [Act.put, List.getElem_toArray, List.getElem_cons_succ, List.getElem_cons_zero, List.setIfInBounds_toArray, List.set_cons_zero, List.set_cons_succ]
    refine wpAnyH_take (i := 20) (v := ?_) rfl (by kernel_rfl) (by kernel_rfl) (by kernel_rfl) (fun _ _ _ h => h) (Or.inl ⟨by rfl, ?_⟩) (by assumption) ?_
    rotate_left
    · intro W hSw
      obtain ⟨q0, q1, q2, q3, q4, q5, q6, q7⟩ := hSw
      go_simp
      with_reducible rfl
    try simp only [Act.put, List.getElem_toArray, List.getElem_cons_succ, List.getElem_cons_zero, List.setIfInBounds_toArray, List.set_cons_zero, List.set_cons_succ]
    refine wpAnyH_take (i := 21) (v := ?_) rfl (by kernel_rfl) (by kernel_rfl) (by kernel_rfl) (fun _ _ _ h => h) (Or.inl ⟨by rfl, ?_⟩) (by assumption) ?_
    rotate_left
    · intro W hSw
      obtain ⟨q0, q1, q2, q3, q4, q5, q6, q7⟩ := hSw
      go_simp
      with_reducible rfl
    try simp only [Act.put, List.getElem_toArray, List.getElem_cons_succ, List.getElem_cons_zero, List.setIfInBounds_toArray, List.set_cons_zero, List.set_cons_succ]
    refine wpAnyH_done (by kernel_rfl) ?_ _
    go_wp2_with fail
    first | exact F.out | (go_ret; exact F.out) | exact bodyPost_ret (v := .tuple #[.slice ax nE kx, .int .i64 kz]) (by simp [results, Try.results32, go_sem]) rfl F.out
  exact AllReadyH.nil

set_option maxHeartbeats 1600000 in
set_option maxRecDepth 100000 in
theorem least2_any (x : TrI) (I m : Nat) (a3 a4 a5 a6 : Option Addr) (c3 c4 c5 c6 : Nat) (bt : Nat) (s : Nat) (w : World) (h : TnAt w x a3 a4 a5 a6) (hr : ShpT x I m) (hm : m ≤ 900) (hN : x.N.length ≤ 1000) (bx : Box7 w bt x.I x.O x.S a3 x.F.length c3 a4 x.N.length c4 a5 x.Y.length c5 a6 x.E.length c6) (hs : s < x.N.length) :
    Calls Try.prog 34 #[.int .i64 (s : Int), .pointer (some ⟨bt, 0, none⟩)] w (CloneW (x.E.getD s []) w) := by
  obtain ⟨b6, o6, k6, r6, rfl, hs6⟩ := shp_last h hr hs
  have hem := hr.em s hs
  obtain ⟨c6a, i6⟩ := hs6 w (grown_refl _ _)
  have CTA : Hid (Calls Try.prog 33 #[.slice r6 (x.E.getD s []).length k6] w (CloneW (x.E.getD s []) w)) := cloneW_any _ _ _ w i6 (by omega) (ints_nil i6)
  obtain ⟨Po, hPo⟩ : ∃ P, P = CloneW (x.E.getD s []) w := ⟨_, rfl⟩
  rw [← hPo] at CTA ⊢
  obtain ⟨nE, hnE⟩ : ∃ n, (x.E.getD s []).length = n := ⟨_, rfl⟩
  rw [hnE] at CTA c6a
  have HPo : Hid (∀ e w', Po e w' → ∃ v, e = .returned v) := fun e w' h => by rw [hPo] at h; obtain ⟨a, c, h1, _⟩ := h; exact ⟨_, h1⟩
  have x6 := bx.b6
  have is : (s : Int) < (x.E.length : Int) := by rw [hr.he]; omega
  clear h hr bx hs6 hem i6 hPo hnE
  go_enter Try.func34, Try.ntmps34
  go_wp2_with fail
  refine CTA.out.mono ?_
  intro E w2 hE
  obtain ⟨v, rfl⟩ := HPo.out E w2 hE
  have F : Hid (Po (.returned v) w2) := hE
  clear hE
  go_wp2_with fail
  first | exact F.out | (go_ret; exact F.out)

end Go.Proofs.Ytodcmlcpicabaaa
