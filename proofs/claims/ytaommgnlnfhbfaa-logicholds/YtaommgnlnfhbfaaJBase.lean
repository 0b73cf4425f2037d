/- The reference's reader of formulas over words: its block, its list of nodes, and its small functions. -/
import Derived.Test.YtaommgnlnfhbfaaKSpec
import Derived.Lib.SmallJoins
import Derived.BigRegion
namespace Go.Proofs.Ytaommgnlnfhbfaa
open Go.RowKit
set_option linter.unusedVariables false

def JRd (w : World) (b : Nat) (s : ByteArray) (i n d : Nat) (z : ByteArray) (L : Value) (c : Int) (a : Nat) : Prop :=
  w.heap[b]? = some (.cells #[.string s, .int .i64 i, .int .i64 n, .int .i64 d, .string z, L, .int .i64 c, .int .i64 a] 41 (0, 0))
section
variable {w w' : World} {b : Nat} {s z : ByteArray} {i n d : Nat} {L : Value} {c : Int} {a : Nat}
theorem JRd.lt (h : JRd w b s i n d z L c a) : b < w.heap.size := (Array.getElem?_eq_some_iff.1 h).1
theorem JRd.c0 (h : JRd w b s i n d z L c a) : w.cell? ⟨b, 0, none⟩ = some (.string s) := by rw [cell_of_row w b 0 _ _ (0, 0) h]; rfl
theorem JRd.c1 (h : JRd w b s i n d z L c a) : w.cell? ⟨b, 1, none⟩ = some (.int .i64 i) := by rw [cell_of_row w b 1 _ _ (0, 0) h]; rfl
theorem JRd.c2 (h : JRd w b s i n d z L c a) : w.cell? ⟨b, 2, none⟩ = some (.int .i64 n) := by rw [cell_of_row w b 2 _ _ (0, 0) h]; rfl
theorem JRd.c3 (h : JRd w b s i n d z L c a) : w.cell? ⟨b, 3, none⟩ = some (.int .i64 d) := by rw [cell_of_row w b 3 _ _ (0, 0) h]; rfl
theorem JRd.c4 (h : JRd w b s i n d z L c a) : w.cell? ⟨b, 4, none⟩ = some (.string z) := by rw [cell_of_row w b 4 _ _ (0, 0) h]; rfl
theorem JRd.c5 (h : JRd w b s i n d z L c a) : w.cell? ⟨b, 5, none⟩ = some L := by rw [cell_of_row w b 5 _ _ (0, 0) h]; rfl
theorem JRd.c6 (h : JRd w b s i n d z L c a) : w.cell? ⟨b, 6, none⟩ = some (.int .i64 c) := by rw [cell_of_row w b 6 _ _ (0, 0) h]; rfl
theorem JRd.c7 (h : JRd w b s i n d z L c a) : w.cell? ⟨b, 7, none⟩ = some (.int .i64 a) := by rw [cell_of_row w b 7 _ _ (0, 0) h]; rfl
theorem JRd.f (h : JRd w b s i n d z L c a) (k : Nat) : w.frozen? ⟨b, k, none⟩ = false := frozen_of_row w b k _ _ h
theorem JRd.set1 (h : JRd w b s i n d z L c a) (j : Nat) {x : Int} (hx : x = j) : JRd (w.setCell ⟨b, 1, none⟩ (.int .i64 x)) b s j n d z L c a := by
  subst hx; unfold JRd at h ⊢; rw [heap_setCell_same w b 1 _ _ _ h]; rfl
theorem JRd.set2 (h : JRd w b s i n d z L c a) (j : Nat) {x : Int} (hx : x = j) : JRd (w.setCell ⟨b, 2, none⟩ (.int .i64 x)) b s i j d z L c a := by
  subst hx; unfold JRd at h ⊢; rw [heap_setCell_same w b 2 _ _ _ h]; rfl
theorem JRd.set3 (h : JRd w b s i n d z L c a) (j : Nat) {x : Int} (hx : x = j) : JRd (w.setCell ⟨b, 3, none⟩ (.int .i64 x)) b s i n j z L c a := by
  subst hx; unfold JRd at h ⊢; rw [heap_setCell_same w b 3 _ _ _ h]; rfl
theorem JRd.set4 (h : JRd w b s i n d z L c a) (y : ByteArray) : JRd (w.setCell ⟨b, 4, none⟩ (.string y)) b s i n d y L c a := by
  unfold JRd at h ⊢; rw [heap_setCell_same w b 4 _ _ _ h]; rfl
theorem JRd.set5 (h : JRd w b s i n d z L c a) (L' : Value) : JRd (w.setCell ⟨b, 5, none⟩ L') b s i n d z L' c a := by
  unfold JRd at h ⊢; rw [heap_setCell_same w b 5 _ _ _ h]; rfl
theorem JRd.set67 (h : JRd w b s i n d z L c a) (c' : Int) (a' : Nat) : JRd ((w.setCell ⟨b, 6, none⟩ (.int .i64 c')).setCell ⟨b, 7, none⟩ (.int .i64 a')) b s i n d z L c' a' := by
  unfold JRd at h ⊢; rw [heap_setCell_same _ b 7 _ _ _ (heap_setCell_same w b 6 _ _ _ h)]; rfl
theorem JRd.kept (h : JRd w b s i n d z L c a) (hg : w.grownBy w' none) : JRd w' b s i n d z L c a := (hg.block b h.lt (by simp)).trans h
theorem JRd.keptR {row : Option Nat} (h : JRd w b s i n d z L c a) (hg : w.grownBy w' row) (hne : row ≠ some b) : JRd w' b s i n d z L c a := (hg.block b h.lt (Ne.symm hne)).trans h
end
def placeJ (w : World) (b : Nat) : Nat := match w.cell? ⟨b, 1, none⟩ with | some v => (intOf v).toNat | none => 0
def leftJ (w : World) (b n : Nat) : Nat := match w.cell? ⟨b, 6, none⟩ with | some v => if intOf v = 0 then n + 1 - placeJ w b else 0 | none => 0
theorem JRd.left {w : World} {b : Nat} {s z : ByteArray} {i n d : Nat} {L : Value} {a : Nat} (h : JRd w b s i n d z L 0 a) (m : Nat) : leftJ w b m = m + 1 - i := by simp [leftJ, placeJ, h.c6, h.c1, intOf]
theorem JRd.left_bad {w : World} {b : Nat} {s z : ByteArray} {i n d : Nat} {L : Value} {c : Int} {a : Nat} (h : JRd w b s i n d z L c a) (hc : c ≠ 0) (m : Nat) : leftJ w b m = 0 := by simp [leftJ, h.c6, intOf, hc]

/-- A node of the reference's list. -/
structure NdJ where
  k : Int
  n : Int
  a : Int
  b : Int
  s : Bool
def flatJ (ns : List NdJ) : List Value := ns.flatMap fun x => [.int .i64 x.k, .int .i64 x.n, .int .i64 x.a, .int .i64 x.b, .bool x.s]
theorem flatJ_snoc (ns : List NdJ) (x : NdJ) : flatJ (ns ++ [x]) = flatJ ns ++ [.int .i64 x.k, .int .i64 x.n, .int .i64 x.a, .int .i64 x.b, .bool x.s] := by simp [flatJ]
/-- The list of nodes. -/
def NodJ (w : World) (b : Nat) (L : Value) (ns : List NdJ) : Prop := w.ownsRow (b + 1) 46 5 L ns.length (flatJ ns)
theorem nodJ_block {w : World} {b : Nat} {L : Value} {m : List NdJ} (h : NodJ w b L m) : ∀ g, L.ownBlock = some g → b < g ∧ g < w.heap.size := fun g e => by have := World.ownsRow.lt h g e; omega
theorem nodJ_set {w w' : World} {b : Nat} {L : Value} {m : List NdJ} (h : NodJ w b L m) (hg : w.grownBy w' (some b)) : NodJ w' b L m := by
  have h2 := nodJ_block h
  exact World.ownsRow.kept h hg (.inr fun e => by have := h2 b e; omega)
theorem nodJ_kept {w w' : World} {b : Nat} {L : Value} {m : List NdJ} (h : NodJ w b L m) (hg : w.grownBy w' none) : NodJ w' b L m := World.ownsRow.kept h hg (by cases L.ownBlock <;> simp)
/-- Of what was there, only the reader and its list have turned. -/
structure FrJ (w w' : World) (b : Nat) (L L' : Value) : Prop where
  os : w'.os = w.os
  tape : w'.tape = w.tape
  output : w'.output = w.output
  size : w.heap.size ≤ w'.heap.size
  block : ∀ k, k < w.heap.size → k ≠ b → L.ownBlock ≠ some k → w'.heap[k]? = w.heap[k]?
  new : L'.ownBlock = L.ownBlock ∨ ∃ g, L'.ownBlock = some g ∧ w.heap.size ≤ g
theorem FrJ.trans {w w1 w2 : World} {b : Nat} {L L1 L2 : Value} (h : FrJ w w1 b L L1) (k : FrJ w1 w2 b L1 L2) : FrJ w w2 b L L2 := by
  refine ⟨k.os.trans h.os, k.tape.trans h.tape, k.output.trans h.output, Nat.le_trans h.size k.size, fun i hi hb hL => ?_, ?_⟩
  · refine (k.block i (Nat.lt_of_lt_of_le hi h.size) hb ?_).trans (h.block i hi hb hL)
    rcases h.new with e | ⟨g, e, hg⟩
    · rw [e]; exact hL
    · rw [e]; simp; omega
  · rcases k.new with e | ⟨g, e, hg⟩
    · rw [e]; exact h.new
    · exact .inr ⟨g, e, Nat.le_trans h.size hg⟩
theorem FrJ.grown {w w' : World} {b : Nat} {L : Value} (h : w.grownBy w' (some b)) : FrJ w w' b L L := ⟨h.os, h.tape, h.output, h.size, fun k hk hb _ => h.block k hk (by simpa using hb), .inl rfl⟩
theorem FrJ.below {w w' : World} {b B : Nat} {L L' : Value} (h : FrJ w w' b L L') (hb : B ≤ b) (hB : B ≤ w.heap.size) (hL : ∀ g, L.ownBlock = some g → B ≤ g) : Below B w w' :=
  ⟨h.os, h.tape, h.output, h.size, fun k hk => h.block k (by omega) (by omega) (fun e => by have := hL k e; omega)⟩

theorem nowJ_any (s z : ByteArray) (b i n d : Nat) (L : Value) (c : Int) (a : Nat) (w : World) (hs : s.size ≤ 4000) (hi : i ≤ 5000) (h : JRd w b s i n d z L c a) :
    Calls Try.prog 18 #[.pointer (some ⟨b, 0, none⟩)] w fun e w' => e = .returned (.int .u8 (byT s i)) ∧ w.grownBy w' none := by
  have c0 := h.c0
  have c1 := h.c1
  have f0 := h.f 0
  have f1 := h.f 1
  clear h
  by_cases h1 : i < s.size
  · have h1' : decide ((s.size : Int) ≤ (i : Int)) = false := by simp; omega
    have h3 : (i : Int) < (s.size : Int) := by omega
    have h4 : (0 : Int) ≤ (i : Int) := by omega
    go_enter Try.func18, Try.ntmps18
    go_wp2
    go_quiet (fail)
    go_wp2
    go_quiet (fail)
    go_wp2
    go_ret
    exact ⟨by simp [byT, h1], grown_drewN (grown_drewN (grown_refl _ _) _) _⟩
  · have h1' : (s.size : Int) ≤ (i : Int) := by omega
    go_enter Try.func18, Try.ntmps18
    go_wp2
    go_quiet (fail)
    go_wp2
    go_ret
    exact ⟨by simp [byT, h1], grown_drewN (grown_refl _ _) _⟩
theorem okJ_any (s z : ByteArray) (b i n d : Nat) (L : Value) (c : Int) (a : Nat) (w : World) (h : JRd w b s i n d z L c a) :
    Calls Try.prog 19 #[.pointer (some ⟨b, 0, none⟩)] w fun e w' => e = .returned (.bool (c == 0)) ∧ w' = w := by
  have c6 := h.c6
  have f6 := h.f 6
  clear h
  go_enter Try.func19, Try.ntmps19
  go_wp2
  go_ret
  exact ⟨rfl, rfl⟩
theorem failJ_any (s z : ByteArray) (b i n d : Nat) (L : Value) (c0 : Int) (a : Nat) (c : Int) (t : Nat) (w : World) (h : JRd w b s i n d z L c0 a) :
    Calls Try.prog 12 #[.pointer (some ⟨b, 0, none⟩), .int .i64 c, .int .i64 (t : Int)] w fun e w' => e = .returned (.tuple #[]) ∧ w.grownBy w' (some b) ∧ JRd w' b s i n d z L (if c0 = 0 then c else c0) (if c0 = 0 then t else a) := by
  have c6 := h.c6
  have c7 := h.c7
  have f6 := h.f 6
  have f7 := h.f 7
  have H : Hid (JRd w b s i n d z L c0 a) := h
  clear h
  by_cases hc : c0 = 0
  · subst hc
    simp only [if_true]
    go_enter Try.func12, Try.ntmps12
    go_wp2
    go_end0
    exact ⟨rfl, grown_trans (grown_set _ _ _) (grown_set _ _ _), H.out.set67 c t⟩
  · have hc' : (c0 == 0) = false := by simpa using hc
    simp only [hc, if_false]
    go_enter Try.func12, Try.ntmps12
    go_wp2
    go_end0
    exact ⟨rfl, grown_refl _ _, H.out⟩
/-- A node is counted, in whatever state. -/
theorem countJ_any (s z : ByteArray) (b i n d : Nat) (L : Value) (c0 : Int) (a t : Nat) (w : World) (hn : n ≤ 100) (h : JRd w b s i n d z L c0 a) :
    Calls Try.prog 20 #[.pointer (some ⟨b, 0, none⟩), .int .i64 (t : Int)] w fun e w' => e = .returned (.tuple #[]) ∧ w.grownBy w' (some b) ∧ JRd w' b s i (n + 1) d z L (if 30 < n + 1 ∧ c0 = 0 then 7 else c0) (if 30 < n + 1 ∧ c0 = 0 then t else a) := by
  have c2 := h.c2
  have f2 := h.f 2
  have R1 : Hid (JRd (w.setCell ⟨b, 2, none⟩ (.int .i64 ((n : Int) + 1))) b s i (n + 1) d z L c0 a) := h.set2 (n + 1) (by omega)
  have d2 := R1.out.c2
  clear h
  by_cases hf : 30 < n + 1
  · have q1 : (30 : Int) < (n : Int) + 1 := by omega
    simp only [hf, true_and]
    have HC : Hid (∀ W, JRd W b s i (n + 1) d z L c0 a → Calls Try.prog 12 #[.pointer (some ⟨b, 0, none⟩), .int .i64 7, .int .i64 (t : Int)] W fun e w' => e = .returned (.tuple #[]) ∧ W.grownBy w' (some b) ∧ JRd w' b s i (n + 1) d z L (if c0 = 0 then 7 else c0) (if c0 = 0 then t else a)) := fun W h => failJ_any s z b i (n + 1) d L c0 a 7 t W h
    generalize (if c0 = 0 then (7 : Int) else c0) = cc at *
    generalize (if c0 = 0 then t else a) = aa at *
    go_enter Try.func20, Try.ntmps20
    go_wp2_with fail
    refine (HC.out _ R1.out).mono ?_
    rintro e w2 ⟨rfl, hg2, hr2⟩
    have E : Hid (w.grownBy w2 (some b) ∧ JRd w2 b s i (n + 1) d z L cc aa) := ⟨grown_trans (grown_set _ _ _) hg2, hr2⟩
    clear hg2 hr2 HC
    go_wp2_with fail
    go_end0
    exact ⟨rfl, E.out⟩
  · have q1 : ¬ (30 : Int) < (n : Int) + 1 := by omega
    simp only [hf, false_and, if_false]
    go_enter Try.func20, Try.ntmps20
    go_wp2_with fail
    go_end0
    exact ⟨rfl, grown_set _ _ _, R1.out⟩

/-- An append, under a name that the walk does not open. -/
def AppJ (ts : Array TypeId) (ty : TypeId) (args : Array Value) : Sem Value := Builtin.append_ ts ty args
theorem appJ_fold (ts : Array TypeId) (ty : TypeId) (args : Array Value) : Builtin.append_ ts ty args = AppJ ts ty args := rfl
theorem info_partsJ {P : Program} {t : TypeId} {z : Option Value} {a b : Nat} (h : (P.info? t).map (fun i => (i.zero, i.size, i.bytes)) = some (z, a, b)) : ∃ i, P.info? t = some i ∧ i.zero = z ∧ i.size = a ∧ i.bytes = b := by
  cases hi : P.info? t with
  | none => rw [hi] at h; cases h
  | some i => rw [hi] at h; simp only [Option.map_some, Option.some.injEq, Prod.mk.injEq] at h; exact ⟨i, rfl, h.1, h.2.1, h.2.2⟩
theorem Try.infoNodJ : (Try.prog.info? 46).map (fun i => (i.zero, i.size, i.bytes)) = some (some (.agg #[.int .i64 0, .int .i64 0, .int .i64 0, .int .i64 0, .bool false]), 5, 40) := by kernel_rfl

attribute [local go_sem ↓] appJ_fold in
set_option maxHeartbeats 3200000 in
theorem putJ_any (s z : ByteArray) (b i n d : Nat) (L : Value) (c : Int) (a : Nat) (w : World) (m : List NdJ) (k x y u : Int) (se : Bool) (hn : m.length ≤ 1000) (h : JRd w b s i n d z L c a) (hp : NodJ w b L m) :
    Calls Try.prog 21 #[.pointer (some ⟨b, 0, none⟩), .agg #[.int .i64 k, .int .i64 x, .int .i64 y, .int .i64 u, .bool se]] w fun e w' => e = .returned (.int .i64 (m.length : Int)) ∧ ∃ L', JRd w' b s i n d z L' c a ∧ NodJ w' b L' (m ++ [⟨k, x, y, u, se⟩]) ∧ FrJ w w' b L L' := by
  obtain ⟨i0, hi0, hz0, hz1, hz2⟩ := info_partsJ Try.infoNodJ
  have hlt := h.lt
  obtain ⟨W0, hW0⟩ : ∃ W0, W0 = w.alloc (.cells #[.int .i64 k, .int .i64 x, .int .i64 y, .int .i64 u, .bool se] 46) := ⟨_, rfl⟩
  have HW0 : Hid (W0 = w.alloc (.cells #[.int .i64 k, .int .i64 x, .int .i64 y, .int .i64 u, .bool se] 46)) := hW0
  have g0 : w.grownBy W0 none := by rw [hW0]; exact grown_alloc _ _
  have s0 : W0.heap.size = w.heap.size + 1 := by rw [hW0]; simp
  have hb0 := heap_alloc_new w (.cells #[.int .i64 k, .int .i64 x, .int .i64 y, .int .i64 u, .bool se] 46)
  rw [← hW0] at hb0
  have n0 : W0.cell? ⟨w.heap.size, 0, none⟩ = some (.int .i64 k) := by rw [cell_of_row _ _ 0 _ _ (0, 0) hb0]; rfl
  have n1 : W0.cell? ⟨w.heap.size, 1, none⟩ = some (.int .i64 x) := by rw [cell_of_row _ _ 1 _ _ (0, 0) hb0]; rfl
  have n2 : W0.cell? ⟨w.heap.size, 2, none⟩ = some (.int .i64 y) := by rw [cell_of_row _ _ 2 _ _ (0, 0) hb0]; rfl
  have n3 : W0.cell? ⟨w.heap.size, 3, none⟩ = some (.int .i64 u) := by rw [cell_of_row _ _ 3 _ _ (0, 0) hb0]; rfl
  have n4 : W0.cell? ⟨w.heap.size, 4, none⟩ = some (.bool se) := by rw [cell_of_row _ _ 4 _ _ (0, 0) hb0]; rfl
  have c5 := (h.kept g0).c5
  obtain ⟨W1, hW1⟩ : ∃ W1, W1 = (W0.alloc (.cells #[.int .i64 k, .int .i64 x, .int .i64 y, .int .i64 u, .bool se] 46)).drew := ⟨_, rfl⟩
  have hb1 : W1.heap[W0.heap.size]? = some (.cells #[.int .i64 k, .int .i64 x, .int .i64 y, .int .i64 u, .bool se] 46 (0, 0)) := by rw [hW1]; exact heap_alloc_new W0 _
  have g01 : W0.grownBy W1 none := by rw [hW1]; exact grown_drew (grown_alloc _ _)
  have g1 : w.grownBy W1 none := grown_trans g0 g01
  have s1 : W1.heap.size = w.heap.size + 2 := by rw [hW1]; show (W0.alloc _).heap.size = _; rw [World.size_alloc, s0]
  have hp1 := nodJ_kept hp g1
  obtain ⟨mm, hmm⟩ : ∃ mm, m.length = mm := ⟨_, rfl⟩
  have hown : W1.ownsRow (b + 1) 46 5 L mm (flatJ m) := by rw [← hmm]; exact hp1
  rw [hmm] at hn ⊢
  obtain ⟨g, cap, w5, hrun, ho5, hg5, hat5, hlt5⟩ := run_append_lies (P := Try.prog) W1 26 26 (b + 1) 46 i0 (.agg #[.int .i64 0, .int .i64 0, .int .i64 0, .int .i64 0, .bool false]) 5 40 Try.underlying26 hi0 hz0 hz1 hz2 rfl (by decide) L mm (flatJ m) hown ⟨W0.heap.size, 0, none⟩ 1 1 [.int .i64 k, .int .i64 x, .int .i64 y, .int .i64 u, .bool se] rfl (fun j v hv => World.news_of_block hb1 j v (by simpa using hv)) (by intro v hv; simp at hv; rcases hv with rfl | rfl | rfl | rfl | rfl <;> rfl) (by omega) (by unfold maxLen; omega) (by omega) (by omega) _ rfl
  rw [hW1, appJ_fold] at hrun
  have hLb : L.ownBlock ≠ some b := fun e => by have := nodJ_block hp b e; omega
  have r5 : JRd w5 b s i n d z L c a := (h.kept g1).keptR hg5 hLb
  have d5 := r5.c5
  have e5 := r5.f 5
  have r6 := r5.set5 (.slice (some ⟨g, 0, none⟩) (mm + 1) cap)
  have d6 := r6.c5
  have E : Hid (∃ L', JRd (w5.setCell ⟨b, 5, none⟩ (.slice (some ⟨g, 0, none⟩) (mm + 1) cap)) b s i n d z L' c a ∧ NodJ (w5.setCell ⟨b, 5, none⟩ (.slice (some ⟨g, 0, none⟩) (mm + 1) cap)) b L' (m ++ [⟨k, x, y, u, se⟩]) ∧ FrJ w (w5.setCell ⟨b, 5, none⟩ (.slice (some ⟨g, 0, none⟩) (mm + 1) cap)) b L L') := by
    refine ⟨.slice (some ⟨g, 0, none⟩) (mm + 1) cap, r6, ?_, ?_⟩
    · unfold NodJ
      rw [flatJ_snoc, List.length_append, hmm]
      exact ownsRow_setCell_below (a := ⟨b, 5, none⟩) ho5 (by simp) (.slice (some ⟨g, 0, none⟩) (mm + 1) cap)
    refine ⟨hg5.os.trans g1.os, hg5.tape.trans g1.tape, hg5.output.trans g1.output, ?_, fun q hq hqb hqL => ?_, ?_⟩
    · have h1 := hg5.size
      have h2 := g1.size
      simp [World.setCell]
      omega
    · rw [Below.heap_setCell _ _ _ _ hqb, hg5.block q (Nat.lt_of_lt_of_le hq g1.size) (Ne.symm hqL), g1.block q hq (by simp)]
    · rcases hat5 with h1 | h1
      · exact .inl (by rw [h1]; rfl)
      · exact .inr ⟨g, rfl, by omega⟩
  have al : ∀ o, (W0.alloc o).cell? ⟨w.heap.size, 0, none⟩ = some (.int .i64 k) ∧ (W0.alloc o).cell? ⟨w.heap.size, 1, none⟩ = some (.int .i64 x) ∧ (W0.alloc o).cell? ⟨w.heap.size, 2, none⟩ = some (.int .i64 y) ∧ (W0.alloc o).cell? ⟨w.heap.size, 3, none⟩ = some (.int .i64 u) ∧ (W0.alloc o).cell? ⟨w.heap.size, 4, none⟩ = some (.bool se) ∧ (W0.alloc o).cell? ⟨b, 5, none⟩ = some L := fun o => ⟨(grown_alloc _ o).cell n0 (by simp), (grown_alloc _ o).cell n1 (by simp), (grown_alloc _ o).cell n2 (by simp), (grown_alloc _ o).cell n3 (by simp), (grown_alloc _ o).cell n4 (by simp), (grown_alloc _ o).cell c5 (by simp)⟩
  have a0 := fun o => (al o).1
  have a1 := fun o => (al o).2.1
  have a2 := fun o => (al o).2.2.1
  have a3 := fun o => (al o).2.2.2.1
  have a4 := fun o => (al o).2.2.2.2.1
  have a5 := fun o => (al o).2.2.2.2.2
  clear al h hp hp1 hmm hW0 hb0 hb1 g0 g1 g01 s0 s1 hW1 ho5 hg5 hat5 hlt5 hLb r5 r6 hlt hown
  go_enter Try.func21, Try.ntmps21
  go_wp2_with fail
  rw [← HW0.out]
  clear HW0
  go_region
  all_goals
    go_wp2_with fail
    go_ret
    exact ⟨ret_int (by omega), E.out⟩

end Go.Proofs.Ytaommgnlnfhbfaa
