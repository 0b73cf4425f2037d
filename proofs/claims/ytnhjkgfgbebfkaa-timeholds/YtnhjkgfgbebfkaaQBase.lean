/- The reference's reader of formulas: its block, the nodes that it has made, and its small functions. -/
import Derived.Test.YtnhjkgfgbebfkaaTSpec
import Derived.Lib.SmallJoins
namespace Go.Proofs.Ytnhjkgfgbebfkaa
open Go.RowKit
set_option linter.unusedVariables false

/-- The reference's reader lies in block b. -/
def QRd (w : World) (b : Nat) (s : ByteArray) (i n t d : Nat) (L : Value) (c : Int) (a : Nat) : Prop :=
  w.heap[b]? = some (.cells #[.string s, .int .i64 i, .int .i64 n, .int .i64 t, .int .i64 d, L, .int .i64 c, .int .i64 a] 43 (0, 0))
section
variable {w w' : World} {b : Nat} {s : ByteArray} {i n t d : Nat} {L : Value} {c : Int} {a : Nat}
theorem QRd.lt (h : QRd w b s i n t d L c a) : b < w.heap.size := (Array.getElem?_eq_some_iff.1 h).1
theorem QRd.c0 (h : QRd w b s i n t d L c a) : w.cell? ⟨b, 0, none⟩ = some (.string s) := by rw [cell_of_row w b 0 _ _ (0, 0) h]; rfl
theorem QRd.c1 (h : QRd w b s i n t d L c a) : w.cell? ⟨b, 1, none⟩ = some (.int .i64 i) := by rw [cell_of_row w b 1 _ _ (0, 0) h]; rfl
theorem QRd.c2 (h : QRd w b s i n t d L c a) : w.cell? ⟨b, 2, none⟩ = some (.int .i64 n) := by rw [cell_of_row w b 2 _ _ (0, 0) h]; rfl
theorem QRd.c3 (h : QRd w b s i n t d L c a) : w.cell? ⟨b, 3, none⟩ = some (.int .i64 t) := by rw [cell_of_row w b 3 _ _ (0, 0) h]; rfl
theorem QRd.c4 (h : QRd w b s i n t d L c a) : w.cell? ⟨b, 4, none⟩ = some (.int .i64 d) := by rw [cell_of_row w b 4 _ _ (0, 0) h]; rfl
theorem QRd.c5 (h : QRd w b s i n t d L c a) : w.cell? ⟨b, 5, none⟩ = some L := by rw [cell_of_row w b 5 _ _ (0, 0) h]; rfl
theorem QRd.c6 (h : QRd w b s i n t d L c a) : w.cell? ⟨b, 6, none⟩ = some (.int .i64 c) := by rw [cell_of_row w b 6 _ _ (0, 0) h]; rfl
theorem QRd.c7 (h : QRd w b s i n t d L c a) : w.cell? ⟨b, 7, none⟩ = some (.int .i64 a) := by rw [cell_of_row w b 7 _ _ (0, 0) h]; rfl
theorem QRd.f (h : QRd w b s i n t d L c a) (k : Nat) : w.frozen? ⟨b, k, none⟩ = false := frozen_of_row w b k _ _ h
theorem QRd.set1 (h : QRd w b s i n t d L c a) (j : Nat) {x : Int} (hx : x = j) : QRd (w.setCell ⟨b, 1, none⟩ (.int .i64 x)) b s j n t d L c a := by
  subst hx; unfold QRd at h ⊢; rw [heap_setCell_same w b 1 _ _ _ h]; rfl
theorem QRd.set2 (h : QRd w b s i n t d L c a) (j : Nat) {x : Int} (hx : x = j) : QRd (w.setCell ⟨b, 2, none⟩ (.int .i64 x)) b s i j t d L c a := by
  subst hx; unfold QRd at h ⊢; rw [heap_setCell_same w b 2 _ _ _ h]; rfl
theorem QRd.set3 (h : QRd w b s i n t d L c a) (j : Nat) {x : Int} (hx : x = j) : QRd (w.setCell ⟨b, 3, none⟩ (.int .i64 x)) b s i n j d L c a := by
  subst hx; unfold QRd at h ⊢; rw [heap_setCell_same w b 3 _ _ _ h]; rfl
theorem QRd.set4 (h : QRd w b s i n t d L c a) (j : Nat) {x : Int} (hx : x = j) : QRd (w.setCell ⟨b, 4, none⟩ (.int .i64 x)) b s i n t j L c a := by
  subst hx; unfold QRd at h ⊢; rw [heap_setCell_same w b 4 _ _ _ h]; rfl
theorem QRd.set5 (h : QRd w b s i n t d L c a) (L' : Value) : QRd (w.setCell ⟨b, 5, none⟩ L') b s i n t d L' c a := by
  unfold QRd at h ⊢; rw [heap_setCell_same w b 5 _ _ _ h]; rfl
theorem QRd.set67 (h : QRd w b s i n t d L c a) (c' : Int) (a' : Nat) : QRd ((w.setCell ⟨b, 6, none⟩ (.int .i64 c')).setCell ⟨b, 7, none⟩ (.int .i64 a')) b s i n t d L c' a' := by
  unfold QRd at h ⊢; rw [heap_setCell_same _ b 7 _ _ _ (heap_setCell_same w b 6 _ _ _ h)]; rfl
theorem QRd.kept (h : QRd w b s i n t d L c a) (hg : w.grownBy w' none) : QRd w' b s i n t d L c a := (hg.block b h.lt (by simp)).trans h
theorem QRd.keptR {row : Option Nat} (h : QRd w b s i n t d L c a) (hg : w.grownBy w' row) (hne : row ≠ some b) : QRd w' b s i n t d L c a := (hg.block b h.lt (Ne.symm hne)).trans h
end
/-- The place at which a reader is; what is left to read: nothing behind a fault. -/
def placeR (w : World) (b : Nat) : Nat := match w.cell? ⟨b, 1, none⟩ with | some v => (intOf v).toNat | none => 0
def leftR (w : World) (b n : Nat) : Nat := match w.cell? ⟨b, 6, none⟩ with | some v => if intOf v = 0 then n + 1 - placeR w b else 0 | none => 0
theorem QRd.left {w : World} {b : Nat} {s : ByteArray} {i n t d : Nat} {L : Value} {a : Nat} (h : QRd w b s i n t d L 0 a) (m : Nat) : leftR w b m = m + 1 - i := by simp [leftR, placeR, h.c6, h.c1, intOf]
theorem QRd.left_bad {w : World} {b : Nat} {s : ByteArray} {i n t d : Nat} {L : Value} {c : Int} {a : Nat} (h : QRd w b s i n t d L c a) (hc : c ≠ 0) (m : Nat) : leftR w b m = 0 := by simp [leftR, h.c6, intOf, hc]

/-- A node as the reference keeps it: its byte, and the numbers of what it is made of. -/
abbrev NodR := Nat × Nat × Nat
def flatN (ps : List NodR) : List Value := ps.flatMap fun p => [.int .u8 (p.1 : Int), .int .i64 (p.2.1 : Int), .int .i64 (p.2.2 : Int)]
theorem flatN_snoc (ps : List NodR) (c x y : Nat) : flatN ps ++ [.int .u8 (c : Int), .int .i64 (x : Int), .int .i64 (y : Int)] = flatN (ps ++ [(c, x, y)]) := by simp [flatN]
def conF (c : Nat) (f g : Fm) : Fm := if c = 38 then .and f g else if c = 124 then .or f g else biF c f g
/-- Node number k tells the formula. -/
inductive MeansN (ps : List NodR) : Nat → Fm → Prop
  | leaf (k c : Nat) (h : ps[k]? = some (c, 0, 0)) (hc : c = 112 ∨ c = 113 ∨ c = 48 ∨ c = 49) : MeansN ps k (lfF c)
  | un (k c x : Nat) (f : Fm) (h : ps[k]? = some (c, x, 0)) (hc : c = 33 ∨ c = 88 ∨ c = 70 ∨ c = 71) (hx : x < k) (hf : MeansN ps x f) : MeansN ps k (unF c f)
  | bi (k c x y : Nat) (f g : Fm) (h : ps[k]? = some (c, x, y)) (hc : c = 38 ∨ c = 124 ∨ c = 85 ∨ c = 82) (hx : x < k) (hy : y < k) (hf : MeansN ps x f) (hg : MeansN ps y g) : MeansN ps k (conF c f g)
theorem MeansN.more {ps : List NodR} {k : Nat} {f : Fm} (h : MeansN ps k f) (qs : List NodR) : MeansN (ps ++ qs) k f := by
  have key : ∀ {k : Nat} {p : NodR}, ps[k]? = some p → (ps ++ qs)[k]? = some p := fun {k p} h => by
    rw [List.getElem?_append_left (List.getElem?_eq_some_iff.1 h).1]; exact h
  induction h with
  | leaf k c h hc => exact .leaf k c (key h) hc
  | un k c x f h hc hx hf ih => exact .un k c x f (key h) hc hx ih
  | bi k c x y f g h hc hx hy hf hg ih1 ih2 => exact .bi k c x y f g (key h) hc hx hy ih1 ih2

/-- Every node means something. -/
def AllN (ps : List NodR) : Prop := ∀ j, j < ps.length → ∃ g, MeansN ps j g
theorem AllN.snoc {ps : List NodR} {x : NodR} {g : Fm} (h : AllN ps) (hg : MeansN (ps ++ [x]) ps.length g) : AllN (ps ++ [x]) := by
  intro j hj
  by_cases e : j = ps.length
  · subst e; exact ⟨g, hg⟩
  · rw [List.length_append, List.length_singleton] at hj
    obtain ⟨g', hg'⟩ := h j (by omega)
    exact ⟨g', hg'.more _⟩
/-- A node means this, and if all did that were there, all do. -/
def MeanA (ps0 ps : List NodR) (k : Nat) (f : Fm) : Prop := MeansN ps k f ∧ (AllN ps0 → AllN ps)
/-- The nodes that the reader in block b has made. -/
abbrev NodsAt (w : World) (b : Nat) (L : Value) (ps : List NodR) : Prop := w.ownsRow (b + 1) 72 3 L ps.length (flatN ps)
theorem nods_block {w : World} {b : Nat} {L : Value} {ps : List NodR} (h : NodsAt w b L ps) : ∀ g, L.ownBlock = some g → b < g ∧ g < w.heap.size := fun g e => by have := h.lt g e; omega
theorem nods_set {w w' : World} {b : Nat} {L : Value} {ps : List NodR} (h : NodsAt w b L ps) (hg : w.grownBy w' (some b)) : NodsAt w' b L ps := h.kept hg (.inr fun e => by have := nods_block h b e; omega)
theorem nods_kept {w w' : World} {b : Nat} {L : Value} {ps : List NodR} (h : NodsAt w b L ps) (hg : w.grownBy w' none) : NodsAt w' b L ps := h.kept hg (by cases L.ownBlock <;> simp)

/-- Of what was there, only the reader and its list have turned. -/
structure FrQ (w w' : World) (b : Nat) (L L' : Value) : Prop where
  os : w'.os = w.os
  tape : w'.tape = w.tape
  output : w'.output = w.output
  size : w.heap.size ≤ w'.heap.size
  block : ∀ k, k < w.heap.size → k ≠ b → L.ownBlock ≠ some k → w'.heap[k]? = w.heap[k]?
  new : L'.ownBlock = L.ownBlock ∨ ∃ g, L'.ownBlock = some g ∧ w.heap.size ≤ g
theorem FrQ.refl (w : World) (b : Nat) (L : Value) : FrQ w w b L L := ⟨rfl, rfl, rfl, Nat.le_refl _, fun _ _ _ _ => rfl, .inl rfl⟩
theorem FrQ.trans {w w1 w2 : World} {b : Nat} {L L1 L2 : Value} (h : FrQ w w1 b L L1) (k : FrQ w1 w2 b L1 L2) : FrQ w w2 b L L2 := by
  refine ⟨k.os.trans h.os, k.tape.trans h.tape, k.output.trans h.output, Nat.le_trans h.size k.size, fun i hi hb hL => ?_, ?_⟩
  · refine (k.block i (Nat.lt_of_lt_of_le hi h.size) hb ?_).trans (h.block i hi hb hL)
    rcases h.new with e | ⟨g, e, hg⟩
    · rw [e]; exact hL
    · rw [e]; simp; omega
  · rcases k.new with e | ⟨g, e, hg⟩
    · rw [e]; exact h.new
    · exact .inr ⟨g, e, Nat.le_trans h.size hg⟩
theorem FrQ.grown {w w' : World} {b : Nat} {L : Value} (h : w.grownBy w' (some b)) : FrQ w w' b L L := ⟨h.os, h.tape, h.output, h.size, fun k hk hb _ => h.block k hk (by simpa using hb), .inl rfl⟩
theorem FrQ.grown' {w w' : World} {b : Nat} {L : Value} (h : w.grownBy w' none) : FrQ w w' b L L := FrQ.grown (grown_some h)
theorem FrQ.below {w w' : World} {b B : Nat} {L L' : Value} (h : FrQ w w' b L L') (hb : B ≤ b) (hB : B ≤ w.heap.size) (hL : ∀ g, L.ownBlock = some g → B ≤ g) : Below B w w' :=
  ⟨h.os, h.tape, h.output, h.size, fun k hk => h.block k (by omega) (by omega) (fun e => by have := hL k e; omega)⟩

theorem nowQ_any (s : ByteArray) (b i n t d : Nat) (L : Value) (c : Int) (a : Nat) (w : World) (hs : s.size ≤ 4000) (hi : i ≤ 5000) (h : QRd w b s i n t d L c a) :
    Calls Try.prog 22 #[.pointer (some ⟨b, 0, none⟩)] w fun e w' => e = .returned (.int .u8 (byT s i)) ∧ w.grownBy w' none := by
  have c0 := h.c0
  have c1 := h.c1
  have f0 := h.f 0
  have f1 := h.f 1
  clear h
  by_cases h1 : i < s.size
  · have h1' : decide ((s.size : Int) ≤ (i : Int)) = false := by simp; omega
    have h3 : (i : Int) < (s.size : Int) := by omega
    have h4 : (0 : Int) ≤ (i : Int) := by omega
    go_enter Try.func22, Try.ntmps22
    go_wp2
    go_quiet (fail)
    go_wp2
    go_quiet (fail)
    go_wp2
    go_ret
    exact ⟨by simp [byT, h1], grown_drewN (grown_drewN (grown_refl _ _) _) _⟩
  · have h1' : (s.size : Int) ≤ (i : Int) := by omega
    go_enter Try.func22, Try.ntmps22
    go_wp2
    go_quiet (fail)
    go_wp2
    go_ret
    exact ⟨by simp [byT, h1], grown_drewN (grown_refl _ _) _⟩

theorem okQ_any (s : ByteArray) (b i n t d : Nat) (L : Value) (c : Int) (a : Nat) (w : World) (h : QRd w b s i n t d L c a) :
    Calls Try.prog 23 #[.pointer (some ⟨b, 0, none⟩)] w fun e w' => e = .returned (.bool (c == 0)) ∧ w' = w := by
  have c6 := h.c6
  have f6 := h.f 6
  clear h
  go_enter Try.func23, Try.ntmps23
  go_wp2
  go_ret
  exact ⟨rfl, rfl⟩

theorem failQ_first (s : ByteArray) (b i n t d : Nat) (L : Value) (a : Nat) (c : Int) (w : World) (h : QRd w b s i n t d L 0 a) :
    Calls Try.prog 12 #[.pointer (some ⟨b, 0, none⟩), .int .i64 c] w fun e w' => e = .returned (.tuple #[]) ∧ w.grownBy w' (some b) ∧ QRd w' b s i n t d L c i := by
  have c1 := h.c1
  have c6 := h.c6
  have c7 := h.c7
  have f1 := h.f 1
  have f6 := h.f 6
  have f7 := h.f 7
  have H : Hid (QRd w b s i n t d L 0 a) := h
  clear h
  go_enter Try.func12, Try.ntmps12
  go_wp2
  go_end0
  exact ⟨rfl, grown_trans (grown_set _ _ _) (grown_set _ _ _), H.out.set67 c i⟩

theorem failQ_again (s : ByteArray) (b i n t d : Nat) (L : Value) (c0 : Int) (a : Nat) (c : Int) (w : World) (hc : c0 ≠ 0) (h : QRd w b s i n t d L c0 a) :
    Calls Try.prog 12 #[.pointer (some ⟨b, 0, none⟩), .int .i64 c] w fun e w' => e = .returned (.tuple #[]) ∧ w' = w := by
  have c6 := h.c6
  have f6 := h.f 6
  have hc' : (c0 == 0) = false := by simpa using hc
  clear h
  go_enter Try.func12, Try.ntmps12
  go_wp2
  go_end0
  exact ⟨rfl, rfl⟩

/-- An append, under a name that the walk does not open. -/
def AppT (ts : Array TypeId) (ty : TypeId) (args : Array Value) : Sem Value := Builtin.append_ ts ty args
theorem appT_fold (ts : Array TypeId) (ty : TypeId) (args : Array Value) : Builtin.append_ ts ty args = AppT ts ty args := rfl
theorem info_partsT {P : Program} {t : TypeId} {z : Option Value} {a b : Nat} (h : (P.info? t).map (fun i => (i.zero, i.size, i.bytes)) = some (z, a, b)) : ∃ i, P.info? t = some i ∧ i.zero = z ∧ i.size = a ∧ i.bytes = b := by
  cases hi : P.info? t with
  | none => rw [hi] at h; cases h
  | some i => rw [hi] at h; simp only [Option.map_some, Option.some.injEq, Prod.mk.injEq] at h; exact ⟨i, rfl, h.1, h.2.1, h.2.2⟩
theorem Try.infoNodR : (Try.prog.info? 72).map (fun i => (i.zero, i.size, i.bytes)) = some (some (.agg #[.int .u8 0, .int .i64 0, .int .i64 0]), 3, 24) := by kernel_rfl

attribute [local go_sem ↓] appT_fold in
set_option maxHeartbeats 1600000 in
theorem putQ_any (s : ByteArray) (b i n t d : Nat) (L : Value) (c : Int) (a : Nat) (w : World) (ps : List NodR) (k x y : Nat) (hn : ps.length ≤ 1000) (h : QRd w b s i n t d L c a) (hp : NodsAt w b L ps) :
    Calls Try.prog 25 #[.pointer (some ⟨b, 0, none⟩), .int .u8 (k : Int), .int .i64 (x : Int), .int .i64 (y : Int)] w fun e w' => e = .returned (.int .i64 ps.length) ∧ ∃ L', QRd w' b s i n t d L' c a ∧ NodsAt w' b L' (ps ++ [(k, x, y)]) ∧ FrQ w w' b L L' := by
  obtain ⟨i0, hi0, hz0, hz1, hz2⟩ := info_partsT Try.infoNodR
  have hlt := h.lt
  have c5 := h.c5
  obtain ⟨W1, hW1⟩ : ∃ W1, W1 = w.alloc (.cells #[.int .u8 (k : Int), .int .i64 (x : Int), .int .i64 (y : Int)] 72) := ⟨_, rfl⟩
  have hb1 := heap_alloc_new w (.cells #[.int .u8 (k : Int), .int .i64 (x : Int), .int .i64 (y : Int)] 72)
  rw [← hW1] at hb1
  have g1 : w.grownBy W1 none := by rw [hW1]; exact grown_alloc _ _
  have s1 : W1.heap.size = w.heap.size + 1 := by rw [hW1]; simp
  obtain ⟨g, cap, w5, hrun, ho5, hg5, hat5, hlt5⟩ := run_append_lies (P := Try.prog) W1 26 26 (b + 1) 72 i0 (.agg #[.int .u8 0, .int .i64 0, .int .i64 0]) 3 24 Try.underlying26 hi0 hz0 hz1 hz2 rfl (by decide) L ps.length (flatN ps) (nods_kept hp g1) ⟨w.heap.size, 0, none⟩ 1 1 [.int .u8 (k : Int), .int .i64 (x : Int), .int .i64 (y : Int)] rfl (fun j u hu => World.news_of_block hb1 j u (by simpa using hu)) (by intro u hu; simp at hu; rcases hu with rfl | rfl | rfl <;> rfl) (by omega) (by unfold maxLen; omega) (by omega) (by omega) _ rfl
  rw [hW1, appT_fold] at hrun
  have hLb : L.ownBlock ≠ some b := fun e => by have := nods_block hp b e; omega
  have r5 : QRd w5 b s i n t d L c a := (h.kept g1).keptR hg5 hLb
  have d5 := r5.c5
  have e5 := r5.f 5
  have r6 := r5.set5 (.slice (some ⟨g, 0, none⟩) (ps.length + 1) cap)
  have d6 := r6.c5
  have E : Hid (∃ L', QRd (w5.setCell ⟨b, 5, none⟩ (.slice (some ⟨g, 0, none⟩) (ps.length + 1) cap)) b s i n t d L' c a ∧ NodsAt (w5.setCell ⟨b, 5, none⟩ (.slice (some ⟨g, 0, none⟩) (ps.length + 1) cap)) b L' (ps ++ [(k, x, y)]) ∧ FrQ w (w5.setCell ⟨b, 5, none⟩ (.slice (some ⟨g, 0, none⟩) (ps.length + 1) cap)) b L L') := by
    refine ⟨.slice (some ⟨g, 0, none⟩) (ps.length + 1) cap, r6, ?_, ?_⟩
    · have h1 := ownsRow_setCell_below (a := ⟨b, 5, none⟩) ho5 (by simp) (.slice (some ⟨g, 0, none⟩) (ps.length + 1) cap)
      rw [flatN_snoc] at h1
      show World.ownsRow _ _ _ _ _ _ _
      rw [List.length_append, List.length_singleton]
      exact h1
    · refine ⟨hg5.os.trans g1.os, hg5.tape.trans g1.tape, hg5.output.trans g1.output, ?_, fun q hq hqb hqL => ?_, ?_⟩
      · have h1 := hg5.size
        have h2 := g1.size
        simp [World.setCell]
        omega
      · rw [Below.heap_setCell _ _ _ _ hqb, hg5.block q (Nat.lt_of_lt_of_le hq g1.size) (Ne.symm hqL), g1.block q hq (by simp)]
      · rcases hat5 with h1 | h1
        · exact .inl (by rw [h1]; rfl)
        · exact .inr ⟨g, rfl, by omega⟩
  clear h hp hW1 hb1 g1 s1 ho5 hg5 hat5 hlt5 hLb r5 r6 hlt
  have c5' := c5
  go_enter Try.func25, Try.ntmps25
  go_wp2_with fail
  go_ret
  exact ⟨ret_int (by omega), E.out⟩

set_option maxHeartbeats 3200000 in
theorem countQ_full (s : ByteArray) (b i n t d : Nat) (L : Value) (c0 : Nat) (w : World) (hi : i ≤ 4000) (hn : n ≤ 30) (ht : t ≤ 5) (hf : fullC c0 n t = true) (h : QRd w b s i n t d L 0 0) :
    Calls Try.prog 24 #[.pointer (some ⟨b, 0, none⟩), .int .u8 (c0 : Int)] w fun e w' => e = .returned (.tuple #[]) ∧ w.grownBy w' (some b) ∧ QRd w' b s (i + 1) (n + 1) (tmC c0 t) d L 7 i := by
  unfold fullC at hf
  simp only [Bool.or_eq_true, decide_eq_true_eq] at hf
  have c1 := h.c1
  have c2 := h.c2
  have c3 := h.c3
  have f1 := h.f 1
  have f2 := h.f 2
  have f3 := h.f 3
  by_cases h0 : c0 = 88
  · subst h0
    have hE : tmC 88 t = (t + 1) := rfl
    rw [hE] at hf ⊢
    have R1 : Hid (QRd ((w.setCell ⟨b, 2, none⟩ (.int .i64 ((n : Int) + 1))).setCell ⟨b, 3, none⟩ (.int .i64 ((t : Int) + 1))) b s i (n + 1) (t + 1) d L 0 0) := (h.set2 (n + 1) (by omega)).set3 (t + 1) (by omega)
    have G1 : Hid (w.grownBy ((w.setCell ⟨b, 2, none⟩ (.int .i64 ((n : Int) + 1))).setCell ⟨b, 3, none⟩ (.int .i64 ((t : Int) + 1))) (some b)) := grown_trans (grown_set _ _ _) (grown_set _ _ _)
    have x3 := (h.set2 (n + 1) (x := (n : Int) + 1) (by omega)).c3
    have y3 := (h.set2 (n + 1) (x := (n : Int) + 1) (by omega)).f 3
    have d1 := R1.out.c1
    have d2 := R1.out.c2
    have d3 := R1.out.c3
    have e1 := R1.out.f 1
    by_cases hq : 30 < n + 1
    · have q1 : (30 : Int) < (n : Int) + 1 := by omega
      clear h
      go_enter Try.func24, Try.ntmps24
      go_wp2_with fail
      refine (failQ_first s b i (n + 1) (t + 1) d L 0 7 _ R1.out).mono ?_
      rintro e w2 ⟨rfl, hg2, hr2⟩
      have G2 : Hid (w.grownBy w2 (some b)) := grown_trans G1.out hg2
      have R2 : Hid (QRd w2 b s i (n + 1) (t + 1) d L 7 i) := hr2
      have d1 := R2.out.c1
      have e1 := R2.out.f 1
      clear hg2 hr2
      go_wp2_with fail
      go_end0
      exact ⟨rfl, grown_trans G2.out (grown_set _ _ _), R2.out.set1 (i + 1) (by omega)⟩
    · have q1 : ¬ (30 : Int) < (n : Int) + 1 := by omega
      have q2 : (5 : Int) < (t : Int) + 1 := by omega
      clear h
      go_enter Try.func24, Try.ntmps24
      go_wp2_with fail
      refine (failQ_first s b i (n + 1) (t + 1) d L 0 7 _ R1.out).mono ?_
      rintro e w2 ⟨rfl, hg2, hr2⟩
      have G2 : Hid (w.grownBy w2 (some b)) := grown_trans G1.out hg2
      have R2 : Hid (QRd w2 b s i (n + 1) (t + 1) d L 7 i) := hr2
      have d1 := R2.out.c1
      have e1 := R2.out.f 1
      clear hg2 hr2
      go_wp2_with fail
      go_end0
      exact ⟨rfl, grown_trans G2.out (grown_set _ _ _), R2.out.set1 (i + 1) (by omega)⟩
  · have h0' : ((c0 : Int) == 88) = false := by simp; omega
    by_cases h1 : c0 = 70
    · subst h1
      have hE : tmC 70 t = (t + 1) := rfl
      rw [hE] at hf ⊢
      have R1 : Hid (QRd ((w.setCell ⟨b, 2, none⟩ (.int .i64 ((n : Int) + 1))).setCell ⟨b, 3, none⟩ (.int .i64 ((t : Int) + 1))) b s i (n + 1) (t + 1) d L 0 0) := (h.set2 (n + 1) (by omega)).set3 (t + 1) (by omega)
      have G1 : Hid (w.grownBy ((w.setCell ⟨b, 2, none⟩ (.int .i64 ((n : Int) + 1))).setCell ⟨b, 3, none⟩ (.int .i64 ((t : Int) + 1))) (some b)) := grown_trans (grown_set _ _ _) (grown_set _ _ _)
      have x3 := (h.set2 (n + 1) (x := (n : Int) + 1) (by omega)).c3
      have y3 := (h.set2 (n + 1) (x := (n : Int) + 1) (by omega)).f 3
      have d1 := R1.out.c1
      have d2 := R1.out.c2
      have d3 := R1.out.c3
      have e1 := R1.out.f 1
      by_cases hq : 30 < n + 1
      · have q1 : (30 : Int) < (n : Int) + 1 := by omega
        clear h
        go_enter Try.func24, Try.ntmps24
        go_wp2_with fail
        refine (failQ_first s b i (n + 1) (t + 1) d L 0 7 _ R1.out).mono ?_
        rintro e w2 ⟨rfl, hg2, hr2⟩
        have G2 : Hid (w.grownBy w2 (some b)) := grown_trans G1.out hg2
        have R2 : Hid (QRd w2 b s i (n + 1) (t + 1) d L 7 i) := hr2
        have d1 := R2.out.c1
        have e1 := R2.out.f 1
        clear hg2 hr2
        go_wp2_with fail
        go_end0
        exact ⟨rfl, grown_trans G2.out (grown_set _ _ _), R2.out.set1 (i + 1) (by omega)⟩
      · have q1 : ¬ (30 : Int) < (n : Int) + 1 := by omega
        have q2 : (5 : Int) < (t : Int) + 1 := by omega
        clear h
        go_enter Try.func24, Try.ntmps24
        go_wp2_with fail
        refine (failQ_first s b i (n + 1) (t + 1) d L 0 7 _ R1.out).mono ?_
        rintro e w2 ⟨rfl, hg2, hr2⟩
        have G2 : Hid (w.grownBy w2 (some b)) := grown_trans G1.out hg2
        have R2 : Hid (QRd w2 b s i (n + 1) (t + 1) d L 7 i) := hr2
        have d1 := R2.out.c1
        have e1 := R2.out.f 1
        clear hg2 hr2
        go_wp2_with fail
        go_end0
        exact ⟨rfl, grown_trans G2.out (grown_set _ _ _), R2.out.set1 (i + 1) (by omega)⟩
    · have h1' : ((c0 : Int) == 70) = false := by simp; omega
      by_cases h2 : c0 = 71
      · subst h2
        have hE : tmC 71 t = (t + 1) := rfl
        rw [hE] at hf ⊢
        have R1 : Hid (QRd ((w.setCell ⟨b, 2, none⟩ (.int .i64 ((n : Int) + 1))).setCell ⟨b, 3, none⟩ (.int .i64 ((t : Int) + 1))) b s i (n + 1) (t + 1) d L 0 0) := (h.set2 (n + 1) (by omega)).set3 (t + 1) (by omega)
        have G1 : Hid (w.grownBy ((w.setCell ⟨b, 2, none⟩ (.int .i64 ((n : Int) + 1))).setCell ⟨b, 3, none⟩ (.int .i64 ((t : Int) + 1))) (some b)) := grown_trans (grown_set _ _ _) (grown_set _ _ _)
        have x3 := (h.set2 (n + 1) (x := (n : Int) + 1) (by omega)).c3
        have y3 := (h.set2 (n + 1) (x := (n : Int) + 1) (by omega)).f 3
        have d1 := R1.out.c1
        have d2 := R1.out.c2
        have d3 := R1.out.c3
        have e1 := R1.out.f 1
        by_cases hq : 30 < n + 1
        · have q1 : (30 : Int) < (n : Int) + 1 := by omega
          clear h
          go_enter Try.func24, Try.ntmps24
          go_wp2_with fail
          refine (failQ_first s b i (n + 1) (t + 1) d L 0 7 _ R1.out).mono ?_
          rintro e w2 ⟨rfl, hg2, hr2⟩
          have G2 : Hid (w.grownBy w2 (some b)) := grown_trans G1.out hg2
          have R2 : Hid (QRd w2 b s i (n + 1) (t + 1) d L 7 i) := hr2
          have d1 := R2.out.c1
          have e1 := R2.out.f 1
          clear hg2 hr2
          go_wp2_with fail
          go_end0
          exact ⟨rfl, grown_trans G2.out (grown_set _ _ _), R2.out.set1 (i + 1) (by omega)⟩
        · have q1 : ¬ (30 : Int) < (n : Int) + 1 := by omega
          have q2 : (5 : Int) < (t : Int) + 1 := by omega
          clear h
          go_enter Try.func24, Try.ntmps24
          go_wp2_with fail
          refine (failQ_first s b i (n + 1) (t + 1) d L 0 7 _ R1.out).mono ?_
          rintro e w2 ⟨rfl, hg2, hr2⟩
          have G2 : Hid (w.grownBy w2 (some b)) := grown_trans G1.out hg2
          have R2 : Hid (QRd w2 b s i (n + 1) (t + 1) d L 7 i) := hr2
          have d1 := R2.out.c1
          have e1 := R2.out.f 1
          clear hg2 hr2
          go_wp2_with fail
          go_end0
          exact ⟨rfl, grown_trans G2.out (grown_set _ _ _), R2.out.set1 (i + 1) (by omega)⟩
      · have h2' : ((c0 : Int) == 71) = false := by simp; omega
        by_cases h3 : c0 = 85
        · subst h3
          have hE : tmC 85 t = (t + 1) := rfl
          rw [hE] at hf ⊢
          have R1 : Hid (QRd ((w.setCell ⟨b, 2, none⟩ (.int .i64 ((n : Int) + 1))).setCell ⟨b, 3, none⟩ (.int .i64 ((t : Int) + 1))) b s i (n + 1) (t + 1) d L 0 0) := (h.set2 (n + 1) (by omega)).set3 (t + 1) (by omega)
          have G1 : Hid (w.grownBy ((w.setCell ⟨b, 2, none⟩ (.int .i64 ((n : Int) + 1))).setCell ⟨b, 3, none⟩ (.int .i64 ((t : Int) + 1))) (some b)) := grown_trans (grown_set _ _ _) (grown_set _ _ _)
          have x3 := (h.set2 (n + 1) (x := (n : Int) + 1) (by omega)).c3
          have y3 := (h.set2 (n + 1) (x := (n : Int) + 1) (by omega)).f 3
          have d1 := R1.out.c1
          have d2 := R1.out.c2
          have d3 := R1.out.c3
          have e1 := R1.out.f 1
          by_cases hq : 30 < n + 1
          · have q1 : (30 : Int) < (n : Int) + 1 := by omega
            clear h
            go_enter Try.func24, Try.ntmps24
            go_wp2_with fail
            refine (failQ_first s b i (n + 1) (t + 1) d L 0 7 _ R1.out).mono ?_
            rintro e w2 ⟨rfl, hg2, hr2⟩
            have G2 : Hid (w.grownBy w2 (some b)) := grown_trans G1.out hg2
            have R2 : Hid (QRd w2 b s i (n + 1) (t + 1) d L 7 i) := hr2
            have d1 := R2.out.c1
            have e1 := R2.out.f 1
            clear hg2 hr2
            go_wp2_with fail
            go_end0
            exact ⟨rfl, grown_trans G2.out (grown_set _ _ _), R2.out.set1 (i + 1) (by omega)⟩
          · have q1 : ¬ (30 : Int) < (n : Int) + 1 := by omega
            have q2 : (5 : Int) < (t : Int) + 1 := by omega
            clear h
            go_enter Try.func24, Try.ntmps24
            go_wp2_with fail
            refine (failQ_first s b i (n + 1) (t + 1) d L 0 7 _ R1.out).mono ?_
            rintro e w2 ⟨rfl, hg2, hr2⟩
            have G2 : Hid (w.grownBy w2 (some b)) := grown_trans G1.out hg2
            have R2 : Hid (QRd w2 b s i (n + 1) (t + 1) d L 7 i) := hr2
            have d1 := R2.out.c1
            have e1 := R2.out.f 1
            clear hg2 hr2
            go_wp2_with fail
            go_end0
            exact ⟨rfl, grown_trans G2.out (grown_set _ _ _), R2.out.set1 (i + 1) (by omega)⟩
        · have h3' : ((c0 : Int) == 85) = false := by simp; omega
          by_cases h4 : c0 = 82
          · subst h4
            have hE : tmC 82 t = (t + 1) := rfl
            rw [hE] at hf ⊢
            have R1 : Hid (QRd ((w.setCell ⟨b, 2, none⟩ (.int .i64 ((n : Int) + 1))).setCell ⟨b, 3, none⟩ (.int .i64 ((t : Int) + 1))) b s i (n + 1) (t + 1) d L 0 0) := (h.set2 (n + 1) (by omega)).set3 (t + 1) (by omega)
            have G1 : Hid (w.grownBy ((w.setCell ⟨b, 2, none⟩ (.int .i64 ((n : Int) + 1))).setCell ⟨b, 3, none⟩ (.int .i64 ((t : Int) + 1))) (some b)) := grown_trans (grown_set _ _ _) (grown_set _ _ _)
            have x3 := (h.set2 (n + 1) (x := (n : Int) + 1) (by omega)).c3
            have y3 := (h.set2 (n + 1) (x := (n : Int) + 1) (by omega)).f 3
            have d1 := R1.out.c1
            have d2 := R1.out.c2
            have d3 := R1.out.c3
            have e1 := R1.out.f 1
            by_cases hq : 30 < n + 1
            · have q1 : (30 : Int) < (n : Int) + 1 := by omega
              clear h
              go_enter Try.func24, Try.ntmps24
              go_wp2_with fail
              refine (failQ_first s b i (n + 1) (t + 1) d L 0 7 _ R1.out).mono ?_
              rintro e w2 ⟨rfl, hg2, hr2⟩
              have G2 : Hid (w.grownBy w2 (some b)) := grown_trans G1.out hg2
              have R2 : Hid (QRd w2 b s i (n + 1) (t + 1) d L 7 i) := hr2
              have d1 := R2.out.c1
              have e1 := R2.out.f 1
              clear hg2 hr2
              go_wp2_with fail
              go_end0
              exact ⟨rfl, grown_trans G2.out (grown_set _ _ _), R2.out.set1 (i + 1) (by omega)⟩
            · have q1 : ¬ (30 : Int) < (n : Int) + 1 := by omega
              have q2 : (5 : Int) < (t : Int) + 1 := by omega
              clear h
              go_enter Try.func24, Try.ntmps24
              go_wp2_with fail
              refine (failQ_first s b i (n + 1) (t + 1) d L 0 7 _ R1.out).mono ?_
              rintro e w2 ⟨rfl, hg2, hr2⟩
              have G2 : Hid (w.grownBy w2 (some b)) := grown_trans G1.out hg2
              have R2 : Hid (QRd w2 b s i (n + 1) (t + 1) d L 7 i) := hr2
              have d1 := R2.out.c1
              have e1 := R2.out.f 1
              clear hg2 hr2
              go_wp2_with fail
              go_end0
              exact ⟨rfl, grown_trans G2.out (grown_set _ _ _), R2.out.set1 (i + 1) (by omega)⟩
          · have h4' : ((c0 : Int) == 82) = false := by simp; omega
            have hE : tmC c0 t = t := by simp [tmC, isT, h0, h1, h2, h3, h4]
            rw [hE] at hf ⊢
            have R1 : Hid (QRd (w.setCell ⟨b, 2, none⟩ (.int .i64 ((n : Int) + 1))) b s i (n + 1) t d L 0 0) := h.set2 (n + 1) (by omega)
            have G1 : Hid (w.grownBy (w.setCell ⟨b, 2, none⟩ (.int .i64 ((n : Int) + 1))) (some b)) := grown_set _ _ _
            have d1 := R1.out.c1
            have d2 := R1.out.c2
            have d3 := R1.out.c3
            have e1 := R1.out.f 1
            have q1 : (30 : Int) < (n : Int) + 1 := by omega
            clear h
            go_enter Try.func24, Try.ntmps24
            go_wp2_with fail
            refine (failQ_first s b i (n + 1) t d L 0 7 _ R1.out).mono ?_
            rintro e w2 ⟨rfl, hg2, hr2⟩
            have G2 : Hid (w.grownBy w2 (some b)) := grown_trans G1.out hg2
            have R2 : Hid (QRd w2 b s i (n + 1) t d L 7 i) := hr2
            have d1 := R2.out.c1
            have e1 := R2.out.f 1
            clear hg2 hr2
            go_wp2_with fail
            go_end0
            exact ⟨rfl, grown_trans G2.out (grown_set _ _ _), R2.out.set1 (i + 1) (by omega)⟩

set_option maxHeartbeats 3200000 in
theorem countQ_go (s : ByteArray) (b i n t d : Nat) (L : Value) (c0 : Nat) (w : World) (hi : i ≤ 4000) (hn : n ≤ 30) (ht : t ≤ 5) (hfn : ¬ fullC c0 n t = true) (h : QRd w b s i n t d L 0 0) :
    Calls Try.prog 24 #[.pointer (some ⟨b, 0, none⟩), .int .u8 (c0 : Int)] w fun e w' => e = .returned (.tuple #[]) ∧ w.grownBy w' (some b) ∧ QRd w' b s (i + 1) (n + 1) (tmC c0 t) d L 0 0 := by
  obtain ⟨hf1, hf⟩ := full_not hfn
  clear hfn
  have c1 := h.c1
  have c2 := h.c2
  have c3 := h.c3
  have f1 := h.f 1
  have f2 := h.f 2
  have f3 := h.f 3
  by_cases h0 : c0 = 88
  · subst h0
    have hE : tmC 88 t = (t + 1) := rfl
    rw [hE] at hf ⊢
    have R1 : Hid (QRd ((w.setCell ⟨b, 2, none⟩ (.int .i64 ((n : Int) + 1))).setCell ⟨b, 3, none⟩ (.int .i64 ((t : Int) + 1))) b s i (n + 1) (t + 1) d L 0 0) := (h.set2 (n + 1) (by omega)).set3 (t + 1) (by omega)
    have G1 : Hid (w.grownBy ((w.setCell ⟨b, 2, none⟩ (.int .i64 ((n : Int) + 1))).setCell ⟨b, 3, none⟩ (.int .i64 ((t : Int) + 1))) (some b)) := grown_trans (grown_set _ _ _) (grown_set _ _ _)
    have x3 := (h.set2 (n + 1) (x := (n : Int) + 1) (by omega)).c3
    have y3 := (h.set2 (n + 1) (x := (n : Int) + 1) (by omega)).f 3
    have d1 := R1.out.c1
    have d2 := R1.out.c2
    have d3 := R1.out.c3
    have e1 := R1.out.f 1
    have q1 : ¬ (30 : Int) < (n : Int) + 1 := by omega
    have q2 : ¬ (5 : Int) < (t : Int) + 1 := by omega
    clear h
    go_enter Try.func24, Try.ntmps24
    go_wp2_with fail
    go_end0
    exact ⟨rfl, grown_trans G1.out (grown_set _ _ _), R1.out.set1 (i + 1) (by omega)⟩
  · have h0' : ((c0 : Int) == 88) = false := by simp; omega
    by_cases h1 : c0 = 70
    · subst h1
      have hE : tmC 70 t = (t + 1) := rfl
      rw [hE] at hf ⊢
      have R1 : Hid (QRd ((w.setCell ⟨b, 2, none⟩ (.int .i64 ((n : Int) + 1))).setCell ⟨b, 3, none⟩ (.int .i64 ((t : Int) + 1))) b s i (n + 1) (t + 1) d L 0 0) := (h.set2 (n + 1) (by omega)).set3 (t + 1) (by omega)
      have G1 : Hid (w.grownBy ((w.setCell ⟨b, 2, none⟩ (.int .i64 ((n : Int) + 1))).setCell ⟨b, 3, none⟩ (.int .i64 ((t : Int) + 1))) (some b)) := grown_trans (grown_set _ _ _) (grown_set _ _ _)
      have x3 := (h.set2 (n + 1) (x := (n : Int) + 1) (by omega)).c3
      have y3 := (h.set2 (n + 1) (x := (n : Int) + 1) (by omega)).f 3
      have d1 := R1.out.c1
      have d2 := R1.out.c2
      have d3 := R1.out.c3
      have e1 := R1.out.f 1
      have q1 : ¬ (30 : Int) < (n : Int) + 1 := by omega
      have q2 : ¬ (5 : Int) < (t : Int) + 1 := by omega
      clear h
      go_enter Try.func24, Try.ntmps24
      go_wp2_with fail
      go_end0
      exact ⟨rfl, grown_trans G1.out (grown_set _ _ _), R1.out.set1 (i + 1) (by omega)⟩
    · have h1' : ((c0 : Int) == 70) = false := by simp; omega
      by_cases h2 : c0 = 71
      · subst h2
        have hE : tmC 71 t = (t + 1) := rfl
        rw [hE] at hf ⊢
        have R1 : Hid (QRd ((w.setCell ⟨b, 2, none⟩ (.int .i64 ((n : Int) + 1))).setCell ⟨b, 3, none⟩ (.int .i64 ((t : Int) + 1))) b s i (n + 1) (t + 1) d L 0 0) := (h.set2 (n + 1) (by omega)).set3 (t + 1) (by omega)
        have G1 : Hid (w.grownBy ((w.setCell ⟨b, 2, none⟩ (.int .i64 ((n : Int) + 1))).setCell ⟨b, 3, none⟩ (.int .i64 ((t : Int) + 1))) (some b)) := grown_trans (grown_set _ _ _) (grown_set _ _ _)
        have x3 := (h.set2 (n + 1) (x := (n : Int) + 1) (by omega)).c3
        have y3 := (h.set2 (n + 1) (x := (n : Int) + 1) (by omega)).f 3
        have d1 := R1.out.c1
        have d2 := R1.out.c2
        have d3 := R1.out.c3
        have e1 := R1.out.f 1
        have q1 : ¬ (30 : Int) < (n : Int) + 1 := by omega
        have q2 : ¬ (5 : Int) < (t : Int) + 1 := by omega
        clear h
        go_enter Try.func24, Try.ntmps24
        go_wp2_with fail
        go_end0
        exact ⟨rfl, grown_trans G1.out (grown_set _ _ _), R1.out.set1 (i + 1) (by omega)⟩
      · have h2' : ((c0 : Int) == 71) = false := by simp; omega
        by_cases h3 : c0 = 85
        · subst h3
          have hE : tmC 85 t = (t + 1) := rfl
          rw [hE] at hf ⊢
          have R1 : Hid (QRd ((w.setCell ⟨b, 2, none⟩ (.int .i64 ((n : Int) + 1))).setCell ⟨b, 3, none⟩ (.int .i64 ((t : Int) + 1))) b s i (n + 1) (t + 1) d L 0 0) := (h.set2 (n + 1) (by omega)).set3 (t + 1) (by omega)
          have G1 : Hid (w.grownBy ((w.setCell ⟨b, 2, none⟩ (.int .i64 ((n : Int) + 1))).setCell ⟨b, 3, none⟩ (.int .i64 ((t : Int) + 1))) (some b)) := grown_trans (grown_set _ _ _) (grown_set _ _ _)
          have x3 := (h.set2 (n + 1) (x := (n : Int) + 1) (by omega)).c3
          have y3 := (h.set2 (n + 1) (x := (n : Int) + 1) (by omega)).f 3
          have d1 := R1.out.c1
          have d2 := R1.out.c2
          have d3 := R1.out.c3
          have e1 := R1.out.f 1
          have q1 : ¬ (30 : Int) < (n : Int) + 1 := by omega
          have q2 : ¬ (5 : Int) < (t : Int) + 1 := by omega
          clear h
          go_enter Try.func24, Try.ntmps24
          go_wp2_with fail
          go_end0
          exact ⟨rfl, grown_trans G1.out (grown_set _ _ _), R1.out.set1 (i + 1) (by omega)⟩
        · have h3' : ((c0 : Int) == 85) = false := by simp; omega
          by_cases h4 : c0 = 82
          · subst h4
            have hE : tmC 82 t = (t + 1) := rfl
            rw [hE] at hf ⊢
            have R1 : Hid (QRd ((w.setCell ⟨b, 2, none⟩ (.int .i64 ((n : Int) + 1))).setCell ⟨b, 3, none⟩ (.int .i64 ((t : Int) + 1))) b s i (n + 1) (t + 1) d L 0 0) := (h.set2 (n + 1) (by omega)).set3 (t + 1) (by omega)
            have G1 : Hid (w.grownBy ((w.setCell ⟨b, 2, none⟩ (.int .i64 ((n : Int) + 1))).setCell ⟨b, 3, none⟩ (.int .i64 ((t : Int) + 1))) (some b)) := grown_trans (grown_set _ _ _) (grown_set _ _ _)
            have x3 := (h.set2 (n + 1) (x := (n : Int) + 1) (by omega)).c3
            have y3 := (h.set2 (n + 1) (x := (n : Int) + 1) (by omega)).f 3
            have d1 := R1.out.c1
            have d2 := R1.out.c2
            have d3 := R1.out.c3
            have e1 := R1.out.f 1
            have q1 : ¬ (30 : Int) < (n : Int) + 1 := by omega
            have q2 : ¬ (5 : Int) < (t : Int) + 1 := by omega
            clear h
            go_enter Try.func24, Try.ntmps24
            go_wp2_with fail
            go_end0
            exact ⟨rfl, grown_trans G1.out (grown_set _ _ _), R1.out.set1 (i + 1) (by omega)⟩
          · have h4' : ((c0 : Int) == 82) = false := by simp; omega
            have hE : tmC c0 t = t := by simp [tmC, isT, h0, h1, h2, h3, h4]
            rw [hE] at hf ⊢
            have R1 : Hid (QRd (w.setCell ⟨b, 2, none⟩ (.int .i64 ((n : Int) + 1))) b s i (n + 1) t d L 0 0) := h.set2 (n + 1) (by omega)
            have G1 : Hid (w.grownBy (w.setCell ⟨b, 2, none⟩ (.int .i64 ((n : Int) + 1))) (some b)) := grown_set _ _ _
            have d1 := R1.out.c1
            have d2 := R1.out.c2
            have d3 := R1.out.c3
            have e1 := R1.out.f 1
            have q1 : ¬ (30 : Int) < (n : Int) + 1 := by omega
            clear h
            go_enter Try.func24, Try.ntmps24
            go_wp2_with fail
            go_end0
            exact ⟨rfl, grown_trans G1.out (grown_set _ _ _), R1.out.set1 (i + 1) (by omega)⟩

end Go.Proofs.Ytnhjkgfgbebfkaa
