/- The program's reader of formulas over words: its block, the variables around, trees of nodes, and its small functions. -/
import Derived.Test.YtaommgnlnfhbfaaKSpec
import Derived.BigRegion
namespace Go.Proofs.Ytaommgnlnfhbfaa
open Go.RowKit
set_option linter.unusedVariables false

/-- The reader lies in block b. -/
def LRd (w : World) (b : Nat) (s : ByteArray) (i n d : Nat) (c : Int) (a : Nat) : Prop := w.heap[b]? = some (.cells #[.string s, .int .i64 i, .int .i64 n, .int .i64 d, .int .i64 c, .int .i64 a] 49 (0, 0))
section
variable {w w' : World} {b : Nat} {s : ByteArray} {i n d : Nat} {c : Int} {a : Nat}
theorem LRd.lt (h : LRd w b s i n d c a) : b < w.heap.size := (Array.getElem?_eq_some_iff.1 h).1
theorem LRd.c0 (h : LRd w b s i n d c a) : w.cell? ⟨b, 0, none⟩ = some (.string s) := by rw [cell_of_row w b 0 _ _ (0, 0) h]; rfl
theorem LRd.c1 (h : LRd w b s i n d c a) : w.cell? ⟨b, 1, none⟩ = some (.int .i64 i) := by rw [cell_of_row w b 1 _ _ (0, 0) h]; rfl
theorem LRd.c2 (h : LRd w b s i n d c a) : w.cell? ⟨b, 2, none⟩ = some (.int .i64 n) := by rw [cell_of_row w b 2 _ _ (0, 0) h]; rfl
theorem LRd.c3 (h : LRd w b s i n d c a) : w.cell? ⟨b, 3, none⟩ = some (.int .i64 d) := by rw [cell_of_row w b 3 _ _ (0, 0) h]; rfl
theorem LRd.c4 (h : LRd w b s i n d c a) : w.cell? ⟨b, 4, none⟩ = some (.int .i64 c) := by rw [cell_of_row w b 4 _ _ (0, 0) h]; rfl
theorem LRd.c5 (h : LRd w b s i n d c a) : w.cell? ⟨b, 5, none⟩ = some (.int .i64 a) := by rw [cell_of_row w b 5 _ _ (0, 0) h]; rfl
theorem LRd.f (h : LRd w b s i n d c a) (k : Nat) : w.frozen? ⟨b, k, none⟩ = false := frozen_of_row w b k _ _ h
theorem LRd.set1 (h : LRd w b s i n d c a) (j : Nat) {x : Int} (hx : x = j) : LRd (w.setCell ⟨b, 1, none⟩ (.int .i64 x)) b s j n d c a := by
  subst hx; unfold LRd at h ⊢; rw [heap_setCell_same w b 1 _ _ _ h]; rfl
theorem LRd.set2 (h : LRd w b s i n d c a) (j : Nat) {x : Int} (hx : x = j) : LRd (w.setCell ⟨b, 2, none⟩ (.int .i64 x)) b s i j d c a := by
  subst hx; unfold LRd at h ⊢; rw [heap_setCell_same w b 2 _ _ _ h]; rfl
theorem LRd.set3 (h : LRd w b s i n d c a) (j : Nat) {x : Int} (hx : x = j) : LRd (w.setCell ⟨b, 3, none⟩ (.int .i64 x)) b s i n j c a := by
  subst hx; unfold LRd at h ⊢; rw [heap_setCell_same w b 3 _ _ _ h]; rfl
theorem LRd.set45 (h : LRd w b s i n d c a) (c' : Int) (a' : Nat) : LRd ((w.setCell ⟨b, 4, none⟩ (.int .i64 c')).setCell ⟨b, 5, none⟩ (.int .i64 a')) b s i n d c' a' := by
  unfold LRd at h ⊢; rw [heap_setCell_same _ b 5 _ _ _ (heap_setCell_same w b 4 _ _ _ h)]; rfl
theorem LRd.kept (h : LRd w b s i n d c a) (hg : w.grownBy w' none) : LRd w' b s i n d c a := (hg.block b h.lt (by simp)).trans h
theorem LRd.keptR {g : Nat} (h : LRd w b s i n d c a) (hg : w.grownBy w' (some g)) (hne : b ≠ g) : LRd w' b s i n d c a := (hg.block b h.lt (by simpa using hne)).trans h
end
def placeL (w : World) (b : Nat) : Nat := match w.cell? ⟨b, 1, none⟩ with | some v => (intOf v).toNat | none => 0
theorem LRd.place {w : World} {b : Nat} {s : ByteArray} {i n d : Nat} {c : Int} {a : Nat} (h : LRd w b s i n d c a) : placeL w b = i := by simp [placeL, h.c1, intOf]

/-- The variables around lie at a, in another block than the reader's. -/
def ScAt (w : World) (b : Nat) (a : Option Addr) (cap : Nat) (sc : List Nat) : Prop :=
  (sc = [] ∧ a = none ∧ cap = 0) ∨ (0 < sc.length ∧ sc.length ≤ cap ∧ ∃ g, a = some ⟨g, 0, none⟩ ∧ g ≠ b ∧ ∀ k, k < sc.length → w.cell? ⟨g, k, none⟩ = some (.int .u8 ((sc.getD k 0 : Nat) : Int)))
theorem ScAt.kept {w w' : World} {b : Nat} {a : Option Addr} {cap : Nat} {sc : List Nat} (h : ScAt w b a cap sc) (hg : w.grownBy w' (some b)) : ScAt w' b a cap sc := by
  rcases h with h | ⟨h1, h2, g, h3, h4, h5⟩
  · exact .inl h
  · exact .inr ⟨h1, h2, g, h3, h4, fun k hk => hg.cell (h5 k hk) (by simpa using h4)⟩

/-- A formula as the program keeps it. -/
inductive TrL where
  | nil
  | node (k : Nat) (l r : TrL) (se : Bool) (x y : Int)
def trL : Lf → TrL
  | .letter c x => .node (4 + c) .nil .nil false x 0
  | .lt x y => .node 6 .nil .nil false x y
  | .eq x y => .node 7 .nil .nil false x y
  | .nx x y => .node 8 .nil .nil false x y
  | .inn x y => .node 9 .nil .nil false x y
  | .not a => .node 2 (trL a) .nil false 0 0
  | .and a b => .node 1 (trL a) (trL b) false 0 0
  | .or a b => .node 0 (trL a) (trL b) false 0 0
  | .some se a => .node 3 (trL a) .nil se 0 0
  | .every se a => .node 2 (.node 3 (.node 2 (trL a) .nil false 0 0) .nil se 0 0) .nil false 0 0
inductive TreeL (ok : Nat → Prop) (w : World) : Value → TrL → Prop
  | nil : TreeL ok w (.pointer none) .nil
  | node (g k : Nat) (l r : TrL) (se : Bool) (x y : Int) (lv rv : Value) (hok : ok g) (hb : w.heap[g]? = some (.cells #[.int .i64 k, lv, rv, .bool se, .int .i64 x, .int .i64 y] 58 (0, 0))) (hl : TreeL ok w lv l) (hr : TreeL ok w rv r) : TreeL ok w (.pointer (some ⟨g, 0, none⟩)) (.node k l r se x y)
theorem TreeL.kept {ok ok' : Nat → Prop} {w w' : World} {v : Value} {t : TrL} (h : TreeL ok w v t) (hk : ∀ g, ok g → g < w.heap.size → ok' g ∧ w'.heap[g]? = w.heap[g]?) : TreeL ok' w' v t := by
  induction h with
  | nil => exact .nil
  | node g k l r se x y lv rv hok hb hl hr il ir =>
    obtain ⟨h1, h2⟩ := hk g hok (Array.getElem?_eq_some_iff.1 hb).1
    exact .node g k l r se x y lv rv h1 (h2.trans hb) il ir
theorem TreeL.form {ok : Nat → Prop} {w : World} {v : Value} {t : TrL} (h : TreeL ok w v t) : ∃ a, v = .pointer a := by cases h <;> exact ⟨_, rfl⟩
theorem TreeL.grown {B : Nat} {w w' : World} {v : Value} {t : TrL} (h : TreeL (fun g => B ≤ g) w v t) (hg : w.grownBy w' none) : TreeL (fun g => B ≤ g) w' v t := h.kept fun g hok hlt => ⟨hok, hg.block g hlt (by simp)⟩
theorem TreeL.past {B b : Nat} {w w' : World} {v : Value} {t : TrL} (h : TreeL (fun g => B ≤ g) w v t) (hg : w.grownBy w' (some b)) (hb : b < B) : TreeL (fun g => B ≤ g) w' v t := h.kept fun g hok hlt => ⟨hok, hg.block g hlt (by simp; omega)⟩
theorem TreeL.from {B B' : Nat} {w : World} {v : Value} {t : TrL} (h : TreeL (fun g => B ≤ g) w v t) (hB : B' ≤ B) : TreeL (fun g => B' ≤ g) w v t := h.kept fun g hok hlt => ⟨Nat.le_trans hB hok, rfl⟩
theorem treeL_new {B : Nat} {w : World} {lv rv : Value} {l r : TrL} (k : Nat) (se : Bool) (x y : Int) (hl : TreeL (fun g => B ≤ g) w lv l) (hr : TreeL (fun g => B ≤ g) w rv r) (hB : B ≤ w.heap.size) : TreeL (fun g => B ≤ g) (w.alloc (.cells #[.int .i64 (k : Int), lv, rv, .bool se, .int .i64 x, .int .i64 y] 58)) (.pointer (some ⟨w.heap.size, 0, none⟩)) (.node k l r se x y) :=
  .node _ k l r se x y lv rv hB (heap_alloc_new w _) (hl.grown (grown_alloc _ _)) (hr.grown (grown_alloc _ _))

/-- What a call of the program's reader leaves behind. -/
def KGives (s : ByteArray) (b d : Nat) (w : World) (R : LRes) (e : Ending) (w' : World) : Prop :=
  w.grownBy w' (some b) ∧ match R with
  | .good f i n => ∃ v, e = .returned v ∧ LRd w' b s i n d 0 0 ∧ TreeL (fun k => w.heap.size ≤ k) w' v (trL f)
  | .bad c j => ∃ (v : Value) (k : Nat) (l r : TrL) (se : Bool) (x y : Int) (n' : Nat), e = .returned v ∧ n' ≤ 32 ∧ LRd w' b s s.size n' d c j ∧ TreeL (fun k => w.heap.size ≤ k) w' v (.node k l r se x y)
def KDoes (f : Nat) (s : ByteArray) (S : PL) (m : Nat) : Prop :=
  ∀ (i n d b : Nat) (sc : List Nat) (w : World) (a : Option Addr) (cap : Nat), i ≤ s.size → s.size - i < m → n ≤ 30 → d ≤ 40 → sc.length ≤ 3 → LRd w b s i n d 0 0 → ScAt w b a cap sc → Calls Try.prog f #[.pointer (some ⟨b, 0, none⟩), .slice a sc.length cap] w (KGives s b d w (S i n d sc))
/-- Behind a fault nothing more is told. -/
def KStop (f : Nat) (s : ByteArray) : Prop :=
  ∀ (n d b : Nat) (c : Int) (j : Nat) (sc : List Nat) (w : World) (a : Option Addr) (cap : Nat), c ≠ 0 → n ≤ 100 → d ≤ 100 → sc.length ≤ 4 → LRd w b s s.size n d c j → ScAt w b a cap sc → Calls Try.prog f #[.pointer (some ⟨b, 0, none⟩), .slice a sc.length cap] w fun e w' => w.grownBy w' (some b) ∧ LRd w' b s s.size n d c j ∧ ∃ (v : Value) (k : Nat) (l r : TrL) (se : Bool) (x y : Int), e = .returned v ∧ TreeL (fun k => w.heap.size ≤ k) w' v (.node k l r se x y)

theorem peekK_any (s : ByteArray) (b i n d : Nat) (c : Int) (a : Nat) (w : World) (hs : s.size ≤ 4000) (hi : i ≤ s.size) (h : LRd w b s i n d c a) :
    Calls Try.prog 24 #[.pointer (some ⟨b, 0, none⟩)] w fun e w' => e = .returned (.int .u8 (byT s i)) ∧ w.grownBy w' none := by
  have c0 := h.c0
  have c1 := h.c1
  have f0 := h.f 0
  have f1 := h.f 1
  clear h
  by_cases h1 : i = s.size
  · have h1' : ((i : Int) == (s.size : Int)) = true := by simp; omega
    go_enter Try.func24, Try.ntmps24
    go_wp2
    go_quiet (fail)
    go_wp2
    go_ret
    exact ⟨by simp [byT, h1], grown_drewN (grown_refl _ _) _⟩
  · have h2 : i < s.size := by omega
    have h1' : ((i : Int) == (s.size : Int)) = false := by simp; omega
    have h3 : (i : Int) < (s.size : Int) := by omega
    have h4 : (0 : Int) ≤ (i : Int) := by omega
    go_enter Try.func24, Try.ntmps24
    go_wp2
    go_quiet (fail)
    go_wp2
    go_quiet (fail)
    go_wp2
    go_ret
    exact ⟨by simp [byT, h2], grown_drewN (grown_drewN (grown_refl _ _) _) _⟩

theorem failK_first (s : ByteArray) (b i n d : Nat) (a : Nat) (c : Int) (w : World) (hs : s.size ≤ 4000) (h : LRd w b s i n d 0 a) :
    Calls Try.prog 16 #[.pointer (some ⟨b, 0, none⟩), .int .i64 c] w fun e w' => e = .returned (.tuple #[]) ∧ w.grownBy w' (some b) ∧ LRd w' b s s.size n d c i := by
  have c1 := h.c1
  have c4 := h.c4
  have c5 := h.c5
  have f1 := h.f 1
  have f4 := h.f 4
  have f5 := h.f 5
  have h2 := h.set45 c i
  have d0 := h2.c0
  have d1 := h2.c1
  have e1 := h2.f 1
  have H : Hid (LRd ((w.setCell ⟨b, 4, none⟩ (.int .i64 c)).setCell ⟨b, 5, none⟩ (.int .i64 i)) b s i n d c i) := h2
  clear h h2
  go_enter Try.func16, Try.ntmps16
  go_wp2
  go_end0
  exact ⟨rfl, grown_trans (grown_set _ _ _) (grown_trans (grown_set _ _ _) (grown_set _ _ _)), H.out.set1 s.size rfl⟩

theorem failK_again (s : ByteArray) (b i n d : Nat) (c0 : Int) (a : Nat) (c : Int) (w : World) (hs : s.size ≤ 4000) (hc : c0 ≠ 0) (h : LRd w b s i n d c0 a) :
    Calls Try.prog 16 #[.pointer (some ⟨b, 0, none⟩), .int .i64 c] w fun e w' => e = .returned (.tuple #[]) ∧ w.grownBy w' (some b) ∧ LRd w' b s s.size n d c0 a := by
  have c0' := h.c0
  have c1 := h.c1
  have f1 := h.f 1
  have c4 := h.c4
  have f4 := h.f 4
  have hc' : (c0 == 0) = false := by simpa using hc
  have H : Hid (LRd w b s i n d c0 a) := h
  clear h
  go_enter Try.func16, Try.ntmps16
  go_wp2
  go_end0
  exact ⟨rfl, grown_set _ _ _, H.out.set1 s.size rfl⟩

theorem skipK_any (s : ByteArray) (b i n d : Nat) (c : Int) (a : Nat) (w : World) (hs : s.size ≤ 4000) (hi : i ≤ s.size) (h : LRd w b s i n d c a) :
    Calls Try.prog 28 #[.pointer (some ⟨b, 0, none⟩)] w fun e w' => e = .returned (.tuple #[]) ∧ w.grownBy w' (some b) ∧ LRd w' b s (min (i + 1) s.size) n d c a := by
  have c0 := h.c0
  have c1 := h.c1
  have f1 := h.f 1
  have H : Hid (LRd w b s i n d c a) := h
  clear h
  by_cases h1 : i < s.size
  · have h2 : (i : Int) + 1 ≤ (s.size : Int) := by omega
    have hm : min (i + 1) s.size = i + 1 := by omega
    rw [hm]
    go_enter Try.func28, Try.ntmps28
    go_wp2
    go_region
    go_wp2_with fail
    go_end0
    exact ⟨rfl, grown_drew (grown_set _ _ _), (H.out.set1 (i + 1) (by omega)).kept (grown_drew (grown_refl _ _))⟩
  · have h2 : ¬ (i : Int) + 1 ≤ (s.size : Int) := by omega
    have h3 : (s.size : Int) < (i : Int) + 1 := by omega
    have hm : min (i + 1) s.size = s.size := by omega
    rw [hm]
    go_enter Try.func28, Try.ntmps28
    go_wp2
    go_region
    go_wp2_with fail
    go_end0
    exact ⟨rfl, grown_drew (grown_set _ _ _), (H.out.set1 s.size rfl).kept (grown_drew (grown_refl _ _))⟩

theorem countK_go (s : ByteArray) (b i n d : Nat) (w : World) (hs : s.size ≤ 4000) (hi : i < s.size) (hf : ¬ 30 < n + 1) (h : LRd w b s i n d 0 0) :
    Calls Try.prog 25 #[.pointer (some ⟨b, 0, none⟩)] w fun e w' => e = .returned (.tuple #[]) ∧ w.grownBy w' (some b) ∧ LRd w' b s (i + 1) (n + 1) d 0 0 := by
  have q1 : ¬ (30 : Int) < (n : Int) + 1 := by omega
  have c2 := h.c2
  have f2 := h.f 2
  have R1 : Hid (LRd (w.setCell ⟨b, 2, none⟩ (.int .i64 ((n : Int) + 1))) b s i (n + 1) d 0 0) := h.set2 (n + 1) (by omega)
  have d2 := R1.out.c2
  clear h
  go_enter Try.func25, Try.ntmps25
  go_wp2_with fail
  refine (skipK_any s b i (n + 1) d 0 0 _ hs (by omega) R1.out).mono ?_
  rintro e w2 ⟨rfl, hg2, hr2⟩
  rw [show min (i + 1) s.size = i + 1 by omega] at hr2
  have E : Hid (w.grownBy w2 (some b) ∧ LRd w2 b s (i + 1) (n + 1) d 0 0) := ⟨grown_trans (grown_set _ _ _) hg2, hr2⟩
  clear hg2 hr2
  go_wp2_with fail
  go_end0
  exact ⟨rfl, E.out⟩

theorem countK_full (s : ByteArray) (b i n d : Nat) (w : World) (hs : s.size ≤ 4000) (hi : i ≤ s.size) (hn : n ≤ 30) (hf : 30 < n + 1) (h : LRd w b s i n d 0 0) :
    Calls Try.prog 25 #[.pointer (some ⟨b, 0, none⟩)] w fun e w' => e = .returned (.tuple #[]) ∧ w.grownBy w' (some b) ∧ LRd w' b s s.size (n + 1) d 7 i := by
  have q1 : (30 : Int) < (n : Int) + 1 := by omega
  have c2 := h.c2
  have f2 := h.f 2
  have R1 : Hid (LRd (w.setCell ⟨b, 2, none⟩ (.int .i64 ((n : Int) + 1))) b s i (n + 1) d 0 0) := h.set2 (n + 1) (by omega)
  have d2 := R1.out.c2
  clear h
  go_enter Try.func25, Try.ntmps25
  go_wp2_with fail
  refine (failK_first s b i (n + 1) d 0 7 _ hs R1.out).mono ?_
  rintro e w2 ⟨rfl, hg2, hr2⟩
  have R2 : Hid (LRd w2 b s s.size (n + 1) d 7 i) := hr2
  have G2 : Hid (w.grownBy w2 (some b)) := grown_trans (grown_set _ _ _) hg2
  clear hg2 hr2
  go_wp2_with fail
  refine (skipK_any s b s.size (n + 1) d 7 i _ hs (Nat.le_refl _) R2.out).mono ?_
  rintro e w3 ⟨rfl, hg3, hr3⟩
  rw [show min (s.size + 1) s.size = s.size by omega] at hr3
  have E : Hid (w.grownBy w3 (some b) ∧ LRd w3 b s s.size (n + 1) d 7 i) := ⟨grown_trans G2.out hg3, hr3⟩
  clear hg3 hr3
  go_wp2_with fail
  go_end0
  exact ⟨rfl, E.out⟩

theorem countK_stop (s : ByteArray) (b n d : Nat) (c : Int) (a : Nat) (w : World) (hs : s.size ≤ 4000) (hc : c ≠ 0) (hn : n ≤ 100) (h : LRd w b s s.size n d c a) :
    Calls Try.prog 25 #[.pointer (some ⟨b, 0, none⟩)] w fun e w' => e = .returned (.tuple #[]) ∧ w.grownBy w' (some b) ∧ LRd w' b s s.size (n + 1) d c a := by
  have c2 := h.c2
  have f2 := h.f 2
  have R1 : Hid (LRd (w.setCell ⟨b, 2, none⟩ (.int .i64 ((n : Int) + 1))) b s s.size (n + 1) d c a) := h.set2 (n + 1) (by omega)
  have d2 := R1.out.c2
  clear h
  have HC : Hid (c ≠ 0) := hc
  have HK : Hid (∀ W, w.grownBy W (some b) → LRd W b s s.size (n + 1) d c a → Calls Try.prog 28 #[.pointer (some ⟨b, 0, none⟩)] W fun e w' => e = .returned (.tuple #[]) ∧ w.grownBy w' (some b) ∧ LRd w' b s s.size (n + 1) d c a) := fun W hg hr => by
    have h1 := skipK_any s b s.size (n + 1) d c a W hs (Nat.le_refl _) hr
    rw [show min (s.size + 1) s.size = s.size by omega] at h1
    exact h1.mono fun e w' ⟨x1, x2, x3⟩ => ⟨x1, grown_trans hg x2, x3⟩
  by_cases hf : 30 < n + 1
  · have q1 : (30 : Int) < (n : Int) + 1 := by omega
    go_enter Try.func25, Try.ntmps25
    go_wp2_with fail
    refine (failK_again s b s.size (n + 1) d c a 7 _ hs HC.out R1.out).mono ?_
    rintro e w2 ⟨rfl, hg2, hr2⟩
    have R2 : Hid (LRd w2 b s s.size (n + 1) d c a) := hr2
    have G2 : Hid (w.grownBy w2 (some b)) := grown_trans (grown_set _ _ _) hg2
    clear hg2 hr2
    go_wp2_with fail
    refine (HK.out _ G2.out R2.out).mono ?_
    rintro e w3 ⟨rfl, hg3, hr3⟩
    have E : Hid (w.grownBy w3 (some b) ∧ LRd w3 b s s.size (n + 1) d c a) := ⟨hg3, hr3⟩
    clear hg3 hr3
    go_wp2_with fail
    go_end0
    exact ⟨rfl, E.out⟩
  · have q1 : ¬ (30 : Int) < (n : Int) + 1 := by omega
    go_enter Try.func25, Try.ntmps25
    go_wp2_with fail
    refine (HK.out _ (grown_set _ _ _) R1.out).mono ?_
    rintro e w3 ⟨rfl, hg3, hr3⟩
    have E : Hid (w.grownBy w3 (some b) ∧ LRd w3 b s s.size (n + 1) d c a) := ⟨hg3, hr3⟩
    clear hg3 hr3
    go_wp2_with fail
    go_end0
    exact ⟨rfl, E.out⟩

theorem isPl_any (c : Nat) (w : World) : Calls Try.prog 37 #[.int .u8 c] w fun e w' => e = .returned (.bool (isPl c)) ∧ w' = w := by
  by_cases h1 : 120 ≤ c
  · have h1' : (120 : Int) ≤ (c : Int) := by omega
    by_cases h2 : c ≤ 122
    · have h2' : (c : Int) ≤ 122 := by omega
      go_enter Try.func37, Try.ntmps37
      go_wp2
      go_ret
      exact ⟨ret_bool (by simp [isPl, h1, h2]; try omega), rfl⟩
    · have h2' : ¬ (c : Int) ≤ 122 := by omega
      have h3' : decide ((c : Int) ≤ 122) = false := by simp; omega
      go_enter Try.func37, Try.ntmps37
      go_wp2
      go_ret
      exact ⟨ret_bool (by simp [isPl, h1, h2]; try omega), rfl⟩
  · have h1' : ¬ (120 : Int) ≤ (c : Int) := by omega
    have h3' : decide ((120 : Int) ≤ (c : Int)) = false := by simp; omega
    go_enter Try.func37, Try.ntmps37
    go_wp2
    go_ret
    exact ⟨ret_bool (by simp [isPl, h1]; try omega), rfl⟩

theorem isSe_any (c : Nat) (w : World) : Calls Try.prog 38 #[.int .u8 c] w fun e w' => e = .returned (.bool (isSe c)) ∧ w' = w := by
  by_cases h1 : 88 ≤ c
  · have h1' : (88 : Int) ≤ (c : Int) := by omega
    by_cases h2 : c ≤ 90
    · have h2' : (c : Int) ≤ 90 := by omega
      go_enter Try.func38, Try.ntmps38
      go_wp2
      go_ret
      exact ⟨ret_bool (by simp [isSe, h1, h2]; try omega), rfl⟩
    · have h2' : ¬ (c : Int) ≤ 90 := by omega
      have h3' : decide ((c : Int) ≤ 90) = false := by simp; omega
      go_enter Try.func38, Try.ntmps38
      go_wp2
      go_ret
      exact ⟨ret_bool (by simp [isSe, h1, h2]; try omega), rfl⟩
  · have h1' : ¬ (88 : Int) ≤ (c : Int) := by omega
    have h3' : decide ((88 : Int) ≤ (c : Int)) = false := by simp; omega
    go_enter Try.func38, Try.ntmps38
    go_wp2
    go_ret
    exact ⟨ret_bool (by simp [isSe, h1]; try omega), rfl⟩

/-- The number of a variable around; -1 if there is none. -/
def idxI (o : Option Nat) : Int := match o with | none => -1 | some k => k
theorem lastI_any (b : Nat) (sc : List Nat) (a : Option Addr) (cap c : Nat) (w : World) (hl : sc.length ≤ 4) (h : ScAt w b a cap sc) :
    Calls Try.prog 43 #[.slice a sc.length cap, .int .u8 c] w fun e w' => e = .returned (.int .i64 (idxI (idxF sc c))) ∧ w' = w := by
  have H : Hid (ScAt w b a cap sc) := h
  clear h
  go_enter Try.func43, Try.ntmps43
  go_wp2_with fail
  go_loop [5] (fun v => ∃ k : Nat, k ≤ sc.length ∧ v = .int .i64 ((k : Int) - 1) ∧ idxF sc c = idxB sc c k) (fun v => (intOf v + 1).toNat)
  case atStart => exact ⟨sc.length, Nat.le_refl _, by go_num, rfl⟩
  case round =>
    obtain ⟨k, hk, rfl, hi⟩ := hrel
    have HI : Hid (idxF sc c = idxB sc c k) := hi
    clear hi
    cases k with
    | zero =>
      have e0 : ¬ (0 : Int) ≤ ((0 : Nat) : Int) - 1 := by omega
      go_wp2
      go_ret
      exact ⟨ret_int (by rw [HI.out]; rfl), rfl⟩
    | succ k =>
      have e0 : (0 : Int) ≤ ((k + 1 : Nat) : Int) - 1 := by omega
      rcases H.out with ⟨rfl, _⟩ | ⟨_, hcap, g, rfl, _, hc⟩
      · simp at hk
      · have x0 := hc k hk
        have e1 : ((k + 1 : Nat) : Int) - 1 = (k : Int) := by omega
        rw [e1]
        have e2 : (k : Int) < (sc.length : Int) := by omega
        clear hc
        obtain ⟨x, hx⟩ : ∃ x, sc.getD k 0 = x := ⟨_, rfl⟩
        rw [hx] at x0
        by_cases hxc : x = c
        · have f1 : ((x : Int) == (c : Int)) = true := by simp; omega
          go_wp2
          go_ret
          exact ⟨ret_int (by rw [HI.out, idxB, hx, if_pos hxc]; rfl), rfl⟩
        · have f1 : ((x : Int) == (c : Int)) = false := by simp; omega
          go_wp2
          go_round
          case rel => exact ⟨k, by omega, by go_num, by rw [HI.out, idxB, hx, if_neg hxc]⟩
          case measure => (simp [intOf]; try omega)
theorem lastB_any (b : Nat) (sc : List Nat) (a : Option Addr) (cap c : Nat) (w : World) (hl : sc.length ≤ 4) (h : ScAt w b a cap sc) :
    Calls Try.prog 42 #[.slice a sc.length cap, .int .u8 c] w fun e w' => e = .returned (.int .i64 (idxI (idxF sc c))) ∧ w' = w := by
  have H : Hid (Calls Try.prog 43 #[.slice a sc.length cap, .int .u8 c] w fun e w' => e = .returned (.int .i64 (idxI (idxF sc c))) ∧ w' = w) := lastI_any b sc a cap c w hl h
  clear h
  generalize idxI (idxF sc c) = z at *
  generalize sc.length = m at *
  go_enter Try.func42, Try.ntmps42
  go_wp2_with fail
  refine H.out.mono ?_
  rintro e w2 ⟨rfl, rfl⟩
  go_wp2_with fail
  go_ret
  exact ⟨rfl, rfl⟩

end Go.Proofs.Ytaommgnlnfhbfaa
