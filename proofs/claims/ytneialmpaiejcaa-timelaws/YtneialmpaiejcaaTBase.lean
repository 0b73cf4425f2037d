/- The program's reader of formulas: its block, trees of nodes, and its small functions. -/
import Derived.Test.YtneialmpaiejcaaTSpec
namespace Go.Proofs.Ytneialmpaiejcaa
open Go.RowKit
set_option linter.unusedVariables false

/-- The reader lies in block b. -/
def TRd (w : World) (b : Nat) (s : ByteArray) (i d n t : Nat) : Prop := w.heap[b]? = some (.cells #[.string s, .int .i64 i, .int .i64 d, .int .i64 n, .int .i64 t] 44 (0, 0))
section
variable {w w' : World} {b : Nat} {s : ByteArray} {i d n t : Nat}
theorem TRd.lt (h : TRd w b s i d n t) : b < w.heap.size := (Array.getElem?_eq_some_iff.1 h).1
theorem TRd.c0 (h : TRd w b s i d n t) : w.cell? ⟨b, 0, none⟩ = some (.string s) := by rw [cell_of_row w b 0 _ _ (0, 0) h]; rfl
theorem TRd.c1 (h : TRd w b s i d n t) : w.cell? ⟨b, 1, none⟩ = some (.int .i64 i) := by rw [cell_of_row w b 1 _ _ (0, 0) h]; rfl
theorem TRd.c2 (h : TRd w b s i d n t) : w.cell? ⟨b, 2, none⟩ = some (.int .i64 d) := by rw [cell_of_row w b 2 _ _ (0, 0) h]; rfl
theorem TRd.c3 (h : TRd w b s i d n t) : w.cell? ⟨b, 3, none⟩ = some (.int .i64 n) := by rw [cell_of_row w b 3 _ _ (0, 0) h]; rfl
theorem TRd.c4 (h : TRd w b s i d n t) : w.cell? ⟨b, 4, none⟩ = some (.int .i64 t) := by rw [cell_of_row w b 4 _ _ (0, 0) h]; rfl
theorem TRd.f (h : TRd w b s i d n t) (k : Nat) : w.frozen? ⟨b, k, none⟩ = false := frozen_of_row w b k _ _ h
theorem TRd.set1 (h : TRd w b s i d n t) (j : Nat) {x : Int} (hx : x = j) : TRd (w.setCell ⟨b, 1, none⟩ (.int .i64 x)) b s j d n t := by
  subst hx; unfold TRd at h ⊢; rw [heap_setCell_same w b 1 _ _ _ h]; rfl
theorem TRd.set2 (h : TRd w b s i d n t) (j : Nat) {x : Int} (hx : x = j) : TRd (w.setCell ⟨b, 2, none⟩ (.int .i64 x)) b s i j n t := by
  subst hx; unfold TRd at h ⊢; rw [heap_setCell_same w b 2 _ _ _ h]; rfl
theorem TRd.set3 (h : TRd w b s i d n t) (j : Nat) {x : Int} (hx : x = j) : TRd (w.setCell ⟨b, 3, none⟩ (.int .i64 x)) b s i d j t := by
  subst hx; unfold TRd at h ⊢; rw [heap_setCell_same w b 3 _ _ _ h]; rfl
theorem TRd.set4 (h : TRd w b s i d n t) (j : Nat) {x : Int} (hx : x = j) : TRd (w.setCell ⟨b, 4, none⟩ (.int .i64 x)) b s i d n j := by
  subst hx; unfold TRd at h ⊢; rw [heap_setCell_same w b 4 _ _ _ h]; rfl
theorem TRd.kept (h : TRd w b s i d n t) (hg : w.grownBy w' none) : TRd w' b s i d n t := (hg.block b h.lt (by simp)).trans h
end
/-- The place at which a reader is. -/
def placeT (w : World) (b : Nat) : Nat := match w.cell? ⟨b, 1, none⟩ with | some v => (intOf v).toNat | none => 0
theorem TRd.place {w : World} {b : Nat} {s : ByteArray} {i d n t : Nat} (h : TRd w b s i d n t) : placeT w b = i := by simp [placeT, h.c1, intOf]

/-- The value v is a tree of nodes; they lie in blocks that are ok. -/
inductive TreeAt (ok : Nat → Prop) (w : World) : Value → Tr → Prop
  | nil : TreeAt ok w (.pointer none) .nil
  | node (g k : Nat) (l r : Tr) (lv rv : Value) (hok : ok g) (hb : w.heap[g]? = some (.cells #[.int .i64 k, lv, rv, .int .i64 0] 50 (0, 0))) (hl : TreeAt ok w lv l) (hr : TreeAt ok w rv r) : TreeAt ok w (.pointer (some ⟨g, 0, none⟩)) (.node k l r)
theorem TreeAt.kept {ok ok' : Nat → Prop} {w w' : World} {v : Value} {t : Tr} (h : TreeAt ok w v t) (hk : ∀ g, ok g → g < w.heap.size → ok' g ∧ w'.heap[g]? = w.heap[g]?) : TreeAt ok' w' v t := by
  induction h with
  | nil => exact .nil
  | node g k l r lv rv hok hb hl hr il ir =>
    obtain ⟨h1, h2⟩ := hk g hok (Array.getElem?_eq_some_iff.1 hb).1
    exact .node g k l r lv rv h1 (h2.trans hb) il ir
theorem TreeAt.form {ok : Nat → Prop} {w : World} {v : Value} {t : Tr} (h : TreeAt ok w v t) : ∃ a, v = .pointer a := by cases h <;> exact ⟨_, rfl⟩
theorem TreeAt.grown {B : Nat} {w w' : World} {v : Value} {t : Tr} (h : TreeAt (fun g => B ≤ g) w v t) (hg : w.grownBy w' none) : TreeAt (fun g => B ≤ g) w' v t := h.kept fun g hok hlt => ⟨hok, hg.block g hlt (by simp)⟩
/-- The reader's block, ahead of the tree, has turned besides. -/
theorem TreeAt.past {B b : Nat} {w w' : World} {v : Value} {t : Tr} (h : TreeAt (fun g => B ≤ g) w v t) (hg : w.grownBy w' (some b)) (hb : b < B) : TreeAt (fun g => B ≤ g) w' v t := h.kept fun g hok hlt => ⟨hok, hg.block g hlt (by simp; omega)⟩
theorem TreeAt.from {B B' : Nat} {w : World} {v : Value} {t : Tr} (h : TreeAt (fun g => B ≤ g) w v t) (hB : B' ≤ B) : TreeAt (fun g => B' ≤ g) w v t := h.kept fun g hok hlt => ⟨Nat.le_trans hB hok, rfl⟩
theorem tree_new {B : Nat} {w : World} {lv rv : Value} {l r : Tr} (k : Nat) (hl : TreeAt (fun g => B ≤ g) w lv l) (hr : TreeAt (fun g => B ≤ g) w rv r) (hB : B ≤ w.heap.size) : TreeAt (fun g => B ≤ g) (w.alloc (.cells #[.int .i64 (k : Int), lv, rv, .int .i64 0] 50)) (.pointer (some ⟨w.heap.size, 0, none⟩)) (.node k l r) :=
  .node _ k l r lv rv hB (heap_alloc_new w _) (hl.grown (grown_alloc _ _)) (hr.grown (grown_alloc _ _))

/-- What a call of the program's reader leaves behind. -/
def TGives (s : ByteArray) (b d : Nat) (w : World) (R : TRes) (e : Ending) (w' : World) : Prop :=
  w.grownBy w' (some b) ∧ match R with
  | .good f i n t => ∃ v, e = .returned v ∧ TRd w' b s i d n t ∧ TreeAt (fun k => w.heap.size ≤ k) w' v (trOf f)
  | .bad c j => e = .panicked [{ v := .iface 29 (.agg #[.int .i64 c, .int .i64 j]), recovered := false }]
/-- A function of the program's reader reads as S says, at places with less than m bytes behind them. -/
def TDoes (f : Nat) (s : ByteArray) (S : PT) (m : Nat) : Prop :=
  ∀ (i n t d b : Nat) (w : World), i ≤ s.size → s.size - i < m → n ≤ 30 → t ≤ 5 → d ≤ 40 → TRd w b s i d n t → Calls Try.prog f #[.pointer (some ⟨b, 0, none⟩)] w (TGives s b d w (S i n t d))

theorem peekT_any (s : ByteArray) (b i d n t : Nat) (w : World) (hs : s.size ≤ 4000) (hi : i ≤ s.size) (h : TRd w b s i d n t) :
    Calls Try.prog 20 #[.pointer (some ⟨b, 0, none⟩)] w fun e w' => e = .returned (.int .u8 (byT s i)) ∧ w.grownBy w' none := by
  have c0 := h.c0
  have c1 := h.c1
  have f0 := h.f 0
  have f1 := h.f 1
  clear h
  by_cases h1 : i = s.size
  · have h1' : ((i : Int) == (s.size : Int)) = true := by simp; omega
    go_enter Try.func20, Try.ntmps20
    go_wp2
    go_quiet (fail)
    go_wp2
    go_ret
    exact ⟨by simp [byT, h1], grown_drewN (grown_refl _ _) _⟩
  · have h2 : i < s.size := by omega
    have h1' : ((i : Int) == (s.size : Int)) = false := by simp; omega
    have h3 : (i : Int) < (s.size : Int) := by omega
    have h4 : (0 : Int) ≤ (i : Int) := by omega
    go_enter Try.func20, Try.ntmps20
    go_wp2
    go_quiet (fail)
    go_wp2
    go_quiet (fail)
    go_wp2
    go_ret
    exact ⟨by simp [byT, h2], grown_drewN (grown_drewN (grown_refl _ _) _) _⟩

theorem faultT_any (s : ByteArray) (b i d n t : Nat) (c : Int) (w : World) (h : TRd w b s i d n t) :
    Calls Try.prog 12 #[.pointer (some ⟨b, 0, none⟩), .int .i64 c] w fun e w' => e = .returned (.agg #[.int .i64 c, .int .i64 i]) ∧ w.grownBy w' none := by
  have c1 := (h.kept (grown_alloc w (.cells #[.int .i64 0, .int .i64 0] 29))).c1
  have G2 : Hid (∀ o, w.grownBy (w.alloc o) none) := fun o => grown_alloc w o
  clear h
  go_enter Try.func12, Try.ntmps12
  go_wp2
  exact bodyPost_ret (v := .agg #[.int .i64 c, .int .i64 i]) (by simp [results, Try.results12, go_sem]) rfl ⟨rfl, G2.out _⟩

theorem isTime_any (c : Nat) (w : World) : Calls Try.prog 25 #[.int .u8 c] w fun e w' => e = .returned (.bool (isT c)) ∧ w' = w := by
  by_cases h0 : c = 88
  · subst h0
    go_enter Try.func25, Try.ntmps25
    go_wp2
    go_ret
    exact ⟨ret_bool (by simp [isT]), rfl⟩
  · have h0' : ((c : Int) == 88) = false := by simp; omega
    by_cases h1 : c = 70
    · subst h1
      go_enter Try.func25, Try.ntmps25
      go_wp2
      go_ret
      exact ⟨ret_bool (by simp [isT]), rfl⟩
    · have h1' : ((c : Int) == 70) = false := by simp; omega
      by_cases h2 : c = 71
      · subst h2
        go_enter Try.func25, Try.ntmps25
        go_wp2
        go_ret
        exact ⟨ret_bool (by simp [isT]), rfl⟩
      · have h2' : ((c : Int) == 71) = false := by simp; omega
        by_cases h3 : c = 85
        · subst h3
          go_enter Try.func25, Try.ntmps25
          go_wp2
          go_ret
          exact ⟨ret_bool (by simp [isT]), rfl⟩
        · have h3' : ((c : Int) == 85) = false := by simp; omega
          by_cases h4 : c = 82
          · subst h4
            go_enter Try.func25, Try.ntmps25
            go_wp2
            go_ret
            exact ⟨ret_bool (by simp [isT]), rfl⟩
          · have h4' : ((c : Int) == 82) = false := by simp; omega
            go_enter Try.func25, Try.ntmps25
            go_wp2
            go_ret
            exact ⟨ret_bool (by simp [isT, h0, h1, h2, h3, h4]), rfl⟩

/-- A leaf's kind. -/
def lfK (c : Nat) : Nat := if c = 112 then 2 else if c = 113 then 3 else if c = 49 then 1 else 0
theorem lf_tr (c : Nat) : trOf (lfF c) = .node (lfK c) .nil .nil := by unfold lfF lfK; by_cases h1 : c = 112 <;> by_cases h2 : c = 113 <;> by_cases h3 : c = 49 <;> simp [h1, h2, h3, trOf]
theorem atomT_any (c : Nat) (w : World) : Calls Try.prog 31 #[.int .u8 c] w fun e w' => e = .returned (.int .i64 (lfK c)) ∧ w' = w := by
  by_cases h0 : c = 112
  · subst h0
    go_enter Try.func31, Try.ntmps31
    go_wp2
    go_ret
    exact ⟨ret_int (by simp [lfK]), rfl⟩
  · have h0' : ((c : Int) == 112) = false := by simp; omega
    by_cases h1 : c = 113
    · subst h1
      go_enter Try.func31, Try.ntmps31
      go_wp2
      go_ret
      exact ⟨ret_int (by simp [lfK]), rfl⟩
    · have h1' : ((c : Int) == 113) = false := by simp; omega
      by_cases h2 : c = 49
      · subst h2
        go_enter Try.func31, Try.ntmps31
        go_wp2
        go_ret
        exact ⟨ret_int (by simp [lfK]), rfl⟩
      · have h2' : ((c : Int) == 49) = false := by simp; omega
        go_enter Try.func31, Try.ntmps31
        go_wp2
        go_ret
        exact ⟨ret_int (by simp [lfK, h0, h1, h2]), rfl⟩

/-- A call that makes a tree. -/
def TMakes (B : Nat) (w : World) (t : Tr) (e : Ending) (w' : World) : Prop := ∃ v, e = .returned v ∧ TreeAt (fun g => B ≤ g) w' v t ∧ w.grownBy w' none
theorem negT_any (B : Nat) (v : Value) (t : Tr) (w : World) (h : TreeAt (fun g => B ≤ g) w v t) (hB : B ≤ w.heap.size) : Calls Try.prog 32 #[v] w (TMakes B w (.node 4 t .nil)) := by
  obtain ⟨a, rfl⟩ := h.form
  have E : Hid (TMakes B w (.node 4 t .nil) (.returned (.pointer (some ⟨w.heap.size, 0, none⟩))) (w.alloc (.cells #[.int .i64 4, .pointer a, .pointer none, .int .i64 0] 50))) := ⟨_, rfl, tree_new 4 h .nil hB, grown_alloc _ _⟩
  clear h hB
  go_enter Try.func32, Try.ntmps32
  go_wp2
  go_ret
  exact E.out
set_option maxHeartbeats 800000 in
theorem relT_any (B : Nat) (v u : Value) (t r : Tr) (w : World) (h : TreeAt (fun g => B ≤ g) w v t) (h' : TreeAt (fun g => B ≤ g) w u r) (hB : B ≤ w.heap.size) : Calls Try.prog 28 #[v, u] w (TMakes B w (trRel t r)) := by
  have HN : Hid (∀ (v : Value) (t : Tr) (W : World), TreeAt (fun g => B ≤ g) W v t → B ≤ W.heap.size → Calls Try.prog 32 #[v] W (TMakes B W (.node 4 t .nil))) := fun v t W h hB => negT_any B v t W h hB
  have T1 : Hid (TreeAt (fun g => B ≤ g) w v t) := h
  have T2 : Hid (TreeAt (fun g => B ≤ g) w u r) := h'
  have HB : Hid (B ≤ w.heap.size) := hB
  clear h h' hB
  go_enter Try.func28, Try.ntmps28
  go_wp2_with fail
  refine (HN.out _ _ _ T1.out HB.out).mono ?_
  rintro e w2 ⟨v2, rfl, ht2, hg2⟩
  have A2 : Hid (TreeAt (fun g => B ≤ g) w2 v2 (.node 4 t .nil)) := ht2
  have U2 : Hid (TreeAt (fun g => B ≤ g) w2 u r) := T2.out.grown hg2
  have G2 : Hid (w.grownBy w2 none) := hg2
  clear ht2 hg2 T1 T2
  go_wp2_with fail
  refine (HN.out _ _ _ U2.out (Nat.le_trans HB.out G2.out.size)).mono ?_
  rintro e w3 ⟨v3, rfl, ht3, hg3⟩
  obtain ⟨a2, rfl⟩ := A2.out.form
  obtain ⟨a3, rfl⟩ := ht3.form
  have G3 : Hid (w.grownBy w3 none) := grown_trans G2.out hg3
  have A4 : Hid (TreeAt (fun g => B ≤ g) (w3.alloc (.cells #[.int .i64 8, .pointer a2, .pointer a3, .int .i64 0] 50)) (.pointer (some ⟨w3.heap.size, 0, none⟩)) (.node 8 (.node 4 t .nil) (.node 4 r .nil))) := tree_new 8 (A2.out.grown hg3) ht3 (Nat.le_trans HB.out G3.out.size)
  clear ht3 hg3 A2 U2
  go_wp2_with fail
  refine (HN.out _ _ _ A4.out (Nat.le_trans HB.out (Nat.le_trans G3.out.size (grown_alloc _ _).size))).mono ?_
  rintro e w5 ⟨v5, rfl, ht5, hg5⟩
  have E : Hid (TMakes B w (trRel t r) (.returned v5) w5) := ⟨v5, rfl, ht5, grown_trans G3.out (grown_trans (grown_alloc _ _) hg5)⟩
  clear ht5 hg5 A4
  go_wp2_with fail
  go_ret
  exact E.out
set_option maxHeartbeats 800000 in
theorem aheadT_any (B c : Nat) (hc : c = 33 ∨ c = 88 ∨ c = 70 ∨ c = 71) (v : Value) (f : Fm) (w : World) (h : TreeAt (fun g => B ≤ g) w v (trOf f)) (hB : B ≤ w.heap.size) : Calls Try.prog 29 #[.int .u8 c, v] w (TMakes B w (trOf (unF c f))) := by
  obtain ⟨a, rfl⟩ := h.form
  rcases hc with rfl | rfl | rfl | rfl
  · have HN : Hid (Calls Try.prog 32 #[.pointer a] w (TMakes B w (.node 4 (trOf f) .nil))) := negT_any B _ _ w h hB
    have hE : trOf (unF 33 f) = .node 4 (trOf f) .nil := rfl
    rw [hE]
    clear h hB hE
    generalize Tr.node 4 (trOf f) .nil = T at *
    go_enter Try.func29, Try.ntmps29
    go_wp2_with fail
    refine HN.out.mono ?_
    rintro e w2 ⟨v2, rfl, ht2, hg2⟩
    have E : Hid (TMakes B w T (.returned v2) w2) := ⟨v2, rfl, ht2, hg2⟩
    clear ht2 hg2
    go_wp2_with fail
    go_ret
    exact E.out
  · have E : Hid (TMakes B w (trOf (unF 88 f)) (.returned (.pointer (some ⟨w.heap.size, 0, none⟩))) (w.alloc (.cells #[.int .i64 7, .pointer a, .pointer none, .int .i64 0] 50))) := ⟨_, rfl, tree_new 7 h .nil hB, grown_alloc _ _⟩
    clear h hB
    go_enter Try.func29, Try.ntmps29
    go_wp2_with fail
    go_ret
    exact E.out
  · have h1 : TreeAt (fun g => B ≤ g) (w.alloc (.cells #[.int .i64 1, .pointer none, .pointer none, .int .i64 0] 50)) (.pointer (some ⟨w.heap.size, 0, none⟩)) (.node 1 .nil .nil) := tree_new 1 .nil .nil hB
    have h2 := h.grown (grown_alloc w (.cells #[.int .i64 1, .pointer none, .pointer none, .int .i64 0] 50))
    have h3 := tree_new 8 h1 h2 (by rw [World.size_alloc]; omega)
    rw [World.size_alloc] at h3
    have E : Hid (TMakes B w (trOf (unF 70 f)) (.returned (.pointer (some ⟨w.heap.size + 1, 0, none⟩))) ((w.alloc (.cells #[.int .i64 1, .pointer none, .pointer none, .int .i64 0] 50)).alloc (.cells #[.int .i64 8, .pointer (some ⟨w.heap.size, 0, none⟩), .pointer a, .int .i64 0] 50))) := ⟨_, rfl, h3, grown_trans (grown_alloc _ _) (grown_alloc _ _)⟩
    clear h hB h1 h2 h3
    go_enter Try.func29, Try.ntmps29
    go_wp2_with fail
    go_ret
    exact E.out
  · have h1 : TreeAt (fun g => B ≤ g) (w.alloc (.cells #[.int .i64 0, .pointer none, .pointer none, .int .i64 0] 50)) (.pointer (some ⟨w.heap.size, 0, none⟩)) (.node 0 .nil .nil) := tree_new 0 .nil .nil hB
    have h2 := h.grown (grown_alloc w (.cells #[.int .i64 0, .pointer none, .pointer none, .int .i64 0] 50))
    have HR : Hid (Calls Try.prog 28 #[.pointer (some ⟨w.heap.size, 0, none⟩), .pointer a] (w.alloc (.cells #[.int .i64 0, .pointer none, .pointer none, .int .i64 0] 50)) (TMakes B (w.alloc (.cells #[.int .i64 0, .pointer none, .pointer none, .int .i64 0] 50)) (trRel (.node 0 .nil .nil) (trOf f)))) := relT_any B _ _ _ _ _ h1 h2 (by rw [World.size_alloc]; omega)
    have hE : trOf (unF 71 f) = trRel (.node 0 .nil .nil) (trOf f) := rfl
    rw [hE]
    clear h hB h1 h2 hE
    generalize trRel (.node 0 .nil .nil) (trOf f) = T at *
    go_enter Try.func29, Try.ntmps29
    go_wp2_with fail
    refine HR.out.mono ?_
    rintro e w2 ⟨v2, rfl, ht2, hg2⟩
    have E : Hid (TMakes B w T (.returned v2) w2) := ⟨v2, rfl, ht2, grown_trans (grown_alloc _ _) hg2⟩
    clear ht2 hg2
    go_wp2_with fail
    go_ret
    exact E.out

end Go.Proofs.Ytneialmpaiejcaa
