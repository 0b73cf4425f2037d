/- The text of an automaton: the program's written. (Written by wip/tools/rwrw.py.) -/
import Derived.Test.YticmfgclkepgoaaRWd
import Derived.Test.YticmfgclkepgoaaRYs
namespace Go.Proofs.Yticmfgclkepgoaa
open Go.RowKit
set_option linter.unusedVariables false
set_option linter.unusedSimpArgs false

/-- The automaton's box. -/
def SWr (b : Nat) (L S : Int) (n nm c c' bA oA bM oM : Nat) (W : World) : Prop := W.cell? ⟨b, 0, none⟩ = some (.int .i64 L) ∧ W.cell? ⟨b, 1, none⟩ = some (.int .i64 S) ∧ W.cell? ⟨b, 2, none⟩ = some (.slice (some ⟨bA, oA, none⟩) n c) ∧ W.cell? ⟨b, 3, none⟩ = some (.slice (some ⟨bM, oM, none⟩) nm c')
theorem SWr.kept {b : Nat} {L S : Int} {n nm c c' bA oA bM oM : Nat} {W W' : World} (h : SWr b L S n nm c c' bA oA bM oM W) (hg : W.grownBy W' none) : SWr b L S n nm c c' bA oA bM oM W' :=
  ⟨hg.cell h.1 (by simp), hg.cell h.2.1 (by simp), hg.cell h.2.2.1 (by simp), hg.cell h.2.2.2 (by simp)⟩

def S23 (ga g n : Nat) (x y : Sy) (W : World) : Prop := W.cell? ⟨ga, 0, none⟩ = some (.slice (some ⟨g, 0, none⟩) n n) ∧ W.cell? ⟨ga, 1, none⟩ = some (.string y.1) ∧ W.cell? ⟨ga, 2, none⟩ = some (.int .i64 (y.2 : Int)) ∧ W.cell? ⟨g, 0, none⟩ = some (.string x.1) ∧ W.cell? ⟨g, 1, none⟩ = some (.int .i64 (x.2 : Int))
theorem S23.kept {ga g n : Nat} {x y : Sy} {W W' : World} (h : S23 ga g n x y W) (hg : W.grownBy W' none) : S23 ga g n x y W' :=
  ⟨hg.cell h.1 (by simp), hg.cell h.2.1 (by simp), hg.cell h.2.2.1 (by simp), hg.cell h.2.2.2.1 (by simp), hg.cell h.2.2.2.2 (by simp)⟩
def S15 (ga g ba n s t : Nat) (x y : Sy) (W : World) : Prop := W.cell? ⟨ga, t * 3, none⟩ = some (.slice (some ⟨g, 0, none⟩) n n) ∧ W.cell? ⟨g, s * 2, none⟩ = some (.string x.1) ∧ W.cell? ⟨g, s * 2 + 1, none⟩ = some (.int .i64 (x.2 : Int)) ∧ W.cell? ⟨ba, 0, none⟩ = some (.string y.1) ∧ W.cell? ⟨ba, 1, none⟩ = some (.int .i64 (y.2 : Int))
theorem S15.kept {ga g ba n s t : Nat} {x y : Sy} {W W' : World} (h : S15 ga g ba n s t x y W) (hg : W.grownBy W' none) : S15 ga g ba n s t x y W' :=
  ⟨hg.cell h.1 (by simp), hg.cell h.2.1 (by simp), hg.cell h.2.2.1 (by simp), hg.cell h.2.2.2.1 (by simp), hg.cell h.2.2.2.2 (by simp)⟩
/-- A box for a saying has been made. -/
def MidT (W1 : World) (z : Sy) (v : Value) (W : World) : Prop := ∃ b, v = .pointer (some ⟨b, 0, none⟩) ∧ C2 W b z.1 (z.2 : Int) ∧ W1.grownBy W none ∧ W1.heap.size ≤ b
theorem MidT.gr {W1 W : World} {z : Sy} {v : Value} (h : MidT W1 z v W) : W1.grownBy W none := by obtain ⟨_, _, _, h, _⟩ := h; exact h
abbrev zSay : Obj := .cells #[.string ⟨#[]⟩, .int .i64 0] 57
abbrev nSay (z : Sy) : Obj := .cells #[.string z.1, .int .i64 (z.2 : Int)] 57
theorem c2_z {W1 w9 : World} (hg : (W1.alloc zSay).drew.grownBy w9 none) : C2 w9 W1.heap.size ⟨#[]⟩ 0 :=
  C2.kept (C2.kept (show C2 (W1.alloc zSay) W1.heap.size ⟨#[]⟩ 0 from heap_alloc_new W1 _) (grown_drew (grown_refl _ _))) hg
theorem midt_1 {W1 w9 : World} {z : Sy} (hg : W1.drew.grownBy w9 none) : MidT W1 z (.pointer (some ⟨w9.heap.size, 0, none⟩)) (w9.alloc (nSay z)) := by
  have gg : W1.grownBy w9 none := grown_trans (grown_drew (grown_refl _ _)) hg
  exact ⟨_, rfl, heap_alloc_new w9 _, grown_trans gg (grown_alloc _ _), gg.size⟩
theorem midt_2 {W1 w9 : World} {z : Sy} (hg : (W1.alloc zSay).drew.grownBy w9 none) {F : World} (e : F = (w9.setCell ⟨W1.heap.size, 0, none⟩ (.string z.1)).setCell ⟨W1.heap.size, 1, none⟩ (.int .i64 (z.2 : Int))) : MidT W1 z (.pointer (some ⟨W1.heap.size, 0, none⟩)) F := by
  have c := c2_z hg
  have gg : W1.grownBy w9 none := grown_trans (grown_trans (grown_alloc _ _) (grown_drew (grown_refl _ _))) hg
  have p0 := heap_setCell_same w9 W1.heap.size 0 _ _ (.string z.1) c
  have p1 := heap_setCell_same _ W1.heap.size 1 _ _ (.int .i64 (z.2 : Int)) p0
  rw [← e] at p1
  exact ⟨_, rfl, by show _ = _; simpa using p1, grown_new gg (by rw [e]; exact grown_trans (grown_set _ _ _) (grown_set _ _ _)) (Nat.le_refl _), Nat.le_refl _⟩
def S19 (ga g gs' bg bt n t u : Nat) (o v : Sy) (W : World) : Prop := W.cell? ⟨ga, t * 3, none⟩ = some (.slice (some ⟨g, 0, none⟩) n n) ∧ W.cell? ⟨bg, 0, none⟩ = some (.slice (some ⟨gs', 0, none⟩) n n) ∧ W.cell? ⟨gs', u * 2, none⟩ = some (.string v.1) ∧ W.cell? ⟨gs', u * 2 + 1, none⟩ = some (.int .i64 (v.2 : Int)) ∧ W.cell? ⟨bt, 0, none⟩ = some (.string o.1) ∧ W.cell? ⟨bt, 1, none⟩ = some (.int .i64 (o.2 : Int)) ∧ True
theorem S19.kept {ga g gs' bg bt n t u : Nat} {o v : Sy} {W W' : World} (h : S19 ga g gs' bg bt n t u o v W) (hg : W.grownBy W' none) : S19 ga g gs' bg bt n t u o v W' :=
  ⟨hg.cell h.1 (by simp), hg.cell h.2.1 (by simp), hg.cell h.2.2.1 (by simp), hg.cell h.2.2.2.1 (by simp), hg.cell h.2.2.2.2.1 (by simp), hg.cell h.2.2.2.2.2.1 (by simp), trivial⟩
theorem C2.far {W W' : World} {b g : Nat} {T : ByteArray} {k : Int} (h : C2 W b T k) (hg : W.grownBy W' (some g)) (hb : b ≠ g) : C2 W' b T k := (hg.block b h.lt (by simpa using hb)).trans h
/-- Region 19's store. -/
theorem put19 {W1 V F : World} {n s t u bg ba bt : Nat} {gs : Nat → Nat} {ld : Nat → Nat → Sy} {en : Nat → Sy} {y a o v q : Sy} (hs : s < n) (ht : t < s) (hu : u < s) (hv : ld s u = v) (hq : orY (ld t u) (thenY (toY ld s t) (ld s u)) = q) (hb : ∀ i, i < n → gs i < bg) (h1 : bg < ba) (h2 : ba < bt)
    (X : AllW W1 W1.heap.size n n gs (midL ld s t u) (midE ld en s t) V) (BG : C3 V bg (.slice (some ⟨gs s, 0, none⟩) n n) y) (BA : C2 V ba a.1 (a.2 : Int)) (BT : C2 V bt o.1 (o.2 : Int)) (e : F = (V.setCell ⟨gs t, u * 2, none⟩ (.string q.1)).setCell ⟨gs t, u * 2 + 1, none⟩ (.int .i64 (q.2 : Int))) :
    AllW W1 W1.heap.size n n gs (midL ld s t (u + 1)) (midE ld en s t) F ∧ C3 F bg (.slice (some ⟨gs s, 0, none⟩) n n) y ∧ C2 F ba a.1 (a.2 : Int) ∧ C2 F bt o.1 (o.2 : Int) ∧ S19 W1.heap.size (gs t) (gs s) bg bt n t u o v F := by
  have htn : t < n := by omega
  have hun : u < n := by omega
  have hg := ((X.lies t htn).put hun q e).2
  have hbt := hb t htn
  have X' : AllW W1 W1.heap.size n n gs (midL ld s t (u + 1)) (midE ld en s t) F := (X.putL htn hun q e).congr (Nat.le_refl _) (fun i _ j _ => by rw [← hq]; exact midL_step ld s t u ht hu i j)
  have BG' := BG.far hg (show bg ≠ gs t by omega)
  have BA' := BA.far hg (show ba ≠ gs t by omega)
  have BT' := BT.far hg (show bt ≠ gs t by omega)
  obtain ⟨r2, r3⟩ := (X'.lies s hs).cell hun
  rw [midL_gone, hv] at r2 r3
  exact ⟨X', BG', BA', BT', (X'.at (Nat.le_refl _) htn).1, BG'.get.1, r2, r3, BT'.get.1, BT'.get.2, trivial⟩
def S21 (bg bt : Nat) (o v : Sy) (W : World) : Prop := W.cell? ⟨bg, 1, none⟩ = some (.string v.1) ∧ W.cell? ⟨bg, 2, none⟩ = some (.int .i64 (v.2 : Int)) ∧ W.cell? ⟨bt, 0, none⟩ = some (.string o.1) ∧ W.cell? ⟨bt, 1, none⟩ = some (.int .i64 (o.2 : Int)) ∧ True
theorem S21.kept {bg bt : Nat} {o v : Sy} {W W' : World} (h : S21 bg bt o v W) (hg : W.grownBy W' none) : S21 bg bt o v W' :=
  ⟨hg.cell h.1 (by simp), hg.cell h.2.1 (by simp), hg.cell h.2.2.1 (by simp), hg.cell h.2.2.2.1 (by simp), trivial⟩
/-- Region 21's store. -/
theorem put21 {W1 V F : World} {n s t bg ba bt : Nat} {gs : Nat → Nat} {ld : Nat → Nat → Sy} {en : Nat → Sy} {y a o q : Sy} {sl : Value} (hs : s < n) (ht : t < s) (hq : orY (en t) (thenY (toY ld s t) (en s)) = q) (h0 : W1.heap.size < bg) (h1 : bg < ba) (h2 : ba < bt)
    (X : AllW W1 W1.heap.size n n gs (midL ld s t s) (midE ld en s t) V) (BG : C3 V bg sl y) (BA : C2 V ba a.1 (a.2 : Int)) (BT : C2 V bt o.1 (o.2 : Int)) (e : F = (V.setCell ⟨W1.heap.size, t * 3 + 1, none⟩ (.string q.1)).setCell ⟨W1.heap.size, t * 3 + 2, none⟩ (.int .i64 (q.2 : Int))) :
    AllW W1 W1.heap.size n n gs (midL ld s (t + 1) 0) (midE ld en s (t + 1)) F ∧ C3 F bg sl y ∧ C2 F ba a.1 (a.2 : Int) ∧ S21 bg bt o y F := by
  have htn : t < n := by omega
  have hg : V.grownBy F (some W1.heap.size) := by
    obtain ⟨_, _, _, hr, _⟩ := X.row
    exact (hr.put (i := t) (by omega) q e).2
  have X' : AllW W1 W1.heap.size n n gs (midL ld s (t + 1) 0) (midE ld en s (t + 1)) F := ((X.putE (Nat.le_refl _) htn q e).congr (Nat.le_refl _) (fun i _ j _ => midL_next ld s t i j)).congrE (fun i _ => by rw [← hq]; exact midE_step ld en s t ht i)
  have BG' := BG.far hg (show bg ≠ W1.heap.size by omega)
  have BA' := BA.far hg (show ba ≠ W1.heap.size by omega)
  have BT' := BT.far hg (show bt ≠ W1.heap.size by omega)
  exact ⟨X', BG', BA', BG'.get.2.1, BG'.get.2.2, BT'.get.1, BT'.get.2, trivial⟩
theorem field_text (T : ByteArray) (k : Int) (V : World) : (Instr.field 57 (.agg #[.string T, .int .i64 k]) 0).run Try.prog V = .ok (.string T) V := by
  simp [Instr.field, go_sem, asAgg]
theorem sz500 {n : Nat} (h1 : 1 ≤ n) (h3 : n ≤ 3) : (25 + 6) * 4 ^ (n - 1) ≤ 500 := by
  obtain rfl | rfl | rfl : n = 1 ∨ n = 2 ∨ n = 3 := by omega
  all_goals decide

set_option maxHeartbeats 25600000 in
set_option maxRecDepth 100000 in
theorem written_any (L S : Int) (R : List (List Int)) (M : List Int) (a a' : Option Addr) (c c' : Nat) (w : World) (h : DetAt w ⟨L, S, R, M⟩ a a') (hG : Good ⟨L, S, R, M⟩) (hn3 : R.length ≤ 3) :
    Calls Try.prog 16 #[.agg #[.int .i64 L, .int .i64 S, .slice a R.length c, .slice a' M.length c']] w (Says (.string (writtenY (Dfa.nx ⟨L, S, R, M⟩) (Dfa.mk1 ⟨L, S, R, M⟩) L.toNat R.length).1) w) := by
  have CW : Hid (∀ s, s < R.length → ∀ V, w.grownBy V none → Calls Try.prog 23 #[.agg #[.int .i64 L, .int .i64 S, .slice a R.length c, .slice a' M.length c'], .int .i64 (s : Int)] V (WaysPost R.length (fun t => leadY (Dfa.nx ⟨L, S, R, M⟩) s t L.toNat) (endY (Dfa.mk1 ⟨L, S, R, M⟩) s) V)) := fun s hs V hV => waysOf_any L S R M a a' c c' s V (h.grown hV) hG hn3 hs
  have CO : Hid (∀ (x y : Sy) (V : World), x.1.size ≤ 50000 → y.1.size ≤ 50000 → Calls Try.prog 26 #[yV x, yV y] V (Says (yV (orY x y)) V)) := fun x y V h1 h2 => or_any x y V h1 h2
  have CT : Hid (∀ (x y : Sy) (V : World), x.1.size ≤ 50000 → y.1.size ≤ 50000 → Calls Try.prog 25 #[yV x, yV y] V (Says (yV (thenY x y)) V)) := fun x y V h1 h2 => then_any x y V h1 h2
  have CA : Hid (∀ (x : Sy) (V : World), x.1.size ≤ 50000 → Calls Try.prog 24 #[yV x] V (Says (yV (againY x)) V)) := fun x V h1 => again_any x V h1
  have hl4 := hG.l4
  have hl1 := hG.l1
  have hn1 := hG.n1
  have hml := hG.ml
  simp only at hl4 hl1 hml hn1
  obtain ⟨bA, oA, rfl, _⟩ := h.rows.at hn1
  obtain ⟨bM, oM, rfl, _⟩ := h.marks.at (k := 0) (by show 0 < M.length; omega)
  obtain ⟨lN, hlN⟩ : ∃ lN, L.toNat = lN := ⟨_, rfl⟩
  obtain ⟨nx, hnx⟩ : ∃ nx, Dfa.nx ⟨L, S, R, M⟩ = nx := ⟨_, rfl⟩
  obtain ⟨mk, hmk1⟩ : ∃ mk, Dfa.mk1 ⟨L, S, R, M⟩ = mk := ⟨_, rfl⟩
  rw [hlN, hnx, hmk1] at CW ⊢
  have hl5 : lN ≤ 4 := by omega
  generalize M.length = nm at *
  obtain ⟨n, hnn⟩ : ∃ n, R.length = n := ⟨_, rfl⟩
  rw [hnn] at CW hn3 hn1 ⊢
  clear h hG hl4 hl1 hlN hnx hmk1 hnn hml
  obtain ⟨W1, hW1⟩ : ∃ W1, W1 = w.alloc (.cells #[.int .i64 L, .int .i64 S, .slice (some ⟨bA, oA, none⟩) n c, .slice (some ⟨bM, oM, none⟩) nm c'] 25) := ⟨_, rfl⟩
  have g1 : w.grownBy W1 none := by rw [hW1]; exact grown_alloc _ _
  have hb1 : SWr w.heap.size L S n nm c c' bA oA bM oM W1 := by
    have hb := heap_alloc_new w (.cells #[.int .i64 L, .int .i64 S, .slice (some ⟨bA, oA, none⟩) n c, .slice (some ⟨bM, oM, none⟩) nm c'] 25)
    rw [hW1]
    exact ⟨by rw [cell_of_row _ _ 0 _ _ (0, 0) hb]; rfl, by rw [cell_of_row _ _ 1 _ _ (0, 0) hb]; rfl, by rw [cell_of_row _ _ 2 _ _ (0, 0) hb]; rfl, by rw [cell_of_row _ _ 3 _ _ (0, 0) hb]; rfl⟩
  obtain ⟨W2, hmk2, hAR, g2, s2⟩ := make_ways W1 n (by omega)
  have HW1 : Hid (W1 = _) := hW1
  have G1 : Hid (w.grownBy W1 none) := g1
  have HD : Hid (∀ V, W1.grownBy V none → SWr w.heap.size L S n nm c c' bA oA bM oM V) := fun V hV => hb1.kept hV
  obtain ⟨d0, d1, d2, d3⟩ := hb1
  have X0 : Hid (∀ gs ld, AllW W1 W1.heap.size n 0 gs ld (fun _ => (⟨#[]⟩, 0)) W2) := fun gs ld => AllW.start W2 hAR g2 (Nat.le_refl _)
  clear hW1 g1 hAR g2 s2
  go_enter Try.func16, Try.ntmps16
  go_wp2_with fail
  rw [← HW1.out, hmk2]
  clear hmk2 d0 d1 d2 d3
  go_wp2_with fail
  go_loopw [17] (fun v wr => ∃ k : Nat, k ≤ n ∧ v = .int .i64 k ∧ ∃ gs ld en, AllW W1 W1.heap.size n k gs ld en wr ∧ ∀ i, i < k → ld i = (fun t => leadY nx i t lN) ∧ en i = endY mk i) (fun v _ => n - (intOf v).toNat)
  case atStart => exact ⟨0, by omega, rfl, fun _ => 0, fun _ _ => noneY, _, X0.out _ _, fun i hi => absurd hi (Nat.not_lt_zero _)⟩
  case round =>
    clear X0
    obtain ⟨k, hk, rfl, gs, ld, en, hst, hle⟩ := hrel
    have X : Hid (AllW W1 W1.heap.size n k gs ld en wr) := hst
    have HLE : Hid (∀ i, i < k → ld i = (fun t => leadY nx i t lN) ∧ en i = endY mk i) := hle
    clear hst hle
    have GA : Hid (w.grownBy wr none) := grown_trans G1.out X.out.gr
    by_cases hlt : k < n
    · have hki : (k : Int) < (n : Int) := by omega
      obtain ⟨d0, d1, d2, d3⟩ := HD.out wr X.out.gr
      go_wp2_with fail
      refine (CW.out k hlt _ GA.out).mono ?_
      rintro e w9 ⟨g, rfl, hs9, hg9, hl9⟩
      have X9 := X.out.kept hg9
      obtain ⟨ad, nl, cl, hr, _⟩ := X9.row
      obtain ⟨q0, q1, q2⟩ := hr.cell hlt
      have z0 := hr.fz (k * 3)
      have z1 := hr.fz (k * 3 + 1)
      have z2 := hr.fz (k * 3 + 2)
      have X10 := X9.lay hlt (endY mk k) hs9 (fun i hi => by have := (X.out.lies i hi).lt; omega) (Nat.le_trans X.out.gr.size hl9) rfl
      obtain ⟨⟨eT, ek⟩, he⟩ : ∃ e : Sy, endY mk k = e := ⟨_, rfl⟩
      have HE : Hid (endY mk k = (eT, ek)) := he
      rw [he] at X10 ⊢
      have HX : Hid _ := X10
      clear X10 X9 hr he hs9 hl9 d0 d1 d2 d3
      go_wp2_with fail
      go_roundw
      case rel =>
        refine ⟨k + 1, by omega, by simp, _, _, _, HX.out, fun i hi => ?_⟩
        by_cases e : i = k
        · subst e
          rw [if_pos rfl, if_pos rfl]
          exact ⟨rfl, HE.out.symm⟩
        · rw [if_neg e, if_neg e]
          exact HLE.out i (by omega)
      case measure => simp [intOf]; omega
    · have hki : ¬ (k : Int) < (n : Int) := by omega
      have hkn : k = n := by omega
      subst hkn
      obtain ⟨n, hnk⟩ : ∃ n, n = k := ⟨_, rfl⟩
      subst hnk
      have X1 : Hid (AllW W1 W1.heap.size n n gs (fun s t => leadY nx s t lN) (endY mk) wr) := (X.out.congr (Nat.le_refl _) (fun i hi j _ => by rw [(HLE.out i hi).1])).congrE (fun i hi => (HLE.out i hi).2)
      have hw1 : IntKind.i64.wrap ((n : Int) - 1) = ((n - 1 : Nat) : Int) := by rw [IntKind.wrap_i64]; omega
      have SZ : Hid (SzY n 25 (fun s t => leadY nx s t lN) (endY mk)) := by
        refine ⟨fun i j _ _ => ?_, fun i _ => ?_⟩
        · have := leadY_size nx i j lN
          simp only
          omega
        · unfold endY; split <;> (show 1 ≤ 25; omega)
      have H5 : Hid ((25 + 6) * 4 ^ (n - 1) ≤ 500) := sz500 hn1 hn3
      clear X HLE CW HD GA
      obtain ⟨RT, hRT⟩ : ∃ RT, writtenY nx mk lN n = RT := ⟨_, rfl⟩
      have HRT : Hid (writY (n - 1) (fun s t => leadY nx s t lN) (endY mk) = RT) := hRT
      have HWr : Hid (writtenY nx mk lN n = RT) := hRT
      clear hRT
      go_wp2_with fail
      go_loopw [5] (fun v wr => ∃ (s A : Nat) (ld : Nat → Nat → Sy) (en : Nat → Sy), s < n ∧ v = .int .i64 s ∧ (A + 6) * 4 ^ s ≤ 500 ∧ SzY n A ld en ∧ AllW W1 W1.heap.size n n gs ld en wr ∧ writY s ld en = RT) (fun v _ => (intOf v).toNat)
      case atStart => exact ⟨n - 1, 25, _, _, by omega, rfl, H5.out, SZ.out, X1.out, HRT.out⟩
      case round =>
        clear X1 SZ HRT hw1 H5
        obtain ⟨s, A, ld, en, hs, rfl, hA, hsz, hst, hwr⟩ := hrel
        have X : Hid (AllW W1 W1.heap.size n n gs ld en wr) := hst
        have SZ : Hid (SzY n A ld en) := hsz
        have HR : Hid (writY s ld en = RT) := hwr
        clear hst hsz hwr
        by_cases hs0 : 0 < s
        · have hsi : (0 : Int) < (s : Int) := by omega
          have hsn : (s : Int) < (n : Int) := by omega
          obtain ⟨p0, p1, p2⟩ := X.out.at (Nat.le_refl _) hs
          obtain ⟨r0, r1⟩ := (X.out.lies s hs).cell hs
          have z1 := SZ.out.1 s s hs hs
          have h500 : A ≤ 500 := by
            have := Nat.le_mul_of_pos_right (A + 6) (Nat.pow_pos (n := s) (show 0 < 4 by omega))
            omega
          obtain ⟨⟨xT, xk⟩, hx⟩ : ∃ x : Sy, ld s s = x := ⟨_, rfl⟩
          obtain ⟨⟨yT, yk⟩, hy⟩ : ∃ x : Sy, en s = x := ⟨_, rfl⟩
          rw [hx] at r0 r1 z1
          rw [hy] at p1 p2
          obtain ⟨⟨aT, ak⟩, ha⟩ : ∃ x : Sy, againY (xT, xk) = x := ⟨_, rfl⟩
          have CA2 : Hid (∀ V, Calls Try.prog 24 #[.agg #[.string xT, .int .i64 (xk : Int)]] V (Says (.agg #[.string aT, .int .i64 (ak : Int)]) V)) := fun V => by
            have := CA.out (xT, xk) V (by simp only at z1 ⊢; omega)
            rw [ha] at this; exact this
          have HAg : Hid (againY (ld s s) = (aT, ak) ∧ en s = (yT, yk)) := ⟨by rw [hx, ha], hy⟩
          obtain ⟨W2, hW2⟩ : ∃ W2, W2 = wr.alloc (.cells #[.slice (some ⟨gs s, 0, none⟩) n n, .string yT, .int .i64 (yk : Int)] 59) := ⟨_, rfl⟩
          have g2 : wr.grownBy W2 none := by rw [hW2]; exact grown_alloc _ _
          have c2 : C3 W2 wr.heap.size (.slice (some ⟨gs s, 0, none⟩) n n) (yT, yk) := by rw [hW2]; exact heap_alloc_new wr _
          have r0' : W2.cell? ⟨gs s, s * 2, none⟩ = _ := g2.cell r0 (by simp)
          have r1' : W2.cell? ⟨gs s, s * 2 + 1, none⟩ = _ := g2.cell r1 (by simp)
          have G2 : Hid (wr.grownBy W2 none) := g2
          have B2 : Hid (C3 W2 wr.heap.size (.slice (some ⟨gs s, 0, none⟩) n n) (yT, yk)) := c2
          rw [hW2] at r0' r1'
          have HW2 : Hid (W2 = _) := hW2
          clear r0 r1 z1 hx hy ha hW2 g2 c2
          go_wp2_with fail
          rw [← HW2.out]
          refine (CA2.out _).mono ?_
          rintro e w5 ⟨rfl, hg5⟩
          have hlt5 := hg5.size
          have hB2 := B2.out.lt
          have HB : Hid (W1.heap.size < wr.heap.size ∧ (∀ i, i < n → gs i < wr.heap.size) ∧ wr.heap.size < w5.heap.size) := by
            refine ⟨?_, fun i hi => (X.out.lies i hi).lt, by omega⟩
            obtain ⟨_, _, _, hr, _⟩ := X.out.row
            exact hr.lt
          have Y0 : Hid (AllW W1 W1.heap.size n n gs (midL ld s 0 0) (midE ld en s 0) (w5.alloc (.cells #[.string aT, .int .i64 (ak : Int)] 57)) ∧ C3 (w5.alloc (.cells #[.string aT, .int .i64 (ak : Int)] 57)) wr.heap.size (.slice (some ⟨gs s, 0, none⟩) n n) (yT, yk) ∧ C2 (w5.alloc (.cells #[.string aT, .int .i64 (ak : Int)] 57)) w5.heap.size aT (ak : Int)) := by
            have g6 : wr.grownBy (w5.alloc (.cells #[.string aT, .int .i64 (ak : Int)] 57)) none := grown_trans (grown_trans G2.out hg5) (grown_alloc _ _)
            exact ⟨((X.out.kept g6).congr (Nat.le_refl _) (fun i _ j _ => (midL_start ld s i j).symm)).congrE (fun i _ => (midE_start ld en s i).symm), (B2.out.kept hg5).kept (grown_alloc _ _), heap_alloc_new w5 _⟩
          clear X G2 B2 HW2 CA2 hlt5 hB2 hg5 p0 p1 p2 r0' r1'
          go_wp2_with fail
          obtain ⟨bg, hbg⟩ : ∃ bg, wr.heap.size = bg := ⟨_, rfl⟩
          obtain ⟨ba, hba⟩ : ∃ ba, w5.heap.size = ba := ⟨_, rfl⟩
          rw [hbg, hba] at HB Y0 ⊢
          clear hbg hba
          go_loopw [45] (fun v wx => ∃ t : Nat, t ≤ s ∧ v = .int .i64 t ∧ AllW W1 W1.heap.size n n gs (midL ld s t 0) (midE ld en s t) wx ∧ C3 wx bg (.slice (some ⟨gs s, 0, none⟩) n n) (yT, yk) ∧ C2 wx ba aT (ak : Int)) (fun v _ => s - (intOf v).toNat)
          case atStart => exact ⟨0, by omega, rfl, Y0.out.1, Y0.out.2.1, Y0.out.2.2⟩
          case round =>
            clear Y0
            obtain ⟨t, ht, rfl, hX, hC3, hC2⟩ := hrel
            have X : Hid (AllW W1 W1.heap.size n n gs (midL ld s t 0) (midE ld en s t) wr) := hX
            have BG : Hid (C3 wr bg (.slice (some ⟨gs s, 0, none⟩) n n) (yT, yk)) := hC3
            have BA : Hid (C2 wr ba aT (ak : Int)) := hC2
            clear hX hC3 hC2
            by_cases hts : t < s
            · have hti : (t : Int) < (s : Int) := by omega
              have htn : (t : Int) < (n : Int) := by omega
              have htn' : t < n := by omega
              obtain ⟨p0, _, _⟩ := X.out.at (Nat.le_refl _) htn'
              obtain ⟨r0, r1⟩ := (X.out.lies t htn').cell hs
              rw [midL_to] at r0 r1
              have z1 := SZ.out.1 t s htn' hs
              have z2 := (SZ.out.to hs htn').1
              rw [HAg.out.1] at z2
              obtain ⟨⟨xT, xk⟩, hx⟩ : ∃ x : Sy, ld t s = x := ⟨_, rfl⟩
              rw [hx] at r0 r1 z1
              obtain ⟨⟨oT, ok⟩, ho⟩ : ∃ x : Sy, thenY (xT, xk) (aT, ak) = x := ⟨_, rfl⟩
              have HTo : Hid (toY ld s t = (oT, ok)) := by
                show thenY (ld t s) (againY (ld s s)) = _
                rw [hx, HAg.out.1, ho]
              have CT2 : Hid (∀ V, Calls Try.prog 25 #[.agg #[.string xT, .int .i64 (xk : Int)], .agg #[.string aT, .int .i64 (ak : Int)]] V (Says (.agg #[.string oT, .int .i64 (ok : Int)]) V)) := fun V => by
                have := CT.out (xT, xk) (aT, ak) V (by simp only at z1 ⊢; omega) (by simp only at z2 ⊢; omega)
                rw [ho] at this; exact this
              have S0 : Hid (S15 W1.heap.size (gs t) ba n s t (xT, xk) (aT, ak) wr) := ⟨p0, r0, r1, BA.out.get.1, BA.out.get.2⟩
              clear p0 r0 r1 z1 z2 hx ho
              go_wp2_with fail
              go_cut [9] (fun v wc => MidT wr (oT, ok) v wc)
              case first =>
                refine wp_region_held_drew (S := S15 W1.heap.size (gs t) ba n s t (xT, xk) (aT, ak)) (by kernel_rfl) (S0.out.kept (grown_drew (grown_refl _ _))) (fun hHeld => ?_)
                refine wpAnyH_take (i := 0) (v := ?_) rfl (by kernel_rfl) (by kernel_rfl) (by kernel_rfl) (fun _ _ _ h => h) (Or.inl ⟨by rfl, ?_⟩) (by assumption) ?_
                rotate_left
                · intro W hSw
                  obtain ⟨t1, t2, t3, t4, t5⟩ := hSw
                  go_simp
                  with_reducible rfl
                try simp only [Act.put, List.getElem_toArray, List.getElem_cons_succ, List.getElem_cons_zero, List.setIfInBounds_toArray, List.set_cons_zero, List.set_cons_succ]
                refine wpAnyH_take (i := 1) (v := ?_) rfl (by kernel_rfl) (by kernel_rfl) (by kernel_rfl) (fun _ _ _ h => h) (Or.inl ⟨by rfl, ?_⟩) (by assumption) ?_
                rotate_left
                · intro W hSw
                  obtain ⟨t1, t2, t3, t4, t5⟩ := hSw
                  go_simp
                  with_reducible rfl
                try simp only [Act.put, List.getElem_toArray, List.getElem_cons_succ, List.getElem_cons_zero, List.setIfInBounds_toArray, List.set_cons_zero, List.set_cons_succ]
                refine wpAnyH_take (i := 2) (v := ?_) rfl (by kernel_rfl) (by kernel_rfl) (by kernel_rfl) (fun _ _ _ h => h) (Or.inl ⟨by rfl, ?_⟩) (by assumption) ?_
                rotate_left
                · intro W hSw
                  obtain ⟨t1, t2, t3, t4, t5⟩ := hSw
                  go_simp
                  with_reducible rfl
                try simp only [Act.put, List.getElem_toArray, List.getElem_cons_succ, List.getElem_cons_zero, List.setIfInBounds_toArray, List.set_cons_zero, List.set_cons_succ]
                refine wpAnyH_take (i := 3) (v := ?_) rfl (by kernel_rfl) (by kernel_rfl) (by kernel_rfl) (fun _ _ _ h => h) (Or.inl ⟨by rfl, ?_⟩) (by assumption) ?_
                rotate_left
                · intro W hSw
                  obtain ⟨t1, t2, t3, t4, t5⟩ := hSw
                  go_simp
                  with_reducible rfl
                try simp only [Act.put, List.getElem_toArray, List.getElem_cons_succ, List.getElem_cons_zero, List.setIfInBounds_toArray, List.set_cons_zero, List.set_cons_succ]
                refine wpAnyH_take (i := 4) (v := ?_) rfl (by kernel_rfl) (by kernel_rfl) (by kernel_rfl) (fun _ _ _ h => h) (Or.inl ⟨by rfl, ?_⟩) (by assumption) ?_
                rotate_left
                · intro W hSw
                  obtain ⟨t1, t2, t3, t4, t5⟩ := hSw
                  go_simp
                  with_reducible rfl
                try simp only [Act.put, List.getElem_toArray, List.getElem_cons_succ, List.getElem_cons_zero, List.setIfInBounds_toArray, List.set_cons_zero, List.set_cons_succ]
                refine wpAnyH_take (i := 5) (v := ?_) rfl (by kernel_rfl) (by kernel_rfl) (by kernel_rfl) (fun _ _ _ h => h) (Or.inl ⟨by rfl, ?_⟩) (by assumption) ?_
                rotate_left
                · intro W hSw
                  obtain ⟨t1, t2, t3, t4, t5⟩ := hSw
                  go_simp
                  with_reducible rfl
                try simp only [Act.put, List.getElem_toArray, List.getElem_cons_succ, List.getElem_cons_zero, List.setIfInBounds_toArray, List.set_cons_zero, List.set_cons_succ]
                refine wpAnyH_take (i := 6) (v := ?_) rfl (by kernel_rfl) (by kernel_rfl) (by kernel_rfl) (fun _ _ _ h => h) (Or.inl ⟨by rfl, ?_⟩) (by assumption) ?_
                rotate_left
                · intro W hSw
                  obtain ⟨t1, t2, t3, t4, t5⟩ := hSw
                  go_simp
                  with_reducible rfl
                try simp only [Act.put, List.getElem_toArray, List.getElem_cons_succ, List.getElem_cons_zero, List.setIfInBounds_toArray, List.set_cons_zero, List.set_cons_succ]
                refine wpAnyH_take (i := 7) (v := ?_) rfl (by kernel_rfl) (by kernel_rfl) (by kernel_rfl) (fun _ _ _ h => h) (Or.inl ⟨by rfl, ?_⟩) (by assumption) ?_
                rotate_left
                · intro W hSw
                  obtain ⟨t1, t2, t3, t4, t5⟩ := hSw
                  go_simp
                  with_reducible rfl
                try simp only [Act.put, List.getElem_toArray, List.getElem_cons_succ, List.getElem_cons_zero, List.setIfInBounds_toArray, List.set_cons_zero, List.set_cons_succ]
                refine wpAnyH_take (i := 8) (v := ?_) rfl (by kernel_rfl) (by kernel_rfl) (by kernel_rfl) (fun _ _ _ h => h) (Or.inl ⟨by rfl, ?_⟩) (by assumption) ?_
                rotate_left
                · intro W hSw
                  obtain ⟨t1, t2, t3, t4, t5⟩ := hSw
                  go_simp
                  with_reducible rfl
                try simp only [Act.put, List.getElem_toArray, List.getElem_cons_succ, List.getElem_cons_zero, List.setIfInBounds_toArray, List.set_cons_zero, List.set_cons_succ]
                refine wpAnyH_ready (rs := [9, 10]) (by kernel_rfl) (by simp) ?_
                refine AllReadyH.cons (o := _) rfl (fun K' hK => ?_) ?_
                · go_simp
                  refine (CT2.out _).mono ?_
                  rintro e w7 ⟨rfl, hg7⟩
                  go_wp2_with fail
                  refine hK.out _ _ (hHeld.kept hg7) (fun hHeld => ?_)
                  clear hK K'
                  try simp only [Act.put, List.getElem_toArray, List.getElem_cons_succ, List.getElem_cons_zero, List.setIfInBounds_toArray, List.set_cons_zero, List.set_cons_succ]
                  refine wpAnyH_ready (rs := [10]) (by kernel_rfl) (by simp) ?_
                  refine AllReadyH.cons (o := _) rfl (fun K' hK => ?_) ?_
                  · go_simp
                    refine hK.out _ _ (hHeld.kept (grown_alloc _ _)) (fun hHeld => ?_)
                    clear hK K'
                    try simp only [Act.put, List.getElem_toArray, List.getElem_cons_succ, List.getElem_cons_zero, List.setIfInBounds_toArray, List.set_cons_zero, List.set_cons_succ]
                    refine wpAnyH_ready (rs := [11]) (by kernel_rfl) (by simp) ?_
                    refine AllReadyH.cons (o := _) rfl (fun K' hK => ?_) ?_
                    · go_simp
                      refine hK.out _ _ (S0.out.kept (MidT.gr (midt_1 (z := (oT, ok)) hg7))) (fun hHeld => ?_)
                      clear hK K'
                      try simp only [Act.put, List.getElem_toArray, List.getElem_cons_succ, List.getElem_cons_zero, List.setIfInBounds_toArray, List.set_cons_zero, List.set_cons_succ]
                      refine wpAnyH_done (by kernel_rfl) ?_ _
                      go_wp2_with fail
                      go_meet
                      case rel =>
                        exact midt_1 (z := (oT, ok)) hg7
                    exact AllReadyH.nil
                  exact AllReadyH.nil
                refine AllReadyH.cons (o := _) rfl (fun K' hK => ?_) ?_
                · go_simp
                  refine hK.out _ _ (hHeld.kept (grown_alloc _ _)) (fun hHeld => ?_)
                  clear hK K'
                  try simp only [Act.put, List.getElem_toArray, List.getElem_cons_succ, List.getElem_cons_zero, List.setIfInBounds_toArray, List.set_cons_zero, List.set_cons_succ]
                  refine wpAnyH_ready (rs := [9]) (by kernel_rfl) (by simp) ?_
                  refine AllReadyH.cons (o := _) rfl (fun K' hK => ?_) ?_
                  · go_simp
                    refine (CT2.out _).mono ?_
                    rintro e w7 ⟨rfl, hg7⟩
                    go_wp2_with fail
                    refine hK.out _ _ (hHeld.kept hg7) (fun hHeld => ?_)
                    clear hK K'
                    try simp only [Act.put, List.getElem_toArray, List.getElem_cons_succ, List.getElem_cons_zero, List.setIfInBounds_toArray, List.set_cons_zero, List.set_cons_succ]
                    refine wpAnyH_ready (rs := [11]) (by kernel_rfl) (by simp) ?_
                    refine AllReadyH.cons (o := _) rfl (fun K' hK => ?_) ?_
                    · have cc := c2_z hg7
                      obtain ⟨q0, q1⟩ := cc.get
                      have z0 := cc.fz 0
                      have z1 := cc.fz 1
                      clear cc
                      go_simp
                      refine hK.out _ _ (S0.out.kept (MidT.gr (midt_2 (z := (oT, ok)) hg7 rfl))) (fun hHeld => ?_)
                      clear hK K'
                      try simp only [Act.put, List.getElem_toArray, List.getElem_cons_succ, List.getElem_cons_zero, List.setIfInBounds_toArray, List.set_cons_zero, List.set_cons_succ]
                      refine wpAnyH_done (by kernel_rfl) ?_ _
                      go_wp2_with fail
                      go_meet
                      case rel =>
                        exact midt_2 (z := (oT, ok)) hg7 rfl
                    exact AllReadyH.nil
                  exact AllReadyH.nil
                exact AllReadyH.nil

              case rest =>
                clear S0 CT2
                obtain ⟨bt, rfl, hbt, hgt, hlt⟩ := hcut
                have HBt : Hid (bg < bt ∧ ba < bt) := ⟨by have := BG.out.lt; omega, by have := BA.out.lt; omega⟩
                have Y0 : Hid (AllW W1 W1.heap.size n n gs (midL ld s t 0) (midE ld en s t) wc ∧ C3 wc bg (.slice (some ⟨gs s, 0, none⟩) n n) (yT, yk) ∧ C2 wc ba aT (ak : Int) ∧ C2 wc bt oT (ok : Int)) := ⟨X.out.kept hgt, BG.out.kept hgt, BA.out.kept hgt, hbt⟩
                clear X BG BA hbt hgt hlt
                go_wp2_with fail
                go_loopw [59] (fun v wx => ∃ u : Nat, u ≤ s ∧ v = .int .i64 u ∧ AllW W1 W1.heap.size n n gs (midL ld s t u) (midE ld en s t) wx ∧ C3 wx bg (.slice (some ⟨gs s, 0, none⟩) n n) (yT, yk) ∧ C2 wx ba aT (ak : Int) ∧ C2 wx bt oT (ok : Int)) (fun v _ => s - (intOf v).toNat)
                case atStart => exact ⟨0, by omega, rfl, Y0.out.1, Y0.out.2.1, Y0.out.2.2.1, Y0.out.2.2.2⟩
                case round =>
                  clear Y0
                  obtain ⟨u, hu, rfl, hX, hC3, hC2, hCt⟩ := hrel
                  have X : Hid (AllW W1 W1.heap.size n n gs (midL ld s t u) (midE ld en s t) wr) := hX
                  have BG : Hid (C3 wr bg (.slice (some ⟨gs s, 0, none⟩) n n) (yT, yk)) := hC3
                  have BA : Hid (C2 wr ba aT (ak : Int)) := hC2
                  have BT : Hid (C2 wr bt oT (ok : Int)) := hCt
                  clear hX hC3 hC2 hCt
                  by_cases hus : u < s
                  · have hui : (u : Int) < (s : Int) := by omega
                    have hun : (u : Int) < (n : Int) := by omega
                    have hun' : u < n := by omega
                    obtain ⟨p0, _, _⟩ := X.out.at (Nat.le_refl _) htn'
                    obtain ⟨r0, r1⟩ := (X.out.lies t htn').cell hun'
                    obtain ⟨r2, r3⟩ := (X.out.lies s hs).cell hun'
                    rw [midL_here] at r0 r1
                    rw [midL_gone] at r2 r3
                    have z1 := SZ.out.1 t u htn' hun'
                    have z2 := SZ.out.1 s u hs hun'
                    have z3 := (SZ.out.to hs htn').2
                    have z4 := (SZ.out.then hs htn' hun').1
                    rw [HTo.out] at z3 z4
                    obtain ⟨⟨xT, xk⟩, hx⟩ : ∃ x : Sy, ld t u = x := ⟨_, rfl⟩
                    obtain ⟨⟨vT, vk⟩, hv⟩ : ∃ x : Sy, ld s u = x := ⟨_, rfl⟩
                    rw [hx] at r0 r1 z1
                    rw [hv] at r2 r3 z2 z4
                    obtain ⟨⟨mT, mk'⟩, hm⟩ : ∃ x : Sy, thenY (oT, ok) (vT, vk) = x := ⟨_, rfl⟩
                    rw [hm] at z4
                    obtain ⟨⟨qT, qk⟩, hq⟩ : ∃ x : Sy, orY (xT, xk) (mT, mk') = x := ⟨_, rfl⟩
                    have HQ : Hid (orY (ld t u) (thenY (toY ld s t) (ld s u)) = (qT, qk)) := by
                      show _ = _
                      rw [hx, hv, HTo.out, hm, hq]
                    have CT3 : Hid (∀ V, Calls Try.prog 25 #[.agg #[.string oT, .int .i64 (ok : Int)], .agg #[.string vT, .int .i64 (vk : Int)]] V (Says (.agg #[.string mT, .int .i64 (mk' : Int)]) V)) := fun V => by
                      have := CT.out (oT, ok) (vT, vk) V (by simp only at z3 ⊢; omega) (by simp only at z2 ⊢; omega)
                      rw [hm] at this; exact this
                    have CO3 : Hid (∀ V, Calls Try.prog 26 #[.agg #[.string xT, .int .i64 (xk : Int)], .agg #[.string mT, .int .i64 (mk' : Int)]] V (Says (.agg #[.string qT, .int .i64 (qk : Int)]) V)) := fun V => by
                      have := CO.out (xT, xk) (mT, mk') V (by simp only at z1 ⊢; omega) (by simp only at z4 ⊢; omega)
                      rw [hq] at this; exact this
                    have S0 : Hid (S19 W1.heap.size (gs t) (gs s) bg bt n t u (oT, ok) (vT, vk) wr) := ⟨p0, BG.out.get.1, r2, r3, BT.out.get.1, BT.out.get.2, trivial⟩
                    have P19 : Hid (∀ V F, wr.grownBy V none → F = (V.setCell ⟨gs t, u * 2, none⟩ (.string qT)).setCell ⟨gs t, u * 2 + 1, none⟩ (.int .i64 (qk : Int)) → AllW W1 W1.heap.size n n gs (midL ld s t (u + 1)) (midE ld en s t) F ∧ C3 F bg (.slice (some ⟨gs s, 0, none⟩) n n) (yT, yk) ∧ C2 F ba aT (ak : Int) ∧ C2 F bt oT (ok : Int) ∧ S19 W1.heap.size (gs t) (gs s) bg bt n t u (oT, ok) (vT, vk) F) :=
                      fun V F hV e => put19 (q := (qT, qk)) (a := (aT, ak)) (o := (oT, ok)) hs hts hus hv HQ.out HB.out.2.1 HB.out.2.2 HBt.out.2 (X.out.kept hV) (BG.out.kept hV) (BA.out.kept hV) (BT.out.kept hV) e
                    clear p0 r2 r3 z1 z2 z3 z4 hx hv hm hq
                    go_wp2_with fail
                    refine wp_region_held_drew (S := S19 W1.heap.size (gs t) (gs s) bg bt n t u (oT, ok) (vT, vk)) (by kernel_rfl) (S0.out.kept (grown_drew (grown_refl _ _))) (fun hHeld => ?_)
                    refine wpAnyH_take (i := 0) (v := ?_) rfl (by kernel_rfl) (by kernel_rfl) (by kernel_rfl) (fun _ _ _ h => h) (Or.inl ⟨by rfl, ?_⟩) (by assumption) ?_
                    rotate_left
                    · intro W hSw
                      obtain ⟨t1, t2, t3, t4, t5, t6, t7⟩ := hSw
                      go_simp
                      with_reducible rfl
                    try simp only [Act.put, List.getElem_toArray, List.getElem_cons_succ, List.getElem_cons_zero, List.setIfInBounds_toArray, List.set_cons_zero, List.set_cons_succ]
                    refine wpAnyH_take (i := 1) (v := ?_) rfl (by kernel_rfl) (by kernel_rfl) (by kernel_rfl) (fun _ _ _ h => h) (Or.inl ⟨by rfl, ?_⟩) (by assumption) ?_
                    rotate_left
                    · intro W hSw
                      obtain ⟨t1, t2, t3, t4, t5, t6, t7⟩ := hSw
                      go_simp
                      with_reducible rfl
                    try simp only [Act.put, List.getElem_toArray, List.getElem_cons_succ, List.getElem_cons_zero, List.setIfInBounds_toArray, List.set_cons_zero, List.set_cons_succ]
                    refine wpAnyH_take (i := 2) (v := ?_) rfl (by kernel_rfl) (by kernel_rfl) (by kernel_rfl) (fun _ _ _ h => h) (Or.inl ⟨by rfl, ?_⟩) (by assumption) ?_
                    rotate_left
                    · intro W hSw
                      obtain ⟨t1, t2, t3, t4, t5, t6, t7⟩ := hSw
                      go_simp
                      with_reducible rfl
                    try simp only [Act.put, List.getElem_toArray, List.getElem_cons_succ, List.getElem_cons_zero, List.setIfInBounds_toArray, List.set_cons_zero, List.set_cons_succ]
                    refine wpAnyH_take (i := 3) (v := ?_) rfl (by kernel_rfl) (by kernel_rfl) (by kernel_rfl) (fun _ _ _ h => h) (Or.inl ⟨by rfl, ?_⟩) (by assumption) ?_
                    rotate_left
                    · intro W hSw
                      obtain ⟨t1, t2, t3, t4, t5, t6, t7⟩ := hSw
                      go_simp
                      with_reducible rfl
                    try simp only [Act.put, List.getElem_toArray, List.getElem_cons_succ, List.getElem_cons_zero, List.setIfInBounds_toArray, List.set_cons_zero, List.set_cons_succ]
                    refine wpAnyH_take (i := 4) (v := ?_) rfl (by kernel_rfl) (by kernel_rfl) (by kernel_rfl) (fun _ _ _ h => h) (Or.inl ⟨by rfl, ?_⟩) (by assumption) ?_
                    rotate_left
                    · intro W hSw
                      obtain ⟨t1, t2, t3, t4, t5, t6, t7⟩ := hSw
                      go_simp
                      with_reducible rfl
                    try simp only [Act.put, List.getElem_toArray, List.getElem_cons_succ, List.getElem_cons_zero, List.setIfInBounds_toArray, List.set_cons_zero, List.set_cons_succ]
                    refine wpAnyH_take (i := 5) (v := ?_) rfl (by kernel_rfl) (by kernel_rfl) (by kernel_rfl) (fun _ _ _ h => h) (Or.inl ⟨by rfl, ?_⟩) (by assumption) ?_
                    rotate_left
                    · intro W hSw
                      obtain ⟨t1, t2, t3, t4, t5, t6, t7⟩ := hSw
                      go_simp
                      with_reducible rfl
                    try simp only [Act.put, List.getElem_toArray, List.getElem_cons_succ, List.getElem_cons_zero, List.setIfInBounds_toArray, List.set_cons_zero, List.set_cons_succ]
                    refine wpAnyH_take (i := 6) (v := ?_) rfl (by kernel_rfl) (by kernel_rfl) (by kernel_rfl) (fun _ _ _ h => h) (Or.inl ⟨by rfl, ?_⟩) (by assumption) ?_
                    rotate_left
                    · intro W hSw
                      obtain ⟨t1, t2, t3, t4, t5, t6, t7⟩ := hSw
                      go_simp
                      with_reducible rfl
                    try simp only [Act.put, List.getElem_toArray, List.getElem_cons_succ, List.getElem_cons_zero, List.setIfInBounds_toArray, List.set_cons_zero, List.set_cons_succ]
                    refine wpAnyH_take (i := 7) (v := ?_) rfl (by kernel_rfl) (by kernel_rfl) (by kernel_rfl) (fun _ _ _ h => h) (Or.inl ⟨by rfl, ?_⟩) (by assumption) ?_
                    rotate_left
                    · intro W hSw
                      obtain ⟨t1, t2, t3, t4, t5, t6, t7⟩ := hSw
                      go_simp
                      with_reducible rfl
                    try simp only [Act.put, List.getElem_toArray, List.getElem_cons_succ, List.getElem_cons_zero, List.setIfInBounds_toArray, List.set_cons_zero, List.set_cons_succ]
                    refine wpAnyH_take (i := 8) (v := ?_) rfl (by kernel_rfl) (by kernel_rfl) (by kernel_rfl) (fun _ _ _ h => h) (Or.inl ⟨by rfl, ?_⟩) (by assumption) ?_
                    rotate_left
                    · intro W hSw
                      obtain ⟨t1, t2, t3, t4, t5, t6, t7⟩ := hSw
                      go_simp
                      with_reducible rfl
                    try simp only [Act.put, List.getElem_toArray, List.getElem_cons_succ, List.getElem_cons_zero, List.setIfInBounds_toArray, List.set_cons_zero, List.set_cons_succ]
                    refine wpAnyH_take (i := 9) (v := ?_) rfl (by kernel_rfl) (by kernel_rfl) (by kernel_rfl) (fun _ _ _ h => h) (Or.inl ⟨by rfl, ?_⟩) (by assumption) ?_
                    rotate_left
                    · intro W hSw
                      obtain ⟨t1, t2, t3, t4, t5, t6, t7⟩ := hSw
                      go_simp
                      with_reducible rfl
                    try simp only [Act.put, List.getElem_toArray, List.getElem_cons_succ, List.getElem_cons_zero, List.setIfInBounds_toArray, List.set_cons_zero, List.set_cons_succ]
                    refine wpAnyH_take (i := 10) (v := ?_) rfl (by kernel_rfl) (by kernel_rfl) (by kernel_rfl) (fun _ _ _ h => h) (Or.inl ⟨by rfl, ?_⟩) (by assumption) ?_
                    rotate_left
                    · intro W hSw
                      obtain ⟨t1, t2, t3, t4, t5, t6, t7⟩ := hSw
                      go_simp
                      with_reducible rfl
                    try simp only [Act.put, List.getElem_toArray, List.getElem_cons_succ, List.getElem_cons_zero, List.setIfInBounds_toArray, List.set_cons_zero, List.set_cons_succ]
                    refine wpAnyH_take (i := 11) (v := ?_) rfl (by kernel_rfl) (by kernel_rfl) (by kernel_rfl) (fun _ _ _ h => h) (Or.inl ⟨by rfl, ?_⟩) (by assumption) ?_
                    rotate_left
                    · intro W hSw
                      obtain ⟨t1, t2, t3, t4, t5, t6, t7⟩ := hSw
                      go_simp
                      with_reducible rfl
                    try simp only [Act.put, List.getElem_toArray, List.getElem_cons_succ, List.getElem_cons_zero, List.setIfInBounds_toArray, List.set_cons_zero, List.set_cons_succ]
                    refine wpAnyH_take (i := 12) (v := ?_) rfl (by kernel_rfl) (by kernel_rfl) (by kernel_rfl) (fun _ _ _ h => h) (Or.inl ⟨by rfl, ?_⟩) (by assumption) ?_
                    rotate_left
                    · intro W hSw
                      obtain ⟨t1, t2, t3, t4, t5, t6, t7⟩ := hSw
                      go_simp
                      with_reducible rfl
                    try simp only [Act.put, List.getElem_toArray, List.getElem_cons_succ, List.getElem_cons_zero, List.setIfInBounds_toArray, List.set_cons_zero, List.set_cons_succ]
                    refine wpAnyH_take (i := 14) (v := ?_) rfl (by kernel_rfl) (by kernel_rfl) (by kernel_rfl) (fun _ _ _ h => h) (Or.inl ⟨by rfl, ?_⟩) (by assumption) ?_
                    rotate_left
                    · intro W hSw
                      obtain ⟨t1, t2, t3, t4, t5, t6, t7⟩ := hSw
                      go_simp
                      with_reducible rfl
                    try simp only [Act.put, List.getElem_toArray, List.getElem_cons_succ, List.getElem_cons_zero, List.setIfInBounds_toArray, List.set_cons_zero, List.set_cons_succ]
                    refine wpAnyH_take (i := 15) (v := ?_) rfl (by kernel_rfl) (by kernel_rfl) (by kernel_rfl) (fun _ _ _ h => h) (Or.inl ⟨by rfl, ?_⟩) (by assumption) ?_
                    rotate_left
                    · intro W hSw
                      obtain ⟨t1, t2, t3, t4, t5, t6, t7⟩ := hSw
                      go_simp
                      with_reducible rfl
                    try simp only [Act.put, List.getElem_toArray, List.getElem_cons_succ, List.getElem_cons_zero, List.setIfInBounds_toArray, List.set_cons_zero, List.set_cons_succ]
                    refine wpAnyH_take (i := 16) (v := ?_) rfl (by kernel_rfl) (by kernel_rfl) (by kernel_rfl) (fun _ _ _ h => h) (Or.inl ⟨by rfl, ?_⟩) (by assumption) ?_
                    rotate_left
                    · intro W hSw
                      obtain ⟨t1, t2, t3, t4, t5, t6, t7⟩ := hSw
                      go_simp
                      with_reducible rfl
                    try simp only [Act.put, List.getElem_toArray, List.getElem_cons_succ, List.getElem_cons_zero, List.setIfInBounds_toArray, List.set_cons_zero, List.set_cons_succ]
                    refine wpAnyH_take (i := 17) (v := ?_) rfl (by kernel_rfl) (by kernel_rfl) (by kernel_rfl) (fun _ _ _ h => h) (Or.inl ⟨by rfl, ?_⟩) (by assumption) ?_
                    rotate_left
                    · intro W hSw
                      obtain ⟨t1, t2, t3, t4, t5, t6, t7⟩ := hSw
                      go_simp
                      with_reducible rfl
                    try simp only [Act.put, List.getElem_toArray, List.getElem_cons_succ, List.getElem_cons_zero, List.setIfInBounds_toArray, List.set_cons_zero, List.set_cons_succ]
                    refine wpAnyH_take (i := 18) (v := ?_) rfl (by kernel_rfl) (by kernel_rfl) (by kernel_rfl) (fun _ _ _ h => h) (Or.inl ⟨by rfl, ?_⟩) (by assumption) ?_
                    rotate_left
                    · intro W hSw
                      obtain ⟨t1, t2, t3, t4, t5, t6, t7⟩ := hSw
                      go_simp
                      with_reducible rfl
                    try simp only [Act.put, List.getElem_toArray, List.getElem_cons_succ, List.getElem_cons_zero, List.setIfInBounds_toArray, List.set_cons_zero, List.set_cons_succ]
                    refine wpAnyH_take (i := 19) (v := ?_) rfl (by kernel_rfl) (by kernel_rfl) (by kernel_rfl) (fun _ _ _ h => h) (Or.inl ⟨by rfl, ?_⟩) (by assumption) ?_
                    rotate_left
                    · intro W hSw
                      obtain ⟨t1, t2, t3, t4, t5, t6, t7⟩ := hSw
                      go_simp
                      with_reducible rfl
                    try simp only [Act.put, List.getElem_toArray, List.getElem_cons_succ, List.getElem_cons_zero, List.setIfInBounds_toArray, List.set_cons_zero, List.set_cons_succ]
                    refine wpAnyH_ready (rs := [13, 20]) (by kernel_rfl) (by simp) ?_
                    refine AllReadyH.cons (o := _) rfl (fun K' hK => ?_) ?_
                    · go_simp
                      refine hK.out _ _ (by assumption) (fun hHeld => ?_)
                      clear hK K'
                      try simp only [Act.put, List.getElem_toArray, List.getElem_cons_succ, List.getElem_cons_zero, List.setIfInBounds_toArray, List.set_cons_zero, List.set_cons_succ]
                      refine wpAnyH_ready (rs := [20]) (by kernel_rfl) (by simp) ?_
                      refine AllReadyH.cons (o := _) rfl (fun K' hK => ?_) ?_
                      · go_simp
                        refine (CT3.out _).mono ?_
                        rintro e w7 ⟨rfl, hg7⟩
                        go_wp2_with fail
                        refine hK.out _ _ (hHeld.kept hg7) (fun hHeld => ?_)
                        clear hK K'
                        try simp only [Act.put, List.getElem_toArray, List.getElem_cons_succ, List.getElem_cons_zero, List.setIfInBounds_toArray, List.set_cons_zero, List.set_cons_succ]
                        refine wpAnyH_ready (rs := [21]) (by kernel_rfl) (by simp) ?_
                        refine AllReadyH.cons (o := _) rfl (fun K' hK => ?_) ?_
                        · go_simp
                          refine (CO3.out _).mono ?_
                          rintro e w8 ⟨rfl, hg8⟩
                          go_wp2_with fail
                          refine hK.out _ _ (hHeld.kept hg8) (fun hHeld => ?_)
                          clear hK K'
                          try simp only [Act.put, List.getElem_toArray, List.getElem_cons_succ, List.getElem_cons_zero, List.setIfInBounds_toArray, List.set_cons_zero, List.set_cons_succ]
                          refine wpAnyH_take (i := 22) (v := ?_) rfl (by kernel_rfl) (by kernel_rfl) (by kernel_rfl) (fun _ _ _ h => h) (Or.inl ⟨by rfl, ?_⟩) (by assumption) ?_
                          rotate_left
                          · intro W hSw
                            obtain ⟨t1, t2, t3, t4, t5, t6, t7⟩ := hSw
                            go_simp
                            with_reducible rfl
                          try simp only [Act.put, List.getElem_toArray, List.getElem_cons_succ, List.getElem_cons_zero, List.setIfInBounds_toArray, List.set_cons_zero, List.set_cons_succ]
                          refine wpAnyH_ready (rs := [23]) (by kernel_rfl) (by simp) ?_
                          refine AllReadyH.cons (o := _) rfl (fun K' hK => ?_) ?_
                          · have gA := grown_trans (grown_trans (grown_drew (grown_refl _ _)) hg7) hg8
                            have X8 := X.out.kept gA
                            obtain ⟨q0, q1⟩ := (X8.lies t htn').cell hun'
                            have z0 := (X8.lies t htn').fz (u * 2)
                            have z1 := (X8.lies t htn').fz (u * 2 + 1)
                            clear X8
                            go_simp
                            refine hK.out _ _ ((P19.out _ _ gA rfl).2.2.2.2) (fun hHeld => ?_)
                            clear hK K'
                            try simp only [Act.put, List.getElem_toArray, List.getElem_cons_succ, List.getElem_cons_zero, List.setIfInBounds_toArray, List.set_cons_zero, List.set_cons_succ]
                            refine wpAnyH_done (by kernel_rfl) ?_ _
                            go_wp2_with fail
                            go_roundw
                            case rel =>
                              obtain ⟨x1, x2, x3, x4, _⟩ := P19.out _ _ gA rfl
                              exact ⟨u + 1, by omega, by simp, x1, x2, x3, x4⟩
                            case measure => simp [intOf]; omega
                          exact AllReadyH.nil
                        exact AllReadyH.nil
                      exact AllReadyH.nil
                    refine AllReadyH.cons (o := _) rfl (fun K' hK => ?_) ?_
                    · go_simp
                      refine (CT3.out _).mono ?_
                      rintro e w7 ⟨rfl, hg7⟩
                      go_wp2_with fail
                      refine hK.out _ _ (hHeld.kept hg7) (fun hHeld => ?_)
                      clear hK K'
                      try simp only [Act.put, List.getElem_toArray, List.getElem_cons_succ, List.getElem_cons_zero, List.setIfInBounds_toArray, List.set_cons_zero, List.set_cons_succ]
                      refine wpAnyH_ready (rs := [13]) (by kernel_rfl) (by simp) ?_
                      refine AllReadyH.cons (o := _) rfl (fun K' hK => ?_) ?_
                      · have r0' := (grown_trans (grown_drew (grown_refl _ _)) hg7).cell r0 (by simp)
                        have r1' := (grown_trans (grown_drew (grown_refl _ _)) hg7).cell r1 (by simp)
                        go_simp
                        refine hK.out _ _ (by assumption) (fun hHeld => ?_)
                        clear hK K'
                        try simp only [Act.put, List.getElem_toArray, List.getElem_cons_succ, List.getElem_cons_zero, List.setIfInBounds_toArray, List.set_cons_zero, List.set_cons_succ]
                        refine wpAnyH_ready (rs := [21]) (by kernel_rfl) (by simp) ?_
                        refine AllReadyH.cons (o := _) rfl (fun K' hK => ?_) ?_
                        · go_simp
                          refine (CO3.out _).mono ?_
                          rintro e w8 ⟨rfl, hg8⟩
                          go_wp2_with fail
                          refine hK.out _ _ (hHeld.kept hg8) (fun hHeld => ?_)
                          clear hK K'
                          try simp only [Act.put, List.getElem_toArray, List.getElem_cons_succ, List.getElem_cons_zero, List.setIfInBounds_toArray, List.set_cons_zero, List.set_cons_succ]
                          refine wpAnyH_take (i := 22) (v := ?_) rfl (by kernel_rfl) (by kernel_rfl) (by kernel_rfl) (fun _ _ _ h => h) (Or.inl ⟨by rfl, ?_⟩) (by assumption) ?_
                          rotate_left
                          · intro W hSw
                            obtain ⟨t1, t2, t3, t4, t5, t6, t7⟩ := hSw
                            go_simp
                            with_reducible rfl
                          try simp only [Act.put, List.getElem_toArray, List.getElem_cons_succ, List.getElem_cons_zero, List.setIfInBounds_toArray, List.set_cons_zero, List.set_cons_succ]
                          refine wpAnyH_ready (rs := [23]) (by kernel_rfl) (by simp) ?_
                          refine AllReadyH.cons (o := _) rfl (fun K' hK => ?_) ?_
                          · have gA := grown_trans (grown_trans (grown_drew (grown_refl _ _)) hg7) hg8
                            have X8 := X.out.kept gA
                            obtain ⟨q0, q1⟩ := (X8.lies t htn').cell hun'
                            have z0 := (X8.lies t htn').fz (u * 2)
                            have z1 := (X8.lies t htn').fz (u * 2 + 1)
                            clear X8
                            go_simp
                            refine hK.out _ _ ((P19.out _ _ gA rfl).2.2.2.2) (fun hHeld => ?_)
                            clear hK K'
                            try simp only [Act.put, List.getElem_toArray, List.getElem_cons_succ, List.getElem_cons_zero, List.setIfInBounds_toArray, List.set_cons_zero, List.set_cons_succ]
                            refine wpAnyH_done (by kernel_rfl) ?_ _
                            go_wp2_with fail
                            go_roundw
                            case rel =>
                              obtain ⟨x1, x2, x3, x4, _⟩ := P19.out _ _ gA rfl
                              exact ⟨u + 1, by omega, by simp, x1, x2, x3, x4⟩
                            case measure => simp [intOf]; omega
                          exact AllReadyH.nil
                        exact AllReadyH.nil
                      exact AllReadyH.nil
                    exact AllReadyH.nil

                  · have hui : ¬ (u : Int) < (s : Int) := by omega
                    have hue : s = u := by omega
                    subst hue
                    obtain ⟨_, r0, r1⟩ := X.out.at (Nat.le_refl _) htn'
                    rw [midE_here] at r0 r1
                    have z1 := SZ.out.2 t htn'
                    have z2 := SZ.out.2 s hs
                    have z3 := (SZ.out.to hs htn').2
                    have z4 := (SZ.out.then hs htn' hs).2
                    rw [HTo.out] at z3 z4
                    obtain ⟨⟨xT, xk⟩, hx⟩ : ∃ x : Sy, en t = x := ⟨_, rfl⟩
                    obtain ⟨⟨vT, vk⟩, hv⟩ : ∃ x : Sy, (yT, yk) = x := ⟨_, rfl⟩
                    have hv2 := HAg.out.2.trans hv
                    rw [hx] at r0 r1 z1
                    rw [hv2] at z2 z4
                    obtain ⟨⟨mT, mk'⟩, hm⟩ : ∃ x : Sy, thenY (oT, ok) (vT, vk) = x := ⟨_, rfl⟩
                    rw [hm] at z4
                    obtain ⟨⟨qT, qk⟩, hq⟩ : ∃ x : Sy, orY (xT, xk) (mT, mk') = x := ⟨_, rfl⟩
                    have HQ : Hid (orY (en t) (thenY (toY ld s t) (en s)) = (qT, qk)) := by
                      show _ = _
                      rw [hx, hv2, HTo.out, hm, hq]
                    have CT3 : Hid (∀ V, Calls Try.prog 25 #[.agg #[.string oT, .int .i64 (ok : Int)], .agg #[.string vT, .int .i64 (vk : Int)]] V (Says (.agg #[.string mT, .int .i64 (mk' : Int)]) V)) := fun V => by
                      have := CT.out (oT, ok) (vT, vk) V (by simp only at z3 ⊢; omega) (by simp only at z2 ⊢; omega)
                      rw [hm] at this; exact this
                    have CO3 : Hid (∀ V, Calls Try.prog 26 #[.agg #[.string xT, .int .i64 (xk : Int)], .agg #[.string mT, .int .i64 (mk' : Int)]] V (Says (.agg #[.string qT, .int .i64 (qk : Int)]) V)) := fun V => by
                      have := CO.out (xT, xk) (mT, mk') V (by simp only at z1 ⊢; omega) (by simp only at z4 ⊢; omega)
                      rw [hq] at this; exact this
                    have P21 : Hid (∀ V F, wr.grownBy V none → F = (V.setCell ⟨W1.heap.size, t * 3 + 1, none⟩ (.string qT)).setCell ⟨W1.heap.size, t * 3 + 2, none⟩ (.int .i64 (qk : Int)) → AllW W1 W1.heap.size n n gs (midL ld s (t + 1) 0) (midE ld en s (t + 1)) F ∧ C3 F bg (.slice (some ⟨gs s, 0, none⟩) n n) (yT, yk) ∧ C2 F ba aT (ak : Int) ∧ S21 bg bt (oT, ok) (vT, vk) F) := fun V F hV e => by
                      rw [← hv]
                      exact put21 (q := (qT, qk)) (a := (aT, ak)) (o := (oT, ok)) hs hts HQ.out HB.out.1 HB.out.2.2 HBt.out.2 (X.out.kept hV) (BG.out.kept hV) (BA.out.kept hV) (BT.out.kept hV) e
                    have S0 : Hid (S21 bg bt (oT, ok) (vT, vk) wr) := by
                      rw [← hv]
                      exact ⟨BG.out.get.2.1, BG.out.get.2.2, BT.out.get.1, BT.out.get.2, trivial⟩
                    clear z1 z2 z3 z4 hx hv hv2 hm hq
                    go_wp2_with fail
                    refine wp_region_held_drew (S := S21 bg bt (oT, ok) (vT, vk)) (by kernel_rfl) (S0.out.kept (grown_drew (grown_refl _ _))) (fun hHeld => ?_)
                    refine wpAnyH_take (i := 0) (v := ?_) rfl (by kernel_rfl) (by kernel_rfl) (by kernel_rfl) (fun _ _ _ h => h) (Or.inl ⟨by rfl, ?_⟩) (by assumption) ?_
                    rotate_left
                    · intro W hSw
                      obtain ⟨t1, t2, t3, t4, t5⟩ := hSw
                      go_simp
                      with_reducible rfl
                    try simp only [Act.put, List.getElem_toArray, List.getElem_cons_succ, List.getElem_cons_zero, List.setIfInBounds_toArray, List.set_cons_zero, List.set_cons_succ]
                    refine wpAnyH_take (i := 1) (v := ?_) rfl (by kernel_rfl) (by kernel_rfl) (by kernel_rfl) (fun _ _ _ h => h) (Or.inl ⟨by rfl, ?_⟩) (by assumption) ?_
                    rotate_left
                    · intro W hSw
                      obtain ⟨t1, t2, t3, t4, t5⟩ := hSw
                      go_simp
                      with_reducible rfl
                    try simp only [Act.put, List.getElem_toArray, List.getElem_cons_succ, List.getElem_cons_zero, List.setIfInBounds_toArray, List.set_cons_zero, List.set_cons_succ]
                    refine wpAnyH_take (i := 2) (v := ?_) rfl (by kernel_rfl) (by kernel_rfl) (by kernel_rfl) (fun _ _ _ h => h) (Or.inl ⟨by rfl, ?_⟩) (by assumption) ?_
                    rotate_left
                    · intro W hSw
                      obtain ⟨t1, t2, t3, t4, t5⟩ := hSw
                      go_simp
                      with_reducible rfl
                    try simp only [Act.put, List.getElem_toArray, List.getElem_cons_succ, List.getElem_cons_zero, List.setIfInBounds_toArray, List.set_cons_zero, List.set_cons_succ]
                    refine wpAnyH_take (i := 3) (v := ?_) rfl (by kernel_rfl) (by kernel_rfl) (by kernel_rfl) (fun _ _ _ h => h) (Or.inl ⟨by rfl, ?_⟩) (by assumption) ?_
                    rotate_left
                    · intro W hSw
                      obtain ⟨t1, t2, t3, t4, t5⟩ := hSw
                      go_simp
                      with_reducible rfl
                    try simp only [Act.put, List.getElem_toArray, List.getElem_cons_succ, List.getElem_cons_zero, List.setIfInBounds_toArray, List.set_cons_zero, List.set_cons_succ]
                    refine wpAnyH_take (i := 4) (v := ?_) rfl (by kernel_rfl) (by kernel_rfl) (by kernel_rfl) (fun _ _ _ h => h) (Or.inl ⟨by rfl, ?_⟩) (by assumption) ?_
                    rotate_left
                    · intro W hSw
                      obtain ⟨t1, t2, t3, t4, t5⟩ := hSw
                      go_simp
                      with_reducible rfl
                    try simp only [Act.put, List.getElem_toArray, List.getElem_cons_succ, List.getElem_cons_zero, List.setIfInBounds_toArray, List.set_cons_zero, List.set_cons_succ]
                    refine wpAnyH_take (i := 5) (v := ?_) rfl (by kernel_rfl) (by kernel_rfl) (by kernel_rfl) (fun _ _ _ h => h) (Or.inl ⟨by rfl, ?_⟩) (by assumption) ?_
                    rotate_left
                    · intro W hSw
                      obtain ⟨t1, t2, t3, t4, t5⟩ := hSw
                      go_simp
                      with_reducible rfl
                    try simp only [Act.put, List.getElem_toArray, List.getElem_cons_succ, List.getElem_cons_zero, List.setIfInBounds_toArray, List.set_cons_zero, List.set_cons_succ]
                    refine wpAnyH_take (i := 7) (v := ?_) rfl (by kernel_rfl) (by kernel_rfl) (by kernel_rfl) (fun _ _ _ h => h) (Or.inl ⟨by rfl, ?_⟩) (by assumption) ?_
                    rotate_left
                    · intro W hSw
                      obtain ⟨t1, t2, t3, t4, t5⟩ := hSw
                      go_simp
                      with_reducible rfl
                    try simp only [Act.put, List.getElem_toArray, List.getElem_cons_succ, List.getElem_cons_zero, List.setIfInBounds_toArray, List.set_cons_zero, List.set_cons_succ]
                    refine wpAnyH_take (i := 8) (v := ?_) rfl (by kernel_rfl) (by kernel_rfl) (by kernel_rfl) (fun _ _ _ h => h) (Or.inl ⟨by rfl, ?_⟩) (by assumption) ?_
                    rotate_left
                    · intro W hSw
                      obtain ⟨t1, t2, t3, t4, t5⟩ := hSw
                      go_simp
                      with_reducible rfl
                    try simp only [Act.put, List.getElem_toArray, List.getElem_cons_succ, List.getElem_cons_zero, List.setIfInBounds_toArray, List.set_cons_zero, List.set_cons_succ]
                    refine wpAnyH_take (i := 9) (v := ?_) rfl (by kernel_rfl) (by kernel_rfl) (by kernel_rfl) (fun _ _ _ h => h) (Or.inl ⟨by rfl, ?_⟩) (by assumption) ?_
                    rotate_left
                    · intro W hSw
                      obtain ⟨t1, t2, t3, t4, t5⟩ := hSw
                      go_simp
                      with_reducible rfl
                    try simp only [Act.put, List.getElem_toArray, List.getElem_cons_succ, List.getElem_cons_zero, List.setIfInBounds_toArray, List.set_cons_zero, List.set_cons_succ]
                    refine wpAnyH_ready (rs := [6, 10]) (by kernel_rfl) (by simp) ?_
                    refine AllReadyH.cons (o := _) rfl (fun K' hK => ?_) ?_
                    · go_simp
                      refine hK.out _ _ (by assumption) (fun hHeld => ?_)
                      clear hK K'
                      try simp only [Act.put, List.getElem_toArray, List.getElem_cons_succ, List.getElem_cons_zero, List.setIfInBounds_toArray, List.set_cons_zero, List.set_cons_succ]
                      refine wpAnyH_ready (rs := [10]) (by kernel_rfl) (by simp) ?_
                      refine AllReadyH.cons (o := _) rfl (fun K' hK => ?_) ?_
                      · go_simp
                        refine (CT3.out _).mono ?_
                        rintro e w7 ⟨rfl, hg7⟩
                        go_wp2_with fail
                        refine hK.out _ _ (hHeld.kept hg7) (fun hHeld => ?_)
                        clear hK K'
                        try simp only [Act.put, List.getElem_toArray, List.getElem_cons_succ, List.getElem_cons_zero, List.setIfInBounds_toArray, List.set_cons_zero, List.set_cons_succ]
                        refine wpAnyH_ready (rs := [11]) (by kernel_rfl) (by simp) ?_
                        refine AllReadyH.cons (o := _) rfl (fun K' hK => ?_) ?_
                        · go_simp
                          refine (CO3.out _).mono ?_
                          rintro e w8 ⟨rfl, hg8⟩
                          go_wp2_with fail
                          refine hK.out _ _ (hHeld.kept hg8) (fun hHeld => ?_)
                          clear hK K'
                          try simp only [Act.put, List.getElem_toArray, List.getElem_cons_succ, List.getElem_cons_zero, List.setIfInBounds_toArray, List.set_cons_zero, List.set_cons_succ]
                          refine wpAnyH_take (i := 12) (v := ?_) rfl (by kernel_rfl) (by kernel_rfl) (by kernel_rfl) (fun _ _ _ h => h) (Or.inl ⟨by rfl, ?_⟩) (by assumption) ?_
                          rotate_left
                          · intro W hSw
                            obtain ⟨t1, t2, t3, t4, t5⟩ := hSw
                            go_simp
                            with_reducible rfl
                          try simp only [Act.put, List.getElem_toArray, List.getElem_cons_succ, List.getElem_cons_zero, List.setIfInBounds_toArray, List.set_cons_zero, List.set_cons_succ]
                          refine wpAnyH_take (i := 13) (v := ?_) rfl (by kernel_rfl) (by kernel_rfl) (by kernel_rfl) (fun _ _ _ h => h) (Or.inl ⟨by rfl, ?_⟩) (by assumption) ?_
                          rotate_left
                          · intro W hSw
                            obtain ⟨t1, t2, t3, t4, t5⟩ := hSw
                            go_simp
                            with_reducible rfl
                          try simp only [Act.put, List.getElem_toArray, List.getElem_cons_succ, List.getElem_cons_zero, List.setIfInBounds_toArray, List.set_cons_zero, List.set_cons_succ]
                          refine wpAnyH_ready (rs := [14]) (by kernel_rfl) (by simp) ?_
                          refine AllReadyH.cons (o := _) rfl (fun K' hK => ?_) ?_
                          · have gA := grown_trans (grown_trans (grown_drew (grown_refl _ _)) hg7) hg8
                            have X8 := X.out.kept gA
                            obtain ⟨_, q0, q1⟩ := X8.at (Nat.le_refl _) htn'
                            have z0 := X8.fz (t * 3 + 1)
                            have z1 := X8.fz (t * 3 + 2)
                            clear X8
                            go_simp
                            refine hK.out _ _ ((P21.out _ _ gA rfl).2.2.2) (fun hHeld => ?_)
                            clear hK K'
                            try simp only [Act.put, List.getElem_toArray, List.getElem_cons_succ, List.getElem_cons_zero, List.setIfInBounds_toArray, List.set_cons_zero, List.set_cons_succ]
                            refine wpAnyH_done (by kernel_rfl) ?_ _
                            go_wp2_with fail
                            go_roundw
                            case rel =>
                              obtain ⟨x1, x2, x3, _⟩ := P21.out _ _ gA rfl
                              exact ⟨t + 1, by omega, by simp, x1, x2, x3⟩
                            case measure => simp [intOf]; omega
                          exact AllReadyH.nil
                        exact AllReadyH.nil
                      exact AllReadyH.nil
                    refine AllReadyH.cons (o := _) rfl (fun K' hK => ?_) ?_
                    · go_simp
                      refine (CT3.out _).mono ?_
                      rintro e w7 ⟨rfl, hg7⟩
                      go_wp2_with fail
                      refine hK.out _ _ (hHeld.kept hg7) (fun hHeld => ?_)
                      clear hK K'
                      try simp only [Act.put, List.getElem_toArray, List.getElem_cons_succ, List.getElem_cons_zero, List.setIfInBounds_toArray, List.set_cons_zero, List.set_cons_succ]
                      refine wpAnyH_ready (rs := [6]) (by kernel_rfl) (by simp) ?_
                      refine AllReadyH.cons (o := _) rfl (fun K' hK => ?_) ?_
                      · have r0' := (grown_trans (grown_drew (grown_refl _ _)) hg7).cell r0 (by simp)
                        have r1' := (grown_trans (grown_drew (grown_refl _ _)) hg7).cell r1 (by simp)
                        go_simp
                        refine hK.out _ _ (by assumption) (fun hHeld => ?_)
                        clear hK K'
                        try simp only [Act.put, List.getElem_toArray, List.getElem_cons_succ, List.getElem_cons_zero, List.setIfInBounds_toArray, List.set_cons_zero, List.set_cons_succ]
                        refine wpAnyH_ready (rs := [11]) (by kernel_rfl) (by simp) ?_
                        refine AllReadyH.cons (o := _) rfl (fun K' hK => ?_) ?_
                        · go_simp
                          refine (CO3.out _).mono ?_
                          rintro e w8 ⟨rfl, hg8⟩
                          go_wp2_with fail
                          refine hK.out _ _ (hHeld.kept hg8) (fun hHeld => ?_)
                          clear hK K'
                          try simp only [Act.put, List.getElem_toArray, List.getElem_cons_succ, List.getElem_cons_zero, List.setIfInBounds_toArray, List.set_cons_zero, List.set_cons_succ]
                          refine wpAnyH_take (i := 12) (v := ?_) rfl (by kernel_rfl) (by kernel_rfl) (by kernel_rfl) (fun _ _ _ h => h) (Or.inl ⟨by rfl, ?_⟩) (by assumption) ?_
                          rotate_left
                          · intro W hSw
                            obtain ⟨t1, t2, t3, t4, t5⟩ := hSw
                            go_simp
                            with_reducible rfl
                          try simp only [Act.put, List.getElem_toArray, List.getElem_cons_succ, List.getElem_cons_zero, List.setIfInBounds_toArray, List.set_cons_zero, List.set_cons_succ]
                          refine wpAnyH_take (i := 13) (v := ?_) rfl (by kernel_rfl) (by kernel_rfl) (by kernel_rfl) (fun _ _ _ h => h) (Or.inl ⟨by rfl, ?_⟩) (by assumption) ?_
                          rotate_left
                          · intro W hSw
                            obtain ⟨t1, t2, t3, t4, t5⟩ := hSw
                            go_simp
                            with_reducible rfl
                          try simp only [Act.put, List.getElem_toArray, List.getElem_cons_succ, List.getElem_cons_zero, List.setIfInBounds_toArray, List.set_cons_zero, List.set_cons_succ]
                          refine wpAnyH_ready (rs := [14]) (by kernel_rfl) (by simp) ?_
                          refine AllReadyH.cons (o := _) rfl (fun K' hK => ?_) ?_
                          · have gA := grown_trans (grown_trans (grown_drew (grown_refl _ _)) hg7) hg8
                            have X8 := X.out.kept gA
                            obtain ⟨_, q0, q1⟩ := X8.at (Nat.le_refl _) htn'
                            have z0 := X8.fz (t * 3 + 1)
                            have z1 := X8.fz (t * 3 + 2)
                            clear X8
                            go_simp
                            refine hK.out _ _ ((P21.out _ _ gA rfl).2.2.2) (fun hHeld => ?_)
                            clear hK K'
                            try simp only [Act.put, List.getElem_toArray, List.getElem_cons_succ, List.getElem_cons_zero, List.setIfInBounds_toArray, List.set_cons_zero, List.set_cons_succ]
                            refine wpAnyH_done (by kernel_rfl) ?_ _
                            go_wp2_with fail
                            go_roundw
                            case rel =>
                              obtain ⟨x1, x2, x3, _⟩ := P21.out _ _ gA rfl
                              exact ⟨t + 1, by omega, by simp, x1, x2, x3⟩
                            case measure => simp [intOf]; omega
                          exact AllReadyH.nil
                        exact AllReadyH.nil
                      exact AllReadyH.nil
                    exact AllReadyH.nil

            · have hti : ¬ (t : Int) < (s : Int) := by omega
              have hte : s = t := by omega
              subst hte
              go_wp2_with fail
              obtain ⟨k, hk⟩ : ∃ k, s = k + 1 := ⟨s - 1, by omega⟩
              subst hk
              refine ⟨⟨k, 4 * A + 18, ldY ld (k + 1), enY ld en (k + 1), by omega, by simp, ?_, ?_, ?_, HR.out⟩, ?_⟩
              · rw [Nat.pow_succ] at hA
                have e : (4 * A + 18 + 6) * 4 ^ k = (A + 6) * (4 ^ k * 4) := by
                  rw [← Nat.mul_assoc, Nat.mul_right_comm]
                  congr 1
                  omega
                rw [e]; exact hA
              · have := SZ.out.round hs
                exact ⟨fun i j hi hj => Nat.le_trans (this.1 i j hi hj) (by omega), fun i hi => Nat.le_trans (this.2 i hi) (by omega)⟩
              · exact (X.out.congr (Nat.le_refl _) (fun i _ j _ => midL_end ld (k + 1) i j)).congrE (fun i _ => midE_end ld en (k + 1) i)
              · simp [intOf]
        · have hsi : ¬ (0 : Int) < (s : Int) := by omega
          have hse : s = 0 := by omega
          subst hse
          have h0n : (0 : Int) < (n : Int) := by omega
          obtain ⟨p0, p1, p2⟩ := X.out.at (Nat.le_refl _) hs
          obtain ⟨r0, r1⟩ := (X.out.lies 0 hs).cell hs
          simp only [Nat.zero_mul, Nat.zero_add] at p0 p1 p2 r0 r1
          have hR : thenY (againY (ld 0 0)) (en 0) = RT := HR.out
          have z1 := SZ.out.1 0 0 hs hs
          have z2 := SZ.out.2 0 hs
          have z3 := again_sz (ld 0 0)
          have GA : Hid (w.grownBy wr none) := grown_trans G1.out X.out.gr
          obtain ⟨⟨xT, xk⟩, hx⟩ : ∃ x : Sy, ld 0 0 = x := ⟨_, rfl⟩
          obtain ⟨⟨yT, yk⟩, hy⟩ : ∃ x : Sy, en 0 = x := ⟨_, rfl⟩
          rw [hx] at hR r0 r1 z1 z3
          rw [hy] at hR p1 p2 z2
          obtain ⟨⟨aT, ak⟩, ha⟩ : ∃ x : Sy, againY (xT, xk) = x := ⟨_, rfl⟩
          obtain ⟨rT, rk⟩ := RT
          have S0 : Hid (S23 W1.heap.size (gs 0) n (xT, xk) (yT, yk) wr) := ⟨p0, p1, p2, r0, r1⟩
          simp only [Nat.pow_zero, Nat.mul_one] at hA z1 z2 z3
          have CA2 : Hid (∀ V, Calls Try.prog 24 #[.agg #[.string xT, .int .i64 (xk : Int)]] V (Says (.agg #[.string aT, .int .i64 (ak : Int)]) V)) := fun V => by
            have := CA.out (xT, xk) V (by simp only; omega)
            rw [ha] at this; exact this
          have CT2 : Hid (∀ V, Calls Try.prog 25 #[.agg #[.string aT, .int .i64 (ak : Int)], .agg #[.string yT, .int .i64 (yk : Int)]] V (Says (.agg #[.string rT, .int .i64 (rk : Int)]) V)) := fun V => by
            rw [ha] at hR z3
            have := CT.out (aT, ak) (yT, yk) V (by simp only at z3 ⊢; omega) (by simp only; omega)
            rw [hR] at this; exact this
          have hft := fun V => field_text rT (rk : Int) V
          clear p0 p1 p2 r0 r1 hR z1 z2 z3 hx hy ha CO CT CA X SZ HR hA
          go_wp2_with fail
          refine wp_region_held_drew (S := S23 W1.heap.size (gs 0) n (xT, xk) (yT, yk)) (by kernel_rfl) (S0.out.kept (grown_drew (grown_refl _ _))) (fun hHeld => ?_)
          refine wpAnyH_take (i := 0) (v := ?_) rfl (by kernel_rfl) (by kernel_rfl) (by kernel_rfl) (fun _ _ _ h => h) (Or.inl ⟨by rfl, ?_⟩) (by assumption) ?_
          rotate_left
          · intro W hSw
            obtain ⟨t1, t2, t3, t4, t5⟩ := hSw
            go_simp
            with_reducible rfl
          try simp only [Act.put, List.getElem_toArray, List.getElem_cons_succ, List.getElem_cons_zero, List.setIfInBounds_toArray, List.set_cons_zero, List.set_cons_succ]
          refine wpAnyH_take (i := 1) (v := ?_) rfl (by kernel_rfl) (by kernel_rfl) (by kernel_rfl) (fun _ _ _ h => h) (Or.inl ⟨by rfl, ?_⟩) (by assumption) ?_
          rotate_left
          · intro W hSw
            obtain ⟨t1, t2, t3, t4, t5⟩ := hSw
            go_simp
            with_reducible rfl
          try simp only [Act.put, List.getElem_toArray, List.getElem_cons_succ, List.getElem_cons_zero, List.setIfInBounds_toArray, List.set_cons_zero, List.set_cons_succ]
          refine wpAnyH_take (i := 2) (v := ?_) rfl (by kernel_rfl) (by kernel_rfl) (by kernel_rfl) (fun _ _ _ h => h) (Or.inl ⟨by rfl, ?_⟩) (by assumption) ?_
          rotate_left
          · intro W hSw
            obtain ⟨t1, t2, t3, t4, t5⟩ := hSw
            go_simp
            with_reducible rfl
          try simp only [Act.put, List.getElem_toArray, List.getElem_cons_succ, List.getElem_cons_zero, List.setIfInBounds_toArray, List.set_cons_zero, List.set_cons_succ]
          refine wpAnyH_take (i := 3) (v := ?_) rfl (by kernel_rfl) (by kernel_rfl) (by kernel_rfl) (fun _ _ _ h => h) (Or.inl ⟨by rfl, ?_⟩) (by assumption) ?_
          rotate_left
          · intro W hSw
            obtain ⟨t1, t2, t3, t4, t5⟩ := hSw
            go_simp
            with_reducible rfl
          try simp only [Act.put, List.getElem_toArray, List.getElem_cons_succ, List.getElem_cons_zero, List.setIfInBounds_toArray, List.set_cons_zero, List.set_cons_succ]
          refine wpAnyH_take (i := 4) (v := ?_) rfl (by kernel_rfl) (by kernel_rfl) (by kernel_rfl) (fun _ _ _ h => h) (Or.inl ⟨by rfl, ?_⟩) (by assumption) ?_
          rotate_left
          · intro W hSw
            obtain ⟨t1, t2, t3, t4, t5⟩ := hSw
            go_simp
            with_reducible rfl
          try simp only [Act.put, List.getElem_toArray, List.getElem_cons_succ, List.getElem_cons_zero, List.setIfInBounds_toArray, List.set_cons_zero, List.set_cons_succ]
          refine wpAnyH_take (i := 5) (v := ?_) rfl (by kernel_rfl) (by kernel_rfl) (by kernel_rfl) (fun _ _ _ h => h) (Or.inl ⟨by rfl, ?_⟩) (by assumption) ?_
          rotate_left
          · intro W hSw
            obtain ⟨t1, t2, t3, t4, t5⟩ := hSw
            go_simp
            with_reducible rfl
          try simp only [Act.put, List.getElem_toArray, List.getElem_cons_succ, List.getElem_cons_zero, List.setIfInBounds_toArray, List.set_cons_zero, List.set_cons_succ]
          refine wpAnyH_take (i := 7) (v := ?_) rfl (by kernel_rfl) (by kernel_rfl) (by kernel_rfl) (fun _ _ _ h => h) (Or.inl ⟨by rfl, ?_⟩) (by assumption) ?_
          rotate_left
          · intro W hSw
            obtain ⟨t1, t2, t3, t4, t5⟩ := hSw
            go_simp
            with_reducible rfl
          try simp only [Act.put, List.getElem_toArray, List.getElem_cons_succ, List.getElem_cons_zero, List.setIfInBounds_toArray, List.set_cons_zero, List.set_cons_succ]
          refine wpAnyH_take (i := 8) (v := ?_) rfl (by kernel_rfl) (by kernel_rfl) (by kernel_rfl) (fun _ _ _ h => h) (Or.inl ⟨by rfl, ?_⟩) (by assumption) ?_
          rotate_left
          · intro W hSw
            obtain ⟨t1, t2, t3, t4, t5⟩ := hSw
            go_simp
            with_reducible rfl
          try simp only [Act.put, List.getElem_toArray, List.getElem_cons_succ, List.getElem_cons_zero, List.setIfInBounds_toArray, List.set_cons_zero, List.set_cons_succ]
          refine wpAnyH_take (i := 9) (v := ?_) rfl (by kernel_rfl) (by kernel_rfl) (by kernel_rfl) (fun _ _ _ h => h) (Or.inl ⟨by rfl, ?_⟩) (by assumption) ?_
          rotate_left
          · intro W hSw
            obtain ⟨t1, t2, t3, t4, t5⟩ := hSw
            go_simp
            with_reducible rfl
          try simp only [Act.put, List.getElem_toArray, List.getElem_cons_succ, List.getElem_cons_zero, List.setIfInBounds_toArray, List.set_cons_zero, List.set_cons_succ]
          refine wpAnyH_take (i := 10) (v := ?_) rfl (by kernel_rfl) (by kernel_rfl) (by kernel_rfl) (fun _ _ _ h => h) (Or.inl ⟨by rfl, ?_⟩) (by assumption) ?_
          rotate_left
          · intro W hSw
            obtain ⟨t1, t2, t3, t4, t5⟩ := hSw
            go_simp
            with_reducible rfl
          try simp only [Act.put, List.getElem_toArray, List.getElem_cons_succ, List.getElem_cons_zero, List.setIfInBounds_toArray, List.set_cons_zero, List.set_cons_succ]
          refine wpAnyH_ready (rs := [6]) (by kernel_rfl) (by simp) ?_
          refine AllReadyH.cons (o := _) rfl (fun K' hK => ?_) ?_
          · go_simp
            refine (CA2.out _).mono ?_
            rintro e w5 ⟨rfl, hg5⟩
            go_wp2_with fail
            refine hK.out _ _ (hHeld.kept hg5) (fun hHeld => ?_)
            clear hK K'
            try simp only [Act.put, List.getElem_toArray, List.getElem_cons_succ, List.getElem_cons_zero, List.setIfInBounds_toArray, List.set_cons_zero, List.set_cons_succ]
            refine wpAnyH_ready (rs := [11]) (by kernel_rfl) (by simp) ?_
            refine AllReadyH.cons (o := _) rfl (fun K' hK => ?_) ?_
            · go_simp
              refine (CT2.out _).mono ?_
              rintro e w6 ⟨rfl, hg6⟩
              go_wp2_with fail
              refine hK.out _ _ (hHeld.kept hg6) (fun hHeld => ?_)
              clear hK K'
              try simp only [Act.put, List.getElem_toArray, List.getElem_cons_succ, List.getElem_cons_zero, List.setIfInBounds_toArray, List.set_cons_zero, List.set_cons_succ]
              refine wpAnyH_take (i := 12) (v := ?_) rfl (by kernel_rfl) (by kernel_rfl) (by kernel_rfl) (fun _ _ _ h => h) (Or.inl ⟨by rfl, ?_⟩) (by assumption) ?_
              rotate_left
              · intro W hSw
                obtain ⟨t1, t2, t3, t4, t5⟩ := hSw
                go_simp
                with_reducible rfl
              try simp only [Act.put, List.getElem_toArray, List.getElem_cons_succ, List.getElem_cons_zero, List.setIfInBounds_toArray, List.set_cons_zero, List.set_cons_succ]
              refine wpAnyH_take (i := 13) (v := ?_) rfl (by kernel_rfl) (by kernel_rfl) (by kernel_rfl) (fun _ _ _ h => h) (Or.inl ⟨by rfl, ?_⟩) (by assumption) ?_
              rotate_left
              · intro W hSw
                obtain ⟨t1, t2, t3, t4, t5⟩ := hSw
                go_simp
                with_reducible rfl
              try simp only [Act.put, List.getElem_toArray, List.getElem_cons_succ, List.getElem_cons_zero, List.setIfInBounds_toArray, List.set_cons_zero, List.set_cons_succ]
              refine wpAnyH_done (by kernel_rfl) ?_ _
              go_wp2_with fail
              exact bodyPost_ret (v := .string rT) (by simp [results, Try.results16, go_sem]) rfl ⟨by rw [HWr.out], grown_trans (grown_trans (grown_trans GA.out (grown_drew (grown_refl _ _))) hg5) hg6⟩
            exact AllReadyH.nil
          exact AllReadyH.nil

end Go.Proofs.Yticmfgclkepgoaa
