/- Behind a fault nothing more is told; a node that negates; the variables around, and one more. -/
import Derived.Test.YtaommgnlnfhbfaaKAtom
namespace Go.Proofs.Ytaommgnlnfhbfaa
open Go.RowKit
set_option linter.unusedVariables false

set_option maxHeartbeats 1600000 in
theorem atomK_stop (s : ByteArray) (hs : s.size ≤ 4000) : KStop 34 s := by
  intro n d b c j sc w a cap hc hn hd hl h hsc
  have HP : Hid (∀ W, LRd W b s s.size n d c j → Calls Try.prog 24 #[.pointer (some ⟨b, 0, none⟩)] W fun e w' => e = .returned (.int .u8 ((0 : Nat) : Int)) ∧ W.grownBy w' none) := fun W h1 => by
    have h2 := peekK_any s b s.size n d c j W hs (Nat.le_refl _) h1
    rw [byT_end] at h2
    exact h2
  have HSe : Hid (∀ W, Calls Try.prog 38 #[.int .u8 ((0 : Nat) : Int)] W fun e w' => e = .returned (.bool false) ∧ w' = W) := fun W => isSe_any 0 W
  have HPl : Hid (∀ W, Calls Try.prog 37 #[.int .u8 ((0 : Nat) : Int)] W fun e w' => e = .returned (.bool false) ∧ w' = W) := fun W => isPl_any 0 W
  have HC : Hid (c ≠ 0) := hc
  have hbl := h.lt
  obtain ⟨W0, hW0⟩ : ∃ W0, W0 = w.alloc (.cells #[.int .i64 0, .pointer none, .pointer none, .bool false, .int .i64 0, .int .i64 0] 58) := ⟨_, rfl⟩
  have HW0 : Hid (W0 = w.alloc (.cells #[.int .i64 0, .pointer none, .pointer none, .bool false, .int .i64 0, .int .i64 0] 58)) := hW0
  have S0 : Hid (AtS w b w.heap.size s W0 s.size n d c j 0 0 0) := by
    have g0 : w.grownBy W0 none := by rw [hW0]; exact grown_alloc _ _
    exact ⟨grown_some g0, h.kept g0, by rw [hW0]; exact heap_alloc_new w _⟩
  have HB : Hid (w.heap.size ≠ b) := by show _ ≠ _; omega
  clear hW0 h hsc
  go_enter Try.func34, Try.ntmps34
  go_wp2_with fail
  rw [← HW0.out]
  clear HW0
  refine (HP.out _ S0.out.rd).mono ?_
  rintro e w2 ⟨rfl, hg⟩
  have S2 : Hid (AtS w b w.heap.size s w2 s.size n d c j 0 0 0) := S0.out.idle HB.out hg
  clear hg S0
  go_wp2_with fail
  refine (HSe.out _).mono ?_
  rintro e w3 ⟨rfl, rfl⟩
  go_wp2_with fail
  refine (HPl.out _).mono ?_
  rintro e w4 ⟨rfl, rfl⟩
  go_wp2_with fail
  refine (failK_again s b s.size n d c j 4 _ hs HC.out S2.out.rd).mono ?_
  rintro e w5 ⟨rfl, hg, hr⟩
  have S5 : Hid (AtS w b w.heap.size s w5 s.size n d c j 0 0 0) := S2.out.call HB.out hg hr
  clear hg hr S2
  go_wp2_with fail
  go_ret
  exact ⟨S5.out.gr, S5.out.rd, _, 0, .nil, .nil, false, 0, 0, rfl, .node _ 0 .nil .nil false 0 0 _ _ (Nat.le_refl _) S5.out.nb .nil .nil⟩

theorem partK_stop (s : ByteArray) (hs : s.size ≤ 4000) : KStop 27 s := by
  intro n d b c j sc w a cap hc hn hd hl h hsc
  have HP : Hid (Calls Try.prog 24 #[.pointer (some ⟨b, 0, none⟩)] w fun e w' => e = .returned (.int .u8 0) ∧ w.grownBy w' none) := by
    have h2 := peekK_any s b s.size n d c j w hs (Nat.le_refl _) h
    rw [byT_end] at h2
    exact h2
  have HA : Hid (∀ W, w.grownBy W none → Calls Try.prog 34 #[.pointer (some ⟨b, 0, none⟩), .slice a sc.length cap] W fun e w' => W.grownBy w' (some b) ∧ LRd w' b s s.size n d c j ∧ ∃ (v : Value) (k : Nat) (l r : TrL) (se : Bool) (x y : Int), e = .returned v ∧ TreeL (fun k => W.heap.size ≤ k) w' v (.node k l r se x y)) := fun W hW => atomK_stop s hs n d b c j sc W a cap hc hn hd hl (h.kept hW) (hsc.kept (grown_some hW))
  clear h hsc
  generalize sc.length = m at *
  go_enter Try.func27, Try.ntmps27
  go_wp2_with fail
  refine HP.out.mono ?_
  rintro e w2 ⟨rfl, hg2⟩
  have G2 : Hid (w.grownBy w2 none) := hg2
  clear hg2
  go_wp2_with fail
  refine (HA.out _ G2.out).mono ?_
  rintro e w3 ⟨hg3, hr3, v, k, l, r, se, x, y, rfl, ht3⟩
  have E : Hid (w.grownBy w3 (some b) ∧ LRd w3 b s s.size n d c j ∧ ∃ (v' : Value) (k : Nat) (l r : TrL) (se : Bool) (x y : Int), Ending.returned v = .returned v' ∧ TreeL (fun k => w.heap.size ≤ k) w3 v' (.node k l r se x y)) := ⟨grown_trans (grown_some G2.out) hg3, hr3, v, k, l, r, se, x, y, rfl, ht3.from G2.out.size⟩
  clear hg3 hr3 ht3
  go_wp2_with fail
  go_ret
  exact E.out

theorem termK_stop (s : ByteArray) (hs : s.size ≤ 4000) : KStop 23 s := by
  intro n d b c j sc w a cap hc hn hd hl h hsc
  have HI : Hid (Calls Try.prog 27 #[.pointer (some ⟨b, 0, none⟩), .slice a sc.length cap] w fun e w' => w.grownBy w' (some b) ∧ LRd w' b s s.size n d c j ∧ ∃ (v : Value) (k : Nat) (l r : TrL) (se : Bool) (x y : Int), e = .returned v ∧ TreeL (fun k => w.heap.size ≤ k) w' v (.node k l r se x y)) := partK_stop s hs n d b c j sc w a cap hc hn hd hl h hsc
  have HP : Hid (∀ W, LRd W b s s.size n d c j → Calls Try.prog 24 #[.pointer (some ⟨b, 0, none⟩)] W fun e w' => e = .returned (.int .u8 0) ∧ W.grownBy w' none) := fun W h1 => by
    have h2 := peekK_any s b s.size n d c j W hs (Nat.le_refl _) h1
    rw [byT_end] at h2
    exact h2
  clear h hsc
  generalize sc.length = m at *
  go_enter Try.func23, Try.ntmps23
  go_wp2_with fail
  refine HI.out.mono ?_
  rintro e w2 ⟨hg2, hr2, v, k, l, r, se, x, y, rfl, ht2⟩
  obtain ⟨xv, rfl⟩ := ht2.form
  have S2 : Hid (w.grownBy w2 (some b) ∧ LRd w2 b s s.size n d c j ∧ TreeL (fun k => w.heap.size ≤ k) w2 (.pointer xv) (.node k l r se x y)) := ⟨hg2, hr2, ht2⟩
  clear hg2 hr2 ht2 HI
  go_wp2_with fail
  go_loopw [5] (fun v wr => v = .pointer xv ∧ w.grownBy wr (some b) ∧ LRd wr b s s.size n d c j ∧ TreeL (fun k => w.heap.size ≤ k) wr (.pointer xv) (.node k l r se x y)) (fun _ _ => 0)
  case atStart => exact ⟨rfl, S2.out⟩
  case round =>
    clear S2
    rename World => wr
    obtain ⟨rfl, hS⟩ := hrel
    have S3 : Hid (w.grownBy wr (some b) ∧ LRd wr b s s.size n d c j ∧ TreeL (fun k => w.heap.size ≤ k) wr (.pointer xv) (.node k l r se x y)) := hS
    clear hS
    go_wp2_with fail
    refine (HP.out _ S3.out.2.1).mono ?_
    rintro e w4 ⟨rfl, hg4⟩
    have S4 : Hid (w.grownBy w4 (some b) ∧ LRd w4 b s s.size n d c j ∧ TreeL (fun k => w.heap.size ≤ k) w4 (.pointer xv) (.node k l r se x y)) := ⟨grown_trans S3.out.1 (grown_some hg4), S3.out.2.1.kept hg4, S3.out.2.2.grown hg4⟩
    clear hg4 S3
    go_wp2_with fail
    go_ret
    exact ⟨S4.out.1, S4.out.2.1, _, k, l, r, se, x, y, rfl, S4.out.2.2⟩

theorem formK_stop (s : ByteArray) (hs : s.size ≤ 4000) : KStop 15 s := by
  intro n d b c j sc w a cap hc hn hd hl h hsc
  have HI : Hid (Calls Try.prog 23 #[.pointer (some ⟨b, 0, none⟩), .slice a sc.length cap] w fun e w' => w.grownBy w' (some b) ∧ LRd w' b s s.size n d c j ∧ ∃ (v : Value) (k : Nat) (l r : TrL) (se : Bool) (x y : Int), e = .returned v ∧ TreeL (fun k => w.heap.size ≤ k) w' v (.node k l r se x y)) := termK_stop s hs n d b c j sc w a cap hc hn hd hl h hsc
  have HP : Hid (∀ W, LRd W b s s.size n d c j → Calls Try.prog 24 #[.pointer (some ⟨b, 0, none⟩)] W fun e w' => e = .returned (.int .u8 0) ∧ W.grownBy w' none) := fun W h1 => by
    have h2 := peekK_any s b s.size n d c j W hs (Nat.le_refl _) h1
    rw [byT_end] at h2
    exact h2
  clear h hsc
  generalize sc.length = m at *
  go_enter Try.func15, Try.ntmps15
  go_wp2_with fail
  refine HI.out.mono ?_
  rintro e w2 ⟨hg2, hr2, v, k, l, r, se, x, y, rfl, ht2⟩
  obtain ⟨xv, rfl⟩ := ht2.form
  have S2 : Hid (w.grownBy w2 (some b) ∧ LRd w2 b s s.size n d c j ∧ TreeL (fun k => w.heap.size ≤ k) w2 (.pointer xv) (.node k l r se x y)) := ⟨hg2, hr2, ht2⟩
  clear hg2 hr2 ht2 HI
  go_wp2_with fail
  go_loopw [5] (fun v wr => v = .pointer xv ∧ w.grownBy wr (some b) ∧ LRd wr b s s.size n d c j ∧ TreeL (fun k => w.heap.size ≤ k) wr (.pointer xv) (.node k l r se x y)) (fun _ _ => 0)
  case atStart => exact ⟨rfl, S2.out⟩
  case round =>
    clear S2
    rename World => wr
    obtain ⟨rfl, hS⟩ := hrel
    have S3 : Hid (w.grownBy wr (some b) ∧ LRd wr b s s.size n d c j ∧ TreeL (fun k => w.heap.size ≤ k) wr (.pointer xv) (.node k l r se x y)) := hS
    clear hS
    go_wp2_with fail
    refine (HP.out _ S3.out.2.1).mono ?_
    rintro e w4 ⟨rfl, hg4⟩
    have S4 : Hid (w.grownBy w4 (some b) ∧ LRd w4 b s s.size n d c j ∧ TreeL (fun k => w.heap.size ≤ k) w4 (.pointer xv) (.node k l r se x y)) := ⟨grown_trans S3.out.1 (grown_some hg4), S3.out.2.1.kept hg4, S3.out.2.2.grown hg4⟩
    clear hg4 S3
    go_wp2_with fail
    go_ret
    exact ⟨S4.out.1, S4.out.2.1, _, k, l, r, se, x, y, rfl, S4.out.2.2⟩

theorem negK_any (B : Nat) (v : Value) (t : TrL) (w : World) (h : TreeL (fun g => B ≤ g) w v t) (hB : B ≤ w.heap.size) : Calls Try.prog 31 #[v] w fun e w' => w.grownBy w' none ∧ ∃ g, w.heap.size ≤ g ∧ e = .returned (.pointer (some ⟨g, 0, none⟩)) ∧ TreeL (fun g => B ≤ g) w' (.pointer (some ⟨g, 0, none⟩)) (.node 2 t .nil false 0 0) := by
  obtain ⟨a, rfl⟩ := h.form
  have E : Hid (w.grownBy (w.alloc (.cells #[.int .i64 2, .pointer a, .pointer none, .bool false, .int .i64 0, .int .i64 0] 58)) none ∧ TreeL (fun g => B ≤ g) (w.alloc (.cells #[.int .i64 2, .pointer a, .pointer none, .bool false, .int .i64 0, .int .i64 0] 58)) (.pointer (some ⟨w.heap.size, 0, none⟩)) (.node 2 t .nil false 0 0)) := ⟨grown_alloc _ _, treeL_new 2 false 0 0 h .nil hB⟩
  clear h hB
  go_enter Try.func31, Try.ntmps31
  go_wp2
  go_ret
  exact ⟨E.out.1, _, Nat.le_refl _, rfl, E.out.2⟩

/-- An append, under a name that the walk does not open. -/
def AppL (ts : Array TypeId) (ty : TypeId) (args : Array Value) : Sem Value := Builtin.append_ ts ty args
theorem appL_fold (ts : Array TypeId) (ty : TypeId) (args : Array Value) : Builtin.append_ ts ty args = AppL ts ty args := rfl
theorem info_partsL {P : Program} {t : TypeId} {z : Option Value} {a b : Nat} (h : (P.info? t).map (fun i => (i.zero, i.size, i.bytes)) = some (z, a, b)) : ∃ i, P.info? t = some i ∧ i.zero = z ∧ i.size = a ∧ i.bytes = b := by
  cases hi : P.info? t with
  | none => rw [hi] at h; cases h
  | some i => rw [hi] at h; simp only [Option.map_some, Option.some.injEq, Prod.mk.injEq] at h; exact ⟨i, rfl, h.1, h.2.1, h.2.2⟩
theorem Try.infoU8 : (Try.prog.info? 5).map (fun i => (i.zero, i.size, i.bytes)) = some (some (.int .u8 0), 1, 1) := by kernel_rfl
/-- One more variable. -/
theorem app_sc {w : World} {b : Nat} {a : Option Addr} {cap : Nat} {sc : List Nat} (h : ScAt w b a cap sc) (hl : sc.length ≤ 3) (hb : b < w.heap.size) (v : Nat) :
    ∃ g cap' w', (AppL #[59, 59] 59 #[.slice a sc.length sc.length, .slice (some ⟨w.heap.size, 0, none⟩) 1 1]).run Try.prog (w.alloc (.cells #[.int .u8 (v : Int)] 5)).drew = .ok (.slice (some ⟨g, 0, none⟩) (sc.length + 1) cap') w' ∧ ScAt w' b (some ⟨g, 0, none⟩) cap' (sc ++ [v]) ∧ w.grownBy w' none := by
  obtain ⟨i0, hi0, hz0, hz1, hz2⟩ := info_partsL Try.infoU8
  have hnew := heap_alloc_new w (.cells #[.int .u8 (v : Int)] 5)
  have gW : w.grownBy (w.alloc (.cells #[.int .u8 (v : Int)] 5)).drew none := grown_drew (grown_alloc _ _)
  have hsz : (w.alloc (.cells #[.int .u8 (v : Int)] 5)).drew.heap.size = w.heap.size + 1 := by show (w.alloc _).heap.size = _; rw [World.size_alloc]
  have hn1 : ∀ j u, [Value.int .u8 (v : Int)][j]? = some u → (w.alloc (.cells #[.int .u8 (v : Int)] 5)).drew.cell? ((⟨w.heap.size, 0, none⟩ : Addr).add j) = some u := fun j u hu => by
    have h1 : (w.alloc (.cells #[.int .u8 (v : Int)] 5)).cell? ((⟨w.heap.size, 0, none⟩ : Addr).add j) = some u := World.news_of_block hnew j u (by simpa using hu)
    exact h1
  have fin : ∀ (cur : Array Value) (cap' : Nat) (X : World), X = (w.alloc (.cells #[.int .u8 (v : Int)] 5)).drew.drew → sc.length + 1 ≤ cap' → (∀ k, k < sc.length + 1 → cur[k]? = some (.int .u8 (((sc ++ [v]).getD k 0 : Nat) : Int))) → ScAt (X.alloc (.cells cur 5)) b (some ⟨X.heap.size, 0, none⟩) cap' (sc ++ [v]) ∧ w.grownBy (X.alloc (.cells cur 5)) none := fun cur cap' X hX hc hcur => by
    have hXs : X.heap.size = w.heap.size + 1 := by rw [hX]; exact hsz
    have hb2 := heap_alloc_new X (.cells cur 5)
    refine ⟨.inr ⟨by simp, by simpa using hc, X.heap.size, rfl, by omega, fun k hk => ?_⟩, ?_⟩
    · rw [cell_of_row _ _ k _ _ (0, 0) hb2]
      rw [List.length_append, List.length_singleton] at hk
      exact hcur k hk
    · rw [hX]; exact grown_trans (grown_drew gW) (grown_alloc _ _)
  rcases h with ⟨rfl, rfl, rfl⟩ | ⟨h1, h2, g, rfl, hgb, hcells⟩
  · have hr := run_append_nil (P := Try.prog) (w := (w.alloc (.cells #[.int .u8 (v : Int)] 5)).drew) 59 59 5 i0 (.int .u8 0) Try.underlying59 hi0 hz0 ⟨w.heap.size, 0, none⟩ 1 1 [.int .u8 (v : Int)] (by rw [hz1]; rfl) hn1 (by omega) (by omega) (by rw [hz2]; omega)
    obtain ⟨f1, f2⟩ := fin ([Value.int .u8 (v : Int)].toArray ++ Builtin.zeroCells (Value.int .u8 0).cells (grownCap (w.alloc (.cells #[.int .u8 (v : Int)] 5)).drew 1 0 5 - 1)) (grownCap (w.alloc (.cells #[.int .u8 (v : Int)] 5)).drew 1 0 5) _ rfl (grownCap_ge _ 1 0 5) (fun k hk => by
      have : k = 0 := by simp at hk; omega
      subst this
      rw [Array.getElem?_append_left (by simp)]
      rfl)
    exact ⟨_, _, _, hr, f1, f2⟩
  · have hr := run_append_grow (P := Try.prog) (w := (w.alloc (.cells #[.int .u8 (v : Int)] 5)).drew) 59 59 5 i0 (.int .u8 0) Try.underlying59 hi0 hz0 ⟨g, 0, none⟩ sc.length sc.length (sc.map fun (x : Nat) => Value.int .u8 (x : Int)) (by rw [hz1]; simp) (fun j u hu => by
        have hj : j < sc.length := by have := (List.getElem?_eq_some_iff.1 hu).1; simpa using this
        have h3 := gW.cell (hcells j hj) (by simp)
        have e : (⟨g, 0, none⟩ : Addr).add j = ⟨g, j, none⟩ := by by_cases hj0 : j = 0 <;> simp [Addr.add, hj0]
        rw [e, h3, ← hu]
        simp [hj]) ⟨w.heap.size, 0, none⟩ 1 1 [.int .u8 (v : Int)] (by rw [hz1]; rfl) hn1 (by omega) (by omega) (by rw [hz2]; have := growslice_fits_succ (old := sc.length) (bytes := 1) (by omega) (by omega); exact this)
    obtain ⟨f1, f2⟩ := fin ((sc.map fun (x : Nat) => Value.int .u8 (x : Int)).toArray ++ [Value.int .u8 (v : Int)].toArray ++ Builtin.zeroCells (Value.int .u8 0).cells (grownCap (w.alloc (.cells #[.int .u8 (v : Int)] 5)).drew (sc.length + 1) sc.length 5 - (sc.length + 1))) (grownCap (w.alloc (.cells #[.int .u8 (v : Int)] 5)).drew (sc.length + 1) sc.length 5) _ rfl (grownCap_ge _ _ _ 5) (fun k hk => by
      rw [Array.getElem?_append_left (by simp; omega)]
      by_cases hk2 : k < sc.length
      · rw [Array.getElem?_append_left (by simpa using hk2)]
        have e : (sc ++ [v]).getD k 0 = sc[k] := by rw [List.getD, List.getElem?_append_left hk2, List.getElem?_eq_getElem hk2]; rfl
        rw [e]
        simp [hk2]
      · have : k = sc.length := by omega
        subst this
        rw [Array.getElem?_append_right (by simp)]
        simp)
    exact ⟨_, _, _, hr, f1, f2⟩

end Go.Proofs.Ytaommgnlnfhbfaa
