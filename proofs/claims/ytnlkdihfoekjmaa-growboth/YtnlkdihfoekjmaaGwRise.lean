/- Two states, in their order, each once: the program's rising. -/
import Derived.Test.YtnlkdihfoekjmaaGwMem
import Derived.Test.YtnlkdihfoekjmaaSay
import Derived.Test.YtnlkdihfoekjmaaTrCmp
import Derived.Lib.SliceRun
namespace Go.Proofs.Ytnlkdihfoekjmaa
open Go.RowKit
set_option linter.unusedVariables false

theorem two_new (w : World) (a b : Int) : Owns w.heap.size (w.alloc (.cells #[.int .i64 a, .int .i64 b] 3)) [(3, .slice (some ⟨w.heap.size, 0, none⟩) 2 2, [.int .i64 a, .int .i64 b])] :=
  (Owns.no w.heap.size w).made (arr := #[.int .i64 a, .int .i64 b]) (n := 2) (Nat.le_refl _) 3 rfl (by unfold maxLen; omega)

def ComPost (g : Nat) (l : List Nat) (w : World) (E : Ending) (w' : World) : Prop :=
  ∃ c, E = .returned (.slice (some ⟨g, 0, none⟩) l.length c) ∧ RowB w' g 3 l.length c (fun i => .int .i64 ((l.getD i 0 : Nat) : Int)) ∧ w.grownBy w' (some g) ∧ c ≤ 2

set_option maxHeartbeats 1600000 in
theorem compact_ne (g : Nat) (a b : Nat) (w : World) (h : RowB w g 3 2 2 (fun i => .int .i64 (([a, b].getD i 0 : Nat) : Int))) (hab : a ≠ b) :
    Calls Try.prog 28 #[.slice (some ⟨g, 0, none⟩) 2 2] w (ComPost g [a, b] w) := by
  have HB : Hid (RowB w g 3 2 2 (fun i => .int .i64 (([a, b].getD i 0 : Nat) : Int))) := h
  have c0 : w.cell? ⟨g, 0, none⟩ = some (.int .i64 (a : Int)) := h.cell (i := 0) (by omega)
  have c1 : w.cell? ⟨g, 1, none⟩ = some (.int .i64 (b : Int)) := h.cell (i := 1) (by omega)
  have d0 : ((b : Int) == (a : Int)) = false := by simp; omega
  have Fin : Hid (∀ W, w.grownBy W none → ComPost g [a, b] w (.returned (.slice (some ⟨g, 0, none⟩) 2 2)) W) := fun W hW => ⟨2, rfl, HB.out.kept hW, grown_some hW, by omega⟩
  obtain ⟨Po, hPo⟩ : ∃ Po, Po = ComPost g [a, b] w := ⟨_, rfl⟩
  rw [← hPo] at Fin ⊢
  clear h hab hPo
  go_enter Try.func28, Try.ntmps28
  go_wp2_with fail
  clear c0 c1
  go_loopw [3] (fun v wr => ∃ k : Nat, v = .int .i64 k ∧ 1 ≤ k ∧ k ≤ 2 ∧ w.grownBy wr none) (fun v _ => 2 - (intOf v).toNat)
  case atStart => exact ⟨1, rfl, by omega, by omega, grown_refl _ _⟩
  case round =>
    obtain ⟨k, rfl, h1, h2, hg⟩ := hrel
    have G : Hid (w.grownBy wr none) := hg
    clear hg
    rcases (show k = 1 ∨ k = 2 by omega) with rfl | rfl
    · have c0 : wr.cell? ⟨g, 0, none⟩ = some (.int .i64 (a : Int)) := (HB.out.kept G.out).cell (i := 0) (by omega)
      have c1 : wr.cell? ⟨g, 1, none⟩ = some (.int .i64 (b : Int)) := (HB.out.kept G.out).cell (i := 1) (by omega)
      go_wp2_with fail
      go_quiet (fail)
      go_wp2_with fail
      go_roundw
      case rel => exact ⟨2, rfl, by omega, by omega, grown_drewN G.out _⟩
      case measure => simp [intOf]
    · go_wp2_with fail
      first | exact Fin.out _ G.out | (go_ret; exact Fin.out _ G.out)

theorem Try.zero3 : ∀ w, (zeroValue 3).run Try.prog w = .ok (.int .i64 0) w := by intro w; kernel_rfl
set_option maxHeartbeats 1600000 in
theorem compact_eq (g : Nat) (a : Nat) (w : World) (h : RowB w g 3 2 2 (fun i => .int .i64 (([a, a].getD i 0 : Nat) : Int))) :
    Calls Try.prog 28 #[.slice (some ⟨g, 0, none⟩) 2 2] w (ComPost g [a] w) := by
  have HB : Hid (RowB w g 3 2 2 (fun i => .int .i64 (([a, a].getD i 0 : Nat) : Int))) := h
  have d0 : ((a : Int) == (a : Int)) = true := by simp
  have Fin : Hid (∀ W, w.grownBy W none → ComPost g [a] w (.returned (.slice (some ⟨g, 0, none⟩) 1 2)) (W.setCell ⟨g, 1, none⟩ (.int .i64 0))) := fun W hW => by
    have h1 := (HB.out.kept hW).set (i := 1) (by omega) (.int .i64 0)
    obtain ⟨cur, k1, k2, k3, k4⟩ := h1
    refine ⟨2, rfl, ⟨cur, k1, k2, by simp, fun i hi => ?_⟩, grown_trans (grown_some hW) (grown_set _ _ _), by omega⟩
    obtain rfl : i = 0 := by simpa using hi
    exact k4 0 (by omega)
  obtain ⟨Po, hPo⟩ : ∃ Po, Po = ComPost g [a] w := ⟨_, rfl⟩
  rw [← hPo] at Fin ⊢
  clear h hPo
  go_enter Try.func28, Try.ntmps28
  go_wp2_with fail
  go_loopw [3] (fun v wr => v = .int .i64 1 ∧ w.grownBy wr none) (fun v _ => 2 - (intOf v).toNat)
  case atStart => exact ⟨rfl, grown_refl _ _⟩
  case round =>
    obtain ⟨rfl, hg⟩ := hrel
    have G : Hid (w.grownBy wr none) := hg
    clear hg
    have c0 : wr.cell? ⟨g, 0, none⟩ = some (.int .i64 (a : Int)) := (HB.out.kept G.out).cell (i := 0) (by omega)
    have c1 : wr.cell? ⟨g, 1, none⟩ = some (.int .i64 (a : Int)) := (HB.out.kept G.out).cell (i := 1) (by omega)
    go_wp2_with fail
    go_quiet (fail)
    obtain ⟨Wq, hWq⟩ : ∃ Wq, wr.drewN nq = Wq := ⟨_, rfl⟩
    rw [hWq]
    have GQ : Hid (w.grownBy Wq none) := hWq ▸ grown_drewN G.out _
    have c1' : Wq.cell? ⟨g, 1, none⟩ = some (.int .i64 (a : Int)) := (HB.out.kept GQ.out).cell (i := 1) (by omega)
    have f1 := (HB.out.kept GQ.out).frozen 1
    have hc1 : ∀ j, j < 1 → (Wq.cell? ⟨g, 1 + j, none⟩).isSome = true := fun j hj => by
      obtain rfl : j = 0 := by omega
      show (Wq.cell? ⟨g, 1, none⟩).isSome = true
      rw [c1']; rfl
    have hf1 : ∀ j, j < 1 → Wq.frozen? ⟨g, 1 + j, none⟩ = false := fun j hj => by
      obtain rfl : j = 0 := by omega
      exact f1
    have hcl := Go.Lib.run_clear_slice (P := Try.prog) Wq 23 3 0 (.int .i64 0) Try.underlying23 Try.zero3 rfl rfl g 1 1 1 (by omega) hc1 hf1
    clear hc1 hf1
    clear c0 c1 hWq
    go_wp2_with fail
    go_loopw [3, 5] (fun v3 v5 wr => v3 = .int .i64 1 ∧ v5 = .int .i64 1 ∧ wr = Wq) (fun _ _ _ => 0)
    case atStart => exact ⟨rfl, rfl, rfl⟩
    case round =>
      obtain ⟨rfl, rfl, rfl⟩ := hrel
      go_wp2_with fail
      first | exact Fin.out _ GQ.out | exact (Fin.out _ GQ.out : Po _ _)

def RisPost (l : List Nat) (w : World) (E : Ending) (w' : World) : Prop :=
  ∃ g c, E = .returned (.slice (some ⟨g, 0, none⟩) l.length c) ∧ Owns w.heap.size w' [(3, .slice (some ⟨g, 0, none⟩) l.length c, nvals l)] ∧ w.grownBy w' none
theorem row_nvals {W : World} {g c B : Nat} {l : List Nat} (h : RowB W g 3 l.length c (fun i => .int .i64 ((l.getD i 0 : Nat) : Int))) (hB : B ≤ g) (hc : c ≤ maxLen) : Owns B W [(3, .slice (some ⟨g, 0, none⟩) l.length c, nvals l)] := by
  have h1 := h.owns hB hc
  have e : (List.range l.length).map (fun i => Value.int .i64 ((l.getD i 0 : Nat) : Int)) = nvals l := by
    apply List.ext_getElem (by simp [nvals])
    intro i h1 h2
    have hi : i < l.length := by simpa [nvals] using h2
    simp [nvals, List.getD, hi]
  rwa [e] at h1
set_option maxHeartbeats 1600000 in
theorem rising_any (a b : Nat) (w : World) : Calls Try.prog 21 #[.int .i64 (a : Int), .int .i64 (b : Int)] w (RisPost (riL a b) w) := by
  have CE : Hid (∀ (g z : Nat) (W : World), RowB W g 3 2 2 (fun i => .int .i64 (([z, z].getD i 0 : Nat) : Int)) → Calls Try.prog 28 #[.slice (some ⟨g, 0, none⟩) 2 2] W (ComPost g [z] W)) := fun g z W h => compact_eq g z W h
  have CN : Hid (∀ (g z y : Nat) (W : World), RowB W g 3 2 2 (fun i => .int .i64 (([z, y].getD i 0 : Nat) : Int)) → z ≠ y → Calls Try.prog 28 #[.slice (some ⟨g, 0, none⟩) 2 2] W (ComPost g [z, y] W)) := fun g z y W h hne => compact_ne g z y W h hne
  have RB : Hid (∀ z y : Nat, RowB (w.alloc (.cells #[.int .i64 (z : Int), .int .i64 (y : Int)] 3)) w.heap.size 3 2 2 (fun i => .int .i64 (([z, y].getD i 0 : Nat) : Int))) := fun z y => ⟨_, heap_alloc_new _ _, rfl, Nat.le_refl _, fun i hi => by
    match i, hi with
    | 0, _ => rfl
    | 1, _ => rfl⟩
  have Fin : Hid (∀ (l : List Nat) (o : Obj) (E : Ending) (W : World), l.length ≤ 2 → ComPost w.heap.size l (w.alloc o) E W → RisPost l w E W) := fun l o E W hl2 ⟨c, h1, h2, h3, h4⟩ => ⟨_, c, h1, row_nvals h2 (Nat.le_refl _) (by unfold maxLen; omega), grown_new (grown_alloc w o) h3 (Nat.le_refl _)⟩
  rcases (show a < b ∨ a = b ∨ b < a by omega) with h | h | h
  · have e : riL a b = [a, b] := by unfold riL; rw [if_neg (by omega), if_pos h]
    have hm : ((a : Int) ≤ (b : Int)) := by omega
    have hm2 : ¬ ((b : Int) < (a : Int)) := by omega
    have hm3 : ((a : Int) < (b : Int)) := by omega
    have C : Hid _ := CN.out w.heap.size a b _ (RB.out a b) (by omega)
    have F : Hid _ := Fin.out [a, b] (.cells #[.int .i64 (a : Int), .int .i64 (b : Int)] 3)
    rw [e]
    obtain ⟨Po, hPo⟩ : ∃ Po, Po = RisPost [a, b] w := ⟨_, rfl⟩
    rw [← hPo] at F ⊢
    clear CE CN RB Fin e hPo
    go_enter Try.func21, Try.ntmps21
    go_wp2_with fail
    refine Calls.mono C.out ?_
    intro E w2 hp
    have HE : Hid _ := F.out E w2 (by simp) hp
    obtain ⟨c, rfl, _⟩ := hp
    go_wp2_with fail
    first | exact HE.out | (go_ret; exact HE.out)
  · have e : riL a b = [a] := by unfold riL; rw [if_pos h]
    subst h
    have hm : ((a : Int) ≤ (a : Int)) := by omega
    have hm2 : ¬ ((a : Int) < (a : Int)) := by omega
    have C : Hid _ := CE.out w.heap.size a _ (RB.out a a)
    have F : Hid _ := Fin.out [a] (.cells #[.int .i64 (a : Int), .int .i64 (a : Int)] 3)
    rw [e]
    obtain ⟨Po, hPo⟩ : ∃ Po, Po = RisPost [a] w := ⟨_, rfl⟩
    rw [← hPo] at F ⊢
    clear CE CN RB Fin e hPo
    go_enter Try.func21, Try.ntmps21
    go_wp2_with fail
    refine Calls.mono C.out ?_
    intro E w2 hp
    have HE : Hid _ := F.out E w2 (by simp) hp
    obtain ⟨c, rfl, _⟩ := hp
    go_wp2_with fail
    first | exact HE.out | (go_ret; exact HE.out)
  · have e : riL a b = [b, a] := by unfold riL; rw [if_neg (by omega), if_neg (by omega)]
    have hm : ¬ ((a : Int) ≤ (b : Int)) := by omega
    have hm2 : ((b : Int) < (a : Int)) := by omega
    have hm3 : ¬ ((a : Int) < (b : Int)) := by omega
    have hm4 : ((b : Int) ≤ (a : Int)) := by omega
    have C : Hid _ := CN.out w.heap.size b a _ (RB.out b a) (by omega)
    have F : Hid _ := Fin.out [b, a] (.cells #[.int .i64 (b : Int), .int .i64 (a : Int)] 3)
    rw [e]
    obtain ⟨Po, hPo⟩ : ∃ Po, Po = RisPost [b, a] w := ⟨_, rfl⟩
    rw [← hPo] at F ⊢
    clear CE CN RB Fin e hPo
    go_enter Try.func21, Try.ntmps21
    go_wp2_with fail
    refine Calls.mono C.out ?_
    intro E w2 hp
    have HE : Hid _ := F.out E w2 (by simp) hp
    obtain ⟨c, rfl, _⟩ := hp
    go_wp2_with fail
    first | exact HE.out | (go_ret; exact HE.out)

set_option maxHeartbeats 1600000 in
theorem rulesPlace_any (L S0 : Int) (N nR d nM f i : Nat) (b e : Option Addr) (w : World) (hN : N ≤ 1000) (hi : i ≤ 1000) : Calls Try.prog 22 #[trsV L (N : Int) b nR d S0 e nM f, .int .i64 (i : Int)] w (Says (.int .i64 ((N + i : Nat) : Int)) w) := by
  obtain ⟨W1, hW1, g1, s1, bx1⟩ := box5_new w (.int .i64 L) (.int .i64 (N : Int)) (.slice b nR d) (.int .i64 S0) (.slice e nM f) 25
  obtain ⟨x0, x1, x2, x3, x4⟩ := bx1 W1 (grown_refl _ _)
  have HW1 : Hid (W1 = _) := hW1
  have G1 : Hid (w.grownBy W1 none) := g1
  rw [hW1] at x0 x1 x2 x3 x4
  obtain ⟨n, hn⟩ : ∃ n, N + i = n := ⟨_, rfl⟩
  have hw : IntKind.i64.wrap ((N : Int) + (i : Int)) = (n : Int) := by rw [IntKind.wrap_i64]; omega
  rw [hn]
  clear hW1 g1 s1 bx1 hn
  go_enter Try.func22, Try.ntmps22
  go_wp2_with fail
  rw [← HW1.out]
  go_ret
  exact ⟨rfl, G1.out⟩

set_option maxHeartbeats 1600000 in
theorem ruleAt_any (R : List RuleI) (L S0 : Int) (N d nM f i : Nat) (b e : Option Addr) (w : World) (h : RulesAt w b R) (hi : i < R.length) (hN : N ≤ 1000) (hR : R.length ≤ 1000) : Calls Try.prog 25 #[trsV L (N : Int) b R.length d S0 e nM f, .int .i64 ((N + i : Nat) : Int)] w (Says (ruleV (R.getD i ru0)) w) := by
  obtain ⟨Wb, hWb, gb, sb, bx⟩ := box5_new w (.int .i64 L) (.int .i64 (N : Int)) (.slice b R.length d) (.int .i64 S0) (.slice e nM f) 25
  obtain ⟨W1, hW1⟩ : ∃ W1, W1 = Wb.alloc (.cells #[.int .i64 0, .int .i64 0, .int .i64 0, .int .i64 0] 47) := ⟨_, rfl⟩
  have g1 : Wb.grownBy W1 none := by rw [hW1]; exact grown_alloc _ _
  have rb : RowB W1 (w.heap.size + 1) 47 4 4 (fun _ => .int .i64 0) := by
    have hb := heap_alloc_new Wb (.cells #[.int .i64 0, .int .i64 0, .int .i64 0, .int .i64 0] 47)
    rw [← hW1, sb] at hb
    refine ⟨_, hb, rfl, Nat.le_refl _, fun k hk => ?_⟩
    match k, hk with
    | 0, _ => rfl
    | 1, _ => rfl
    | 2, _ => rfl
    | 3, _ => rfl
  have HW1 : Hid (W1 = _) := hW1.trans (by rw [hWb])
  have G1 : Hid (w.grownBy W1 none) := grown_trans gb g1
  obtain ⟨x0, x1, x2, x3, x4⟩ := bx W1 g1
  obtain ⟨bb, off, rfl, hc⟩ := (h.grown G1.out).at hi
  obtain ⟨y0, y1, y2, y3⟩ := hc i hi
  have hii : (i : Int) < (R.length : Int) := by omega
  have c0 := rb.cell (i := 0) (by omega)
  have c1 := rb.cell (i := 1) (by omega)
  have c2 := rb.cell (i := 2) (by omega)
  have c3 := rb.cell (i := 3) (by omega)
  have fz := rb.frozen
  obtain ⟨n, hn⟩ : ∃ n, N + i = n := ⟨_, rfl⟩
  have hw : IntKind.i64.wrap ((n : Int) - (N : Int)) = (i : Int) := by rw [IntKind.wrap_i64]; omega
  rw [hn]
  generalize R.getD i ru0 = r at *
  obtain ⟨r0, r1, r2, r3⟩ := r
  simp only [ruleV] at *
  obtain ⟨W9, hW9⟩ : ∃ W9, W9 = Wb.alloc (.cells #[.int .i64 r0, .int .i64 r1, .int .i64 r2, .int .i64 r3] 47) := ⟨_, rfl⟩
  have hb9 := heap_alloc_new Wb (.cells #[.int .i64 r0, .int .i64 r1, .int .i64 r2, .int .i64 r3] 47)
  rw [← hW9, sb] at hb9
  have q0 : W9.cell? ⟨w.heap.size + 1, 0, none⟩ = some (.int .i64 r0) := by rw [cell_of_row _ _ 0 _ _ (0, 0) hb9]; rfl
  have q1 : W9.cell? ⟨w.heap.size + 1, 1, none⟩ = some (.int .i64 r1) := by rw [cell_of_row _ _ 1 _ _ (0, 0) hb9]; rfl
  have q2 : W9.cell? ⟨w.heap.size + 1, 2, none⟩ = some (.int .i64 r2) := by rw [cell_of_row _ _ 2 _ _ (0, 0) hb9]; rfl
  have q3 : W9.cell? ⟨w.heap.size + 1, 3, none⟩ = some (.int .i64 r3) := by rw [cell_of_row _ _ 3 _ _ (0, 0) hb9]; rfl
  have GF : Hid (w.grownBy W9 none) := by rw [hW9]; exact grown_trans gb (grown_alloc _ _)
  rw [hWb] at hW9
  rw [HW1.out] at x0 x1 x2 x3 x4 y0 y1 y2 y3 c0 c1 c2 c3 fz
  have HW9 : Hid (W9 = _) := hW9
  clear h hc hn rb g1 bx hW1 hWb hW9 gb sb hb9
  go_enter Try.func25, Try.ntmps25
  go_wp2_with fail
  rw [← HW9.out]
  exact bodyPost_ret (v := .agg #[.int .i64 r0, .int .i64 r1, .int .i64 r2, .int .i64 r3]) (by simp [results, Try.results25, go_sem, q0, q1, q2, q3]) rfl ⟨rfl, GF.out⟩

end Go.Proofs.Ytnlkdihfoekjmaa
