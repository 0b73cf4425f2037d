/- Where words of a part can end, as the reference finds it: the parts that hold no others. -/
import Derived.Test.YtepldeogcoigkaaDoorEBase
namespace Go.Proofs.YtepldeogcoigkaaDoor
open Go.RowKit
set_option linter.unusedVariables false

set_option maxHeartbeats 800000 in
theorem ends_none (ps : List PartR) (L : Value) (k : Nat) (p : PartR) (hk : ps[k]? = some p) (hkind : p.kind = 0) (a : Option Addr) (cap : Nat) (z : List Int) (N : Nat) (hN : N = z.length + 1) (hn : z.length ≤ 60) (gf : Nat) (h : Nat → Bool) (W : World) (hL : PL W L ps) (hps : ps.length ≤ 13000) :
    Calls Tryd.prog 14 #[L, .int .i64 k, .slice a z.length cap, .slice (some ⟨gf, 0, none⟩) N N] W (Ended z N W noneS h) := by
  obtain ⟨g, capL, rfl, c0, c1, c2⟩ := hL.get hk
  have hlt := (List.getElem?_eq_some_iff.1 hk).1
  have hlt' : (k : Int) < (ps.length : Int) := by omega
  have HN : Hid (N = z.length + 1) := hN
  have hN1 : z.length < N := by omega
  have hN2 : N ≤ 61 := by omega
  have hN3 : (N : Int) ≤ 61 := by omega
  obtain ⟨q0, q1, q2, hkv⟩ := (hL.at_ p (List.mem_of_getElem? hk)).1
  rw [hkind] at c0
  rw [hkv] at c2
  have hmk := bmake (W.alloc (.cells #[.int .i64 0, .int .i64 p.let_, .slice q0 q1 q2] 70)) N hN2
  have G1 : Hid (W.grownBy ((W.alloc (.cells #[.int .i64 0, .int .i64 p.let_, .slice q0 q1 q2] 70)).alloc (.cells (Array.replicate N (Value.bool false)) 4)) none) := grown_trans (World.grownBy_alloc _ _ _) (World.grownBy_alloc _ _ _)
  have B1 : Hid (BAt ((W.alloc (.cells #[.int .i64 0, .int .i64 p.let_, .slice q0 q1 q2] 70)).alloc (.cells (Array.replicate N (Value.bool false)) 4)) (W.heap.size + 1) (fun _ => false) N) := by
    have := BAt.made (W.alloc (.cells #[.int .i64 0, .int .i64 p.let_, .slice q0 q1 q2] 70)) N
    have e : (W.alloc (.cells #[.int .i64 0, .int .i64 p.let_, .slice q0 q1 q2] 70)).heap.size = W.heap.size + 1 := by simp
    rw [e] at this
    exact this
  have E : Hid (Ended z N W noneS h (.returned (.slice (some ⟨W.heap.size + 1, 0, none⟩) N N)) ((W.alloc (.cells #[.int .i64 0, .int .i64 p.let_, .slice q0 q1 q2] 70)).alloc (.cells (Array.replicate N (Value.bool false)) 4))) :=
    ⟨_, _, rfl, B1.out, by omega, G1.out, fun j hj => by simp [noneS]⟩
  clear hkv hL hk B1 G1 hN
  go_enter Tryd.func14, Tryd.ntmps14
  go_wp2_with fail
  go_ret
  exact E.out

set_option maxHeartbeats 800000 in
theorem ends_empty (ps : List PartR) (L : Value) (k : Nat) (p : PartR) (hk : ps[k]? = some p) (hkind : p.kind = 1) (a : Option Addr) (cap : Nat) (z : List Int) (N : Nat) (hN : N = z.length + 1) (hn : z.length ≤ 60) (gf : Nat) (h : Nat → Bool) (W : World) (hL : PL W L ps) (hps : ps.length ≤ 13000) (hf : BAt W gf h N) :
    Calls Tryd.prog 14 #[L, .int .i64 k, .slice a z.length cap, .slice (some ⟨gf, 0, none⟩) N N] W (Ended z N W emptyS h) := by
  obtain ⟨g, capL, rfl, c0, c1, c2⟩ := hL.get hk
  have hlt := (List.getElem?_eq_some_iff.1 hk).1
  have hlt' : (k : Int) < (ps.length : Int) := by omega
  have HN : Hid (N = z.length + 1) := hN
  have hN1 : z.length < N := by omega
  have hN2 : N ≤ 61 := by omega
  have hN3 : (N : Int) ≤ 61 := by omega
  obtain ⟨q0, q1, q2, hkv⟩ := (hL.at_ p (List.mem_of_getElem? hk)).1
  rw [hkind] at c0
  rw [hkv] at c2
  have hmk := bmake (W.alloc (.cells #[.int .i64 1, .int .i64 p.let_, .slice q0 q1 q2] 70)) N hN2
  have G1 : Hid (W.grownBy ((W.alloc (.cells #[.int .i64 1, .int .i64 p.let_, .slice q0 q1 q2] 70)).alloc (.cells (Array.replicate N (Value.bool false)) 4)) none) := grown_trans (World.grownBy_alloc _ _ _) (World.grownBy_alloc _ _ _)
  have B1 : Hid (BAt ((W.alloc (.cells #[.int .i64 1, .int .i64 p.let_, .slice q0 q1 q2] 70)).alloc (.cells (Array.replicate N (Value.bool false)) 4)) (W.heap.size + 1) (fun _ => false) N) := by
    have := BAt.made (W.alloc (.cells #[.int .i64 1, .int .i64 p.let_, .slice q0 q1 q2] 70)) N
    have e : (W.alloc (.cells #[.int .i64 1, .int .i64 p.let_, .slice q0 q1 q2] 70)).heap.size = W.heap.size + 1 := by simp
    rw [e] at this
    exact this
  have F1 := hf.kept G1.out (by simp)
  obtain ⟨W', hcp, HB, HG⟩ := bcopy B1.out F1 hN2
  have E : Hid (Ended z N W emptyS h (.returned (.slice (some ⟨W.heap.size + 1, 0, none⟩) N N)) W') :=
    ⟨_, _, rfl, HB.out, by omega, grown_new G1.out HG.out (by omega), fun j hj => by simp [emptyS]; intro _; omega⟩
  clear hkv hL hk B1 G1 hN F1 HB HG hf
  go_enter Tryd.func14, Tryd.ntmps14
  go_wp2_with fail
  go_ret
  exact E.out

set_option maxHeartbeats 1600000 in
theorem ends_letter (ps : List PartR) (L : Value) (k : Nat) (p : PartR) (hk : ps[k]? = some p) (hkind : p.kind = 2) (a : Option Addr) (cap : Nat) (z : List Int) (N : Nat) (hN : N = z.length + 1) (hn : z.length ≤ 60) (gf : Nat) (h : Nat → Bool) (W : World) (hL : PL W L ps) (hps : ps.length ≤ 13000) (hf : BAt W gf h N) (hz : Ints W a z) :
    Calls Tryd.prog 14 #[L, .int .i64 k, .slice a z.length cap, .slice (some ⟨gf, 0, none⟩) N N] W (Ended z N W (letterS p.let_) h) := by
  obtain ⟨g, capL, rfl, c0, c1, c2⟩ := hL.get hk
  have hlt := (List.getElem?_eq_some_iff.1 hk).1
  have hlt' : (k : Int) < (ps.length : Int) := by omega
  have HN : Hid (N = z.length + 1) := hN
  have hN1 : z.length < N := by omega
  have hN2 : N ≤ 61 := by omega
  have hN3 : (N : Int) ≤ 61 := by omega
  obtain ⟨q0, q1, q2, hkv⟩ := (hL.at_ p (List.mem_of_getElem? hk)).1
  rw [hkind] at c0
  rw [hkv] at c2
  have hmk := bmake (W.alloc (.cells #[.int .i64 2, .int .i64 p.let_, .slice q0 q1 q2] 70)) N hN2
  have G1 : Hid (W.grownBy ((W.alloc (.cells #[.int .i64 2, .int .i64 p.let_, .slice q0 q1 q2] 70)).alloc (.cells (Array.replicate N (Value.bool false)) 4)) none) := grown_trans (World.grownBy_alloc _ _ _) (World.grownBy_alloc _ _ _)
  have B1 : Hid (BAt ((W.alloc (.cells #[.int .i64 2, .int .i64 p.let_, .slice q0 q1 q2] 70)).alloc (.cells (Array.replicate N (Value.bool false)) 4)) (W.heap.size + 1) (fun _ => false) N) := by
    have := BAt.made (W.alloc (.cells #[.int .i64 2, .int .i64 p.let_, .slice q0 q1 q2] 70)) N
    have e : (W.alloc (.cells #[.int .i64 2, .int .i64 p.let_, .slice q0 q1 q2] 70)).heap.size = W.heap.size + 1 := by simp
    rw [e] at this
    exact this
  have F1 : Hid (BAt W gf h N) := hf
  have HZ : Hid (Ints W a z) := hz
  have D1 : Hid (((W.alloc (.cells #[.int .i64 2, .int .i64 p.let_, .slice q0 q1 q2] 70)).alloc (.cells (Array.replicate N (Value.bool false)) 4)).cell? ⟨W.heap.size, 1, none⟩ = some (.int .i64 p.let_)) := by
    show World.cell? _ _ = _
    rw [World.cell?_alloc_lt _ _ _ (by simp)]
    simp
  clear hkv hL hk hN hf hz
  generalize p.let_ = c at *
  go_enter Tryd.func14, Tryd.ntmps14
  go_wp2_with fail
  go_loopw [11] (fun v wr => ∃ t : Nat, v = .int .i64 t ∧ t ≤ z.length ∧ BAt wr (W.heap.size + 1) (fun j => decide (0 < j ∧ j ≤ t) && h (j - 1) && decide (z.getD (j - 1) 0 = c)) N ∧ W.grownBy wr none ∧ wr.cell? ⟨W.heap.size, 1, none⟩ = some (.int .i64 c)) (fun v _ => z.length - (intOf v).toNat)
  case atStart => exact ⟨0, rfl, by omega, B1.out.ext (fun i hi => by simp; omega), G1.out, D1.out⟩
  case round =>
    clear B1 G1 D1
    obtain ⟨t, rfl, ht, hb, hg, hd⟩ := hrel
    by_cases hlt2 : t < z.length
    · obtain ⟨b, off, rfl, hc⟩ := (HZ.out.grown hg).at hlt2
      have hck := hc t hlt2
      clear hc
      have fc := (F1.out.kept hg (by simp)).cell (i := t) (by omega)
      have ff := (F1.out.kept hg (by simp)).fz t
      have oc := hb.cell (i := t + 1) (by omega)
      have ofz := hb.fz (t + 1)
      have ht1 : (t : Int) + 1 < (N : Int) := by omega
      have ht2 : (t : Int) < (N : Int) := by omega
      have B2 : Hid (∀ y : Bool, y = (h t && decide (z.getD t 0 = c)) → BAt ((wr.setCell ⟨W.heap.size + 1, t + 1, none⟩ (.bool y)).drew) (W.heap.size + 1) (fun j => decide (0 < j ∧ j ≤ t + 1) && h (j - 1) && decide (z.getD (j - 1) 0 = c)) N) := by
        intro y hy
        refine (hb.set (t + 1) y).ext fun i hi => ?_
        by_cases hit : i = t + 1
        · subst hit
          rw [if_pos rfl, hy]
          simp
        · rw [if_neg hit]
          have : (0 < i ∧ i ≤ t + 1) ↔ (0 < i ∧ i ≤ t) := by omega
          simp only [this]
      have G2 : Hid (∀ y : Bool, W.grownBy ((wr.setCell ⟨W.heap.size + 1, t + 1, none⟩ (.bool y)).drew) none) := fun y => grown_drew (grown_new hg (grown_set _ _ _) (by simp))
      have D2 : Hid (∀ y : Bool, ((wr.setCell ⟨W.heap.size + 1, t + 1, none⟩ (.bool y)).drew).cell? ⟨W.heap.size, 1, none⟩ = some (.int .i64 c)) := fun y => by
        have : (wr.setCell ⟨W.heap.size + 1, t + 1, none⟩ (.bool y)).cell? ⟨W.heap.size, 1, none⟩ = some (.int .i64 c) := (grown_set wr ⟨W.heap.size + 1, t + 1, none⟩ (.bool y)).cell hd (by simp)
        exact this
      generalize (fun j => decide (0 < j ∧ j ≤ t) && h (j - 1) && decide (z.getD (j - 1) 0 = c)) (t + 1) = yo at oc
      generalize hzt : z.getD t 0 = x at *
      generalize hht : h t = y0 at *
      have HX : Hid (z.getD t 0 = x) := hzt
      clear hb hg hzt hht
      cases y0 with
      | false =>
        go_wp2_with fail
        go_region
        all_goals
          go_wp2_with fail
          go_roundw
          case rel => exact ⟨t + 1, by go_num, by omega, B2.out false (by simp), G2.out _, D2.out _⟩
          case measure => simp [intOf]; omega
      | true =>
        go_wp2_with fail
        go_region
        all_goals
          go_wp2_with fail
          go_roundw
          case rel => exact ⟨t + 1, by go_num, by omega, B2.out (x == c) (by rw [Bool.true_and]; exact Bool.eq_iff_iff.2 (by simp)), G2.out _, D2.out _⟩
          case measure => simp [intOf]; omega
    · have E : Hid (Ended z N W (letterS c) h (.returned (.slice (some ⟨W.heap.size + 1, 0, none⟩) N N)) wr) := by
        refine ⟨_, _, rfl, hb, by omega, hg, fun j hj => ?_⟩
        have htt : t = z.length := by omega
        simp only [Bool.and_eq_true, decide_eq_true_eq, letterS]
        constructor
        · rintro ⟨⟨h1, h2⟩, h3⟩
          exact ⟨j - 1, by omega, h2, by omega, h3, by omega⟩
        · rintro ⟨i, h1, h2, h3, h4, rfl⟩
          exact ⟨⟨⟨by omega, by omega⟩, by simpa using h2⟩, by simpa using h4⟩
      clear hb hg
      go_wp2_with fail
      go_ret
      exact E.out

end Go.Proofs.YtepldeogcoigkaaDoor
