/- All that a transducer says at once, as a range goes over it. -/
/- Whether little is said at once; whether letters are said. -/
import Derived.Test.YtodcmlcpicabaaaBas
import Derived.RangeFuncNested
import Derived.RangeFuncBound
import Derived.RangeFuncCalls
import Derived.RangeFuncLeaves
import Derived.Shelf.Abstract
import Derived.Shelf.RegionOpen
import Derived.WalkKit
import Derived.OwnWalkIn
import Derived.TacticsInMore
import Derived.LoopNIn
import Derived.LoopIn
namespace Go.Proofs.Ytodcmlcpicabaaa
open Go.RowKit Go.Shelf
set_option linter.unusedVariables false
set_option linter.unusedSimpArgs false
attribute [local go_sem] Oper.semAt_some

/-- A word that lies in a world. -/
abbrev WdT (w : World) := { x : Option Addr × Nat × List Int // Ints w x.1 x.2.2 ∧ x.2.2.length ≤ maxLen }
def encW (w : World) (x : WdT w) : Array Value := #[.slice x.1.1 x.1.2.2.length x.1.2.1]
def wdsT {w : World} (l : List (WdT w)) : List (List Int) := l.map fun x => x.1.2.2
theorem wdsT_snoc {w : World} (l : List (WdT w)) (x : WdT w) : wdsT (l ++ [x]) = wdsT l ++ [x.1.2.2] := by simp [wdsT]
theorem wdsT_len {w : World} (l : List (WdT w)) : (wdsT l).length = l.length := by simp [wdsT]
theorem sayTo_sub (x : TrI) {k n : Nat} (h : k ≤ n) : ∃ r, sayTo x n = sayTo x k ++ r := by
  induction n with
  | zero =>
            obtain rfl : k = 0 := (by omega)
            exact ⟨[], by simp⟩
  | succ n ih =>
    by_cases hk : k = n + 1
    · subst hk; exact ⟨[], by simp⟩
    · obtain ⟨r, hr⟩ := ih (by omega)
      exact ⟨_, by rw [sayTo_succ, hr, List.append_assoc]⟩
theorem say_more {w : World} {x : TrI} {k : Nat} {l : List (WdT w)} {u v r : List (List Int)} (hk : k < x.Y.length) (hl : wdsT l = sayTo x k ++ u) (hu : x.Y.getD k [] ++ [x.E.getD k []] = u ++ (v ++ r)) (hv : 0 < v.length) : l.length < (sayT x).length := by
  obtain ⟨q, hq⟩ := sayTo_sub x (show k + 1 ≤ x.Y.length by omega)
  rw [sayTo_succ, hu] at hq
  have h1 := congrArg List.length hl
  rw [wdsT_len] at h1
  show _ < (sayTo x x.Y.length).length
  rw [hq]
  simp only [List.length_append] at *
  omega
theorem say_all {w : World} {x : TrI} {k : Nat} {l : List (WdT w)} {u r : List (List Int)} (hk : k < x.Y.length) (hl : wdsT l = sayTo x k ++ u) (hu : x.Y.getD k [] ++ [x.E.getD k []] = u ++ r) : ∀ y, y ∈ l → y.1.2.2 ∈ sayT x := by
  intro y hy
  have h1 : y.1.2.2 ∈ wdsT l := List.mem_map.2 ⟨y, hy, rfl⟩
  rw [hl] at h1
  obtain ⟨q, hq⟩ := sayTo_sub x (show k + 1 ≤ x.Y.length by omega)
  show _ ∈ sayTo x x.Y.length
  rw [hq, sayTo_succ, hu]
  refine List.mem_append.2 (.inl ?_)
  rw [← List.append_assoc]
  exact List.mem_append.2 (.inl h1)
theorem take_snoc {α : Type} (d : α) {l : List α} {j : Nat} (h : j < l.length) : l.take (j + 1) = l.take j ++ [l.getD j d] := by
  rw [List.getD, List.getElem?_eq_getElem h, Option.getD_some]; simp
theorem take_part {α : Type} (d : α) {l : List α} {j : Nat} (h : j < l.length) (e : α) : l ++ [e] = l.take j ++ ([l.getD j d] ++ (l.drop (j + 1) ++ [e])) := by
  have h1 : l = l.take (j + 1) ++ l.drop (j + 1) := (List.take_append_drop _ _).symm
  rw [take_snoc d h] at h1
  conv => lhs; rw [h1]
  simp

set_option maxRecDepth 100000 in
set_option maxHeartbeats 3200000 in
theorem say_stops (m : Nat) (hm : 1 ≤ m) (b : Nat) (x : TrI) (a3 a4 a5 a6 : Option Addr) (c3 c4 c5 c6 : Nat) (w : World) (bx : Box7 w b x.I x.O x.S a3 x.F.length c3 a4 x.N.length c4 a5 x.Y.length c5 a6 x.E.length c6) (h : TnAt w x a3 a4 a5 a6) (he : x.E.length = x.Y.length) :
    SeqStopsK Fence.wide m Try.prog 62 #[.pointer (some ⟨b, 0, none⟩)] (encW w) (Below w.heap.size) (fun xs => wdsT xs = sayT x) (fun xs => ∀ y, y ∈ xs → y.1.2.2 ∈ sayT x) (sayT x).length w := fun l J Jx W hW hJ hJx hY h0 => by
  have m5 := h.m5
  unfold maxLen at m5
  have HB : Hid (∀ W, Below w.heap.size w W → w.grownBy W none) := fun W hb => grown_of_below hb
  have HX : Hid (∀ W, Below w.heap.size w W → Box7 W b x.I x.O x.S a3 x.F.length c3 a4 x.N.length c4 a5 x.Y.length c5 a6 x.E.length c6) := fun W hb => bx.grown (grown_of_below hb)
  have HT : Hid (TnAt w x a3 a4 a5 a6) := h
  obtain ⟨fn, tmps, assign, body, hy, hR⟩ := hY [] ⟨(a3, c3, x.F), h.first, h.m3⟩ W h0 (by simp [sayT, sayTo])
  simp only [encW] at hy
  have x3 := (HX.out W hW).b3
  refine callsIn_of_wp Try.func62 rfl trivial ?_ rfl
  simp only [Try.ntmps62, List.size_toArray, List.length_cons, List.length_nil, Nat.reduceAdd, Nat.reduceSub, Array.replicate_succ, Array.replicate_zero, List.push_toArray, List.append_toArray, List.nil_append, List.cons_append]
  gi_wp2
  refine hR.mono ?_
  rintro e W3 (⟨rfl, hJ3, hk3⟩ | ⟨rfl, hJx3⟩)
  · have hW3 : Below w.heap.size w W3 := hW.trans hk3
    have y5 := (HX.out W3 hW3).b5
    clear hR hy x3
    gi_wp2
    gi_loopw [15] (fun v wr => ∃ (k : Nat) (pre : List (WdT w)), k ≤ x.Y.length ∧ v = .int .i64 (k : Int) ∧ wdsT pre = sayTo x k ∧ J pre wr ∧ Below w.heap.size w wr) (fun v _ => x.Y.length - (intOf v).toNat)
    case atStart => exact ⟨0, _, Nat.zero_le _, rfl, by simp [wdsT, sayTo], hJ3, hW3⟩
    case round =>
      obtain ⟨wo, hwo⟩ : ∃ W, W = wr := ⟨_, rfl⟩
      subst hwo
      obtain ⟨k, pre, hk, rfl, hp, hJs, hbw⟩ := hrel
      by_cases hlt : k < x.Y.length
      · obtain ⟨b5, o5, ha5, hc5⟩ := HT.out.says.at hlt
        obtain ⟨r5, k5, c5', hr5, hm5⟩ := hc5 k hlt
        have i5 : (k : Int) < (x.Y.length : Int) := by omega
        obtain ⟨R, hR⟩ : ∃ R, x.Y.getD k [] = R := ⟨_, rfl⟩
        rw [hR] at c5' hr5 hm5
        have HR : Hid (x.Y.getD k [] = R) := hR
        have HI : Hid (RowsAt w r5 R) := hr5
        have d5 := (HB.out wo hbw).cell c5' (by simp)
        unfold maxLen at hm5
        subst ha5
        clear hc5 hR hr5 c5'
        gi_wp2
        gi_loopw [22] (fun v wr => ∃ (j : Nat) (pre : List (WdT w)), j ≤ R.length ∧ v = .int .i64 (j : Int) ∧ wdsT pre = sayTo x k ++ R.take j ∧ J pre wr ∧ Below w.heap.size w wr) (fun v _ => R.length - (intOf v).toNat)
        case atStart => exact ⟨0, _, Nat.zero_le _, rfl, by rw [hp]; simp, hJs, hbw⟩
        case round =>
          obtain ⟨wi, hwi⟩ : ∃ W, W = wr := ⟨_, rfl⟩
          subst hwi
          obtain ⟨j, pri, hj, rfl, hpi, hJi, hbi⟩ := hrel
          by_cases hjl : j < R.length
          · obtain ⟨b6, o6, rfl, hc6⟩ := HI.out.at hjl
            obtain ⟨r6, k6, d6, hr6, hm6⟩ := hc6 j hjl
            obtain ⟨u, hu⟩ : ∃ u, R.getD j [] = u := ⟨_, rfl⟩
            rw [hu] at d6 hr6 hm6
            have HU : Hid (R.getD j [] = u) := hu
            clear hu
            have d6' := (HB.out wi hbi).cell d6 (by simp)
            have ij : (j : Int) < (R.length : Int) := by omega
            obtain ⟨fn, tmps, assign, body, hy, hR⟩ := hY pri ⟨(r6, k6, u), hr6, hm6⟩ wi hJi (say_more (v := [u]) (r := R.drop (j + 1) ++ [x.E.getD k []]) hlt hpi (by rw [HR.out, ← HU.out]; exact take_part [] hjl _) (by simp))
            simp only [encW] at hy
            have HP : Hid (wdsT pri = sayTo x k ++ R.take j) := hpi
            clear hc6 d6 hpi
            gi_wp2
            refine hR.mono ?_
            rintro e W4 (⟨rfl, hJ4, hk4⟩ | ⟨rfl, hJx4⟩)
            · gi_wp2
              go_roundw
              case rel => exact ⟨j + 1, _, by omega, by go_num, by rw [wdsT_snoc, HP.out, take_snoc [] hjl, HU.out, List.append_assoc], hJ4, hbi.trans hk4⟩
              case measure => (simp [intOf]; try omega)
            · gi_wp2
              refine bodyPost_ret (results_none rfl _ _ _) rfl ?_
              exact ⟨⟨_, rfl⟩, .inr ⟨_, say_all (u := R.take j ++ [u]) (r := R.drop (j + 1) ++ [x.E.getD k []]) hlt (by rw [wdsT_snoc, HP.out, List.append_assoc]) (by rw [HR.out, List.append_assoc, ← HU.out]; exact take_part [] hjl _), hJx4⟩⟩
          · have ij : ¬ (j : Int) < (R.length : Int) := by omega
            have ej : R.take j = R := List.take_of_length_le (by omega)
            rw [ej] at hpi
            have hlE : k < x.E.length := by omega
            have iE : (k : Int) < (x.E.length : Int) := by omega
            obtain ⟨b6, o6, rfl, hc6⟩ := HT.out.last.at hlE
            obtain ⟨r6, k6, d6, hr6, hm6⟩ := hc6 k hlE
            obtain ⟨u, hu⟩ : ∃ u, x.E.getD k [] = u := ⟨_, rfl⟩
            rw [hu] at d6 hr6 hm6
            have HU : Hid (x.E.getD k [] = u) := hu
            clear hu
            have d6' := (HB.out wi hbi).cell d6 (by simp)
            have x6 := (HX.out wi hbi).b6
            obtain ⟨fn, tmps, assign, body, hy, hR⟩ := hY pri ⟨(r6, k6, u), hr6, hm6⟩ wi hJi (say_more (u := R) (v := [u]) (r := []) hlt hpi (by rw [HR.out, HU.out]; simp) (by simp))
            simp only [encW] at hy
            have HP : Hid (wdsT pri = sayTo x k ++ R) := hpi
            clear hc6 d6 hpi ej
            gi_wp2
            refine hR.mono ?_
            rintro e W4 (⟨rfl, hJ4, hk4⟩ | ⟨rfl, hJx4⟩)
            · gi_wp2
              go_roundw
              case rel => exact ⟨k + 1, _, by omega, by go_num, by rw [wdsT_snoc, HP.out, sayTo_succ, HR.out, HU.out, List.append_assoc], hJ4, hbi.trans hk4⟩
              case measure => (simp [intOf]; try omega)
            · gi_wp2
              refine bodyPost_ret (results_none rfl _ _ _) rfl ?_
              exact ⟨⟨_, rfl⟩, .inr ⟨_, say_all (u := R ++ [u]) (r := []) hlt (by rw [wdsT_snoc, HP.out, List.append_assoc]) (by rw [HR.out, HU.out]; simp), hJx4⟩⟩
      · have i5 : ¬ (k : Int) < (x.Y.length : Int) := by omega
        have ek : k = x.Y.length := by omega
        subst ek
        gi_wp2
        go_end0
        exact ⟨⟨_, rfl⟩, .inl ⟨pre, hp, hJs⟩⟩
  · gi_wp2
    refine bodyPost_ret (results_none rfl _ _ _) rfl ?_
    exact ⟨⟨_, rfl⟩, .inr ⟨_, fun y hy => by
      have e : y.1.2.2 = x.F := by simp at hy; rw [hy]
      rw [e]
      exact List.mem_cons.2 (.inl rfl), hJx3⟩⟩

theorem sayings_any (I O S : Int) (a3 : Option Addr) (n3 c3 : Nat) (a4 : Option Addr) (n c4 : Nat) (a5 : Option Addr) (n5 c5 : Nat) (a6 : Option Addr) (n6 c6 : Nat) (w : World) :
    Calls Try.prog 51 #[tnV I O S a3 n3 c3 a4 n c4 a5 n5 c5 a6 n6 c6] w fun e w' => e = .returned (.func (.func 62) #[] #[.pointer (some ⟨w.heap.size, 0, none⟩)]) ∧ w' = w.alloc (tnO I O S a3 n3 c3 a4 n c4 a5 n5 c5 a6 n6 c6) := by
  go_enter Try.func51, Try.ntmps51
  go_wp2_with fail
  go_ret
  exact ⟨rfl, rfl⟩

end Go.Proofs.Ytodcmlcpicabaaa

namespace Go.Proofs.Ytodcmlcpicabaaa
open Go.RowKit Go.Shelf
set_option linter.unusedVariables false
set_option linter.unusedSimpArgs false
attribute [local go_sem] Oper.semAt_some

/-- All words that have come are short; one is not. And so of letters. -/
def LitL {w : World} (pre : List (WdT w)) : Prop := ∀ y, y ∈ pre → y.1.2.2.length ≤ 8
def LitN {w : World} (pre : List (WdT w)) : Prop := ∃ y, y ∈ pre ∧ ¬ y.1.2.2.length ≤ 8
theorem LitL.snoc {w : World} {pre : List (WdT w)} {y : WdT w} (h : LitL pre) (k : y.1.2.2.length ≤ 8) : LitL (pre ++ [y]) := fun z hz => (List.mem_append.1 hz).elim (h z) (fun e => by rw [List.mem_singleton.1 e]; exact k)
theorem LitN.snoc {w : World} {pre : List (WdT w)} {y : WdT w} (k : ¬ y.1.2.2.length ≤ 8) : LitN (pre ++ [y]) := ⟨y, List.mem_append.2 (.inr (List.mem_cons.2 (.inl rfl))), k⟩
def LetL {w : World} (O : Int) (pre : List (WdT w)) : Prop := ∀ y, y ∈ pre → LetT O y.1.2.2
def LetN {w : World} (O : Int) (pre : List (WdT w)) : Prop := ∃ y, y ∈ pre ∧ ¬ LetT O y.1.2.2
theorem LetL.snoc {w : World} {O : Int} {pre : List (WdT w)} {y : WdT w} (h : LetL O pre) (k : LetT O y.1.2.2) : LetL O (pre ++ [y]) := fun z hz => (List.mem_append.1 hz).elim (h z) (fun e => by rw [List.mem_singleton.1 e]; exact k)
theorem LetN.snoc {w : World} {O : Int} {pre : List (WdT w)} {y : WdT w} (k : ¬ LetT O y.1.2.2) : LetN O (pre ++ [y]) := ⟨y, List.mem_append.2 (.inr (List.mem_cons.2 (.inl rfl))), k⟩

/-- The worlds as a range over the sayings begins. -/
theorem lit_world (w : World) (I O S : Int) (a3 : Option Addr) (n3 c3 : Nat) (a4 : Option Addr) (n4 c4 : Nat) (a5 : Option Addr) (n5 c5 : Nat) (a6 : Option Addr) (n6 c6 : Nat) :
    ∃ W1 W0, W1 = (w.alloc (tnO I O S a3 n3 c3 a4 n4 c4 a5 n5 c5 a6 n6 c6)).alloc (.cells #[.bool false] 4) ∧ W0 = W1.alloc (tnO I O S a3 n3 c3 a4 n4 c4 a5 n5 c5 a6 n6 c6) ∧ W1.heap.size = w.heap.size + 1 + 1 ∧ W0.heap.size = w.heap.size + 1 + 1 + 1 ∧ w.grownBy W1 none ∧ W1.grownBy W0 none ∧ w.grownBy W0 none ∧ Box7 W1 w.heap.size I O S a3 n3 c3 a4 n4 c4 a5 n5 c5 a6 n6 c6 ∧ Box7 W0 (w.heap.size + 1 + 1) I O S a3 n3 c3 a4 n4 c4 a5 n5 c5 a6 n6 c6 ∧ W0.cell? ⟨w.heap.size + 1, 0, none⟩ = some (.bool false) ∧ W0.frozen? ⟨w.heap.size + 1, 0, none⟩ = false := by
  obtain ⟨Wa, hWa, ga, sa, bxa⟩ := box7_new w I O S a3 n3 c3 a4 n4 c4 a5 n5 c5 a6 n6 c6
  obtain ⟨W1, hW1⟩ : ∃ W1, W1 = Wa.alloc (.cells #[.bool false] 4) := ⟨_, rfl⟩
  have g1 : Wa.grownBy W1 none := by rw [hW1]; exact grown_alloc _ _
  have s1 : W1.heap.size = w.heap.size + 1 + 1 := by rw [hW1]; simp [sa]
  have hb1 : W1.heap[w.heap.size + 1]? = some (.cells #[.bool false] 4 (0, 0)) := by
    have := heap_alloc_new Wa (.cells #[.bool false] 4)
    rw [← hW1, sa] at this
    exact this
  obtain ⟨W0, hW0, g0, s0, bx0⟩ := box7_new W1 I O S a3 n3 c3 a4 n4 c4 a5 n5 c5 a6 n6 c6
  rw [s1] at s0 bx0
  have hb0 : W0.heap[w.heap.size + 1]? = some (.cells #[.bool false] 4 (0, 0)) := (g0.block _ (by omega) (by simp)).trans hb1
  refine ⟨W1, W0, by rw [hW1, hWa], hW0, s1, s0, grown_trans ga g1, g0, grown_trans (grown_trans ga g1) g0, bxa.grown g1, bx0, ?_, frozen_of_row _ _ _ _ _ hb0⟩
  rw [cell_of_row _ _ 0 _ _ (0, 0) hb0]; rfl

set_option maxRecDepth 100000 in
set_option maxHeartbeats 3200000 in
theorem saysLittle_any (x : TrI) (a3 a4 a5 a6 : Option Addr) (c3 c4 c5 c6 : Nat) (w : World) (h : TnAt w x a3 a4 a5 a6) (he : x.E.length = x.Y.length) :
    Calls Try.prog 29 #[tnV x.I x.O x.S a3 x.F.length c3 a4 x.N.length c4 a5 x.Y.length c5 a6 x.E.length c6] w (TellsB (LittleT x) w) := by
  obtain ⟨W1, W0, hW1, hW0, s1, s0, g1, g10, g0, bx1, bx0, cr, fr⟩ := lit_world w x.I x.O x.S a3 x.F.length c3 a4 x.N.length c4 a5 x.Y.length c5 a6 x.E.length c6
  have HW1 : Hid (W1 = _) := hW1
  have HW0 : Hid (W0 = _) := hW0
  have HS : Hid (W0.heap.size = w.heap.size + 1 + 1 + 1) := s0
  have HS1 : Hid (W1.heap.size = w.heap.size + 1 + 1) := s1
  have HG : Hid (w.grownBy W0 none) := g0
  have HC : Hid (W0.cell? ⟨w.heap.size + 1, 0, none⟩ = some (.bool false) ∧ W0.frozen? ⟨w.heap.size + 1, 0, none⟩ = false) := ⟨cr, fr⟩
  have HST := say_stops 2 (by omega) (w.heap.size + 1 + 1) x a3 a4 a5 a6 c3 c4 c5 c6 W0 bx0 (h.grown g0) he
  have HSA : Hid (Calls Try.prog 51 #[tnV x.I x.O x.S a3 x.F.length c3 a4 x.N.length c4 a5 x.Y.length c5 a6 x.E.length c6] W1 fun e w' => e = .returned (.func (.func 62) #[] #[.pointer (some ⟨w.heap.size + 1 + 1, 0, none⟩)]) ∧ w' = W0) := by
    have := sayings_any x.I x.O x.S a3 x.F.length c3 a4 x.N.length c4 a5 x.Y.length c5 a6 x.E.length c6 W1
    rw [s1, ← hW0] at this
    exact this
  have y0 := bx1.b0
  have y1 := bx1.b1
  have y2 := bx1.b2
  have y3 := bx1.b3
  have y4 := bx1.b4
  have y5 := bx1.b5
  have y6 := bx1.b6
  rw [hW1] at y0 y1 y2 y3 y4 y5 y6
  clear hW1 hW0 s1 s0 g1 g10 g0 bx1 bx0 cr fr h he
  refine (callsIn_wide (n := 3)).1 ?_
  refine callsIn_of_wp_marks Try.func29 rfl trivial ?_ rfl
  simp only [Try.ntmps29, List.size_toArray, List.length_cons, List.length_nil, Nat.reduceAdd, Nat.reduceSub, Array.replicate_succ, Array.replicate_zero, List.push_toArray, List.append_toArray, List.nil_append, List.cons_append]
  gi_wp2
  rw [← HW1.out]
  refine ⟨trivial, (callsIn_wide.2 HSA.out).mono ?_⟩
  rintro e w4 ⟨rfl, rfl⟩
  clear y0 y1 y2 y3 y4 y5 y6
  gi_wp2
  refine wpIn_rangeFunc_ownF rfl (by omega) (gf := 62) (lb := #[.pointer (some ⟨w.heap.size + 1 + 1, 0, none⟩)]) rfl trivial (enters_of Try.func62 (by kernel_rfl) rfl)
    HST belowK_t (belowK_b (Nat.le_refl _)) (Below.refl _ _) (fun _ => rfl)
    (fun (pre : List (WdT w4)) W => LitL pre ∧ Below w4.heap.size w4 W)
    (fun c (pre : List (WdT w4)) W => c = .ret ∧ LitN pre ∧ Below w.heap.size w W ∧ W.cell? ⟨w.heap.size + 1, 0, none⟩ = some (.bool false))
    (fun s A B row hs hg hr => ⟨hs.1, hs.2.grown hg hs.2.size (fun k e => (hr k e).1)⟩)
    (fun c s A B row hs hg hr => ⟨hs.1, hs.2.1, hs.2.2.1.grown hg hs.2.2.1.size (fun k e => by have := (hr k e).1; have := HS.out; omega), cell_kept hs.2.2.2 hg (fun r e => (hr r e).2)⟩)
    ⟨(fun y hy => by simp at hy), Below.refl _ _⟩
    (fun y => { tmps := #[tnV x.I x.O x.S a3 x.F.length c3 a4 x.N.length c4 a5 x.Y.length c5 a6 x.E.length c6, .pointer (some ⟨w.heap.size, 0, none⟩), .pointer (some ⟨w.heap.size + 1, 0, none⟩), .slice y.1.1 y.1.2.2.length y.1.2.1, tnV x.I x.O x.S a3 x.F.length c3 a4 x.N.length c4 a5 x.Y.length c5 a6 x.E.length c6, .func (.func 62) #[] #[.pointer (some ⟨w.heap.size + 1 + 1, 0, none⟩)], .slice y.1.1 y.1.2.2.length y.1.2.1, undef, undef, undef], defers := [] }) ?assign0 ?body0 ?done0 ?stop0
  case assign0 =>
    intro l y W K hK
    simp only [encW]
    gi_wp2
    exact hK
  case body0 =>
    rintro l pre y W ⟨hp, hB⟩ _
    have gB : w4.grownBy W none := grown_of_below hB
    have cr := gB.cell HC.out.1 (by simp)
    have fr : W.frozen? ⟨w.heap.size + 1, 0, none⟩ = false := by
      have hh := gB.block (w.heap.size + 1) (by have := HS.out; omega) (by simp)
      have h2 := HC.out.2
      simp only [World.frozen?] at h2 ⊢
      rw [hh]; exact h2
    have HBW : Hid (Below w4.heap.size w4 W) := hB
    have HWW : Hid (Below w.heap.size w W) := below_of_grown (grown_trans HG.out gB)
    have HPP : Hid (LitL pre) := hp
    clear hp hB gB
    have hm := y.2.2
    unfold maxLen at hm
    by_cases hl : y.1.2.2.length ≤ 8
    · have hd : ¬ (8 : Int) < (y.1.2.2.length : Int) := by omega
      gi_wp2
      exact ⟨KeepsOthers.refl _, Below.refl _ _, HPP.out.snoc hl, HBW.out⟩
    · have hd : (8 : Int) < (y.1.2.2.length : Int) := by omega
      gi_wp2
      exact ⟨KeepsOthers.setCell _ _ _, rfl, LitN.snoc hl, HWW.out.setCell (p := ⟨w.heap.size + 1, 0, none⟩) (by show w.heap.size ≤ w.heap.size + 1; omega) _, World.cell?_setCell_same' _ _ _ (by rw [cr]; rfl)⟩
  case done0 =>
    rintro D xs W hD hS ⟨hp, hB⟩ hK
    have gB : w4.grownBy W none := grown_of_below hB
    have cr := gB.cell HC.out.1 (by simp)
    have fr : W.frozen? ⟨w.heap.size + 1, 0, none⟩ = false := by
      have hh := gB.block (w.heap.size + 1) (by have := HS.out; omega) (by simp)
      have h2 := HC.out.2
      simp only [World.frozen?] at h2 ⊢
      rw [hh]; exact h2
    have HWW : Hid (Below w.heap.size w W) := below_of_grown (grown_trans HG.out gB)
    have HL : Hid (LittleT x) := fun u hu => by
      rw [← hS] at hu
      obtain ⟨y, hy, rfl⟩ := List.mem_map.1 hu
      exact hp y hy
    clear hS hp hB gB
    gi_wp2
    have hK' := (KeepsOthers.setCell W ⟨w.heap.size + 1, 0, none⟩ (.bool true)).same D _ hK rfl
    refine ⟨by simp, .inl ⟨_, _, rfl, run_takeDeferred hK', ?_⟩⟩
    have hc5 := cell_kept (World.cell?_setCell_same' W ⟨w.heap.size + 1, 0, none⟩ (.bool true) (by rw [cr]; rfl)) (grownBy_putObj' _ D (.deferred none)) (fun r e => by cases e; exact ⟨_, hK', rfl⟩)
    refine ⟨.bool true, ?_, ?_⟩
    · simp [results, Try.f29, go_sem, hc5]
    · refine tellsB true rfl ⟨fun _ => HL.out, fun _ => rfl⟩ (grown_of_below ?_)
      refine (HWW.out.setCell (p := ⟨w.heap.size + 1, 0, none⟩) (by show w.heap.size ≤ w.heap.size + 1; omega) (.bool true)).trans ?_
      exact belowK_b (w := w) (Nat.le_refl _) _ D _ _ (by have := HS.out; omega) hK' rfl rfl
  case stop0 =>
    rintro D c pre W hD hS ⟨rfl, ⟨y, hy, hl⟩, hB, cr⟩ hK
    have HL : Hid (¬ LittleT x) := fun hh => hl (hh _ (hS y hy))
    gi_wp2
    refine ⟨by simp, .inl ⟨_, _, rfl, run_takeDeferred hK, ?_⟩⟩
    have hc5 := cell_kept cr (grownBy_putObj' _ D (.deferred none)) (fun r e => by cases e; exact ⟨_, hK, rfl⟩)
    refine ⟨.bool false, ?_, ?_⟩
    · simp [results, Try.f29, go_sem, hc5]
    · refine tellsB false rfl ⟨(fun e => by cases e), fun e => absurd e HL.out⟩ (grown_of_below (hB.trans ?_))
      exact belowK_b (w := w) (Nat.le_refl _) _ D _ _ (by have := HS.out; omega) hK rfl rfl

set_option maxRecDepth 100000 in
set_option maxHeartbeats 3200000 in
theorem saysLetters_any (x : TrI) (a3 a4 a5 a6 : Option Addr) (c3 c4 c5 c6 : Nat) (w : World) (h : TnAt w x a3 a4 a5 a6) (he : x.E.length = x.Y.length) :
    Calls Try.prog 46 #[tnV x.I x.O x.S a3 x.F.length c3 a4 x.N.length c4 a5 x.Y.length c5 a6 x.E.length c6] w (TellsB (LetsT x) w) := by
  obtain ⟨W1, W0, hW1, hW0, s1, s0, g1, g10, g0, bx1, bx0, cr, fr⟩ := lit_world w x.I x.O x.S a3 x.F.length c3 a4 x.N.length c4 a5 x.Y.length c5 a6 x.E.length c6
  have HW1 : Hid (W1 = _) := hW1
  have HW0 : Hid (W0 = _) := hW0
  have HS : Hid (W0.heap.size = w.heap.size + 1 + 1 + 1) := s0
  have HS1 : Hid (W1.heap.size = w.heap.size + 1 + 1) := s1
  have HG : Hid (w.grownBy W0 none) := g0
  have HC : Hid (W0.cell? ⟨w.heap.size + 1, 0, none⟩ = some (.bool false) ∧ W0.frozen? ⟨w.heap.size + 1, 0, none⟩ = false) := ⟨cr, fr⟩
  have HST := say_stops 2 (by omega) (w.heap.size + 1 + 1) x a3 a4 a5 a6 c3 c4 c5 c6 W0 bx0 (h.grown g0) he
  have HB1 : Hid (∀ W, Below W0.heap.size W0 W → W.cell? ⟨w.heap.size, 1, none⟩ = some (.int .i64 x.O)) := fun W hb => ((bx1.grown g10).grown (grown_of_below hb)).b1
  have HSA : Hid (Calls Try.prog 51 #[tnV x.I x.O x.S a3 x.F.length c3 a4 x.N.length c4 a5 x.Y.length c5 a6 x.E.length c6] W1 fun e w' => e = .returned (.func (.func 62) #[] #[.pointer (some ⟨w.heap.size + 1 + 1, 0, none⟩)]) ∧ w' = W0) := by
    have := sayings_any x.I x.O x.S a3 x.F.length c3 a4 x.N.length c4 a5 x.Y.length c5 a6 x.E.length c6 W1
    rw [s1, ← hW0] at this
    exact this
  have y0 := bx1.b0
  have y1 := bx1.b1
  have y2 := bx1.b2
  have y3 := bx1.b3
  have y4 := bx1.b4
  have y5 := bx1.b5
  have y6 := bx1.b6
  rw [hW1] at y0 y1 y2 y3 y4 y5 y6
  clear hW1 hW0 s1 s0 g1 g10 g0 bx1 bx0 cr fr h he
  refine (callsIn_wide (n := 3)).1 ?_
  refine callsIn_of_wp_marks Try.func46 rfl trivial ?_ rfl
  simp only [Try.ntmps46, List.size_toArray, List.length_cons, List.length_nil, Nat.reduceAdd, Nat.reduceSub, Array.replicate_succ, Array.replicate_zero, List.push_toArray, List.append_toArray, List.nil_append, List.cons_append]
  gi_wp2
  rw [← HW1.out]
  refine ⟨trivial, (callsIn_wide.2 HSA.out).mono ?_⟩
  rintro e w4 ⟨rfl, rfl⟩
  clear y0 y1 y2 y3 y4 y5 y6
  gi_wp2
  refine wpIn_rangeFunc_ownF rfl (by omega) (gf := 62) (lb := #[.pointer (some ⟨w.heap.size + 1 + 1, 0, none⟩)]) rfl trivial (enters_of Try.func62 (by kernel_rfl) rfl)
    HST belowK_t (belowK_b (Nat.le_refl _)) (Below.refl _ _) (fun _ => rfl)
    (fun (pre : List (WdT w4)) W => LetL x.O pre ∧ Below w4.heap.size w4 W)
    (fun c (pre : List (WdT w4)) W => c = .ret ∧ LetN x.O pre ∧ Below w.heap.size w W ∧ W.cell? ⟨w.heap.size + 1, 0, none⟩ = some (.bool false))
    (fun s A B row hs hg hr => ⟨hs.1, hs.2.grown hg hs.2.size (fun k e => (hr k e).1)⟩)
    (fun c s A B row hs hg hr => ⟨hs.1, hs.2.1, hs.2.2.1.grown hg hs.2.2.1.size (fun k e => by have := (hr k e).1; have := HS.out; omega), cell_kept hs.2.2.2 hg (fun r e => (hr r e).2)⟩)
    ⟨(fun y hy => by simp at hy), Below.refl _ _⟩
    (fun y => { tmps := #[tnV x.I x.O x.S a3 x.F.length c3 a4 x.N.length c4 a5 x.Y.length c5 a6 x.E.length c6, .pointer (some ⟨w.heap.size, 0, none⟩), .pointer (some ⟨w.heap.size + 1, 0, none⟩), .slice y.1.1 y.1.2.2.length y.1.2.1, undef, undef, tnV x.I x.O x.S a3 x.F.length c3 a4 x.N.length c4 a5 x.Y.length c5 a6 x.E.length c6, .func (.func 62) #[] #[.pointer (some ⟨w.heap.size + 1 + 1, 0, none⟩)], .slice y.1.1 y.1.2.2.length y.1.2.1, undef, undef, undef, undef, undef, undef, undef, undef, undef, undef, undef, undef, undef, undef, undef], defers := [] }) ?assign0 ?body0 ?done0 ?stop0
  case assign0 =>
    intro l y W K hK
    simp only [encW]
    gi_wp2
    exact hK
  case body0 =>
    rintro l pre y W ⟨hp, hB⟩ _
    have gB : w4.grownBy W none := grown_of_below hB
    have cr := gB.cell HC.out.1 (by simp)
    have fr : W.frozen? ⟨w.heap.size + 1, 0, none⟩ = false := by
      have hh := gB.block (w.heap.size + 1) (by have := HS.out; omega) (by simp)
      have h2 := HC.out.2
      simp only [World.frozen?] at h2 ⊢
      rw [hh]; exact h2
    have HBW : Hid (Below w4.heap.size w4 W) := hB
    have HWW : Hid (Below w.heap.size w W) := below_of_grown (grown_trans HG.out gB)
    have HPP : Hid (LetL x.O pre) := hp
    clear hp hB gB
    have hm := y.2.2
    unfold maxLen at hm
    have HYI : Hid (Ints W y.1.1 y.1.2.2) := y.2.1.grown (grown_of_below HBW.out)
    have z1 := HB1.out W HBW.out
    obtain ⟨u, hu⟩ : ∃ u, y.1.2.2 = u := ⟨_, rfl⟩
    obtain ⟨ad, had⟩ : ∃ ad, y.1.1 = ad := ⟨_, rfl⟩
    obtain ⟨cp, hcp⟩ : ∃ cp, y.1.2.1 = cp := ⟨_, rfl⟩
    have HLY : Hid (LetT x.O u → LetL x.O (pre ++ [y])) := fun hh => HPP.out.snoc (by rw [hu]; exact hh)
    have HLN : Hid (¬ LetT x.O u → LetN x.O (pre ++ [y])) := fun hh => LetN.snoc (by rw [hu]; exact hh)
    rw [hu] at hm HYI
    rw [had] at HYI
    simp only [hu, had, hcp]
    clear hu had hcp HPP
    gi_wp2
    gi_loopw [11] (fun v wr => ∃ k : Nat, k ≤ u.length ∧ v = .int .i64 (k : Int) ∧ wr = W ∧ ∀ j, j < k → 0 ≤ u.getD j 0 ∧ u.getD j 0 < x.O) (fun v _ => u.length - (intOf v).toNat)
    case atStart => exact ⟨0, Nat.zero_le _, rfl, rfl, fun j hj => by omega⟩
    case round =>
      obtain ⟨k, hk, rfl, hwr, hg⟩ := hrel
      have HJ : Hid (∀ j, j < k → 0 ≤ u.getD j 0 ∧ u.getD j 0 < x.O) := hg
      subst hwr
      clear hg
      by_cases hlt : k < u.length
      · obtain ⟨bb, ob, rfl, hc⟩ := HYI.out.at hlt
        have hck := hc k hlt
        have ik : (k : Int) < (u.length : Int) := by omega
        obtain ⟨z, hz⟩ : ∃ z, u.getD k 0 = z := ⟨_, rfl⟩
        rw [hz] at hck
        have HZ : Hid (u.getD k 0 = z) := hz
        clear hz hc
        by_cases f1 : z < 0
        · have d1 : decide (z < 0) = true := by simpa using f1
          have HN : Hid (LetN x.O (pre ++ [y])) := HLN.out fun hh => by have := (hh k hlt).1; rw [HZ.out] at this; omega
          clear f1
          gi_wp2
          exact ⟨KeepsOthers.setCell _ _ _, rfl, HN.out, HWW.out.setCell (p := ⟨w.heap.size + 1, 0, none⟩) (by show w.heap.size ≤ w.heap.size + 1; omega) _, World.cell?_setCell_same' _ _ _ (by rw [cr]; rfl)⟩
        · have d1 : decide (z < 0) = false := by simpa using f1
          by_cases f2 : x.O ≤ z
          · have d2 : decide (x.O ≤ z) = true := by simpa using f2
            have HN : Hid (LetN x.O (pre ++ [y])) := HLN.out fun hh => by have := (hh k hlt).2; rw [HZ.out] at this; omega
            clear f1 f2
            gi_wp2
            exact ⟨KeepsOthers.setCell _ _ _, rfl, HN.out, HWW.out.setCell (p := ⟨w.heap.size + 1, 0, none⟩) (by show w.heap.size ≤ w.heap.size + 1; omega) _, World.cell?_setCell_same' _ _ _ (by rw [cr]; rfl)⟩
          · have d2 : decide (x.O ≤ z) = false := by simpa using f2
            have HN : Hid (∀ j, j < k + 1 → 0 ≤ u.getD j 0 ∧ u.getD j 0 < x.O) := fun j hj => by
              by_cases hjk : j = k
              · subst hjk; rw [HZ.out]; omega
              · exact HJ.out j (by omega)
            clear f1 f2
            gi_wp2
            go_roundw
            case rel => exact ⟨k + 1, by omega, by go_num, by trivial, HN.out⟩
            case measure => (simp [intOf]; try omega)
      · have ik : ¬ (k : Int) < (u.length : Int) := by omega
        have HN : Hid (LetL x.O (pre ++ [y])) := HLY.out fun j hj => HJ.out j (by omega)
        gi_wp2
        exact ⟨KeepsOthers.refl _, Below.refl _ _, HN.out, HBW.out⟩
  case done0 =>
    rintro D xs W hD hS ⟨hp, hB⟩ hK
    have gB : w4.grownBy W none := grown_of_below hB
    have cr := gB.cell HC.out.1 (by simp)
    have fr : W.frozen? ⟨w.heap.size + 1, 0, none⟩ = false := by
      have hh := gB.block (w.heap.size + 1) (by have := HS.out; omega) (by simp)
      have h2 := HC.out.2
      simp only [World.frozen?] at h2 ⊢
      rw [hh]; exact h2
    have HWW : Hid (Below w.heap.size w W) := below_of_grown (grown_trans HG.out gB)
    have HL : Hid (LetsT x) := fun u hu => by
      rw [← hS] at hu
      obtain ⟨y, hy, rfl⟩ := List.mem_map.1 hu
      exact hp y hy
    clear hS hp hB gB
    gi_wp2
    have hK' := (KeepsOthers.setCell W ⟨w.heap.size + 1, 0, none⟩ (.bool true)).same D _ hK rfl
    refine ⟨by simp, .inl ⟨_, _, rfl, run_takeDeferred hK', ?_⟩⟩
    have hc5 := cell_kept (World.cell?_setCell_same' W ⟨w.heap.size + 1, 0, none⟩ (.bool true) (by rw [cr]; rfl)) (grownBy_putObj' _ D (.deferred none)) (fun r e => by cases e; exact ⟨_, hK', rfl⟩)
    refine ⟨.bool true, ?_, ?_⟩
    · simp [results, Try.f46, go_sem, hc5]
    · refine tellsB true rfl ⟨fun _ => HL.out, fun _ => rfl⟩ (grown_of_below ?_)
      refine (HWW.out.setCell (p := ⟨w.heap.size + 1, 0, none⟩) (by show w.heap.size ≤ w.heap.size + 1; omega) (.bool true)).trans ?_
      exact belowK_b (w := w) (Nat.le_refl _) _ D _ _ (by have := HS.out; omega) hK' rfl rfl
  case stop0 =>
    rintro D c pre W hD hS ⟨rfl, ⟨y, hy, hl⟩, hB, cr⟩ hK
    have HL : Hid (¬ LetsT x) := fun hh => hl (hh _ (hS y hy))
    gi_wp2
    refine ⟨by simp, .inl ⟨_, _, rfl, run_takeDeferred hK, ?_⟩⟩
    have hc5 := cell_kept cr (grownBy_putObj' _ D (.deferred none)) (fun r e => by cases e; exact ⟨_, hK, rfl⟩)
    refine ⟨.bool false, ?_, ?_⟩
    · simp [results, Try.f46, go_sem, hc5]
    · refine tellsB false rfl ⟨(fun e => by cases e), fun e => absurd e HL.out⟩ (grown_of_below (hB.trans ?_))
      exact belowK_b (w := w) (Nat.le_refl _) _ D _ _ (by have := HS.out; omega) hK rfl rfl

end Go.Proofs.Ytodcmlcpicabaaa
