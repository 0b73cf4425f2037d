/- slices.Backward over a row of truths, as a range goes over it; and where a way leads. -/
import Derived.Test.YtneialmpaiejcaaSay
import Derived.RangeFuncNested
import Derived.RangeFuncBound
import Derived.RangeFuncCalls
import Derived.RangeFuncLeaves
import Derived.Shelf.Abstract
import Derived.Shelf.RegionOpen
import Derived.WalkKit
import Derived.OwnWalkIn
import Derived.TacticsInMore
import Derived.LoopNIn
import Derived.LoopIn
namespace Go.Proofs.Ytneialmpaiejcaa
open Go.RowKit Go.Shelf
set_option linter.unusedVariables false
set_option linter.unusedSimpArgs false
attribute [local go_sem] Oper.semAt_some

/-- The place behind another one. -/
def aft (n t i : Nat) : Nat := if i + 1 < n then i + 1 else t
theorem aft_lt {n t i : Nat} (ht : t < n) : aft n t i < n := by unfold aft; split <;> omega

set_option maxHeartbeats 800000 in
theorem after_any (n t i c : Nat) (a : Option Addr) (w : World) (hn : n ≤ 1000) (hi : i < n) (ht : t < n) :
    Calls Try.prog 17 #[.agg #[.slice a n c, .int .i64 (t : Int)], .int .i64 (i : Int)] w (Says (.int .i64 ((aft n t i : Nat) : Int)) w) := by
  have G : Hid (∀ o, w.grownBy (w.alloc o) none) := fun o => grown_alloc _ _
  by_cases h : i + 1 < n
  · have h' : (i : Int) + 1 < (n : Int) := by omega
    have e : aft n t i = i + 1 := by unfold aft; rw [if_pos h]
    rw [e]
    go_enter Try.func17, Try.ntmps17
    go_wp2_with fail
    go_ret
    exact ⟨by go_num, G.out _⟩
  · have h' : ¬ (i : Int) + 1 < (n : Int) := by omega
    have e : aft n t i = t := by unfold aft; rw [if_neg h]
    rw [e]
    go_enter Try.func17, Try.ntmps17
    go_wp2_with fail
    go_ret
    exact ⟨rfl, G.out _⟩

/-- The cells of a row hold truths. -/
def Truths (W : World) (g n : Nat) : Prop := ∀ i, i < n → ∃ b, W.cell? ⟨g, i, none⟩ = some (.bool b)
/-- What a round keeps. -/
def KpB (Bs g n : Nat) (sv : Value) (W W' : World) : Prop := (W.cell? ⟨Bs, 0, none⟩ = some sv → W'.cell? ⟨Bs, 0, none⟩ = some sv) ∧ (Truths W g n → Truths W' g n)
theorem KpB.trans {Bs g n : Nat} {sv : Value} {A B C : World} (h : KpB Bs g n sv A B) (k : KpB Bs g n sv B C) : KpB Bs g n sv A C := ⟨fun x => k.1 (h.1 x), fun x => k.2 (h.2 x)⟩
theorem KpB.turn {Bs g n : Nat} {sv : Value} (W : World) (l : Nat) (o o' : Obj) (h : W.heap[l]? = some o) (ho : o.isCells = false) : KpB Bs g n sv W (W.putObj l o') := by
  have hr : ∀ r, some l = some r → ∃ o : Obj, W.heap[r]? = some o ∧ o.isCells = false := fun r e => by cases e; exact ⟨o, h, ho⟩
  refine ⟨fun x => cell_kept x (grownBy_putObj' W l o') hr, fun x i hi => ?_⟩
  obtain ⟨b, hb⟩ := x i hi
  exact ⟨b, cell_kept hb (grownBy_putObj' W l o') hr⟩
/-- A place of a row, and what lies there. -/
abbrev BkT (n : Nat) := Fin n × Bool
def encB (n : Nat) (x : BkT n) : Array Value := #[.int .i64 ((x.1 : Nat) : Int), .bool x.2]
/-- The first r places from the end on. -/
def endsB (n r : Nat) : List Nat := (List.range r).map fun q => n - 1 - q
theorem endsB_succ (n r : Nat) : endsB n (r + 1) = endsB n r ++ [n - 1 - r] := by simp [endsB, List.range_succ]

set_option maxRecDepth 100000 in
set_option maxHeartbeats 2000000 in
theorem back_stops (m : Nat) (hm : 1 ≤ m) (Bs g n cap : Nat) (hn : n ≤ 1000) (w : World) (hB : Bs < w.heap.size) (hg : g < w.heap.size) (hc : w.cell? ⟨Bs, 0, none⟩ = some (.slice (some ⟨g, 0, none⟩) n cap)) (hT : Truths w g n) :
    SeqStopsK Fence.wide m Try.prog 26 #[.pointer (some ⟨Bs, 0, none⟩)] (encB n) (KpB Bs g n (.slice (some ⟨g, 0, none⟩) n cap)) (fun xs => xs.map (fun x => (x.1 : Nat)) = endsB n n) (fun _ => True) n w := fun l J Jx W hW hJ hJx hY h0 => by
  have hc' : W.cell? ⟨Bs, 0, none⟩ = some (.slice (some ⟨g, 0, none⟩) n cap) := (hW.cell (p := ⟨Bs, 0, none⟩) hB).trans hc
  have hT' : Truths W g n := fun i hi => by
    obtain ⟨b, hb⟩ := hT i hi
    exact ⟨b, (hW.cell (p := ⟨g, i, none⟩) hg).trans hb⟩
  refine callsIn_of_wp Try.func26 rfl trivial ?_ rfl
  simp only [Try.ntmps26, List.size_toArray, List.length_cons, List.length_nil, Nat.reduceAdd, Nat.reduceSub, Array.replicate_succ, Array.replicate_zero, List.push_toArray, List.append_toArray, List.nil_append, List.cons_append]
  gi_wp2
  gi_loopw [3] (fun v wr => ∃ (k : Nat) (pre : List (BkT n)), k ≤ n ∧ v = .int .i64 ((k : Int) - 1) ∧ pre.map (fun x => (x.1 : Nat)) = endsB n (n - k) ∧ J pre wr ∧ wr.cell? ⟨Bs, 0, none⟩ = some (.slice (some ⟨g, 0, none⟩) n cap) ∧ Truths wr g n) (fun v _ => (intOf v + 1).toNat)
  case atStart => exact ⟨n, [], Nat.le_refl _, rfl, by simp [endsB], h0, hc', hT'⟩
  case round =>
    obtain ⟨k, pre, hk, rfl, hp, hJs, hcw, hTw⟩ := hrel
    cases k with
    | zero =>
      have e0 : ¬ (0 : Int) ≤ ((0 : Nat) : Int) - 1 := by omega
      gi_wp2
      go_end0
      exact ⟨⟨_, rfl⟩, .inl ⟨pre, by rw [hp, Nat.sub_zero], hJs⟩⟩
    | succ k =>
      have e0 : (0 : Int) ≤ ((k + 1 : Nat) : Int) - 1 := by omega
      have e1 : ((k + 1 : Nat) : Int) - 1 = (k : Int) := by omega
      rw [e1]
      have e2 : (k : Int) < (n : Int) := by omega
      have e3 : (0 : Int) ≤ (k : Int) := by omega
      obtain ⟨b, hb⟩ := hTw k (by omega)
      have hlen : pre.length < n := by
        have := congrArg List.length hp
        simp [endsB] at this
        omega
      obtain ⟨fn, tmps, assign, body, hy, hR⟩ := hY pre (⟨k, by omega⟩, b) wr hJs hlen
      simp only [encB] at hy
      clear e0 e1
      gi_wp2
      refine hR.mono ?_
      rintro e W3 (⟨rfl, hJ3, hk3⟩ | ⟨rfl, hJx3⟩)
      · gi_wp2
        go_roundw
        case rel => exact ⟨k, _, by omega, by go_num, by rw [List.map_append, hp, show n - k = (n - (k + 1)) + 1 by omega, endsB_succ]; simp; omega, hJ3, hk3.1 hcw, hk3.2 hTw⟩
        case measure => (simp [intOf]; try omega)
      · gi_wp2
        refine bodyPost_ret (results_none rfl _ _ _) rfl ?_
        exact ⟨⟨_, rfl⟩, .inr ⟨_, trivial, hJx3⟩⟩

theorem backward_any (a : Option Addr) (n c : Nat) (w : World) :
    Calls Try.prog 22 #[.slice a n c] w fun e w' => e = .returned (.func (.func 26) #[] #[.pointer (some ⟨w.heap.size, 0, none⟩)]) ∧ w' = w.alloc (.cells #[.slice a n c] 36) := by
  go_enter Try.func22, Try.ntmps22
  go_wp2_with fail
  go_ret
  exact ⟨rfl, rfl⟩

end Go.Proofs.Ytneialmpaiejcaa
