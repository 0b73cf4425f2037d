/- All that a transducer says at once, as a range goes over it. -/
import Derived.Test.YtdajdnilhjcniaaTnBase
import Derived.RangeFuncNested
import Derived.RangeFuncBound
import Derived.RangeFuncCalls
import Derived.RangeFuncLeaves
import Derived.Shelf.Abstract
import Derived.Shelf.RegionOpen
import Derived.WalkKit
import Derived.OwnWalkIn
import Derived.TacticsInMore
import Derived.LoopNIn
import Derived.LoopIn
namespace Go.Proofs.Ytdajdnilhjcniaa
open Go.RowKit Go.Shelf
set_option linter.unusedVariables false
set_option linter.unusedSimpArgs false
attribute [local go_sem] Oper.semAt_some

/-- A word that lies in a world. -/
abbrev WdT (w : World) := { x : Option Addr × Nat × List Int // Ints w x.1 x.2.2 ∧ x.2.2.length ≤ maxLen }
def encW (w : World) (x : WdT w) : Array Value := #[.slice x.1.1 x.1.2.2.length x.1.2.1]
def wdsT {w : World} (l : List (WdT w)) : List (List Int) := l.map fun x => x.1.2.2
theorem wdsT_snoc {w : World} (l : List (WdT w)) (x : WdT w) : wdsT (l ++ [x]) = wdsT l ++ [x.1.2.2] := by simp [wdsT]
theorem wdsT_len {w : World} (l : List (WdT w)) : (wdsT l).length = l.length := by simp [wdsT]
theorem sayTo_sub (x : TrI) {k n : Nat} (h : k ≤ n) : ∃ r, sayTo x n = sayTo x k ++ r := by
  induction n with
  | zero =>
            obtain rfl : k = 0 := (by omega)
            exact ⟨[], by simp⟩
  | succ n ih =>
    by_cases hk : k = n + 1
    · subst hk; exact ⟨[], by simp⟩
    · obtain ⟨r, hr⟩ := ih (by omega)
      exact ⟨_, by rw [sayTo_succ, hr, List.append_assoc]⟩
theorem say_more {w : World} {x : TrI} {k : Nat} {l : List (WdT w)} {u v r : List (List Int)} (hk : k < x.Y.length) (hl : wdsT l = sayTo x k ++ u) (hu : x.Y.getD k [] ++ [x.E.getD k []] = u ++ (v ++ r)) (hv : 0 < v.length) : l.length < (sayT x).length := by
  obtain ⟨q, hq⟩ := sayTo_sub x (show k + 1 ≤ x.Y.length by omega)
  rw [sayTo_succ, hu] at hq
  have h1 := congrArg List.length hl
  rw [wdsT_len] at h1
  show _ < (sayTo x x.Y.length).length
  rw [hq]
  simp only [List.length_append] at *
  omega
theorem say_all {w : World} {x : TrI} {k : Nat} {l : List (WdT w)} {u r : List (List Int)} (hk : k < x.Y.length) (hl : wdsT l = sayTo x k ++ u) (hu : x.Y.getD k [] ++ [x.E.getD k []] = u ++ r) : ∀ y, y ∈ l → y.1.2.2 ∈ sayT x := by
  intro y hy
  have h1 : y.1.2.2 ∈ wdsT l := List.mem_map.2 ⟨y, hy, rfl⟩
  rw [hl] at h1
  obtain ⟨q, hq⟩ := sayTo_sub x (show k + 1 ≤ x.Y.length by omega)
  show _ ∈ sayTo x x.Y.length
  rw [hq, sayTo_succ, hu]
  refine List.mem_append.2 (.inl ?_)
  rw [← List.append_assoc]
  exact List.mem_append.2 (.inl h1)
theorem take_snoc {α : Type} (d : α) {l : List α} {j : Nat} (h : j < l.length) : l.take (j + 1) = l.take j ++ [l.getD j d] := by
  rw [List.getD, List.getElem?_eq_getElem h, Option.getD_some]; simp
theorem take_part {α : Type} (d : α) {l : List α} {j : Nat} (h : j < l.length) (e : α) : l ++ [e] = l.take j ++ ([l.getD j d] ++ (l.drop (j + 1) ++ [e])) := by
  have h1 : l = l.take (j + 1) ++ l.drop (j + 1) := (List.take_append_drop _ _).symm
  rw [take_snoc d h] at h1
  conv => lhs; rw [h1]
  simp

set_option maxRecDepth 100000 in
set_option maxHeartbeats 3200000 in
theorem say_stops (m : Nat) (hm : 1 ≤ m) (b : Nat) (x : TrI) (a3 a4 a5 a6 : Option Addr) (c3 c4 c5 c6 : Nat) (w : World) (bx : Box7 w b x.I x.O x.S a3 x.F.length c3 a4 x.N.length c4 a5 x.Y.length c5 a6 x.E.length c6) (h : TnAt w x a3 a4 a5 a6) (he : x.E.length = x.Y.length) :
    SeqStopsK Fence.wide m Try.prog 33 #[.pointer (some ⟨b, 0, none⟩)] (encW w) (Below w.heap.size) (fun xs => wdsT xs = sayT x) (fun xs => ∀ y, y ∈ xs → y.1.2.2 ∈ sayT x) (sayT x).length w := fun l J Jx W hW hJ hJx hY h0 => by
  have m5 := h.m5
  unfold maxLen at m5
  have HB : Hid (∀ W, Below w.heap.size w W → w.grownBy W none) := fun W hb => grown_of_below hb
  have HX : Hid (∀ W, Below w.heap.size w W → Box7 W b x.I x.O x.S a3 x.F.length c3 a4 x.N.length c4 a5 x.Y.length c5 a6 x.E.length c6) := fun W hb => bx.grown (grown_of_below hb)
  have HT : Hid (TnAt w x a3 a4 a5 a6) := h
  obtain ⟨fn, tmps, assign, body, hy, hR⟩ := hY [] ⟨(a3, c3, x.F), h.first, h.m3⟩ W h0 (by simp [sayT, sayTo])
  simp only [encW] at hy
  have x3 := (HX.out W hW).b3
  refine callsIn_of_wp Try.func33 rfl trivial ?_ rfl
  simp only [Try.ntmps33, List.size_toArray, List.length_cons, List.length_nil, Nat.reduceAdd, Nat.reduceSub, Array.replicate_succ, Array.replicate_zero, List.push_toArray, List.append_toArray, List.nil_append, List.cons_append]
  gi_wp2
  refine hR.mono ?_
  rintro e W3 (⟨rfl, hJ3, hk3⟩ | ⟨rfl, hJx3⟩)
  · have hW3 : Below w.heap.size w W3 := hW.trans hk3
    have y5 := (HX.out W3 hW3).b5
    clear hR hy x3
    gi_wp2
    gi_loopw [15] (fun v wr => ∃ (k : Nat) (pre : List (WdT w)), k ≤ x.Y.length ∧ v = .int .i64 (k : Int) ∧ wdsT pre = sayTo x k ∧ J pre wr ∧ Below w.heap.size w wr) (fun v _ => x.Y.length - (intOf v).toNat)
    case atStart => exact ⟨0, _, Nat.zero_le _, rfl, by simp [wdsT, sayTo], hJ3, hW3⟩
    case round =>
      obtain ⟨wo, hwo⟩ : ∃ W, W = wr := ⟨_, rfl⟩
      subst hwo
      obtain ⟨k, pre, hk, rfl, hp, hJs, hbw⟩ := hrel
      by_cases hlt : k < x.Y.length
      · obtain ⟨b5, o5, ha5, hc5⟩ := HT.out.says.at hlt
        obtain ⟨r5, k5, c5', hr5, hm5⟩ := hc5 k hlt
        have i5 : (k : Int) < (x.Y.length : Int) := by omega
        obtain ⟨R, hR⟩ : ∃ R, x.Y.getD k [] = R := ⟨_, rfl⟩
        rw [hR] at c5' hr5 hm5
        have HR : Hid (x.Y.getD k [] = R) := hR
        have HI : Hid (RowsAt w r5 R) := hr5
        have d5 := (HB.out wo hbw).cell c5' (by simp)
        unfold maxLen at hm5
        subst ha5
        clear hc5 hR hr5 c5'
        gi_wp2
        gi_loopw [22] (fun v wr => ∃ (j : Nat) (pre : List (WdT w)), j ≤ R.length ∧ v = .int .i64 (j : Int) ∧ wdsT pre = sayTo x k ++ R.take j ∧ J pre wr ∧ Below w.heap.size w wr) (fun v _ => R.length - (intOf v).toNat)
        case atStart => exact ⟨0, _, Nat.zero_le _, rfl, by rw [hp]; simp, hJs, hbw⟩
        case round =>
          obtain ⟨wi, hwi⟩ : ∃ W, W = wr := ⟨_, rfl⟩
          subst hwi
          obtain ⟨j, pri, hj, rfl, hpi, hJi, hbi⟩ := hrel
          by_cases hjl : j < R.length
          · obtain ⟨b6, o6, rfl, hc6⟩ := HI.out.at hjl
            obtain ⟨r6, k6, d6, hr6, hm6⟩ := hc6 j hjl
            obtain ⟨u, hu⟩ : ∃ u, R.getD j [] = u := ⟨_, rfl⟩
            rw [hu] at d6 hr6 hm6
            have HU : Hid (R.getD j [] = u) := hu
            clear hu
            have d6' := (HB.out wi hbi).cell d6 (by simp)
            have ij : (j : Int) < (R.length : Int) := by omega
            obtain ⟨fn, tmps, assign, body, hy, hR⟩ := hY pri ⟨(r6, k6, u), hr6, hm6⟩ wi hJi (say_more (v := [u]) (r := R.drop (j + 1) ++ [x.E.getD k []]) hlt hpi (by rw [HR.out, ← HU.out]; exact take_part [] hjl _) (by simp))
            simp only [encW] at hy
            have HP : Hid (wdsT pri = sayTo x k ++ R.take j) := hpi
            clear hc6 d6 hpi
            gi_wp2
            refine hR.mono ?_
            rintro e W4 (⟨rfl, hJ4, hk4⟩ | ⟨rfl, hJx4⟩)
            · gi_wp2
              go_roundw
              case rel => exact ⟨j + 1, _, by omega, by go_num, by rw [wdsT_snoc, HP.out, take_snoc [] hjl, HU.out, List.append_assoc], hJ4, hbi.trans hk4⟩
              case measure => (simp [intOf]; try omega)
            · gi_wp2
              refine bodyPost_ret (results_none rfl _ _ _) rfl ?_
              exact ⟨⟨_, rfl⟩, .inr ⟨_, say_all (u := R.take j ++ [u]) (r := R.drop (j + 1) ++ [x.E.getD k []]) hlt (by rw [wdsT_snoc, HP.out, List.append_assoc]) (by rw [HR.out, List.append_assoc, ← HU.out]; exact take_part [] hjl _), hJx4⟩⟩
          · have ij : ¬ (j : Int) < (R.length : Int) := by omega
            have ej : R.take j = R := List.take_of_length_le (by omega)
            rw [ej] at hpi
            have hlE : k < x.E.length := by omega
            have iE : (k : Int) < (x.E.length : Int) := by omega
            obtain ⟨b6, o6, rfl, hc6⟩ := HT.out.last.at hlE
            obtain ⟨r6, k6, d6, hr6, hm6⟩ := hc6 k hlE
            obtain ⟨u, hu⟩ : ∃ u, x.E.getD k [] = u := ⟨_, rfl⟩
            rw [hu] at d6 hr6 hm6
            have HU : Hid (x.E.getD k [] = u) := hu
            clear hu
            have d6' := (HB.out wi hbi).cell d6 (by simp)
            have x6 := (HX.out wi hbi).b6
            obtain ⟨fn, tmps, assign, body, hy, hR⟩ := hY pri ⟨(r6, k6, u), hr6, hm6⟩ wi hJi (say_more (u := R) (v := [u]) (r := []) hlt hpi (by rw [HR.out, HU.out]; simp) (by simp))
            simp only [encW] at hy
            have HP : Hid (wdsT pri = sayTo x k ++ R) := hpi
            clear hc6 d6 hpi ej
            gi_wp2
            refine hR.mono ?_
            rintro e W4 (⟨rfl, hJ4, hk4⟩ | ⟨rfl, hJx4⟩)
            · gi_wp2
              go_roundw
              case rel => exact ⟨k + 1, _, by omega, by go_num, by rw [wdsT_snoc, HP.out, sayTo_succ, HR.out, HU.out, List.append_assoc], hJ4, hbi.trans hk4⟩
              case measure => (simp [intOf]; try omega)
            · gi_wp2
              refine bodyPost_ret (results_none rfl _ _ _) rfl ?_
              exact ⟨⟨_, rfl⟩, .inr ⟨_, say_all (u := R ++ [u]) (r := []) hlt (by rw [wdsT_snoc, HP.out, List.append_assoc]) (by rw [HR.out, HU.out]; simp), hJx4⟩⟩
      · have i5 : ¬ (k : Int) < (x.Y.length : Int) := by omega
        have ek : k = x.Y.length := by omega
        subst ek
        gi_wp2
        go_end0
        exact ⟨⟨_, rfl⟩, .inl ⟨pre, hp, hJs⟩⟩
  · gi_wp2
    refine bodyPost_ret (results_none rfl _ _ _) rfl ?_
    exact ⟨⟨_, rfl⟩, .inr ⟨_, fun y hy => by
      have e : y.1.2.2 = x.F := by simp at hy; rw [hy]
      rw [e]
      exact List.mem_cons.2 (.inl rfl), hJx3⟩⟩

theorem sayings_any (I O S : Int) (a3 : Option Addr) (n3 c3 : Nat) (a4 : Option Addr) (n c4 : Nat) (a5 : Option Addr) (n5 c5 : Nat) (a6 : Option Addr) (n6 c6 : Nat) (w : World) :
    Calls Try.prog 31 #[tnV I O S a3 n3 c3 a4 n c4 a5 n5 c5 a6 n6 c6] w fun e w' => e = .returned (.func (.func 33) #[] #[.pointer (some ⟨w.heap.size, 0, none⟩)]) ∧ w' = w.alloc (tnO I O S a3 n3 c3 a4 n c4 a5 n5 c5 a6 n6 c6) := by
  go_enter Try.func31, Try.ntmps31
  go_wp2_with fail
  go_ret
  exact ⟨rfl, rfl⟩

end Go.Proofs.Ytdajdnilhjcniaa
