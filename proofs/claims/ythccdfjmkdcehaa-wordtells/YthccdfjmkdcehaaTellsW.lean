/- The walk of the law WordTells, case by case, out of the contracts of what it calls. -/
import Derived.Test.YthccdfjmkdcehaaTells
namespace Go.Proofs.Ythccdfjmkdcehaa
open Go.RowKit
set_option linter.unusedVariables false

set_option maxHeartbeats 2000000 in
theorem tells_A (nl m : Int) (aw a a' b b' : Option Addr) (cw c c' d d' : Nat) (zs h l h' l' : List Int) (w : World) (v g one two : Int)  (h1 : one ≠ 0)
    (H9 : Hid (∀ W, Keep2 w.heap.size w W (.slice a h.length c) (.slice a' l.length c') (.slice b h'.length d) (.slice b' l'.length d') → Calls Try.prog 9 #[.int .i64 nl, .slice aw zs.length cw] W fun e w' => e = .returned (.int .i64 v) ∧ Below W.heap.size W w'))
    (H10 : Hid (∀ W, Keep2 w.heap.size w W (.slice a h.length c) (.slice a' l.length c') (.slice b h'.length d) (.slice b' l'.length d') → Calls Try.prog 10 #[.int .i64 nl, .slice aw zs.length cw] W fun e w' => e = .returned (.int .i64 v) ∧ Below W.heap.size W w'))
    (H11 : Hid (∀ W, Keep2 w.heap.size w W (.slice a h.length c) (.slice a' l.length c') (.slice b h'.length d) (.slice b' l'.length d') → Calls Try.prog 11 #[.int .i64 nl, .agg #[.slice a h.length c, .slice a' l.length c']] W fun e w' => e = .returned (.int .i64 g) ∧ Below W.heap.size W w'))
    (H12 : Hid (∀ W, Keep2 w.heap.size w W (.slice a h.length c) (.slice a' l.length c') (.slice b h'.length d) (.slice b' l'.length d') → Calls Try.prog 12 #[.int .i64 nl, .agg #[.slice a h.length c, .slice a' l.length c']] W fun e w' => e = .returned (.int .i64 g) ∧ Below W.heap.size W w'))
    (H12a : Hid (∀ W, Keep2 w.heap.size w W (.slice a h.length c) (.slice a' l.length c') (.slice b h'.length d) (.slice b' l'.length d') → Calls Try.prog 12 #[.int .i64 4, .agg #[.slice a h.length c, .slice a' l.length c']] W fun e w' => e = .returned (.int .i64 one) ∧ Below W.heap.size W w'))
    (H12b : Hid (∀ W, Keep2 w.heap.size w W (.slice a h.length c) (.slice a' l.length c') (.slice b h'.length d) (.slice b' l'.length d') → Calls Try.prog 12 #[.int .i64 4, .agg #[.slice b h'.length d, .slice b' l'.length d']] W fun e w' => e = .returned (.int .i64 two) ∧ Below W.heap.size W w'))
    (H13 : Hid (∀ W, Keep2 w.heap.size w W (.slice a h.length c) (.slice a' l.length c') (.slice b h'.length d) (.slice b' l'.length d') → Calls Try.prog 13 #[.agg #[.slice a h.length c, .slice a' l.length c'], .int .i64 m] W fun e w' => e = .returned (.tuple #[.int .i64 0, .int .i64 one]) ∧ Below W.heap.size W w'))
    (H15 : Hid (∀ W, Keep2 w.heap.size w W (.slice a h.length c) (.slice a' l.length c') (.slice b h'.length d) (.slice b' l'.length d') → Calls Try.prog 15 #[.agg #[.slice a h.length c, .slice a' l.length c'], .agg #[.slice b h'.length d, .slice b' l'.length d']] W fun e w' => e = .returned (.tuple #[.bool false, .int .i64 one]) ∧ Below W.heap.size W w'))
    : Calls Try.prog 4 #[.int .i64 nl, .slice aw zs.length cw, .agg #[.slice a h.length c, .slice a' l.length c'], .agg #[.slice b h'.length d, .slice b' l'.length d'], .int .i64 m] w fun e w' => e = .returned (.bool true) ∧ Below w.heap.size w w' := by
  have f1 : (one != 0) = true := by simpa using h1
  have HK0 : Hid (Keep2 w.heap.size w ((w.alloc (.cells #[.slice a h.length c, .slice a' l.length c'] 30)).alloc (.cells #[.slice b h'.length d, .slice b' l'.length d'] 30)) (.slice a h.length c) (.slice a' l.length c') (.slice b h'.length d) (.slice b' l'.length d')) :=
    ⟨((Below.refl _ _).alloc (Nat.le_refl _) _).alloc (by simp) _, by simp, by simp, by simp, by simp, by simp⟩
  go_enter Try.func4, Try.ntmps4
  go_wp2_with fail
  refine (H9.out _ HK0.out).mono ?_
  rintro e w1 ⟨rfl, hb⟩
  have HK1 : Hid (Keep2 w.heap.size w w1 (.slice a h.length c) (.slice a' l.length c') (.slice b h'.length d) (.slice b' l'.length d')) := Keep2.call HK0.out hb
  clear hb HK0 
  have p1 := HK1.out.2.2.1
  have q1 := HK1.out.2.2.2.1
  have r1 := HK1.out.2.2.2.2.1
  have s1 := HK1.out.2.2.2.2.2
  have t1 := HK1.out.2.1
  go_wp2_with fail
  refine (H10.out _ HK1.out).mono ?_
  rintro e w2 ⟨rfl, hb⟩
  have HK2 : Hid (Keep2 w.heap.size w w2 (.slice a h.length c) (.slice a' l.length c') (.slice b h'.length d) (.slice b' l'.length d')) := Keep2.call HK1.out hb
  clear hb HK1 p1 q1 r1 s1 t1
  have p2 := HK2.out.2.2.1
  have q2 := HK2.out.2.2.2.1
  have r2 := HK2.out.2.2.2.2.1
  have s2 := HK2.out.2.2.2.2.2
  have t2 := HK2.out.2.1
  go_wp2_with fail
  refine (H11.out _ HK2.out).mono ?_
  rintro e w3 ⟨rfl, hb⟩
  have HK3 : Hid (Keep2 w.heap.size w w3 (.slice a h.length c) (.slice a' l.length c') (.slice b h'.length d) (.slice b' l'.length d')) := Keep2.call HK2.out hb
  clear hb HK2 p2 q2 r2 s2 t2
  have p3 := HK3.out.2.2.1
  have q3 := HK3.out.2.2.2.1
  have r3 := HK3.out.2.2.2.2.1
  have s3 := HK3.out.2.2.2.2.2
  have t3 := HK3.out.2.1
  go_wp2_with fail
  refine (H12.out _ HK3.out).mono ?_
  rintro e w4 ⟨rfl, hb⟩
  have HK4 : Hid (Keep2 w.heap.size w w4 (.slice a h.length c) (.slice a' l.length c') (.slice b h'.length d) (.slice b' l'.length d')) := Keep2.call HK3.out hb
  clear hb HK3 p3 q3 r3 s3 t3
  have p4 := HK4.out.2.2.1
  have q4 := HK4.out.2.2.2.1
  have r4 := HK4.out.2.2.2.2.1
  have s4 := HK4.out.2.2.2.2.2
  have t4 := HK4.out.2.1
  go_wp2_with fail
  refine (H12a.out _ HK4.out).mono ?_
  rintro e w5 ⟨rfl, hb⟩
  have HK5 : Hid (Keep2 w.heap.size w w5 (.slice a h.length c) (.slice a' l.length c') (.slice b h'.length d) (.slice b' l'.length d')) := Keep2.call HK4.out hb
  clear hb HK4 p4 q4 r4 s4 t4
  have p5 := HK5.out.2.2.1
  have q5 := HK5.out.2.2.2.1
  have r5 := HK5.out.2.2.2.2.1
  have s5 := HK5.out.2.2.2.2.2
  have t5 := HK5.out.2.1
  go_wp2_with fail
  refine (H12b.out _ HK5.out).mono ?_
  rintro e w6 ⟨rfl, hb⟩
  have HK6 : Hid (Keep2 w.heap.size w w6 (.slice a h.length c) (.slice a' l.length c') (.slice b h'.length d) (.slice b' l'.length d')) := Keep2.call HK5.out hb
  clear hb HK5 p5 q5 r5 s5 t5
  have p6 := HK6.out.2.2.1
  have q6 := HK6.out.2.2.2.1
  have r6 := HK6.out.2.2.2.2.1
  have s6 := HK6.out.2.2.2.2.2
  have t6 := HK6.out.2.1
  go_wp2_with fail
  refine (H13.out _ HK6.out).mono ?_
  rintro e w7 ⟨rfl, hb⟩
  have HK7 : Hid (Keep2 w.heap.size w w7 (.slice a h.length c) (.slice a' l.length c') (.slice b h'.length d) (.slice b' l'.length d')) := Keep2.call HK6.out hb
  clear hb HK6 p6 q6 r6 s6 t6
  have p7 := HK7.out.2.2.1
  have q7 := HK7.out.2.2.2.1
  have r7 := HK7.out.2.2.2.2.1
  have s7 := HK7.out.2.2.2.2.2
  have t7 := HK7.out.2.1
  go_wp2_with fail
  refine (H15.out _ HK7.out).mono ?_
  rintro e w8 ⟨rfl, hb⟩
  have HK8 : Hid (Keep2 w.heap.size w w8 (.slice a h.length c) (.slice a' l.length c') (.slice b h'.length d) (.slice b' l'.length d')) := Keep2.call HK7.out hb
  clear hb HK7 p7 q7 r7 s7 t7
  have p8 := HK8.out.2.2.1
  have q8 := HK8.out.2.2.2.1
  have r8 := HK8.out.2.2.2.2.1
  have s8 := HK8.out.2.2.2.2.2
  have t8 := HK8.out.2.1
  go_wp2
  all_goals go_ret
  all_goals exact ⟨by simp, HK8.out.1⟩

set_option maxHeartbeats 2000000 in
theorem tells_B (nl m : Int) (aw a a' b b' : Option Addr) (cw c c' d d' : Nat) (zs h l h' l' : List Int) (w : World) (v g two : Int)  (h2 : m < 0) (h3 : two ≠ 0)
    (H9 : Hid (∀ W, Keep2 w.heap.size w W (.slice a h.length c) (.slice a' l.length c') (.slice b h'.length d) (.slice b' l'.length d') → Calls Try.prog 9 #[.int .i64 nl, .slice aw zs.length cw] W fun e w' => e = .returned (.int .i64 v) ∧ Below W.heap.size W w'))
    (H10 : Hid (∀ W, Keep2 w.heap.size w W (.slice a h.length c) (.slice a' l.length c') (.slice b h'.length d) (.slice b' l'.length d') → Calls Try.prog 10 #[.int .i64 nl, .slice aw zs.length cw] W fun e w' => e = .returned (.int .i64 v) ∧ Below W.heap.size W w'))
    (H11 : Hid (∀ W, Keep2 w.heap.size w W (.slice a h.length c) (.slice a' l.length c') (.slice b h'.length d) (.slice b' l'.length d') → Calls Try.prog 11 #[.int .i64 nl, .agg #[.slice a h.length c, .slice a' l.length c']] W fun e w' => e = .returned (.int .i64 g) ∧ Below W.heap.size W w'))
    (H12 : Hid (∀ W, Keep2 w.heap.size w W (.slice a h.length c) (.slice a' l.length c') (.slice b h'.length d) (.slice b' l'.length d') → Calls Try.prog 12 #[.int .i64 nl, .agg #[.slice a h.length c, .slice a' l.length c']] W fun e w' => e = .returned (.int .i64 g) ∧ Below W.heap.size W w'))
    (H12a : Hid (∀ W, Keep2 w.heap.size w W (.slice a h.length c) (.slice a' l.length c') (.slice b h'.length d) (.slice b' l'.length d') → Calls Try.prog 12 #[.int .i64 4, .agg #[.slice a h.length c, .slice a' l.length c']] W fun e w' => e = .returned (.int .i64 0) ∧ Below W.heap.size W w'))
    (H12b : Hid (∀ W, Keep2 w.heap.size w W (.slice a h.length c) (.slice a' l.length c') (.slice b h'.length d) (.slice b' l'.length d') → Calls Try.prog 12 #[.int .i64 4, .agg #[.slice b h'.length d, .slice b' l'.length d']] W fun e w' => e = .returned (.int .i64 two) ∧ Below W.heap.size W w'))
    (H13 : Hid (∀ W, Keep2 w.heap.size w W (.slice a h.length c) (.slice a' l.length c') (.slice b h'.length d) (.slice b' l'.length d') → Calls Try.prog 13 #[.agg #[.slice a h.length c, .slice a' l.length c'], .int .i64 m] W fun e w' => e = .returned (.tuple #[.int .i64 0, .int .i64 2]) ∧ Below W.heap.size W w'))
    (H15 : Hid (∀ W, Keep2 w.heap.size w W (.slice a h.length c) (.slice a' l.length c') (.slice b h'.length d) (.slice b' l'.length d') → Calls Try.prog 15 #[.agg #[.slice a h.length c, .slice a' l.length c'], .agg #[.slice b h'.length d, .slice b' l'.length d']] W fun e w' => e = .returned (.tuple #[.bool false, .int .i64 two]) ∧ Below W.heap.size W w'))
    : Calls Try.prog 4 #[.int .i64 nl, .slice aw zs.length cw, .agg #[.slice a h.length c, .slice a' l.length c'], .agg #[.slice b h'.length d, .slice b' l'.length d'], .int .i64 m] w fun e w' => e = .returned (.bool true) ∧ Below w.heap.size w w' := by
  have f1 : (two != 0) = true := by simpa using h3
  have HK0 : Hid (Keep2 w.heap.size w ((w.alloc (.cells #[.slice a h.length c, .slice a' l.length c'] 30)).alloc (.cells #[.slice b h'.length d, .slice b' l'.length d'] 30)) (.slice a h.length c) (.slice a' l.length c') (.slice b h'.length d) (.slice b' l'.length d')) :=
    ⟨((Below.refl _ _).alloc (Nat.le_refl _) _).alloc (by simp) _, by simp, by simp, by simp, by simp, by simp⟩
  go_enter Try.func4, Try.ntmps4
  go_wp2_with fail
  refine (H9.out _ HK0.out).mono ?_
  rintro e w1 ⟨rfl, hb⟩
  have HK1 : Hid (Keep2 w.heap.size w w1 (.slice a h.length c) (.slice a' l.length c') (.slice b h'.length d) (.slice b' l'.length d')) := Keep2.call HK0.out hb
  clear hb HK0 
  have p1 := HK1.out.2.2.1
  have q1 := HK1.out.2.2.2.1
  have r1 := HK1.out.2.2.2.2.1
  have s1 := HK1.out.2.2.2.2.2
  have t1 := HK1.out.2.1
  go_wp2_with fail
  refine (H10.out _ HK1.out).mono ?_
  rintro e w2 ⟨rfl, hb⟩
  have HK2 : Hid (Keep2 w.heap.size w w2 (.slice a h.length c) (.slice a' l.length c') (.slice b h'.length d) (.slice b' l'.length d')) := Keep2.call HK1.out hb
  clear hb HK1 p1 q1 r1 s1 t1
  have p2 := HK2.out.2.2.1
  have q2 := HK2.out.2.2.2.1
  have r2 := HK2.out.2.2.2.2.1
  have s2 := HK2.out.2.2.2.2.2
  have t2 := HK2.out.2.1
  go_wp2_with fail
  refine (H11.out _ HK2.out).mono ?_
  rintro e w3 ⟨rfl, hb⟩
  have HK3 : Hid (Keep2 w.heap.size w w3 (.slice a h.length c) (.slice a' l.length c') (.slice b h'.length d) (.slice b' l'.length d')) := Keep2.call HK2.out hb
  clear hb HK2 p2 q2 r2 s2 t2
  have p3 := HK3.out.2.2.1
  have q3 := HK3.out.2.2.2.1
  have r3 := HK3.out.2.2.2.2.1
  have s3 := HK3.out.2.2.2.2.2
  have t3 := HK3.out.2.1
  go_wp2_with fail
  refine (H12.out _ HK3.out).mono ?_
  rintro e w4 ⟨rfl, hb⟩
  have HK4 : Hid (Keep2 w.heap.size w w4 (.slice a h.length c) (.slice a' l.length c') (.slice b h'.length d) (.slice b' l'.length d')) := Keep2.call HK3.out hb
  clear hb HK3 p3 q3 r3 s3 t3
  have p4 := HK4.out.2.2.1
  have q4 := HK4.out.2.2.2.1
  have r4 := HK4.out.2.2.2.2.1
  have s4 := HK4.out.2.2.2.2.2
  have t4 := HK4.out.2.1
  go_wp2_with fail
  refine (H12a.out _ HK4.out).mono ?_
  rintro e w5 ⟨rfl, hb⟩
  have HK5 : Hid (Keep2 w.heap.size w w5 (.slice a h.length c) (.slice a' l.length c') (.slice b h'.length d) (.slice b' l'.length d')) := Keep2.call HK4.out hb
  clear hb HK4 p4 q4 r4 s4 t4
  have p5 := HK5.out.2.2.1
  have q5 := HK5.out.2.2.2.1
  have r5 := HK5.out.2.2.2.2.1
  have s5 := HK5.out.2.2.2.2.2
  have t5 := HK5.out.2.1
  go_wp2_with fail
  refine (H12b.out _ HK5.out).mono ?_
  rintro e w6 ⟨rfl, hb⟩
  have HK6 : Hid (Keep2 w.heap.size w w6 (.slice a h.length c) (.slice a' l.length c') (.slice b h'.length d) (.slice b' l'.length d')) := Keep2.call HK5.out hb
  clear hb HK5 p5 q5 r5 s5 t5
  have p6 := HK6.out.2.2.1
  have q6 := HK6.out.2.2.2.1
  have r6 := HK6.out.2.2.2.2.1
  have s6 := HK6.out.2.2.2.2.2
  have t6 := HK6.out.2.1
  go_wp2_with fail
  refine (H13.out _ HK6.out).mono ?_
  rintro e w7 ⟨rfl, hb⟩
  have HK7 : Hid (Keep2 w.heap.size w w7 (.slice a h.length c) (.slice a' l.length c') (.slice b h'.length d) (.slice b' l'.length d')) := Keep2.call HK6.out hb
  clear hb HK6 p6 q6 r6 s6 t6
  have p7 := HK7.out.2.2.1
  have q7 := HK7.out.2.2.2.1
  have r7 := HK7.out.2.2.2.2.1
  have s7 := HK7.out.2.2.2.2.2
  have t7 := HK7.out.2.1
  go_wp2_with fail
  refine (H15.out _ HK7.out).mono ?_
  rintro e w8 ⟨rfl, hb⟩
  have HK8 : Hid (Keep2 w.heap.size w w8 (.slice a h.length c) (.slice a' l.length c') (.slice b h'.length d) (.slice b' l'.length d')) := Keep2.call HK7.out hb
  clear hb HK7 p7 q7 r7 s7 t7
  have p8 := HK8.out.2.2.1
  have q8 := HK8.out.2.2.2.1
  have r8 := HK8.out.2.2.2.2.1
  have s8 := HK8.out.2.2.2.2.2
  have t8 := HK8.out.2.1
  go_wp2
  all_goals go_ret
  all_goals exact ⟨by simp, HK8.out.1⟩

set_option maxHeartbeats 2000000 in
theorem tells_C (nl m : Int) (aw a a' b b' : Option Addr) (cw c c' d d' : Nat) (zs h l h' l' : List Int) (w : World) (v g : Int) (is : Bool) (h2 : m < 0)
    (H9 : Hid (∀ W, Keep2 w.heap.size w W (.slice a h.length c) (.slice a' l.length c') (.slice b h'.length d) (.slice b' l'.length d') → Calls Try.prog 9 #[.int .i64 nl, .slice aw zs.length cw] W fun e w' => e = .returned (.int .i64 v) ∧ Below W.heap.size W w'))
    (H10 : Hid (∀ W, Keep2 w.heap.size w W (.slice a h.length c) (.slice a' l.length c') (.slice b h'.length d) (.slice b' l'.length d') → Calls Try.prog 10 #[.int .i64 nl, .slice aw zs.length cw] W fun e w' => e = .returned (.int .i64 v) ∧ Below W.heap.size W w'))
    (H11 : Hid (∀ W, Keep2 w.heap.size w W (.slice a h.length c) (.slice a' l.length c') (.slice b h'.length d) (.slice b' l'.length d') → Calls Try.prog 11 #[.int .i64 nl, .agg #[.slice a h.length c, .slice a' l.length c']] W fun e w' => e = .returned (.int .i64 g) ∧ Below W.heap.size W w'))
    (H12 : Hid (∀ W, Keep2 w.heap.size w W (.slice a h.length c) (.slice a' l.length c') (.slice b h'.length d) (.slice b' l'.length d') → Calls Try.prog 12 #[.int .i64 nl, .agg #[.slice a h.length c, .slice a' l.length c']] W fun e w' => e = .returned (.int .i64 g) ∧ Below W.heap.size W w'))
    (H12a : Hid (∀ W, Keep2 w.heap.size w W (.slice a h.length c) (.slice a' l.length c') (.slice b h'.length d) (.slice b' l'.length d') → Calls Try.prog 12 #[.int .i64 4, .agg #[.slice a h.length c, .slice a' l.length c']] W fun e w' => e = .returned (.int .i64 0) ∧ Below W.heap.size W w'))
    (H12b : Hid (∀ W, Keep2 w.heap.size w W (.slice a h.length c) (.slice a' l.length c') (.slice b h'.length d) (.slice b' l'.length d') → Calls Try.prog 12 #[.int .i64 4, .agg #[.slice b h'.length d, .slice b' l'.length d']] W fun e w' => e = .returned (.int .i64 0) ∧ Below W.heap.size W w'))
    (H13 : Hid (∀ W, Keep2 w.heap.size w W (.slice a h.length c) (.slice a' l.length c') (.slice b h'.length d) (.slice b' l'.length d') → Calls Try.prog 13 #[.agg #[.slice a h.length c, .slice a' l.length c'], .int .i64 m] W fun e w' => e = .returned (.tuple #[.int .i64 0, .int .i64 2]) ∧ Below W.heap.size W w'))
    (H15 : Hid (∀ W, Keep2 w.heap.size w W (.slice a h.length c) (.slice a' l.length c') (.slice b h'.length d) (.slice b' l'.length d') → Calls Try.prog 15 #[.agg #[.slice a h.length c, .slice a' l.length c'], .agg #[.slice b h'.length d, .slice b' l'.length d']] W fun e w' => e = .returned (.tuple #[.bool is, .int .i64 0]) ∧ Below W.heap.size W w'))
    (H16 : Hid (∀ W, Keep2 w.heap.size w W (.slice a h.length c) (.slice a' l.length c') (.slice b h'.length d) (.slice b' l'.length d') → Calls Try.prog 16 #[.agg #[.slice a h.length c, .slice a' l.length c'], .agg #[.slice b h'.length d, .slice b' l'.length d']] W fun e w' => e = .returned (.bool is) ∧ Below W.heap.size W w'))
    : Calls Try.prog 4 #[.int .i64 nl, .slice aw zs.length cw, .agg #[.slice a h.length c, .slice a' l.length c'], .agg #[.slice b h'.length d, .slice b' l'.length d'], .int .i64 m] w fun e w' => e = .returned (.bool true) ∧ Below w.heap.size w w' := by
  have HK0 : Hid (Keep2 w.heap.size w ((w.alloc (.cells #[.slice a h.length c, .slice a' l.length c'] 30)).alloc (.cells #[.slice b h'.length d, .slice b' l'.length d'] 30)) (.slice a h.length c) (.slice a' l.length c') (.slice b h'.length d) (.slice b' l'.length d')) :=
    ⟨((Below.refl _ _).alloc (Nat.le_refl _) _).alloc (by simp) _, by simp, by simp, by simp, by simp, by simp⟩
  go_enter Try.func4, Try.ntmps4
  go_wp2_with fail
  refine (H9.out _ HK0.out).mono ?_
  rintro e w1 ⟨rfl, hb⟩
  have HK1 : Hid (Keep2 w.heap.size w w1 (.slice a h.length c) (.slice a' l.length c') (.slice b h'.length d) (.slice b' l'.length d')) := Keep2.call HK0.out hb
  clear hb HK0 
  have p1 := HK1.out.2.2.1
  have q1 := HK1.out.2.2.2.1
  have r1 := HK1.out.2.2.2.2.1
  have s1 := HK1.out.2.2.2.2.2
  have t1 := HK1.out.2.1
  go_wp2_with fail
  refine (H10.out _ HK1.out).mono ?_
  rintro e w2 ⟨rfl, hb⟩
  have HK2 : Hid (Keep2 w.heap.size w w2 (.slice a h.length c) (.slice a' l.length c') (.slice b h'.length d) (.slice b' l'.length d')) := Keep2.call HK1.out hb
  clear hb HK1 p1 q1 r1 s1 t1
  have p2 := HK2.out.2.2.1
  have q2 := HK2.out.2.2.2.1
  have r2 := HK2.out.2.2.2.2.1
  have s2 := HK2.out.2.2.2.2.2
  have t2 := HK2.out.2.1
  go_wp2_with fail
  refine (H11.out _ HK2.out).mono ?_
  rintro e w3 ⟨rfl, hb⟩
  have HK3 : Hid (Keep2 w.heap.size w w3 (.slice a h.length c) (.slice a' l.length c') (.slice b h'.length d) (.slice b' l'.length d')) := Keep2.call HK2.out hb
  clear hb HK2 p2 q2 r2 s2 t2
  have p3 := HK3.out.2.2.1
  have q3 := HK3.out.2.2.2.1
  have r3 := HK3.out.2.2.2.2.1
  have s3 := HK3.out.2.2.2.2.2
  have t3 := HK3.out.2.1
  go_wp2_with fail
  refine (H12.out _ HK3.out).mono ?_
  rintro e w4 ⟨rfl, hb⟩
  have HK4 : Hid (Keep2 w.heap.size w w4 (.slice a h.length c) (.slice a' l.length c') (.slice b h'.length d) (.slice b' l'.length d')) := Keep2.call HK3.out hb
  clear hb HK3 p3 q3 r3 s3 t3
  have p4 := HK4.out.2.2.1
  have q4 := HK4.out.2.2.2.1
  have r4 := HK4.out.2.2.2.2.1
  have s4 := HK4.out.2.2.2.2.2
  have t4 := HK4.out.2.1
  go_wp2_with fail
  refine (H12a.out _ HK4.out).mono ?_
  rintro e w5 ⟨rfl, hb⟩
  have HK5 : Hid (Keep2 w.heap.size w w5 (.slice a h.length c) (.slice a' l.length c') (.slice b h'.length d) (.slice b' l'.length d')) := Keep2.call HK4.out hb
  clear hb HK4 p4 q4 r4 s4 t4
  have p5 := HK5.out.2.2.1
  have q5 := HK5.out.2.2.2.1
  have r5 := HK5.out.2.2.2.2.1
  have s5 := HK5.out.2.2.2.2.2
  have t5 := HK5.out.2.1
  go_wp2_with fail
  refine (H12b.out _ HK5.out).mono ?_
  rintro e w6 ⟨rfl, hb⟩
  have HK6 : Hid (Keep2 w.heap.size w w6 (.slice a h.length c) (.slice a' l.length c') (.slice b h'.length d) (.slice b' l'.length d')) := Keep2.call HK5.out hb
  clear hb HK5 p5 q5 r5 s5 t5
  have p6 := HK6.out.2.2.1
  have q6 := HK6.out.2.2.2.1
  have r6 := HK6.out.2.2.2.2.1
  have s6 := HK6.out.2.2.2.2.2
  have t6 := HK6.out.2.1
  go_wp2_with fail
  refine (H13.out _ HK6.out).mono ?_
  rintro e w7 ⟨rfl, hb⟩
  have HK7 : Hid (Keep2 w.heap.size w w7 (.slice a h.length c) (.slice a' l.length c') (.slice b h'.length d) (.slice b' l'.length d')) := Keep2.call HK6.out hb
  clear hb HK6 p6 q6 r6 s6 t6
  have p7 := HK7.out.2.2.1
  have q7 := HK7.out.2.2.2.1
  have r7 := HK7.out.2.2.2.2.1
  have s7 := HK7.out.2.2.2.2.2
  have t7 := HK7.out.2.1
  go_wp2_with fail
  refine (H15.out _ HK7.out).mono ?_
  rintro e w8 ⟨rfl, hb⟩
  have HK8 : Hid (Keep2 w.heap.size w w8 (.slice a h.length c) (.slice a' l.length c') (.slice b h'.length d) (.slice b' l'.length d')) := Keep2.call HK7.out hb
  clear hb HK7 p7 q7 r7 s7 t7
  have p8 := HK8.out.2.2.1
  have q8 := HK8.out.2.2.2.1
  have r8 := HK8.out.2.2.2.2.1
  have s8 := HK8.out.2.2.2.2.2
  have t8 := HK8.out.2.1
  go_wp2_with fail
  refine (H16.out _ HK8.out).mono ?_
  rintro e w9 ⟨rfl, hb⟩
  have HK9 : Hid (Keep2 w.heap.size w w9 (.slice a h.length c) (.slice a' l.length c') (.slice b h'.length d) (.slice b' l'.length d')) := Keep2.call HK8.out hb
  clear hb HK8 p8 q8 r8 s8 t8
  have p9 := HK9.out.2.2.1
  have q9 := HK9.out.2.2.2.1
  have r9 := HK9.out.2.2.2.2.1
  have s9 := HK9.out.2.2.2.2.2
  have t9 := HK9.out.2.1
  go_wp2
  all_goals go_ret
  all_goals exact ⟨by simp, HK9.out.1⟩

set_option maxHeartbeats 2000000 in
theorem tells_D (nl m : Int) (aw a a' b b' : Option Addr) (cw c c' d d' : Nat) (zs h l h' l' : List Int) (w : World) (v g two x : Int)  (h2 : 0 ≤ m) (h3 : two ≠ 0)
    (H9 : Hid (∀ W, Keep2 w.heap.size w W (.slice a h.length c) (.slice a' l.length c') (.slice b h'.length d) (.slice b' l'.length d') → Calls Try.prog 9 #[.int .i64 nl, .slice aw zs.length cw] W fun e w' => e = .returned (.int .i64 v) ∧ Below W.heap.size W w'))
    (H10 : Hid (∀ W, Keep2 w.heap.size w W (.slice a h.length c) (.slice a' l.length c') (.slice b h'.length d) (.slice b' l'.length d') → Calls Try.prog 10 #[.int .i64 nl, .slice aw zs.length cw] W fun e w' => e = .returned (.int .i64 v) ∧ Below W.heap.size W w'))
    (H11 : Hid (∀ W, Keep2 w.heap.size w W (.slice a h.length c) (.slice a' l.length c') (.slice b h'.length d) (.slice b' l'.length d') → Calls Try.prog 11 #[.int .i64 nl, .agg #[.slice a h.length c, .slice a' l.length c']] W fun e w' => e = .returned (.int .i64 g) ∧ Below W.heap.size W w'))
    (H12 : Hid (∀ W, Keep2 w.heap.size w W (.slice a h.length c) (.slice a' l.length c') (.slice b h'.length d) (.slice b' l'.length d') → Calls Try.prog 12 #[.int .i64 nl, .agg #[.slice a h.length c, .slice a' l.length c']] W fun e w' => e = .returned (.int .i64 g) ∧ Below W.heap.size W w'))
    (H12a : Hid (∀ W, Keep2 w.heap.size w W (.slice a h.length c) (.slice a' l.length c') (.slice b h'.length d) (.slice b' l'.length d') → Calls Try.prog 12 #[.int .i64 4, .agg #[.slice a h.length c, .slice a' l.length c']] W fun e w' => e = .returned (.int .i64 0) ∧ Below W.heap.size W w'))
    (H12b : Hid (∀ W, Keep2 w.heap.size w W (.slice a h.length c) (.slice a' l.length c') (.slice b h'.length d) (.slice b' l'.length d') → Calls Try.prog 12 #[.int .i64 4, .agg #[.slice b h'.length d, .slice b' l'.length d']] W fun e w' => e = .returned (.int .i64 two) ∧ Below W.heap.size W w'))
    (H13 : Hid (∀ W, Keep2 w.heap.size w W (.slice a h.length c) (.slice a' l.length c') (.slice b h'.length d) (.slice b' l'.length d') → Calls Try.prog 13 #[.agg #[.slice a h.length c, .slice a' l.length c'], .int .i64 m] W fun e w' => e = .returned (.tuple #[.int .i64 x, .int .i64 0]) ∧ Below W.heap.size W w'))
    (H14 : Hid (∀ W, Keep2 w.heap.size w W (.slice a h.length c) (.slice a' l.length c') (.slice b h'.length d) (.slice b' l'.length d') → Calls Try.prog 14 #[.agg #[.slice a h.length c, .slice a' l.length c'], .int .i64 m] W fun e w' => e = .returned (.int .i64 x) ∧ Below W.heap.size W w'))
    (H15 : Hid (∀ W, Keep2 w.heap.size w W (.slice a h.length c) (.slice a' l.length c') (.slice b h'.length d) (.slice b' l'.length d') → Calls Try.prog 15 #[.agg #[.slice a h.length c, .slice a' l.length c'], .agg #[.slice b h'.length d, .slice b' l'.length d']] W fun e w' => e = .returned (.tuple #[.bool false, .int .i64 two]) ∧ Below W.heap.size W w'))
    : Calls Try.prog 4 #[.int .i64 nl, .slice aw zs.length cw, .agg #[.slice a h.length c, .slice a' l.length c'], .agg #[.slice b h'.length d, .slice b' l'.length d'], .int .i64 m] w fun e w' => e = .returned (.bool true) ∧ Below w.heap.size w w' := by
  have f1 : (two != 0) = true := by simpa using h3
  have HK0 : Hid (Keep2 w.heap.size w ((w.alloc (.cells #[.slice a h.length c, .slice a' l.length c'] 30)).alloc (.cells #[.slice b h'.length d, .slice b' l'.length d'] 30)) (.slice a h.length c) (.slice a' l.length c') (.slice b h'.length d) (.slice b' l'.length d')) :=
    ⟨((Below.refl _ _).alloc (Nat.le_refl _) _).alloc (by simp) _, by simp, by simp, by simp, by simp, by simp⟩
  go_enter Try.func4, Try.ntmps4
  go_wp2_with fail
  refine (H9.out _ HK0.out).mono ?_
  rintro e w1 ⟨rfl, hb⟩
  have HK1 : Hid (Keep2 w.heap.size w w1 (.slice a h.length c) (.slice a' l.length c') (.slice b h'.length d) (.slice b' l'.length d')) := Keep2.call HK0.out hb
  clear hb HK0 
  have p1 := HK1.out.2.2.1
  have q1 := HK1.out.2.2.2.1
  have r1 := HK1.out.2.2.2.2.1
  have s1 := HK1.out.2.2.2.2.2
  have t1 := HK1.out.2.1
  go_wp2_with fail
  refine (H10.out _ HK1.out).mono ?_
  rintro e w2 ⟨rfl, hb⟩
  have HK2 : Hid (Keep2 w.heap.size w w2 (.slice a h.length c) (.slice a' l.length c') (.slice b h'.length d) (.slice b' l'.length d')) := Keep2.call HK1.out hb
  clear hb HK1 p1 q1 r1 s1 t1
  have p2 := HK2.out.2.2.1
  have q2 := HK2.out.2.2.2.1
  have r2 := HK2.out.2.2.2.2.1
  have s2 := HK2.out.2.2.2.2.2
  have t2 := HK2.out.2.1
  go_wp2_with fail
  refine (H11.out _ HK2.out).mono ?_
  rintro e w3 ⟨rfl, hb⟩
  have HK3 : Hid (Keep2 w.heap.size w w3 (.slice a h.length c) (.slice a' l.length c') (.slice b h'.length d) (.slice b' l'.length d')) := Keep2.call HK2.out hb
  clear hb HK2 p2 q2 r2 s2 t2
  have p3 := HK3.out.2.2.1
  have q3 := HK3.out.2.2.2.1
  have r3 := HK3.out.2.2.2.2.1
  have s3 := HK3.out.2.2.2.2.2
  have t3 := HK3.out.2.1
  go_wp2_with fail
  refine (H12.out _ HK3.out).mono ?_
  rintro e w4 ⟨rfl, hb⟩
  have HK4 : Hid (Keep2 w.heap.size w w4 (.slice a h.length c) (.slice a' l.length c') (.slice b h'.length d) (.slice b' l'.length d')) := Keep2.call HK3.out hb
  clear hb HK3 p3 q3 r3 s3 t3
  have p4 := HK4.out.2.2.1
  have q4 := HK4.out.2.2.2.1
  have r4 := HK4.out.2.2.2.2.1
  have s4 := HK4.out.2.2.2.2.2
  have t4 := HK4.out.2.1
  go_wp2_with fail
  refine (H12a.out _ HK4.out).mono ?_
  rintro e w5 ⟨rfl, hb⟩
  have HK5 : Hid (Keep2 w.heap.size w w5 (.slice a h.length c) (.slice a' l.length c') (.slice b h'.length d) (.slice b' l'.length d')) := Keep2.call HK4.out hb
  clear hb HK4 p4 q4 r4 s4 t4
  have p5 := HK5.out.2.2.1
  have q5 := HK5.out.2.2.2.1
  have r5 := HK5.out.2.2.2.2.1
  have s5 := HK5.out.2.2.2.2.2
  have t5 := HK5.out.2.1
  go_wp2_with fail
  refine (H12b.out _ HK5.out).mono ?_
  rintro e w6 ⟨rfl, hb⟩
  have HK6 : Hid (Keep2 w.heap.size w w6 (.slice a h.length c) (.slice a' l.length c') (.slice b h'.length d) (.slice b' l'.length d')) := Keep2.call HK5.out hb
  clear hb HK5 p5 q5 r5 s5 t5
  have p6 := HK6.out.2.2.1
  have q6 := HK6.out.2.2.2.1
  have r6 := HK6.out.2.2.2.2.1
  have s6 := HK6.out.2.2.2.2.2
  have t6 := HK6.out.2.1
  go_wp2_with fail
  refine (H13.out _ HK6.out).mono ?_
  rintro e w7 ⟨rfl, hb⟩
  have HK7 : Hid (Keep2 w.heap.size w w7 (.slice a h.length c) (.slice a' l.length c') (.slice b h'.length d) (.slice b' l'.length d')) := Keep2.call HK6.out hb
  clear hb HK6 p6 q6 r6 s6 t6
  have p7 := HK7.out.2.2.1
  have q7 := HK7.out.2.2.2.1
  have r7 := HK7.out.2.2.2.2.1
  have s7 := HK7.out.2.2.2.2.2
  have t7 := HK7.out.2.1
  go_wp2_with fail
  refine (H14.out _ HK7.out).mono ?_
  rintro e w8 ⟨rfl, hb⟩
  have HK8 : Hid (Keep2 w.heap.size w w8 (.slice a h.length c) (.slice a' l.length c') (.slice b h'.length d) (.slice b' l'.length d')) := Keep2.call HK7.out hb
  clear hb HK7 p7 q7 r7 s7 t7
  have p8 := HK8.out.2.2.1
  have q8 := HK8.out.2.2.2.1
  have r8 := HK8.out.2.2.2.2.1
  have s8 := HK8.out.2.2.2.2.2
  have t8 := HK8.out.2.1
  go_wp2_with fail
  refine (H15.out _ HK8.out).mono ?_
  rintro e w9 ⟨rfl, hb⟩
  have HK9 : Hid (Keep2 w.heap.size w w9 (.slice a h.length c) (.slice a' l.length c') (.slice b h'.length d) (.slice b' l'.length d')) := Keep2.call HK8.out hb
  clear hb HK8 p8 q8 r8 s8 t8
  have p9 := HK9.out.2.2.1
  have q9 := HK9.out.2.2.2.1
  have r9 := HK9.out.2.2.2.2.1
  have s9 := HK9.out.2.2.2.2.2
  have t9 := HK9.out.2.1
  go_wp2
  all_goals go_ret
  all_goals exact ⟨by simp, HK9.out.1⟩

set_option maxHeartbeats 2000000 in
theorem tells_E (nl m : Int) (aw a a' b b' : Option Addr) (cw c c' d d' : Nat) (zs h l h' l' : List Int) (w : World) (v g x : Int) (is : Bool) (h2 : 0 ≤ m)
    (H9 : Hid (∀ W, Keep2 w.heap.size w W (.slice a h.length c) (.slice a' l.length c') (.slice b h'.length d) (.slice b' l'.length d') → Calls Try.prog 9 #[.int .i64 nl, .slice aw zs.length cw] W fun e w' => e = .returned (.int .i64 v) ∧ Below W.heap.size W w'))
    (H10 : Hid (∀ W, Keep2 w.heap.size w W (.slice a h.length c) (.slice a' l.length c') (.slice b h'.length d) (.slice b' l'.length d') → Calls Try.prog 10 #[.int .i64 nl, .slice aw zs.length cw] W fun e w' => e = .returned (.int .i64 v) ∧ Below W.heap.size W w'))
    (H11 : Hid (∀ W, Keep2 w.heap.size w W (.slice a h.length c) (.slice a' l.length c') (.slice b h'.length d) (.slice b' l'.length d') → Calls Try.prog 11 #[.int .i64 nl, .agg #[.slice a h.length c, .slice a' l.length c']] W fun e w' => e = .returned (.int .i64 g) ∧ Below W.heap.size W w'))
    (H12 : Hid (∀ W, Keep2 w.heap.size w W (.slice a h.length c) (.slice a' l.length c') (.slice b h'.length d) (.slice b' l'.length d') → Calls Try.prog 12 #[.int .i64 nl, .agg #[.slice a h.length c, .slice a' l.length c']] W fun e w' => e = .returned (.int .i64 g) ∧ Below W.heap.size W w'))
    (H12a : Hid (∀ W, Keep2 w.heap.size w W (.slice a h.length c) (.slice a' l.length c') (.slice b h'.length d) (.slice b' l'.length d') → Calls Try.prog 12 #[.int .i64 4, .agg #[.slice a h.length c, .slice a' l.length c']] W fun e w' => e = .returned (.int .i64 0) ∧ Below W.heap.size W w'))
    (H12b : Hid (∀ W, Keep2 w.heap.size w W (.slice a h.length c) (.slice a' l.length c') (.slice b h'.length d) (.slice b' l'.length d') → Calls Try.prog 12 #[.int .i64 4, .agg #[.slice b h'.length d, .slice b' l'.length d']] W fun e w' => e = .returned (.int .i64 0) ∧ Below W.heap.size W w'))
    (H13 : Hid (∀ W, Keep2 w.heap.size w W (.slice a h.length c) (.slice a' l.length c') (.slice b h'.length d) (.slice b' l'.length d') → Calls Try.prog 13 #[.agg #[.slice a h.length c, .slice a' l.length c'], .int .i64 m] W fun e w' => e = .returned (.tuple #[.int .i64 x, .int .i64 0]) ∧ Below W.heap.size W w'))
    (H14 : Hid (∀ W, Keep2 w.heap.size w W (.slice a h.length c) (.slice a' l.length c') (.slice b h'.length d) (.slice b' l'.length d') → Calls Try.prog 14 #[.agg #[.slice a h.length c, .slice a' l.length c'], .int .i64 m] W fun e w' => e = .returned (.int .i64 x) ∧ Below W.heap.size W w'))
    (H15 : Hid (∀ W, Keep2 w.heap.size w W (.slice a h.length c) (.slice a' l.length c') (.slice b h'.length d) (.slice b' l'.length d') → Calls Try.prog 15 #[.agg #[.slice a h.length c, .slice a' l.length c'], .agg #[.slice b h'.length d, .slice b' l'.length d']] W fun e w' => e = .returned (.tuple #[.bool is, .int .i64 0]) ∧ Below W.heap.size W w'))
    (H16 : Hid (∀ W, Keep2 w.heap.size w W (.slice a h.length c) (.slice a' l.length c') (.slice b h'.length d) (.slice b' l'.length d') → Calls Try.prog 16 #[.agg #[.slice a h.length c, .slice a' l.length c'], .agg #[.slice b h'.length d, .slice b' l'.length d']] W fun e w' => e = .returned (.bool is) ∧ Below W.heap.size W w'))
    : Calls Try.prog 4 #[.int .i64 nl, .slice aw zs.length cw, .agg #[.slice a h.length c, .slice a' l.length c'], .agg #[.slice b h'.length d, .slice b' l'.length d'], .int .i64 m] w fun e w' => e = .returned (.bool true) ∧ Below w.heap.size w w' := by
  have HK0 : Hid (Keep2 w.heap.size w ((w.alloc (.cells #[.slice a h.length c, .slice a' l.length c'] 30)).alloc (.cells #[.slice b h'.length d, .slice b' l'.length d'] 30)) (.slice a h.length c) (.slice a' l.length c') (.slice b h'.length d) (.slice b' l'.length d')) :=
    ⟨((Below.refl _ _).alloc (Nat.le_refl _) _).alloc (by simp) _, by simp, by simp, by simp, by simp, by simp⟩
  go_enter Try.func4, Try.ntmps4
  go_wp2_with fail
  refine (H9.out _ HK0.out).mono ?_
  rintro e w1 ⟨rfl, hb⟩
  have HK1 : Hid (Keep2 w.heap.size w w1 (.slice a h.length c) (.slice a' l.length c') (.slice b h'.length d) (.slice b' l'.length d')) := Keep2.call HK0.out hb
  clear hb HK0 
  have p1 := HK1.out.2.2.1
  have q1 := HK1.out.2.2.2.1
  have r1 := HK1.out.2.2.2.2.1
  have s1 := HK1.out.2.2.2.2.2
  have t1 := HK1.out.2.1
  go_wp2_with fail
  refine (H10.out _ HK1.out).mono ?_
  rintro e w2 ⟨rfl, hb⟩
  have HK2 : Hid (Keep2 w.heap.size w w2 (.slice a h.length c) (.slice a' l.length c') (.slice b h'.length d) (.slice b' l'.length d')) := Keep2.call HK1.out hb
  clear hb HK1 p1 q1 r1 s1 t1
  have p2 := HK2.out.2.2.1
  have q2 := HK2.out.2.2.2.1
  have r2 := HK2.out.2.2.2.2.1
  have s2 := HK2.out.2.2.2.2.2
  have t2 := HK2.out.2.1
  go_wp2_with fail
  refine (H11.out _ HK2.out).mono ?_
  rintro e w3 ⟨rfl, hb⟩
  have HK3 : Hid (Keep2 w.heap.size w w3 (.slice a h.length c) (.slice a' l.length c') (.slice b h'.length d) (.slice b' l'.length d')) := Keep2.call HK2.out hb
  clear hb HK2 p2 q2 r2 s2 t2
  have p3 := HK3.out.2.2.1
  have q3 := HK3.out.2.2.2.1
  have r3 := HK3.out.2.2.2.2.1
  have s3 := HK3.out.2.2.2.2.2
  have t3 := HK3.out.2.1
  go_wp2_with fail
  refine (H12.out _ HK3.out).mono ?_
  rintro e w4 ⟨rfl, hb⟩
  have HK4 : Hid (Keep2 w.heap.size w w4 (.slice a h.length c) (.slice a' l.length c') (.slice b h'.length d) (.slice b' l'.length d')) := Keep2.call HK3.out hb
  clear hb HK3 p3 q3 r3 s3 t3
  have p4 := HK4.out.2.2.1
  have q4 := HK4.out.2.2.2.1
  have r4 := HK4.out.2.2.2.2.1
  have s4 := HK4.out.2.2.2.2.2
  have t4 := HK4.out.2.1
  go_wp2_with fail
  refine (H12a.out _ HK4.out).mono ?_
  rintro e w5 ⟨rfl, hb⟩
  have HK5 : Hid (Keep2 w.heap.size w w5 (.slice a h.length c) (.slice a' l.length c') (.slice b h'.length d) (.slice b' l'.length d')) := Keep2.call HK4.out hb
  clear hb HK4 p4 q4 r4 s4 t4
  have p5 := HK5.out.2.2.1
  have q5 := HK5.out.2.2.2.1
  have r5 := HK5.out.2.2.2.2.1
  have s5 := HK5.out.2.2.2.2.2
  have t5 := HK5.out.2.1
  go_wp2_with fail
  refine (H12b.out _ HK5.out).mono ?_
  rintro e w6 ⟨rfl, hb⟩
  have HK6 : Hid (Keep2 w.heap.size w w6 (.slice a h.length c) (.slice a' l.length c') (.slice b h'.length d) (.slice b' l'.length d')) := Keep2.call HK5.out hb
  clear hb HK5 p5 q5 r5 s5 t5
  have p6 := HK6.out.2.2.1
  have q6 := HK6.out.2.2.2.1
  have r6 := HK6.out.2.2.2.2.1
  have s6 := HK6.out.2.2.2.2.2
  have t6 := HK6.out.2.1
  go_wp2_with fail
  refine (H13.out _ HK6.out).mono ?_
  rintro e w7 ⟨rfl, hb⟩
  have HK7 : Hid (Keep2 w.heap.size w w7 (.slice a h.length c) (.slice a' l.length c') (.slice b h'.length d) (.slice b' l'.length d')) := Keep2.call HK6.out hb
  clear hb HK6 p6 q6 r6 s6 t6
  have p7 := HK7.out.2.2.1
  have q7 := HK7.out.2.2.2.1
  have r7 := HK7.out.2.2.2.2.1
  have s7 := HK7.out.2.2.2.2.2
  have t7 := HK7.out.2.1
  go_wp2_with fail
  refine (H14.out _ HK7.out).mono ?_
  rintro e w8 ⟨rfl, hb⟩
  have HK8 : Hid (Keep2 w.heap.size w w8 (.slice a h.length c) (.slice a' l.length c') (.slice b h'.length d) (.slice b' l'.length d')) := Keep2.call HK7.out hb
  clear hb HK7 p7 q7 r7 s7 t7
  have p8 := HK8.out.2.2.1
  have q8 := HK8.out.2.2.2.1
  have r8 := HK8.out.2.2.2.2.1
  have s8 := HK8.out.2.2.2.2.2
  have t8 := HK8.out.2.1
  go_wp2_with fail
  refine (H15.out _ HK8.out).mono ?_
  rintro e w9 ⟨rfl, hb⟩
  have HK9 : Hid (Keep2 w.heap.size w w9 (.slice a h.length c) (.slice a' l.length c') (.slice b h'.length d) (.slice b' l'.length d')) := Keep2.call HK8.out hb
  clear hb HK8 p8 q8 r8 s8 t8
  have p9 := HK9.out.2.2.1
  have q9 := HK9.out.2.2.2.1
  have r9 := HK9.out.2.2.2.2.1
  have s9 := HK9.out.2.2.2.2.2
  have t9 := HK9.out.2.1
  go_wp2_with fail
  refine (H16.out _ HK9.out).mono ?_
  rintro e w10 ⟨rfl, hb⟩
  have HK10 : Hid (Keep2 w.heap.size w w10 (.slice a h.length c) (.slice a' l.length c') (.slice b h'.length d) (.slice b' l'.length d')) := Keep2.call HK9.out hb
  clear hb HK9 p9 q9 r9 s9 t9
  have p10 := HK10.out.2.2.1
  have q10 := HK10.out.2.2.2.1
  have r10 := HK10.out.2.2.2.2.1
  have s10 := HK10.out.2.2.2.2.2
  have t10 := HK10.out.2.1
  go_wp2
  all_goals go_ret
  all_goals exact ⟨by simp, HK10.out.1⟩

end Go.Proofs.Ythccdfjmkdcehaa
