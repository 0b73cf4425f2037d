/- How the program reads a whole text, and gives up: the deferred function that catches what a reader gives up with. -/
import Derived.Test.YtepldeogcoigkaaDoorEither
import Derived.Defers
import Derived.Recover
import Derived.Laws.Pointers
namespace Go.Proofs.YtepldeogcoigkaaDoor
open Go.RowKit
set_option linter.unusedVariables false

theorem asMM (w : World) (v : Value) : (Instr.typeAssert (.iface 47 v) 20 47 true).run Tryd.prog w = .ok (.tuple #[v, .bool true]) w := by kernel_rfl
theorem asTM (w : World) (v : Value) : (Instr.typeAssert (.iface 48 v) 20 47 true).run Tryd.prog w = .ok (.tuple #[.int .i64 0, .bool false]) w := by kernel_rfl
theorem asTT (w : World) (v : Value) : (Instr.typeAssert (.iface 48 v) 20 48 true).run Tryd.prog w = .ok (.tuple #[v, .bool true]) w := by kernel_rfl
theorem asNM (w : World) : (Instr.typeAssert .nilIface 20 47 true).run Tryd.prog w = .ok (.tuple #[.int .i64 0, .bool false]) w := by kernel_rfl
theorem asNT (w : World) : (Instr.typeAssert .nilIface 20 48 true).run Tryd.prog w = .ok (.tuple #[.int .i64 0, .bool false]) w := by kernel_rfl

theorem catch_misplaced (p : Nat) (j : Int) (x y : Value) (w : World) (h : w.heap[p]? = some (.cells #[x, y] 28 (0, 0))) :
    CallsD Tryd.prog 15 #[.pointer (some ⟨p, 0, none⟩)] (.panicking ({ v := .iface 47 (.int .i64 j), recovered := false } :: [])) w fun e u' w' =>
      e = .returned (.tuple #[]) ∧ u' = .panicking ({ v := .iface 47 (.int .i64 j), recovered := true } :: []) ∧ w' = (w.setCell ⟨p, 0, none⟩ (.int .i64 4)).setCell ⟨p, 1, none⟩ (.int .i64 j) := by
  refine callsD_of_wpS Tryd.func15 rfl fun c₀ cs hu => ?_
  apply wpS_seq
  apply wpS_region
  simp [wpOpsS, go_sem, recoverD, hu, Tryd.ntmps15, Exit.thenS]
  refine wpS_of_wp ?_
  have c0 : w.cell? ⟨p, 0, none⟩ = some x := by rw [cell_of_row w p 0 _ _ (0, 0) h]; rfl
  have c1 : w.cell? ⟨p, 1, none⟩ = some y := by rw [cell_of_row w p 1 _ _ (0, 0) h]; rfl
  have f0 := frozen_of_row w p 0 _ _ h
  have f1 := frozen_of_row w p 1 _ _ h
  have asmm := asMM w
  have ht : (#[Value.pointer (some ⟨p, 0, none⟩)] ++ (Array.replicate 13 undef).setIfInBounds 2 (Value.iface 47 (Value.int IntKind.i64 j))) = #[Value.pointer (some ⟨p, 0, none⟩), undef, undef, Value.iface 47 (Value.int IntKind.i64 j), undef, undef, undef, undef, undef, undef, undef, undef, undef, undef] := rfl
  rw [ht]
  clear h hu ht
  go_wp2
  simp [bodyPostS, results, Tryd.results15]

theorem catch_tooDeep (p : Nat) (j : Int) (x y : Value) (w : World) (h : w.heap[p]? = some (.cells #[x, y] 28 (0, 0))) :
    CallsD Tryd.prog 15 #[.pointer (some ⟨p, 0, none⟩)] (.panicking ({ v := .iface 48 (.int .i64 j), recovered := false } :: [])) w fun e u' w' =>
      e = .returned (.tuple #[]) ∧ u' = .panicking ({ v := .iface 48 (.int .i64 j), recovered := true } :: []) ∧ w' = (w.setCell ⟨p, 0, none⟩ (.int .i64 7)).setCell ⟨p, 1, none⟩ (.int .i64 j) := by
  refine callsD_of_wpS Tryd.func15 rfl fun c₀ cs hu => ?_
  apply wpS_seq
  apply wpS_region
  simp [wpOpsS, go_sem, recoverD, hu, Tryd.ntmps15, Exit.thenS]
  refine wpS_of_wp ?_
  have c0 : w.cell? ⟨p, 0, none⟩ = some x := by rw [cell_of_row w p 0 _ _ (0, 0) h]; rfl
  have c1 : w.cell? ⟨p, 1, none⟩ = some y := by rw [cell_of_row w p 1 _ _ (0, 0) h]; rfl
  have f0 := frozen_of_row w p 0 _ _ h
  have f1 := frozen_of_row w p 1 _ _ h
  have astm := asTM w
  have astt := asTT w
  have ht : (#[Value.pointer (some ⟨p, 0, none⟩)] ++ (Array.replicate 13 undef).setIfInBounds 2 (Value.iface 48 (Value.int IntKind.i64 j))) = #[Value.pointer (some ⟨p, 0, none⟩), undef, undef, Value.iface 48 (Value.int IntKind.i64 j), undef, undef, undef, undef, undef, undef, undef, undef, undef, undef] := rfl
  rw [ht]
  clear h hu ht
  go_wp2
  simp [bodyPostS, results, Tryd.results15]

theorem catch_idle (p : Nat) (w : World) :
    CallsD Tryd.prog 15 #[.pointer (some ⟨p, 0, none⟩)] .returning w fun e u' w' => e = .returned (.tuple #[]) ∧ u' = .returning ∧ w' = w := by
  refine callsD_of_wpS Tryd.func15 rfl fun c₀ cs hu => ?_
  apply wpS_seq
  apply wpS_region
  simp [wpOpsS, go_sem, recoverD, hu, Tryd.ntmps15, Exit.thenS]
  refine wpS_of_wp ?_
  have a1 := asNM w
  have a2 := asNT w
  have ht : (#[Value.pointer (some ⟨p, 0, none⟩)] ++ (Array.replicate 13 undef).setIfInBounds 2 Value.nilIface) = #[Value.pointer (some ⟨p, 0, none⟩), undef, undef, Value.nilIface, undef, undef, undef, undef, undef, undef, undef, undef, undef, undef] := rfl
  rw [ht]
  clear ht
  go_wp2
  cases c₀
  simp_all [bodyPostS, results, Tryd.results15]

theorem two_cells {w : World} {b : Nat} {u0 u1 : Value} {t : TypeId} (h : w.heap[b]? = some (.cells #[u0, u1] t (0, 0))) :
    w.cell? ⟨b, 0, none⟩ = some u0 ∧ w.cell? ⟨b, 1, none⟩ = some u1 ∧ w.frozen? ⟨b, 0, none⟩ = false ∧ w.frozen? ⟨b, 1, none⟩ = false :=
  ⟨by rw [cell_of_row w b 0 _ t (0, 0) h]; rfl, by rw [cell_of_row w b 1 _ t (0, 0) h]; rfl, frozen_of_row w b 0 _ t h, frozen_of_row w b 1 _ t h⟩

/-- What reading a text leaves behind. -/
def Parsed (w : World) (R : Res) (e : Ending) (w' : World) : Prop :=
  Below w.heap.size w w' ∧ match R with
  | .good m j => ∃ v, e = .returned (.tuple #[v, .agg #[.int .i64 0, .int .i64 0]]) ∧ Lies (fun k => w.heap.size ≤ k) w' v m
  | .bad c j => e = .returned (.tuple #[.nilIface, .agg #[.int .i64 c, .int .i64 j]])

set_option maxHeartbeats 800000 in
theorem parse_any (s : ByteArray) (w : World) (hm : s.size ≤ maxLen) : Calls Tryd.prog 8 #[.string s] w (Parsed w (parseR s)) := by
  unfold maxLen at hm
  have hmf : ∀ (fn : Fn) (first cap : Array Value) (w : World), (Instr.makeFunc fn first cap).run Tryd.prog w = .ok (.func fn first cap) w := fun _ _ _ _ => rfl
  by_cases hs : 4000 < s.size
  · have hs' : (4000 : Int) < (s.size : Int) := by omega
    have hR : parseR s = .bad 1 0 := by simp [parseR, hs]
    rw [hR]
    go_enter_defers Tryd.func8, Tryd.ntmps8
    go_wp2
    exact ⟨.tuple #[.nilIface, .agg #[.int .i64 1, .int .i64 0]], by simp [results, Tryd.results8, go_sem], (Below.refl _ _).alloc (Nat.le_refl _) _, rfl⟩
  · have hs' : ¬ (4000 : Int) < (s.size : Int) := by omega
    have hs4 : s.size ≤ 4000 := by omega
    have R0 : Hid (Rd ((w.alloc (.cells #[.int .i64 0, .int .i64 0] 28)).alloc (.cells #[.string s, .int .i64 0, .int .i64 0] 51)) (w.heap.size + 1) s 0 0) := by
      have := heap_alloc_new (w.alloc (.cells #[.int .i64 0, .int .i64 0] 28)) (.cells #[.string s, .int .i64 0, .int .i64 0] 51)
      show _ = _
      simpa using this
    have F0 : Hid (((w.alloc (.cells #[.int .i64 0, .int .i64 0] 28)).alloc (.cells #[.string s, .int .i64 0, .int .i64 0] 51)).heap[w.heap.size]? = some (.cells #[.int .i64 0, .int .i64 0] 28 (0, 0))) := by
      have h1 := Below.heap_alloc (w.alloc (.cells #[.int .i64 0, .int .i64 0] 28)) (.cells #[.string s, .int .i64 0, .int .i64 0] 51) w.heap.size (by simp)
      show _ = _
      rw [h1]; exact heap_alloc_new w _
    have B0 : Hid (Below w.heap.size w ((w.alloc (.cells #[.int .i64 0, .int .i64 0] 28)).alloc (.cells #[.string s, .int .i64 0, .int .i64 0] 51))) := ((Below.refl _ _).alloc (Nat.le_refl _) _).alloc (by simp) _
    have HW : Hid (∀ w1, Rd w1 (w.heap.size + 1) s 0 0 → Calls Tryd.prog 16 #[.pointer (some ⟨w.heap.size + 1, 0, none⟩)] w1 (Gives s (w.heap.size + 1) 0 w1 (wholeF s (s.size + 1) 0 0))) := fun w1 h => whole_does s hs4 (s.size + 1) 0 0 _ w1 (by omega) (by omega) (by omega) h
    have hadv := adv_whole (s := s) (s.size + 1) 0 0
    unfold parseR
    rw [if_neg hs]
    clear hs hm
    generalize hgen : ((w.alloc (.cells #[.int .i64 0, .int .i64 0] 28)).alloc (.cells #[.string s, .int .i64 0, .int .i64 0] 51)) = w2 at R0 F0 B0
    have HG : Hid (((w.alloc (.cells #[.int .i64 0, .int .i64 0] 28)).alloc (.cells #[.string s, .int .i64 0, .int .i64 0] 51)) = w2) := hgen
    clear hgen
    generalize wholeF s (s.size + 1) 0 0 = R at HW hadv ⊢
    cases R with
    | bad c j =>
      go_enter_defers Tryd.func8, Tryd.ntmps8
      go_wp2_with fail
      rw [HG.out]
      refine (HW.out _ R0.out).mono ?_
      rintro e w3 ⟨hg3, hp⟩
      have F3 : w3.heap[w.heap.size]? = some (.cells #[.int .i64 0, .int .i64 0] 28 (0, 0)) := (hg3.block _ (Array.getElem?_eq_some_iff.1 F0.out).1 (by simp)).trans F0.out
      have B3 : Below w.heap.size w w3 := B0.out.trans (grown_below hg3 (by omega) B0.out.size)
      rcases hp with ⟨rfl, rfl⟩ | ⟨rfl, rfl⟩
      ·
        refine leaves_cons (f := 15) (args := #[.pointer (some ⟨w.heap.size, 0, none⟩)]) (by simp) (by simp [go_sem]) ?_
        refine (catch_misplaced w.heap.size _ _ _ _ F3).mono ?_
        rintro e u' w'' ⟨rfl, rfl, rfl⟩
        have q0 : ((w3.setCell ⟨w.heap.size, 0, none⟩ (.int .i64 4)).setCell ⟨w.heap.size, 1, none⟩ (.int .i64 (j : Nat))).heap[w.heap.size]? = some (.cells #[.int .i64 4, .int .i64 (j : Nat)] 28 (0, 0)) := by
          rw [heap_setCell_same _ w.heap.size 1 _ 28 _ (heap_setCell_same _ w.heap.size 0 _ 28 _ F3)]; rfl
        refine ⟨.tuple #[.nilIface, .agg #[.int .i64 4, .int .i64 (j : Nat)]], by simp [results, Tryd.results8, go_sem, (two_cells q0).1, (two_cells q0).2.1], (B3.setCell (Nat.le_refl _) _).setCell (Nat.le_refl _) _, rfl⟩
      ·
        refine leaves_cons (f := 15) (args := #[.pointer (some ⟨w.heap.size, 0, none⟩)]) (by simp) (by simp [go_sem]) ?_
        refine (catch_tooDeep w.heap.size _ _ _ _ F3).mono ?_
        rintro e u' w'' ⟨rfl, rfl, rfl⟩
        have q0 : ((w3.setCell ⟨w.heap.size, 0, none⟩ (.int .i64 7)).setCell ⟨w.heap.size, 1, none⟩ (.int .i64 (j : Nat))).heap[w.heap.size]? = some (.cells #[.int .i64 7, .int .i64 (j : Nat)] 28 (0, 0)) := by
          rw [heap_setCell_same _ w.heap.size 1 _ 28 _ (heap_setCell_same _ w.heap.size 0 _ 28 _ F3)]; rfl
        refine ⟨.tuple #[.nilIface, .agg #[.int .i64 7, .int .i64 (j : Nat)]], by simp [results, Tryd.results8, go_sem, (two_cells q0).1, (two_cells q0).2.1], (B3.setCell (Nat.le_refl _) _).setCell (Nat.le_refl _) _, rfl⟩
    | good m j =>
      have hj := hadv m j rfl
      clear hadv
      by_cases hjl : j < s.size
      · have hjl' : (j : Int) < (s.size : Int) := by omega
        show Calls Tryd.prog 8 #[.string s] w (Parsed w (if j < s.size then .bad 4 j else .good m j))
        rw [if_pos hjl]
        go_enter_defers Tryd.func8, Tryd.ntmps8
        go_wp2_with fail
        rw [HG.out]
        refine (HW.out _ R0.out).mono ?_
        rintro e w3 ⟨hg3, v, rfl, hrd, hl⟩
        have F3 : Hid (w3.heap[w.heap.size]? = some (.cells #[.int .i64 0, .int .i64 0] 28 (0, 0))) := (hg3.block _ (Array.getElem?_eq_some_iff.1 F0.out).1 (by simp)).trans F0.out
        have B3 : Hid (Below w.heap.size w w3) := B0.out.trans (grown_below hg3 (by omega) B0.out.size)
        have L3 : Hid (Lies (fun k => w.heap.size ≤ k ∧ k ≠ w.heap.size) w3 v m) := hl.kept fun g hg _ => ⟨by have := B0.out.size; have := (Array.getElem?_eq_some_iff.1 F0.out).1; omega, rfl⟩
        have c1 := hrd.c1
        have f1 := hrd.f 1
        have c0 := (two_cells F3.out).1
        have c01 := (two_cells F3.out).2.1
        have f0 := (two_cells F3.out).2.2.1
        have f01 := (two_cells F3.out).2.2.2
        clear hg3 hrd hl R0 F0 B0 HW
        go_wp2_with fail
        refine leaves_cons (f := 15) (args := #[.pointer (some ⟨w.heap.size, 0, none⟩)]) (by simp) (by simp [go_sem]) ?_
        refine (catch_misplaced w.heap.size _ _ _ _ F3.out).mono ?_
        rintro e u' w'' ⟨rfl, rfl, rfl⟩
        have q0 : ((w3.setCell ⟨w.heap.size, 0, none⟩ (.int .i64 4)).setCell ⟨w.heap.size, 1, none⟩ (.int .i64 (j : Nat))).heap[w.heap.size]? = some (.cells #[.int .i64 4, .int .i64 (j : Nat)] 28 (0, 0)) := by
          rw [heap_setCell_same _ w.heap.size 1 _ 28 _ (heap_setCell_same _ w.heap.size 0 _ 28 _ F3.out)]; rfl
        refine ⟨.tuple #[.nilIface, .agg #[.int .i64 4, .int .i64 (j : Nat)]], by simp [results, Tryd.results8, go_sem, (two_cells q0).1, (two_cells q0).2.1], (B3.out.setCell (Nat.le_refl _) _).setCell (Nat.le_refl _) _, rfl⟩
      · have hjl' : ¬ (j : Int) < (s.size : Int) := by omega
        show Calls Tryd.prog 8 #[.string s] w (Parsed w (if j < s.size then .bad 4 j else .good m j))
        rw [if_neg hjl]
        go_enter_defers Tryd.func8, Tryd.ntmps8
        go_wp2_with fail
        rw [HG.out]
        refine (HW.out _ R0.out).mono ?_
        rintro e w3 ⟨hg3, v, rfl, hrd, hl⟩
        have F3 : Hid (w3.heap[w.heap.size]? = some (.cells #[.int .i64 0, .int .i64 0] 28 (0, 0))) := (hg3.block _ (Array.getElem?_eq_some_iff.1 F0.out).1 (by simp)).trans F0.out
        have B3 : Hid (Below w.heap.size w w3) := B0.out.trans (grown_below hg3 (by omega) B0.out.size)
        have L3 : Hid (Lies (fun k => w.heap.size ≤ k ∧ k ≠ w.heap.size) w3 v m) := hl.kept fun g hg _ => ⟨by have := B0.out.size; have := (Array.getElem?_eq_some_iff.1 F0.out).1; omega, rfl⟩
        have c1 := hrd.c1
        have f1 := hrd.f 1
        have c0 := (two_cells F3.out).1
        have c01 := (two_cells F3.out).2.1
        have f0 := (two_cells F3.out).2.2.1
        have f01 := (two_cells F3.out).2.2.2
        clear hg3 hrd hl R0 F0 B0 HW
        go_wp2_with fail
        refine leaves_cons (f := 15) (args := #[.pointer (some ⟨w.heap.size, 0, none⟩)]) (by simp) (by simp [go_sem]) ?_
        refine (catch_idle w.heap.size _).mono ?_
        rintro e u' w'' ⟨rfl, rfl, rfl⟩
        have q0 : ((w3.setCell ⟨w.heap.size, 0, none⟩ (.int .i64 0)).setCell ⟨w.heap.size, 1, none⟩ (.int .i64 0)).heap[w.heap.size]? = some (.cells #[.int .i64 0, .int .i64 0] 28 (0, 0)) := by
          rw [heap_setCell_same _ w.heap.size 1 _ 28 _ (heap_setCell_same _ w.heap.size 0 _ 28 _ F3.out)]; rfl
        refine ⟨.tuple #[v, .agg #[.int .i64 0, .int .i64 0]], by simp [results, Tryd.results8, go_sem, (two_cells q0).1, (two_cells q0).2.1], (B3.out.setCell (Nat.le_refl _) _).setCell (Nat.le_refl _) _, v, rfl, L3.out.kept fun g hg _ => ⟨hg.1, ?_⟩⟩
        rw [Below.heap_setCell _ _ _ _ (by simpa using hg.2), Below.heap_setCell _ _ _ _ (by simpa using hg.2)]

end Go.Proofs.YtepldeogcoigkaaDoor
