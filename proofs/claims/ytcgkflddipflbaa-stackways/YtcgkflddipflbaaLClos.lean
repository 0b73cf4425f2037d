/- The functions that 'least' hands to 'Of': where a state goes, whether it accepts; of states, and of classes. -/
import Derived.Test.YtcgkflddipflbaaJoins
import Derived.Test.YtcgkflddipflbaaDRead
namespace Go.Proofs.Ytcgkflddipflbaa
open Go.RowKit
set_option linter.unusedVariables false

/-- An automaton in a box. -/
def BoxAt (w : World) (bd : Nat) (d : Dfa) (a a' : Option Addr) (c c' : Nat) : Prop :=
  w.heap[bd]? = some (.cells #[.int .i64 d.L, .int .i64 d.S, .slice a d.R.length c, .slice a' d.M.length c'] 36 (0, 0))
theorem BoxAt.kept {w w' : World} {bd : Nat} {d : Dfa} {a a' : Option Addr} {c c' : Nat} (h : BoxAt w bd d a a' c c') (hg : w.grownBy w' none) : BoxAt w' bd d a a' c c' :=
  (hg.block bd (Array.getElem?_eq_some_iff.1 h).1 (by simp)).trans h

set_option maxHeartbeats 1600000 in
set_option maxRecDepth 100000 in
theorem goes1_any (L S : Int) (R : List (List Int)) (M : List Int) (a a' : Option Addr) (c c' bd s b : Nat) (w : World) (hB : BoxAt w bd ⟨L, S, R, M⟩ a a' c c') (h : DetAt w ⟨L, S, R, M⟩ a a') (hG : Good ⟨L, S, R, M⟩) (hs : s < R.length) (hb : b < L.toNat) :
    Calls Try.prog 65 #[.int .i64 (s : Nat), .int .i64 (b : Nat), .pointer (some ⟨bd, 0, none⟩)] w fun e w' => e = .returned (.int .i64 ((Dfa.nx ⟨L, S, R, M⟩ s b : Nat) : Int)) ∧ w.grownBy w' none := by
  have hn3 : R.length ≤ 3000 := hG.n3
  have hL4 : 1 ≤ L ∧ L ≤ 4 := ⟨hG.l1, hG.l4⟩
  obtain ⟨bR, oR, bx, ox, cx, rfl, hr1, hr2⟩ := step_reads (l := b) h hG hs (by omega)
  obtain ⟨c0, c1, c2, c3, _⟩ := block_cells hB
  generalize Dfa.nx ⟨L, S, R, M⟩ s b = t at *
  have hsi : (s : Int) < (R.length : Int) := by omega
  have hbi : (b : Int) < (L.toNat : Int) := by omega
  simp only at c2
  clear hB h hG
  go_enter Try.func65, Try.ntmps65
  go_wp2_with fail
  go_ret
  exact ⟨rfl, grown_refl _ _⟩

set_option maxHeartbeats 1600000 in
set_option maxRecDepth 100000 in
theorem accepts1_any (L S : Int) (R : List (List Int)) (M : List Int) (a a' : Option Addr) (c c' bd s : Nat) (w : World) (hB : BoxAt w bd ⟨L, S, R, M⟩ a a' c c') (h : DetAt w ⟨L, S, R, M⟩ a a') (hG : Good ⟨L, S, R, M⟩) (hs : s < R.length) :
    Calls Try.prog 66 #[.int .i64 (s : Nat), .pointer (some ⟨bd, 0, none⟩)] w fun e w' => e = .returned (.bool (Dfa.mk1 ⟨L, S, R, M⟩ s)) ∧ w.grownBy w' none := by
  have hn3 : R.length ≤ 3000 := hG.n3
  have hml : M.length = R.length := hG.ml
  obtain ⟨bm, om, rfl, hr1⟩ := mark_reads h hG hs
  obtain ⟨c0, c1, c2, c3, _⟩ := block_cells hB
  have hbd : ((M.getD s 0) == 1) = Dfa.mk1 ⟨L, S, R, M⟩ s := by simp [Dfa.mk1]; rfl
  generalize Dfa.mk1 ⟨L, S, R, M⟩ s = bb at *
  generalize M.getD s 0 = x at *
  have hsi : (s : Int) < (M.length : Int) := by omega
  simp only at c3
  clear hB h hG hml
  go_enter Try.func66, Try.ntmps66
  go_wp2_with fail
  go_ret
  exact ⟨by simp, grown_refl _ _⟩

set_option maxHeartbeats 1600000 in
theorem goes_any (L S : Int) (R : List (List Int)) (M : List Int) (a a' : Option Addr) (c c' : Nat) (w : World) :
    Calls Try.prog 51 #[.agg #[.int .i64 L, .int .i64 S, .slice a R.length c, .slice a' M.length c']] w fun e w' => e = .returned (.func (.func 65) #[] #[.pointer (some ⟨w.heap.size, 0, none⟩)]) ∧ BoxAt w' w.heap.size ⟨L, S, R, M⟩ a a' c c' ∧ w.grownBy w' none := by
  have HB : Hid (BoxAt (w.alloc (.cells #[.int .i64 L, .int .i64 S, .slice a R.length c, .slice a' M.length c'] 36)) w.heap.size ⟨L, S, R, M⟩ a a' c c') := heap_alloc_new w _
  have hmf : ∀ (fn : Fn) (first cap : Array Value) (w : World), (Instr.makeFunc fn first cap).run Try.prog w = .ok (.func fn first cap) w := fun _ _ _ _ => rfl
  go_enter Try.func51, Try.ntmps51
  go_wp2_with fail
  go_ret
  exact ⟨rfl, HB.out, grown_alloc _ _⟩

set_option maxHeartbeats 1600000 in
theorem accepts_of_any (L S : Int) (R : List (List Int)) (M : List Int) (a a' : Option Addr) (c c' : Nat) (w : World) :
    Calls Try.prog 52 #[.agg #[.int .i64 L, .int .i64 S, .slice a R.length c, .slice a' M.length c']] w fun e w' => e = .returned (.func (.func 66) #[] #[.pointer (some ⟨w.heap.size, 0, none⟩)]) ∧ BoxAt w' w.heap.size ⟨L, S, R, M⟩ a a' c c' ∧ w.grownBy w' none := by
  have HB : Hid (BoxAt (w.alloc (.cells #[.int .i64 L, .int .i64 S, .slice a R.length c, .slice a' M.length c'] 36)) w.heap.size ⟨L, S, R, M⟩ a a' c c') := heap_alloc_new w _
  have hmf : ∀ (fn : Fn) (first cap : Array Value) (w : World), (Instr.makeFunc fn first cap).run Try.prog w = .ok (.func fn first cap) w := fun _ _ _ _ => rfl
  go_enter Try.func52, Try.ntmps52
  go_wp2_with fail
  go_ret
  exact ⟨rfl, HB.out, grown_alloc _ _⟩

/-- What least's functions read: the classes of the states, the states that stand for classes, the automaton. -/
structure ClsAt (w : World) (b1 b2 b3 : Nat) (d : Dfa) (a a' : Option Addr) (c c' : Nat) (cls one : List Nat) : Prop where
  box : BoxAt w b2 d a a' c c'
  det : DetAt w d a a'
  cl : ∃ x cx, w.cell? ⟨b1, 0, none⟩ = some (.slice x cls.length cx) ∧ Ints w x (natInts cls)
  on : ∃ x cx, w.cell? ⟨b3, 0, none⟩ = some (.slice x one.length cx) ∧ Ints w x (natInts one)
theorem ClsAt.kept {w w' : World} {b1 b2 b3 : Nat} {d : Dfa} {a a' : Option Addr} {c c' : Nat} {cls one : List Nat} (h : ClsAt w b1 b2 b3 d a a' c c' cls one) (hg : w.grownBy w' none) : ClsAt w' b1 b2 b3 d a a' c c' cls one := by
  obtain ⟨x, cx, h1, h2⟩ := h.cl
  obtain ⟨y, cy, h3, h4⟩ := h.on
  exact ⟨h.box.kept hg, h.det.grown hg, ⟨x, cx, hg.cell h1 (by simp), h2.grown hg⟩, ⟨y, cy, hg.cell h3 (by simp), h4.grown hg⟩⟩
theorem natInts_at {w : World} {x : Option Addr} {xs : List Nat} (h : Ints w x (natInts xs)) {i : Nat} (hi : i < xs.length) : ∃ b off, x = some ⟨b, off, none⟩ ∧ w.cell? ⟨b, off + i, none⟩ = some (.int .i64 ((xs.getD i 0 : Nat) : Int)) := by
  obtain ⟨b, off, e, hc⟩ := h.at (k := i) (by simpa using hi)
  refine ⟨b, off, e, ?_⟩
  have := hc i (by simpa using hi)
  rw [this]
  simp [List.getD, hi]

set_option maxHeartbeats 1600000 in
set_option maxRecDepth 100000 in
theorem least1_any (L S : Int) (R : List (List Int)) (M : List Int) (a a' : Option Addr) (c c' b1 b2 b3 q b : Nat) (cls one : List Nat) (w : World) (h : ClsAt w b1 b2 b3 ⟨L, S, R, M⟩ a a' c c' cls one) (hG : Good ⟨L, S, R, M⟩) (hcl : cls.length = R.length) (hol : one.length ≤ 3000) (hq : q < one.length) (ho : one.getD q 0 < R.length) (hb : b < L.toNat) :
    Calls Try.prog 54 #[.int .i64 (q : Nat), .int .i64 (b : Nat), .pointer (some ⟨b1, 0, none⟩), .pointer (some ⟨b2, 0, none⟩), .pointer (some ⟨b3, 0, none⟩)] w fun e w' => e = .returned (.int .i64 ((cls.getD (Dfa.nx ⟨L, S, R, M⟩ (one.getD q 0) b) 0 : Nat) : Int)) ∧ w.grownBy w' none := by
  have hn3 : R.length ≤ 3000 := hG.n3
  have hL4 : 1 ≤ L ∧ L ≤ 4 := ⟨hG.l1, hG.l4⟩
  obtain ⟨bR, oR, bx, ox, cx, rfl, hr1, hr2⟩ := step_reads (l := b) h.det hG ho (by omega)
  obtain ⟨_, _, c2, _, _⟩ := block_cells h.box
  have hnx : Dfa.nx ⟨L, S, R, M⟩ (one.getD q 0) b < cls.length := by rw [hcl]; exact hG.nx_lt ho hb
  obtain ⟨x, ccx, hx1, hx2⟩ := h.cl
  obtain ⟨y, ccy, hy1, hy2⟩ := h.on
  obtain ⟨bc, oc, rfl, hc1⟩ := natInts_at hx2 hnx
  obtain ⟨bo, oo, rfl, ho1⟩ := natInts_at hy2 hq
  generalize cls.getD (Dfa.nx ⟨L, S, R, M⟩ (one.getD q 0) b) 0 = res at *
  generalize Dfa.nx ⟨L, S, R, M⟩ (one.getD q 0) b = t at *
  generalize one.getD q 0 = s at *
  have hqi : (q : Int) < (one.length : Int) := by omega
  have hsi : (s : Int) < (R.length : Int) := by omega
  have hti : (t : Int) < (cls.length : Int) := by omega
  have hbi : (b : Int) < (L.toNat : Int) := by omega
  simp only at c2
  clear h hG hx2 hy2 hcl
  go_enter Try.func54, Try.ntmps54
  go_wp2_with fail
  go_quiet (fail)
  go_wp2_with fail
  go_ret
  exact ⟨rfl, grown_drewN (grown_refl _ _) _⟩

set_option maxHeartbeats 1600000 in
set_option maxRecDepth 100000 in
theorem least2_any (L S : Int) (R : List (List Int)) (M : List Int) (a a' : Option Addr) (c c' b1 b2 b3 q : Nat) (cls one : List Nat) (w : World) (h : ClsAt w b1 b2 b3 ⟨L, S, R, M⟩ a a' c c' cls one) (hG : Good ⟨L, S, R, M⟩) (hol : one.length ≤ 3000) (hq : q < one.length) (ho : one.getD q 0 < R.length) :
    Calls Try.prog 55 #[.int .i64 (q : Nat), .pointer (some ⟨b2, 0, none⟩), .pointer (some ⟨b3, 0, none⟩)] w fun e w' => e = .returned (.bool (Dfa.mk1 ⟨L, S, R, M⟩ (one.getD q 0))) ∧ w.grownBy w' none := by
  have hn3 : R.length ≤ 3000 := hG.n3
  have hml : M.length = R.length := hG.ml
  obtain ⟨bm, om, rfl, hr1⟩ := mark_reads h.det hG ho
  obtain ⟨_, _, _, c3, _⟩ := block_cells h.box
  obtain ⟨y, ccy, hy1, hy2⟩ := h.on
  obtain ⟨bo, oo, rfl, ho1⟩ := natInts_at hy2 hq
  have hbd : ((M.getD (one.getD q 0) 0) == 1) = Dfa.mk1 ⟨L, S, R, M⟩ (one.getD q 0) := by simp [Dfa.mk1]; rfl
  generalize Dfa.mk1 ⟨L, S, R, M⟩ (one.getD q 0) = bb at *
  generalize M.getD (one.getD q 0) 0 = x at *
  generalize one.getD q 0 = s at *
  have hqi : (q : Int) < (one.length : Int) := by omega
  have hsi : (s : Int) < (M.length : Int) := by omega
  simp only at c3
  clear h hG hy2 hml
  go_enter Try.func55, Try.ntmps55
  go_wp2_with fail
  go_quiet (fail)
  go_wp2_with fail
  go_ret
  exact ⟨by simp, grown_drewN (grown_refl _ _) _⟩

end Go.Proofs.Ytcgkflddipflbaa
