/- Kinds of states: the program's kinds. -/
import Derived.Test.YtodcmlcpicabaaaTlAlike
import Derived.Test.YtodcmlcpicabaaaTlM
namespace Go.Proofs.Ytodcmlcpicabaaa
open Go.RowKit
set_option linter.unusedVariables false
set_option linter.unusedSimpArgs false

/-- A block of n numbers. -/
def IRow (W : World) (g n : Nat) (f : Nat → Nat) : Prop := ∃ cur : Array Value, W.heap[g]? = some (.cells cur 3 (0, 0)) ∧ cur.size = n ∧ ∀ i, i < n → cur[i]? = some (.int .i64 ((f i : Nat) : Int))
section
variable {W W' : World} {g n : Nat} {f : Nat → Nat}
theorem IRow.lt (h : IRow W g n f) : g < W.heap.size := by obtain ⟨cur, h1, _⟩ := h; exact (Array.getElem?_eq_some_iff.1 h1).1
theorem IRow.cell (h : IRow W g n f) {i : Nat} (hi : i < n) : W.cell? ⟨g, i, none⟩ = some (.int .i64 ((f i : Nat) : Int)) := by
  obtain ⟨cur, h1, _, h3⟩ := h
  rw [cell_of_row W g i _ _ (0, 0) h1]; exact h3 i hi
theorem IRow.frozen (h : IRow W g n f) (i : Nat) : W.frozen? ⟨g, i, none⟩ = false := by
  obtain ⟨cur, h1, _⟩ := h
  exact frozen_of_row W g i _ _ h1
theorem IRow.block (h : IRow W g n f) (e : W'.heap[g]? = W.heap[g]?) : IRow W' g n f := by
  obtain ⟨cur, h1, h2⟩ := h
  exact ⟨cur, e.trans h1, h2⟩
theorem IRow.kept (h : IRow W g n f) (hg : W.grownBy W' none) : IRow W' g n f := h.block (hg.block g h.lt (by simp))
theorem IRow.set (h : IRow W g n f) {i : Nat} (hi : i < n) (b : Nat) : IRow (W.setCell ⟨g, i, none⟩ (.int .i64 (b : Int))) g n (fun j => if j = i then b else f j) := by
  obtain ⟨cur, h1, h2, h3⟩ := h
  refine ⟨cur.setIfInBounds i (.int .i64 (b : Int)), heap_setCell_same W g i _ _ _ h1, by simpa using h2, fun j hj => ?_⟩
  by_cases e : j = i
  · subst e; simp [h2, hj]
  · rw [Array.getElem?_setIfInBounds_ne (by omega)]
    show _ = some (Value.int .i64 (((if j = i then b else f j) : Nat) : Int))
    rw [if_neg e]; exact h3 j hj
theorem IRow.other (h : IRow W g n f) {g' i : Nat} (hne : g ≠ g') (v : Value) : IRow (W.setCell ⟨g', i, none⟩ v) g n f := h.block (Below.heap_setCell _ _ _ _ (by simpa using hne))
theorem IRow.ints (h : IRow W g n f) : Ints W (some ⟨g, 0, none⟩) (nsT ((List.range n).map f)) := .inr ⟨g, 0, rfl, fun i hi => by
  have hi' : i < n := by simpa [nsT] using hi
  rw [Nat.zero_add, h.cell hi']
  simp [nsT, List.getD, hi']⟩
end
theorem irow_make (w : World) (n : Nat) (hn : n ≤ 1000) : ∃ W, (Instr.makeSlice 22 (.int .i64 (n : Int)) (.int .i64 (n : Int))).run Try.prog w = .ok (.slice (some ⟨w.heap.size, 0, none⟩) n n) W ∧ IRow W w.heap.size n (fun _ => 0) ∧ w.grownBy W none ∧ W.heap.size = w.heap.size + 1 := by
  obtain ⟨i0, hi, hz0, hz1, hz2⟩ := info_partsY Try.infoI64Y
  have hmk := run_make (P := Try.prog) w 22 3 i0 (.int .i64 0) Try.underlying22 hi hz0 .i64 .i64 (n : Int) (n : Int) (by omega) (by omega) (by rw [hz2]; omega) (by omega)
  have hm0 : madeCells (Value.cells (.int .i64 0)) n = Array.replicate n (Value.int .i64 0) := by
    apply Array.ext'
    simpa [Value.cells] using toList_madeCells_one (.int .i64 0) n
  rw [hz1, Nat.mul_one, Int.toNat_natCast, hm0] at hmk
  refine ⟨_, hmk, ⟨_, heap_alloc_new _ _, ?_, ?_⟩, grown_alloc _ _, World.size_alloc _ _⟩
  · simp
  · intro i hi
    simp [hi]
def cellN (W : World) (g i : Nat) : Nat := match W.cell? ⟨g, i, none⟩ with | some (.int _ z) => z.toNat | _ => 0
theorem cellN_of {W : World} {g i j : Nat} (h : W.cell? ⟨g, i, none⟩ = some (.int .i64 (j : Int))) : cellN W g i = j := by unfold cellN; rw [h]; simp
def gOf : Value → Nat
  | .slice (some a) _ _ => a.block
  | _ => 0
theorem cntK_congr {k k' : Nat → Nat} (n : Nat) (h : ∀ i, i < n → k i = k' i) : cntK k n = cntK k' n := by
  induction n with
  | zero => rfl
  | succ n ih => unfold cntK; rw [ih (fun i hi => h i (by omega)), h n (by omega)]

/-- While the next kinds are written: the first s stand. -/
structure PartS (x : TrI) (I n : Nat) (W1 : World) (g g2 : Nat) (k : Nat → Nat) (s : Nat) (f : Nat → Nat) (W : World) : Prop where
  row : IRow W g2 n f
  old : IRow W g n k
  gr : W1.grownBy W none
  g1 : W1.heap.size ≤ g
  ne : g < g2
  done : ∀ i, i < s → f i ≤ i ∧ AlkF x I k (f i) i ∧ ∀ j, j < f i → ¬ AlkF x I k j i
  zero : ∀ i, s ≤ i → i < n → f i = 0
/-- And of the next one, the first j are not alike. -/
structure PartK (x : TrI) (I n : Nat) (W1 : World) (g g2 : Nat) (k : Nat → Nat) (s : Nat) (f : Nat → Nat) (j : Nat) (W : World) : Prop where
  row : IRow W g2 n f
  old : IRow W g n k
  gr : W1.grownBy W none
  g1 : W1.heap.size ≤ g
  ne : g < g2
  done : ∀ i, i < s → f i ≤ i ∧ AlkF x I k (f i) i ∧ ∀ j, j < f i → ¬ AlkF x I k j i
  zero : ∀ i, s < i → i < n → f i = 0
  fs : f s = j
  le : j ≤ s
  nt : ∀ i, i < j → ¬ AlkF x I k i s
section
variable {x : TrI} {I n : Nat} {W1 W W' : World} {g g2 s j : Nat} {k f : Nat → Nat}
theorem PartS.begin (h : PartS x I n W1 g g2 k s f W) (hs : s < n) : PartK x I n W1 g g2 k s f 0 W := ⟨h.row, h.old, h.gr, h.g1, h.ne, h.done, fun i h1 h2 => h.zero i (by omega) h2, h.zero s (Nat.le_refl _) hs, Nat.zero_le _, fun i hi => by omega⟩
theorem PartK.kept (h : PartK x I n W1 g g2 k s f j W) (hg : W.grownBy W' none) : PartK x I n W1 g g2 k s f j W' := ⟨h.row.kept hg, h.old.kept hg, grown_trans h.gr hg, h.g1, h.ne, h.done, h.zero, h.fs, h.le, h.nt⟩
theorem PartK.lt (h : PartK x I n W1 g g2 k s f j W) (ha : ¬ AlkF x I k j s) : j < s := by
  rcases Nat.lt_or_ge j s with h1 | h1
  · exact h1
  · have e : j = s := by have := h.le; omega
    subst e
    exact absurd AlkF.refl ha
theorem PartK.done' (h : PartK x I n W1 g g2 k s f j W) (ha : AlkF x I k j s) : PartS x I n W1 g g2 k (s + 1) f W := ⟨h.row, h.old, h.gr, h.g1, h.ne, fun i hi => by
  by_cases e : i = s
  · subst e; rw [h.fs]; exact ⟨h.le, ha, h.nt⟩
  · exact h.done i (by omega), fun i h1 h2 => h.zero i (by omega) h2⟩
theorem PartK.more (h : PartK x I n W1 g g2 k s f j W) (hs : s < n) (ha : ¬ AlkF x I k j s) : PartK x I n W1 g g2 k s (fun i => if i = s then j + 1 else f i) (j + 1) (W.setCell ⟨g2, s, none⟩ (.int .i64 ((j + 1 : Nat) : Int))) := by
  have hlt := h.lt ha
  refine ⟨h.row.set hs (j + 1), h.old.other (by have := h.ne; omega) _, ?_, h.g1, h.ne, fun i hi => ?_, fun i h1 h2 => ?_, by simp, by omega, fun i hi => ?_⟩
  · exact grown_of_below ((below_of_grown h.gr).grown (grown_set W ⟨g2, s, none⟩ _) h.gr.size (fun k hk => by cases hk; have := h.g1; have := h.ne; show _ ≤ g2; omega))
  · rw [if_neg (by omega)]; exact h.done i hi
  · rw [if_neg (by omega)]; exact h.zero i h1 h2
  · by_cases e : i = j
    · subst e; exact ha
    · exact h.nt i (by omega)
end

def SKn (bt : Nat) (I O S : Int) (a3 : Option Addr) (n3 c3 : Nat) (a4 : Option Addr) (n4 c4 : Nat) (a5 : Option Addr) (n5 c5 : Nat) (a6 : Option Addr) (n6 c6 : Nat) (g2 s j : Nat) (W : World) : Prop := Box7 W bt I O S a3 n3 c3 a4 n4 c4 a5 n5 c5 a6 n6 c6 ∧ W.cell? ⟨g2, s, none⟩ = some (.int .i64 (j : Int))
theorem SKn.kept {bt : Nat} {I O S : Int} {a3 : Option Addr} {n3 c3 : Nat} {a4 : Option Addr} {n4 c4 : Nat} {a5 : Option Addr} {n5 c5 : Nat} {a6 : Option Addr} {n6 c6 : Nat} {g2 s j : Nat} {W W' : World} (h : SKn bt I O S a3 n3 c3 a4 n4 c4 a5 n5 c5 a6 n6 c6 g2 s j W) (k : W.grownBy W' none) : SKn bt I O S a3 n3 c3 a4 n4 c4 a5 n5 c5 a6 n6 c6 g2 s j W' := ⟨h.1.grown k, k.cell h.2 (by simp)⟩
def KindsP (x : TrI) (I : Nat) (w : World) (e : Ending) (w' : World) : Prop := ∃ g k, e = .returned (.slice (some ⟨g, 0, none⟩) x.N.length x.N.length) ∧ KindIs x I x.N.length k ∧ IRow w' g x.N.length k ∧ w.grownBy w' none ∧ w.heap.size ≤ g

set_option maxHeartbeats 6400000 in
set_option maxRecDepth 100000 in
theorem kinds_any (x : TrI) (I m : Nat) (a3 a4 a5 a6 : Option Addr) (c3 c4 c5 c6 : Nat) (w : World) (h : TnAt w x a3 a4 a5 a6) (hr : ShpT x I m) (hxI : x.I = (I : Int)) (hm : m ≤ 900) (hI : I ≤ 4) (hN : x.N.length ≤ 1000) :
    Calls Try.prog 31 #[tnV x.I x.O x.S a3 x.F.length c3 a4 x.N.length c4 a5 x.Y.length c5 a6 x.E.length c6] w (KindsP x I w) := by
  obtain ⟨W1, hW1, g1, s1, bx⟩ := box7_new w x.I x.O x.S a3 x.F.length c3 a4 x.N.length c4 a5 x.Y.length c5 a6 x.E.length c6
  have HW1 : Hid (W1 = _) := hW1
  have G1 : Hid (w.grownBy W1 none) := g1
  have HT : Hid (TnAt w x a3 a4 a5 a6) := h
  have HR : Hid (ShpT x I m ∧ x.I = (I : Int)) := ⟨hr, hxI⟩
  have HNx : Hid (∀ s, s < x.N.length → ∀ l, l < I → nxT x s l < x.N.length) := fun s hs l hl => (hr.lt hs hl).1
  have HX : Hid (∀ W, W1.grownBy W none → Box7 W w.heap.size x.I x.O x.S a3 x.F.length c3 a4 x.N.length c4 a5 x.Y.length c5 a6 x.E.length c6) := fun W hW => bx.grown hW
  obtain ⟨W2, hmk, hr2, g2', s2⟩ := irow_make W1 x.N.length hN
  have H0 : Hid (IRow W2 W1.heap.size x.N.length (fun _ => 0) ∧ W1.grownBy W2 none) := ⟨hr2, g2'⟩
  obtain ⟨Po, hPo⟩ : ∃ P, P = KindsP x I w := ⟨_, rfl⟩
  have HP : Hid (∀ g k W, KindIs x I x.N.length k → IRow W g x.N.length k → W1.grownBy W none → W1.heap.size ≤ g → Po (.returned (.slice (some ⟨g, 0, none⟩) x.N.length x.N.length)) W) := fun g k W h1 h2 h3 h4 => by rw [hPo]; exact ⟨g, k, rfl, h1, h2, grown_trans G1.out h3, Nat.le_trans G1.out.size h4⟩
  have x4 := bx.b4
  rw [s1] at hmk
  have HS1 : Hid (W1.heap.size = w.heap.size + 1) := s1
  rw [hW1] at x4 hmk
  rw [← hPo]
  clear hW1 g1 s1 bx h hr hxI hr2 g2' s2 hPo
  go_enter Try.func31, Try.ntmps31
  go_wp2_with fail
  clear hmk x4
  go_loopw [3] (fun v W => ∃ (g : Nat) (k : Nat → Nat), v = .slice (some ⟨g, 0, none⟩) x.N.length x.N.length ∧ IRow W g x.N.length k ∧ KindSt x I x.N.length k ∧ W1.grownBy W none ∧ W1.heap.size ≤ g) (fun v W => x.N.length + 1 - cntK (cellN W (gOf v)) x.N.length)
  case atStart => exact ⟨w.heap.size + 1, fun _ => 0, rfl, by rw [← HS1.out]; exact H0.out.1, KindSt.start _ _ _, H0.out.2, by rw [HS1.out]; exact Nat.le_refl _⟩
  case round =>
    obtain ⟨wo, hwo⟩ : ∃ W, W = wr := ⟨_, rfl⟩
    subst hwo
    obtain ⟨g, k, rfl, hir, hks, hgr, hgg⟩ := hrel
    have HIR : Hid (IRow wo g x.N.length k ∧ KindSt x I x.N.length k ∧ W1.grownBy wo none ∧ W1.heap.size ≤ g) := ⟨hir, hks, hgr, hgg⟩
    obtain ⟨W3, hmk, hr3, g3, s3⟩ := irow_make wo x.N.length hN
    obtain ⟨g2, hg2⟩ : ∃ g2, wo.heap.size = g2 := ⟨_, rfl⟩
    rw [hg2] at hmk hr3
    have HPS : Hid (PartS x I x.N.length W1 g g2 k 0 (fun _ => 0) W3) := ⟨hr3, hir.kept g3, grown_trans hgr g3, hgg, by rw [← hg2]; exact hir.lt, (fun i hi => by omega), (fun i _ _ => rfl)⟩
    clear hir hks hgr hgg hr3 g3 s3 hg2
    go_wp2_with fail
    clear hmk
    go_loopw [15] (fun v W => ∃ (s : Nat) (f : Nat → Nat), s ≤ x.N.length ∧ v = .int .i64 (s : Int) ∧ PartS x I x.N.length W1 g g2 k s f W) (fun v _ => x.N.length - (intOf v).toNat)
    case atStart => exact ⟨0, _, Nat.zero_le _, rfl, HPS.out⟩
    case round =>
      clear HPS
      obtain ⟨wm, hwm⟩ : ∃ W, W = wr := ⟨_, rfl⟩
      subst hwm
      obtain ⟨s, f0, hs, rfl, hps⟩ := hrel
      have HPM : Hid (PartS x I x.N.length W1 g g2 k s f0 wm) := hps
      clear hps
      by_cases hsl : s < x.N.length
      · have is : (s : Int) < (x.N.length : Int) := by omega
        go_wp2_with fail
        go_loopw [26] (fun _ W => ∃ (f : Nat → Nat) (j : Nat), PartK x I x.N.length W1 g g2 k s f j W) (fun _ W => s + 1 - cellN W g2 s)
        case atStart => exact ⟨f0, 0, HPM.out.begin hsl⟩
        case round =>
          obtain ⟨wi, hwi⟩ : ∃ W, W = wr := ⟨_, rfl⟩
          subst hwi
          obtain ⟨f, j, hpk⟩ := hrel
          have HPK : Hid (PartK x I x.N.length W1 g g2 k s f j wi) := hpk
          have hjn : j < x.N.length := by have := hpk.le; omega
          have S0 : Hid (SKn w.heap.size x.I x.O x.S a3 x.F.length c3 a4 x.N.length c4 a5 x.Y.length c5 a6 x.E.length c6 g2 s j wi) := ⟨HX.out wi hpk.gr, by have := hpk.row.cell hsl; rwa [hpk.fs] at this⟩
          have CA : Hid (∀ W, wi.grownBy W none → Calls Try.prog 55 #[tnV x.I x.O x.S a3 x.F.length c3 a4 x.N.length c4 a5 x.Y.length c5 a6 x.E.length c6, .slice (some ⟨g, 0, none⟩) x.N.length x.N.length, .int .i64 (j : Int), .int .i64 (s : Int)] W (TellsB (AlkT x I (nsT ((List.range x.N.length).map k)) j s) W)) := fun W hW => alikeP_any x I m a3 a4 a5 a6 c3 c4 c5 c6 x.N.length _ _ j s W (HT.out.grown (grown_trans G1.out (grown_trans hpk.gr hW))) HR.out.1 HR.out.2 hm hI hN (hpk.old.kept hW).ints (by simp [nsT]) hjn hsl
          have HAK : Hid (AlkT x I (nsT ((List.range x.N.length).map k)) j s ↔ AlkF x I k j s) := by
            have hk : ∀ q, q < x.N.length → (nsT ((List.range x.N.length).map k)).getD q 0 = ((k q : Nat) : Int) := fun q hq => by simp [nsT, List.getD, hq]
            constructor
            · intro e
              refine ⟨fun l hl => ⟨?_, (e.1 l hl).2⟩, e.2⟩
              have := (e.1 l hl).1
              rw [hk _ (HNx.out j hjn l hl), hk _ (HNx.out s hsl l hl)] at this
              omega
            · intro e
              refine ⟨fun l hl => ⟨?_, (e.1 l hl).2⟩, e.2⟩
              rw [hk _ (HNx.out j hjn l hl), hk _ (HNx.out s hsl l hl), (e.1 l hl).1]
          clear hpk
          go_wp2_with fail
          refine wp_region_held_drew (S := SKn w.heap.size x.I x.O x.S a3 x.F.length c3 a4 x.N.length c4 a5 x.Y.length c5 a6 x.E.length c6 g2 s j) (by kernel_rfl) (S0.out.kept (grown_drew (grown_refl _ _))) (fun hHeld => ?_)
          refine wpAnyH_take (i := 0) (v := ?_) rfl (by kernel_rfl) (by kernel_rfl) (by kernel_rfl) (fun _ _ _ h => h) (Or.inl ⟨by rfl, ?_⟩) (by assumption) ?_
          rotate_left
          · intro W hSw
            obtain ⟨tt, tw⟩ := hSw
            have q0 := tt.b0
            have q1 := tt.b1
            have q2 := tt.b2
            have q3 := tt.b3
            have q4 := tt.b4
            have q5 := tt.b5
            have q6 := tt.b6
            go_simp
            with_reducible rfl
          try simp only [Act.put, List.getElem_toArray, List.getElem_cons_succ, List.getElem_cons_zero, List.setIfInBounds_toArray, List.set_cons_zero, List.set_cons_succ]
          refine wpAnyH_take (i := 1) (v := ?_) rfl (by kernel_rfl) (by kernel_rfl) (by kernel_rfl) (fun _ _ _ h => h) (Or.inl ⟨by rfl, ?_⟩) (by assumption) ?_
          rotate_left
          · intro W hSw
            obtain ⟨tt, tw⟩ := hSw
            have q0 := tt.b0
            have q1 := tt.b1
            have q2 := tt.b2
            have q3 := tt.b3
            have q4 := tt.b4
            have q5 := tt.b5
            have q6 := tt.b6
            go_simp
            with_reducible rfl
          try simp only [Act.put, List.getElem_toArray, List.getElem_cons_succ, List.getElem_cons_zero, List.setIfInBounds_toArray, List.set_cons_zero, List.set_cons_succ]
          refine wpAnyH_take (i := 2) (v := ?_) rfl (by kernel_rfl) (by kernel_rfl) (by kernel_rfl) (fun _ _ _ h => h) (Or.inl ⟨by rfl, ?_⟩) (by assumption) ?_
          rotate_left
          · intro W hSw
            obtain ⟨tt, tw⟩ := hSw
            have q0 := tt.b0
            have q1 := tt.b1
            have q2 := tt.b2
            have q3 := tt.b3
            have q4 := tt.b4
            have q5 := tt.b5
            have q6 := tt.b6
            go_simp
            with_reducible rfl
          try simp only [Act.put, List.getElem_toArray, List.getElem_cons_succ, List.getElem_cons_zero, List.setIfInBounds_toArray, List.set_cons_zero, List.set_cons_succ]
          refine wpAnyH_take (i := 3) (v := ?_) rfl (by kernel_rfl) (by kernel_rfl) (by kernel_rfl) (fun _ _ _ h => h) (Or.inl ⟨by rfl, ?_⟩) (by assumption) ?_
          rotate_left
          · intro W hSw
            obtain ⟨tt, tw⟩ := hSw
            have q0 := tt.b0
            have q1 := tt.b1
            have q2 := tt.b2
            have q3 := tt.b3
            have q4 := tt.b4
            have q5 := tt.b5
            have q6 := tt.b6
            go_simp
            with_reducible rfl
          try simp only [Act.put, List.getElem_toArray, List.getElem_cons_succ, List.getElem_cons_zero, List.setIfInBounds_toArray, List.set_cons_zero, List.set_cons_succ]
          refine wpAnyH_take (i := 4) (v := ?_) rfl (by kernel_rfl) (by kernel_rfl) (by kernel_rfl) (fun _ _ _ h => h) (Or.inl ⟨by rfl, ?_⟩) (by assumption) ?_
          rotate_left
          · intro W hSw
            obtain ⟨tt, tw⟩ := hSw
            have q0 := tt.b0
            have q1 := tt.b1
            have q2 := tt.b2
            have q3 := tt.b3
            have q4 := tt.b4
            have q5 := tt.b5
            have q6 := tt.b6
            go_simp
            with_reducible rfl
          try simp only [Act.put, List.getElem_toArray, List.getElem_cons_succ, List.getElem_cons_zero, List.setIfInBounds_toArray, List.set_cons_zero, List.set_cons_succ]
          refine wpAnyH_take (i := 5) (v := ?_) rfl (by kernel_rfl) (by kernel_rfl) (by kernel_rfl) (fun _ _ _ h => h) (Or.inl ⟨by rfl, ?_⟩) (by assumption) ?_
          rotate_left
          · intro W hSw
            obtain ⟨tt, tw⟩ := hSw
            have q0 := tt.b0
            have q1 := tt.b1
            have q2 := tt.b2
            have q3 := tt.b3
            have q4 := tt.b4
            have q5 := tt.b5
            have q6 := tt.b6
            go_simp
            with_reducible rfl
          try simp only [Act.put, List.getElem_toArray, List.getElem_cons_succ, List.getElem_cons_zero, List.setIfInBounds_toArray, List.set_cons_zero, List.set_cons_succ]
          refine wpAnyH_take (i := 6) (v := ?_) rfl (by kernel_rfl) (by kernel_rfl) (by kernel_rfl) (fun _ _ _ h => h) (Or.inl ⟨by rfl, ?_⟩) (by assumption) ?_
          rotate_left
          · intro W hSw
            obtain ⟨tt, tw⟩ := hSw
            have q0 := tt.b0
            have q1 := tt.b1
            have q2 := tt.b2
            have q3 := tt.b3
            have q4 := tt.b4
            have q5 := tt.b5
            have q6 := tt.b6
            go_simp
            with_reducible rfl
          try simp only [Act.put, List.getElem_toArray, List.getElem_cons_succ, List.getElem_cons_zero, List.setIfInBounds_toArray, List.set_cons_zero, List.set_cons_succ]
          refine wpAnyH_ready (rs := [7]) (by kernel_rfl) (by simp) ?_
          refine AllReadyH.cons (o := _) rfl (fun K' hK => ?_) ?_
          · go_simp
            refine (CA.out _ (grown_drew (grown_refl _ _))).mono ?_
            rintro E w6 ⟨bb, rfl, hbb, hg6⟩
            have HBB : Hid (bb = true ↔ AlkF x I k j s) := hbb.trans HAK.out
            have G6 : Hid (wi.grownBy w6 none) := grown_trans (grown_drew (grown_refl _ _)) hg6
            clear hbb
            go_wp2_with fail
            refine hK.out _ _ (hHeld.kept hg6) (fun hHeld => ?_)
            clear hK K'
            try simp only [Act.put, List.getElem_toArray, List.getElem_cons_succ, List.getElem_cons_zero, List.setIfInBounds_toArray, List.set_cons_zero, List.set_cons_succ]
            refine wpAnyH_take (i := 8) (v := ?_) rfl (by kernel_rfl) (by kernel_rfl) (by kernel_rfl) (fun _ _ _ h => h) (Or.inl ⟨by rfl, ?_⟩) (by assumption) ?_
            rotate_left
            · intro W hSw
              obtain ⟨tt, tw⟩ := hSw
              have q0 := tt.b0
              have q1 := tt.b1
              have q2 := tt.b2
              have q3 := tt.b3
              have q4 := tt.b4
              have q5 := tt.b5
              have q6 := tt.b6
              go_simp
              with_reducible rfl
            try simp only [Act.put, List.getElem_toArray, List.getElem_cons_succ, List.getElem_cons_zero, List.setIfInBounds_toArray, List.set_cons_zero, List.set_cons_succ]
            refine wpAnyH_done (by kernel_rfl) ?_ _
            have HI6 : Hid (PartK x I x.N.length W1 g g2 k s f j w6) := HPK.out.kept G6.out
            cases bb with
            | true =>
              have HN : Hid (∃ f', PartS x I x.N.length W1 g g2 k (s + 1) f' w6) := ⟨f, HI6.out.done' (HBB.out.1 rfl)⟩
              obtain ⟨f', hf'⟩ := HN.out
              have HF' : Hid (PartS x I x.N.length W1 g g2 k (s + 1) f' w6) := hf'
              clear hf' HN
              go_wp2_with fail
              go_roundw
              case rel => exact ⟨s + 1, f', by omega, by go_num, HF'.out⟩
              case measure => simp [intOf]; omega
            | false =>
              have HNA : Hid (¬ AlkF x I k j s) := fun e => by have := HBB.out.2 e; cases this
              have hjs : j < s := HI6.out.lt HNA.out
              have cc := HI6.out.row.cell hsl
              have fz := HI6.out.row.frozen s
              rw [HI6.out.fs] at cc
              have HN : Hid (PartK x I x.N.length W1 g g2 k s (fun i => if i = s then j + 1 else f i) (j + 1) (w6.setCell ⟨g2, s, none⟩ (.int .i64 ((j + 1 : Nat) : Int)))) := HI6.out.more hsl HNA.out
              have ej : ((j + 1 : Nat) : Int) = (j : Int) + 1 := by simp
              rw [ej] at HN
              have isn : (s : Int) < (x.N.length : Int) := by omega
              have wj : IntKind.i64.wrap ((j : Int) + 1) = (j : Int) + 1 := by rw [IntKind.wrap_i64]; omega
              go_wp2_with fail
              go_roundw
              case rel => exact ⟨_, j + 1, HN.out⟩
              case measure =>
                have h1 := HN.out.row.cell hsl
                have h2 := HPK.out.row.cell hsl
                rw [HN.out.fs] at h1
                rw [HPK.out.fs] at h2
                rw [cellN_of h1, cellN_of h2]
                omega
          exact AllReadyH.nil
      · have is : ¬ (s : Int) < (x.N.length : Int) := by omega
        have es : s = x.N.length := by omega
        subst es
        have hnx : NextK x I x.N.length k f0 := HPM.out.done
        have HE : Hid (∀ W, wm.grownBy W none → Calls Try.prog 56 #[.slice (some ⟨g2, 0, none⟩) x.N.length x.N.length, .slice (some ⟨g, 0, none⟩) x.N.length x.N.length] W (TellsB (nsT ((List.range x.N.length).map f0) = nsT ((List.range x.N.length).map k)) W)) := fun W hW => by
          have h1 := equalI_any (nsT ((List.range x.N.length).map f0)) (nsT ((List.range x.N.length).map k)) _ _ x.N.length x.N.length W (HPM.out.row.kept hW).ints (HPM.out.old.kept hW).ints (by simp [nsT]; omega) (by simp [nsT]; omega)
          have e1 : (nsT ((List.range x.N.length).map f0)).length = x.N.length := by simp [nsT]
          have e2 : (nsT ((List.range x.N.length).map k)).length = x.N.length := by simp [nsT]
          rwa [e1, e2] at h1
        have hsame : (nsT ((List.range x.N.length).map f0) = nsT ((List.range x.N.length).map k)) ↔ ∀ i, i < x.N.length → f0 i = k i := by
          constructor
          · intro e i hi
            have := congrArg (fun l => l.getD i 0) e
            simp [nsT, List.getD, hi] at this
            omega
          · intro e
            unfold nsT
            rw [List.map_map, List.map_map]
            exact List.map_congr_left fun i hi => by have := e i (by simpa using hi); simp [this]
        have HSM : Hid ((nsT ((List.range x.N.length).map f0) = nsT ((List.range x.N.length).map k)) ↔ ∀ i, i < x.N.length → f0 i = k i) := hsame
        have HNK : Hid (NextK x I x.N.length k f0) := hnx
        clear hsame hnx
        go_wp2_with fail
        refine (HE.out wm (grown_refl _ _)).mono ?_
        rintro E w7 ⟨bb, rfl, hbb, hg7⟩
        have HBB : Hid (bb = true ↔ ∀ i, i < x.N.length → f0 i = k i) := hbb.trans HSM.out
        have G7 : Hid (wm.grownBy w7 none) := hg7
        clear hbb hg7
        cases bb with
        | true =>
          have F : Hid (Po (.returned (.slice (some ⟨g, 0, none⟩) x.N.length x.N.length)) w7) := HP.out g k w7 (HIR.out.2.1.rest HNx.out HNK.out (HBB.out.1 rfl)) (HPM.out.old.kept G7.out) (grown_trans HPM.out.gr G7.out) HPM.out.g1
          go_wp2_with fail
          first | exact F.out | (go_ret; exact F.out)
        | false =>
          have HN : Hid (IRow w7 g2 x.N.length f0 ∧ KindSt x I x.N.length f0 ∧ W1.grownBy w7 none ∧ W1.heap.size ≤ g2) := ⟨HPM.out.row.kept G7.out, HIR.out.2.1.next HNx.out HNK.out, grown_trans HPM.out.gr G7.out, by have := HPM.out.g1; have := HPM.out.ne; omega⟩
          have HM : Hid (x.N.length + 1 - cntK (cellN w7 g2) x.N.length < x.N.length + 1 - cntK (cellN wo g) x.N.length) := by
            have h1 := HIR.out.2.1.less HNK.out (fun e => by have := HBB.out.2 e; cases this)
            have e1 := cntK_congr (k := cellN w7 g2) (k' := f0) x.N.length (fun i hi => cellN_of (HN.out.1.cell hi))
            have e2 := cntK_congr (k := cellN wo g) (k' := k) x.N.length (fun i hi => cellN_of (HIR.out.1.cell hi))
            have h3 := cntK_le f0 x.N.length
            show _ < _
            rw [e1, e2]
            omega
          go_wp2_with fail
          go_roundw
          case rel => exact ⟨g2, f0, rfl, HN.out⟩
          case measure => exact HM.out

end Go.Proofs.Ytodcmlcpicabaaa
