/- What a part tells of a word, from place to place, beside the expression itself. No program is in it. -/
/- Where words of a part can end, as the reference finds it: rows of truths in memory, and the parts that are looked up. -/
/- Where words of a part can end, as the reference finds it: the parts that hold no others. -/
import Derived.Test.YticmfgclkepgoaaRdr
import Derived.Test.YticmfgclkepgoaaRr3
import Derived.Laws.CopyOwn
namespace Go.Proofs.Yticmfgclkepgoaa
open Go.RowKit
set_option linter.unusedVariables false

/-- What a part tells of a word: from which place to which a word of it leads. -/
abbrev SenseT := List Int → Nat → Nat → Prop

def noneT : SenseT := fun _ _ _ => False
def emptyT : SenseT := fun _ i j => i = j
def letterT (c : Int) : SenseT := fun z i j => i < z.length ∧ z.getD i 0 = c ∧ j = i + 1
def eitherT (ms : List SenseT) : SenseT := fun z i j => ∃ k, k < ms.length ∧ ms.getD k noneT z i j
def rowT : List SenseT → SenseT
  | [] => emptyT
  | m :: ms => fun z i j => ∃ k, m z i k ∧ rowT ms z k j
inductive StarT (m : SenseT) (z : List Int) : Nat → Nat → Prop
  | here (i : Nat) : StarT m z i i
  | step {i k j : Nat} : m z i k → StarT m z k j → StarT m z i j
def starD (m : SenseT) : SenseT := StarT m

theorem StarT.trans {m : SenseT} {z : List Int} {i k j : Nat} (h : StarT m z i k) (h' : StarT m z k j) : StarT m z i j := by
  induction h with
  | here _ => exact h'
  | step a _ ih => exact .step a (ih h')

theorem starD_star (m : SenseT) : starD (starD m) = starD m := by
  funext z i j
  refine propext ⟨fun h => ?_, fun h => .step h (.here _)⟩
  induction h with
  | here _ => exact .here _
  | step a _ ih => exact StarT.trans a ih

theorem eitherT_one (m : SenseT) : eitherT [m] = m := by
  funext z i j
  refine propext ⟨?_, fun h => ⟨0, by simp, by simpa using h⟩⟩
  rintro ⟨k, hk, h⟩
  have : k = 0 := by simpa using hk
  subst this
  simpa using h

theorem rowT_one (m : SenseT) : rowT [m] = m := by
  funext z i j
  refine propext ⟨?_, fun h => ⟨j, h, rfl⟩⟩
  rintro ⟨k, h, rfl⟩
  exact h

theorem eitherT_nil : eitherT [] = noneT := by
  funext z i j
  refine propext ⟨?_, fun h => h.elim⟩
  rintro ⟨k, hk, _⟩
  simp at hk

def Ahead (m : SenseT) : Prop := ∀ z i j, i ≤ z.length → m z i j → i ≤ j ∧ j ≤ z.length
theorem rowT_snoc (ms : List SenseT) (m : SenseT) (z : List Int) (i j : Nat) : rowT (ms ++ [m]) z i j ↔ ∃ k, rowT ms z i k ∧ m z k j := by
  induction ms generalizing i with
  | nil =>
    constructor
    · rintro ⟨k, h, rfl⟩; exact ⟨i, rfl, h⟩
    · rintro ⟨k, rfl, h⟩; exact ⟨j, h, rfl⟩
  | cons a ms ih =>
    constructor
    · rintro ⟨k, h, h'⟩
      obtain ⟨q, h1, h2⟩ := (ih k).1 h'
      exact ⟨q, ⟨k, h, h1⟩, h2⟩
    · rintro ⟨q, ⟨k, h, h1⟩, h2⟩
      exact ⟨k, h, (ih k).2 ⟨q, h1, h2⟩⟩

theorem rowT_ahead {ms : List SenseT} (h : ∀ k, k < ms.length → Ahead (ms.getD k noneT)) : Ahead (rowT ms) := by
  induction ms with
  | nil => rintro z i j hi rfl; exact ⟨Nat.le_refl _, hi⟩
  | cons a ms ih =>
    rintro z i j hi ⟨k, h1, h2⟩
    have e1 := h 0 (by simp) z i k hi (by simpa using h1)
    have e2 := ih (fun q hq => by have := h (q + 1) (by simp; omega); simpa using this) z k j e1.2 h2
    omega

/-- The places themselves, so far. -/
def hereSo (t i : Nat) : Nat := if i < t then 2 ^ i else 0
theorem starD_ahead {m : SenseT} (h : Ahead m) : Ahead (starD m) := by
  intro z i j hi hs
  have hs' : StarT m z i j := hs
  induction hs' with
  | here i => exact ⟨Nat.le_refl _, hi⟩
  | step a hr ih =>
    have h1 := h _ _ _ hi a
    have h2 := ih h1.2 hr
    omega

end Go.Proofs.Yticmfgclkepgoaa

namespace Go.Proofs.Yticmfgclkepgoaa
open Go.RowKit
set_option linter.unusedVariables false

theorem Try.infoB : (Try.prog.info? 4).map (fun i => (i.zero, i.size, i.bytes)) = some (some (.bool false), 1, 1) := by kernel_rfl

theorem madeFalse (n : Nat) : madeCells (Value.cells (.bool false)) n = Array.replicate n (Value.bool false) := by
  apply Array.ext'
  simpa [Value.cells] using toList_madeCells_one (.bool false) n

/-- A row of N truths lies in block g. -/
def BAt (w : World) (g : Nat) (h : Nat → Bool) (N : Nat) : Prop := w.heap[g]? = some (.cells ((List.range N).map fun i => Value.bool (h i)).toArray 4 (0, 0))

section
variable {w w' : World} {g N : Nat} {h : Nat → Bool}
theorem BAt.lt (a : BAt w g h N) : g < w.heap.size := (Array.getElem?_eq_some_iff.1 a).1
theorem BAt.cell (a : BAt w g h N) {i : Nat} (hi : i < N) : w.cell? ⟨g, i, none⟩ = some (.bool (h i)) := by
  rw [cell_of_row w g i _ _ (0, 0) a]; simp [hi]
theorem BAt.fz (a : BAt w g h N) (i : Nat) : w.frozen? ⟨g, i, none⟩ = false := frozen_of_row w g i _ _ a
theorem BAt.kept {row : Option Nat} (a : BAt w g h N) (hg : w.grownBy w' row) (hne : row ≠ some g) : BAt w' g h N := (hg.block g a.lt (Ne.symm hne)).trans a
theorem BAt.ext {h' : Nat → Bool} (a : BAt w g h N) (e : ∀ i, i < N → h i = h' i) : BAt w g h' N := by
  unfold BAt at a ⊢
  rw [a]
  congr 2
  apply Array.ext'
  apply List.ext_getElem?
  intro k
  by_cases hk : k < N
  · simp [hk, e k hk]
  · simp [hk]
theorem BAt.set (a : BAt w g h N) (i : Nat) (y : Bool) : BAt (w.setCell ⟨g, i, none⟩ (.bool y)) g (fun k => if k = i then y else h k) N := by
  unfold BAt at a ⊢
  rw [heap_setCell_same w g i _ _ _ a]
  congr 2
  apply Array.ext'
  apply List.ext_getElem?
  intro k
  simp only [Array.toList_setIfInBounds, List.getElem?_set, List.getElem?_map, List.length_map, List.length_range]
  by_cases hk : k < N
  · by_cases hik : i = k
    · subst hik; simp [hk]
    · have : ¬ k = i := fun e => hik e.symm
      simp [hk, hik, this]
  · by_cases hik : i = k
    · subst hik; simp [hk]
    · simp [hk, hik]
theorem BAt.made (w : World) (N : Nat) : BAt (w.alloc (.cells (Array.replicate N (Value.bool false)) 4)) w.heap.size (fun _ => false) N := by
  have := heap_alloc_new w (.cells (Array.replicate N (Value.bool false)) 4)
  unfold BAt
  rw [this]
  congr 2
  apply Array.ext'
  simp [List.map_const']
end

set_option maxRecDepth 100000 in
/-- The row h at gf is copied over the row at g. -/
theorem bcopy {w : World} {g gf N : Nat} {h0 h : Nat → Bool} (a : BAt w g h0 N) (f : BAt w gf h N) (hN : N ≤ 61) :
    ∃ W', (Builtin.copy_ #[52, 52] 3 #[.slice (some ⟨g, 0, none⟩) N N, .slice (some ⟨gf, 0, none⟩) N N]).run Try.prog w = .ok (goInt N) W' ∧ Hid (BAt W' g h N) ∧ Hid (w.grownBy W' (some g)) := by
  obtain ⟨i0, hi, hz0, hz1, hz2⟩ := info_parts Try.infoB
  have hsz : (Try.prog.info? 4).map (·.size) = some 1 := by rw [hi]; simp [hz1]
  have hsrc : ∀ j v, ((List.range N).map fun i => Value.bool (h i))[j]? = some v → w.cell? ((⟨gf, 0, none⟩ : Addr).add j) = some v := by
    intro j v hv
    have hj : j < N := by
      have := (List.getElem?_eq_some_iff.1 hv).1
      simpa using this
    have hadd : (⟨gf, 0, none⟩ : Addr).add j = ⟨gf, j, none⟩ := by
      by_cases h0 : j = 0
      · subst h0; simp [Addr.add]
      · simp [Addr.add, h0]
    rw [hadd, f.cell hj]
    simpa [hj] using hv
  have hrun := run_copy_row Try.prog w 52 52 3 4 g 0 N N ⟨gf, 0, none⟩ N N _ 4 ((List.range N).map fun i => Value.bool (h i)) Try.underlying52 hsz a (by simp) hsrc (by simp) (by intro v hv; simp at hv; obtain ⟨x, _, rfl⟩ := hv; rfl)
  have hlen : goInt (((List.range N).map fun i => Value.bool (h i)).length : Nat) = goInt (N : Nat) := by simp
  rw [hlen] at hrun
  refine ⟨_, hrun, ?_, ?_⟩
  · show BAt _ g h N
    have := setRow_heap w g _ (((List.range N).map fun i => Value.bool (h0 i)).toArray.toList.take 0 ++ ((List.range N).map fun i => Value.bool (h i)) ++ ((List.range N).map fun i => Value.bool (h0 i)).toArray.toList.drop (0 + ((List.range N).map fun i => Value.bool (h i)).length)).toArray 4 (0, 0) a
    unfold BAt
    rw [this]
    congr 2
    apply Array.ext'
    simp
  · show w.grownBy _ (some g)
    exact ⟨rfl, rfl, rfl, by simp [World.setRow], fun k hk hr => by simp [World.setRow, Array.getElem?_modify]; intro e; simp at hr; omega⟩

/-- The parts lie at L. -/
structure PL (w : World) (L : Value) (ps : List PartR) : Prop where
  own : w.ownsRow 0 67 3 L ps.length (flat ps)
  at_ : ∀ p ∈ ps, KidsAt (fun _ => True) w p

theorem PL.kept {w w' : World} {L : Value} {ps : List PartR} (h : PL w L ps) (hg : w.grownBy w' none) : PL w' L ps :=
  ⟨h.own.kept hg (by cases L.ownBlock <;> simp), fun p hp => (h.at_ p hp).kept fun g _ hlt => ⟨trivial, hg.block g hlt (by simp)⟩⟩

theorem flat_get {ps : List PartR} {k : Nat} {p : PartR} (h : ps[k]? = some p) : (flat ps)[3 * k]? = some (.int .i64 p.kind) ∧ (flat ps)[3 * k + 1]? = some (.int .i64 p.let_) ∧ (flat ps)[3 * k + 2]? = some p.kv := by
  induction ps generalizing k with
  | nil => simp at h
  | cons q ps ih =>
    cases k with
    | zero => simp at h; subst h; exact ⟨rfl, rfl, rfl⟩
    | succ k =>
      have := ih (k := k) (by simpa using h)
      simp only [flat, List.flatMap_cons] at this ⊢
      have e : ∀ r, ([Value.int .i64 q.kind, .int .i64 q.let_, q.kv] ++ List.flatMap (fun p => [Value.int .i64 p.kind, .int .i64 p.let_, p.kv]) ps)[3 * (k + 1) + r]? = (List.flatMap (fun p => [Value.int .i64 p.kind, .int .i64 p.let_, p.kv]) ps)[3 * k + r]? := by
        intro r
        rw [List.getElem?_append_right (by simp; omega)]
        congr 1
        simp; omega
      exact ⟨(e 0).trans this.1, (e 1).trans this.2.1, (e 2).trans this.2.2⟩

/-- What is read at a part's number. -/
theorem PL.get {w : World} {L : Value} {ps : List PartR} (h : PL w L ps) {k : Nat} {p : PartR} (hk : ps[k]? = some p) :
    ∃ g cap, L = .slice (some ⟨g, 0, none⟩) ps.length cap ∧ w.cell? ⟨g, k * 3, none⟩ = some (.int .i64 p.kind) ∧ w.cell? ⟨g, k * 3 + 1, none⟩ = some (.int .i64 p.let_) ∧ w.cell? ⟨g, k * 3 + 2, none⟩ = some p.kv := by
  have hlt := (List.getElem?_eq_some_iff.1 hk).1
  obtain ⟨g, cap, rfl, _, _⟩ := h.own.form (by omega)
  have hc : ∀ j u, (flat ps)[j]? = some u → w.cell? ⟨g, j, none⟩ = some u := by
    intro j u hu
    have := h.own.cells (g := g) rfl j u hu
    have hadd : (⟨g, 0, none⟩ : Addr).add j = ⟨g, j, none⟩ := by
      by_cases h0 : j = 0
      · subst h0; simp [Addr.add]
      · simp [Addr.add, h0]
    rwa [hadd] at this
  obtain ⟨f1, f2, f3⟩ := flat_get hk
  rw [Nat.mul_comm] at f1 f2 f3
  exact ⟨g, cap, rfl, hc _ _ f1, hc _ _ f2, hc _ _ f3⟩

/-- What 'ends' leaves behind. -/
def Ended (z : List Int) (N : Nat) (w : World) (m : SenseT) (h : Nat → Bool) (e : Ending) (w' : World) : Prop :=
  ∃ g h', e = .returned (.slice (some ⟨g, 0, none⟩) N N) ∧ BAt w' g h' N ∧ w.heap.size ≤ g ∧ w.grownBy w' none ∧ ∀ j, j < N → (h' j = true ↔ ∃ i, i < N ∧ h i = true ∧ m z i j)

theorem bmake (w : World) (N : Nat) (hN : N ≤ 61) : (Instr.makeSlice 52 (.int .i64 (N : Int)) (.int .i64 (N : Int))).run Try.prog w = .ok (.slice (some ⟨w.heap.size, 0, none⟩) N N) (w.alloc (.cells (Array.replicate N (Value.bool false)) 4)) := by
  obtain ⟨i0, hi, hz0, hz1, hz2⟩ := info_parts Try.infoB
  have hmk := run_make (P := Try.prog) w 52 4 i0 (.bool false) Try.underlying52 hi hz0 .i64 .i64 (N : Int) (N : Int) (by omega) (by omega) (by rw [hz2]; omega) (by omega)
  rw [hz1, Nat.mul_one, Int.toNat_natCast, madeFalse] at hmk
  exact hmk

end Go.Proofs.Yticmfgclkepgoaa

namespace Go.Proofs.Yticmfgclkepgoaa
open Go.RowKit
set_option linter.unusedVariables false

set_option maxHeartbeats 800000 in
set_option maxRecDepth 100000 in
theorem ends_none (ps : List PartR) (L : Value) (k : Nat) (p : PartR) (hk : ps[k]? = some p) (hkind : p.kind = 0) (a : Option Addr) (cap : Nat) (z : List Int) (N : Nat) (hN : N = z.length + 1) (hn : z.length ≤ 60) (gf : Nat) (h : Nat → Bool) (W : World) (hL : PL W L ps) (hps : ps.length ≤ 13000) :
    Calls Try.prog 20 #[L, .int .i64 k, .slice a z.length cap, .slice (some ⟨gf, 0, none⟩) N N] W (Ended z N W noneT h) := by
  obtain ⟨g, capL, rfl, c0, c1, c2⟩ := hL.get hk
  have hlt := (List.getElem?_eq_some_iff.1 hk).1
  have hlt' : (k : Int) < (ps.length : Int) := by omega
  have HN : Hid (N = z.length + 1) := hN
  have hN1 : z.length < N := by omega
  have hN2 : N ≤ 61 := by omega
  have hN3 : (N : Int) ≤ 61 := by omega
  obtain ⟨q0, q1, q2, hkv⟩ := (hL.at_ p (List.mem_of_getElem? hk)).1
  rw [hkind] at c0
  rw [hkv] at c2
  have hmk := bmake (W.alloc (.cells #[.int .i64 0, .int .i64 p.let_, .slice q0 q1 q2] 67)) N hN2
  have G1 : Hid (W.grownBy ((W.alloc (.cells #[.int .i64 0, .int .i64 p.let_, .slice q0 q1 q2] 67)).alloc (.cells (Array.replicate N (Value.bool false)) 4)) none) := grown_trans (World.grownBy_alloc _ _ _) (World.grownBy_alloc _ _ _)
  have B1 : Hid (BAt ((W.alloc (.cells #[.int .i64 0, .int .i64 p.let_, .slice q0 q1 q2] 67)).alloc (.cells (Array.replicate N (Value.bool false)) 4)) (W.heap.size + 1) (fun _ => false) N) := by
    have := BAt.made (W.alloc (.cells #[.int .i64 0, .int .i64 p.let_, .slice q0 q1 q2] 67)) N
    have e : (W.alloc (.cells #[.int .i64 0, .int .i64 p.let_, .slice q0 q1 q2] 67)).heap.size = W.heap.size + 1 := by simp
    rw [e] at this
    exact this
  have E : Hid (Ended z N W noneT h (.returned (.slice (some ⟨W.heap.size + 1, 0, none⟩) N N)) ((W.alloc (.cells #[.int .i64 0, .int .i64 p.let_, .slice q0 q1 q2] 67)).alloc (.cells (Array.replicate N (Value.bool false)) 4))) :=
    ⟨_, _, rfl, B1.out, by omega, G1.out, fun j hj => by simp [noneT]⟩
  clear hkv hL hk B1 G1 hN
  go_enter Try.func20, Try.ntmps20
  go_wp2_with fail
  go_ret
  exact E.out

set_option maxHeartbeats 800000 in
set_option maxRecDepth 100000 in
theorem ends_empty (ps : List PartR) (L : Value) (k : Nat) (p : PartR) (hk : ps[k]? = some p) (hkind : p.kind = 1) (a : Option Addr) (cap : Nat) (z : List Int) (N : Nat) (hN : N = z.length + 1) (hn : z.length ≤ 60) (gf : Nat) (h : Nat → Bool) (W : World) (hL : PL W L ps) (hps : ps.length ≤ 13000) (hf : BAt W gf h N) :
    Calls Try.prog 20 #[L, .int .i64 k, .slice a z.length cap, .slice (some ⟨gf, 0, none⟩) N N] W (Ended z N W emptyT h) := by
  obtain ⟨g, capL, rfl, c0, c1, c2⟩ := hL.get hk
  have hlt := (List.getElem?_eq_some_iff.1 hk).1
  have hlt' : (k : Int) < (ps.length : Int) := by omega
  have HN : Hid (N = z.length + 1) := hN
  have hN1 : z.length < N := by omega
  have hN2 : N ≤ 61 := by omega
  have hN3 : (N : Int) ≤ 61 := by omega
  obtain ⟨q0, q1, q2, hkv⟩ := (hL.at_ p (List.mem_of_getElem? hk)).1
  rw [hkind] at c0
  rw [hkv] at c2
  have hmk := bmake (W.alloc (.cells #[.int .i64 1, .int .i64 p.let_, .slice q0 q1 q2] 67)) N hN2
  have G1 : Hid (W.grownBy ((W.alloc (.cells #[.int .i64 1, .int .i64 p.let_, .slice q0 q1 q2] 67)).alloc (.cells (Array.replicate N (Value.bool false)) 4)) none) := grown_trans (World.grownBy_alloc _ _ _) (World.grownBy_alloc _ _ _)
  have B1 : Hid (BAt ((W.alloc (.cells #[.int .i64 1, .int .i64 p.let_, .slice q0 q1 q2] 67)).alloc (.cells (Array.replicate N (Value.bool false)) 4)) (W.heap.size + 1) (fun _ => false) N) := by
    have := BAt.made (W.alloc (.cells #[.int .i64 1, .int .i64 p.let_, .slice q0 q1 q2] 67)) N
    have e : (W.alloc (.cells #[.int .i64 1, .int .i64 p.let_, .slice q0 q1 q2] 67)).heap.size = W.heap.size + 1 := by simp
    rw [e] at this
    exact this
  have F1 := hf.kept G1.out (by simp)
  obtain ⟨W', hcp, HB, HG⟩ := bcopy B1.out F1 hN2
  have E : Hid (Ended z N W emptyT h (.returned (.slice (some ⟨W.heap.size + 1, 0, none⟩) N N)) W') :=
    ⟨_, _, rfl, HB.out, by omega, grown_new G1.out HG.out (by omega), fun j hj => by simp [emptyT]; intro _; omega⟩
  clear hkv hL hk B1 G1 hN F1 HB HG hf
  go_enter Try.func20, Try.ntmps20
  go_wp2_with fail
  go_ret
  exact E.out

set_option maxHeartbeats 1600000 in
set_option maxRecDepth 100000 in
theorem ends_letter (ps : List PartR) (L : Value) (k : Nat) (p : PartR) (hk : ps[k]? = some p) (hkind : p.kind = 2) (a : Option Addr) (cap : Nat) (z : List Int) (N : Nat) (hN : N = z.length + 1) (hn : z.length ≤ 60) (gf : Nat) (h : Nat → Bool) (W : World) (hL : PL W L ps) (hps : ps.length ≤ 13000) (hf : BAt W gf h N) (hz : Ints W a z) :
    Calls Try.prog 20 #[L, .int .i64 k, .slice a z.length cap, .slice (some ⟨gf, 0, none⟩) N N] W (Ended z N W (letterT p.let_) h) := by
  obtain ⟨g, capL, rfl, c0, c1, c2⟩ := hL.get hk
  have hlt := (List.getElem?_eq_some_iff.1 hk).1
  have hlt' : (k : Int) < (ps.length : Int) := by omega
  have HN : Hid (N = z.length + 1) := hN
  have hN1 : z.length < N := by omega
  have hN2 : N ≤ 61 := by omega
  have hN3 : (N : Int) ≤ 61 := by omega
  obtain ⟨q0, q1, q2, hkv⟩ := (hL.at_ p (List.mem_of_getElem? hk)).1
  rw [hkind] at c0
  rw [hkv] at c2
  have hmk := bmake (W.alloc (.cells #[.int .i64 2, .int .i64 p.let_, .slice q0 q1 q2] 67)) N hN2
  have G1 : Hid (W.grownBy ((W.alloc (.cells #[.int .i64 2, .int .i64 p.let_, .slice q0 q1 q2] 67)).alloc (.cells (Array.replicate N (Value.bool false)) 4)) none) := grown_trans (World.grownBy_alloc _ _ _) (World.grownBy_alloc _ _ _)
  have B1 : Hid (BAt ((W.alloc (.cells #[.int .i64 2, .int .i64 p.let_, .slice q0 q1 q2] 67)).alloc (.cells (Array.replicate N (Value.bool false)) 4)) (W.heap.size + 1) (fun _ => false) N) := by
    have := BAt.made (W.alloc (.cells #[.int .i64 2, .int .i64 p.let_, .slice q0 q1 q2] 67)) N
    have e : (W.alloc (.cells #[.int .i64 2, .int .i64 p.let_, .slice q0 q1 q2] 67)).heap.size = W.heap.size + 1 := by simp
    rw [e] at this
    exact this
  have F1 : Hid (BAt W gf h N) := hf
  have HZ : Hid (Ints W a z) := hz
  have D1 : Hid (((W.alloc (.cells #[.int .i64 2, .int .i64 p.let_, .slice q0 q1 q2] 67)).alloc (.cells (Array.replicate N (Value.bool false)) 4)).cell? ⟨W.heap.size, 1, none⟩ = some (.int .i64 p.let_)) := by
    show World.cell? _ _ = _
    rw [World.cell?_alloc_lt _ _ _ (by simp)]
    simp
  clear hkv hL hk hN hf hz
  generalize p.let_ = c at *
  go_enter Try.func20, Try.ntmps20
  go_wp2_with fail
  go_loopw [11] (fun v wr => ∃ t : Nat, v = .int .i64 t ∧ t ≤ z.length ∧ BAt wr (W.heap.size + 1) (fun j => decide (0 < j ∧ j ≤ t) && h (j - 1) && decide (z.getD (j - 1) 0 = c)) N ∧ W.grownBy wr none ∧ wr.cell? ⟨W.heap.size, 1, none⟩ = some (.int .i64 c)) (fun v _ => z.length - (intOf v).toNat)
  case atStart => exact ⟨0, rfl, by omega, B1.out.ext (fun i hi => by simp; omega), G1.out, D1.out⟩
  case round =>
    clear B1 G1 D1
    obtain ⟨t, rfl, ht, hb, hg, hd⟩ := hrel
    by_cases hlt2 : t < z.length
    · obtain ⟨b, off, rfl, hc⟩ := (HZ.out.grown hg).at hlt2
      have hck := hc t hlt2
      clear hc
      have fc := (F1.out.kept hg (by simp)).cell (i := t) (by omega)
      have ff := (F1.out.kept hg (by simp)).fz t
      have oc := hb.cell (i := t + 1) (by omega)
      have ofz := hb.fz (t + 1)
      have ht1 : (t : Int) + 1 < (N : Int) := by omega
      have ht2 : (t : Int) < (N : Int) := by omega
      have B2 : Hid (∀ y : Bool, y = (h t && decide (z.getD t 0 = c)) → BAt ((wr.setCell ⟨W.heap.size + 1, t + 1, none⟩ (.bool y)).drew) (W.heap.size + 1) (fun j => decide (0 < j ∧ j ≤ t + 1) && h (j - 1) && decide (z.getD (j - 1) 0 = c)) N) := by
        intro y hy
        refine (hb.set (t + 1) y).ext fun i hi => ?_
        by_cases hit : i = t + 1
        · subst hit
          rw [if_pos rfl, hy]
          simp
        · rw [if_neg hit]
          have : (0 < i ∧ i ≤ t + 1) ↔ (0 < i ∧ i ≤ t) := by omega
          simp only [this]
      have G2 : Hid (∀ y : Bool, W.grownBy ((wr.setCell ⟨W.heap.size + 1, t + 1, none⟩ (.bool y)).drew) none) := fun y => grown_drew (grown_new hg (grown_set _ _ _) (by simp))
      have D2 : Hid (∀ y : Bool, ((wr.setCell ⟨W.heap.size + 1, t + 1, none⟩ (.bool y)).drew).cell? ⟨W.heap.size, 1, none⟩ = some (.int .i64 c)) := fun y => by
        have : (wr.setCell ⟨W.heap.size + 1, t + 1, none⟩ (.bool y)).cell? ⟨W.heap.size, 1, none⟩ = some (.int .i64 c) := (grown_set wr ⟨W.heap.size + 1, t + 1, none⟩ (.bool y)).cell hd (by simp)
        exact this
      generalize (fun j => decide (0 < j ∧ j ≤ t) && h (j - 1) && decide (z.getD (j - 1) 0 = c)) (t + 1) = yo at oc
      generalize hzt : z.getD t 0 = x at *
      generalize hht : h t = y0 at *
      have HX : Hid (z.getD t 0 = x) := hzt
      clear hb hg hzt hht
      cases y0 with
      | false =>
        go_wp2_with fail
        go_region
        all_goals
          go_wp2_with fail
          go_roundw
          case rel => exact ⟨t + 1, by go_num, by omega, B2.out false (by simp), G2.out _, D2.out _⟩
          case measure => simp [intOf]; omega
      | true =>
        go_wp2_with fail
        go_region
        all_goals
          go_wp2_with fail
          go_roundw
          case rel => exact ⟨t + 1, by go_num, by omega, B2.out (x == c) (by rw [Bool.true_and]; exact Bool.eq_iff_iff.2 (by simp)), G2.out _, D2.out _⟩
          case measure => simp [intOf]; omega
    · have E : Hid (Ended z N W (letterT c) h (.returned (.slice (some ⟨W.heap.size + 1, 0, none⟩) N N)) wr) := by
        refine ⟨_, _, rfl, hb, by omega, hg, fun j hj => ?_⟩
        have htt : t = z.length := by omega
        simp only [Bool.and_eq_true, decide_eq_true_eq, letterT]
        constructor
        · rintro ⟨⟨h1, h2⟩, h3⟩
          exact ⟨j - 1, by omega, h2, by omega, h3, by omega⟩
        · rintro ⟨i, h1, h2, h3, h4, rfl⟩
          exact ⟨⟨⟨by omega, by omega⟩, by simpa using h2⟩, by simpa using h4⟩
      clear hb hg
      go_wp2_with fail
      go_ret
      exact E.out

end Go.Proofs.Yticmfgclkepgoaa
