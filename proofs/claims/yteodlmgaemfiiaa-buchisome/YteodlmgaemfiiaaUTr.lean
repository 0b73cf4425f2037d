/- buchi.trails: what holds while it goes. -/
/- buchi.trails, walked. -/
import Derived.Test.YteodlmgaemfiiaaUFromW
import Derived.Test.YteodlmgaemfiiaaURoundD
namespace Go.Proofs.Yteodlmgaemfiiaa
open Go.RowKit
set_option linter.unusedVariables false

theorem Try.infoTr : (Try.prog.info? 118).map (fun i => (i.zero, i.size, i.bytes)) = some (some (.agg #[.int .i64 0, .int .i64 0, .int .i64 0]), 3, 24) := by kernel_rfl
/-- A trail's numbers. -/
def tri (t : Trl) : StepI := ((t.st : Int), t.fr, (t.lt : Int))
def laterS (bs : List Nat) (tr : List Trl) : List Nat := (tr.drop bs.length).map Trl.st
/-- What holds while trails are laid. -/
structure TrSt (T : List StepI) (bs : List Nat) (n : Nat) (tr : List Trl) (s : Nat) : Prop where
  ta : TrAt T bs tr
  nd : (laterS bs tr).Nodup
  cm : ∀ q, s.testBit q = true ↔ q ∈ laterS bs tr
  lt : ∀ q, q ∈ laterS bs tr → q < n
  all : ∀ (i : Nat) (t : Trl), tr[i]? = some t → t.st < n
/-- The first i trails are gone on from. -/
def Gone (T : List StepI) (bs : List Nat) (tr : List Trl) (i : Nat) : Prop := ∀ (k : Nat) (t : Trl), k < i → tr[k]? = some t → ∀ x, x ∈ fromT T t.st → x.2.2.toNat ∈ laterS bs tr
section
variable {T : List StepI} {bs : List Nat} {n : Nat} {tr : List Trl} {s : Nat}
theorem TrSt.len (h : TrSt T bs n tr s) : tr.length ≤ bs.length + n := by
  have h1 := nodup_le n (laterS bs tr) h.nd h.lt
  unfold laterS at h1
  rw [List.length_map, List.length_drop] at h1
  omega
theorem TrSt.start (hb : ∀ b, b ∈ bs → b < n) : TrSt T bs n (bs.map fun b => ⟨b, -1, 0⟩) 0 := by
  have e : laterS bs (bs.map fun b => (⟨b, -1, 0⟩ : Trl)) = [] := by unfold laterS; rw [List.drop_eq_nil_of_le (by simp)]; rfl
  refine ⟨⟨fun i hi => ?_, fun i t hi ht => ?_⟩, by rw [e]; exact List.nodup_nil, fun q => by rw [e]; simp, fun q hq => by rw [e] at hq; simp at hq, fun i t ht => ?_⟩
  · rw [List.getElem?_map, List.getElem?_eq_getElem hi]
    simp [List.getD, hi]
  · have := (List.getElem?_eq_some_iff.1 ht).1
    rw [List.length_map] at this
    omega
  · rw [List.getElem?_map] at ht
    cases hb2 : bs[i]? with
    | none => rw [hb2] at ht; simp at ht
    | some b =>
      rw [hb2] at ht
      simp only [Option.map_some, Option.some.injEq] at ht
      rw [← ht]
      exact hb b (List.mem_of_getElem? hb2)
theorem later_snoc {t : Trl} (h : bs.length ≤ tr.length) : laterS bs (tr ++ [t]) = laterS bs tr ++ [t.st] := by
  unfold laterS
  rw [List.drop_append_of_le_length h, List.map_append]
  rfl
theorem TrSt.push (h : TrSt T bs n tr s) {i : Nat} {u : Trl} {a q : Nat} (hi : tr[i]? = some u) (hs : stepR T u.st a q) (hq : q < n) (hn : s.testBit q = false) : TrSt T bs n (tr ++ [⟨q, i, a⟩]) (s ||| 2 ^ q) := by
  have hl := h.ta.len
  have hil := (List.getElem?_eq_some_iff.1 hi).1
  have hnq : q ∉ laterS bs tr := fun e => by have := (h.cm q).2 e; rw [hn] at this; cases this
  have old : ∀ k t, k < tr.length → (tr ++ [(⟨q, i, a⟩ : Trl)])[k]? = some t → tr[k]? = some t := fun k t hk ht => by rwa [List.getElem?_append_left hk] at ht
  refine ⟨⟨fun k hk => ?_, fun k t hk ht => ?_⟩, ?_, fun r => ?_, fun r hr => ?_, fun k t ht => ?_⟩
  · rw [List.getElem?_append_left (by omega)]; exact h.ta.begin_ k hk
  · rcases Nat.lt_or_ge k tr.length with h1 | h1
    · obtain ⟨j, v, h2, h3, h4, h5⟩ := h.ta.later k t hk (old k t h1 ht)
      exact ⟨j, v, h2, h3, by rw [List.getElem?_append_left (by omega)]; exact h4, h5⟩
    · have h2 := (List.getElem?_eq_some_iff.1 ht).1
      rw [List.length_append, List.length_singleton] at h2
      have h3 : k = tr.length := by omega
      subst h3
      rw [List.getElem?_append_right (Nat.le_refl _)] at ht
      simp only [Nat.sub_self, List.getElem?_cons_zero, Option.some.injEq] at ht
      subst ht
      exact ⟨i, u, rfl, hil, by rw [List.getElem?_append_left hil]; exact hi, hs⟩
  · rw [later_snoc hl, List.nodup_append]
    refine ⟨h.nd, by simp, fun x hx y hy e => ?_⟩
    simp only [List.mem_singleton] at hy
    rw [e, hy] at hx
    exact hnq hx
  · rw [later_snoc hl, Nat.testBit_or, Bool.or_eq_true, h.cm r, Nat.testBit_two_pow, decide_eq_true_eq, List.mem_append, List.mem_singleton]
    exact ⟨fun e => e.imp id Eq.symm, fun e => e.imp id Eq.symm⟩
  · rw [later_snoc hl, List.mem_append, List.mem_singleton] at hr
    rcases hr with hr | rfl
    · exact h.lt r hr
    · exact hq
  · rcases Nat.lt_or_ge k tr.length with h1 | h1
    · exact h.all k t (old k t h1 ht)
    · rw [List.getElem?_append_right h1] at ht
      have h3 : k - tr.length = 0 := by
        have := (List.getElem?_eq_some_iff.1 ht).1
        simp only [List.length_singleton] at this
        omega
      rw [h3] at ht
      simp only [List.getElem?_cons_zero, Option.some.injEq] at ht
      rw [← ht]; exact hq
theorem Gone.more {t : Trl} {i : Nat} (h : Gone T bs tr i) (hl : bs.length ≤ tr.length) (hi : i ≤ tr.length) : Gone T bs (tr ++ [t]) i := fun k u hk hu x hx => by
  rw [later_snoc hl]
  rw [List.getElem?_append_left (by omega)] at hu
  exact List.mem_append_left _ (h k u hk hu x hx)
theorem Gone.next {i : Nat} {u : Trl} (h : Gone T bs tr i) (hu : tr[i]? = some u) (hx : ∀ x, x ∈ fromT T u.st → x.2.2.toNat ∈ laterS bs tr) : Gone T bs tr (i + 1) := fun k t hk ht x hx2 => by
  by_cases e : k = i
  · subst e; rw [hu] at ht; cases ht; exact hx x hx2
  · exact h k t (by omega) ht x hx2
theorem Gone.end_ (h : Gone T bs tr tr.length) : TrEnd T bs tr := fun i t a q ht hs => by
  obtain ⟨x, h1, _, h3⟩ := fromT_step.1 hs
  have h4 := h i t (List.getElem?_eq_some_iff.1 ht).1 ht x h1
  rw [h3] at h4
  unfold laterS at h4
  obtain ⟨u, h5, h6⟩ := List.mem_map.1 h4
  obtain ⟨j, hj, h7⟩ := List.getElem_of_mem h5
  rw [List.length_drop] at hj
  refine ⟨bs.length + j, u, by omega, ?_, h6⟩
  rw [List.getElem_drop] at h7
  rw [← h7]
  exact List.getElem?_eq_getElem (by omega)
end
/-- In memory: the trails, and which states are come to. -/
structure TmAt (B : Nat) (w : World) (v : Value) (gc n : Nat) (tr : List Trl) (s : Nat) : Prop where
  own : OwnsG B w [⟨118, 3, v, tr.length, flatT (tr.map tri)⟩, ⟨4, 1, .slice (some ⟨gc, 0, none⟩) n n, n, bset s n⟩]
section
variable {B : Nat} {w : World} {v : Value} {gc n s : Nat} {tr : List Trl}
theorem TmAt.kept {w' : World} (h : TmAt B w v gc n tr s) (hg : w.grownBy w' none) : TmAt B w' v gc n tr s := ⟨h.own.kept hg⟩
theorem TmAt.look (h : TmAt B w v gc n tr s) {i : Nat} {t : Trl} (hi : tr[i]? = some t) : ∃ g c, v = .slice (some ⟨g, 0, none⟩) tr.length c ∧ w.cell? ⟨g, i * 3, none⟩ = some (.int .i64 (t.st : Int)) := by
  have hl := (List.getElem?_eq_some_iff.1 hi).1
  obtain ⟨g, c, e, _⟩ := h.own.head.1.form (by simp only; omega)
  refine ⟨g, c, e, h.own.cell e ?_⟩
  have h1 := (flatT_get (tr.map tri) (i := i) (by simpa using hl)).1
  have h2 : (tr.map tri).getD i (0, 0, 0) = tri t := by rw [List.getD, List.getElem?_map, hi]; rfl
  rw [h2] at h1
  exact h1
theorem TmAt.bit (h : TmAt B w v gc n tr s) {q : Nat} (hq : q < n) : w.cell? ⟨gc, q, none⟩ = some (.bool (s.testBit q)) ∧ w.frozen? ⟨gc, q, none⟩ = false := by
  have h1 : OwnsG B w [_, _] := h.own.perm (List.Perm.swap _ _ _)
  exact ⟨h1.cell rfl (bset_get hq), h1.fz rfl q⟩
theorem TmAt.mark (h : TmAt B w v gc n tr s) {q : Nat} (hq : q < n) : TmAt B (w.setCell ⟨gc, q, none⟩ (.bool true)) v gc n tr (s ||| 2 ^ q) ∧ B ≤ gc := by
  have h1 : OwnsG B w [_, _] := h.own.perm (List.Perm.swap _ _ _)
  have h2 := h1.set1 hq (.bool true)
  rw [bset_set hq] at h2
  exact ⟨⟨h2.perm (List.Perm.swap _ _ _)⟩, (h1.ge rfl).1⟩
theorem TmAt.push (h : TmAt B w v gc n tr s) (hB : B ≤ w.heap.size) (hl : tr.length ≤ 1000000) (t : Trl) {H : Nat} (hH : w.heap.size = H) :
    ∃ g cap w', (AppS #[94, 94] 94 #[v, .slice (some ⟨H, 0, none⟩) 1 1]).run Try.prog (w.alloc (.cells #[.int .i64 (t.st : Int), .int .i64 t.fr, .int .i64 (t.lt : Int)] 118)) = .ok (.slice (some ⟨g, 0, none⟩) (tr.length + 1) cap) w' ∧ TmAt B w' (.slice (some ⟨g, 0, none⟩) (tr.length + 1) cap) gc n (tr ++ [t]) s ∧ Keeps B w w' := by
  obtain ⟨g, cap, w', hr, ho, hk, _⟩ := OwnsG.push3 94 118 Try.underlying94 Try.infoTr h.own hB hl (t.st : Int) t.fr (t.lt : Int) hH
  refine ⟨g, cap, w', hr, ⟨?_⟩, hk⟩
  have e : flatT (tr.map tri) ++ [.int .i64 (t.st : Int), .int .i64 t.fr, .int .i64 (t.lt : Int)] = flatT ((tr ++ [t]).map tri) := by
    rw [List.map_append, List.map_singleton, ← flatT_snoc]
    rfl
  rw [e] at ho
  rw [List.length_append, List.length_singleton]
  exact ho
theorem TmAt.steps (h : TmAt B w v gc n tr s) : ∃ a c, v = .slice a tr.length c ∧ StepsAt w a (tr.map tri) := by
  obtain ⟨ho, a, c, e⟩ := h.own.head
  have e' : v = .slice a tr.length c := e
  refine ⟨a, c, e', ?_⟩
  by_cases h0 : tr.length = 0
  · left; rw [List.length_eq_zero_iff.1 h0]; rfl
  · obtain ⟨g, c', e2, _⟩ := ho.form (by simp only; omega)
    have e3 : v = .slice (some ⟨g, 0, none⟩) tr.length c' := e2
    rw [e'] at e3
    cases e3
    refine cells_steps fun j u hu => ?_
    rw [Nat.zero_add]
    exact h.own.cell e' hu
end
/-- What trails answers. -/
def TrPost (T : List StepI) (bs : List Nat) (n : Nat) (w : World) (E : Ending) (w' : World) : Prop := ∃ (a : Option Addr) (c : Nat) (tr : List Trl), E = .returned (.slice a tr.length c) ∧ StepsAt w' a (tr.map tri) ∧ TrAt T bs tr ∧ TrEnd T bs tr ∧ tr.length ≤ bs.length + n ∧ w.grownBy w' none

end Go.Proofs.Yteodlmgaemfiiaa

namespace Go.Proofs.Yteodlmgaemfiiaa
open Go.RowKit
set_option linter.unusedVariables false
attribute [local go_sem ↓] app_fold

section
variable {T : List StepI} {bs : List Nat} {n : Nat} {tr : List Trl} {s i k : Nat} {u : Trl}
/-- While one trail is gone on from. -/
structure InTr (T : List StepI) (bs : List Nat) (n : Nat) (tr : List Trl) (s i k : Nat) (u : Trl) : Prop where
  st : TrSt T bs n tr s
  gone : Gone T bs tr i
  at_ : tr[i]? = some u
  part : ∀ j, j < k → ∀ x, (fromT T u.st)[j]? = some x → x.2.2.toNat ∈ laterS bs tr
theorem InTr.start (h : TrSt T bs n tr s) (hg : Gone T bs tr i) (hu : tr[i]? = some u) : InTr T bs n tr s i 0 u := ⟨h, hg, hu, fun _ hj => absurd hj (by omega)⟩
theorem InTr.skip (h : InTr T bs n tr s i k u) {x : StepI} (hx : (fromT T u.st)[k]? = some x) (hb : s.testBit x.2.2.toNat = true) : InTr T bs n tr s i (k + 1) u := ⟨h.st, h.gone, h.at_, fun j hj y hy => by
  by_cases e : j = k
  · subst e; rw [hx] at hy; cases hy; exact (h.st.cm _).1 hb
  · exact h.part j (by omega) y hy⟩
theorem InTr.push (h : InTr T bs n tr s i k u) {x : StepI} (hx : (fromT T u.st)[k]? = some x) (hq : x.2.2.toNat < n) (hb : s.testBit x.2.2.toNat = false) : InTr T bs n (tr ++ [⟨x.2.2.toNat, i, x.2.1.toNat⟩]) (s ||| 2 ^ x.2.2.toNat) i (k + 1) u := by
  have hl := h.st.ta.len
  have hil := (List.getElem?_eq_some_iff.1 h.at_).1
  refine ⟨h.st.push h.at_ (fromT_step.2 ⟨x, List.mem_of_getElem? hx, rfl, rfl⟩) hq hb, h.gone.more hl (by omega), by rw [List.getElem?_append_left hil]; exact h.at_, fun j hj y hy => ?_⟩
  rw [later_snoc hl]
  by_cases e : j = k
  · subst e; rw [hx] at hy; cases hy; exact List.mem_append_right _ (by simp)
  · exact List.mem_append_left _ (h.part j (by omega) y hy)
theorem InTr.next (h : InTr T bs n tr s i k u) (hk : (fromT T u.st).length ≤ k) : TrSt T bs n tr s ∧ Gone T bs tr (i + 1) :=
  ⟨h.st, h.gone.next h.at_ fun x hx => by
    obtain ⟨j, hj, e⟩ := List.getElem_of_mem hx
    exact h.part j (by omega) x (by rw [← e]; exact List.getElem?_eq_getElem hj)⟩
end
theorem inT_mem {T : List StepI} {l n : Int} (h : InT T l n) {x : StepI} (hx : x ∈ T) : StIn l n x := by
  obtain ⟨i, hi, e⟩ := List.getElem_of_mem hx
  have h1 := h i hi
  simp only [List.getD, List.getElem?_eq_getElem hi, Option.getD_some] at h1
  rwa [e] at h1
theorem fromT_sub {T : List StepI} {f : Nat} {x : StepI} (h : x ∈ fromT T f) : x ∈ T := (List.mem_filter.1 h).1
theorem TmAt.lt {B : Nat} {w : World} {v : Value} {gc n : Nat} {tr : List Trl} {s : Nat} (h : TmAt B w v gc n tr s) : B ≤ gc ∧ gc < w.heap.size := by
  have h1 : OwnsG B w [_, _] := h.own.perm (List.Perm.swap _ _ _)
  exact h1.ge rfl
/-- The trails while they begin. -/
def Tm1 (B : Nat) (w : World) (v : Value) (tr : List Trl) : Prop := OwnsG B w [⟨118, 3, v, tr.length, flatT (tr.map tri)⟩]
theorem Tm1.new (B : Nat) (w : World) : Tm1 B w (.slice none 0 0) [] := (OwnsG.no B w).empty _ _
theorem Tm1.form {B : Nat} {w : World} {v : Value} {tr : List Trl} (h : Tm1 B w v tr) : ∃ a c, v = .slice a tr.length c := h.head.2
theorem TmAt.form {B : Nat} {w : World} {v : Value} {gc n : Nat} {tr : List Trl} {s : Nat} (h : TmAt B w v gc n tr s) : ∃ a c, v = .slice a tr.length c := h.own.head.2
theorem Tm1.push {B : Nat} {w : World} {v : Value} {tr : List Trl} (h : Tm1 B w v tr) (hB : B ≤ w.heap.size) (hl : tr.length ≤ 1000000) (t : Trl) {H : Nat} (hH : w.heap.size = H) :
    ∃ g cap w', (AppS #[94, 94] 94 #[v, .slice (some ⟨H, 0, none⟩) 1 1]).run Try.prog (w.alloc (.cells #[.int .i64 (t.st : Int), .int .i64 t.fr, .int .i64 (t.lt : Int)] 118)) = .ok (.slice (some ⟨g, 0, none⟩) (tr.length + 1) cap) w' ∧ Tm1 B w' (.slice (some ⟨g, 0, none⟩) (tr.length + 1) cap) (tr ++ [t]) ∧ Keeps B w w' := by
  obtain ⟨g, cap, w', hr, ho, hk, _⟩ := OwnsG.push3 94 118 Try.underlying94 Try.infoTr h hB hl (t.st : Int) t.fr (t.lt : Int) hH
  refine ⟨g, cap, w', hr, ?_, hk⟩
  have e : flatT (tr.map tri) ++ [.int .i64 (t.st : Int), .int .i64 t.fr, .int .i64 (t.lt : Int)] = flatT ((tr ++ [t]).map tri) := by
    rw [List.map_append, List.map_singleton, ← flatT_snoc]
    rfl
  rw [e] at ho
  unfold Tm1
  rw [List.length_append, List.length_singleton]
  exact ho
theorem Tm1.make {B : Nat} {w : World} {v : Value} {tr : List Trl} (h : Tm1 B w v tr) (hB : B ≤ w.heap.size) (n : Nat) (hn : n ≤ 1000) : ∃ W, (Instr.makeSlice 62 (.int .i64 (n : Int)) (.int .i64 (n : Int))).run Try.prog w = .ok (.slice (some ⟨w.heap.size, 0, none⟩) n n) W ∧ TmAt B W v w.heap.size n tr 0 ∧ w.grownBy W none := by
  refine ⟨_, make_bools w n (by omega), ⟨?_⟩, grown_alloc _ _⟩
  have h1 := OwnsG.made (arr := Array.replicate n (Value.bool false)) (n := n) h hB 4 (by simp) (by unfold maxLen; omega)
  rw [bset_zero] at h1
  exact h1.perm (List.Perm.swap _ _ _)

set_option maxHeartbeats 3200000 in
set_option maxRecDepth 100000 in
theorem trails_any (T : List StepI) (l : Int) (n : Nat) (hT : InT T l n) (hn : n ≤ 300) (bs : List Nat) (hb : ∀ b, b ∈ bs → b < n) (hbl : bs.length ≤ 100000) (hTl : T.length ≤ 1000000) (m : Nat) (hm : bs.length = m) (gt : Nat) (a : Option Addr) (c : Nat) (w : World) (hS : StepTab w gt n T) (hI : Ints w a (natInts bs)) :
    Calls Try.prog 68 #[.slice (some ⟨gt, 0, none⟩) n n, .slice a m c] w (TrPost T bs n w) := by
  have HT : Hid (InT T l n) := hT
  have HS : Hid (∀ W, w.grownBy W none → StepTab W gt n T) := fun W hW => hS.grown hW
  have HI : Hid (∀ W, w.grownBy W none → Ints W a (natInts bs)) := fun W hW => hI.grown hW
  have HB : Hid (∀ b, b ∈ bs → b < n) := hb
  have HM : Hid (bs.length = m) := hm
  have hml : m ≤ 100000 := by omega
  clear hT hS hI hb hm hbl
  go_enter Try.func68, Try.ntmps68
  go_wp2_with fail
  go_loopw [5, 14] (fun v5 v wr => ∃ j : Nat, j ≤ m ∧ v = .int .i64 j ∧ Tm1 w.heap.size wr v5 ((bs.take j).map fun b => ⟨b, -1, 0⟩) ∧ w.grownBy wr none) (fun _ v _ => m - (intOf v).toNat)
  case atStart => exact ⟨0, by omega, rfl, Tm1.new _ _, grown_refl _ _⟩
  case round =>
    rename World => wr
    obtain ⟨j, hj, rfl, hA, hg⟩ := hrel
    have A : Hid (Tm1 w.heap.size wr _ ((bs.take j).map fun b => ⟨b, -1, 0⟩)) := hA
    have G : Hid (w.grownBy wr none) := hg
    have HL : Hid (((bs.take j).map fun b => (⟨b, -1, 0⟩ : Trl)).length = j) := by show _ = _; rw [List.length_map, List.length_take, HM.out]; omega
    obtain ⟨a5, c5, hv5⟩ := hA.form
    rw [HL.out] at hv5
    subst hv5
    clear hA hg
    by_cases hlt : j < m
    · have hji : (j : Int) < (m : Int) := by omega
      have hjb : j < bs.length := by have := HM.out; omega
      obtain ⟨bb, off, rfl, hc⟩ := (HI.out wr G.out).at (k := j) (by simpa [natInts] using hjb)
      have y0 := hc j (by simpa [natInts] using hjb)
      have HTk : Hid (((bs.take (j + 1)).map fun b => (⟨b, -1, 0⟩ : Trl)) = ((bs.take j).map fun b => (⟨b, -1, 0⟩ : Trl)) ++ [⟨bs.getD j 0, -1, 0⟩]) := by show _ = _; rw [List.take_add_one, List.map_append]; simp [List.getD, hjb]
      have e0 : (natInts bs).getD j 0 = ((bs.getD j 0 : Nat) : Int) := by simp [natInts, List.getD, hjb]
      rw [e0] at y0
      clear e0 hc
      obtain ⟨q, hq⟩ : ∃ q, bs.getD j 0 = q := ⟨_, rfl⟩
      rw [hq] at y0 HTk
      clear hq
      obtain ⟨g7, c7, w7, hrun0, hA7, hK7⟩ := A.out.push G.out.size (by rw [HL.out]; omega) ⟨q, -1, 0⟩ rfl
      rw [HL.out] at hrun0 hA7
      have hrun : (AppS #[94, 94] 94 #[.slice a5 j c5, .slice (some ⟨wr.heap.size, 0, none⟩) 1 1]).run Try.prog (wr.alloc (.cells #[.int .i64 q, .int .i64 (-1), .int .i64 0] 118)) = .ok (.slice (some ⟨g7, 0, none⟩) (j + 1) c7) w7 := hrun0
      have A7 : Hid (Tm1 w.heap.size w7 (.slice (some ⟨g7, 0, none⟩) (j + 1) c7) ((bs.take (j + 1)).map fun b => ⟨b, -1, 0⟩)) := by
        show Tm1 _ _ _ _
        rw [HTk.out]; exact hA7
      have G7 : Hid (w.grownBy w7 none) := hK7 w (Nat.le_refl _) G.out
      clear hrun0 hA7 hK7
      go_wp2_with fail
      go_roundw
      case rel => exact ⟨j + 1, by omega, by go_num, A7.out, G7.out⟩
      case measure => simp [intOf]; omega
    · have hji : ¬ (j : Int) < (m : Int) := by omega
      have e1 : j = m := by omega
      subst e1
      have HA1 : Hid (Tm1 w.heap.size wr (.slice a5 j c5) (bs.map fun b => ⟨b, -1, 0⟩)) := by
        have h1 := A.out
        rw [List.take_of_length_le (by have := HM.out; omega)] at h1
        exact h1
      have ST : Hid (TrSt T bs n (bs.map fun b => ⟨b, -1, 0⟩) 0) := TrSt.start HB.out
      obtain ⟨W2, hmk, hA2, hg2⟩ := HA1.out.make G.out.size n (by omega)
      have A2 : Hid (TmAt w.heap.size W2 (.slice a5 j c5) wr.heap.size n (bs.map fun b => ⟨b, -1, 0⟩) 0) := hA2
      have G2 : Hid (w.grownBy W2 none) := grown_trans G.out hg2
      clear A HA1 HL hA2 hg2 G
      go_wp2_with fail
      clear hmk
      generalize wr.heap.size = gc at *
      go_loopw [5, 9] (fun v5 v wr => ∃ (i s : Nat) (tr : List Trl), i ≤ tr.length ∧ v = .int .i64 i ∧ TmAt w.heap.size wr v5 gc n tr s ∧ TrSt T bs n tr s ∧ Gone T bs tr i ∧ w.grownBy wr none) (fun _ v _ => j + n - (intOf v).toNat)
      case atStart => exact ⟨0, 0, _, by omega, rfl, A2.out, ST.out, fun k t hk => absurd hk (by omega), G2.out⟩
      case round =>
        clear A2 G2 ST
        rename World => wq
        obtain ⟨i, s, tr, hi, rfl, hA, hST, hGo, hg⟩ := hrel
        have hlen := hST.len
        rw [HM.out] at hlen
        obtain ⟨a6, c6, rfl⟩ := hA.form
        have A : Hid (TmAt w.heap.size wq (.slice a6 tr.length c6) gc n tr s) := hA
        have G : Hid (w.grownBy wq none) := hg
        have ST : Hid (TrSt T bs n tr s) := hST
        have GO : Hid (Gone T bs tr i) := hGo
        clear hA hST hGo hg
        obtain ⟨nt, hnt⟩ : ∃ nt, tr.length = nt := ⟨_, rfl⟩
        have HNT : Hid (tr.length = nt) := hnt
        rw [hnt] at hi hlen A
        rw [hnt]
        clear hnt
        by_cases hlt : i < nt
        · have hji : (i : Int) < (nt : Int) := by omega
          obtain ⟨u, hu⟩ : ∃ u, tr[i]? = some u := ⟨_, List.getElem?_eq_getElem (by rw [HNT.out]; exact hlt)⟩
          have HU : Hid (tr[i]? = some u) := hu
          have hun := ST.out.all i u hu
          obtain ⟨g6, c6', e6, y6⟩ := A.out.look hu
          rw [HNT.out] at e6
          cases e6
          obtain ⟨ar, cr, z0, hrow⟩ := HS.out w (grown_refl _ _) u.st hun
          have z6 := G.out.cell z0 (by simp)
          have HR : Hid (∀ W, w.grownBy W none → StepsAt W ar (fromT T u.st)) := fun W hW => hrow.grown hW
          have IT : Hid (InTr T bs n tr s i 0 u) := InTr.start ST.out GO.out hu
          have huni : ((u.st : Nat) : Int) < (n : Int) := by omega
          obtain ⟨fl, hfl⟩ : ∃ fl, (fromT T u.st).length = fl := ⟨_, rfl⟩
          have HFL : Hid ((fromT T u.st).length = fl) := hfl
          have hfl6 : fl ≤ 1000000 := by rw [← hfl]; exact Nat.le_trans (List.length_filter_le _ _) hTl
          have hi6 : i ≤ 200000 := by omega
          rw [hfl] at z6
          clear hfl hrow z0 hu hun HU ST GO
          go_wp2_with fail
          clear y6 z6
          go_loopw [5, 42] (fun v5 v wr => ∃ (k s : Nat) (tr : List Trl), k ≤ fl ∧ v = .int .i64 k ∧ TmAt w.heap.size wr v5 gc n tr s ∧ InTr T bs n tr s i k u ∧ w.grownBy wr none) (fun _ v _ => fl - (intOf v).toNat)
          case atStart => exact ⟨0, s, tr, by omega, rfl, A.out, IT.out, G.out⟩
          case round =>
            clear A IT G HNT hlen hi hlt hji
            clear hlt
            rename World => wi
            obtain ⟨k, s, tr, hk, rfl, hA, hIT, hg⟩ := hrel
            have hlen := hIT.st.len
            rw [HM.out] at hlen
            obtain ⟨a6, c6, rfl⟩ := hA.form
            have A : Hid (TmAt w.heap.size wi (.slice a6 tr.length c6) gc n tr s) := hA
            have G : Hid (w.grownBy wi none) := hg
            have IT : Hid (InTr T bs n tr s i k u) := hIT
            clear hA hIT hg
            obtain ⟨nt, hnt⟩ : ∃ nt, tr.length = nt := ⟨_, rfl⟩
            have HNT : Hid (tr.length = nt) := hnt
            rw [hnt] at hlen A
            rw [hnt]
            clear hnt
            by_cases hlt : k < fl
            · have hji : (k : Int) < (fl : Int) := by omega
              have hkl : k < (fromT T u.st).length := by rw [HFL.out]; exact hlt
              obtain ⟨bb, off, rfl, hc⟩ := (HR.out wi G.out).at hkl
              obtain ⟨y0, y1, y2⟩ := hc k hkl
              have hxx : (fromT T u.st)[k]? = some ((fromT T u.st).getD k (0, 0, 0)) := by simp [List.getD, hkl]
              obtain ⟨xx, ex⟩ : ∃ xx, (fromT T u.st).getD k (0, 0, 0) = xx := ⟨_, rfl⟩
              rw [ex] at hxx y0 y1 y2
              clear hc ex
              obtain ⟨⟨i1, i2⟩, ⟨i3, i4⟩, ⟨i5, i6⟩⟩ := inT_mem HT.out (fromT_sub (List.mem_of_getElem? hxx))
              obtain ⟨ff, ll, tt⟩ := xx
              simp only at y0 y1 y2 i1 i2 i3 i4 i5 i6
              obtain ⟨q, rfl⟩ : ∃ n : Nat, tt = n := ⟨tt.toNat, by omega⟩
              obtain ⟨aL, rfl⟩ : ∃ n : Nat, ll = n := ⟨ll.toNat, by omega⟩
              have HX : Hid ((fromT T u.st)[k]? = some (ff, (aL : Int), (q : Int))) := hxx
              have hqn : q < n := by omega
              have hqi : (q : Int) < (n : Int) := by omega
              clear hxx i1 i2 i3 i4 i5 i6
              have gA : ∀ ob, wi.grownBy (wi.alloc ob) none := fun ob => grown_alloc _ ob
              have HGA : Hid (∀ ob, wi.grownBy (wi.alloc ob) none) := gA
              clear gA
              have hbit : ∀ ob, (wi.alloc ob).cell? ⟨gc, q, none⟩ = some (.bool (s.testBit q)) := fun ob => ((A.out.kept (HGA.out ob)).bit hqn).1
              cases hs : s.testBit q with
              | true =>
                rw [hs] at hbit
                have IT2 : Hid (InTr T bs n tr s i (k + 1) u) := IT.out.skip HX.out hs
                clear hs
                go_wp2_with fail
                go_roundw
                case rel => exact ⟨k + 1, s, tr, by omega, by go_num, A.out.kept (HGA.out _), IT2.out, grown_trans G.out (HGA.out _)⟩
                case measure => simp [intOf]; omega
              | false =>
                rw [hs] at hbit
                have IT2 : Hid (InTr T bs n (tr ++ [⟨q, i, aL⟩]) (s ||| 2 ^ q) i (k + 1) u) := IT.out.push HX.out hqn hs
                have hfz : ∀ ob, (wi.alloc ob).frozen? ⟨gc, q, none⟩ = false := fun ob => ((A.out.kept (HGA.out ob)).bit hqn).2
                clear hs
                obtain ⟨W5, hW5⟩ : ∃ W5, W5 = wi.alloc (.cells #[.int .i64 ff, .int .i64 aL, .int .i64 q] 59) := ⟨_, rfl⟩
                have hb5 := heap_alloc_new wi (.cells #[.int .i64 ff, .int .i64 aL, .int .i64 q] 59)
                rw [← hW5] at hb5
                have g5 : wi.grownBy W5 none := by rw [hW5]; exact HGA.out _
                have hne : (some wi.heap.size) ≠ some gc := fun e => by have h1 := A.out.lt.2; cases e; omega
                have hs5 : W5.heap.size = wi.heap.size + 1 := by rw [hW5, World.size_alloc]
                have e1 : W5.cell? ⟨wi.heap.size, 1, none⟩ = some (.int .i64 aL) := by rw [cell_of_row _ _ 1 _ _ (0, 0) hb5]; rfl
                have e2 : W5.cell? ⟨wi.heap.size, 2, none⟩ = some (.int .i64 q) := by rw [cell_of_row _ _ 2 _ _ (0, 0) hb5]; rfl
                have gs := grown_set W5 ⟨gc, q, none⟩ (.bool true)
                have f1 := gs.cell e1 hne
                have f2 := gs.cell e2 hne
                obtain ⟨hm6, hge⟩ := (A.out.kept g5).mark hqn
                have gw6 : w.grownBy (W5.setCell ⟨gc, q, none⟩ (.bool true)) none := (Keeps.set (Keeps.refl w.heap.size W5) hge _ _) w (Nat.le_refl _) (grown_trans G.out g5)
                obtain ⟨g7, c7, w7, hrun0, hA7, hK7⟩ := hm6.push gw6.size (by rw [HNT.out]; omega) ⟨q, i, aL⟩ (H := wi.heap.size + 1) (by rw [size_set, hs5])
                rw [HNT.out] at hrun0 hA7
                have hrun : (AppS #[94, 94] 94 #[.slice a6 nt c6, .slice (some ⟨wi.heap.size + 1, 0, none⟩) 1 1]).run Try.prog ((W5.setCell ⟨gc, q, none⟩ (.bool true)).alloc (.cells #[.int .i64 q, .int .i64 i, .int .i64 aL] 118)) = .ok (.slice (some ⟨g7, 0, none⟩) (nt + 1) c7) w7 := hrun0
                have A7 : Hid (TmAt w.heap.size w7 (.slice (some ⟨g7, 0, none⟩) (nt + 1) c7) gc n (tr ++ [⟨q, i, aL⟩]) (s ||| 2 ^ q)) := hA7
                have G7 : Hid (w.grownBy w7 none) := hK7 w (Nat.le_refl _) gw6
                rw [hW5] at f1 f2 hrun
                clear hrun0 hA7 hK7 hW5 hb5 g5 hne hs5 e1 e2 gs hm6 hge gw6
                go_wp2_with fail
                go_roundw
                case rel => exact ⟨k + 1, _, _, by omega, by go_num, A7.out, IT2.out, G7.out⟩
                case measure => simp [intOf]; omega
            · have hji : ¬ (k : Int) < (fl : Int) := by omega
              go_wp2_with fail
              go_roundw
              case rel =>
                obtain ⟨h1, h2⟩ := IT.out.next (by rw [HFL.out]; omega)
                exact ⟨i + 1, s, tr, by have := (List.getElem?_eq_some_iff.1 IT.out.at_).1; omega, by go_num, A.out, h1, h2, G.out⟩
              case measure =>
                have := (List.getElem?_eq_some_iff.1 IT.out.at_).1
                have := HNT.out
                simp [intOf]; omega
        · have hji : ¬ (i : Int) < (nt : Int) := by omega
          go_wp2_with fail
          go_ret
          obtain ⟨a9, c9, e9, hs9⟩ := A.out.steps
          have e7 := HNT.out
          subst e7
          cases e9
          refine ⟨_, _, tr, rfl, hs9, ST.out.ta, ?_, ST.out.len, G.out⟩
          have h1 := GO.out
          have h2 : i = tr.length := by omega
          rw [h2] at h1
          exact h1.end_

end Go.Proofs.Yteodlmgaemfiiaa
