/- The reference's list of nodes, read; and its rows of values, made. -/
import Derived.Test.YtaommgnlnfhbfaaLLeaf
import Derived.Test.YtaommgnlnfhbfaaJRow
import Derived.Laws.OwnMore
namespace Go.Proofs.Ytaommgnlnfhbfaa
open Go.RowKit
set_option linter.unusedVariables false
set_option linter.unusedSimpArgs false

/-- The nodes lie in a block. -/
def ListV (W : World) (g : Nat) (ns : List NdJ) : Prop := ∀ k nd, ns[k]? = some nd → W.cell? ⟨g, k * 5, none⟩ = some (.int .i64 nd.k) ∧ W.cell? ⟨g, k * 5 + 1, none⟩ = some (.int .i64 nd.n) ∧ W.cell? ⟨g, k * 5 + 2, none⟩ = some (.int .i64 nd.a) ∧ W.cell? ⟨g, k * 5 + 3, none⟩ = some (.int .i64 nd.b) ∧ W.cell? ⟨g, k * 5 + 4, none⟩ = some (.bool nd.s)
theorem ListV.kept {W W' : World} {g : Nat} {ns : List NdJ} (h : ListV W g ns) (hg : W.grownBy W' none) : ListV W' g ns := fun k nd hk => by
  obtain ⟨h0, h1, h2, h3, h4⟩ := h k nd hk
  exact ⟨hg.cell h0 (by simp), hg.cell h1 (by simp), hg.cell h2 (by simp), hg.cell h3 (by simp), hg.cell h4 (by simp)⟩
theorem flatJ_get : ∀ (ns : List NdJ) (k : Nat) (nd : NdJ), ns[k]? = some nd → (flatJ ns)[k * 5]? = some (.int .i64 nd.k) ∧ (flatJ ns)[k * 5 + 1]? = some (.int .i64 nd.n) ∧ (flatJ ns)[k * 5 + 2]? = some (.int .i64 nd.a) ∧ (flatJ ns)[k * 5 + 3]? = some (.int .i64 nd.b) ∧ (flatJ ns)[k * 5 + 4]? = some (.bool nd.s) := by
  intro ns
  induction ns with
  | nil => intro k nd h; simp at h
  | cons x ns ih =>
    intro k nd h
    have e : flatJ (x :: ns) = .int .i64 x.k :: .int .i64 x.n :: .int .i64 x.a :: .int .i64 x.b :: .bool x.s :: flatJ ns := by simp [flatJ]
    rw [e]
    cases k with
    | zero => simp at h; subst h; simp
    | succ k =>
      simp only [List.getElem?_cons_succ] at h
      have := ih k nd h
      rw [show (k + 1) * 5 = k * 5 + 5 by omega]
      simpa using this
theorem listV_of {W : World} {B : Nat} {v : Value} {ns : List NdJ} (h : W.ownsRow B 46 5 v ns.length (flatJ ns)) (hn : 0 < ns.length) : ∃ g cap, v = .slice (some ⟨g, 0, none⟩) ns.length cap ∧ ListV W g ns := by
  obtain ⟨g, cap, rfl, _, _⟩ := h.form hn
  refine ⟨g, cap, rfl, fun k nd hk => ?_⟩
  have hlt : k < ns.length := (List.getElem?_eq_some_iff.1 hk).1
  obtain ⟨h0, h1, h2, h3, h4⟩ := flatJ_get ns k nd hk
  exact ⟨by rw [h.cellAt _ (by omega)]; exact h0, by rw [h.cellAt _ (by omega)]; exact h1, by rw [h.cellAt _ (by omega)]; exact h2, by rw [h.cellAt _ (by omega)]; exact h3, by rw [h.cellAt _ (by omega)]; exact h4⟩

theorem info_partsV {P : Program} {t : TypeId} {z : Option Value} {a b : Nat} (h : (P.info? t).map (fun i => (i.zero, i.size, i.bytes)) = some (z, a, b)) : ∃ i, P.info? t = some i ∧ i.zero = z ∧ i.size = a ∧ i.bytes = b := by
  cases hi : P.info? t with
  | none => rw [hi] at h; cases h
  | some i => rw [hi] at h; simp only [Option.map_some, Option.some.injEq, Prod.mk.injEq] at h; exact ⟨i, rfl, h.1, h.2.1, h.2.2⟩
theorem Try.infoI64V : (Try.prog.info? 3).map (fun i => (i.zero, i.size, i.bytes)) = some (some (.int .i64 0), 1, 8) := by kernel_rfl
def nums (vs : List Nat) : List Value := vs.map fun (x : Nat) => Value.int .i64 (x : Int)
/-- The values are copied: append([]int{}, is...). -/
theorem app_own {w : World} {a : Option Addr} {c : Nat} {vs : List Nat} (h : RowI w a vs) (h0 : vs = [] → a = none ∧ c = 0) (hl : vs.length ≤ 3) :
    ∃ v1 w1, (Builtin.append_ #[30, 30] 30 #[.slice (some ⟨w.heap.size, 0, none⟩) 0 0, .slice a vs.length c]).run Try.prog (w.alloc (.cells #[] 3)) = .ok v1 w1 ∧ w1.ownsRow w.heap.size 3 1 v1 vs.length (nums vs) ∧ w.grownBy w1 none ∧ ∃ g1 c1, v1 = .slice (some ⟨g1, 0, none⟩) vs.length c1 := by
  obtain ⟨i0, hi0, hz0, hz1, hz2⟩ := info_partsV Try.infoI64V
  have hnew := heap_alloc_new w (.cells #[] 3)
  have gW : w.grownBy (w.alloc (.cells #[] 3)) none := grown_alloc _ _
  have hsz : (w.alloc (.cells #[] 3)).heap.size = w.heap.size + 1 := by rw [World.size_alloc]
  have ho : (w.alloc (.cells #[] 3)).ownsRow w.heap.size 3 1 (.slice (some ⟨w.heap.size, 0, none⟩) 0 0) 0 [] := ⟨rfl, .inr ⟨w.heap.size, 0, #[], rfl, Nat.le_refl _, hnew, Nat.le_refl _, by unfold maxLen; omega, rfl, rfl⟩⟩
  rcases h with rfl | ⟨g, rfl, hcells⟩
  · obtain ⟨rfl, rfl⟩ := h0 rfl
    refine ⟨_, _, ?_, ho, gW, _, _, rfl⟩
    simp [Builtin.append_, run_underlying Try.underlying30, sizeOf, typeInfo, zeroValue, hi0, hz0, Builtin.lenOf, run_firstCells_none, storeCells]
  · by_cases hv : vs = []
    · obtain ⟨h1, _⟩ := h0 hv; cases h1
    · have hlen : 0 < vs.length := List.length_pos_iff.2 hv
      obtain ⟨g1, c1, w1, hr, h2, h3, _, _⟩ := run_append_lies (P := Try.prog) (w.alloc (.cells #[] 3)) 30 30 w.heap.size 3 i0 (.int .i64 0) 1 8 Try.underlying30 hi0 hz0 hz1 hz2 rfl (by decide) (.slice (some ⟨w.heap.size, 0, none⟩) 0 0) 0 [] ho ⟨g, 0, none⟩ vs.length c (nums vs) (by simp [nums]) (fun j u hu => by
          have hj : j < vs.length := by have := (List.getElem?_eq_some_iff.1 hu).1; simpa [nums] using this
          have e3 := gW.cell (hcells j hj) (by simp)
          have e : (⟨g, 0, none⟩ : Addr).add j = ⟨g, j, none⟩ := by by_cases hj0 : j = 0 <;> simp [Addr.add, hj0]
          rw [e, e3, ← hu]
          simp [nums, hj]) (by intro u hu; simp [nums] at hu; obtain ⟨x, _, rfl⟩ := hu; rfl) hlen (by unfold maxLen; omega) (by omega) (by omega) _ rfl
      rw [Nat.zero_add] at hr h2
      exact ⟨_, _, hr, by simpa using h2, ⟨h3.os.trans gW.os, h3.tape.trans gW.tape, h3.output.trans gW.output, Nat.le_trans gW.size h3.size, fun k hk _ => (h3.block k (by omega) (by simp [Value.ownBlock]; omega)).trans (gW.block k hk (by simp))⟩, _, _, rfl⟩
/-- One value more. -/
theorem app_one {w w1 : World} {v1 : Value} {vs : List Nat} (ho : w1.ownsRow w.heap.size 3 1 v1 vs.length (nums vs)) (hg : w.grownBy w1 none) (hl : vs.length ≤ 3) (x : Nat) :
    ∃ g c w2, (Builtin.append_ #[30, 30] 30 #[v1, .slice (some ⟨w1.heap.size, 0, none⟩) 1 1]).run Try.prog (w1.alloc (.cells #[.int .i64 (x : Int)] 3)) = .ok (.slice (some ⟨g, 0, none⟩) (vs.length + 1) c) w2 ∧ RowI w2 (some ⟨g, 0, none⟩) (vs ++ [x]) ∧ w.grownBy w2 none := by
  obtain ⟨i0, hi0, hz0, hz1, hz2⟩ := info_partsV Try.infoI64V
  have hnew := heap_alloc_new w1 (.cells #[.int .i64 (x : Int)] 3)
  have gW : w1.grownBy (w1.alloc (.cells #[.int .i64 (x : Int)] 3)) none := grown_alloc _ _
  have hsz : (w1.alloc (.cells #[.int .i64 (x : Int)] 3)).heap.size = w1.heap.size + 1 := by rw [World.size_alloc]
  have hsw := hg.size
  have ho2 : (w1.alloc (.cells #[.int .i64 (x : Int)] 3)).ownsRow w.heap.size 3 1 v1 vs.length (nums vs) := ho.alloc _
  obtain ⟨g, c, w2, hr, h2, h3, _, _⟩ := run_append_lies (P := Try.prog) (w1.alloc (.cells #[.int .i64 (x : Int)] 3)) 30 30 w.heap.size 3 i0 (.int .i64 0) 1 8 Try.underlying30 hi0 hz0 hz1 hz2 rfl (by decide) v1 vs.length (nums vs) ho2 ⟨w1.heap.size, 0, none⟩ 1 1 [.int .i64 (x : Int)] rfl (fun j u hu => World.news_of_block hnew j u (by simpa using hu)) (by intro u hu; simp at hu; subst hu; rfl) (by omega) (by unfold maxLen; omega) (by omega) (by omega) _ rfl
  refine ⟨g, c, w2, hr, .inr ⟨g, rfl, fun k hk => ?_⟩, ?_⟩
  · rw [List.length_append, List.length_singleton] at hk
    rw [h2.cellAt k (by omega)]
    have e : nums vs ++ [Value.int .i64 (x : Int)] = nums (vs ++ [x]) := by simp [nums]
    rw [e]
    have hk2 : k < (vs ++ [x]).length := by simp; omega
    simp only [nums, List.getElem?_map, List.getElem?_eq_getElem hk2, Option.map_some, List.getD, Option.getD_some]
  · refine ⟨h3.os.trans (gW.os.trans hg.os), h3.tape.trans (gW.tape.trans hg.tape), h3.output.trans (gW.output.trans hg.output), Nat.le_trans hsw (Nat.le_trans gW.size h3.size), fun k hk _ => ?_⟩
    refine (h3.block k (by omega) (fun e => ?_)).trans ((gW.block k (by omega) (by simp)).trans (hg.block k hk (by simp)))
    have := ho.lt k e.symm
    omega

end Go.Proofs.Ytaommgnlnfhbfaa
