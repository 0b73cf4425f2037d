/- The reference's Apart, over what Walked leaves behind. -/
import Derived.Test.YtofjboelplknhaaLMath
import Derived.Test.YtofjboelplknhaaDRead
import Derived.Test.YtofjboelplknhaaHBackD
import Derived.Test.YtofjboelplknhaaHLeastD
namespace Go.Proofs.Ytofjboelplknhaa
open Go.RowKit
set_option linter.unusedVariables false

/-- All pairs, each with its first word, in memory. -/
def WalkPost (δ δ' : Nat → Nat → Nat) (p q n k l : Nat) (w : World) (E : Ending) (w' : World) : Prop :=
  ∃ (vs : List (Value × List Nat)) (aP aQ aW : Option Addr) (cP cQ cW N : Nat), E = .returned (.agg #[.slice aP N cP, .slice aQ N cQ, .slice aW N cW]) ∧ N = vs.length ∧ WEnd δ δ' p q n k l (vs.map (·.2)) ∧
    Owns w.heap.size w' ((3, .slice aP N cP, vals (natInts (vs.map fun u => u.2.foldl δ p))) :: (3, .slice aQ N cQ, vals (natInts (vs.map fun u => u.2.foldl δ' q))) :: (23, .slice aW N cW, vs.map (·.1)) :: rowIts vs) ∧ w.grownBy w' none
def ApartRPost (T : List Nat → Bool) (l : Nat) (w : World) (E : Ending) (w' : World) : Prop :=
  ∃ (zs : List Nat) (is : Bool) (a : Option Addr) (c : Nat), E = .returned (.tuple #[.slice a zs.length c, .bool is]) ∧ FirstOf T l zs is ∧ zs.length ≤ 100000000 ∧ Ints w' a (natInts zs) ∧ w.grownBy w' none

/-- What a look at the i-th pair reads. -/
theorem walk_reads {δ δ' : Nat → Nat → Nat} {p q N i B : Nat} {w : World} {vs : List (Value × List Nat)} {aP aQ aW : Option Addr} {cP cQ cW : Nat} (hN : N = vs.length) (hi : i < N)
    (h : Owns B w ((3, .slice aP N cP, vals (natInts (vs.map fun u => u.2.foldl δ p))) :: (3, .slice aQ N cQ, vals (natInts (vs.map fun u => u.2.foldl δ' q))) :: (23, .slice aW N cW, vs.map (·.1)) :: rowIts vs)) :
    ∃ gP gQ gW az cz, aP = some ⟨gP, 0, none⟩ ∧ aQ = some ⟨gQ, 0, none⟩ ∧ aW = some ⟨gW, 0, none⟩ ∧ w.cell? ⟨gP, i, none⟩ = some (.int .i64 ((((vs.map (·.2)).getD i []).foldl δ p : Nat) : Int)) ∧ w.cell? ⟨gQ, i, none⟩ = some (.int .i64 ((((vs.map (·.2)).getD i []).foldl δ' q : Nat) : Int)) ∧
      w.cell? ⟨gW, i, none⟩ = some (.slice az ((vs.map (·.2)).getD i []).length cz) ∧ Ints w az (natInts ((vs.map (·.2)).getD i [])) := by
  subst hN
  obtain ⟨gP, rfl⟩ := h.formM (e := 3) List.mem_cons_self (by simp [vals]; omega)
  obtain ⟨gQ, rfl⟩ := h.formM (e := 3) (List.mem_cons_of_mem _ List.mem_cons_self) (by simp [vals]; omega)
  obtain ⟨gW, rfl⟩ := h.formM (e := 23) (List.mem_cons_of_mem _ (List.mem_cons_of_mem _ List.mem_cons_self)) (by simp; omega)
  have hg : (vs.map (·.2)).getD i [] = vs[i].2 := by simp [List.getD, hi]
  have hm : (3, vs[i].1, vals (natInts vs[i].2)) ∈ rowIts vs := List.mem_map.2 ⟨vs[i], List.getElem_mem _, rfl⟩
  have hr : Owns B w [(3, vs[i].1, vals (natInts vs[i].2))] := ⟨fun it hit => h.1 it (by simp only [List.mem_singleton] at hit; subst hit; exact List.mem_cons_of_mem _ (List.mem_cons_of_mem _ (List.mem_cons_of_mem _ hm))), List.pairwise_singleton _ _⟩
  obtain ⟨_, az, cz, hv⟩ := hr.head
  simp only [List.length_map] at hv
  rw [hg]
  refine ⟨gP, gQ, gW, az, cz, rfl, rfl, rfl, h.cellM List.mem_cons_self (by simp [vals, hi]), h.cellM (List.mem_cons_of_mem _ List.mem_cons_self) (by simp [vals, hi]), ?_, ?_⟩
  · rw [← hv]
    exact h.cellM (List.mem_cons_of_mem _ (List.mem_cons_of_mem _ List.mem_cons_self)) (by simp [hi])
  · rw [hv] at hr
    exact hr.ints.2

end Go.Proofs.Ytofjboelplknhaa
