/- Where letters come from: rows of rows of rows. -/
import Derived.Test.YtaangdomdeklhaaHTog
namespace Go.Proofs.Ytaangdomdeklhaa
open Go.RowKit
set_option linter.unusedVariables false

/-- An append, under a name that the walk does not open. -/
def AppS (ts : Array TypeId) (ty : TypeId) (args : Array Value) : Sem Value := Builtin.append_ ts ty args
theorem app_fold (ts : Array TypeId) (ty : TypeId) (args : Array Value) : Builtin.append_ ts ty args = AppS ts ty args := rfl

theorem Try.infoSS : (Try.prog.info? 27).map (fun i => (i.zero, i.size, i.bytes)) = some (some (.slice none 0 0), 1, 24) := by kernel_rfl
theorem made_slices (n : Nat) : madeCells (Value.cells (.slice none 0 0)) n = Array.replicate n (Value.slice none 0 0) := by
  apply Array.ext'
  simpa [Value.cells] using toList_madeCells_one (.slice none 0 0) n
theorem make_mid (w : World) (n : Nat) (hn : n ≤ 1000000) : (Instr.makeSlice 27 (.int .i64 (n : Int)) (.int .i64 (n : Int))).run Try.prog w = .ok (.slice (some ⟨w.heap.size, 0, none⟩) n n) (w.alloc (.cells (Array.replicate n (Value.slice none 0 0)) 22)) := by
  obtain ⟨i0, hi, hz0, hz1, hz2⟩ := info_parts Try.infoS
  have hmk := run_make (P := Try.prog) w 27 22 i0 (.slice none 0 0) Try.underlying27 hi hz0 .i64 .i64 (n : Int) (n : Int) (by omega) (by omega) (by rw [hz2]; omega) (by omega)
  rw [hz1, Nat.mul_one, Int.toNat_natCast, made_slices] at hmk
  exact hmk
theorem make_out (w : World) (n : Nat) (hn : n ≤ 1000000) : (Instr.makeSlice 89 (.int .i64 (n : Int)) (.int .i64 (n : Int))).run Try.prog w = .ok (.slice (some ⟨w.heap.size, 0, none⟩) n n) (w.alloc (.cells (Array.replicate n (Value.slice none 0 0)) 27)) := by
  obtain ⟨i0, hi, hz0, hz1, hz2⟩ := info_parts Try.infoSS
  have hmk := run_make (P := Try.prog) w 89 27 i0 (.slice none 0 0) Try.underlying89 hi hz0 .i64 .i64 (n : Int) (n : Int) (by omega) (by omega) (by rw [hz2]; omega) (by omega)
  rw [hz1, Nat.mul_one, Int.toNat_natCast, made_slices] at hmk
  exact hmk

abbrev rowIts (rs : List (Value × List Nat)) : List Item := rs.map fun x => (3, x.1, vals (natInts x.2))
abbrev letIts (q : Value × List (Value × List Nat)) : List Item := (22, q.1, q.2.map (·.1)) :: rowIts q.2
abbrev backIts (v : Value) (os : List Value) (ls : List (Value × List (Value × List Nat))) : List Item := (27, v, os) :: ls.flatMap letIts

/-- A state is put behind, in the row of where it leads to. -/
theorem back_push {B gm n t g' cap H i ln : Nat} {w w' : World} {O : Item} {rs : List (Value × List Nat)} {D : List Item} {v : Value} {xs : List Nat} (h : Owns B w (O :: (22, .slice (some ⟨gm, 0, none⟩) n n, rs.map (·.1)) :: (rowIts rs ++ D))) (ht : t < rs.length) (hn : rs.length = n)
    (hv : rs.getD t (.slice none 0 0, []) = (v, xs)) (hl : xs.length = ln)
    (ho : w'.ownsRow B 3 1 (.slice (some ⟨g', 0, none⟩) (ln + 1) cap) (ln + 1) (vals (natInts xs) ++ [.int .i64 (i : Int)])) (hg : w.grownBy w' v.ownBlock) (hat : v.ownBlock = some g' ∨ g' = H) (hH : w.heap.size = H) :
    w'.cell? ⟨gm, t, none⟩ = some v ∧ w'.frozen? ⟨gm, t, none⟩ = false ∧ (∀ g2 m2 q2 xs2 j u, O = (O.1, .slice (some ⟨g2, 0, none⟩) m2 q2, xs2) → xs2[j]? = some u → w'.cell? ⟨g2, j, none⟩ = some u) ∧
    Owns B (w'.setCell ⟨gm, t, none⟩ (.slice (some ⟨g', 0, none⟩) (ln + 1) cap)) (O :: (22, .slice (some ⟨gm, 0, none⟩) n n, (rs.set t (.slice (some ⟨g', 0, none⟩) (ln + 1) cap, xs ++ [i])).map (·.1)) :: (rowIts (rs.set t (.slice (some ⟨g', 0, none⟩) (ln + 1) cap, xs ++ [i])) ++ D)) ∧
    Keeps B w (w'.setCell ⟨gm, t, none⟩ (.slice (some ⟨g', 0, none⟩) (ln + 1) cap)) ∧ Keeps B w w' := by
  have hrt : rs[t] = (v, xs) := by rw [← hv]; simp [List.getD, ht]
  have e1 : rs = rs.take t ++ (v, xs) :: rs.drop (t + 1) := by rw [← hrt, ← List.drop_eq_getElem_cons ht, List.take_append_drop]
  have e2 : rs.set t (.slice (some ⟨g', 0, none⟩) (ln + 1) cap, xs ++ [i]) = rs.take t ++ (.slice (some ⟨g', 0, none⟩) (ln + 1) cap, xs ++ [i]) :: rs.drop (t + 1) := by
    rw [List.set_eq_take_append_cons_drop, if_pos ht]
  have h1 : Owns B w ((3, v, vals (natInts xs)) :: ((O :: (22, .slice (some ⟨gm, 0, none⟩) n n, rs.map (·.1)) :: rowIts (rs.take t)) ++ (rowIts (rs.drop (t + 1)) ++ D))) := by
    refine at_M ?_
    have h2 := h
    have e3 : rowIts rs = rowIts (rs.take t) ++ (3, v, vals (natInts xs)) :: rowIts (rs.drop (t + 1)) := by
      show rs.map _ = _
      conv => lhs; rw [e1]
      simp [rowIts]
    rw [e3] at h2
    simpa using h2
  have h2 := h1.append (news := [.int .i64 (i : Int)]) ho (by simp [hl]) hg hat hH
  rw [natInts_snoc] at h2
  have h3 := to_M h2
  have h4 : Owns B w' ((22, .slice (some ⟨gm, 0, none⟩) n n, rs.map (·.1)) :: O :: (rowIts (rs.take t) ++ (3, .slice (some ⟨g', 0, none⟩) (ln + 1) cap, vals (natInts (xs ++ [i]))) :: (rowIts (rs.drop (t + 1)) ++ D))) := at_2 h3
  have h5 := h4.set (i := t) (by omega) (.slice (some ⟨g', 0, none⟩) (ln + 1) cap)
  refine ⟨h4.cell ?_, h4.fz t, fun g2 m2 q2 xs2 j u hO hu => ?_, ?_, (Keeps.first h1 hg).trans ((Keeps.refl _ _).set h4.ge.1 _ _), Keeps.first h1 hg⟩
  · simp [ht, hrt]
  · have h6 := to_2 h4
    rw [hO] at h6
    exact h6.cell hu
  · have h6 := to_2 h5
    have e4 : (rs.map (·.1)).set t (.slice (some ⟨g', 0, none⟩) (ln + 1) cap) = (rs.set t (.slice (some ⟨g', 0, none⟩) (ln + 1) cap, xs ++ [i])).map (·.1) := by rw [List.map_set]
    rw [e4] at h6
    have e5 : rowIts (rs.set t (.slice (some ⟨g', 0, none⟩) (ln + 1) cap, xs ++ [i])) = rowIts (rs.take t) ++ (3, .slice (some ⟨g', 0, none⟩) (ln + 1) cap, vals (natInts (xs ++ [i]))) :: rowIts (rs.drop (t + 1)) := by
      show List.map _ _ = _
      rw [e2]
      simp [rowIts]
    rw [e5]
    simpa using h6

def BackPost (δ : Nat → Nat → Nat) (n l : Nat) (w : World) (E : Ending) (w' : World) : Prop :=
  ∃ (g : Nat) (ls : List (Value × List (Value × List Nat))), E = .returned (.slice (some ⟨g, 0, none⟩) l l) ∧ ls.map (fun q => q.2.map (·.2)) = (List.range l).map (fun x => (List.range n).map (backL δ n x)) ∧
    Owns w.heap.size w' (backIts (.slice (some ⟨g, 0, none⟩) l l) (ls.map (·.1)) ls) ∧ w.grownBy w' none

end Go.Proofs.Ytaangdomdeklhaa
