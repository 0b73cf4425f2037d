/- The program's Same at every two lassos, and the walk of the law WordTells out of the contracts. -/
import Derived.Test.YthccdfjmkdcehaaSameW
namespace Go.Proofs.Ythccdfjmkdcehaa
open Go.RowKit
set_option linter.unusedVariables false

/-- What Same says of an error. -/
def sameE (h l h' l' : List Int) : Int := if lassoF 4 h l = 0 then lassoF 4 h' l' else lassoF 4 h l

set_option maxHeartbeats 1000000 in
theorem sameW_any (a a' b b' : Option Addr) (c c' d d' : Nat) (h l h' l' : List Int) (w : World) (hh : Ints w a h) (hl : Ints w a' l) (gh : Ints w b h') (gl : Ints w b' l') (hm : h.length ≤ maxLen) (hm' : l.length ≤ maxLen) (gm : h'.length ≤ maxLen) (gm' : l'.length ≤ maxLen) :
    Calls Try.prog 15 #[.agg #[.slice a h.length c, .slice a' l.length c'], .agg #[.slice b h'.length d, .slice b' l'.length d']] w fun e w' => e = .returned (.tuple #[.bool (if sameE h l h' l' = 0 then sameF h l h' l' else false), .int .i64 (sameE h l h' l')]) ∧ Below w.heap.size w w' := by
  have HL : Hid (∀ W, Below w.heap.size w W → Calls Try.prog 11 #[.int .i64 4, .agg #[.slice a h.length c, .slice a' l.length c']] W fun e w' => e = .returned (.int .i64 (lassoF 4 h l)) ∧ Below W.heap.size W w') := fun W hW => lasso_any 4 a a' c c' h l W (hh.later hW) (hl.later hW) hm hm'
  have HL' : Hid (∀ W, Below w.heap.size w W → Calls Try.prog 11 #[.int .i64 4, .agg #[.slice b h'.length d, .slice b' l'.length d']] W fun e w' => e = .returned (.int .i64 (lassoF 4 h' l')) ∧ Below W.heap.size W w') := fun W hW => lasso_any 4 b b' d d' h' l' W (gh.later hW) (gl.later hW) gm gm'
  by_cases hx : lassoF 4 h l = 0
  · by_cases hy : lassoF 4 h' l' = 0
    · have he : sameE h l h' l' = 0 := by unfold sameE; rw [if_pos hx, hy]
      rw [he, if_pos rfl]
      rw [hx] at HL
      rw [hy] at HL'
      obtain ⟨g1, g2, g3⟩ := lassoF_ok hx
      obtain ⟨g4, g5, g6⟩ := lassoF_ok hy
      exact sameW_ok a a' b b' c c' d d' h l h' l' w hh hl gh gl g1 g2 g4 g5 g3 g6 HL HL'
    · have he : sameE h l h' l' = lassoF 4 h' l' := by unfold sameE; rw [if_pos hx]
      rw [he, if_neg hy]
      rw [hx] at HL
      clear hh hl gh gl he
      generalize lassoF 4 h' l' = y at *
      have hy'' : (y != 0) = true := by simpa using hy
      have hb0 : ∀ o o', Below w.heap.size w ((w.alloc o).alloc o') := fun o o' => ((Below.refl _ _).alloc (Nat.le_refl _) o).alloc (by simp) o'
      go_enter Try.func15, Try.ntmps15
      go_wp2_with fail
      refine (HL.out _ (hb0 _ _)).mono ?_
      rintro e w1 ⟨rfl, hb1⟩
      have c0 : w1.cell? ⟨w.heap.size + 1, 0, none⟩ = some (.slice b h'.length d) := by rw [hb1.cell (by simp)]; simp
      have c1 : w1.cell? ⟨w.heap.size + 1, 1, none⟩ = some (.slice b' l'.length d') := by rw [hb1.cell (by simp)]; simp
      have hs1 : w.heap.size + 1 < w1.heap.size := by have := hb1.size; simp at this; omega
      have HB : Hid (Below w.heap.size w w1) := (hb0 _ _).trans (hb1.mono (by simp; omega))
      clear hb1
      go_wp2_with fail
      refine (HL'.out _ HB.out).mono ?_
      rintro e w2 ⟨rfl, hb2⟩
      have HB2 : Hid (Below w.heap.size w w2) := HB.out.trans (hb2.mono (by omega))
      clear hb2
      go_wp2
      go_ret2
      exact ⟨rfl, HB2.out⟩
  · have he : sameE h l h' l' = lassoF 4 h l := by unfold sameE; rw [if_neg hx]
    rw [he, if_neg hx]
    clear hh hl gh gl he
    generalize lassoF 4 h l = x at *
    have hx'' : (x != 0) = true := by simpa using hx
    have hb0 : ∀ o o', Below w.heap.size w ((w.alloc o).alloc o') := fun o o' => ((Below.refl _ _).alloc (Nat.le_refl _) o).alloc (by simp) o'
    go_enter Try.func15, Try.ntmps15
    go_wp2_with fail
    refine (HL.out _ (hb0 _ _)).mono ?_
    rintro e w1 ⟨rfl, hb1⟩
    have HB : Hid (Below w.heap.size w w1) := (hb0 _ _).trans (hb1.mono (by simp; omega))
    clear hb1
    go_wp2
    go_ret2
    exact ⟨rfl, HB.out⟩

end Go.Proofs.Ythccdfjmkdcehaa
