/- The letter at a place, or the error; whether two lassos tell one word, by the reference. -/
import Derived.Test.YthccdfjmkdcehaaMath
namespace Go.Proofs.Ythccdfjmkdcehaa
open Go.RowKit
set_option linter.unusedVariables false

theorem lassoF_ok {h l : List Int} (e : lassoF 4 h l = 0) : h.length ≤ 60 ∧ l.length ≤ 60 ∧ 0 < l.length := by
  unfold lassoF at e
  have key : ∀ zs : List Int, mayF 4 zs = 0 → zs.length ≤ 60 := by
    intro zs hz
    unfold mayF at hz
    rw [if_neg (by omega)] at hz
    by_cases h60 : 60 < zs.length
    · rw [if_pos h60] at hz; omega
    · omega
  by_cases h1 : mayF 4 h = 0
  · rw [if_pos h1] at e
    by_cases h2 : mayF 4 l = 0
    · rw [if_pos h2] at e
      by_cases h3 : l.length = 0
      · rw [if_pos h3] at e; omega
      · exact ⟨key _ h1, key _ h2, by omega⟩
    · rw [if_neg h2] at e; exact absurd e h2
  · rw [if_neg h1] at e; exact absurd e h1

def placedF (n : Int) (h l : List Int) : Int := if lassoF 4 h l = 0 then if n < 0 then 2 else 0 else lassoF 4 h l

set_option maxHeartbeats 400000 in
theorem placed_any (n : Int) (a a' : Option Addr) (c c' : Nat) (h l : List Int) (w : World) (hh : Ints w a h) (hl : Ints w a' l) (hm : h.length ≤ maxLen) (hm' : l.length ≤ maxLen) :
    Calls Try.prog 25 #[.agg #[.slice a h.length c, .slice a' l.length c'], .int .i64 n] w fun e w' => e = .returned (.int .i64 (placedF n h l)) ∧ Below w.heap.size w w' := by
  have hb : ∀ o, Below w.heap.size w (w.alloc o) := fun o => (Below.refl _ _).alloc (Nat.le_refl _) o
  have HF : Hid (placedF n h l = if lassoF 4 h l = 0 then if n < 0 then 2 else 0 else lassoF 4 h l) := rfl
  have H1 : Hid (∀ W, Below w.heap.size w W → Calls Try.prog 11 #[.int .i64 4, .agg #[.slice a h.length c, .slice a' l.length c']] W fun e w' => e = .returned (.int .i64 (lassoF 4 h l)) ∧ Below W.heap.size W w') := fun W hW => lasso_any 4 a a' c c' h l W (hh.later hW) (hl.later hW) hm hm'
  clear hh hl
  generalize lassoF 4 h l = x at *
  go_enter Try.func25, Try.ntmps25
  go_wp2_with fail
  refine (H1.out _ (hb _)).mono ?_
  rintro e w1 ⟨rfl, hb1⟩
  have HB : Hid (Below w.heap.size w w1) := (hb _).trans (hb1.mono (by simp))
  clear hb1
  by_cases hx : x = 0
  · subst hx
    by_cases hn : n < 0
    · go_wp2
      go_ret
      exact ⟨ret_int (by rw [HF.out]; simp [hn]), HB.out⟩
    · go_wp2
      go_ret
      exact ⟨ret_int (by rw [HF.out]; simp; omega), HB.out⟩
  · have hx'' : (x != 0) = true := by simpa using hx
    go_wp2
    go_ret
    exact ⟨ret_int (by rw [HF.out]; simp [hx]), HB.out⟩

set_option maxHeartbeats 400000 in
theorem atW_any (n : Int) (a a' : Option Addr) (c c' : Nat) (h l : List Int) (w : World) (hh : Ints w a h) (hl : Ints w a' l) (hm : h.length ≤ maxLen) (hm' : l.length ≤ maxLen) (hn : n ≤ 9223372036854775807) :
    Calls Try.prog 13 #[.agg #[.slice a h.length c, .slice a' l.length c'], .int .i64 n] w fun e w' => e = .returned (.tuple #[.int .i64 (if placedF n h l = 0 then letF h l n.toNat else 0), .int .i64 (placedF n h l)]) ∧ Below w.heap.size w w' := by
  have hb : ∀ o, Below w.heap.size w (w.alloc o) := fun o => (Below.refl _ _).alloc (Nat.le_refl _) o
  have H1 : Hid (∀ W, Below w.heap.size w W → Calls Try.prog 25 #[.agg #[.slice a h.length c, .slice a' l.length c'], .int .i64 n] W fun e w' => e = .returned (.int .i64 (placedF n h l)) ∧ Below W.heap.size W w') := fun W hW => placed_any n a a' c c' h l W (hh.later hW) (hl.later hW) hm hm'
  have H2 : Hid (placedF n h l = 0 → ∀ W, Below w.heap.size w W → Calls Try.prog 26 #[.agg #[.slice a h.length c, .slice a' l.length c'], .int .i64 n] W fun e w' => e = .returned (.int .i64 (letF h l n.toNat)) ∧ Below W.heap.size W w') := by
    intro he W hW
    have h1 : lassoF 4 h l = 0 ∧ 0 ≤ n := by
      unfold placedF at he
      by_cases h1 : lassoF 4 h l = 0
      · rw [if_pos h1] at he
        refine ⟨h1, ?_⟩
        by_cases h2 : n < 0
        · rw [if_pos h2] at he; omega
        · omega
      · rw [if_neg h1] at he; exact absurd he h1
    obtain ⟨g1, g2, g3⟩ := lassoF_ok h1.1
    have := letter_any n.toNat a a' c c' h l W (hh.later hW) (hl.later hW) g1 g2 (by omega) g3
    rwa [Int.toNat_of_nonneg h1.2] at this
  clear hh hl
  generalize placedF n h l = x at *
  generalize letF h l n.toNat = y at *
  go_enter Try.func13, Try.ntmps13
  go_wp2_with fail
  refine (H1.out _ (hb _)).mono ?_
  rintro e w1 ⟨rfl, hb1⟩
  have c0 : w1.cell? ⟨w.heap.size, 0, none⟩ = some (.slice a h.length c) := by rw [hb1.cell (by simp)]; simp
  have c1 : w1.cell? ⟨w.heap.size, 1, none⟩ = some (.slice a' l.length c') := by rw [hb1.cell (by simp)]; simp
  have hs1 : w.heap.size < w1.heap.size := by have := hb1.size; simp at this; omega
  have HB : Hid (Below w.heap.size w w1) := (hb _).trans (hb1.mono (by simp))
  clear hb1
  by_cases hx : x = 0
  · subst hx
    go_wp2_with fail
    refine (H2.out (by simp) _ HB.out).mono ?_
    rintro e w2 ⟨rfl, hb2⟩
    have HB2 : Hid (Below w.heap.size w w2) := HB.out.trans (hb2.mono (by omega))
    clear hb2
    go_wp2
    go_ret2
    exact ⟨by simp, HB2.out⟩
  · have hx'' : (x != 0) = true := by simpa using hx
    go_wp2
    go_ret2
    exact ⟨by simp, HB.out⟩

end Go.Proofs.Ythccdfjmkdcehaa
