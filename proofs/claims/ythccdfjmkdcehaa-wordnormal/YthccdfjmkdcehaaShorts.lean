/- Shortest lassos handed on: what the program answers of a lasso that it has made itself. -/
import Derived.Test.YthccdfjmkdcehaaRest
namespace Go.Proofs.Ythccdfjmkdcehaa
open Go.RowKit
set_option linter.unusedVariables false

theorem letF_pieces {f : Nat → Int} {k p : Nat} (hs : Shortest f k p) (m : Nat) : letF (pieceOf f 0 k) (pieceOf f k p) m = f m := by
  unfold letF
  rw [length_pieceOf, length_pieceOf]
  by_cases h1 : m < k
  · rw [if_pos h1, getD_pieceOf _ _ _ _ h1, Nat.zero_add]
  · rw [if_neg h1, getD_pieceOf _ _ _ _ (Nat.mod_lt _ hs.pos), ← hs.round.mod, show k + (m - k) = m by omega]

theorem mayF_letters {zs : List Int} (e : mayF 4 zs = 0) : ∀ k, k < zs.length → 0 ≤ zs.getD k 0 ∧ zs.getD k 0 < 4 := by
  intro k hk
  unfold mayF at e
  rw [if_neg (by omega)] at e
  by_cases h60 : 60 < zs.length
  · rw [if_pos h60] at e; omega
  · rw [if_neg h60] at e
    by_cases ha : (zs.all fun x => decide (0 ≤ x) && decide (x < 4)) = true
    · have := List.all_eq_true.1 ha (zs.getD k 0) (by rw [getD_lt hk]; exact List.getElem_mem hk)
      simp at this
      simpa using this
    · rw [if_neg ha] at e; omega

theorem lassoF_letters {h l : List Int} (e : lassoF 4 h l = 0) (i : Nat) : 0 ≤ letF h l i ∧ letF h l i < 4 := by
  obtain ⟨_, _, g3⟩ := lassoF_ok e
  unfold lassoF at e
  by_cases h1 : mayF 4 h = 0
  · rw [if_pos h1] at e
    by_cases h2 : mayF 4 l = 0
    · unfold letF
      by_cases h3 : i < h.length
      · rw [if_pos h3]; exact mayF_letters h1 i h3
      · rw [if_neg h3]; exact mayF_letters h2 _ (Nat.mod_lt _ g3)
    · rw [if_neg h2] at e; exact absurd e h2
  · rw [if_neg h1] at e; exact absurd e h1

theorem lassoF_pieces {f : Nat → Int} {k p : Nat} (hs : Shortest f k p) (hk : k ≤ 60) (hp : p ≤ 60) (hf : ∀ i, 0 ≤ f i ∧ f i < 4) : lassoF 4 (pieceOf f 0 k) (pieceOf f k p) = 0 := by
  have m1 : mayF 4 (pieceOf f 0 k) = 0 := mayF_good (by omega) (by omega) (by rw [length_pieceOf]; exact hk) fun i hi => by rw [length_pieceOf] at hi; rw [getD_pieceOf _ _ _ _ hi]; exact hf _
  have m2 : mayF 4 (pieceOf f k p) = 0 := mayF_good (by omega) (by omega) (by rw [length_pieceOf]; exact hp) fun i hi => by rw [length_pieceOf] at hi; rw [getD_pieceOf _ _ _ _ hi]; exact hf _
  unfold lassoF
  rw [if_pos m1, if_pos m2, if_neg (by rw [length_pieceOf]; have := hs.pos; omega)]

theorem rest_of_short {f : Nat → Int} {B : Nat} {W : World} {p k g g' : Nat} (hi : IsShort f B W p k g g') (hf : ∀ i, 0 ≤ f i ∧ f i < 4) (m : Nat) (hm : (m : Int) ≤ 9223372036854775807) :
    Calls Try.prog 19 #[.agg #[.slice (some ⟨g, 0, none⟩) k k, .slice (some ⟨g', 0, none⟩) p p], .int .i64 m] W fun e w' => ∃ p2 k2 g2 g2' : Nat, e = .returned (.tuple #[.agg #[.slice (some ⟨g2, 0, none⟩) k2 k2, .slice (some ⟨g2', 0, none⟩) p2 p2], .int .i64 0]) ∧ IsShort (fun i => f (m + i)) W.heap.size w' p2 k2 g2 g2' ∧ Below W.heap.size W w' := by
  have h1 := hi.k60
  have h2 := hi.p60
  have := rest_ok m (some ⟨g, 0, none⟩) (some ⟨g', 0, none⟩) k p (pieceOf f 0 k) (pieceOf f k p) W hi.head.ints hi.loop.ints (by rw [length_pieceOf]; unfold maxLen; omega) (by rw [length_pieceOf]; unfold maxLen; omega) (lassoF_pieces hi.sh h1 h2 hf) (by rw [length_pieceOf]; exact Nat.le_refl _) hm
  rw [length_pieceOf, length_pieceOf, funext (letF_pieces hi.sh)] at this
  exact this

theorem normal_of_short {f : Nat → Int} {B : Nat} {W : World} {p k g g' : Nat} (hi : IsShort f B W p k g g') (hf : ∀ i, 0 ≤ f i ∧ f i < 4) :
    Calls Try.prog 18 #[.agg #[.slice (some ⟨g, 0, none⟩) k k, .slice (some ⟨g', 0, none⟩) p p]] W fun e w' => ∃ p2 k2 g2 g2' : Nat, e = .returned (.tuple #[.agg #[.slice (some ⟨g2, 0, none⟩) k2 k2, .slice (some ⟨g2', 0, none⟩) p2 p2], .int .i64 0]) ∧ IsShort f W.heap.size w' p2 k2 g2 g2' ∧ Below W.heap.size W w' := by
  have h1 := hi.k60
  have h2 := hi.p60
  have := normal_ok (some ⟨g, 0, none⟩) (some ⟨g', 0, none⟩) k p (pieceOf f 0 k) (pieceOf f k p) W hi.head.ints hi.loop.ints (by rw [length_pieceOf]; unfold maxLen; omega) (by rw [length_pieceOf]; unfold maxLen; omega) (lassoF_pieces hi.sh h1 h2 hf)
  rw [length_pieceOf, length_pieceOf, funext (letF_pieces hi.sh)] at this
  exact this

theorem at_of_short {f : Nat → Int} {B : Nat} {W : World} {p k g g' : Nat} (hi : IsShort f B W p k g g') (hf : ∀ i, 0 ≤ f i ∧ f i < 4) (m : Nat) (hm : (m : Int) ≤ 9223372036854775807) :
    Calls Try.prog 13 #[.agg #[.slice (some ⟨g, 0, none⟩) k k, .slice (some ⟨g', 0, none⟩) p p], .int .i64 m] W fun e w' => e = .returned (.tuple #[.int .i64 (f m), .int .i64 0]) ∧ Below W.heap.size W w' := by
  have h1 := hi.k60
  have h2 := hi.p60
  have := atW_any m (some ⟨g, 0, none⟩) (some ⟨g', 0, none⟩) k p (pieceOf f 0 k) (pieceOf f k p) W hi.head.ints hi.loop.ints (by rw [length_pieceOf]; unfold maxLen; omega) (by rw [length_pieceOf]; unfold maxLen; omega) hm
  have hp0 : placedF m (pieceOf f 0 k) (pieceOf f k p) = 0 := by unfold placedF; rw [if_pos (lassoF_pieces hi.sh h1 h2 hf), if_neg (by omega)]
  rw [hp0, if_pos rfl, length_pieceOf, length_pieceOf, letF_pieces hi.sh, Int.toNat_natCast] at this
  exact this

/-- The word 0101.. behind five letters: 1010.. -/
theorem letF_01 (n : Nat) : letF [0, 1] [0, 1, 0, 1] n = ((n % 2 : Nat) : Int) := by
  unfold letF
  by_cases h1 : n < 2
  · rw [if_pos (by simpa using h1)]
    rcases (by omega : n = 0 ∨ n = 1) with rfl | rfl <;> rfl
  · rw [if_neg (by simpa using h1)]
    show ([0, 1, 0, 1] : List Int).getD ((n - 2) % 4) 0 = _
    have h4 : (n - 2) % 4 < 4 := Nat.mod_lt _ (by omega)
    have h5 : (n - 2) % 4 % 2 = n % 2 := by omega
    generalize (n - 2) % 4 = r at h4 h5
    rw [← h5]
    rcases (by omega : r = 0 ∨ r = 1 ∨ r = 2 ∨ r = 3) with rfl | rfl | rfl | rfl <;> rfl

theorem short_01 : Shortest (fun m => letF [0, 1] [0, 1, 0, 1] (5 + m)) 0 2 := by
  refine ⟨by omega, fun m _ => ?_, fun s q hq hr => ⟨by omega, ?_⟩⟩
  · show letF [0, 1] [0, 1, 0, 1] (5 + (m + 2)) = letF [0, 1] [0, 1, 0, 1] (5 + m)
    rw [letF_01, letF_01]
    congr 1
    omega
  · by_cases h1 : q = 1
    · subst h1
      have := hr s (Nat.le_refl _)
      simp only [letF_01] at this
      omega
    · omega

theorem lasso_01 : lassoF 4 [0, 1] [0, 1, 0, 1] = 0 := by decide

theorem rest_01 (a a' : Option Addr) (W : World) (hh : Ints W a [0, 1]) (hl : Ints W a' [0, 1, 0, 1]) :
    Calls Try.prog 19 #[.agg #[.slice a 2 2, .slice a' 4 4], .int .i64 5] W fun e w' => ∃ g g' : Nat, e = .returned (.tuple #[.agg #[.slice (some ⟨g, 0, none⟩) 0 0, .slice (some ⟨g', 0, none⟩) 2 2], .int .i64 0]) ∧ w'.cell? ⟨g', 0, none⟩ = some (.int .i64 1) ∧ Below W.heap.size W w' := by
  refine (rest_ok 5 a a' 2 4 [0, 1] [0, 1, 0, 1] W hh hl (by unfold maxLen; decide) (by unfold maxLen; decide) lasso_01 (by decide) (by decide)).mono ?_
  rintro e w' ⟨p, k, g, g', he, hi, hb⟩
  obtain ⟨rfl, rfl⟩ := hi.sh.unique short_01
  refine ⟨g, g', he, ?_, hb⟩
  rcases hi.loop.ints with h0 | ⟨b, off, hab, hc⟩
  · have := congrArg List.length h0; simp [length_pieceOf] at this
  · simp only [Option.some.injEq, Addr.mk.injEq] at hab
    obtain ⟨rfl, rfl, _⟩ := hab
    have := hc 0 (by rw [length_pieceOf]; omega)
    rw [getD_pieceOf _ _ _ _ (by omega)] at this
    simp only [letF_01] at this
    simpa using this

theorem same_lists (a a' : Option Addr) (n n' c c' : Nat) (xs ys : List Int) (w : World) (hx : Ints w a xs) (hy : Ints w a' ys) (e : xs = ys) (h1 : xs.length = n) (h2 : ys.length = n') (hm : n ≤ 60) :
    Calls Try.prog 24 #[.slice a n c, .slice a' n' c'] w fun e w' => e = .returned (.bool true) ∧ Below w.heap.size w w' := by
  subst e h1 h2
  refine (sameWords_any a a' c c' xs xs w hx hy (by unfold maxLen; omega) (by unfold maxLen; omega)).mono ?_
  rintro e w' ⟨rfl, n, rfl⟩
  exact ⟨by simp, below_drewN (Below.refl _ _) _⟩

end Go.Proofs.Ythccdfjmkdcehaa
