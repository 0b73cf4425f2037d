/- The reference's least lasso of what is left behind n letters, at every lasso that may be. -/
import Derived.Test.YthccdfjmkdcehaaLeast
namespace Go.Proofs.Ythccdfjmkdcehaa
open Go.RowKit
set_option linter.unusedVariables false

theorem letF_near {h l : List Int} {n : Nat} (hn : h.length ≤ n) (h0 : 0 < l.length) (m : Nat) : letF h l (h.length + (n - h.length) % l.length + m) = letF h l (n + m) := by
  unfold letF
  rw [if_neg (by omega), if_neg (by omega)]
  congr 1
  rw [show h.length + (n - h.length) % l.length + m - h.length = (n - h.length) % l.length + m by omega, show n + m - h.length = (n - h.length) + m by omega, Nat.mod_add_mod]

theorem least_any (n : Nat) (a a' : Option Addr) (c c' : Nat) (h l : List Int) (w : World) (hh : Ints w a h) (hl : Ints w a' l) (hm : h.length ≤ 60) (hm' : l.length ≤ 60) (hl0 : 0 < l.length) (hn : (n : Int) ≤ 9223372036854775807) :
    Calls Try.prog 22 #[.agg #[.slice a h.length c, .slice a' l.length c'], .int .i64 n] w fun e w' => ∃ (p k : Nat) (a0 : Option Addr) (d0 : Nat) (a1 : Option Addr) (d1 : Nat), e = .returned (.agg #[.slice a0 k d0, .slice a1 p d1]) ∧ Shortest (fun m => letF h l (n + m)) k p ∧ k ≤ 60 ∧ p ≤ 60 ∧ Ints w' a0 (pieceOf (fun m => letF h l (n + m)) 0 k) ∧ Ints w' a1 (pieceOf (fun m => letF h l (n + m)) k p) ∧ Below w.heap.size w w' := by
  have hround : Round (fun m => letF h l (n + m)) h.length l.length := by
    intro m hmm
    show letF h l (n + (m + l.length)) = letF h l (n + m)
    rw [← Nat.add_assoc]
    exact letF_round h l (n + m) (by omega)
  have HSame : ∀ (W : World) (a0 : Option Addr) (d0 : Nat) (a1 : Option Addr) (d1 : Nat) (b0 : Option Addr) (e0 : Nat) (b1 : Option Addr) (e1 hd lp : Nat), Ints W a0 (pieceOf (fun m => letF h l (n + m)) 0 hd) → Ints W a1 (pieceOf (fun m => letF h l (n + m)) hd lp) → Ints W b0 (pieceOf (fun m => letF h l (n + m)) 0 h.length) → Ints W b1 (pieceOf (fun m => letF h l (n + m)) h.length l.length) → 0 < lp → hd ≤ 60 → lp ≤ 60 → Calls Try.prog 16 #[.agg #[.slice a0 hd d0, .slice a1 lp d1], .agg #[.slice b0 h.length e0, .slice b1 l.length e1]] W fun e w' => e = .returned (.bool (sameF (pieceOf (fun m => letF h l (n + m)) 0 hd) (pieceOf (fun m => letF h l (n + m)) hd lp) (pieceOf (fun m => letF h l (n + m)) 0 h.length) (pieceOf (fun m => letF h l (n + m)) h.length l.length))) ∧ Below W.heap.size W w' := by
    intro W a0 d0 a1 d1 b0 e0 b1 e1 hd lp i1 i2 i3 i4 h1 h2 h3
    have := sameR_any a0 a1 b0 b1 d0 d1 e0 e1 _ _ _ _ W i1 i2 i3 i4 (by rw [length_pieceOf]; exact h2) (by rw [length_pieceOf]; exact h3) (by rw [length_pieceOf]; exact hm) (by rw [length_pieceOf]; exact hm') (by rw [length_pieceOf]; exact h1) (by rw [length_pieceOf]; exact hl0)
    simpa only [length_pieceOf] using this
  by_cases hnh : n ≤ h.length
  · refine least_A n n a a' c c' h l _ w hm hm' hl0 hn rfl hnh hround ?_ HSame
    intro W x hI lI hd lp hW hx hy hz h1 h2
    subst hx hy hz
    exact part_lists n hd lp a a' c c' h l W (hh.later hW) (hl.later hW) hm hm' hl0 (by omega) h1 h2 (fun m => rfl)
  · have hlt : (n - h.length) % l.length < l.length := Nat.mod_lt _ hl0
    refine least_B n (h.length + (n - h.length) % l.length) a a' c c' h l _ w hm hm' hl0 hn (n - h.length) ((n - h.length) % l.length) (by omega) rfl rfl (by omega) hround ?_ HSame
    intro W x hI lI hd lp hW hx hy hz h1 h2
    subst hx hy hz
    exact part_lists (h.length + (n - h.length) % l.length) hd lp a a' c c' h l W (hh.later hW) (hl.later hW) hm hm' hl0 (by omega) h1 h2 (letF_near (by omega) hl0)

theorem alike_true (a a' b b' : Option Addr) (n n' c c' d d' : Nat) (h l : List Int) (w : World) (hh : Ints w a h) (hl : Ints w a' l) (gh : Ints w b h) (gl : Ints w b' l) (e1 : h.length = n) (e2 : l.length = n') (hm : h.length ≤ maxLen) (hm' : l.length ≤ maxLen) :
    Calls Try.prog 20 #[.agg #[.slice a n c, .slice a' n' c'], .agg #[.slice b n d, .slice b' n' d']] w fun e w' => e = .returned (.bool true) ∧ Below w.heap.size w w' := by
  have := alike_any a a' b b' n n' n n' c c' d d' h l h l w hh hl gh gl e1 e2 e1 e2 hm hm' hm hm'
  simpa using this

end Go.Proofs.Ythccdfjmkdcehaa
