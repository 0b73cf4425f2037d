/- Lasso: what the reference says of it, as a number. -/
/- Lasso: the reference's. -/
/- Lasso: the program's, the reference's, that of automata. -/
import Derived.Test.YtaangdomdeklhaaULasV
import Derived.Test.YtaangdomdeklhaaSay
import Derived.Test.YtaangdomdeklhaaMyP
import Derived.Test.YtaangdomdeklhaaUAccR
namespace Go.Proofs.Ytaangdomdeklhaa
open Go.RowKit
set_option linter.unusedVariables false

def lassoF (n : Int) (h l : List Int) : Int := if mayF n h = 0 then if mayF n l = 0 then if l.length = 0 then 1 else 0 else mayF n l else mayF n h
theorem lasso_word {l : Int} {h k : List Int} (e : lassoF l h k = 0) : mayF l h = 0 ∧ mayF l k = 0 ∧ k.length ≠ 0 := by
  unfold lassoF at e
  by_cases h1 : mayF l h = 0
  · rw [if_pos h1] at e
    by_cases h2 : mayF l k = 0
    · rw [if_pos h2] at e
      by_cases h3 : k.length = 0
      · rw [if_pos h3] at e; omega
      · exact ⟨h1, h2, h3⟩
    · rw [if_neg h2] at e; exact absurd e h2
  · rw [if_neg h1] at e; exact absurd e h1

end Go.Proofs.Ytaangdomdeklhaa

namespace Go.Proofs.Ytaangdomdeklhaa
open Go.RowKit
set_option linter.unusedVariables false

set_option maxHeartbeats 1600000 in
theorem lassoR_any (n : Int) (a a' : Option Addr) (c c' : Nat) (h l : List Int) (w : World) (hh : Ints w a h) (hl : Ints w a' l) (hm : h.length ≤ maxLen) (hm' : l.length ≤ maxLen) :
    Calls Try.prog 31 #[.int .i64 n, lasV a h.length c a' l.length c'] w (Says (.int .i64 (lassoF n h l)) w) := by
  have hb : ∀ o, w.grownBy (w.alloc o) none := fun o => grown_alloc w o
  have HB : Hid (∀ o, w.grownBy (w.alloc o) none) := hb
  have HF : Hid (lassoF n h l = if mayF n h = 0 then if mayF n l = 0 then if l.length = 0 then 1 else 0 else mayF n l else mayF n h) := rfl
  have h1 := fun o => mayR_any n a c h (w.alloc o) (hh.grown (hb o)) hm
  have h2 := fun o => mayR_any n a' c' l (w.alloc o) (hl.grown (hb o)) hm'
  have H1 : Hid (∀ o, Calls Try.prog 12 #[.int .i64 n, .slice a h.length c] (w.alloc o) fun e w' => e = .returned (.int .i64 (mayF n h)) ∧ w' = w.alloc o) := h1
  have H2 : Hid (∀ o, Calls Try.prog 12 #[.int .i64 n, .slice a' l.length c'] (w.alloc o) fun e w' => e = .returned (.int .i64 (mayF n l)) ∧ w' = w.alloc o) := h2
  clear h1 h2 hh hl hb
  generalize mayF n h = x at *
  generalize mayF n l = y at *
  by_cases hx : x = 0
  · subst hx
    go_enter Try.func31, Try.ntmps31
    go_wp2_with fail
    refine (H1.out _).mono ?_
    rintro e w' ⟨rfl, rfl⟩
    go_wp2_with fail
    refine (H2.out _).mono ?_
    rintro e w' ⟨rfl, rfl⟩
    by_cases hy : y = 0
    · subst hy
      by_cases hz : l.length = 0
      · have hz' : ((l.length : Int) == 0) = true := by simp [hz]
        go_wp2
        go_ret
        exact ⟨ret_int (by rw [HF.out]; simp [hz]), HB.out _⟩
      · have hz' : ((l.length : Int) == 0) = false := by simp; simpa using hz
        go_wp2
        go_ret
        exact ⟨ret_int (by rw [HF.out]; simp [hz]), HB.out _⟩
    · have hy' : (y == 0) = false := by simpa using hy
      have hy'' : (y != 0) = true := by simpa using hy
      go_wp2
      go_ret
      exact ⟨ret_int (by rw [HF.out]; simp [hy]), HB.out _⟩
  · have hx' : (x == 0) = false := by simpa using hx
    have hx'' : (x != 0) = true := by simpa using hx
    go_enter Try.func31, Try.ntmps31
    go_wp2_with fail
    refine (H1.out _).mono ?_
    rintro e w' ⟨rfl, rfl⟩
    go_wp2
    go_ret
    exact ⟨ret_int (by rw [HF.out]; rw [if_neg hx]), HB.out _⟩

end Go.Proofs.Ytaangdomdeklhaa

namespace Go.Proofs.Ytaangdomdeklhaa
open Go.RowKit
set_option linter.unusedVariables false

set_option maxHeartbeats 1600000 in
set_option maxRecDepth 100000 in
theorem lasso7_any (L N : Int) (a b e : Option Addr) (n c k d m f : Nat) (ah al : Option Addr) (ch cl : Nat) (h l : List Int) (w : World) (hh : Ints w ah h) (hl : Ints w al l) (hm : h.length ≤ maxLen) (hm' : l.length ≤ maxLen) :
    Calls Try.prog 18 #[autV L N a n c b k d e m f, lasV ah h.length ch al l.length cl] w (Says (.int .i64 (lassoF L h l)) w) := by
  have HB : Hid (∀ o o', w.grownBy ((w.alloc o).alloc o') none) := fun o o' => grown_trans (grown_alloc _ _) (grown_alloc _ _)
  have H1 : Hid (∀ o o', Calls Try.prog 31 #[.int .i64 L, lasV ah h.length ch al l.length cl] ((w.alloc o).alloc o') (Says (.int .i64 (lassoF L h l)) ((w.alloc o).alloc o'))) := fun o o' => lassoR_any L ah al ch cl h l _ (hh.grown (HB.out o o')) (hl.grown (HB.out o o')) hm hm'
  clear hh hl hm hm'
  generalize h.length = p at *
  generalize l.length = q at *
  generalize lassoF L h l = z at *
  have bx : ∀ o', (((w.alloc (.cells #[.int .i64 L, .int .i64 N, .slice a n c, .slice b k d, .slice e m f] 25)).alloc o')).cell? ⟨w.heap.size, 0, none⟩ = some (.int .i64 L) := fun o' => (box5 (t := 25) (grown_alloc _ _)).1
  go_enter Try.func18, Try.ntmps18
  go_wp2_with fail
  refine (H1.out _ _).mono ?_
  rintro E w5 ⟨rfl, hg5⟩
  have GF : Hid (w.grownBy w5 none) := grown_trans (HB.out _ _) hg5
  clear hg5 bx
  go_wp2_with fail
  go_ret
  exact ⟨rfl, GF.out⟩

end Go.Proofs.Ytaangdomdeklhaa
