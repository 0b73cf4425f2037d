/- Whether a lasso may be: the program's function and the reference's both answer lassoF. -/
import Derived.Test.YthccdfjmkdcehaaMay
namespace Go.Proofs.Ythccdfjmkdcehaa
open Go.RowKit
set_option linter.unusedVariables false

def lassoF (n : Int) (h l : List Int) : Int :=
  if mayF n h = 0 then if mayF n l = 0 then if l.length = 0 then 1 else 0 else mayF n l else mayF n h

set_option maxHeartbeats 400000 in
theorem lasso_any (n : Int) (a a' : Option Addr) (c c' : Nat) (h l : List Int) (w : World) (hh : Ints w a h) (hl : Ints w a' l) (hm : h.length ≤ maxLen) (hm' : l.length ≤ maxLen) :
    Calls Try.prog 11 #[.int .i64 n, .agg #[.slice a h.length c, .slice a' l.length c']] w fun e w' => e = .returned (.int .i64 (lassoF n h l)) ∧ Below w.heap.size w w' := by
  have hb : ∀ o, Below w.heap.size w (w.alloc o) := fun o => (Below.refl _ _).alloc (Nat.le_refl _) o
  have HF : Hid (lassoF n h l = if mayF n h = 0 then if mayF n l = 0 then if l.length = 0 then 1 else 0 else mayF n l else mayF n h) := rfl
  have h1 := fun o => may_any n a c h (w.alloc o) (hh.later (hb o)) hm
  have h2 := fun o => may_any n a' c' l (w.alloc o) (hl.later (hb o)) hm'
  have H1 : Hid (∀ o, Calls Try.prog 9 #[.int .i64 n, .slice a h.length c] (w.alloc o) fun e w' => e = .returned (.int .i64 (mayF n h)) ∧ w' = w.alloc o) := h1
  have H2 : Hid (∀ o, Calls Try.prog 9 #[.int .i64 n, .slice a' l.length c'] (w.alloc o) fun e w' => e = .returned (.int .i64 (mayF n l)) ∧ w' = w.alloc o) := h2
  clear h1 h2 hh hl
  generalize mayF n h = x at *
  generalize mayF n l = y at *
  by_cases hx : x = 0
  · subst hx
    go_enter Try.func11, Try.ntmps11
    go_wp2_with fail
    refine (H1.out _).mono ?_
    rintro e w' ⟨rfl, rfl⟩
    go_wp2_with fail
    refine (H2.out _).mono ?_
    rintro e w' ⟨rfl, rfl⟩
    by_cases hy : y = 0
    · subst hy
      by_cases hz : l.length = 0
      · have hz' : ((l.length : Int) == 0) = true := by simp [hz]
        go_wp2
        go_ret
        exact ⟨ret_int (by rw [HF.out]; simp [hz]), hb _⟩
      · have hz' : ((l.length : Int) == 0) = false := by simp; simpa using hz
        go_wp2
        go_ret
        exact ⟨ret_int (by rw [HF.out]; simp [hz]), hb _⟩
    · have hy' : (y == 0) = false := by simpa using hy
      have hy'' : (y != 0) = true := by simpa using hy
      go_wp2
      go_ret
      exact ⟨ret_int (by rw [HF.out]; simp [hy]), hb _⟩
  · have hx' : (x == 0) = false := by simpa using hx
    have hx'' : (x != 0) = true := by simpa using hx
    go_enter Try.func11, Try.ntmps11
    go_wp2_with fail
    refine (H1.out _).mono ?_
    rintro e w' ⟨rfl, rfl⟩
    go_wp2
    go_ret
    exact ⟨ret_int (by rw [HF.out]; rw [if_neg hx]), hb _⟩

set_option maxHeartbeats 400000 in
theorem lassoR_any (n : Int) (a a' : Option Addr) (c c' : Nat) (h l : List Int) (w : World) (hh : Ints w a h) (hl : Ints w a' l) (hm : h.length ≤ maxLen) (hm' : l.length ≤ maxLen) :
    Calls Try.prog 12 #[.int .i64 n, .agg #[.slice a h.length c, .slice a' l.length c']] w fun e w' => e = .returned (.int .i64 (lassoF n h l)) ∧ Below w.heap.size w w' := by
  have hb : ∀ o, Below w.heap.size w (w.alloc o) := fun o => (Below.refl _ _).alloc (Nat.le_refl _) o
  have HF : Hid (lassoF n h l = if mayF n h = 0 then if mayF n l = 0 then if l.length = 0 then 1 else 0 else mayF n l else mayF n h) := rfl
  have h1 := fun o => mayR_any n a c h (w.alloc o) (hh.later (hb o)) hm
  have h2 := fun o => mayR_any n a' c' l (w.alloc o) (hl.later (hb o)) hm'
  have H1 : Hid (∀ o, Calls Try.prog 10 #[.int .i64 n, .slice a h.length c] (w.alloc o) fun e w' => e = .returned (.int .i64 (mayF n h)) ∧ w' = w.alloc o) := h1
  have H2 : Hid (∀ o, Calls Try.prog 10 #[.int .i64 n, .slice a' l.length c'] (w.alloc o) fun e w' => e = .returned (.int .i64 (mayF n l)) ∧ w' = w.alloc o) := h2
  clear h1 h2 hh hl
  generalize mayF n h = x at *
  generalize mayF n l = y at *
  by_cases hx : x = 0
  · subst hx
    go_enter Try.func12, Try.ntmps12
    go_wp2_with fail
    refine (H1.out _).mono ?_
    rintro e w' ⟨rfl, rfl⟩
    go_wp2_with fail
    refine (H2.out _).mono ?_
    rintro e w' ⟨rfl, rfl⟩
    by_cases hy : y = 0
    · subst hy
      by_cases hz : l.length = 0
      · have hz' : ((l.length : Int) == 0) = true := by simp [hz]
        go_wp2
        go_ret
        exact ⟨ret_int (by rw [HF.out]; simp [hz]), hb _⟩
      · have hz' : ((l.length : Int) == 0) = false := by simp; simpa using hz
        go_wp2
        go_ret
        exact ⟨ret_int (by rw [HF.out]; simp [hz]), hb _⟩
    · have hy' : (y == 0) = false := by simpa using hy
      have hy'' : (y != 0) = true := by simpa using hy
      go_wp2
      go_ret
      exact ⟨ret_int (by rw [HF.out]; simp [hy]), hb _⟩
  · have hx' : (x == 0) = false := by simpa using hx
    have hx'' : (x != 0) = true := by simpa using hx
    go_enter Try.func12, Try.ntmps12
    go_wp2_with fail
    refine (H1.out _).mono ?_
    rintro e w' ⟨rfl, rfl⟩
    go_wp2
    go_ret
    exact ⟨ret_int (by rw [HF.out]; rw [if_neg hx]), hb _⟩

end Go.Proofs.Ythccdfjmkdcehaa
