/- The law's fits, over the reference's At. -/
/- What the law BuchiSome calls beside: noLasso, Lasso of the reference. -/
import Derived.Test.YteodlmgaemfiiaaUShortD
import Derived.Test.YteodlmgaemfiiaaMay
namespace Go.Proofs.Yteodlmgaemfiiaa
open Go.RowKit
set_option linter.unusedVariables false

theorem boxL2 (w : World) (v0 v1 : Value) : ∃ W, W = w.alloc (.cells #[v0, v1] 42) ∧ w.grownBy W none ∧ ∀ W', W.grownBy W' none → W'.cell? ⟨w.heap.size, 0, none⟩ = some v0 ∧ W'.cell? ⟨w.heap.size, 1, none⟩ = some v1 := by
  refine ⟨_, rfl, grown_alloc _ _, fun W' h => ?_⟩
  have hb := heap_alloc_new w (.cells #[v0, v1] 42)
  exact ⟨h.cell (by rw [cell_of_row _ _ 0 _ _ (0, 0) hb]; rfl) (by simp), h.cell (by rw [cell_of_row _ _ 1 _ _ (0, 0) hb]; rfl) (by simp)⟩

def letF (h l : List Int) (n : Nat) : Int := if n < h.length then h.getD n 0 else l.getD ((n - h.length) % l.length) 0
set_option maxHeartbeats 1600000 in
theorem at_any (n : Nat) (a a' : Option Addr) (c c' : Nat) (h l : List Int) (w : World) (hh : Ints w a h) (hl : Ints w a' l) (hm : h.length ≤ 1000) (hm' : l.length ≤ 1000) (hn : n ≤ 5000) (hl0 : 0 < l.length) :
    Calls Try.prog 47 #[lasV a h.length c a' l.length c', .int .i64 n] w (Says (.int .i64 (letF h l n)) w) := by
  have hb : ∀ o, w.grownBy (w.alloc o) none := fun o => grown_alloc w o
  have HB : Hid (∀ o, w.grownBy (w.alloc o) none) := hb
  by_cases h1 : n < h.length
  · have HF : Hid (letF h l n = h.getD n 0) := if_pos h1
    obtain ⟨b, off, rfl, hc⟩ := hh.at h1
    have hck : ∀ o, (w.alloc o).cell? ⟨b, off + n, none⟩ = some (.int .i64 (h.getD n 0)) := fun o => (hb o).cell (hc n h1) (by simp)
    clear hc hh hl hb
    generalize h.getD n 0 = x at *
    go_enter Try.func47, Try.ntmps47
    go_wp2
    go_ret
    exact ⟨ret_int HF.out.symm, HB.out _⟩
  · have HF : Hid (letF h l n = l.getD ((n - h.length) % l.length) 0) := if_neg h1
    have hlt : (n - h.length) % l.length < l.length := Nat.mod_lt _ hl0
    obtain ⟨b, off, rfl, hc⟩ := hl.at hl0
    have hck : ∀ o, (w.alloc o).cell? ⟨b, off + (n - h.length) % l.length, none⟩ = some (.int .i64 (l.getD ((n - h.length) % l.length) 0)) := fun o => (hb o).cell (hc _ hlt) (by simp)
    clear hc hh hl hb
    have h1' : ¬ ((n : Int) < (h.length : Int)) := by omega
    have e1 : IntKind.i64.wrap ((n : Int) - (h.length : Int)) = ((n - h.length : Nat) : Int) := by
      rw [show (n : Int) - (h.length : Int) = ((n - h.length : Nat) : Int) by omega]
      exact IntWalk.i64_in _ (by omega)
    have hlt' : (((n - h.length) % l.length : Nat) : Int) < (l.length : Int) := by omega
    generalize l.getD ((n - h.length) % l.length) 0 = x at *
    go_enter Try.func47, Try.ntmps47
    go_wp2
    go_quiet (fail)
    go_wp2
    go_ret
    exact ⟨ret_int HF.out.symm, grown_drewN (HB.out _) _⟩

theorem letF_in {hd lp : List Nat} {l : Nat} (h1 : ∀ a, a ∈ hd → a < l) (h2 : ∀ a, a ∈ lp → a < l) (h3 : 1 ≤ lp.length) (n : Nat) : 0 ≤ letF (natInts hd) (natInts lp) n ∧ letF (natInts hd) (natInts lp) n < l := by
  have key : ∀ (zs : List Nat), (∀ a, a ∈ zs → a < l) → ∀ i, i < zs.length → 0 ≤ (natInts zs).getD i 0 ∧ (natInts zs).getD i 0 < l := fun zs hz i hi => by
    have e1 : (natInts zs).getD i 0 = ((zs.getD i 0 : Nat) : Int) := by simp [natInts, List.getD, hi]
    have e2 : zs.getD i 0 < l := hz _ (by rw [List.getD, List.getElem?_eq_getElem hi]; exact List.getElem_mem _)
    rw [e1]; omega
  unfold letF
  have e : (natInts lp).length = lp.length := by simp [natInts]
  have e' : (natInts hd).length = hd.length := by simp [natInts]
  split
  · next h => exact key hd h1 n (by omega)
  · exact key lp h2 _ (by rw [e]; exact Nat.mod_lt _ (by omega))

set_option maxHeartbeats 1600000 in
set_option maxRecDepth 100000 in
theorem fits_any {T : List StepI} {ss fs l : Nat} {hd lp : List Nat} (hB : Best T ss fs l hd lp) (a a' : Option Addr) (c c' : Nat) (w : World) (hh : Ints w a (natInts hd)) (hl : Ints w a' (natInts lp)) :
    Calls Try.prog 23 #[lasV a hd.length c a' lp.length c', .int .i64 l, .int .i64 300] w (Says (.bool true) w) := by
  obtain ⟨n1, hn1⟩ : ∃ n1, hd.length = n1 := ⟨_, rfl⟩
  obtain ⟨n2, hn2⟩ : ∃ n2, lp.length = n2 := ⟨_, rfl⟩
  have b1 := hB.h3
  have b2 := hB.l3
  have b3 := hB.l1
  have HAt : Hid (∀ k, k < n1 + n2 → ∀ W, w.grownBy W none → Calls Try.prog 47 #[lasV a n1 c a' n2 c', .int .i64 (k : Int)] W fun e w' => ∃ z : Int, e = .returned (.int .i64 z) ∧ 0 ≤ z ∧ z < l ∧ W.grownBy w' none) := fun k hk W hW => by
    have h1 := at_any k a a' c c' (natInts hd) (natInts lp) W (hh.grown hW) (hl.grown hW) (by simp [natInts]; omega) (by simp [natInts]; omega) (by omega) (by simp [natInts]; omega)
    have e : (natInts lp).length = n2 := by simp [natInts, hn2]
    have e' : (natInts hd).length = n1 := by simp [natInts, hn1]
    rw [e, e'] at h1
    refine h1.mono fun E w' h => ?_
    have h2 := letF_in hB.hl hB.ll hB.l1 k
    exact ⟨_, h.1, h2.1, h2.2, h.2⟩
  rw [hn1, hn2]
  rw [hn1] at b1
  rw [hn2] at b2 b3
  obtain ⟨W1, hW1, g1, bx⟩ := boxL2 w (.slice a n1 c) (.slice a' n2 c')
  have HW1 : Hid (W1 = w.alloc (.cells #[.slice a n1 c, .slice a' n2 c'] 42)) := hW1
  have G1 : Hid (w.grownBy W1 none) := g1
  have BX : Hid (∀ W', W1.grownBy W' none → W'.cell? ⟨w.heap.size, 0, none⟩ = some (.slice a n1 c) ∧ W'.cell? ⟨w.heap.size, 1, none⟩ = some (.slice a' n2 c')) := bx
  have c1 : ¬ (300 : Int) < (n1 : Int) := by omega
  have c2 : ¬ (300 : Int) < (n2 : Int) := by omega
  have c3 : ((n2 : Int) == 0) = false := by simp; omega
  have w1 : IntKind.i64.wrap ((n1 : Int) + n2) = (n1 : Int) + n2 := by rw [IntKind.wrap_i64]; omega
  clear hh hl hB hn1 hn2 hW1 g1 bx
  go_enter Try.func23, Try.ntmps23
  go_wp2_with fail
  rw [← HW1.out]
  clear HW1
  go_loopw [7] (fun v wr => ∃ k : Nat, k ≤ n1 + n2 ∧ v = .int .i64 k ∧ W1.grownBy wr none) (fun v _ => n1 + n2 - (intOf v).toNat)
  case atStart => exact ⟨0, by omega, rfl, grown_refl _ _⟩
  case round =>
    rename World => wr
    obtain ⟨k, hk, rfl, hg⟩ := hrel
    have G : Hid (W1.grownBy wr none) := hg
    obtain ⟨x0, x1⟩ := BX.out wr hg
    clear hg
    by_cases hlt : k < n1 + n2
    · have hki : (k : Int) < (n1 : Int) + n2 := by omega
      go_wp2_with fail
      refine (HAt.out k hlt wr (grown_trans G1.out G.out)).mono ?_
      rintro E w5 ⟨z, rfl, hz0, hz1, hg5⟩
      have G5 : Hid (W1.grownBy w5 none) := grown_trans G.out hg5
      have z0 : ¬ z < 0 := by omega
      have z1 : ¬ (l : Int) ≤ z := by omega
      clear hg5 x0 x1
      go_wp2_with fail
      go_roundw
      case rel => exact ⟨k + 1, by omega, by go_num, G5.out⟩
      case measure => simp [intOf]; omega
    · have hki : ¬ (k : Int) < (n1 : Int) + n2 := by omega
      have GF : Hid (w.grownBy wr none) := grown_trans G1.out G.out
      go_wp2_with fail
      go_ret
      exact ⟨rfl, GF.out⟩

end Go.Proofs.Yteodlmgaemfiiaa

namespace Go.Proofs.Yteodlmgaemfiiaa
open Go.RowKit
set_option linter.unusedVariables false

set_option maxHeartbeats 1600000 in
theorem noLasso_yes (a a' : Option Addr) (c c' : Nat) (w : World) : Calls Try.prog 22 #[lasV a 0 c a' 0 c'] w (Says (.bool true) w) := by
  have G : Hid (∀ o, w.grownBy (w.alloc o) none) := fun o => grown_alloc w o
  go_enter Try.func22, Try.ntmps22
  go_wp2_with fail
  go_ret
  exact ⟨rfl, G.out _⟩
set_option maxHeartbeats 1600000 in
theorem noLasso_any (a a' : Option Addr) (p q c c' : Nat) (w : World) (hp : p ≤ 1000) (hq : q ≤ 1000) : Calls Try.prog 22 #[lasV a p c a' q c'] w (TellsAny w) := by
  have w1 : IntKind.i64.wrap ((p : Int) + q) = (p : Int) + q := by rw [IntKind.wrap_i64]; omega
  have G : Hid (∀ o, w.grownBy (w.alloc o) none) := fun o => grown_alloc w o
  go_enter Try.func22, Try.ntmps22
  go_wp2_with fail
  go_ret
  exact ⟨_, rfl, G.out _⟩

def lassoF (n : Int) (h l : List Int) : Int := if mayF n h = 0 then if mayF n l = 0 then if l.length = 0 then 1 else 0 else mayF n l else mayF n h
set_option maxHeartbeats 1600000 in
theorem lassoR_any (n : Int) (a a' : Option Addr) (c c' : Nat) (h l : List Int) (w : World) (hh : Ints w a h) (hl : Ints w a' l) (hm : h.length ≤ maxLen) (hm' : l.length ≤ maxLen) :
    Calls Try.prog 43 #[.int .i64 n, lasV a h.length c a' l.length c'] w (Says (.int .i64 (lassoF n h l)) w) := by
  have hb : ∀ o, w.grownBy (w.alloc o) none := fun o => grown_alloc w o
  have HB : Hid (∀ o, w.grownBy (w.alloc o) none) := hb
  have HF : Hid (lassoF n h l = if mayF n h = 0 then if mayF n l = 0 then if l.length = 0 then 1 else 0 else mayF n l else mayF n h) := rfl
  have h1 := fun o => mayR_any n a c h (w.alloc o) (hh.grown (hb o)) hm
  have h2 := fun o => mayR_any n a' c' l (w.alloc o) (hl.grown (hb o)) hm'
  have H1 : Hid (∀ o, Calls Try.prog 14 #[.int .i64 n, .slice a h.length c] (w.alloc o) fun e w' => e = .returned (.int .i64 (mayF n h)) ∧ w' = w.alloc o) := h1
  have H2 : Hid (∀ o, Calls Try.prog 14 #[.int .i64 n, .slice a' l.length c'] (w.alloc o) fun e w' => e = .returned (.int .i64 (mayF n l)) ∧ w' = w.alloc o) := h2
  clear h1 h2 hh hl hb
  generalize mayF n h = x at *
  generalize mayF n l = y at *
  by_cases hx : x = 0
  · subst hx
    go_enter Try.func43, Try.ntmps43
    go_wp2_with fail
    refine (H1.out _).mono ?_
    rintro e w' ⟨rfl, rfl⟩
    go_wp2_with fail
    refine (H2.out _).mono ?_
    rintro e w' ⟨rfl, rfl⟩
    by_cases hy : y = 0
    · subst hy
      by_cases hz : l.length = 0
      · have hz' : ((l.length : Int) == 0) = true := by simp [hz]
        go_wp2
        go_ret
        exact ⟨ret_int (by rw [HF.out]; simp [hz]), HB.out _⟩
      · have hz' : ((l.length : Int) == 0) = false := by simp; simpa using hz
        go_wp2
        go_ret
        exact ⟨ret_int (by rw [HF.out]; simp [hz]), HB.out _⟩
    · have hy' : (y == 0) = false := by simpa using hy
      have hy'' : (y != 0) = true := by simpa using hy
      go_wp2
      go_ret
      exact ⟨ret_int (by rw [HF.out]; simp [hy]), HB.out _⟩
  · have hx' : (x == 0) = false := by simpa using hx
    have hx'' : (x != 0) = true := by simpa using hx
    go_enter Try.func43, Try.ntmps43
    go_wp2_with fail
    refine (H1.out _).mono ?_
    rintro e w' ⟨rfl, rfl⟩
    go_wp2
    go_ret
    exact ⟨ret_int (by rw [HF.out]; rw [if_neg hx]), HB.out _⟩

set_option maxHeartbeats 1600000 in
set_option maxRecDepth 100000 in
theorem lasso7_any (L N : Int) (a b e : Option Addr) (n c k d m f : Nat) (ah al : Option Addr) (ch cl : Nat) (h l : List Int) (w : World) (hh : Ints w ah h) (hl : Ints w al l) (hm : h.length ≤ maxLen) (hm' : l.length ≤ maxLen) :
    Calls Try.prog 19 #[autV L N a n c b k d e m f, lasV ah h.length ch al l.length cl] w (Says (.int .i64 (lassoF L h l)) w) := by
  have HB : Hid (∀ o o', w.grownBy ((w.alloc o).alloc o') none) := fun o o' => grown_trans (grown_alloc _ _) (grown_alloc _ _)
  have H1 : Hid (∀ o o', Calls Try.prog 43 #[.int .i64 L, lasV ah h.length ch al l.length cl] ((w.alloc o).alloc o') (Says (.int .i64 (lassoF L h l)) ((w.alloc o).alloc o'))) := fun o o' => lassoR_any L ah al ch cl h l _ (hh.grown (HB.out o o')) (hl.grown (HB.out o o')) hm hm'
  clear hh hl hm hm'
  generalize h.length = p at *
  generalize l.length = q at *
  generalize lassoF L h l = z at *
  have bx : ∀ o', (((w.alloc (.cells #[.int .i64 L, .int .i64 N, .slice a n c, .slice b k d, .slice e m f] 25)).alloc o')).cell? ⟨w.heap.size, 0, none⟩ = some (.int .i64 L) := fun o' => (box5 (t := 25) (grown_alloc _ _)).1
  go_enter Try.func19, Try.ntmps19
  go_wp2_with fail
  refine (H1.out _ _).mono ?_
  rintro E w5 ⟨rfl, hg5⟩
  have GF : Hid (w.grownBy w5 none) := grown_trans (HB.out _ _) hg5
  clear hg5 bx
  go_wp2_with fail
  go_ret
  exact ⟨rfl, GF.out⟩

end Go.Proofs.Yteodlmgaemfiiaa
