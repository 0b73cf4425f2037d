/- Two rows paired: the program's rowPaired; the law's noWeigh. -/
import Derived.Test.YtkmcbdjcolbknaaNuPlus
import Derived.Test.YtkmcbdjcolbknaaWeWei
namespace Go.Proofs.Ytkmcbdjcolbknaa
open Go.RowKit
set_option linter.unusedVariables false
set_option linter.unusedSimpArgs false

/-- A row of numbers of one's own is answered. -/
def RowI (l : List Int) (w : World) (e : Ending) (w' : World) : Prop := ∃ a c, e = .returned (.slice a l.length c) ∧ OwnN w w' a c l
theorem kroR_snoc {v u : List Int} {i : Nat} (hi : i < v.length) : kroR (v.take (i + 1)) u = kroR (v.take i) u ++ u.map fun y => v.getD i 0 * y := by
  rw [take_snocZ hi]
  unfold kroR
  rw [List.flatMap_append]
  simp
theorem map_snoc {u : List Int} {j : Nat} (x : Int) (hj : j < u.length) : ((u.take (j + 1)).map fun y => x * y) = ((u.take j).map fun y => x * y) ++ [x * u.getD j 0] := by
  rw [take_snocZ hj, List.map_append]
  rfl

theorem mul_bound {x y : Int} (h1 : -1000 ≤ x) (h2 : x ≤ 1000) (h3 : -1000 ≤ y) (h4 : y ≤ 1000) : -1000000 ≤ x * y ∧ x * y ≤ 1000000 := by
  have e : (x * y).natAbs ≤ 1000 * 1000 := by rw [Int.natAbs_mul]; exact Nat.mul_le_mul (by omega) (by omega)
  omega

attribute [local go_sem ↓] appY_fold in
set_option maxHeartbeats 3200000 in
set_option maxRecDepth 100000 in
theorem rowPaired_any (v u : List Int) (a1 a2 : Option Addr) (n m c1 c2 : Nat) (w : World) (h1 : Ints w a1 v) (h2 : Ints w a2 u) (e1 : v.length = n) (e2 : u.length = m) (hn : n ≤ 30) (hm : m ≤ 30) (b1 : InW v 1000) (b2 : InW u 1000) :
    Calls Try.prog 24 #[.slice a1 n c1, .slice a2 m c2] w (RowI (kroR v u) w) := by
  have H1 : Hid (Ints w a1 v) := h1
  have H2 : Hid (Ints w a2 u) := h2
  have E : Hid (v.length = n ∧ u.length = m) := ⟨e1, e2⟩
  have B : Hid (InW v 1000 ∧ InW u 1000) := ⟨b1, b2⟩
  have HM : Hid (∀ i, i ≤ n → i * m ≤ 900) := fun i hi => Nat.le_trans (Nat.mul_le_mul (Nat.le_trans hi hn) hm) (by omega)
  obtain ⟨Po, hPo⟩ : ∃ P, P = RowI (kroR v u) w := ⟨_, rfl⟩
  have HPo : Hid (Po = RowI (kroR v u) w) := hPo
  rw [← hPo]
  clear h1 h2 e1 e2 b1 b2 hPo
  go_enter Try.func24, Try.ntmps24
  go_wp2_with fail
  go_loopw [12, 5] (fun p q W => ∃ (i : Nat) (a : Option Addr) (c N : Nat) (zs : List Int), p = .int .i64 i ∧ q = .slice a N c ∧ i ≤ n ∧ OwnN w W a c zs ∧ zs.length = N ∧ zs = kroR (v.take i) u) (fun p _ _ => n - (intOf p).toNat)
  case atStart => exact ⟨0, none, 0, 0, [], rfl, rfl, Nat.zero_le _, OwnN.nil (grown_refl _ _), rfl, rfl⟩
  case round =>
    obtain ⟨wo, hwo⟩ : ∃ W, W = wr := ⟨_, rfl⟩
    subst hwo
    obtain ⟨i, a, c, N, zs, rfl, rfl, hi, ho, hN, hz⟩ := hrel
    have HO : Hid (OwnN w wo a c zs ∧ zs.length = N ∧ zs = kroR (v.take i) u) := ⟨ho, hN, hz⟩
    clear ho hN hz
    by_cases hlt : i < n
    · have i1 : (i : Int) < (n : Int) := by omega
      have hiv : i < v.length := by rw [E.out.1]; exact hlt
      obtain ⟨b, off, rfl, hc⟩ := (H1.out.grown HO.out.1.gr).at hiv
      have q1 := hc i hiv
      obtain ⟨x, hx⟩ : ∃ x, v.getD i 0 = x := ⟨_, rfl⟩
      have HX : Hid (v.getD i 0 = x) := hx
      rw [hx] at q1
      have bx := B.out.1.at hiv
      rw [hx] at bx
      obtain ⟨bx0, bx1⟩ := bx
      clear hc hx
      go_wp2_with fail
      clear q1
      go_loopw [18, 5] (fun p q W => ∃ (j : Nat) (a' : Option Addr) (c' M : Nat) (ys : List Int), p = .int .i64 j ∧ q = .slice a' M c' ∧ j ≤ m ∧ OwnN w W a' c' ys ∧ ys.length = M ∧ M ≤ 900 ∧ ys = zs ++ (u.take j).map fun y => x * y) (fun p _ _ => m - (intOf p).toNat)
      case atStart =>
        have hNl : N ≤ 900 := by
          rw [← HO.out.2.1, HO.out.2.2, kroR_len, List.length_take, E.out.2]
          exact Nat.le_trans (Nat.mul_le_mul (Nat.min_le_left _ _) (Nat.le_refl _)) (HM.out i hi)
        exact ⟨0, a, c, N, zs, rfl, rfl, Nat.zero_le _, HO.out.1, HO.out.2.1, hNl, by simp⟩
      case round =>
        obtain ⟨wi, hwi⟩ : ∃ W, W = wr := ⟨_, rfl⟩
        subst hwi
        obtain ⟨j, a', c', M, ys, rfl, rfl, hj, ho, hM, hM9, hy⟩ := hrel
        have HI : Hid (OwnN w wi a' c' ys ∧ ys.length = M ∧ ys = zs ++ (u.take j).map fun y => x * y) := ⟨ho, hM, hy⟩
        clear ho hM hy
        by_cases hlj : j < m
        · have i2 : (j : Int) < (m : Int) := by omega
          have hju : j < u.length := by rw [E.out.2]; exact hlj
          obtain ⟨b2, off2, rfl, hc⟩ := (H2.out.grown HI.out.1.gr).at hju
          have q2 := hc j hju
          obtain ⟨y, hy⟩ : ∃ y, u.getD j 0 = y := ⟨_, rfl⟩
          rw [hy] at q2
          have by' := B.out.2.at hju
          rw [hy] at by'
          obtain ⟨by0, by1⟩ := by'
          have hp : -1000000 ≤ x * y ∧ x * y ≤ 1000000 := mul_bound (by omega) (by omega) by0 by1
          have wp : IntKind.i64.wrap (x * y) = x * y := by rw [IntKind.wrap_i64]; omega
          obtain ⟨a6, c6, w6, hrun, hown⟩ := HI.out.1.one HI.out.2.1 hM9 (x * y)
          have HI6 : Hid (OwnN w w6 a6 c6 (ys ++ [x * y]) ∧ (ys ++ [x * y]).length = M + 1 ∧ ys ++ [x * y] = zs ++ (u.take (j + 1)).map fun y => x * y) := ⟨hown, by rw [List.length_append, HI.out.2.1]; rfl, by rw [map_snoc x hju, hy, ← List.append_assoc, ← HI.out.2.2]⟩
          have hM1 : M + 1 ≤ 900 := by
            rw [← HI6.out.2.1, HI6.out.2.2, List.length_append, List.length_map, List.length_take, HO.out.2.2, kroR_len, List.length_take, E.out.1, E.out.2, Nat.min_eq_left hi, Nat.min_eq_left (by omega : j + 1 ≤ m)]
            have h1 := HM.out (i + 1) (by omega)
            rw [Nat.succ_mul] at h1
            omega
          clear hc hy hown
          go_wp2_with fail
          go_roundw
          case rel => exact ⟨j + 1, a6, c6, M + 1, _, by go_num, rfl, by omega, HI6.out.1, HI6.out.2.1, hM1, HI6.out.2.2⟩
          case measure => simp [intOf]; omega
        · have i2 : ¬ (j : Int) < (m : Int) := by omega
          have HF : Hid (ys = kroR (v.take (i + 1)) u) := by
            show _ = _
            have e : u.take j = u := List.take_of_length_le (by rw [E.out.2]; omega)
            rw [kroR_snoc hiv, HX.out, HI.out.2.2, e, HO.out.2.2]
          go_wp2_with fail
          go_roundw
          case rel => exact ⟨i + 1, a', c', M, ys, by go_num, rfl, by omega, HI.out.1, HI.out.2.1, HF.out⟩
          case measure => simp [intOf]; omega
    · have i1 : ¬ (i : Int) < (n : Int) := by omega
      have F : Hid (Po (.returned (.slice a N c)) wo) := by
        show Po _ _
        rw [HPo.out]
        have hv := HO.out.2.2
        have e : v.take i = v := List.take_of_length_le (by rw [E.out.1]; omega)
        rw [e] at hv
        exact ⟨a, c, by rw [← hv, HO.out.2.1], hv ▸ HO.out.1⟩
      go_wp2_with fail
      first | exact F.out | (go_ret; exact F.out)

set_option maxHeartbeats 800000 in
theorem noWeigh_any (L : Int) (a1 a2 a3 : Option Addr) (n1 c1 n2 c2 n3 c3 : Nat) (w : World) (m1 : n1 ≤ 1000) (m2 : n2 ≤ 1000) (m3 : n3 ≤ 1000) :
    Calls Try.prog 8 #[wgV L a1 n1 c1 a2 n2 c2 a3 n3 c3] w (TellsB (L = 0 ∧ n1 + n2 + n3 = 0) w) := by
  obtain ⟨W1, hW1, g1, s1, bx⟩ := box4_new w L a1 n1 c1 a2 n2 c2 a3 n3 c3
  have HW1 : Hid (W1 = _) := hW1
  have G : Hid (w.grownBy W1 none) := g1
  have x0 := bx.b0
  have x1 := bx.b1
  have x2 := bx.b2
  have x3 := bx.b3
  rw [hW1] at x0 x1 x2 x3
  clear hW1 g1 s1 bx
  by_cases h0 : L = 0
  · subst h0
    by_cases h1 : n1 + n2 + n3 = 0
    · have e1 : n1 = 0 := by omega
      have e2 : n2 = 0 := by omega
      have e3 : n3 = 0 := by omega
      subst e1 e2 e3
      go_enter Try.func8, Try.ntmps8
      go_wp2_with fail
      rw [← HW1.out]
      go_ret
      exact tellsB true rfl (by simp) G.out
    · have d1 : ((n1 : Int) + (n2 : Int) + (n3 : Int) == 0) = false := by simp; omega
      have HN : Hid (¬ n1 + n2 + n3 = 0) := h1
      clear h1
      go_enter Try.func8, Try.ntmps8
      go_wp2_with fail
      rw [← HW1.out]
      go_ret
      exact tellsB false rfl ⟨(fun e => by cases e), fun e => absurd e.2 HN.out⟩ G.out
  · have d0 : (L == 0) = false := by simpa using h0
    have HN : Hid (¬ L = 0) := h0
    clear h0
    go_enter Try.func8, Try.ntmps8
    go_wp2_with fail
    rw [← HW1.out]
    go_ret
    exact tellsB false rfl ⟨(fun e => by cases e), fun e => absurd e.1 HN.out⟩ G.out
end Go.Proofs.Ytkmcbdjcolbknaa
