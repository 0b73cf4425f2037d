/- The program's checks of a machine and of what it hears. -/
import Derived.Test.YtlnlgjbpkjfbjaaYMach
namespace Go.Proofs.Ytlnlgjbpkjfbjaa
open Go.RowKit
set_option linter.unusedVariables false

theorem box4_new (w : World) (v0 v1 v2 v3 : Value) (t : TypeId) : ∃ W, W = w.alloc (.cells #[v0, v1, v2, v3] t) ∧ w.grownBy W none ∧ W.heap.size = w.heap.size + 1 ∧ ∀ W', W.grownBy W' none → W'.cell? ⟨w.heap.size, 0, none⟩ = some v0 ∧ W'.cell? ⟨w.heap.size, 1, none⟩ = some v1 ∧ W'.cell? ⟨w.heap.size, 2, none⟩ = some v2 ∧ W'.cell? ⟨w.heap.size, 3, none⟩ = some v3 := by
  refine ⟨_, rfl, grown_alloc _ _, by simp, fun W' h => ?_⟩
  have hb := heap_alloc_new w (.cells #[v0, v1, v2, v3] t)
  have hc : ∀ k v, #[v0, v1, v2, v3][k]? = some v → W'.cell? ⟨w.heap.size, k, none⟩ = some v := fun k v hv => h.cell (by rw [cell_of_row _ _ k _ _ (0, 0) hb]; exact hv) (by simp)
  exact ⟨hc 0 _ rfl, hc 1 _ rfl, hc 2 _ rfl, hc 3 _ rfl⟩

def saidB (x : Int) : Bool := decide (x = 0 ∨ x = 1)
set_option maxHeartbeats 1600000 in
theorem isSaid_any (x : Int) (w : World) : Calls Try.prog 21 #[.int .i64 x] w fun e w' => e = .returned (.bool (saidB x)) ∧ w' = w := by
  obtain ⟨y, hy⟩ : ∃ y, saidB x = y := ⟨_, rfl⟩
  have HY : Hid (saidB x = y) := hy
  rw [hy]
  clear hy
  by_cases h0 : x = 0
  · have e0 : (x == 0) = true := by simpa using h0
    have HE : Hid (saidB x = true) := by show _ = _; simp [saidB, h0]
    clear h0
    go_enter Try.func21, Try.ntmps21
    go_wp2_with fail
    go_ret
    exact ⟨by rw [← HY.out, HE.out]; rfl, rfl⟩
  · have e0 : (x == 0) = false := by simpa using h0
    have HE : Hid (saidB x = (x == 1)) := by show _ = _; simp [saidB, h0]; rfl
    obtain ⟨z, hz⟩ : ∃ z, (x == 1) = z := ⟨_, rfl⟩
    rw [hz] at HE
    clear h0
    go_enter Try.func21, Try.ntmps21
    go_wp2_with fail
    go_ret
    exact ⟨by rw [← HY.out, HE.out]; rfl, rfl⟩

set_option maxHeartbeats 1600000 in
theorem checkHeard_any (a : Option Addr) (c : Nat) (hs : List Int) (w : World) (h : Ints w a hs) (hm : hs.length ≤ maxLen) : Calls Try.prog 16 #[.slice a hs.length c] w (Says (.int .i64 (heardY hs)) w) := by
  have H : Hid (Ints w a hs) := h
  unfold maxLen at hm
  obtain ⟨z, hz⟩ : ∃ z, heardY hs = z := ⟨_, rfl⟩
  have HZ : Hid (heardY hs = z) := hz
  have HS : Hid (∀ x (W : World), Calls Try.prog 21 #[.int .i64 x] W fun e w' => e = .returned (.bool (saidB x)) ∧ w' = W) := isSaid_any
  rw [hz]
  obtain ⟨n, hn⟩ : ∃ n, hs.length = n := ⟨_, rfl⟩
  have HN : Hid (hs.length = n) := hn
  rw [hn] at hm ⊢
  clear h hz hn
  by_cases hb : 60 < n
  · have b1 : decide ((60 : Int) < (n : Int)) = true := by simp; omega
    have HE : Hid (heardY hs = 1) := by show _ = _; unfold heardY; rw [HN.out, if_pos hb]
    go_enter Try.func16, Try.ntmps16
    go_wp2_with fail
    go_ret
    exact ⟨ret_int (by rw [← HZ.out, HE.out]), grown_refl _ _⟩
  have b1 : decide ((60 : Int) < (n : Int)) = false := by simp; omega
  go_enter Try.func16, Try.ntmps16
  go_wp2_with fail
  go_loop [10] (fun i => ∃ k : Nat, k ≤ n ∧ i = .int .i64 k ∧ ∀ j, j < k → hs.getD j 0 = 0 ∨ hs.getD j 0 = 1) (fun i => n - (intOf i).toNat)
  case atStart => exact ⟨0, Nat.zero_le _, rfl, fun j hj => by omega⟩
  case round =>
    obtain ⟨k, hk, rfl, hg⟩ := hrel
    have HJ : Hid (∀ j, j < k → hs.getD j 0 = 0 ∨ hs.getD j 0 = 1) := hg
    clear hg
    by_cases hlt : k < n
    · have hki : (k : Int) < (n : Int) := by omega
      obtain ⟨b, off, rfl, hc⟩ := H.out.at (k := k) (by rw [HN.out]; exact hlt)
      have hck := hc k (by rw [HN.out]; exact hlt)
      obtain ⟨q, hq⟩ : ∃ q, hs.getD k 0 = q := ⟨_, rfl⟩
      have HQ : Hid (hs.getD k 0 = q) := hq
      rw [hq] at hck
      clear hc hq
      go_wp2_with fail
      refine (HS.out _ _).mono ?_
      rintro E w2 ⟨rfl, rfl⟩
      cases hB : saidB q with
      | false =>
        have HE : Hid (heardY hs = 2) := by
          show _ = _
          unfold heardY
          rw [if_neg (by rw [HN.out]; exact hb), if_neg]
          intro hh
          have := hh k (by rw [HN.out]; exact hlt)
          rw [HQ.out] at this
          simp [saidB] at hB
          omega
        clear hB
        go_wp2_with fail
        go_ret
        exact ⟨ret_int (by rw [← HZ.out, HE.out]), grown_refl _ _⟩
      | true =>
        have HK : Hid (q = 0 ∨ q = 1) := (by simpa [saidB] using hB : q = 0 ∨ q = 1)
        clear hB
        go_wp2_with fail
        go_round
        case rel =>
          refine ⟨k + 1, by omega, by go_num, fun j hj => ?_⟩
          by_cases hjk : j = k
          · subst hjk; rw [HQ.out]; exact HK.out
          · exact HJ.out j (by omega)
        case measure => simp [intOf]; omega
    · have HE : Hid (heardY hs = 0) := by
        show _ = _
        unfold heardY
        rw [if_neg (by rw [HN.out]; exact hb), if_pos]
        intro j hj
        exact HJ.out j (by have := HN.out; omega)
      go_wp2_with fail
      go_ret
      exact ⟨ret_int (by rw [← HZ.out, HE.out]), grown_refl _ _⟩

end Go.Proofs.Ytlnlgjbpkjfbjaa
