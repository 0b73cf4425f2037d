/- slices.Repeat of one truth. -/
import Derived.Test.YtnlkdihfoekjmaaGFrom
import Derived.Laws.CopyRow
namespace Go.Proofs.Ytnlkdihfoekjmaa
open Go.RowKit
set_option linter.unusedVariables false

theorem and_mask : ∀ n : Fin 101, bits .and .u64 (((n : Nat) : Nat) : Int) 4294967295 = ((n : Nat) : Int) := by decide

set_option maxHeartbeats 1600000 in
theorem mul64_one (n : Nat) (w : World) (hn : n ≤ 100) : Calls Try.prog 51 #[.int .u64 1, .int .u64 (n : Int)] w fun e w' => e = .returned (.tuple #[.int .u64 0, .int .u64 (n : Int)]) ∧ w' = w := by
  have h1 : bits .and .u64 1 4294967295 = 1 := by decide
  have h2 : bits .and .u64 (n : Int) 4294967295 = (n : Int) := and_mask ⟨n, by omega⟩
  have h3 : (n : Int) / 4294967296 = 0 := by omega
  have h4 : bits .and .u64 0 4294967295 = 0 := by decide
  go_enter Try.func51, Try.ntmps51
  go_wp2_with fail
  go_ret2
  exact ⟨rfl, rfl⟩

set_option maxHeartbeats 1600000 in
theorem mul_one (n : Nat) (w : World) (hn : n ≤ 100) : Calls Try.prog 44 #[.int .u64 1, .int .u64 (n : Int)] w fun e w' => e = .returned (.tuple #[.int .u64 0, .int .u64 (n : Int)]) ∧ w' = w := by
  have H : Hid (Calls Try.prog 51 #[.int .u64 1, .int .u64 (n : Int)] w fun e w' => e = .returned (.tuple #[.int .u64 0, .int .u64 (n : Int)]) ∧ w' = w) := mul64_one n w hn
  go_enter Try.func44, Try.ntmps44
  go_wp2_with fail
  refine H.out.mono ?_
  rintro E w2 ⟨rfl, rfl⟩
  go_wp2_with fail
  go_ret2
  exact ⟨rfl, rfl⟩

def CopG (ts : Array TypeId) (ty : TypeId) (args : Array Value) : Sem Value := Builtin.copy_ ts ty args
theorem copg_fold (ts : Array TypeId) (ty : TypeId) (args : Array Value) : Builtin.copy_ ts ty args = CopG ts ty args := rfl
attribute [local go_sem ↓] copg_fold

theorem grown_setRow (w : World) (g : Nat) (cs : Array Value) : w.grownBy (w.setRow g cs) (some g) :=
  ⟨rfl, rfl, rfl, by simp [World.setRow], fun k hk hne => by
    have h : g ≠ k := fun e => hne (by rw [e])
    simp only [World.setRow]
    rw [Array.getElem?_modify, if_neg h]⟩
theorem copy_true (W : World) (gb n m sLen sCap dCap k : Nat) (a : Addr) (h : BRow W gb n n (fun p => decide (p < m))) (hk : k = Nat.min sLen (n - m)) (hm : m ≤ n) (hsrc : ∀ j, j < k → W.cell? (a.add j) = some (.bool true)) :
    ∃ W', (Builtin.copy_ #[66, 66] 3 #[.slice (some ⟨gb, m, none⟩) (n - m) dCap, .slice (some a) sLen sCap]).run Try.prog W = .ok (goInt k) W' ∧ BRow W' gb n n (fun p => decide (p < m + k)) ∧ W.grownBy W' (some gb) := by
  obtain ⟨i0, hi, hz0, hz1, hz2⟩ := info_parts Try.infoB4
  obtain ⟨cur, hc1, hc2, hc3, hc4⟩ := h
  have hkn : m + k ≤ n := by
    have : k ≤ n - m := hk ▸ Nat.min_le_right sLen (n - m)
    omega
  have hrun := run_copy_row (P := Try.prog) W 66 66 3 4 gb m (n - m) dCap a sLen sCap cur 4 (List.replicate k (.bool true)) Try.underlying66 (by rw [hi]; simp [hz1]) hc1 (by simpa using hk) (fun j v hv => by
    rw [List.getElem?_replicate] at hv
    split at hv
    · rename_i hj
      simp at hv
      rw [← hv]
      exact hsrc j hj
    · cases hv) (by simp; omega) (fun v hv => by rw [List.eq_of_mem_replicate hv]; rfl)
  rw [List.length_replicate] at hrun
  refine ⟨_, hrun, ⟨_, setRow_heap _ _ _ _ _ _ hc1, ?_, Nat.le_refl _, fun i hi' => ?_⟩, ?_⟩
  · simp [hc2]; omega
  · simp only [List.getElem?_toArray]
    by_cases h1 : i < m
    · rw [List.append_assoc, List.getElem?_append_left (by simp; omega), List.getElem?_take, if_pos h1]
      have := hc4 i (by omega)
      simp only [h1, decide_true] at this
      rw [Array.getElem?_toList, this]
      simp; omega
    · by_cases h2 : i < m + k
      · rw [List.append_assoc, List.getElem?_append_right (by simp; omega), List.getElem?_append_left (by simp; omega), List.getElem?_replicate, if_pos (by simp; omega)]
        simp [h2]
      · rw [List.getElem?_append_right (by simp; omega), List.getElem?_drop]
        have := hc4 i hi'
        simp only [h1, decide_false] at this
        have e : m + k + (i - (List.take m cur.toList ++ List.replicate k (Value.bool true)).length) = i := by simp; omega
        rw [e, Array.getElem?_toList, this]
        simp [h2]
  · exact grown_setRow _ _ _

set_option maxHeartbeats 1600000 in
set_option maxRecDepth 100000 in
theorem repeat_any (n g : Nat) (w : World) (h : BRow w g 1 1 (fun _ => true)) (h1 : 1 ≤ n) (hn : n ≤ 100) : Calls Try.prog 30 #[.slice (some ⟨g, 0, none⟩) 1 1, .int .i64 (n : Int)] w (SetPost n (fun p => decide (p < n)) w) := by
  have HM : Hid (Calls Try.prog 44 #[.int .u64 1, .int .u64 (n : Int)] w fun e w' => e = .returned (.tuple #[.int .u64 0, .int .u64 (n : Int)]) ∧ w' = w) := mul_one n w hn
  obtain ⟨W1, hmk, r1, g1, s1⟩ := set_make w n (by omega)
  obtain ⟨W2, hcp, r2, g2⟩ := copy_true W1 w.heap.size n 0 1 1 n 1 ⟨g, 0, none⟩ (r1.congr (fun i hi => by simp)) (by show 1 = min 1 (n - 0); omega) (by omega) (fun j hj => by
    have : j = 0 := by omega
    subst this
    rw [addr_add]
    exact (h.kept g1).cell (by omega))
  rw [Nat.sub_zero, copg_fold] at hcp
  have R2 : Hid (BRow W2 w.heap.size n n (fun p => decide (p < 0 + 1))) := r2
  have G2 : Hid (w.grownBy W2 none) := grown_new g1 g2 (Nat.le_refl _)
  clear h r1 g1 s1 r2 g2
  go_enter Try.func30, Try.ntmps30
  go_wp2_with fail
  refine HM.out.mono ?_
  rintro E w2 ⟨rfl, rfl⟩
  clear HM
  go_wp2_with fail
  clear hmk hcp
  obtain ⟨gb, hgb⟩ : ∃ gb, w2.heap.size = gb := ⟨_, rfl⟩
  have HG : Hid (w2.heap.size = gb) := hgb
  rw [hgb] at R2 ⊢
  clear hgb
  go_loopw [8] (fun v wr => ∃ m : Nat, 1 ≤ m ∧ m ≤ n ∧ v = .int .i64 m ∧ BRow wr gb n n (fun p => decide (p < m)) ∧ w2.grownBy wr none) (fun v _ => n - (intOf v).toNat)
  case atStart => exact ⟨1, Nat.le_refl _, h1, rfl, R2.out.congr (fun i hi => by simp), G2.out⟩
  case round =>
    clear R2 G2
    obtain ⟨m, hm1, hmn, rfl, hr, hg⟩ := hrel
    have RR : Hid (BRow wr gb n n (fun p => decide (p < m))) := hr
    have GG : Hid (w2.grownBy wr none) := hg
    by_cases hlt : m < n
    · have hmi : (m : Int) < (n : Int) := by omega
      obtain ⟨k, hk⟩ : ∃ k, k = Nat.min m (n - m) := ⟨_, rfl⟩
      have hk2 : 1 ≤ k ∧ k ≤ n - m := by rw [hk]; show 1 ≤ min m (n - m) ∧ min m (n - m) ≤ n - m; omega
      obtain ⟨W3, hcp, r3, g3⟩ := copy_true wr.drew gb n m m n (n - m) k ⟨gb, 0, none⟩ (hr.kept (grown_drew (grown_refl _ _))) hk (by omega) (fun j hj => by
        rw [addr_add]
        have hj2 : j < m := by rw [hk] at hj; have : j < min m (n - m) := hj; omega
        have := (hr.kept (grown_drew (grown_refl wr none))).cell (i := j) (by omega)
        rw [this]
        simp [hj2])
      rw [copg_fold] at hcp
      have R3 : Hid (BRow W3 gb n n (fun p => decide (p < m + k))) := r3
      have G3 : Hid (w2.grownBy W3 none) := grown_new (grown_drew hg) g3 (by rw [HG.out]; exact Nat.le_refl _)
      clear hr hg r3 g3 RR GG hk
      go_wp2_with fail
      go_region
      all_goals
        go_wp2_with fail
        go_roundw
        case rel => exact ⟨m + k, by omega, by omega, by go_num, R3.out, G3.out⟩
        case measure => simp [intOf]; omega
    · have hmi : ¬ (m : Int) < (n : Int) := by omega
      have hmn2 : m = n := by omega
      subst hmn2
      clear hr hg
      go_wp2_with fail
      go_ret
      exact ⟨gb, m, rfl, RR.out, by rw [HG.out]; exact Nat.le_refl _, GG.out⟩

end Go.Proofs.Ytnlkdihfoekjmaa
