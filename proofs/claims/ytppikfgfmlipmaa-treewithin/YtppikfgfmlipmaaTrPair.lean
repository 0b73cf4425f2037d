/- The number of a pair of states: the closure of both. And rules and marks of both, part by part. -/
import Derived.Test.YtppikfgfmlipmaaTrOthD
import Derived.Test.YtppikfgfmlipmaaTrWith
namespace Go.Proofs.Ytppikfgfmlipmaa
open Go.RowKit
set_option linter.unusedVariables false

set_option maxHeartbeats 3200000 in
theorem pair_any (p q z : Int) (b0 n : Nat) (w : World) (hb : w.cell? ⟨b0, 1, none⟩ = some (.int .i64 (n : Int))) (hn : n ≤ 300) (hp : -1 ≤ p ∧ p ≤ 300) (hq : -1 ≤ q ∧ q ≤ 300) (hz : prI n p q = z) :
    Calls Try.prog 20 #[.int .i64 p, .int .i64 q, .pointer (some ⟨b0, 0, none⟩)] w fun e w' => e = .returned (.int .i64 z) ∧ w' = w := by
  unfold prI at hz
  by_cases hp1 : p = -1
  · rw [if_pos hp1] at hz
    subst hz hp1
    go_enter Try.func20, Try.ntmps20
    go_wp2_with fail
    go_ret
    exact ⟨rfl, rfl⟩
  · rw [if_neg hp1] at hz
    obtain ⟨m, rfl⟩ : ∃ m : Nat, p = m := ⟨p.toNat, by omega⟩
    have h1 : m * n ≤ 300 * 300 := Nat.mul_le_mul (by omega) hn
    obtain ⟨y, hy⟩ : ∃ y, m * n = y := ⟨_, rfl⟩
    have hmy : (m : Int) * (n : Int) = (y : Int) := by rw [← hy]; simp
    rw [hmy] at hz
    rw [hy] at h1
    clear hy
    go_enter Try.func20, Try.ntmps20
    go_wp2_with fail
    go_ret
    exact ⟨rfl, rfl⟩

/-- What one rule gives with the first k of the others. -/
def botRow (r : RuleI) (Q : List RuleI) (n k : Nat) : List RuleI := ((Q.take k).filter (mtB r)).map (prR n r)
theorem botRow_zero (r : RuleI) (Q : List RuleI) (n : Nat) : botRow r Q n 0 = [] := by simp [botRow]
theorem botRow_all (r : RuleI) (Q : List RuleI) (n : Nat) : botRow r Q n Q.length = (Q.filter (mtB r)).map (prR n r) := by simp [botRow]
theorem botRow_succ (r : RuleI) (Q : List RuleI) (n : Nat) {k : Nat} (hk : k < Q.length) : botRow r Q n (k + 1) = botRow r Q n k ++ if mtB r (Q.getD k ru0) = true then [prR n r (Q.getD k ru0)] else [] := by
  unfold botRow
  rw [List.take_succ_eq_append_getElem hk, List.filter_append, List.map_append]
  have : Q.getD k ru0 = Q[k] := by simp [List.getD, hk]
  rw [this]
  by_cases h : mtB r Q[k] = true
  · simp [h]
  · simp [h]
theorem botRow_len (r : RuleI) (Q : List RuleI) (n k : Nat) : (botRow r Q n k).length ≤ Q.length := by
  unfold botRow
  rw [List.length_map]
  have h1 := List.length_filter_le (mtB r) (Q.take k)
  have h2 := List.length_take_le' k Q
  omega
theorem botR_take (R Q : List RuleI) (n : Nat) {k : Nat} (hk : k < R.length) : botR (R.take (k + 1)) Q n = botR (R.take k) Q n ++ botRow (R.getD k ru0) Q n Q.length := by
  have : R.getD k ru0 = R[k] := by simp [List.getD, hk]
  rw [botRow_all, this]
  unfold botR
  rw [List.take_succ_eq_append_getElem hk, List.flatMap_append]
  simp
theorem botR_len (R Q : List RuleI) (n k : Nat) : (botR (R.take k) Q n).length ≤ k * Q.length := by
  induction k with
  | zero => simp [botR]
  | succ k ih =>
    by_cases hk : k < R.length
    · rw [botR_take R Q n hk, List.length_append, Nat.succ_mul]
      have := botRow_len (R.getD k ru0) Q n Q.length
      omega
    · rw [List.take_of_length_le (by omega)] at ih ⊢
      rw [Nat.succ_mul]; omega
theorem botM_take (M K : List Int) {k : Nat} (hk : k < M.length) : botM (M.take (k + 1)) K = botM (M.take k) K ++ K.map (M.getD k 0 * ·) := by
  have : M.getD k 0 = M[k] := by simp [List.getD, hk]
  rw [this]
  unfold botM
  rw [List.take_succ_eq_append_getElem hk, List.flatMap_append]
  simp
theorem take_mul_succ (m : Int) (K : List Int) {k : Nat} (hk : k < K.length) : (K.take (k + 1)).map (m * ·) = (K.take k).map (m * ·) ++ [m * K.getD k 0] := by
  rw [List.take_succ_eq_append_getElem hk, List.map_append]
  simp [List.getD, hk]

section
variable {W wr w' : World} {bo : Nat} {L : Int} {n : Nat} {Q : List RuleI} {K : List Int} {ar am : Option Addr} {cr cm : Nat}
/-- A rule is put behind: what lies apart stays. -/
theorem OutAt.rule2 (h : OutAt W wr bo L n Q K ar cr am cm) (x : RuleI) (hQ : Q.length ≤ 100000000) :
    ∃ g c' w2, (AppS #[22, 22] 22 #[.slice ar Q.length cr, .slice (some ⟨wr.heap.size, 0, none⟩) 1 1]).run Try.prog (wr.alloc (.cells #[.int .i64 x.1, .int .i64 x.2.1, .int .i64 x.2.2.1, .int .i64 x.2.2.2] 43)) = .ok (.slice (some ⟨g, 0, none⟩) (Q.length + 1) c') w2 ∧
      w2.cell? ⟨bo, 2, none⟩ = some (.slice ar Q.length cr) ∧ w2.frozen? ⟨bo, 2, none⟩ = false ∧ OutAt W (w2.setCell ⟨bo, 2, none⟩ (.slice (some ⟨g, 0, none⟩) (Q.length + 1) c')) bo L n (Q ++ [x]) K (some ⟨g, 0, none⟩) c' am cm ∧
      ∀ k o, wr.heap[k]? = some o → k ≠ bo → (∀ y, ar = some y → y.block ≠ k) → (w2.setCell ⟨bo, 2, none⟩ (.slice (some ⟨g, 0, none⟩) (Q.length + 1) c')).heap[k]? = some o ∧ g ≠ k ∧ w2.heap[k]? = some o := by
  obtain ⟨V, hV⟩ : ∃ V, V = wr.alloc (.cells #[.int .i64 x.1, .int .i64 x.2.1, .int .i64 x.2.2.1, .int .i64 x.2.2.2] 43) := ⟨_, rfl⟩
  rw [← hV]
  have gW : wr.grownBy V none := by rw [hV]; exact grown_alloc _ _
  have hnew : V.heap[wr.heap.size]? = some (.cells #[.int .i64 x.1, .int .i64 x.2.1, .int .i64 x.2.2.1, .int .i64 x.2.2.2] 43) := by rw [hV]; exact heap_alloc_new wr _
  have hsz : V.heap.size = wr.heap.size + 1 := by rw [hV]; exact World.size_alloc _ _
  have h1 := h.kept gW
  have hs1 := h.gr.size
  have hs2 := h.sz
  obtain ⟨i0, hi0, hz0, hz1, hz2⟩ := info_partsW Try.infoRule
  obtain ⟨g, c', w2, hr, r2, r3, r4, _⟩ := run_append_lies (P := Try.prog) V 22 22 (bo + 1) 43 i0 (.agg #[.int .i64 0, .int .i64 0, .int .i64 0, .int .i64 0]) 4 32 Try.underlying22 hi0 hz0 hz1 hz2 rfl (by decide) (.slice ar Q.length cr) Q.length (flatR Q) h1.rul ⟨wr.heap.size, 0, none⟩ 1 1 [.int .i64 x.1, .int .i64 x.2.1, .int .i64 x.2.2.1, .int .i64 x.2.2.2] rfl (fun j u hu => World.news_of_block hnew j u (by simpa using hu)) (by intro u hu; simp at hu; rcases hu with rfl | rfl | rfl | rfl <;> rfl) (by omega) (by unfold maxLen; omega) (by omega) (by omega) _ rfl
  have hgB : ∀ k, (Value.slice ar Q.length cr).ownBlock = some k → bo + 1 ≤ k := fun k hk => (h1.rul.lt k hk).1
  have hbox2 : w2.heap[bo]? = some (.cells #[.int .i64 L, .int .i64 (n : Int), .slice ar Q.length cr, .int .i64 0, .slice am K.length cm] 25 (0, 0)) := (r3.block bo (by omega) (fun e => by have := hgB bo e.symm; omega)).trans h1.box
  have hgs : w2.grownBy (w2.setCell ⟨bo, 2, none⟩ (.slice (some ⟨g, 0, none⟩) (Q.length + 1) c')) (some bo) := grown_set _ _ _
  have hg1 : bo + 1 ≤ g := (r2.lt g rfl).1
  have hmB : ∀ k, (Value.slice am K.length cm).ownBlock = some k → bo + 1 ≤ k := fun k hk => (h1.mar.lt k hk).1
  have mar2 : w2.ownsRow (bo + 1) 3 1 (.slice am K.length cm) K.length (vals K) := h1.mar.kept r3 (own_apart (w' := w2) h1.mar h1.rul (by decide))
  refine ⟨g, c', w2, hr, by rw [cell_of_row _ _ 2 _ _ (0, 0) hbox2]; rfl, frozen_of_row w2 bo 2 _ _ hbox2, ⟨?_, ?_, ?_, ?_, h.sz⟩, ?_⟩
  · rw [heap_setCell_same w2 bo 2 _ _ _ hbox2]; simp
  · rw [flatR_snoc, show (Q ++ [x]).length = Q.length + 1 by simp]
    exact r2.kept hgs (.inr (by simp [Value.ownBlock]; omega))
  · refine mar2.kept hgs ?_
    cases hv : (Value.slice am K.length cm).ownBlock with
    | none => simp
    | some y => right; have := hmB y hv; simp; omega
  · refine grown_trans ⟨r3.os.trans h1.gr.os, r3.tape.trans h1.gr.tape, r3.output.trans h1.gr.output, Nat.le_trans h1.gr.size r3.size, fun i hi hr => (r3.block i (by have := h1.gr.size; omega) (fun e => by have := hgB i e.symm; omega)).trans (h1.gr.block i hi hr)⟩ hgs
  · intro k o hk hkb hka
    have hkl : k < wr.heap.size := by
      rcases Nat.lt_or_ge k wr.heap.size with h | h
      · exact h
      · simp [h] at hk
    have own : ∀ y, (Value.slice ar Q.length cr).ownBlock = some y → y ≠ k := fun y hy => by
      cases ar with
      | none => simp [Value.ownBlock] at hy
      | some a =>
        have : a.block = y := by simpa [Value.ownBlock] using hy
        rw [← this]
        exact hka a rfl
    have e1 := gW.block k hkl (by simp)
    have e2 := r3.block k (by omega) (fun e => own k e.symm rfl)
    have e3 := hgs.block k (by have := r3.size; omega) (by simpa using hkb)
    refine ⟨by rw [e3, e2, e1, hk], ?_, by rw [e2, e1, hk]⟩
    rcases r4 with r4 | r4
    · exact own g r4
    · omega
end

end Go.Proofs.Ytppikfgfmlipmaa
