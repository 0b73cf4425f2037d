/- One value more, as the program appends it. -/
import Derived.Test.YtaommgnlnfhbfaaLBool
import Derived.Test.YtaommgnlnfhbfaaKStop
namespace Go.Proofs.Ytaommgnlnfhbfaa
open Go.RowKit
set_option linter.unusedVariables false
set_option linter.unusedSimpArgs false

theorem Try.infoI64L : (Try.prog.info? 3).map (fun i => (i.zero, i.size, i.bytes)) = some (some (.int .i64 0), 1, 8) := by kernel_rfl
/-- One more value. -/
theorem app_vs {w : World} {a : Option Addr} {sc : List Nat} (h : RowI w a sc) (h0 : sc = [] → a = none) (hl : sc.length ≤ 3) (v : Nat) :
    ∃ g cap' w', (AppL #[30, 30] 30 #[.slice a sc.length sc.length, .slice (some ⟨w.heap.size, 0, none⟩) 1 1]).run Try.prog (w.alloc (.cells #[.int .i64 (v : Int)] 3)).drew = .ok (.slice (some ⟨g, 0, none⟩) (sc.length + 1) cap') w' ∧ RowI w' (some ⟨g, 0, none⟩) (sc ++ [v]) ∧ w.grownBy w' none ∧ sc.length + 1 ≤ cap' := by
  obtain ⟨i0, hi0, hz0, hz1, hz2⟩ := info_partsL Try.infoI64L
  have hnew := heap_alloc_new w (.cells #[.int .i64 (v : Int)] 3)
  have gW : w.grownBy (w.alloc (.cells #[.int .i64 (v : Int)] 3)).drew none := grown_drew (grown_alloc _ _)
  have hsz : (w.alloc (.cells #[.int .i64 (v : Int)] 3)).drew.heap.size = w.heap.size + 1 := by show (w.alloc _).heap.size = _; rw [World.size_alloc]
  have hn1 : ∀ j u, [Value.int .i64 (v : Int)][j]? = some u → (w.alloc (.cells #[.int .i64 (v : Int)] 3)).drew.cell? ((⟨w.heap.size, 0, none⟩ : Addr).add j) = some u := fun j u hu => by
    have h1 : (w.alloc (.cells #[.int .i64 (v : Int)] 3)).cell? ((⟨w.heap.size, 0, none⟩ : Addr).add j) = some u := World.news_of_block hnew j u (by simpa using hu)
    exact h1
  have fin : ∀ (cur : Array Value) (cap' : Nat) (X : World), X = (w.alloc (.cells #[.int .i64 (v : Int)] 3)).drew.drew → sc.length + 1 ≤ cap' → (∀ k, k < sc.length + 1 → cur[k]? = some (.int .i64 (((sc ++ [v]).getD k 0 : Nat) : Int))) → RowI (X.alloc (.cells cur 3)) (some ⟨X.heap.size, 0, none⟩) (sc ++ [v]) ∧ w.grownBy (X.alloc (.cells cur 3)) none := fun cur cap' X hX hc hcur => by
    have hXs : X.heap.size = w.heap.size + 1 := by rw [hX]; exact hsz
    have hb2 := heap_alloc_new X (.cells cur 3)
    refine ⟨.inr ⟨X.heap.size, rfl, fun k hk => ?_⟩, ?_⟩
    · rw [cell_of_row _ _ k _ _ (0, 0) hb2]
      rw [List.length_append, List.length_singleton] at hk
      exact hcur k hk
    · rw [hX]; exact grown_trans (grown_drew gW) (grown_alloc _ _)
  rcases h with rfl | ⟨g, rfl, hcells⟩
  · obtain rfl := h0 rfl
    have hr := run_append_nil (P := Try.prog) (w := (w.alloc (.cells #[.int .i64 (v : Int)] 3)).drew) 30 30 3 i0 (.int .i64 0) Try.underlying30 hi0 hz0 ⟨w.heap.size, 0, none⟩ 1 1 [.int .i64 (v : Int)] (by rw [hz1]; rfl) hn1 (by omega) (by omega) (by rw [hz2]; omega)
    obtain ⟨f1, f2⟩ := fin ([Value.int .i64 (v : Int)].toArray ++ Builtin.zeroCells (Value.int .i64 0).cells (grownCap (w.alloc (.cells #[.int .i64 (v : Int)] 3)).drew 1 0 3 - 1)) (grownCap (w.alloc (.cells #[.int .i64 (v : Int)] 3)).drew 1 0 3) _ rfl (grownCap_ge _ 1 0 3) (fun k hk => by
      have : k = 0 := by simp at hk; omega
      subst this
      rw [Array.getElem?_append_left (by simp)]
      rfl)
    exact ⟨_, _, _, hr, f1, f2, grownCap_ge _ 1 0 3⟩
  · have hr := run_append_grow (P := Try.prog) (w := (w.alloc (.cells #[.int .i64 (v : Int)] 3)).drew) 30 30 3 i0 (.int .i64 0) Try.underlying30 hi0 hz0 ⟨g, 0, none⟩ sc.length sc.length (sc.map fun (x : Nat) => Value.int .i64 (x : Int)) (by rw [hz1]; simp) (fun j u hu => by
        have hj : j < sc.length := by have := (List.getElem?_eq_some_iff.1 hu).1; simpa using this
        have h3 := gW.cell (hcells j hj) (by simp)
        have e : (⟨g, 0, none⟩ : Addr).add j = ⟨g, j, none⟩ := by by_cases hj0 : j = 0 <;> simp [Addr.add, hj0]
        rw [e, h3, ← hu]
        simp [hj]) ⟨w.heap.size, 0, none⟩ 1 1 [.int .i64 (v : Int)] (by rw [hz1]; rfl) hn1 (by omega) (by omega) (by rw [hz2]; have := growslice_fits_succ (old := sc.length) (bytes := 8) (by omega) (by omega); exact this)
    obtain ⟨f1, f2⟩ := fin ((sc.map fun (x : Nat) => Value.int .i64 (x : Int)).toArray ++ [Value.int .i64 (v : Int)].toArray ++ Builtin.zeroCells (Value.int .i64 0).cells (grownCap (w.alloc (.cells #[.int .i64 (v : Int)] 3)).drew (sc.length + 1) sc.length 3 - (sc.length + 1))) (grownCap (w.alloc (.cells #[.int .i64 (v : Int)] 3)).drew (sc.length + 1) sc.length 3) _ rfl (grownCap_ge _ _ _ 3) (fun k hk => by
      rw [Array.getElem?_append_left (by simp; omega)]
      by_cases hk2 : k < sc.length
      · rw [Array.getElem?_append_left (by simpa using hk2)]
        have e : (sc ++ [v]).getD k 0 = sc[k] := by rw [List.getD, List.getElem?_append_left hk2, List.getElem?_eq_getElem hk2]; rfl
        rw [e]
        simp [hk2]
      · have : k = sc.length := by omega
        subst this
        rw [Array.getElem?_append_right (by simp)]
        simp)
    exact ⟨_, _, _, hr, f1, f2, grownCap_ge _ _ _ 3⟩

end Go.Proofs.Ytaommgnlnfhbfaa
