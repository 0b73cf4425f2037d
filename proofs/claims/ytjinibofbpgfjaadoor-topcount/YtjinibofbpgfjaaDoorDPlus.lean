/- Tallies: two numbers of 18 digits each; their sum; and a row of them. -/
import Derived.Test.YtjinibofbpgfjaaDoorDRead
import Derived.Test.YtjinibofbpgfjaaDoorDCheck
namespace Go.Proofs.YtjinibofbpgfjaaDoor
open Go.RowKit
set_option linter.unusedVariables false

theorem wrap_u64_small {x : Int} (h0 : 0 ≤ x) (h : x < 18446744073709551616) : IntKind.u64.wrap x = x := by rw [IntKind.wrap_u64]; omega

set_option maxHeartbeats 1600000 in
set_option maxRecDepth 100000 in
theorem plusT_any (x y : Nat) (w : World) (hx : x + y < 10000000000000000000000000000000000000) :
    Calls Tryd.prog 38 #[.agg #[.int .u64 ((x / 1000000000000000000 : Nat) : Int), .int .u64 ((x % 1000000000000000000 : Nat) : Int)], .agg #[.int .u64 ((y / 1000000000000000000 : Nat) : Int), .int .u64 ((y % 1000000000000000000 : Nat) : Int)]] w fun e w' =>
      e = .returned (.agg #[.int .u64 (((x + y) / 1000000000000000000 : Nat) : Int), .int .u64 (((x + y) % 1000000000000000000 : Nat) : Int)]) ∧ w.grownBy w' none := by
  have h1 : x / 1000000000000000000 + y / 1000000000000000000 < 10000000000000000001 := by omega
  have h2 : x % 1000000000000000000 < 1000000000000000000 := by omega
  have h3 : y % 1000000000000000000 < 1000000000000000000 := by omega
  have hd : (x + y) / 1000000000000000000 = if 1000000000000000000 ≤ x % 1000000000000000000 + y % 1000000000000000000 then x / 1000000000000000000 + y / 1000000000000000000 + 1 else x / 1000000000000000000 + y / 1000000000000000000 := by split <;> omega
  have hr : (x + y) % 1000000000000000000 = if 1000000000000000000 ≤ x % 1000000000000000000 + y % 1000000000000000000 then x % 1000000000000000000 + y % 1000000000000000000 - 1000000000000000000 else x % 1000000000000000000 + y % 1000000000000000000 := by split <;> omega
  rw [hd, hr]
  clear hd hr hx
  generalize x / 1000000000000000000 = a at *
  generalize x % 1000000000000000000 = b at *
  generalize y / 1000000000000000000 = c at *
  generalize y % 1000000000000000000 = d at *
  have e1 : IntKind.u64.wrap ((a : Int) + (c : Int)) = (a : Int) + (c : Int) := wrap_u64_small (by omega) (by omega)
  have e2 : IntKind.u64.wrap ((b : Int) + (d : Int)) = (b : Int) + (d : Int) := wrap_u64_small (by omega) (by omega)
  have e3 : IntKind.u64.wrap ((a : Int) + (c : Int) + 1) = (a : Int) + (c : Int) + 1 := wrap_u64_small (by omega) (by omega)
  have HG : Hid (∀ o1 o2 o3 o4, w.grownBy ((((w.alloc o1).alloc o2).alloc o3).alloc o4) none) := fun o1 o2 o3 o4 => grown_trans (grown_trans (grown_trans (grown_alloc _ _) (grown_alloc _ _)) (grown_alloc _ _)) (grown_alloc _ _)
  by_cases hge : 1000000000000000000 ≤ b + d
  · have e4 : IntKind.u64.wrap ((b : Int) + (d : Int) - 1000000000000000000) = (b : Int) + (d : Int) - 1000000000000000000 := wrap_u64_small (by omega) (by omega)
    have hge' : (1000000000000000000 : Int) ≤ (b : Int) + (d : Int) := by omega
    rw [if_pos hge, if_pos hge]
    go_enter Tryd.func38, Tryd.ntmps38
    go_wp2_with fail
    exact bodyPost_ret (v := .agg #[.int .u64 ((a : Int) + (c : Int) + 1), .int .u64 ((b : Int) + (d : Int) - 1000000000000000000)]) (by simp [results, Tryd.results38, go_sem]) rfl ⟨by congr 3; simp; omega, HG.out _ _ _ _⟩
  · have hge' : ¬ (1000000000000000000 : Int) ≤ (b : Int) + (d : Int) := by omega
    rw [if_neg hge, if_neg hge]
    go_enter Tryd.func38, Tryd.ntmps38
    go_wp2_with fail
    exact bodyPost_ret (v := .agg #[.int .u64 ((a : Int) + (c : Int)), .int .u64 ((b : Int) + (d : Int))]) (by simp [results, Tryd.results38, go_sem]) rfl ⟨by congr 3, HG.out _ _ _ _⟩

/-- A row of n tallies lies in block g. -/
structure TAt (w : World) (g : Nat) (V : Nat → Nat) (n : Nat) : Prop where
  lt : g < w.heap.size
  hi : ∀ i, i < n → w.cell? ⟨g, i * 2, none⟩ = some (.int .u64 ((V i / 1000000000000000000 : Nat) : Int))
  lo : ∀ i, i < n → w.cell? ⟨g, i * 2 + 1, none⟩ = some (.int .u64 ((V i % 1000000000000000000 : Nat) : Int))
  fz : ∀ k, w.frozen? ⟨g, k, none⟩ = false

theorem TAt.kept {w w' : World} {g n : Nat} {V : Nat → Nat} {row : Option Nat} (h : TAt w g V n) (hg : w.grownBy w' row) (hne : row ≠ some g) : TAt w' g V n :=
  ⟨Nat.lt_of_lt_of_le h.lt hg.size, fun i hi => hg.cell (h.hi i hi) (Ne.symm hne), fun i hi => hg.cell (h.lo i hi) (Ne.symm hne), fun k => (hg.frozen_far ⟨g, k, none⟩ h.lt (Ne.symm hne)).trans (h.fz k)⟩

theorem TAt.set {w : World} {g n : Nat} {V : Nat → Nat} (h : TAt w g V n) {t : Nat} (ht : t < n) (x : Nat) {a b : Int} (ha : a = ((x / 1000000000000000000 : Nat) : Int)) (hb : b = ((x % 1000000000000000000 : Nat) : Int)) :
    TAt ((w.setCell ⟨g, t * 2, none⟩ (.int .u64 a)).setCell ⟨g, t * 2 + 1, none⟩ (.int .u64 b)) g (fun i => if i = t then x else V i) n := by
  subst ha hb
  refine ⟨by simpa [World.setCell] using h.lt, fun i hi => ?_, fun i hi => ?_, fun k => ?_⟩
  · rw [World.cell?_setCell_other _ _ _ _ (by first | (simp; done) | (simp; omega))]
    by_cases hit : i = t
    · subst hit
      rw [World.cell?_setCell_same _ _ _ (h.hi i hi), if_pos rfl]
    · rw [World.cell?_setCell_other _ _ _ _ (by first | (simp; done) | (simp; omega)), if_neg hit]
      exact h.hi i hi
  · by_cases hit : i = t
    · subst hit
      rw [World.cell?_setCell_same _ _ _ (u := .int .u64 ((V i % 1000000000000000000 : Nat) : Int)) (by rw [World.cell?_setCell_other _ _ _ _ (by simp)]; exact h.lo i hi), if_pos rfl]
    · rw [World.cell?_setCell_other _ _ _ _ (by first | (simp; done) | (simp; omega)), World.cell?_setCell_other _ _ _ _ (by first | (simp; done) | (simp; omega)), if_neg hit]
      exact h.lo i hi
  · rw [World.frozen?_setCell, World.frozen?_setCell]
    exact h.fz k

theorem TAt.made (w : World) (n : Nat) : TAt (w.alloc (.cells (madeCells #[.int .u64 0, .int .u64 0] (n * 2)) 57)) w.heap.size (fun _ => 0) n := by
  have hb := heap_alloc_new w (.cells (madeCells #[.int .u64 0, .int .u64 0] (n * 2)) 57)
  refine ⟨(Array.getElem?_eq_some_iff.1 hb).1, fun i hi => ?_, fun i hi => ?_, fun k => frozen_of_row _ _ k _ _ hb⟩
  · rw [cell_of_row _ _ _ _ _ (0, 0) hb]
    simp [madeCells, show i * 2 < n * 2 by omega]
  · rw [cell_of_row _ _ _ _ _ (0, 0) hb]
    simp [madeCells, show i * 2 + 1 < n * 2 by omega, Nat.add_mod]

theorem Tryd.infoT : (Tryd.prog.info? 57).map (fun i => (i.zero, i.size, i.bytes)) = some (some (.agg #[.int .u64 0, .int .u64 0]), 2, 16) := by kernel_rfl

theorem tmake (w : World) (n : Nat) (hn : n ≤ 3000) : (Instr.makeSlice 70 (.int .i64 (n : Int)) (.int .i64 (n : Int))).run Tryd.prog w = .ok (.slice (some ⟨w.heap.size, 0, none⟩) n n) (w.alloc (.cells (madeCells #[.int .u64 0, .int .u64 0] (n * 2)) 57)) := by
  obtain ⟨i0, hi, hz0, hz1, hz2⟩ := info_parts Tryd.infoT
  have hmk := run_make (P := Tryd.prog) w 70 57 i0 (.agg #[.int .u64 0, .int .u64 0]) Tryd.underlying70 hi hz0 .i64 .i64 (n : Int) (n : Int) (by omega) (by omega) (by rw [hz2]; omega) (by omega)
  rw [hz1, Int.toNat_natCast] at hmk
  exact hmk

end Go.Proofs.YtjinibofbpgfjaaDoor
