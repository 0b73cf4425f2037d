/- monoid.wordTo: the word that leads to a step. -/
import Derived.Test.YtofjboelplknhaaMSeekD
import Derived.Test.YtofjboelplknhaaMRf
import Derived.Test.YtofjboelplknhaaRLeast
import Derived.Deep.RegionWith
namespace Go.Proofs.Ytofjboelplknhaa
open Go.RowKit
set_option linter.unusedVariables false
attribute [local go_sem ↓] app_fold

def WordToPost (u : List Nat) (w : World) (E : Ending) (w' : World) : Prop :=
  ∃ (az : Option Addr) (cz : Nat), E = .returned (.slice az u.length cz) ∧ Owns w.heap.size w' [(3, .slice az u.length cz, vals (natInts u))] ∧ w.grownBy w' none
/-- The steps lie there. -/
def StpAt (w : World) (g : Nat) (ss : List Stp) : Prop := ∀ i s, ss[i]? = some s → w.cell? ⟨g, i * 7 + 5, none⟩ = some (.int .i64 s.2.1) ∧ w.cell? ⟨g, i * 7 + 6, none⟩ = some (.int .i64 ((s.2.2 : Nat) : Int))
theorem StpAt.grown {w w' : World} {g : Nat} {ss : List Stp} (h : StpAt w g ss) (hg : w.grownBy w' none) : StpAt w' g ss := fun i s hs => ⟨hg.cell (h i s hs).1 (by simp), hg.cell (h i s hs).2 (by simp)⟩

/-- One number is put behind, out of another block. -/
theorem push_at {B b : Nat} {w : World} {its : List Item} {aF : Option Addr} {cF nF : Nat} {F : List Int} {x : Int} (h : Owns B w ((3, .slice aF nF cF, vals F) :: its)) (hB : B ≤ w.heap.size) (hc : w.cell? ⟨b, 0, none⟩ = some (.int .i64 x)) (hl : F.length ≤ 100000000) :
    ∃ g cap w', (AppS #[23, 23] 23 #[.slice aF nF cF, .slice (some ⟨b, 0, none⟩) 1 1]).run Try.prog w = .ok (.slice (some ⟨g, 0, none⟩) (nF + 1) cap) w' ∧
      Owns B w' ((3, .slice (some ⟨g, 0, none⟩) (nF + 1) cap, vals (F ++ [x])) :: its) ∧ Keeps B w w' := by
  have hn := h.len
  rw [vals_len] at hn
  subst hn
  obtain ⟨i0, hio, hz0, hz1, hz2⟩ := info_parts Try.info3i
  have hr := h.row
  rw [vals_len] at hr
  obtain ⟨g', cap, w5, hrun, ho5, hg5, hat5, hlt5⟩ := run_append_lies (P := Try.prog) w 23 23 B 3 i0 (.int .i64 0) 1 8 Try.underlying23 hio hz0 hz1 hz2 rfl (by decide) (.slice aF F.length cF) F.length (vals F) hr ⟨b, 0, none⟩ 1 1 [.int .i64 x] rfl (fun j u hu => by
    cases j with
    | zero => simp only [List.getElem?_cons_zero, Option.some.injEq] at hu; subst hu; rw [addr_add]; exact hc
    | succ j => simp at hu) (by intro u hu; simp at hu; subst hu; rfl) (by omega) (by unfold maxLen; omega) (by omega) hB _ rfl
  refine ⟨g', cap, w5, hrun, ?_, Keeps.first h hg5⟩
  have h2 := h.append ho5 (by simp) hg5 hat5 rfl
  rw [vals_snoc] at h2
  exact h2

set_option maxHeartbeats 1600000 in
set_option maxRecDepth 100000 in
theorem wordToM_any (ws : List (List Nat)) (ss : List Stp) (g cS : Nat) (hp : ParW ws ss) (hl : ss.length ≤ 4000) : ∀ (i : Nat), i < ws.length → ∀ (w : World), StpAt w g ss → Calls Try.prog 77 #[.slice (some ⟨g, 0, none⟩) ss.length cS, .int .i64 (i : Nat)] w (WordToPost (ws.getD i []) w) := by
  intro i
  induction i using Nat.strongRecOn with
  | ind i ih =>
    intro hi w hS
    obtain ⟨s, hs, hcase⟩ := hp.2 i hi
    obtain ⟨c5, c6⟩ := hS i s hs
    have hil : i < ss.length := (List.getElem?_eq_some_iff.1 hs).1
    have hii : (i : Int) < (ss.length : Int) := by omega
    rcases hcase with ⟨hu, hs1⟩ | ⟨p, hpi, hs1, hu⟩
    · rw [hu]
      rw [hs1] at c5
      clear ih hp hS hs hu hs1 c6
      go_enter Try.func77, Try.ntmps77
      go_wp2_with fail
      go_ret
      exact ⟨none, 0, rfl, (Owns.no _ _).empty 3, grown_refl _ _⟩
    · rw [hu]
      rw [hs1] at c5
      have HIH : Hid (∀ W, w.grownBy W none → Calls Try.prog 77 #[.slice (some ⟨g, 0, none⟩) ss.length cS, .int .i64 (p : Nat)] W (WordToPost (ws.getD p []) W)) := fun W hW => ih p hpi (by omega) W (hS.grown hW)
      have hlen : (ws.getD p []).length ≤ 4000 := by
        have := parW_long hp p (by omega)
        omega
      generalize ws.getD p [] = u at *
      obtain ⟨x, hx⟩ : ∃ x, s.2.2 = x := ⟨_, rfl⟩
      rw [hx] at c6 ⊢
      have c5' := fun ob => (grown_alloc w ob).cell c5 (by simp)
      have c6' := fun ob => (grown_alloc w ob).cell c6 (by simp)
      have GA : Hid (w.grownBy w.drew none) := grown_drew (grown_refl _ _)
      have GB : Hid (w.grownBy (w.alloc (.cells #[.int .i64 ((x : Nat) : Int)] 3)).drew none) := grown_drew (grown_alloc _ _)
      have PA : Hid (∀ az cz w3, Owns w.drew.heap.size w3 [(3, .slice az u.length cz, vals (natInts u))] → w.drew.grownBy w3 none → w3.cell? ⟨g, i * 7 + 6, none⟩ = some (.int .i64 ((x : Nat) : Int)) ∧ ∃ g' c' w5, (AppS #[23, 23] 23 #[.slice az u.length cz, .slice (some ⟨w3.heap.size, 0, none⟩) 1 1]).run Try.prog (w3.alloc (.cells #[.int .i64 ((x : Nat) : Int)] 3)) = .ok (.slice (some ⟨g', 0, none⟩) (u.length + 1) c') w5 ∧ WordToPost (u ++ [x]) w (.returned (.slice (some ⟨g', 0, none⟩) (u.length + 1) c')) w5) := fun az cz w3 ho hg => by
        obtain ⟨g', c', w5, hr, ho5, hk5⟩ := push_int ho hg.size rfl (by rw [List.length_map]; omega) ((x : Nat) : Int)
        have e1 : natInts u ++ [((x : Nat) : Int)] = natInts (u ++ [x]) := by simp [natInts]
        rw [e1] at ho5
        exact ⟨hg.cell c6 (by simp), g', c', w5, hr, ⟨some ⟨g', 0, none⟩, c', by rw [List.length_append, List.length_singleton], by rw [List.length_append, List.length_singleton]; exact ho5, hk5 w (Nat.le_refl _) (grown_trans GA.out hg)⟩⟩
      have PB : Hid (∀ az cz w3, Owns (w.alloc (.cells #[.int .i64 ((x : Nat) : Int)] 3)).drew.heap.size w3 [(3, .slice az u.length cz, vals (natInts u))] → (w.alloc (.cells #[.int .i64 ((x : Nat) : Int)] 3)).drew.grownBy w3 none → ∃ g' c' w5, (AppS #[23, 23] 23 #[.slice az u.length cz, .slice (some ⟨w.heap.size, 0, none⟩) 1 1]).run Try.prog w3 = .ok (.slice (some ⟨g', 0, none⟩) (u.length + 1) c') w5 ∧ WordToPost (u ++ [x]) w (.returned (.slice (some ⟨g', 0, none⟩) (u.length + 1) c')) w5) := fun az cz w3 ho hg => by
        have hc : w3.cell? ⟨w.heap.size, 0, none⟩ = some (.int .i64 ((x : Nat) : Int)) := by
          have h1 := (hg.block w.heap.size (by show _ < (w.alloc _).heap.size; simp) (by simp)).trans (heap_alloc_new w (.cells #[.int .i64 ((x : Nat) : Int)] 3))
          rw [cell_of_row _ _ _ _ _ (0, 0) h1]; rfl
        obtain ⟨g', c', w5, hr, ho5, hk5⟩ := push_at (b := w.heap.size) ho hg.size hc (by rw [List.length_map]; omega)
        have e1 : natInts u ++ [((x : Nat) : Int)] = natInts (u ++ [x]) := by simp [natInts]
        rw [e1] at ho5
        have hs : w.heap.size ≤ (w.alloc (.cells #[.int .i64 ((x : Nat) : Int)] 3)).drew.heap.size := by show _ ≤ (w.alloc _).heap.size; simp
        exact ⟨g', c', w5, hr, ⟨some ⟨g', 0, none⟩, c', by rw [List.length_append, List.length_singleton], by rw [List.length_append, List.length_singleton]; exact ho5.base hs, hk5 w hs (grown_trans GB.out hg)⟩⟩
      clear ih hp hS hs hu hs1 hx
      go_enter Try.func77, Try.ntmps77
      go_wp2_with fail
      go_region_with (go_at_call 77; refine (HIH.out _ (by first | exact GA.out | exact GB.out)).mono ?_; rintro E w3 ⟨az, cz, rfl, ho3, hg3⟩; first | (have z3 := PB.out az cz w3 ho3 hg3; obtain ⟨g', c', w5, hrun5, fin⟩ := z3; have Fin : Hid _ := fin; clear fin ho3 hg3) | (have z3 := PA.out az cz w3 ho3 hg3; obtain ⟨y6, g', c', w5, hrun5, fin⟩ := z3; have Fin : Hid _ := fin; clear fin ho3 hg3))
      all_goals
        go_wp2_with fail
        exact bodyPost_ret (v := .slice (some ⟨g', 0, none⟩) (u.length + 1) c') (by simp [results, Try.results77, go_sem]) rfl Fin.out

end Go.Proofs.Ytofjboelplknhaa
