/- The law's spoil, spoilDet: they write over memory that is one's own, and nothing else. -/
import Derived.Test.YtofjboelplknhaaHMem
import Derived.Test.YtofjboelplknhaaRDetOf
namespace Go.Proofs.Ytofjboelplknhaa
open Go.RowKit
set_option linter.unusedVariables false

/-- A cell of the first, within its capacity, is written into. -/
theorem Owns.setAny {B : Nat} {w : World} {e : TypeId} {g n cap : Nat} {xs : List Value} {r : List Item} (h : Owns B w ((e, .slice (some ⟨g, 0, none⟩) n cap, xs) :: r)) (i : Nat) (u : Value) : Owns B (w.setCell ⟨g, i, none⟩ u) ((e, .slice (some ⟨g, 0, none⟩) n cap, xs.set i u) :: r) := by
  have hn := h.len
  obtain ⟨hp, hr⟩ := List.pairwise_cons.1 h.2
  refine ⟨fun it hm => ?_, List.Pairwise.cons (fun q hq => hp q hq) hr⟩
  rcases List.mem_cons.1 hm with rfl | hm
  · obtain ⟨h1, h2⟩ := h.row
    rcases h2 with ⟨e0, _⟩ | ⟨g', cap', cur, e1, hB, hh, h5, h6, h7, h8⟩
    · cases e0
    · cases e1
      have hs := heap_setCell_same w g i cur e u hh
      refine ⟨⟨by simp, .inr ⟨g, cap, _, by simp, hB, hs, by simpa using h5, h6, by simpa using h7, ?_⟩⟩, some ⟨g, 0, none⟩, cap, by simp⟩
      simp only [List.length_set, Nat.mul_one] at h8 ⊢
      rw [Array.toList_setIfInBounds, List.take_set, h8]
  · have hi2 := h.1 it (List.mem_cons_of_mem _ hm)
    refine ⟨hi2.1.kept (grown_set w ⟨g, i, none⟩ u) ?_, hi2.2⟩
    rcases hp it hm with h1 | h1 | h1
    · cases h1
    · exact .inl h1
    · exact .inr (by simpa [Value.ownBlock] using Ne.symm h1)
theorem Owns.there {B : Nat} {w : World} {e : TypeId} {g n cap : Nat} {xs : List Value} {r : List Item} (h : Owns B w ((e, .slice (some ⟨g, 0, none⟩) n cap, xs) :: r)) {i : Nat} (hi : i < cap) : ∃ u, w.cell? ⟨g, i, none⟩ = some u := by
  obtain ⟨h1, h2⟩ := h.row
  rcases h2 with ⟨e0, _⟩ | ⟨g', cap', cur, e1, hB, hh, h5, h6, h7, h8⟩
  · cases e0
  · cases e1
    have : i < cur.size := by omega
    exact ⟨cur[i], by rw [cell_of_row _ _ _ _ _ (0, 0) hh]; simp [this]⟩

def SpoilPost (B : Nat) (v : Value) (r : List Item) (w : World) (E : Ending) (w' : World) : Prop :=
  ∃ xs', E = .returned (.tuple #[]) ∧ Owns B w' ((3, v, xs') :: r) ∧ Keeps B w w'

set_option maxHeartbeats 1000000 in
set_option maxRecDepth 100000 in
theorem spoil_some (B g n cap : Nat) (xs : List Value) (r : List Item) (w : World) (h : Owns B w ((3, .slice (some ⟨g, 0, none⟩) n cap, xs) :: r)) :
    Calls Try.prog 45 #[.slice (some ⟨g, 0, none⟩) n cap] w (SpoilPost B (.slice (some ⟨g, 0, none⟩) n cap) r w) := by
  have O0 : Hid (Owns B w ((3, .slice (some ⟨g, 0, none⟩) n cap, xs) :: r)) := h
  have hcap := h.cap
  have hcap' : n ≤ cap ∧ cap ≤ 9223372036854775807 := by unfold maxLen at hcap; exact hcap
  clear h hcap
  go_enter Try.func45, Try.ntmps45
  go_wp2_with fail
  go_loopw [2] (fun v2 wr => ∃ (i : Nat) (xs' : List Value), v2 = .int .i64 i ∧ i ≤ cap ∧ Owns B wr ((3, .slice (some ⟨g, 0, none⟩) n cap, xs') :: r) ∧ Keeps B w wr) (fun v2 _ => cap - (intOf v2).toNat)
  case atStart => exact ⟨0, xs, rfl, by omega, O0.out, Keeps.refl _ _⟩
  case round =>
    clear O0
    obtain ⟨i, xs', rfl, hi, ho, hkp⟩ := hrel
    have O : Hid (Owns B wr ((3, .slice (some ⟨g, 0, none⟩) n cap, xs') :: r)) := ho
    have KP : Hid (Keeps B w wr) := hkp
    clear ho hkp
    by_cases hlt : i < cap
    · have hii : (i : Int) < (cap : Int) := by omega
      obtain ⟨u, xu⟩ := O.out.there hlt
      have fu := O.out.fz i
      have O1 : Hid (Owns B (wr.setCell ⟨g, i, none⟩ (.int .i64 77)) ((3, .slice (some ⟨g, 0, none⟩) n cap, xs'.set i (.int .i64 77)) :: r)) := O.out.setAny i _
      have K1 : Hid (Keeps B w (wr.setCell ⟨g, i, none⟩ (.int .i64 77))) := KP.out.set O.out.ge.1 _ _
      clear O
      go_wp2_with fail
      go_roundw
      case rel => exact ⟨i + 1, _, by go_num, by omega, O1.out, K1.out⟩
      case measure => simp [intOf]; omega
    · have hii : ¬ (i : Int) < (cap : Int) := by omega
      go_wp2_with fail
      go_end0
      exact ⟨xs', rfl, O.out, KP.out⟩

set_option maxHeartbeats 1000000 in
set_option maxRecDepth 100000 in
theorem spoil_none (w : World) : Calls Try.prog 45 #[.slice none 0 0] w fun E w' => E = .returned (.tuple #[]) ∧ w.grownBy w' none := by
  go_enter Try.func45, Try.ntmps45
  go_wp2_with fail
  go_loopw [2] (fun v2 wr => v2 = .int .i64 0 ∧ w.grownBy wr none) (fun v2 _ => 0)
  case atStart => exact ⟨rfl, grown_refl _ _⟩
  case round =>
    obtain ⟨rfl, hg⟩ := hrel
    have G : Hid (w.grownBy wr none) := hg
    clear hg
    go_wp2_with fail
    go_end0
    exact ⟨rfl, G.out⟩

theorem spoil_any (B : Nat) (v : Value) (xs : List Value) (r : List Item) (w : World) (h : Owns B w ((3, v, xs) :: r)) :
    Calls Try.prog 45 #[v] w (SpoilPost B v r w) := by
  have h1 := h.row
  rcases h1.2 with ⟨e0, e1⟩ | ⟨g, cap, cur, e1, _⟩
  · have hx : xs = [] := List.length_eq_zero_iff.1 e1
    subst hx e0
    refine (spoil_none w).mono ?_
    rintro E w' ⟨rfl, hg⟩
    exact ⟨[], rfl, h.kept hg, Keeps.grown hg⟩
  · subst e1
    exact spoil_some B g _ cap xs r w h

/-- Rows, one of them turned. -/
theorem rows_turn {B : Nat} {w : World} {h1 h2 : Item} {rs : List Value} {cs : List (List Value)} (hl : cs.length = rs.length) {i : Nat} (hi : i < rs.length) (h : Owns B w (h1 :: h2 :: (List.zipWith (fun v c => ((3, v, c) : Item)) rs cs))) :
    Owns B w ((3, rs[i], cs[i]) :: ((h1 :: h2 :: (List.zipWith (fun v c => ((3, v, c) : Item)) (rs.take i) (cs.take i))) ++ List.zipWith (fun v c => ((3, v, c) : Item)) (rs.drop (i + 1)) (cs.drop (i + 1)))) := by
  refine at_M ?_
  have e : List.zipWith (fun v c => ((3, v, c) : Item)) rs cs = List.zipWith (fun v c => ((3, v, c) : Item)) (rs.take i) (cs.take i) ++ (3, rs[i], cs[i]) :: List.zipWith (fun v c => ((3, v, c) : Item)) (rs.drop (i + 1)) (cs.drop (i + 1)) := by
    conv => lhs; rw [← List.take_append_drop i rs, ← List.take_append_drop i cs]
    rw [List.zipWith_append (by simp [hl]), List.drop_eq_getElem_cons hi, List.drop_eq_getElem_cons (by omega : i < cs.length)]
    rfl
  rw [e] at h
  simpa using h

end Go.Proofs.Ytofjboelplknhaa
