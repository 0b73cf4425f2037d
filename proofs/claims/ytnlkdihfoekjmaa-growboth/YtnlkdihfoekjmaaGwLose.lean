/- A state without rules is lost: the program's lose. -/
import Derived.Test.YtnlkdihfoekjmaaGwRise
namespace Go.Proofs.Ytnlkdihfoekjmaa
open Go.RowKit
set_option linter.unusedVariables false

def LosePost (w0 : World) (B gb gw : Nat) (u0 u1 u2 : Value) (zo zm : List Int) (rs : List (Value × List Nat)) (s : Nat) (E : Ending) (w' : World) : Prop :=
  E = .returned (.tuple #[]) ∧ ∃ v : Value, GmB w0 B gb gw u0 u1 u2 zo (zm.set s 1) (rs.set s (v, [s])) w'

set_option maxHeartbeats 3200000 in
theorem lose_any (w0 : World) (B gb gw : Nat) (u0 u1 u2 : Value) (zo zm : List Int) (rs : List (Value × List Nat)) (s : Nat) (w : World) (h : GmB w0 B gb gw u0 u1 u2 zo zm rs w) (h1 : s < zm.length) (h2 : s < rs.length) (hl : rs.length ≤ 1000) (hl' : zm.length ≤ 1000) (hlo : zo.length ≤ 1000) :
    Calls Try.prog 23 #[.agg #[u0, u1, u2], .int .i64 (s : Int)] w (LosePost w0 B gb gw u0 u1 u2 zo zm rs s) := by
  obtain ⟨g1, c1, e1, l1, l1', f1⟩ := (gat_2 (gw_toM.1 h.own)).form (by rw [vals_len]; omega)
  rw [vals_len] at e1
  subst e1
  obtain ⟨g2, c2, e2, l2, l2', f2⟩ := (gat_2 h.own).form (by simp; omega)
  simp only [List.length_map] at e2
  subst e2
  obtain ⟨a0, c0, rfl⟩ := h.forms.1
  have hne : g1 ≠ g2 := by
    have := (List.pairwise_cons.1 (gat_2 (gw_toM.1 h.own)).2).1 (23, .slice (some ⟨g2, 0, none⟩) rs.length c2, rs.map (·.1)) (by simp)
    rcases this with e | e | e
    · cases e
    · cases e
    · simpa [Value.ownBlock] using e
  have k1 := (gat_2 (gw_toM.1 h.own)).cell (i := s) (vals_get h1)
  obtain ⟨v, hv⟩ : ∃ v, (rs.map (·.1))[s]? = some v := ⟨_, List.getElem?_eq_getElem (by simpa using h2)⟩
  have k2 := (gat_2 h.own).cell (i := s) hv
  have fz1 := f1 s
  have fz2 := f2 s
  have s1 : (s : Int) < (zm.length : Int) := by omega
  have s2 : (s : Int) < (rs.length : Int) := by omega
  have H : Hid (GmB w0 B gb gw (.slice a0 zo.length c0) (.slice (some ⟨g1, 0, none⟩) zm.length c1) (.slice (some ⟨g2, 0, none⟩) rs.length c2) zo zm rs w) := h
  obtain ⟨bo, hbo⟩ : ∃ bo : Obj, bo = .cells #[.slice a0 zo.length c0, .slice (some ⟨g1, 0, none⟩) zm.length c1, .slice (some ⟨g2, 0, none⟩) rs.length c2] 53 := ⟨_, rfl⟩
  have Fin : Hid (∀ W, ((((w.setCell ⟨g1, s, none⟩ (.int .i64 1)).setCell ⟨g2, s, none⟩ (.slice (some ⟨w.heap.size + 1, 0, none⟩) 1 1)).alloc bo).alloc (.cells #[.int .i64 (s : Int)] 3)).grownBy W none → LosePost w0 B gb gw (.slice a0 zo.length c0) (.slice (some ⟨g1, 0, none⟩) zm.length c1) (.slice (some ⟨g2, 0, none⟩) rs.length c2) zo zm rs s (.returned (.tuple #[])) W) := fun W hW => by
    refine ⟨rfl, .slice (some ⟨w.heap.size + 1, 0, none⟩) 1 1, ?_⟩
    have o1 := (gat_2 (gw_toM.1 h.own)).set (i := s) (by omega) (.int .i64 1)
    rw [vals_set] at o1
    have o2 := gw_toM.2 (gat_2 o1)
    have o3 := (gat_2 o2).set (i := s) (by omega) (.slice (some ⟨w.heap.size + 1, 0, none⟩) 1 1)
    have o4 := gat_2 o3
    have hs0 : ((w.setCell ⟨g1, s, none⟩ (.int .i64 1)).setCell ⟨g2, s, none⟩ (.slice (some ⟨w.heap.size + 1, 0, none⟩) 1 1)).heap.size = w.heap.size := by simp [World.setCell]
    have hlz := h.lz
    have o5 := (o4.kept (grown_alloc _ bo)).made (arr := #[.int .i64 (s : Int)]) (n := 1) (by rw [World.size_alloc, hs0]; omega) 3 rfl (by unfold maxLen; omega)
    rw [World.size_alloc, hs0] at o5
    have o6 := o5.kept hW
    have ew : w0.grownBy W none := grown_trans (grown_trans (grown_trans (grown_new (grown_new h.gr (grown_set _ _ _) (Nat.le_trans h.lb l1)) (grown_set _ _ _) (Nat.le_trans h.lb l2)) (grown_alloc _ bo)) (grown_alloc _ _)) hW
    refine ⟨?_, ew, h.lb, ?_⟩
    · obtain ⟨v0, xs0, hvx⟩ : ∃ v xs, rs[s] = (v, xs) := ⟨_, _, rfl⟩
      have e1 : rs = rs.take s ++ (v0, xs0) :: rs.drop (s + 1) := by rw [← hvx, ← List.drop_eq_getElem_cons h2, List.take_append_drop]
      have e2 : rs.set s (.slice (some ⟨w.heap.size + 1, 0, none⟩) 1 1, [s]) = rs.take s ++ (.slice (some ⟨w.heap.size + 1, 0, none⟩) 1 1, [s]) :: rs.drop (s + 1) := by rw [List.set_eq_take_append_cons_drop, if_pos h2]
      have e3 : gRows rs = gRows (rs.take s) ++ (3, v0, nvals xs0) :: gRows (rs.drop (s + 1)) := by
        show rs.map _ = _
        conv => lhs; rw [e1]
        simp [gRows]
      have e5 : gRows (rs.set s (.slice (some ⟨w.heap.size + 1, 0, none⟩) 1 1, [s])) = gRows (rs.take s) ++ (3, .slice (some ⟨w.heap.size + 1, 0, none⟩) 1 1, nvals [s]) :: gRows (rs.drop (s + 1)) := by
        show List.map _ _ = _
        rw [e2]
        simp [gRows]
      have e4 : (rs.set s (.slice (some ⟨w.heap.size + 1, 0, none⟩) 1 1, [s])).map (·.1) = (rs.map (·.1)).set s (.slice (some ⟨w.heap.size + 1, 0, none⟩) 1 1) := by rw [List.map_set]
      rw [e4, e5]
      rw [e3] at o6
      have o7 := owns_sub o6 (its' := (3, .slice (some ⟨w.heap.size + 1, 0, none⟩) 1 1, [.int .i64 (s : Int)]) :: gbI gb (.slice a0 zo.length c0) (.slice (some ⟨g1, 0, none⟩) zm.length c1) (.slice (some ⟨g2, 0, none⟩) rs.length c2) :: (23, .slice (some ⟨g2, 0, none⟩) rs.length c2, (rs.map (·.1)).set s (.slice (some ⟨w.heap.size + 1, 0, none⟩) 1 1)) :: ((gRows (rs.take s) ++ gRows (rs.drop (s + 1))) ++ [(3, .slice a0 zo.length c0, vals zo), (3, .slice (some ⟨g1, 0, none⟩) zm.length c1, vals (zm.set s 1)), wnI gw])) (by
        refine List.Sublist.cons_cons _ (List.Sublist.cons_cons _ (List.Sublist.cons_cons _ ?_))
        refine List.Sublist.append ?_ (List.Sublist.refl _)
        exact List.Sublist.append (List.Sublist.refl _) (List.sublist_cons_self _ _))
      refine o7.perm ?_
      have := List.perm_middle (l₁ := gbI gb (.slice a0 zo.length c0) (.slice (some ⟨g1, 0, none⟩) zm.length c1) (.slice (some ⟨g2, 0, none⟩) rs.length c2) :: (23, .slice (some ⟨g2, 0, none⟩) rs.length c2, (rs.map (·.1)).set s (.slice (some ⟨w.heap.size + 1, 0, none⟩) 1 1)) :: gRows (rs.take s)) (a := (3, .slice (some ⟨w.heap.size + 1, 0, none⟩) 1 1, [.int .i64 (s : Int)])) (l₂ := gRows (rs.drop (s + 1)) ++ [(3, .slice a0 zo.length c0, vals zo), (3, .slice (some ⟨g1, 0, none⟩) zm.length c1, vals (zm.set s 1)), wnI gw])
      have := this.symm
      simpa [nvals] using this
    · have := hW.size
      rw [World.size_alloc, World.size_alloc, hs0] at this
      omega
  rw [hbo] at Fin
  clear h f1 f2 hbo
  generalize zo.length = n0 at *
  go_enter Try.func23, Try.ntmps23
  go_wp2_with fail
  go_region
  all_goals
    go_end0
    exact Fin.out _ (grown_drew (grown_refl _ _))

end Go.Proofs.Ytnlkdihfoekjmaa
