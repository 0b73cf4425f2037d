/- All states in one class; where letters come from. -/
import Derived.Test.YtaangdomdeklhaaHPart
namespace Go.Proofs.Ytaangdomdeklhaa
open Go.RowKit
set_option linter.unusedVariables false

/-- A row of a box has grown, whatever it was. -/
theorem box_push' {B bc : Nat} {w w' : World} {T : TypeId} {m f : Nat} {fs : List Value} {a1 : TypeId} {v : Value} {ln g' cap H : Nat} {xs news : List Value} {l r : List Item} (h : Owns B w ((T, .slice (some ⟨bc, 0, none⟩) m m, fs) :: (l ++ (a1, v, xs) :: r))) (hl : xs.length = ln)
    (ho : w'.ownsRow B a1 1 (.slice (some ⟨g', 0, none⟩) (ln + news.length) cap) (ln + news.length) (xs ++ news)) (hg : w.grownBy w' v.ownBlock) (hat : v.ownBlock = some g' ∨ g' = H) (hH : w.heap.size = H) (hf : f < m) {u : Value} (hu : fs[f]? = some u) :
    w'.cell? ⟨bc, f, none⟩ = some u ∧ w'.frozen? ⟨bc, f, none⟩ = false ∧
    Owns B (w'.setCell ⟨bc, f, none⟩ (.slice (some ⟨g', 0, none⟩) (ln + news.length) cap)) ((T, .slice (some ⟨bc, 0, none⟩) m m, fs.set f (.slice (some ⟨g', 0, none⟩) (ln + news.length) cap)) :: (l ++ (a1, .slice (some ⟨g', 0, none⟩) (ln + news.length) cap, xs ++ news) :: r)) ∧
    Keeps B w (w'.setCell ⟨bc, f, none⟩ (.slice (some ⟨g', 0, none⟩) (ln + news.length) cap)) := by
  have h1 : Owns B w ((a1, v, xs) :: (((T, .slice (some ⟨bc, 0, none⟩) m m, fs) :: l) ++ r)) := at_M (l := (T, .slice (some ⟨bc, 0, none⟩) m m, fs) :: l) h
  have h2 := h1.append (news := news) ho (by omega) hg hat hH
  have h3 : Owns B w' ((T, .slice (some ⟨bc, 0, none⟩) m m, fs) :: (l ++ (a1, .slice (some ⟨g', 0, none⟩) (ln + news.length) cap, xs ++ news) :: r)) := to_M (l := (T, .slice (some ⟨bc, 0, none⟩) m m, fs) :: l) h2
  exact ⟨h3.cell hu, h3.fz f, h3.set hf _, (Keeps.first h1 hg).trans ((Keeps.refl _ _).set h3.ge.1 _ _)⟩

def TogPost (n : Nat) (w : World) (E : Ending) (w' : World) : Prop :=
  ∃ (bc g0 q0 g1 q1 g2 q2 g3 q3 g4 q4 g5 q5 : Nat), E = .returned (.pointer (some ⟨bc, 0, none⟩)) ∧ Owns w.heap.size w' (clsIts bc n 1 1 1 id id (fun _ => 0) (fun _ => 0) (fun _ => n) (fun _ => 0) g0 q0 g1 q1 g2 q2 g3 q3 g4 q4 g5 q5 []) ∧ w.grownBy w' none

theorem upd_id (i : Nat) : upd id i i = id := by funext j; unfold upd; split <;> simp_all

set_option maxHeartbeats 1600000 in
set_option maxRecDepth 100000 in
theorem together_any (n : Nat) (w : World) (hn1 : 1 ≤ n) (hn : n ≤ 3000) : Calls Try.prog 63 #[.int .i64 (n : Int)] w (TogPost n w) := by
  have hmk := fun W => make_ints W n (by omega)
  obtain ⟨W0, hW0⟩ : ∃ W0, W0 = ((((w.alloc (.cells #[.int .i64 0] 3)).alloc (.cells #[.int .i64 (n : Int)] 3)).alloc (.cells #[.int .i64 0] 3)).alloc (.cells (Array.replicate n (Value.int .i64 0)) 3)).alloc (.cells #[.slice none 0 0, .slice none 0 0, .slice (some ⟨w.heap.size + 1 + 1 + 1, 0, none⟩) n n, .slice (some ⟨w.heap.size, 0, none⟩) 1 1, .slice (some ⟨w.heap.size + 1, 0, none⟩) 1 1, .slice (some ⟨w.heap.size + 1 + 1, 0, none⟩) 1 1] 92) := ⟨_, rfl⟩
  have G0 : Hid (w.grownBy W0 none) := by
    show World.grownBy _ _ _
    rw [hW0]; exact grown_trans (grown_trans (grown_trans (grown_trans (grown_alloc _ _) (grown_alloc _ _)) (grown_alloc _ _)) (grown_alloc _ _)) (grown_alloc _ _)
  have O0 : Hid (Owns w.heap.size W0 ((92, .slice (some ⟨w.heap.size + 1 + 1 + 1 + 1, 0, none⟩) 6 6, [.slice none 0 0, .slice none 0 0, .slice (some ⟨w.heap.size + 1 + 1 + 1, 0, none⟩) n n, .slice (some ⟨w.heap.size, 0, none⟩) 1 1, .slice (some ⟨w.heap.size + 1, 0, none⟩) 1 1, .slice (some ⟨w.heap.size + 1 + 1, 0, none⟩) 1 1]) :: (3, .slice none 0 0, fvals 0 id) :: (3, .slice none 0 0, fvals 0 id) :: (3, .slice (some ⟨w.heap.size + 1 + 1 + 1, 0, none⟩) n n, fvals n fun _ => 0) :: (3, .slice (some ⟨w.heap.size, 0, none⟩) 1 1, fvals 1 fun _ => 0) :: (3, .slice (some ⟨w.heap.size + 1, 0, none⟩) 1 1, fvals 1 fun _ => n) :: (3, .slice (some ⟨w.heap.size + 1 + 1, 0, none⟩) 1 1, fvals 1 fun _ => 0) :: [])) := by
    show Owns _ _ _
    have o1 := (Owns.no w.heap.size w).made (arr := #[.int .i64 0]) (n := 1) (Nat.le_refl _) 3 rfl (by unfold maxLen; omega)
    have o2 := o1.made (arr := #[.int .i64 (n : Int)]) (n := 1) (by simp) 3 rfl (by unfold maxLen; omega)
    have o3 := o2.made (arr := #[.int .i64 0]) (n := 1) (by simp; omega) 3 rfl (by unfold maxLen; omega)
    have o4 := o3.made (arr := Array.replicate n (Value.int .i64 0)) (n := n) (by simp; omega) 3 (by simp) (by unfold maxLen; omega)
    have o5 := o4.made (arr := #[.slice none 0 0, .slice none 0 0, .slice (some ⟨w.heap.size + 1 + 1 + 1, 0, none⟩) n n, .slice (some ⟨w.heap.size, 0, none⟩) 1 1, .slice (some ⟨w.heap.size + 1, 0, none⟩) 1 1, .slice (some ⟨w.heap.size + 1 + 1, 0, none⟩) 1 1]) (n := 6) (by simp; omega) 92 rfl (by unfold maxLen; omega)
    rw [← hW0] at o5
    simp only [World.size_alloc] at o5
    have o6 := o5.perm (((List.reverse_perm ([(3, Value.slice (some ⟨w.heap.size, 0, none⟩) 1 1, [.int .i64 0]), (3, Value.slice (some ⟨w.heap.size + 1, 0, none⟩) 1 1, [.int .i64 (n : Int)]), (3, Value.slice (some ⟨w.heap.size + 1 + 1, 0, none⟩) 1 1, [.int .i64 0])] : List Item)).cons _).cons _)
    have o7 := to_2 ((to_2 (o6.empty 3)).empty 3)
    have e1 : (Array.replicate n (Value.int .i64 0)).toList = fvals n fun _ => 0 := by
      apply List.ext_getElem (by simp [fvals])
      intro i h1 h2
      simp [fvals]
    rw [e1] at o7
    exact o7
  obtain ⟨i0, hio, hz0, hz1, hz2⟩ := info_parts Try.info3i
  go_enter Try.func63, Try.ntmps63
  go_wp2_with fail
  rw [← hW0]
  clear hW0
  go_loopw [14] (fun v14 wr => ∃ (i : Nat) (a0 : Option Addr) (q0 : Nat) (a1 : Option Addr) (q1 : Nat), v14 = .int .i64 i ∧ i ≤ n ∧ Owns w.heap.size wr ((92, .slice (some ⟨w.heap.size + 1 + 1 + 1 + 1, 0, none⟩) 6 6, [.slice a0 i q0, .slice a1 i q1, .slice (some ⟨w.heap.size + 1 + 1 + 1, 0, none⟩) n n, .slice (some ⟨w.heap.size, 0, none⟩) 1 1, .slice (some ⟨w.heap.size + 1, 0, none⟩) 1 1, .slice (some ⟨w.heap.size + 1 + 1, 0, none⟩) 1 1]) :: (3, .slice a0 i q0, fvals i id) :: (3, .slice a1 i q1, fvals i id) :: (3, .slice (some ⟨w.heap.size + 1 + 1 + 1, 0, none⟩) n n, fvals n fun _ => 0) :: (3, .slice (some ⟨w.heap.size, 0, none⟩) 1 1, fvals 1 fun _ => 0) :: (3, .slice (some ⟨w.heap.size + 1, 0, none⟩) 1 1, fvals 1 fun _ => n) :: (3, .slice (some ⟨w.heap.size + 1 + 1, 0, none⟩) 1 1, fvals 1 fun _ => 0) :: []) ∧ w.grownBy wr none) (fun v14 _ => n - (intOf v14).toNat)
  case atStart => exact ⟨0, none, 0, none, 0, rfl, by omega, O0.out, G0.out⟩
  case round =>
    clear O0 G0
    obtain ⟨i, a0, q0, a1, q1, rfl, hi, ho, hg⟩ := hrel
    have O : Hid (Owns w.heap.size wr ((92, .slice (some ⟨w.heap.size + 1 + 1 + 1 + 1, 0, none⟩) 6 6, [.slice a0 i q0, .slice a1 i q1, .slice (some ⟨w.heap.size + 1 + 1 + 1, 0, none⟩) n n, .slice (some ⟨w.heap.size, 0, none⟩) 1 1, .slice (some ⟨w.heap.size + 1, 0, none⟩) 1 1, .slice (some ⟨w.heap.size + 1 + 1, 0, none⟩) 1 1]) :: (3, .slice a0 i q0, fvals i id) :: (3, .slice a1 i q1, fvals i id) :: (3, .slice (some ⟨w.heap.size + 1 + 1 + 1, 0, none⟩) n n, fvals n fun _ => 0) :: (3, .slice (some ⟨w.heap.size, 0, none⟩) 1 1, fvals 1 fun _ => 0) :: (3, .slice (some ⟨w.heap.size + 1, 0, none⟩) 1 1, fvals 1 fun _ => n) :: (3, .slice (some ⟨w.heap.size + 1 + 1, 0, none⟩) 1 1, fvals 1 fun _ => 0) :: [])) := ho
    have G : Hid (w.grownBy wr none) := hg
    clear ho hg
    by_cases hlt : i < n
    · have hlti : (i : Int) < (n : Int) := by omega
      have x0 := O.out.cell (i := 0) rfl
      have HS : Hid (w.heap.size ≤ wr.heap.size) := G.out.size
      have hO : Hid (∀ ob, (wr.alloc ob).ownsRow w.heap.size 3 1 (.slice a0 i q0) i (fvals i id)) := fun ob => by
        have h2 := (at_2 (O.out.kept (grown_alloc wr ob))).row
        rwa [fvals_len] at h2
      go_wp2_with (at_builtin; first | (refine wpList_append_lies _ rfl _ _ 22 rfl w.heap.size 3 i0 (.int .i64 0) 1 8 Try.underlying22 hio hz0 hz1 hz2 rfl (by decide) (.slice a0 i q0) i _ rfl (hO.out _) ⟨wr.heap.size, 0, none⟩ 1 1 [.int .i64 (i : Int)] rfl rfl (cell_one_at _ _ _ rfl) (by intro u hu; simp at hu; subst hu; rfl) (by omega) (by unfold maxLen; omega) (by omega) (by have := HS.out; simp only [World.size_alloc]; omega) (wr.heap.size + 1) (by rw [World.size_alloc]) ?_; intro ga ca wa hoa hga hata _; obtain ⟨xa, fa, oa, ka⟩ := box_push' (l := []) (f := 0) (O.out.kept (grown_alloc _ _)) (fvals_len _ _) hoa hga hata (by rw [World.size_alloc]) (by decide) rfl; have OA : Hid (Owns w.heap.size (wa.setCell ⟨w.heap.size + 1 + 1 + 1 + 1, 0, none⟩ (.slice (some ⟨ga, 0, none⟩) (i + 1) ca)) ((92, .slice (some ⟨w.heap.size + 1 + 1 + 1 + 1, 0, none⟩) 6 6, [.slice (some ⟨ga, 0, none⟩) (i + 1) ca, .slice a1 i q1, .slice (some ⟨w.heap.size + 1 + 1 + 1, 0, none⟩) n n, .slice (some ⟨w.heap.size, 0, none⟩) 1 1, .slice (some ⟨w.heap.size + 1, 0, none⟩) 1 1, .slice (some ⟨w.heap.size + 1 + 1, 0, none⟩) 1 1]) :: (3, .slice (some ⟨ga, 0, none⟩) (i + 1) ca, fvals (i + 1) id) :: (3, .slice a1 i q1, fvals i id) :: (3, .slice (some ⟨w.heap.size + 1 + 1 + 1, 0, none⟩) n n, fvals n fun _ => 0) :: (3, .slice (some ⟨w.heap.size, 0, none⟩) 1 1, fvals 1 fun _ => 0) :: (3, .slice (some ⟨w.heap.size + 1, 0, none⟩) 1 1, fvals 1 fun _ => n) :: (3, .slice (some ⟨w.heap.size + 1 + 1, 0, none⟩) 1 1, fvals 1 fun _ => 0) :: [])) := (by have h1 := oa; rw [fvals_snoc, upd_id] at h1; exact h1); have KA : Hid (Keeps w.heap.size w (wa.setCell ⟨w.heap.size + 1 + 1 + 1 + 1, 0, none⟩ (.slice (some ⟨ga, 0, none⟩) (i + 1) ca))) := ((Keeps.grown (grown_trans G.out (grown_alloc _ _))).trans ka); have x1 := OA.out.cell (i := 1) rfl; have HSA : Hid (w.heap.size ≤ (wa.setCell ⟨w.heap.size + 1 + 1 + 1 + 1, 0, none⟩ (.slice (some ⟨ga, 0, none⟩) (i + 1) ca)).heap.size) := (Nat.le_trans OA.out.ge.1 (Nat.le_of_lt OA.out.ge.2)); have hOA : Hid (∀ ob, ((wa.setCell ⟨w.heap.size + 1 + 1 + 1 + 1, 0, none⟩ (.slice (some ⟨ga, 0, none⟩) (i + 1) ca)).alloc ob).ownsRow w.heap.size 3 1 (.slice a1 i q1) i (fvals i id)) := (fun ob => by have h2 := (at_3 (OA.out.kept (grown_alloc _ ob))).row; rwa [fvals_len] at h2); clear hoa hga hata oa ka) | (refine wpList_append_lies _ rfl _ _ 22 rfl w.heap.size 3 i0 (.int .i64 0) 1 8 Try.underlying22 hio hz0 hz1 hz2 rfl (by decide) (.slice a1 i q1) i _ rfl (hOA.out _) ⟨wa.heap.size, 0, none⟩ 1 1 [.int .i64 (i : Int)] rfl rfl (cell_one_at _ _ _ (size_set _ _ _)) (by intro u hu; simp at hu; subst hu; rfl) (by omega) (by unfold maxLen; omega) (by omega) (by have := HSA.out; simp only [World.size_alloc]; omega) (wa.heap.size + 1) (by rw [World.size_alloc, size_set]) ?_; intro gb cb wb hoa hga hata _; obtain ⟨xa, fa, oa, ka⟩ := box_push' (l := [(3, .slice (some ⟨ga, 0, none⟩) (i + 1) ca, fvals (i + 1) id)]) (f := 1) (OA.out.kept (grown_alloc _ _)) (fvals_len _ _) hoa hga hata (by rw [World.size_alloc, size_set]) (by decide) rfl; have OB : Hid (Owns w.heap.size (wb.setCell ⟨w.heap.size + 1 + 1 + 1 + 1, 1, none⟩ (.slice (some ⟨gb, 0, none⟩) (i + 1) cb)) ((92, .slice (some ⟨w.heap.size + 1 + 1 + 1 + 1, 0, none⟩) 6 6, [.slice (some ⟨ga, 0, none⟩) (i + 1) ca, .slice (some ⟨gb, 0, none⟩) (i + 1) cb, .slice (some ⟨w.heap.size + 1 + 1 + 1, 0, none⟩) n n, .slice (some ⟨w.heap.size, 0, none⟩) 1 1, .slice (some ⟨w.heap.size + 1, 0, none⟩) 1 1, .slice (some ⟨w.heap.size + 1 + 1, 0, none⟩) 1 1]) :: (3, .slice (some ⟨ga, 0, none⟩) (i + 1) ca, fvals (i + 1) id) :: (3, .slice (some ⟨gb, 0, none⟩) (i + 1) cb, fvals (i + 1) id) :: (3, .slice (some ⟨w.heap.size + 1 + 1 + 1, 0, none⟩) n n, fvals n fun _ => 0) :: (3, .slice (some ⟨w.heap.size, 0, none⟩) 1 1, fvals 1 fun _ => 0) :: (3, .slice (some ⟨w.heap.size + 1, 0, none⟩) 1 1, fvals 1 fun _ => n) :: (3, .slice (some ⟨w.heap.size + 1 + 1, 0, none⟩) 1 1, fvals 1 fun _ => 0) :: [])) := (by have h1 := oa; rw [fvals_snoc, upd_id] at h1; exact h1); have KB : Hid (Keeps w.heap.size w (wb.setCell ⟨w.heap.size + 1 + 1 + 1 + 1, 1, none⟩ (.slice (some ⟨gb, 0, none⟩) (i + 1) cb))) := ((KA.out.alloc _).trans ka); clear hoa hga hata oa ka))
      go_roundw
      case rel => exact ⟨i + 1, some ⟨ga, 0, none⟩, ca, some ⟨gb, 0, none⟩, cb, by go_num, by omega, OB.out, KB.out w (Nat.le_refl _) (grown_refl _ _)⟩
      case measure => simp [intOf]; omega
    · have hie : i = n := by omega
      subst hie
      have hlti : ¬ (i : Int) < (i : Int) := by omega
      obtain ⟨g0, e0⟩ := O.out.formM (List.mem_append_right [_] List.mem_cons_self) (by rw [fvals_len]; omega)
      obtain ⟨g1, e1⟩ := O.out.formM (List.mem_append_right [_, _] List.mem_cons_self) (by rw [fvals_len]; omega)
      subst e0 e1
      go_wp2_with fail
      go_ret
      exact ⟨_, g0, q0, g1, q1, _, _, _, _, _, _, _, _, rfl, O.out, G.out⟩

end Go.Proofs.Ytaangdomdeklhaa
