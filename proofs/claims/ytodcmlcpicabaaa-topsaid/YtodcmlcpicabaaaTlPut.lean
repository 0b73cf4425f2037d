/- Appends to rows of one's own, beside words that lie elsewhere; a box among the rows. -/
import Derived.Test.YtodcmlcpicabaaaTlOfD
import Derived.Test.YtodcmlcpicabaaaTlPush
namespace Go.Proofs.Ytodcmlcpicabaaa
open Go.RowKit
set_option linter.unusedVariables false
set_option linter.unusedSimpArgs false

theorem OwnsP.pushI {B lo hi : Nat} {w : World} {v : Value} {xs : List Value} {r : List Item} {ps : List Trip} {n H : Nat} (h : OwnsP B lo hi w ((3, v, xs) :: r) ps) (hn : xs.length = n) (hB : B ≤ w.heap.size) (hH : w.heap.size = H) (hl : n ≤ 100000) (u : Value) (hu : u.oneCell' = true) :
    ∃ g cap w', (AppY #[22, 22] 22 #[v, .slice (some ⟨H, 0, none⟩) 1 1]).run Try.prog (w.alloc (.cells #[u] 3)) = .ok (.slice (some ⟨g, 0, none⟩) (n + 1) cap) w' ∧ OwnsP B lo hi w' ((3, .slice (some ⟨g, 0, none⟩) (n + 1) cap, xs ++ [u]) :: r) ps ∧ (∀ w0 : World, w0.heap.size ≤ B → w0.grownBy w none → w0.grownBy w' none) ∧ B ≤ w'.heap.size := by
  subst hn hH
  obtain ⟨i0, hi0, hz0, hz1, hz2⟩ := info_partsY Try.infoI64Y
  have h1 := h.kept (grown_alloc w (.cells #[u] 3))
  obtain ⟨g, cap, w', hr, h2, h3, h4, _⟩ := run_append_lies (P := Try.prog) (w.alloc (.cells #[u] 3)) 22 22 B 3 i0 (.int .i64 0) 1 8 Try.underlying22 hi0 hz0 hz1 hz2 rfl (by decide) v xs.length xs h1.own.row ⟨w.heap.size, 0, none⟩ 1 1 [u] rfl (one_new w u _) (by intro x hx; simp at hx; subst hx; exact hu) (by omega) (by unfold maxLen; omega) (by omega) (by simp; omega) _ rfl
  exact ⟨g, cap, w', hr, h1.append h2 (by simp) h3 h4 rfl, fun w0 h0 hg => h1.own.frame h0 (grown_trans hg (grown_alloc _ _)) h3, by have := h3.size; rw [World.size_alloc] at this; omega⟩
theorem OwnsP.pushS {B lo hi : Nat} {w : World} {v : Value} {xs : List Value} {r : List Item} {ps : List Trip} {n H : Nat} (h : OwnsP B lo hi w ((22, v, xs) :: r) ps) (hn : xs.length = n) (hB : B ≤ w.heap.size) (hH : w.heap.size = H) (hl : n ≤ 100000) (u : Value) (hu : u.oneCell' = true) :
    ∃ g cap w', (AppY #[23, 23] 23 #[v, .slice (some ⟨H, 0, none⟩) 1 1]).run Try.prog (w.alloc (.cells #[u] 22)) = .ok (.slice (some ⟨g, 0, none⟩) (n + 1) cap) w' ∧ OwnsP B lo hi w' ((22, .slice (some ⟨g, 0, none⟩) (n + 1) cap, xs ++ [u]) :: r) ps ∧ (∀ w0 : World, w0.heap.size ≤ B → w0.grownBy w none → w0.grownBy w' none) ∧ B ≤ w'.heap.size := by
  subst hn hH
  obtain ⟨i0, hi0, hz0, hz1, hz2⟩ := info_partsY Try.infoSlY
  have h1 := h.kept (grown_alloc w (.cells #[u] 22))
  obtain ⟨g, cap, w', hr, h2, h3, h4, _⟩ := run_append_lies (P := Try.prog) (w.alloc (.cells #[u] 22)) 23 23 B 22 i0 (.slice none 0 0) 1 24 Try.underlying23 hi0 hz0 hz1 hz2 rfl (by decide) v xs.length xs h1.own.row ⟨w.heap.size, 0, none⟩ 1 1 [u] rfl (one_new w u _) (by intro x hx; simp at hx; subst hx; exact hu) (by omega) (by unfold maxLen; omega) (by omega) (by simp; omega) _ rfl
  exact ⟨g, cap, w', hr, h1.append h2 (by simp) h3 h4 rfl, fun w0 h0 hg => h1.own.frame h0 (grown_trans hg (grown_alloc _ _)) h3, by have := h3.size; rw [World.size_alloc] at this; omega⟩
theorem OwnsP.pushT {B lo hi : Nat} {w : World} {v : Value} {xs : List Value} {r : List Item} {ps : List Trip} {n H : Nat} (h : OwnsP B lo hi w ((23, v, xs) :: r) ps) (hn : xs.length = n) (hB : B ≤ w.heap.size) (hH : w.heap.size = H) (hl : n ≤ 100000) (u : Value) (hu : u.oneCell' = true) :
    ∃ g cap w', (AppY #[24, 24] 24 #[v, .slice (some ⟨H, 0, none⟩) 1 1]).run Try.prog (w.alloc (.cells #[u] 23)) = .ok (.slice (some ⟨g, 0, none⟩) (n + 1) cap) w' ∧ OwnsP B lo hi w' ((23, .slice (some ⟨g, 0, none⟩) (n + 1) cap, xs ++ [u]) :: r) ps ∧ (∀ w0 : World, w0.heap.size ≤ B → w0.grownBy w none → w0.grownBy w' none) ∧ B ≤ w'.heap.size := by
  subst hn hH
  obtain ⟨i0, hi0, hz0, hz1, hz2⟩ := info_partsY Try.infoTT
  have h1 := h.kept (grown_alloc w (.cells #[u] 23))
  obtain ⟨g, cap, w', hr, h2, h3, h4, _⟩ := run_append_lies (P := Try.prog) (w.alloc (.cells #[u] 23)) 24 24 B 23 i0 (.slice none 0 0) 1 24 Try.underlying24 hi0 hz0 hz1 hz2 rfl (by decide) v xs.length xs h1.own.row ⟨w.heap.size, 0, none⟩ 1 1 [u] rfl (one_new w u _) (by intro x hx; simp at hx; subst hx; exact hu) (by omega) (by unfold maxLen; omega) (by omega) (by simp; omega) _ rfl
  exact ⟨g, cap, w', hr, h1.append h2 (by simp) h3 h4 rfl, fun w0 h0 hg => h1.own.frame h0 (grown_trans hg (grown_alloc _ _)) h3, by have := h3.size; rw [World.size_alloc] at this; omega⟩
/-- A word is put behind. -/
theorem OwnsP.putW {B lo hi : Nat} {w : World} {a b : Option Addr} {c d n m : Nat} {zs us : List Int} {r : List Item} {ps : List Trip} (h : OwnsP B lo hi w ((3, .slice a n c, vals zs) :: r) ps) (hm : us.length = m) (hu : Ints w b us) (hB : B ≤ w.heap.size) (hl : n + m ≤ 1000) :
    ∃ a1 c1 w', (AppY #[22, 22] 22 #[.slice a n c, .slice b m d]).run Try.prog w = .ok (.slice a1 (n + m) c1) w' ∧ OwnsP B lo hi w' ((3, .slice a1 (n + m) c1, vals (zs ++ us)) :: r) ps ∧ (∀ w0 : World, w0.heap.size ≤ B → w0.grownBy w none → w0.grownBy w' none) ∧ B ≤ w'.heap.size := by
  have hn := h.own.len
  rw [vals_len] at hn
  subst hn hm
  obtain ⟨i0, hi0, hz0, hz1, hz2⟩ := info_partsY Try.infoI64Y
  have ho := h.own.row
  rw [vals_len] at ho
  by_cases he : us = []
  · subst he
    refine ⟨a, c, w, ?_, by simpa using h, fun w0 _ hg => hg, hB⟩
    rcases ho.2 with ⟨h1, _⟩ | ⟨g', cap', cur, h1, _, _, h4, _⟩
    · simp only [Value.slice.injEq] at h1
      obtain ⟨rfl, h2, rfl⟩ := h1
      simp only [List.length_nil, Nat.add_zero]
      rw [h2]
      cases b with
      | none => simp [AppY, Builtin.append_, run_underlying Try.underlying22, sizeOf, typeInfo, zeroValue, hi0, hz0, Builtin.lenOf, run_firstCells_none, storeCells]
      | some b =>
        have hf := run_firstCells_some (P := Try.prog) w i0.size 0 b 0 d [] (by simp) (by simp)
        simp [AppY, Builtin.append_, run_underlying Try.underlying22, sizeOf, typeInfo, zeroValue, hi0, hz0, Builtin.lenOf, hf, storeCells]
    · simp only [Value.slice.injEq] at h1
      obtain ⟨rfl, _, rfl⟩ := h1
      have h5 : ¬ c < zs.length := by omega
      simp only [List.length_nil, Nat.add_zero]
      cases b with
      | none => simp [AppY, Builtin.append_, run_underlying Try.underlying22, sizeOf, typeInfo, zeroValue, hi0, hz0, Builtin.lenOf, run_firstCells_none, storeCells, h5, h4]
      | some b =>
        have hf := run_firstCells_some (P := Try.prog) w i0.size 0 b 0 d [] (by simp) (by simp)
        simp [AppY, Builtin.append_, run_underlying Try.underlying22, sizeOf, typeInfo, zeroValue, hi0, hz0, Builtin.lenOf, hf, storeCells, h5, h4]
  · have hlen : 0 < us.length := List.length_pos_iff.2 he
    obtain ⟨b', off, rfl, hc⟩ := hu.at hlen
    obtain ⟨g, cap, w', hr, h2, h3, h4, _⟩ := run_append_lies (P := Try.prog) w 22 22 B 3 i0 (.int .i64 0) 1 8 Try.underlying22 hi0 hz0 hz1 hz2 rfl (by decide) (.slice a zs.length c) zs.length (vals zs) ho ⟨b', off, none⟩ us.length d (vals us) (by simp [vals]) (fun j u hj => by
        have hj' : j < us.length := by have := (List.getElem?_eq_some_iff.1 hj).1; simpa [vals] using this
        have e : (⟨b', off, none⟩ : Addr).add j = ⟨b', off + j, none⟩ := by by_cases hj0 : j = 0 <;> simp [Addr.add, hj0]
        rw [e, hc j hj', ← hj, vals_get hj']) (by intro u hu; simp [vals] at hu; obtain ⟨x, _, rfl⟩ := hu; rfl) hlen (by unfold maxLen; omega) (by omega) hB _ rfl
    have e : vals zs ++ vals us = vals (zs ++ us) := by simp [vals]
    rw [e] at h2
    have h5 := h.append (g := g) (n := zs.length + us.length) (cap := cap) (news := vals us) (by rw [e]; exact h2) (by simp [vals]) h3 h4 rfl
    rw [e] at h5
    exact ⟨some ⟨g, 0, none⟩, cap, w', hr, h5, fun w0 h0 hg => h.own.frame h0 hg h3, Nat.le_trans hB h3.size⟩
/-- A box comes among the rows. -/
theorem OwnsP.box {B lo hi : Nat} {w : World} {r : List Item} {ps : List Trip} (h : OwnsP B lo hi w r ps) (hB : B ≤ w.heap.size) (arr : Array Value) (t : TypeId) (n : Nat) (hn : arr.size = n) (hm : n ≤ 100) : OwnsP B lo hi (w.alloc (.cells arr t)) ((t, .slice (some ⟨w.heap.size, 0, none⟩) n n, arr.toList) :: r) ps := h.made hB t hn (by unfold maxLen; omega)
theorem OwnsP.empty {B lo hi : Nat} {w : World} {r : List Item} {ps : List Trip} (h : OwnsP B lo hi w r ps) (t : TypeId) : OwnsP B lo hi w ((t, .slice none 0 0, []) :: r) ps := by
  refine ⟨?_, h.lie, fun p hp hne y hy => ⟨(h.apt p hp hne y hy).1, fun it hm => ?_⟩⟩
  · exact h.own.empty t
  · rcases List.mem_cons.1 hm with rfl | hm
    · simp [Value.ownBlock]
    · exact (h.apt p hp hne y hy).2 it hm
theorem OwnsP.cell {B lo hi : Nat} {w : World} {t : TypeId} {g n cap : Nat} {xs : List Value} {r : List Item} {ps : List Trip} {u : Value} {i : Nat} (h : OwnsP B lo hi w ((t, .slice (some ⟨g, 0, none⟩) n cap, xs) :: r) ps) (hi : xs[i]? = some u) : w.cell? ⟨g, i, none⟩ = some u ∧ w.frozen? ⟨g, i, none⟩ = false := ⟨h.own.cell hi, h.own.fz i⟩

end Go.Proofs.Ytodcmlcpicabaaa
