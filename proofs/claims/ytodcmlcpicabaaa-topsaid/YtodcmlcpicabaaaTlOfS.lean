/- How 'of' begins, and what lies there when it ends. -/
import Derived.Test.YtodcmlcpicabaaaTlOfD
namespace Go.Proofs.Ytodcmlcpicabaaa
open Go.RowKit
set_option linter.unusedVariables false

theorem numT_made (w : World) : NumAt (w.alloc (.map #[] 0)) w.heap.size [] :=
  ⟨.map [], World.ownsMap_made w _ _ _, fun y _ => by simp [Maps.has_eq], fun i hi => by simp at hi⟩
theorem ofT_start {lo : Nat} (w : World) (l x0 : Nat) (hx : x0 < 4611686018427387904) :
    ∃ W4, (Instr.mapUpdate 77 (.map (some (w.heap.size + 1 + 1 + 1))) (.int .i64 (x0 : Int)) (.int .i64 0)).run Try.prog ((((w.alloc (.cells zer7 26)).alloc (.cells #[.int .i64 (l : Int), .int .i64 0, .int .i64 0, .slice none 0 0, .slice none 0 0, .slice none 0 0, .slice none 0 0] 26)).alloc (.cells #[.int .i64 (x0 : Int)] 3)).alloc (.map #[] 0)) = .ok () W4 ∧
      OfT lo w.heap.size l W4 (.slice (some ⟨w.heap.size + 1 + 1, 0, none⟩) 1 1) (.slice none 0 0) (.slice none 0 0) (.slice none 0 0) [x0] [] [] [] [] [] ∧ w.grownBy W4 none := by
  generalize hW0 : w.alloc (.cells zer7 26) = W0
  have s0 : W0.heap.size = w.heap.size + 1 := by rw [← hW0]; simp
  have b0 : W0.heap[w.heap.size]? = some (.cells zer7 26 (0, 0)) := by rw [← hW0]; exact heap_alloc_new w _
  have g0 : w.grownBy W0 none := by rw [← hW0]; exact grown_alloc _ _
  generalize hW1 : W0.alloc (.cells #[.int .i64 (l : Int), .int .i64 0, .int .i64 0, .slice none 0 0, .slice none 0 0, .slice none 0 0, .slice none 0 0] 26) = W1
  have s1 : W1.heap.size = w.heap.size + 2 := by rw [← hW1]; simp [s0]
  have b1 : W1.heap[w.heap.size + 1]? = some (.cells #[.int .i64 (l : Int), .int .i64 0, .int .i64 0, .slice none 0 0, .slice none 0 0, .slice none 0 0, .slice none 0 0] 26 (0, 0)) := by rw [← hW1, ← s0]; exact heap_alloc_new W0 _
  have g1 : W0.grownBy W1 none := by rw [← hW1]; exact grown_alloc _ _
  have o1 : Owns (w.heap.size + 2) W1 ((22, .slice none 0 0, []) :: (23, .slice none 0 0, []) :: (22, .slice none 0 0, []) :: []) := (((Owns.no _ _).empty _).empty _).empty _
  have o2 := o1.made (arr := #[.int .i64 (x0 : Int)]) (n := 1) (by omega) 3 rfl (by unfold maxLen; omega)
  generalize hW2 : W1.alloc (.cells #[.int .i64 (x0 : Int)] 3) = W2 at *
  have s2 : W2.heap.size = w.heap.size + 3 := by rw [← hW2]; simp [s1]
  have g2 : W1.grownBy W2 none := by rw [← hW2]; exact grown_alloc _ _
  have n3 := numT_made W2
  rw [s2] at n3
  have g3 : W2.grownBy (W2.alloc (.map #[] 0)) none := grown_alloc _ _
  generalize W2.alloc (.map #[] 0) = W3 at *
  obtain ⟨W4, hr, hn4, hg4⟩ := n3.put hx (by simp) (by simp) (by simp)
  refine ⟨W4, by simpa using hr, ?_, ?_⟩
  · have gg : W2.grownBy W4 (some (w.heap.size + 3)) := ⟨hg4.os.trans g3.os, hg4.tape.trans g3.tape, hg4.output.trans g3.output, Nat.le_trans g3.size hg4.size, fun k hk hne => (hg4.block k (Nat.lt_of_lt_of_le hk g3.size) hne).trans (g3.block k hk (by simp))⟩
    refine ⟨?_, ?_, by simpa using hn4, ?_⟩
    · exact (gg.block _ (by omega) (by simp)).trans ((g2.block _ (by omega) (by simp)).trans ((g1.block _ (by omega) (by simp)).trans b0))
    · exact (gg.block _ (by omega) (by simp)).trans ((g2.block _ (by omega) (by simp)).trans b1)
    · have o3 : Owns (w.heap.size + 2) W4 _ := o2.far gg (fun it hm hc => by have := ((o2.1 it hm).1.lt _ hc).2; omega)
      rw [s1] at o3
      refine ⟨by simpa [vals, natInts, valsT] using o3, fun p hp => by simp at hp, fun p hp => by simp at hp⟩
  · exact grown_new (grown_trans (grown_trans (grown_trans g0 g1) g2) g3) hg4 (by omega)

theorem item_cells {B : Nat} {w : World} {e : TypeId} {v : Value} {vs : List Value} (h : OwnsI B w (e, v, vs)) : ∃ a c, v = .slice a vs.length c ∧ vs.length ≤ maxLen ∧ (vs = [] ∨ ∃ g, a = some ⟨g, 0, none⟩ ∧ ∀ i u, vs[i]? = some u → w.cell? ⟨g, i, none⟩ = some u) := by
  have ho : Owns B w [(e, v, vs)] := ⟨fun it hm => by rw [List.mem_singleton.1 hm]; exact h, List.pairwise_singleton _ _⟩
  obtain ⟨h1, a, c, hv⟩ := h
  have hv' : v = .slice a vs.length c := hv
  subst hv'
  refine ⟨a, c, rfl, ?_, ?_⟩
  · rcases h1.2 with ⟨_, e0⟩ | ⟨g, cap, cur, e1, _, _, h5, h6, _⟩
    · simp only at e0; omega
    · simp only at h5 h6; omega
  · by_cases h0 : vs = []
    · exact .inl h0
    · obtain ⟨g, cap, e1, _⟩ := ho.form (List.length_pos_iff.2 h0)
      simp only [Value.slice.injEq] at e1
      obtain ⟨rfl, _, rfl⟩ := e1
      exact .inr ⟨g, rfl, fun i u hu => ho.cell hu⟩
theorem item_ints {B : Nat} {w : World} {v : Value} {zs : List Int} (h : OwnsI B w (3, v, vals zs)) : ∃ a c, v = .slice a zs.length c ∧ Ints w a zs ∧ zs.length ≤ maxLen := by
  obtain ⟨a, c, e1, e2, e3⟩ := item_cells h
  rw [vals_len] at e1 e2
  refine ⟨a, c, e1, ?_, e2⟩
  rcases e3 with e3 | ⟨g, rfl, hc⟩
  · left; simpa [vals] using e3
  · exact .inr ⟨g, 0, rfl, fun i hi => by rw [Nat.zero_add]; exact hc i _ (vals_get hi)⟩
theorem item_trip {B : Nat} {w : World} {e : TypeId} {v : Value} {ps : List Trip} (h : OwnsI B w (e, v, valsT ps)) : ∃ a c, v = .slice a ps.length c ∧ TripAt w a ps ∧ ps.length ≤ maxLen := by
  obtain ⟨a, c, e1, e2, e3⟩ := item_cells h
  have hl : (valsT ps).length = ps.length := by simp [valsT]
  rw [hl] at e1 e2
  refine ⟨a, c, e1, ?_, e2⟩
  rcases e3 with e3 | ⟨g, rfl, hc⟩
  · left; simpa [valsT] using e3
  · refine .inr ⟨g, 0, rfl, fun i hi => ?_⟩
    rw [Nat.zero_add]
    exact hc i _ (by simp [valsT, hi, List.getD])

/-- What lies there in the end. -/
theorem ownsP_out {lo B k : Nat} {w : World} {vS : Value} {a4 a5 a6 : Option Addr} {c4 c5 c6 : Nat} {xs : List Nat} {rs : List (Value × List Int)} {ys : List (Value × List Trip)} {es : List Trip} (I O S : Int) {N : List (List Int)} {Y : List (List (List Int))} {E : List (List Int)}
    (ho : OwnsP (B + 2) (min lo B) (B + 4) w ((3, vS, vals (natInts xs)) :: (22, .slice a4 k c4, rs.map (·.1)) :: (23, .slice a5 k c5, ys.map (·.1)) :: (22, .slice a6 k c6, valsT es) :: ([] ++ (rowItems rs ++ sayItems ys))) ([] ++ (es ++ ys.flatMap (·.2)))) (hN : rs.map (·.2) = N) (hY : ys.map (fun p => wordsT p.2) = Y) (hE : wordsT es = E) (hl : ∀ p, p ∈ es ++ ys.flatMap (·.2) → p.2.2.length ≤ maxLen) :
    TnAt w ⟨I, O, S, [], N, Y, E⟩ none a4 a5 a6 ∧ TripAt w a6 es := by
  have m4 := ho.own.1 (22, .slice a4 k c4, rs.map (·.1)) (by simp)
  have m5 := ho.own.1 (23, .slice a5 k c5, ys.map (·.1)) (by simp)
  have m6 := ho.own.1 (22, .slice a6 k c6, valsT es) (by simp)
  have hlie : LieT w (es ++ ys.flatMap (·.2)) := fun p hp => ⟨ho.lie p (by simpa using hp), hl p hp⟩
  obtain ⟨b4, d4, e4, n4, z4⟩ := item_cells m4
  obtain ⟨b5, d5, e5, n5, z5⟩ := item_cells m5
  obtain ⟨b6, d6, e6, t6, n6⟩ := item_trip m6
  simp only [Value.slice.injEq] at e4 e5 e6
  obtain ⟨rfl, _, rfl⟩ := e4
  obtain ⟨rfl, _, rfl⟩ := e5
  obtain ⟨rfl, _, rfl⟩ := e6
  simp only [List.length_map] at n4 n5
  subst hN hY hE
  refine ⟨⟨.inl rfl, ?_, ?_, ?_, by simp [maxLen], by simpa using n4, by simpa using n5, by simpa [wordsT] using n6⟩, t6⟩
  · rcases z4 with z4 | ⟨g, rfl, hc⟩
    · left; simpa using z4
    · refine .inr ⟨g, 0, rfl, fun i hi => ?_⟩
      have hi' : i < rs.length := by simpa using hi
      have mi := ho.own.1 (3, rs[i].1, vals rs[i].2) (by
        simp only [List.nil_append, List.mem_cons, List.mem_append]
        refine .inr (.inr (.inr (.inr (.inl ?_))))
        exact List.mem_map.2 ⟨rs[i], List.getElem_mem hi', rfl⟩)
      obtain ⟨ai, ci, ei, ii, mm⟩ := item_ints mi
      have eg : (rs.map (·.2)).getD i [] = rs[i].2 := by simp [List.getD, hi']
      rw [Nat.zero_add, eg]
      refine ⟨ai, ci, ?_, ii, mm⟩
      rw [← ei]
      exact hc i _ (by simp [hi'])
  · rcases z5 with z5 | ⟨g, rfl, hc⟩
    · left; simpa using z5
    · refine .inr ⟨g, 0, rfl, fun i hi => ?_⟩
      have hi' : i < ys.length := by simpa using hi
      have mi := ho.own.1 (22, ys[i].1, valsT ys[i].2) (by
        simp only [List.nil_append, List.mem_cons, List.mem_append]
        refine .inr (.inr (.inr (.inr (.inr ?_))))
        exact List.mem_map.2 ⟨ys[i], List.getElem_mem hi', rfl⟩)
      obtain ⟨ai, ci, ei, ti, mm⟩ := item_trip mi
      have eg : (ys.map (fun p => wordsT p.2)).getD i [] = wordsT ys[i].2 := by simp [List.getD, hi']
      rw [Nat.zero_add, eg, wordsT_len]
      refine ⟨ai, ci, ?_, ti.rows (fun p hp => hlie p ?_), mm⟩
      · rw [← ei]
        exact hc i _ (by simp [hi'])
      · exact List.mem_append.2 (.inr (List.mem_flatMap.2 ⟨ys[i], List.getElem_mem hi', hp⟩))
  · exact t6.rows (fun p hp => hlie p (List.mem_append.2 (.inl hp)))

end Go.Proofs.Ytodcmlcpicabaaa
