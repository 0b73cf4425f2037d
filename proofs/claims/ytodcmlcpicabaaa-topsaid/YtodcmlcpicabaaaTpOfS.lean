/- How 'of' over pairs begins, in whatever order. -/
import Derived.Test.YtodcmlcpicabaaaTpOfR
namespace Go.Proofs.Ytodcmlcpicabaaa
open Go.RowKit
set_option linter.unusedVariables false

theorem numQ_made (w : World) (k : Nat) : NumAt2 (w.alloc (.map #[] 0)) w.heap.size k [] :=
  ⟨.map [], World.ownsMap_made w _ _ _, fun y _ => by simp [Maps.has_eq], fun i hi => by simp at hi⟩
theorem rowQ_new {B : Nat} {W : World} (hB : B ≤ W.heap.size) (k x0 : Nat) : (W.alloc (.cells #[.int .i64 ((pxx k x0 : Nat) : Int), .int .i64 ((pyy k x0 : Nat) : Int)] 56)).ownsRow B 56 2 (.slice (some ⟨W.heap.size, 0, none⟩) 1 1) 1 (pcells k [x0]) :=
  ⟨by simp [pcells], .inr ⟨W.heap.size, 1, _, rfl, hB, heap_alloc_new _ _, Nat.le_refl _, by unfold maxLen; omega, rfl, by simp [pcells]⟩⟩
theorem ofQ_start {lo B bm l k x0 g : Nat} {V : World} (hres : V.heap[B]? = some (.cells zer7 26 (0, 0))) (hbox : V.heap[B + 1]? = some (.cells #[.int .i64 (l : Int), .int .i64 0, .int .i64 0, .slice none 0 0, .slice none 0 0, .slice none 0 0, .slice none 0 0] 26 (0, 0)))
    (hge : B + 2 ≤ bm) (hle : bm ≤ B + 3) (hsz : B + 3 < V.heap.size) (hn : NumAt2 V bm k [x0]) (ho : V.ownsRow (B + 2) 56 2 (.slice (some ⟨g, 0, none⟩) 1 1) 1 (pcells k [x0])) : OfQ lo B bm l k V (.slice (some ⟨g, 0, none⟩) 1 1) (.slice none 0 0) (.slice none 0 0) (.slice none 0 0) [x0] [] [] [] [] [] :=
  ⟨hres, hbox, ⟨hn, hge, hle, hsz⟩, ⟨ho, ⟨(((Owns.no _ _).empty _).empty _).empty _, fun p hp => by simp at hp, fun p hp => by simp at hp⟩, fun it hm => by
    simp only [List.map_nil, List.append_nil, List.mem_cons, List.not_mem_nil, or_false, valsT, rowItems, sayItems] at hm
    rcases hm with rfl | rfl | rfl <;> exact .inr (.inl rfl), fun p hp => by simp at hp⟩⟩
section
variable {lo B l x0 : Nat} {W : World} (k : Nat) (hs : W.heap.size = B + 2) (hres : W.heap[B]? = some (.cells zer7 26 (0, 0))) (hbox : W.heap[B + 1]? = some (.cells #[.int .i64 (l : Int), .int .i64 0, .int .i64 0, .slice none 0 0, .slice none 0 0, .slice none 0 0, .slice none 0 0] 26 (0, 0))) (hx : x0 < 4611686018427387904)
include hs hres hbox hx
theorem startQ_C : ∃ V, (Instr.mapUpdate 81 (.map (some W.heap.size)) (pvl k x0) (.int .i64 0)).run Try.prog (W.alloc (.map #[] 0)) = .ok () V ∧ W.grownBy V none ∧
    OfQ lo B (B + 2) l k (V.alloc (.cells #[.int .i64 ((pxx k x0 : Nat) : Int), .int .i64 ((pyy k x0 : Nat) : Int)] 56)) (.slice (some ⟨V.heap.size, 0, none⟩) 1 1) (.slice none 0 0) (.slice none 0 0) (.slice none 0 0) [x0] [] [] [] [] [] ∧ W.grownBy (V.alloc (.cells #[.int .i64 ((pxx k x0 : Nat) : Int), .int .i64 ((pyy k x0 : Nat) : Int)] 56)) none := by
  obtain ⟨V, hr, hn, hg⟩ := (numQ_made W k).put hx (by simp) (by simp) (by simp)
  have g1 : W.grownBy V none := grown_new (grown_alloc _ _) hg (Nat.le_refl _)
  have g2 := grown_trans g1 (grown_alloc V (.cells #[.int .i64 ((pxx k x0 : Nat) : Int), .int .i64 ((pyy k x0 : Nat) : Int)] 56))
  have hsV : B + 3 ≤ V.heap.size := by have := hg.size; rw [World.size_alloc] at this; omega
  refine ⟨V, by simpa using hr, g1, ?_, g2⟩
  refine ofQ_start ((g2.block _ (by omega) (by simp)).trans hres) ((g2.block _ (by omega) (by simp)).trans hbox) (Nat.le_refl _) (by omega) (by rw [World.size_alloc]; omega) ?_ (rowQ_new (by omega) k x0)
  have := hn.kept (grown_alloc V (.cells #[.int .i64 ((pxx k x0 : Nat) : Int), .int .i64 ((pyy k x0 : Nat) : Int)] 56)) (by simp)
  rw [hs] at this
  simpa using this
theorem startQ_A : ∃ V, (Instr.mapUpdate 81 (.map (some (W.heap.size + 1))) (pvl k x0) (.int .i64 0)).run Try.prog ((W.alloc (.cells #[.int .i64 ((pxx k x0 : Nat) : Int), .int .i64 ((pyy k x0 : Nat) : Int)] 56)).alloc (.map #[] 0)) = .ok () V ∧
    OfQ lo B (B + 3) l k V (.slice (some ⟨W.heap.size, 0, none⟩) 1 1) (.slice none 0 0) (.slice none 0 0) (.slice none 0 0) [x0] [] [] [] [] [] ∧ W.grownBy V none := by
  have hn0 := numQ_made (W.alloc (.cells #[.int .i64 ((pxx k x0 : Nat) : Int), .int .i64 ((pyy k x0 : Nat) : Int)] 56)) k
  rw [World.size_alloc] at hn0
  obtain ⟨V, hr, hn, hg⟩ := hn0.put hx (by simp) (by simp) (by simp)
  have ga := grown_alloc W (.cells #[.int .i64 ((pxx k x0 : Nat) : Int), .int .i64 ((pyy k x0 : Nat) : Int)] 56)
  have gb := grown_alloc (W.alloc (.cells #[.int .i64 ((pxx k x0 : Nat) : Int), .int .i64 ((pyy k x0 : Nat) : Int)] 56)) (.map #[] 0)
  have g1 : W.grownBy V none := grown_new (grown_trans ga gb) hg (by omega)
  have hsV : B + 4 ≤ V.heap.size := by have := hg.size; rw [World.size_alloc, World.size_alloc] at this; omega
  refine ⟨V, by simpa using hr, ?_, g1⟩
  refine ofQ_start ((g1.block _ (by omega) (by simp)).trans hres) ((g1.block _ (by omega) (by simp)).trans hbox) (by omega) (Nat.le_refl _) (by omega) (by rw [hs] at hn; simpa using hn) ?_
  exact ((rowQ_new (B := B + 2) (by omega) k x0).kept gb (by simp [Value.ownBlock])).kept hg (.inr (by simp [Value.ownBlock]))
theorem startQ_B : ∃ V, (Instr.mapUpdate 81 (.map (some W.heap.size)) (pvl k x0) (.int .i64 0)).run Try.prog ((W.alloc (.map #[] 0)).alloc (.cells #[.int .i64 ((pxx k x0 : Nat) : Int), .int .i64 ((pyy k x0 : Nat) : Int)] 56)) = .ok () V ∧
    OfQ lo B (B + 2) l k V (.slice (some ⟨W.heap.size + 1, 0, none⟩) 1 1) (.slice none 0 0) (.slice none 0 0) (.slice none 0 0) [x0] [] [] [] [] [] ∧ W.grownBy V none := by
  have ga := grown_alloc W (.map #[] 0)
  have gb := grown_alloc (W.alloc (.map #[] 0)) (.cells #[.int .i64 ((pxx k x0 : Nat) : Int), .int .i64 ((pyy k x0 : Nat) : Int)] 56)
  obtain ⟨V, hr, hn, hg⟩ := ((numQ_made W k).kept gb (by simp)).put hx (by simp) (by simp) (by simp)
  have g1 : W.grownBy V none := grown_new (grown_trans ga gb) hg (Nat.le_refl _)
  have hsV : B + 4 ≤ V.heap.size := by have := hg.size; rw [World.size_alloc, World.size_alloc] at this; omega
  refine ⟨V, by simpa using hr, ?_, g1⟩
  have hrow := rowQ_new (B := B + 2) (W := W.alloc (.map #[] 0)) (by rw [World.size_alloc]; omega) k x0
  rw [World.size_alloc] at hrow
  exact ofQ_start ((g1.block _ (by omega) (by simp)).trans hres) ((g1.block _ (by omega) (by simp)).trans hbox) (Nat.le_refl _) (by omega) (by omega) (by rw [hs] at hn; simpa using hn) (hrow.kept hg (.inr (by simp [Value.ownBlock])))
end

end Go.Proofs.Ytodcmlcpicabaaa
