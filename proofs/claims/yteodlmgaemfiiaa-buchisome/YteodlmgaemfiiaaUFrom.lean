/- buchi.stepsFrom: the steps by the states that they begin in. -/
import Derived.Test.YteodlmgaemfiiaaUOwnG
import Derived.Test.YteodlmgaemfiiaaUSome
import Derived.Test.YteodlmgaemfiiaaUCheck2
namespace Go.Proofs.Yteodlmgaemfiiaa
open Go.RowKit
set_option linter.unusedVariables false
attribute [local go_sem ↓] app_fold

theorem flatT_snoc (T : List StepI) (x : StepI) : flatT T ++ [.int .i64 x.1, .int .i64 x.2.1, .int .i64 x.2.2] = flatT (T ++ [x]) := by simp [flatT]
theorem range_split {n f : Nat} (h : f < n) : List.range n = List.range f ++ f :: (List.range n).drop (f + 1) := by
  have h1 : (List.range n).take f = List.range f := by rw [List.take_range, Nat.min_eq_left (by omega)]
  have h2 : (List.range n)[f]'(by simpa using h) = f := by simp
  conv => lhs; rw [← List.take_append_drop f (List.range n), h1, List.drop_eq_getElem_cons (by simpa using h), h2]
theorem map_upd {α : Type} {n f : Nat} (h : f < n) {F G : Nat → α} (hk : ∀ k, k < n → k ≠ f → G k = F k) : (List.range n).map G = (List.range f).map F ++ G f :: ((List.range n).drop (f + 1)).map F := by
  rw [range_split h, List.map_append, List.map_cons]
  congr 1
  · exact List.map_congr_left fun k hm => hk k (by have := List.mem_range.1 hm; omega) (by have := List.mem_range.1 hm; omega)
  · congr 1
    rw [← range_split h]
    refine List.map_congr_left fun k hm => ?_
    obtain ⟨i, hi, rfl⟩ := List.getElem_of_mem hm
    rw [List.length_drop, List.length_range] at hi
    rw [List.getElem_drop, List.getElem_range]
    exact hk _ (by omega) (by omega)
def rowG (V : Nat → Value) (T : List StepI) (f : Nat) : ItemG := ⟨59, 3, V f, (fromT T f).length, flatT (fromT T f)⟩
/-- The table under way. -/
structure SfAt (B : Nat) (w : World) (gt n : Nat) (T : List StepI) : Prop where
  ex : ∃ V : Nat → Value, OwnsG B w (⟨23, 1, .slice (some ⟨gt, 0, none⟩) n n, n, (List.range n).map V⟩ :: (List.range n).map (rowG V T))
theorem SfAt.kept {B : Nat} {w w' : World} {gt n : Nat} {T : List StepI} (h : SfAt B w gt n T) (hg : w.grownBy w' none) : SfAt B w' gt n T := by
  obtain ⟨V, h1⟩ := h.ex
  exact ⟨V, h1.kept hg⟩
theorem SfAt.push {B : Nat} {w0 w : World} {gt n : Nat} {T : List StepI} (h0 : SfAt B w0 gt n T) (hg0 : w0.grownBy w none) (hB : B ≤ w.heap.size) (hT : T.length ≤ 1000000) {f : Nat} (hf : f < n) (y z : Int) {H : Nat} (hH : w.heap.size = H) :
    ∃ v g c w', w.cell? ⟨gt, f, none⟩ = some v ∧ (∃ a k c', v = .slice a k c') ∧ (AppS #[23, 23] 23 #[v, .slice (some ⟨H, 0, none⟩) 1 1]).run Try.prog (w.alloc (.cells #[.int .i64 (f : Int), .int .i64 y, .int .i64 z] 59)) = .ok (.slice (some ⟨g, 0, none⟩) ((fromT T f).length + 1) c) w' ∧
      w'.cell? ⟨gt, f, none⟩ = some v ∧ w'.frozen? ⟨gt, f, none⟩ = false ∧ SfAt B (w'.setCell ⟨gt, f, none⟩ (.slice (some ⟨g, 0, none⟩) ((fromT T f).length + 1) c)) gt n (T ++ [((f : Int), y, z)]) ∧ Keeps B w (w'.setCell ⟨gt, f, none⟩ (.slice (some ⟨g, 0, none⟩) ((fromT T f).length + 1) c)) ∧ ∀ b, w0.heap.size ≤ b → b < w.heap.size → w'.heap[b]? = w.heap[b]? := by
  obtain ⟨V, h9⟩ := h0.ex
  have hlt9 : ∀ g, (V f).ownBlock = some g → g < w0.heap.size := fun g hg => ((h9.1 (rowG V T f) (List.mem_cons_of_mem _ (List.mem_map.2 ⟨f, List.mem_range.2 hf, rfl⟩))).1.lt g hg).2
  have h1 := h9.kept hg0
  have hfl : (fromT T f).length ≤ 1000000 := Nat.le_trans (List.length_filter_le _ _) hT
  have hc : ((List.range n).map V)[f]? = some (V f) := by simp [hf]
  have hVf : ∃ a k c', V f = .slice a k c' := by
    obtain ⟨_, a, c, e1⟩ := h1.1 (rowG V T f) (List.mem_cons_of_mem _ (List.mem_map.2 ⟨f, List.mem_range.2 hf, rfl⟩))
    exact ⟨a, _, c, e1⟩
  have h2 : OwnsG B w (rowG V T f :: ⟨23, 1, .slice (some ⟨gt, 0, none⟩) n n, n, (List.range n).map V⟩ :: ((List.range f).map (rowG V T) ++ ((List.range n).drop (f + 1)).map (rowG V T))) := by
    refine h1.perm ?_
    rw [map_upd hf (F := rowG V T) (G := rowG V T) (fun _ _ _ => rfl)]
    exact (List.Perm.cons _ List.perm_middle).trans (List.Perm.swap _ _ _)
  obtain ⟨g, c, w', hrun, ho, hk, hgr⟩ := OwnsG.push3 23 59 Try.underlying23 Try.infoT h2 hB hfl (f : Int) y z hH
  have h3 : OwnsG B w' (⟨23, 1, .slice (some ⟨gt, 0, none⟩) n n, n, (List.range n).map V⟩ :: ⟨59, 3, .slice (some ⟨g, 0, none⟩) ((fromT T f).length + 1) c, (fromT T f).length + 1, flatT (fromT T f) ++ [.int .i64 (f : Int), .int .i64 y, .int .i64 z]⟩ :: ((List.range f).map (rowG V T) ++ ((List.range n).drop (f + 1)).map (rowG V T))) := ho.perm (List.Perm.swap _ _ _)
  refine ⟨V f, g, c, w', h1.cell rfl hc, hVf, hrun, h3.cell rfl hc, h3.fz rfl f, ?_, hk.set (h3.ge rfl).1 _ _, fun b hb1 hb2 => (hgr.block b (by rw [World.size_alloc]; omega) (fun e => by have := hlt9 b e.symm; omega)).trans ((grown_alloc w _).block b hb2 (by simp))⟩
  have h4 := h3.set1 hf (.slice (some ⟨g, 0, none⟩) ((fromT T f).length + 1) c)
  refine ⟨fun k => if k = f then .slice (some ⟨g, 0, none⟩) ((fromT T f).length + 1) c else V k, h4.perm ?_⟩
  have e1 : ((List.range n).map V).set f (.slice (some ⟨g, 0, none⟩) ((fromT T f).length + 1) c) = (List.range n).map (fun k => if k = f then .slice (some ⟨g, 0, none⟩) ((fromT T f).length + 1) c else V k) := by
    refine List.ext_getElem? fun i => ?_
    rw [List.getElem?_set]
    by_cases hi : f = i
    · subst hi; simp [hf]
    · rw [if_neg hi]
      simp only [List.getElem?_map]
      by_cases hin : i < n
      · rw [List.getElem?_range hin]; simp only [Option.map_some]; rw [if_neg (fun e => hi e.symm)]
      · rw [List.getElem?_eq_none (by simpa using hin)]; rfl
  rw [e1]
  refine List.Perm.cons _ ?_
  have hft : ∀ k, fromT (T ++ [((f : Int), y, z)]) k = if f = k then fromT T k ++ [((f : Int), y, z)] else fromT T k := fun k => by rw [fromT_snoc]; simp
  rw [map_upd hf (F := rowG V T) (G := rowG (fun k => if k = f then .slice (some ⟨g, 0, none⟩) ((fromT T f).length + 1) c else V k) (T ++ [((f : Int), y, z)])) (fun k _ hk => by
    unfold rowG
    simp only [hft k, if_neg (fun e => hk e.symm : ¬ f = k), if_neg hk])]
  have e2 : rowG (fun k => if k = f then .slice (some ⟨g, 0, none⟩) ((fromT T f).length + 1) c else V k) (T ++ [((f : Int), y, z)]) f = ⟨59, 3, .slice (some ⟨g, 0, none⟩) ((fromT T f).length + 1) c, (fromT T f).length + 1, flatT (fromT T f) ++ [.int .i64 (f : Int), .int .i64 y, .int .i64 z]⟩ := by
    unfold rowG
    simp only [hft f, if_true, List.length_append, List.length_singleton]
    rw [← flatT_snoc]
  rw [e2]
  exact List.perm_middle.symm

/-- The steps lie in rows, by states. -/
def StepTab (w : World) (gt n : Nat) (T : List StepI) : Prop := ∀ f, f < n → ∃ a c, w.cell? ⟨gt, f, none⟩ = some (.slice a (fromT T f).length c) ∧ StepsAt w a (fromT T f)
theorem StepTab.grown {w w' : World} {gt n : Nat} {T : List StepI} (h : StepTab w gt n T) (hg : w.grownBy w' none) : StepTab w' gt n T := fun f hf => by
  obtain ⟨a, c, h1, h2⟩ := h f hf
  exact ⟨a, c, hg.cell h1 (by simp), h2.grown hg⟩
theorem SfAt.tab {B : Nat} {w : World} {gt n : Nat} {T : List StepI} (h : SfAt B w gt n T) : StepTab w gt n T := fun f hf => by
  obtain ⟨V, h1⟩ := h.ex
  have hc : ((List.range n).map V)[f]? = some (V f) := by simp [hf]
  have hm : rowG V T f ∈ (⟨23, 1, .slice (some ⟨gt, 0, none⟩) n n, n, (List.range n).map V⟩ :: (List.range n).map (rowG V T)) := List.mem_cons_of_mem _ (List.mem_map.2 ⟨f, List.mem_range.2 hf, rfl⟩)
  obtain ⟨ho, a, c, e1⟩ := h1.1 (rowG V T f) hm
  have e1' : V f = .slice a (fromT T f).length c := e1
  refine ⟨a, c, by rw [← e1']; exact h1.cell rfl hc, ?_⟩
  rcases ho.2 with ⟨e0, hn⟩ | ⟨g, cap, cur, e2, _⟩
  · exact .inl (List.length_eq_zero_iff.1 hn)
  · have e2' : V f = .slice (some ⟨g, 0, none⟩) (fromT T f).length cap := e2
    rw [e1'] at e2'
    cases e2'
    refine cells_steps fun j u hu => ?_
    have := ho.cells (g := g) (by show Value.ownBlock (V f) = _; rw [e1']; rfl) j u hu
    rwa [addr_add, ← Nat.zero_add j] at this
theorem SfAt.new (w : World) (n B : Nat) (hB : B ≤ w.heap.size) (hn : n ≤ 1000) : SfAt B (w.alloc (.cells (Array.replicate n (Value.slice none 0 0)) 23)) w.heap.size n [] := by
  have h0 : OwnsG B w ((List.range n).map (rowG (fun _ => .slice none 0 0) [])) := by
    refine ⟨fun it hm => ?_, ?_⟩
    · obtain ⟨f, _, rfl⟩ := List.mem_map.1 hm
      exact ⟨World.ownsRow_nil w B _ 3, none, 0, rfl⟩
    · rw [List.pairwise_map]
      exact List.pairwise_of_forall fun _ _ => .inl rfl
  have h1 := h0.made (arr := Array.replicate n (Value.slice none 0 0)) (n := n) hB 23 (by simp) (by unfold maxLen; omega)
  have e : (Array.replicate n (Value.slice none 0 0)).toList = (List.range n).map (fun _ => Value.slice none 0 0) := by
    rw [Array.toList_replicate]
    refine Eq.symm (List.eq_replicate_iff.2 ⟨by simp, fun b hb => ?_⟩)
    obtain ⟨_, _, rfl⟩ := List.mem_map.1 hb
    rfl
  rw [e] at h1
  exact ⟨_, h1⟩

end Go.Proofs.Yteodlmgaemfiiaa
