/- det.bySets: the table of steps, and the automaton of sets. -/
/- slices.Clone of numbers. -/
import Derived.Test.YtcgkflddipflbaaUMade
import Derived.Test.YtcgkflddipflbaaLOfB
import Derived.Test.YtcgkflddipflbaaHBk
import Derived.Test.YtcgkflddipflbaaHCp
namespace Go.Proofs.Ytcgkflddipflbaa
open Go.RowKit
set_option linter.unusedVariables false

/-- One of many is written into. -/
theorem Owns.setAt {B : Nat} {w : World} {its : List Item} (h : Owns B w its) {i : Nat} {e : TypeId} {g n cap : Nat} {xs : List Value} (hi : its[i]? = some (e, .slice (some ⟨g, 0, none⟩) n cap, xs)) {k : Nat} (hk : k < n) (u : Value) :
    Owns B (w.setCell ⟨g, k, none⟩ u) (its.set i (e, .slice (some ⟨g, 0, none⟩) n cap, xs.set k u)) := by
  obtain ⟨hlt, hg⟩ := List.getElem?_eq_some_iff.1 hi
  have e1 : its = its.take i ++ (e, .slice (some ⟨g, 0, none⟩) n cap, xs) :: its.drop (i + 1) := by
    rw [← hg, List.getElem_cons_drop, List.take_append_drop]
  rw [e1] at h
  have h2 := to_M ((at_M h).set hk u)
  rw [List.set_eq_take_append_cons_drop, if_pos hlt]
  exact h2

/-- The table under way: s rows are there. -/
structure TbAt (B : Nat) (w : World) (bt gt n : Nat) (mvs : List (Value × List Int)) : Prop where
  own : Owns B w ((34, .slice (some ⟨bt, 0, none⟩) 1 1, [.slice (some ⟨gt, 0, none⟩) n n]) :: (23, .slice (some ⟨gt, 0, none⟩) n n, mvs.map (·.1) ++ List.replicate (n - mvs.length) (.slice none 0 0)) :: rowItems mvs)
theorem TbAt.kept {B : Nat} {w w' : World} {bt gt n : Nat} {mvs : List (Value × List Int)} (h : TbAt B w bt gt n mvs) (hg : w.grownBy w' none) : TbAt B w' bt gt n mvs := ⟨h.own.kept hg⟩
theorem TbAt.box {B : Nat} {w : World} {bt gt n : Nat} {mvs : List (Value × List Int)} (h : TbAt B w bt gt n mvs) : w.cell? ⟨bt, 0, none⟩ = some (.slice (some ⟨gt, 0, none⟩) n n) := h.own.cell rfl
/-- A row is made and laid into the table. -/
theorem TbAt.row {B : Nat} {w : World} {bt gt n l : Nat} {mvs : List (Value × List Int)} (h : TbAt B w bt gt n mvs) (hB : B ≤ w.heap.size) (hl : l ≤ 4) (hs : mvs.length < n) :
    (w.alloc (.cells (Array.replicate l (.int .i64 0)) 3)).cell? ⟨gt, mvs.length, none⟩ = some (.slice none 0 0) ∧ (w.alloc (.cells (Array.replicate l (.int .i64 0)) 3)).frozen? ⟨gt, mvs.length, none⟩ = false ∧ B ≤ gt ∧
      TbAt B ((w.alloc (.cells (Array.replicate l (.int .i64 0)) 3)).setCell ⟨gt, mvs.length, none⟩ (.slice (some ⟨w.heap.size, 0, none⟩) l l)) bt gt n (mvs ++ [(.slice (some ⟨w.heap.size, 0, none⟩) l l, List.replicate l 0)]) := by
  have h1 := h.own.made (arr := Array.replicate l (Value.int .i64 0)) (n := l) hB 3 (by simp) (by unfold maxLen; omega)
  have h2 := at_3 h1
  have hc : (mvs.map (·.1) ++ List.replicate (n - mvs.length) (Value.slice none 0 0))[mvs.length]? = some (.slice none 0 0) := by
    rw [List.getElem?_append_right (by simp)]
    simp only [List.length_map, Nat.sub_self, List.getElem?_replicate]
    rw [if_pos (by omega)]
  refine ⟨h2.cell hc, h2.fz _, h2.ge.1, ⟨?_⟩⟩
  have h3 := to_3 (h2.set hs (.slice (some ⟨w.heap.size, 0, none⟩) l l))
  have e1 : (mvs.map (·.1) ++ List.replicate (n - mvs.length) (Value.slice none 0 0)).set mvs.length (.slice (some ⟨w.heap.size, 0, none⟩) l l) = (mvs ++ [(Value.slice (some ⟨w.heap.size, 0, none⟩) l l, List.replicate l (0 : Int))]).map (·.1) ++ List.replicate (n - (mvs ++ [(Value.slice (some ⟨w.heap.size, 0, none⟩) l l, List.replicate l (0 : Int))]).length) (.slice none 0 0) := by
    rw [List.set_append_right _ _ (by simp)]
    simp only [List.length_map, Nat.sub_self, List.map_append, List.map_cons, List.map_nil, List.length_append, List.length_cons, List.length_nil]
    rw [show n - mvs.length = (n - (mvs.length + (0 + 1))) + 1 by omega, List.replicate_succ, List.set_cons_zero]
    simp
  rw [e1] at h3
  have e2 : (Array.replicate l (Value.int .i64 0)).toList = vals (List.replicate l 0) := by simp [vals]
  rw [e2] at h3
  refine h3.perm ?_
  simp only [rowItems, List.map_append, List.map_cons, List.map_nil]
  refine (List.perm_middle (l₁ := [_, _])).symm.trans ?_
  refine List.Perm.cons _ (List.Perm.cons _ ?_)
  exact List.perm_append_comm (l₁ := [(3, Value.slice (some ⟨w.heap.size, 0, none⟩) l l, vals (List.replicate l 0))])

/-- The row of a state in the table, of the first j steps. -/
def tbRow (T : List StepI) (l f : Nat) : List Int := (List.range l).map fun k => ((orIf (tabP f k) T : Nat) : Int)
theorem tbRow_nil (l f : Nat) : tbRow [] l f = List.replicate l 0 := by
  rw [List.eq_replicate_iff]
  refine ⟨by simp [tbRow], fun b hb => ?_⟩
  simp only [tbRow, List.mem_map] at hb
  obtain ⟨k, _, rfl⟩ := hb
  rfl
/-- All rows are there, and some steps are in them. -/
structure TcAt (B : Nat) (w : World) (bt gt n l : Nat) (T : List StepI) : Prop where
  ex : ∃ mvs : List (Value × List Int), mvs.length = n ∧ mvs.map (·.2) = (List.range n).map (tbRow T l) ∧ TbAt B w bt gt n mvs
theorem TcAt.kept {B : Nat} {w w' : World} {bt gt n l : Nat} {T : List StepI} (h : TcAt B w bt gt n l T) (hg : w.grownBy w' none) : TcAt B w' bt gt n l T := by
  obtain ⟨mvs, h1, h2, h3⟩ := h.ex
  exact ⟨mvs, h1, h2, h3.kept hg⟩
theorem tbRow_get {T : List StepI} {l f k : Nat} (hk : k < l) : (vals (tbRow T l f))[k]? = some (.int .i64 ((orIf (tabP f k) T : Nat) : Int)) := by simp [vals, tbRow, hk]
theorem TcAt.look {B : Nat} {w : World} {bt gt n l : Nat} {T : List StepI} (h : TcAt B w bt gt n l T) {f : Nat} (hf : f < n) (hl : 1 ≤ l) :
    ∃ gx cx, w.cell? ⟨gt, f, none⟩ = some (.slice (some ⟨gx, 0, none⟩) l cx) ∧ ∀ k, k < l → w.cell? ⟨gx, k, none⟩ = some (.int .i64 ((orIf (tabP f k) T : Nat) : Int)) := by
  obtain ⟨mvs, h1, h2, h3⟩ := h.ex
  have hm : mvs[f]? = some (mvs[f]'(by omega)) := List.getElem?_eq_getElem (by omega)
  have h4 : (mvs[f]'(by omega)).2 = tbRow T l f := by
    have := congrArg (fun z => z[f]?) h2
    simp only [List.getElem?_map, hm, Option.map_some, List.getElem?_range hf] at this
    simpa using this
  have hmem : (3, (mvs[f]'(by omega)).1, vals (tbRow T l f)) ∈ ((34, Value.slice (some ⟨bt, 0, none⟩) 1 1, [Value.slice (some ⟨gt, 0, none⟩) n n]) :: (23, .slice (some ⟨gt, 0, none⟩) n n, mvs.map (·.1) ++ List.replicate (n - mvs.length) (.slice none 0 0)) :: rowItems mvs) := by
    refine List.mem_cons_of_mem _ (List.mem_cons_of_mem _ (List.mem_map.2 ⟨mvs[f]'(by omega), List.getElem_mem _, ?_⟩))
    rw [h4]
  obtain ⟨_, a, c, e1⟩ := h3.own.1 _ hmem
  simp only [tbRow, List.length_map, List.length_range] at e1
  rw [e1] at hmem
  obtain ⟨gx, rfl⟩ := h3.own.formM hmem (by simp [vals, tbRow]; omega)
  refine ⟨gx, c, (at_2 h3.own).cell ?_, fun k hk => h3.own.cellM hmem (tbRow_get hk)⟩
  rw [List.getElem?_append_left (by simp; omega), List.getElem?_map, hm, ← e1]
  rfl
/-- A step is put in. -/
theorem TcAt.step {B : Nat} {w : World} {bt gt n l : Nat} {T : List StepI} (h : TcAt B w bt gt n l T) {f k t : Nat} (hf : f < n) (hk : k < l) {x : StepI} (hx : x = ((f : Int), (k : Int), (t : Int))) :
    ∃ gx cx, w.cell? ⟨gt, f, none⟩ = some (.slice (some ⟨gx, 0, none⟩) l cx) ∧ w.cell? ⟨gx, k, none⟩ = some (.int .i64 ((orIf (tabP f k) T : Nat) : Int)) ∧ w.frozen? ⟨gx, k, none⟩ = false ∧ B ≤ gx ∧
      TcAt B (w.setCell ⟨gx, k, none⟩ (.int .i64 ((orIf (tabP f k) T ||| 2 ^ t : Nat) : Int))) bt gt n l (T ++ [x]) := by
  obtain ⟨mvs, h1, h2, h3⟩ := h.ex
  have hm : mvs[f]? = some (mvs[f]'(by omega)) := List.getElem?_eq_getElem (by omega)
  have h4 : (mvs[f]'(by omega)).2 = tbRow T l f := by
    have := congrArg (fun z => z[f]?) h2
    simp only [List.getElem?_map, hm, Option.map_some, List.getElem?_range hf] at this
    simpa using this
  have hget : ((34, Value.slice (some ⟨bt, 0, none⟩) 1 1, [Value.slice (some ⟨gt, 0, none⟩) n n]) :: (23, .slice (some ⟨gt, 0, none⟩) n n, mvs.map (·.1) ++ List.replicate (n - mvs.length) (.slice none 0 0)) :: rowItems mvs)[f + 2]? = some (3, (mvs[f]'(by omega)).1, vals (tbRow T l f)) := by
    simp only [List.getElem?_cons_succ, rowItems, List.getElem?_map, hm, Option.map_some, h4]
  have hmem := List.mem_of_getElem? hget
  obtain ⟨_, a, c, e1⟩ := h3.own.1 _ hmem
  simp only [tbRow, List.length_map, List.length_range] at e1
  rw [e1] at hmem hget
  obtain ⟨gx, rfl⟩ := h3.own.formM hmem (by simp [vals, tbRow]; omega)
  have hfz := ((at_M (l := _) (List.append_of_mem hmem |>.choose_spec.choose_spec ▸ h3.own)) : Owns B w _).fz k
  have hge := ((at_M (l := _) (List.append_of_mem hmem |>.choose_spec.choose_spec ▸ h3.own)) : Owns B w _).ge.1
  have hset := h3.own.setAt hget hk (.int .i64 ((orIf (tabP f k) T ||| 2 ^ t : Nat) : Int))
  refine ⟨gx, c, (at_2 h3.own).cell ?_, h3.own.cellM hmem (tbRow_get hk), hfz, hge, ⟨mvs.set f (.slice (some ⟨gx, 0, none⟩) l c, tbRow (T ++ [x]) l f), by simpa using h1, ?_, ⟨?_⟩⟩⟩
  · rw [List.getElem?_append_left (by simp; omega), List.getElem?_map, hm, ← e1]
    rfl
  · rw [List.map_set, h2]
    refine List.ext_getElem? fun i => ?_
    rw [List.getElem?_set]
    by_cases hi : f = i
    · subst hi; simp [hf]
    · rw [if_neg hi]
      simp only [List.getElem?_map]
      by_cases hin : i < n
      · rw [List.getElem?_range hin]
        simp only [Option.map_some, Option.some.injEq]
        unfold tbRow
        refine List.map_congr_left fun k' _ => ?_
        have : tabP i k' x = false := by rw [hx]; simp [tabP, hi]
        simp [orIf, List.foldl_append, this]
      · rw [List.getElem?_eq_none (by simpa using hin)]; rfl
  · rw [vals_set] at hset
    have e2 : (tbRow T l f).set k ((orIf (tabP f k) T ||| 2 ^ t : Nat) : Int) = tbRow (T ++ [x]) l f := by
      unfold tbRow
      refine List.ext_getElem? fun i => ?_
      rw [List.getElem?_set]
      by_cases hi : k = i
      · subst hi
        have : tabP f k ((f : Int), (k : Int), (t : Int)) = true := by simp [tabP]
        simp [hk, orIf, List.foldl_append, this, hx]
      · rw [if_neg hi]
        simp only [List.getElem?_map]
        by_cases hin : i < l
        · rw [List.getElem?_range hin]
          have : tabP f i x = false := by rw [hx]; simp [tabP, hi]
          simp [orIf, List.foldl_append, this]
        · rw [List.getElem?_eq_none (by simpa using hin)]; rfl
    rw [e2] at hset
    simp only [List.set_cons_succ] at hset
    have e3 : (rowItems mvs).set f (3, .slice (some ⟨gx, 0, none⟩) l c, vals (tbRow (T ++ [x]) l f)) = rowItems (mvs.set f (.slice (some ⟨gx, 0, none⟩) l c, tbRow (T ++ [x]) l f)) := by
      simp [rowItems, List.map_set]
    have e4 : (mvs.set f (Value.slice (some ⟨gx, 0, none⟩) l c, tbRow (T ++ [x]) l f)).map (·.1) = mvs.map (·.1) := by
      rw [List.map_set]
      refine List.ext_getElem? fun i => ?_
      rw [List.getElem?_set]
      by_cases hi : f = i
      · subst hi; simp only [List.length_map, h1, hf, if_true, List.getElem?_map, hm, Option.map_some, e1]
      · rw [if_neg hi]
    rw [e3] at hset
    rw [e4, List.length_set]
    exact hset
theorem TcAt.tab {B : Nat} {w : World} {bt gt n l : Nat} {T : List StepI} (h : TcAt B w bt gt n l T) (hl : 1 ≤ l) : TabAt w bt n l (some ⟨gt, 0, none⟩) n (fun f k => orIf (tabP f k) T) := by
  obtain ⟨mvs, h1, h2, h3⟩ := h.ex
  exact ⟨h3.box, gt, rfl, fun f hf => h.look hf hl⟩

/-- A table of no rows yet. -/
theorem TbAt.new (w : World) (n B : Nat) (hB : B ≤ w.heap.size) (hn : n ≤ 8) : TbAt B ((w.alloc (.cells (Array.replicate n (Value.slice none 0 0)) 23)).alloc (.cells #[.slice (some ⟨w.heap.size, 0, none⟩) n n] 34)) (w.heap.size + 1) w.heap.size n [] := by
  have h1 := (Owns.no B w).made (arr := Array.replicate n (Value.slice none 0 0)) (n := n) hB 23 (by simp) (by unfold maxLen; omega)
  have h2 := h1.made (arr := #[.slice (some ⟨w.heap.size, 0, none⟩) n n]) (n := 1) (by simp; omega) 34 rfl (by unfold maxLen; omega)
  rw [World.size_alloc] at h2
  refine ⟨?_⟩
  simpa using h2

set_option maxHeartbeats 3200000 in
set_option maxRecDepth 100000 in
theorem bySets_any (x : Aut) (l nS : Nat) (hL : x.L = l) (hN : x.N = nS) (h8 : nS ≤ 8) (hG : GoodA x) (a b e : Option Addr) (c d f : Nat) (w : World) (h : AutAt w x a b e) :
    Calls Try.prog 43 #[autV l nS a x.S.length c b x.T.length d e x.F.length f] w (OfPost l (setOf x.S) 256 (dset x.T) (mset x.F) w) := by
  have hl4 : l ≤ 4 := by have := hG.l4; omega
  have hl1 : 1 ≤ l := by have := hG.l1; omega
  have hmt := hG.t4
  have HT : Hid (InT x.T l nS) := hL ▸ hN ▸ hG.t
  have HSt : Hid (∀ W, w.grownBy W none → StepsAt W b x.T) := fun W hW => h.steps.grown hW
  have HBS : Hid (∀ W, w.grownBy W none → Calls Try.prog 57 #[.slice a x.S.length c] W fun e w' => e = .returned (.int .i64 (setOf x.S : Nat)) ∧ w' = W) := fun W hW => bits_any x.S x.N a c W (h.start.grown hW) h.ms hG.s (by omega)
  have HBF : Hid (∀ W, w.grownBy W none → Calls Try.prog 57 #[.slice e x.F.length f] W fun e w' => e = .returned (.int .i64 (setOf x.F : Nat)) ∧ w' = W) := fun W hW => bits_any x.F x.N e f W (h.final.grown hW) h.mf hG.f (by omega)
  have HsS : Hid (setOf x.S < 256) := setOf_lt hG.s (by omega)
  have HsF : Hid (setOf x.F < 256) := setOf_lt hG.f (by omega)
  have HOf : Hid (∀ W bt bf gt, TabAt W bt nS l (some ⟨gt, 0, none⟩) nS (fun f k => orIf (tabP f k) x.T) → W.cell? ⟨bf, 0, none⟩ = some (.int .i64 ((setOf x.F : Nat) : Int)) →
      Calls Try.prog 50 #[.int .i64 l, .int .i64 ((setOf x.S : Nat) : Int), .func (.func 56) #[] #[.pointer (some ⟨bt, 0, none⟩)], .func (.func 58) #[] #[.pointer (some ⟨bf, 0, none⟩)]] W (OfPost l (setOf x.S) 256 (dset x.T) (mset x.F) W)) := fun W bt bf gt ht hf => by
    refine ofB_any l (setOf x.S) 256 (dset x.T) (mset x.F) _ _ W hl1 hl4 (by omega) HsS.out (fun s k _ _ => orIf_lt hG.t (by omega)) (fun W' hW' s k hs hk => ?_) (fun W' hW' s hs => ?_)
    · have h1 := byNext_any bt nS l s k (some ⟨gt, 0, none⟩) nS _ W' (ht.grown hW') hk hl4 h8 hs (fun f' _ => orIf_lt hG.t (by omega))
      have h2 := dset_tab hG.t s k
      rw [hN, Int.toNat_natCast] at h2
      rw [h2] at h1
      exact h1
    · exact byMark_any bf s (setOf x.F) W' (hW'.cell hf (by simp)) hs HsF.out
  clear h hG hL hN
  obtain ⟨L, N, S, T, F⟩ := x
  simp only at *
  generalize S.length = mS at *
  generalize F.length = mF at *
  generalize setOf S = sS at *
  generalize hsF : setOf F = sF at *
  have HmF : Hid (mset F = fun s => decide (s &&& sF ≠ 0)) := by show _ = _; funext s; rw [← hsF]; rfl
  clear hsF
  obtain ⟨W1, hW1, g1, s1, bx1⟩ := boxA_new w l nS a mS c b T.length d e mF f
  obtain ⟨W2, hW2⟩ : ∃ W2, W2 = W1.alloc (.cells #[.int .i64 0, .int .i64 0, .slice none 0 0, .slice none 0 0] 36) := ⟨_, rfl⟩
  have HW2 : Hid (W2 = (w.alloc (.cells #[.int .i64 l, .int .i64 nS, .slice a mS c, .slice b T.length d, .slice e mF f] 75)).alloc (.cells #[.int .i64 0, .int .i64 0, .slice none 0 0, .slice none 0 0] 36)) := by show _ = _; rw [hW2, hW1]
  have G2 : Hid (w.grownBy W2 none) := by rw [hW2]; exact grown_trans g1 (grown_alloc _ _)
  have S2 : Hid (W2.heap.size = w.heap.size + 1 + 1) := by show _ = _; rw [hW2, World.size_alloc, s1]
  have BX : Hid (∀ W', W2.grownBy W' none → W'.cell? ⟨w.heap.size, 0, none⟩ = some (.int .i64 l) ∧ W'.cell? ⟨w.heap.size, 1, none⟩ = some (.int .i64 nS) ∧ W'.cell? ⟨w.heap.size, 2, none⟩ = some (.slice a mS c) ∧ W'.cell? ⟨w.heap.size, 3, none⟩ = some (.slice b T.length d) ∧ W'.cell? ⟨w.heap.size, 4, none⟩ = some (.slice e mF f)) := fun W' hW' => bx1 W' (grown_trans (by rw [hW2]; exact grown_alloc _ _) hW')
  have RB : Hid (∀ W', W2.grownBy W' none → W'.heap[w.heap.size + 1]? = some (.cells #[.int .i64 0, .int .i64 0, .slice none 0 0, .slice none 0 0] 36 (0, 0))) := fun W' hW' => by
    have h1 := heap_alloc_new W1 (.cells #[.int .i64 0, .int .i64 0, .slice none 0 0, .slice none 0 0] 36)
    rw [← hW2, s1] at h1
    exact (hW'.block _ (by rw [S2.out]; omega) (by simp)).trans h1
  have hmk := make_mid W2 nS (by omega)
  rw [S2.out] at hmk
  obtain ⟨W3, hW3⟩ : ∃ W3, W3 = (W2.alloc (.cells (Array.replicate nS (Value.slice none 0 0)) 23)).alloc (.cells #[.slice (some ⟨w.heap.size + 1 + 1, 0, none⟩) nS nS] 34) := ⟨_, rfl⟩
  have HW3 : Hid (W3 = _) := hW3
  have T3 : Hid (TbAt W2.heap.size W3 (w.heap.size + 1 + 1 + 1) (w.heap.size + 1 + 1) nS []) := by
    have h1 := TbAt.new W2 nS W2.heap.size (Nat.le_refl _) h8
    show TbAt _ _ _ _ _ _
    rw [hW3, ← S2.out]
    exact h1
  have G3 : Hid (W2.grownBy W3 none) := by rw [hW3]; exact grown_trans (grown_alloc _ _) (grown_alloc _ _)
  rw [HW2.out] at hmk
  clear hW1 g1 s1 bx1 hW2 hW3
  obtain ⟨x0, x1, x2, x3, x4⟩ := BX.out W2 (grown_refl _ _)
  have hni : ¬ (nS : Int) < 0 := by omega
  go_enter Try.func43, Try.ntmps43
  go_wp2_with fail
  rw [← HW2.out, ← HW3.out]
  clear hmk x0 x1 x2 x3 x4 hni HW3
  generalize w.heap.size + 1 + 1 + 1 = bt at *
  generalize hgt : w.heap.size + 1 + 1 = gt at *
  have HGT : Hid (W2.heap.size = gt) := by show _ = _; rw [S2.out]
  have HS2 : Hid (w.heap.size + 1 < W2.heap.size) := by show _ < _; rw [HGT.out]; omega
  clear hgt S2
  go_loopw [14] (fun v wr => ∃ (k : Nat) (mvs : List (Value × List Int)), k ≤ nS ∧ v = .int .i64 k ∧ mvs.length = k ∧ mvs.map (·.2) = (List.range k).map (tbRow [] l) ∧ TbAt W2.heap.size wr bt gt nS mvs ∧ W2.grownBy wr none) (fun v _ => nS - (intOf v).toNat)
  case atStart => exact ⟨0, [], by omega, rfl, rfl, rfl, T3.out, G3.out⟩
  case round =>
    clear T3 G3
    obtain ⟨k, mvs, hk, rfl, hml, hmr, hT, hg⟩ := hrel
    have TT : Hid (TbAt W2.heap.size wr bt gt nS mvs) := hT
    have G : Hid (W2.grownBy wr none) := hg
    have ML : Hid (mvs.length = k) := hml
    have MR : Hid (mvs.map (·.2) = (List.range k).map (tbRow [] l)) := hmr
    obtain ⟨x0, x1, x2, x3, x4⟩ := BX.out wr hg
    have tb := hT.box
    clear hml hmr hT hg
    by_cases hlt : k < nS
    · have hki : (k : Int) < (nS : Int) := by omega
      obtain ⟨r1, r2, r3, r4⟩ := TT.out.row (l := l) G.out.size hl4 (by rw [ML.out]; exact hlt)
      rw [ML.out] at r1 r2 r4
      have R4 : Hid (TbAt W2.heap.size (((wr.alloc (.cells (Array.replicate l (.int .i64 0)) 3)).setCell ⟨gt, k, none⟩ (.slice (some ⟨wr.heap.size, 0, none⟩) l l)).drew) bt gt nS (mvs ++ [(.slice (some ⟨wr.heap.size, 0, none⟩) l l, List.replicate l 0)])) := r4.kept (grown_drew (grown_refl _ _))
      have G4 : Hid (W2.grownBy (((wr.alloc (.cells (Array.replicate l (.int .i64 0)) 3)).setCell ⟨gt, k, none⟩ (.slice (some ⟨wr.heap.size, 0, none⟩) l l)).drew) none) := grown_drew (grown_new (grown_trans G.out (grown_alloc _ _)) (grown_set _ _ _) (by rw [HGT.out]; exact Nat.le_refl _))
      have ML4 : Hid ((mvs ++ [(Value.slice (some ⟨wr.heap.size, 0, none⟩) l l, List.replicate l (0 : Int))]).length = k + 1) := by show _ = _; rw [List.length_append, ML.out]; rfl
      have MR4 : Hid ((mvs ++ [(Value.slice (some ⟨wr.heap.size, 0, none⟩) l l, List.replicate l (0 : Int))]).map (·.2) = (List.range (k + 1)).map (tbRow [] l)) := by
        show _ = _
        rw [List.map_append, MR.out, List.range_succ, List.map_append]
        simp only [List.map_cons, List.map_nil, tbRow_nil]
      have hmk2 : (Instr.makeSlice 23 (.int .i64 (l : Int)) (.int .i64 (l : Int))).run Try.prog wr.drew = .ok (.slice (some ⟨wr.heap.size, 0, none⟩) l l) ((wr.alloc (.cells (Array.replicate l (.int .i64 0)) 3)).drew) := make_ints wr.drew l (by omega)
      have hli : ¬ (l : Int) < 0 := by omega
      have tba : ∀ o, (wr.alloc o).cell? ⟨bt, 0, none⟩ = some (.slice (some ⟨gt, 0, none⟩) nS nS) := fun o => (grown_alloc wr o).cell tb (by simp)
      have x0a : ∀ o, (wr.alloc o).cell? ⟨w.heap.size, 0, none⟩ = some (.int .i64 l) := fun o => (grown_alloc wr o).cell x0 (by simp)
      clear r4 x1 x2 x3 x4
      go_wp2_with fail
      go_region
      all_goals
        go_wp2_with fail
        go_roundw
        case rel => exact ⟨k + 1, _, by omega, by go_num, ML4.out, MR4.out, R4.out, G4.out⟩
        case measure => simp [intOf]; omega
    · have hki : ¬ (k : Int) < (nS : Int) := by omega
      have hkn : k = nS := by omega
      have TC : Hid (TcAt W2.heap.size wr bt gt nS l []) := ⟨mvs, by rw [ML.out, hkn], by rw [MR.out, hkn], TT.out⟩
      clear TT ML MR tb
      go_wp2_with fail
      clear x0 x1 x2 x3 x4 hki hkn hk hlt
      go_loopw [27] (fun v wr => ∃ j : Nat, j ≤ T.length ∧ v = .int .i64 j ∧ TcAt W2.heap.size wr bt gt nS l (T.take j) ∧ W2.grownBy wr none) (fun v _ => T.length - (intOf v).toNat)
      case atStart => exact ⟨0, by omega, rfl, TC.out, G.out⟩
      case round =>
        clear TC G
        rename World => wq
        obtain ⟨j, hj, rfl, hT, hg⟩ := hrel
        have TC : Hid (TcAt W2.heap.size wq bt gt nS l (T.take j)) := hT
        have G : Hid (W2.grownBy wq none) := hg
        obtain ⟨x0, x1, x2, x3, x4⟩ := BX.out wq hg
        clear hT hg
        by_cases hlt : j < T.length
        · have hji : (j : Int) < (T.length : Int) := by omega
          obtain ⟨bb, off, rfl, hc⟩ := (HSt.out wq (grown_trans G2.out G.out)).at hlt
          obtain ⟨y0, y1, y2⟩ := hc j hlt
          obtain ⟨⟨i1, i2⟩, ⟨i3, i4⟩, ⟨i5, i6⟩⟩ := HT.out j hlt
          have HTk : Hid (T.take (j + 1) = T.take j ++ [T.getD j (0, 0, 0)]) := by show _ = _; rw [List.take_add_one, getT_lt hlt]; simp [hlt]
          have HIn : Hid (InT (T.take j) l nS) := inT_take HT.out j
          clear hc
          obtain ⟨xx, hxx⟩ : ∃ xx, T.getD j (0, 0, 0) = xx := ⟨_, rfl⟩
          rw [hxx] at y0 y1 y2 i1 i2 i3 i4 i5 i6 HTk
          clear hxx
          obtain ⟨ff, ll, tt⟩ := xx
          simp only at y0 y1 y2 i1 i2 i3 i4 i5 i6
          obtain ⟨fn, rfl⟩ : ∃ n : Nat, ff = n := ⟨ff.toNat, by omega⟩
          obtain ⟨ln, rfl⟩ : ∃ n : Nat, ll = n := ⟨ll.toNat, by omega⟩
          obtain ⟨tn, rfl⟩ : ∃ n : Nat, tt = n := ⟨tt.toNat, by omega⟩
          obtain ⟨W5, hW5⟩ : ∃ W5, W5 = wq.alloc (.cells #[.int .i64 fn, .int .i64 ln, .int .i64 tn] 78) := ⟨_, rfl⟩
          have HW5 : Hid (W5 = wq.alloc (.cells #[.int .i64 fn, .int .i64 ln, .int .i64 tn] 78)) := hW5
          have hb5 := heap_alloc_new wq (.cells #[.int .i64 fn, .int .i64 ln, .int .i64 tn] 78)
          rw [← hW5] at hb5
          have G5 : Hid (W2.grownBy W5 none) := by rw [hW5]; exact grown_trans G.out (grown_alloc _ _)
          have TC5 := TC.out.kept (show wq.grownBy W5 none from by rw [hW5]; exact grown_alloc _ _)
          obtain ⟨gx, cx, t1, t2, t3, t4, t5⟩ := TC5.step (f := fn) (k := ln) (t := tn) (by omega) (by omega) rfl
          have e0 : W5.cell? ⟨wq.heap.size, 0, none⟩ = some (.int .i64 fn) := by rw [cell_of_row _ _ 0 _ _ (0, 0) hb5]; rfl
          have e1 : W5.cell? ⟨wq.heap.size, 1, none⟩ = some (.int .i64 ln) := by rw [cell_of_row _ _ 1 _ _ (0, 0) hb5]; rfl
          have e2 : W5.cell? ⟨wq.heap.size, 2, none⟩ = some (.int .i64 tn) := by rw [cell_of_row _ _ 2 _ _ (0, 0) hb5]; rfl
          have tb5 : W5.cell? ⟨bt, 0, none⟩ = some (.slice (some ⟨gt, 0, none⟩) nS nS) := by
            obtain ⟨_, _, _, h3⟩ := TC5.ex
            exact h3.box
          obtain ⟨oo, hoo⟩ : ∃ oo, orIf (tabP fn ln) (T.take j) = oo := ⟨_, rfl⟩
          have hoo8 : oo < 256 := hoo ▸ orIf_lt HIn.out (by omega)
          rw [hoo] at t2 t5
          have hpw : IntKind.i64.wrap ((2 : Int) ^ tn) = ((2 ^ tn : Nat) : Int) := pow_wrap (by omega)
          have hpw2 : wrap64 ((2 : Int) ^ tn) = ((2 ^ tn : Nat) : Int) := (IntWalk.i64_left _).symm.trans hpw
          have hor := orI hoo8 (pow_lt8 (x := tn) (by omega))
          have T5 : Hid (TcAt W2.heap.size ((W5.setCell ⟨gx, ln, none⟩ (.int .i64 ((oo ||| 2 ^ tn : Nat) : Int))).drew) bt gt nS l (T.take (j + 1))) := by
            show TcAt _ _ _ _ _ _ _
            rw [HTk.out]; exact t5.kept (grown_drew (grown_refl _ _))
          have G6 : Hid (W2.grownBy ((W5.setCell ⟨gx, ln, none⟩ (.int .i64 ((oo ||| 2 ^ tn : Nat) : Int))).drew) none) := grown_drew (grown_new G5.out (grown_set _ _ _) t4)
          generalize (oo ||| 2 ^ tn : Nat) = qq at *
          generalize (2 ^ tn : Nat) = pp at *
          clear hoo t5 hW5 hb5 x0 x1 x2 x4 TC5
          have f0 : ¬ (tn : Int) < 0 := by omega
          go_wp2_with fail
          rw [← HW5.out]
          go_region
          all_goals
            go_wp2_with fail
            go_roundw
            case rel => exact ⟨j + 1, by omega, by go_num, T5.out, G6.out⟩
            case measure => simp [intOf]; omega
        · have hji : ¬ (j : Int) < (T.length : Int) := by omega
          have TC2 : Hid (TcAt W2.heap.size wq bt gt nS l T) := by
            have h1 := TC.out
            rw [List.take_of_length_le (by omega)] at h1
            exact h1
          clear TC
          go_wp2_with fail
          refine (HBF.out _ (grown_trans G2.out G.out)).mono ?_
          rintro E w7 ⟨rfl, rfl⟩
          obtain ⟨W8, hW8⟩ : ∃ W8, W8 = w7.alloc (.cells #[.int .i64 ((sF : Nat) : Int)] 3) := ⟨_, rfl⟩
          have HW8 : Hid (W8 = w7.alloc (.cells #[.int .i64 ((sF : Nat) : Int)] 3)) := hW8
          have hb8 := heap_alloc_new w7 (.cells #[.int .i64 ((sF : Nat) : Int)] 3)
          rw [← hW8] at hb8
          have HC8 : Hid (∀ W, W8.grownBy W none → W.cell? ⟨w7.heap.size, 0, none⟩ = some (.int .i64 ((sF : Nat) : Int))) := fun W hW => hW.cell (by rw [cell_of_row _ _ 0 _ _ (0, 0) hb8]; rfl) (by simp)
          have g78 : w7.grownBy W8 none := by rw [hW8]; exact grown_alloc _ _
          have G8 : Hid (W2.grownBy W8 none) := grown_trans G.out g78
          have TB8 : Hid (∀ W, W8.grownBy W none → TabAt W bt nS l (some ⟨gt, 0, none⟩) nS (fun f k => orIf (tabP f k) T)) := fun W hW => (TC2.out.kept (grown_trans g78 hW)).tab hl1
          obtain ⟨y0, y1, y2, y3, y4⟩ := BX.out W8 G8.out
          clear x0 x1 x2 x3 x4 hW8 hb8 g78 TC2 HBF
          have HOf2 : Hid (∀ W, W8.grownBy W none → Calls Try.prog 50 #[.int .i64 l, .int .i64 ((sS : Nat) : Int), .func (.func 56) #[] #[.pointer (some ⟨bt, 0, none⟩)], .func (.func 58) #[] #[.pointer (some ⟨w7.heap.size, 0, none⟩)]] W (OfPost l sS 256 (dset T) (mset F) W)) := fun W hW => HOf.out W bt _ gt (TB8.out W hW) (HC8.out W hW)
          clear HOf TB8 HC8
          go_wp2_with fail
          rw [← HW8.out]
          clear HW8
          go_region_with (first
            | (go_at_call 57; refine (HBS.out _ (grown_trans G2.out (grown_drew G8.out))).mono ?_; rintro E w9 ⟨rfl, rfl⟩)
            | (go_at_call 50; refine (HOf2.out _ (grown_drew (grown_refl _ _))).mono ?_; rintro E w9 ⟨k0, vR, vM, rs, he0, hk0, rfl, hrs, ho9, hg9⟩; have K9 := RB.out w9 (grown_trans (grown_drew G8.out) hg9); obtain ⟨_, aR, cR, hvR⟩ := ho9.head; obtain ⟨_, aM, cM, hvM⟩ := ho9.tail.head; simp only [List.length_map] at hvR; simp only [vals_len] at hvM; subst hvR hvM; obtain ⟨r0, r1, r2, r3, rz⟩ := block_cells K9; have rz0 := rz 0; have rz1 := rz 1; have rz2 := rz 2; have rz3 := rz 3))
          all_goals
            obtain ⟨W9, hW9, hg10, q0, q1, q2, q3⟩ := det_store K9 (.int .i64 (l : Int)) (.int .i64 0) (.slice aR rs.length cR) (.slice aM (resM (mset F) (bfsL id (dset T) l sS k0)).length cM)
            have hs8 : w.heap.size + 1 < W8.drew.heap.size := Nat.lt_of_lt_of_le HS2.out G8.out.size
            have Fin : Hid (OfPost l sS 256 (dset T) (mset F) w (.returned (.agg #[.int .i64 l, .int .i64 0, .slice aR rs.length cR, .slice aM (resM (mset F) (bfsL id (dset T) l sS k0)).length cM])) W9) :=
              ⟨k0, _, _, rs, he0, hk0, rfl, hrs, (ho9.below hg10 (by omega)).base (by omega), grown_new (grown_trans (grown_trans G2.out (grown_drew G8.out)) hg9) hg10 (by omega)⟩
            clear he0 hk0 hrs ho9 hg9 hg10 rz K9
            generalize rs.length = nr at *
            generalize (resM (mset F) (bfsL id (dset T) l sS k0)).length = nm at *
            go_wp2_with fail
            rw [← hW9]
            exact bodyPost_ret (v := .agg #[.int .i64 l, .int .i64 0, .slice aR nr cR, .slice aM nm cM]) (by simp [results, Try.results43, go_sem, q0, q1, q2, q3]) rfl Fin.out

end Go.Proofs.Ytcgkflddipflbaa

namespace Go.Proofs.Ytcgkflddipflbaa
open Go.RowKit
set_option linter.unusedVariables false

def ClonePost (zs : List Int) (w : World) (E : Ending) (w' : World) : Prop :=
  ∃ g cap, E = .returned (.slice (some ⟨g, 0, none⟩) zs.length cap) ∧ Owns w.heap.size w' [(3, .slice (some ⟨g, 0, none⟩) zs.length cap, vals zs)] ∧ w.grownBy w' none

set_option maxHeartbeats 1600000 in
set_option maxRecDepth 100000 in
theorem clone_any (b off c : Nat) (zs : List Int) (w : World) (hz : ∀ i, i < zs.length → w.cell? ⟨b, off + i, none⟩ = some (.int .i64 (zs.getD i 0))) (h1 : 0 < zs.length) (hm : zs.length ≤ 17592186044416) :
    Calls Try.prog 70 #[.slice (some ⟨b, off, none⟩) zs.length c] w (ClonePost zs w) := by
  obtain ⟨i0, hio, hz0, hz1, hz2⟩ := info_parts Try.info3i
  have O0 : Hid (Owns w.heap.size (w.alloc (.cells #[] 3)) [(3, .slice (some ⟨w.heap.size, 0, none⟩) 0 0, [])]) := (Owns.no w.heap.size w).made (arr := #[]) (n := 0) (Nat.le_refl _) 3 rfl (by unfold maxLen; omega)
  have hO : Hid ((w.alloc (.cells #[] 3)).ownsRow w.heap.size 3 1 (.slice (some ⟨w.heap.size, 0, none⟩) 0 0) 0 []) := O0.out.row
  have HN : Hid (∀ j u, (vals zs)[j]? = some u → (w.alloc (.cells #[] 3)).cell? ((⟨b, off, none⟩ : Addr).add j) = some u) := fun j u hu => by
    have hj : j < zs.length := by have := (List.getElem?_eq_some_iff.1 hu).1; rwa [vals_len] at this
    rw [vals_get hj] at hu
    rw [add_off]
    exact (grown_alloc _ _).cell ((hz j hj).trans hu) (by simp)
  have hnil := fun (W : World) => Lib.run_eql_slice_nil (P := Try.prog) W 23 3 (some ⟨b, off, none⟩) zs.length c 0 0 Try.underlying23
  clear hz
  go_enter Try.func70, Try.ntmps70
  go_wp2_with (at_builtin; refine wpList_append_lies _ rfl _ _ 23 rfl w.heap.size 3 i0 (.int .i64 0) 1 8 Try.underlying23 hio hz0 hz1 hz2 rfl (by decide) (.slice (some ⟨w.heap.size, 0, none⟩) 0 0) 0 [] rfl hO.out ⟨b, off, none⟩ zs.length c (vals zs) rfl (by rw [vals_len]; omega) HN.out (by intro u hu; simp at hu; obtain ⟨x, _, rfl⟩ := hu; rfl) (by omega) (by unfold maxLen; omega) (by omega) (by simp) (w.heap.size + 1) (by simp) ?_; intro g cap w3 ho3 hg3 hat3 _)
  have O3 : Hid (Owns w.heap.size w3 [(3, .slice (some ⟨g, 0, none⟩) zs.length cap, vals zs)]) := by
    have h2 := O0.out.append (news := vals zs) (n := zs.length) (by simpa using ho3) (by simp) hg3 hat3 (by simp)
    show Owns _ _ _
    simpa using h2
  have G3 : Hid (w.grownBy w3 none) := O0.out.frame (Nat.le_refl _) (grown_alloc _ _) hg3
  clear ho3 hg3 hat3
  go_ret
  exact ⟨g, cap, by simp, O3.out, G3.out⟩

end Go.Proofs.Ytcgkflddipflbaa
