/- For buchi.newSearch: what lies in memory while the search is made. -/
import Derived.Test.YtfjpdeoldcfhdaaULeads
import Derived.Test.YtfjpdeoldcfhdaaUFinal
namespace Go.Proofs.Ytfjpdeoldcfhdaa
open Go.RowKit
set_option linter.unusedVariables false

theorem toL_snoc (T : List StepI) (t : StepI) (l i : Nat) : toL (T ++ [t]) l i = if t.1.toNat * l + t.2.1.toNat = i then toL T l i ++ [t.2.2.toNat] else toL T l i := by
  unfold toL
  rw [List.filter_append, List.map_append]
  by_cases h : t.1.toNat * l + t.2.1.toNat = i <;> simp [h]
theorem toL_len (T : List StepI) (l i : Nat) : (toL T l i).length ≤ T.length := by unfold toL; rw [List.length_map]; exact List.length_filter_le _ _

theorem nlen (xs : List Nat) : (natInts xs).length = xs.length := by simp [natInts]
/-- A row that lies anywhere is put behind one's own. -/
theorem app_src {B : Nat} {w : World} {its : List Item} {aF ax : Option Addr} {cF cx : Nat} {F xs : List Nat} (h : Owns B w ((3, .slice aF F.length cF, vals (natInts F)) :: its)) (hB : B ≤ w.heap.size) (hx : Ints w ax (natInts xs)) (hl : F.length + xs.length ≤ 100000) :
    ∃ aF' cF' w', (AppS #[22, 22] 22 #[.slice aF F.length cF, .slice ax xs.length cx]).run Try.prog w = .ok (.slice aF' (F ++ xs).length cF') w' ∧
      Owns B w' ((3, .slice aF' (F ++ xs).length cF', vals (natInts (F ++ xs))) :: its) ∧ Keeps B w w' := by
  obtain ⟨i0, hio, hz0, hz1, hz2⟩ := info_parts Try.info3i
  have hr := h.row
  rw [natInts_len] at hr
  by_cases hx0 : xs = []
  · subst hx0
    have hle : F.length ≤ cF := by
      rcases hr.2 with ⟨e0, e1⟩ | ⟨g, cap, cur, e1, _, _, h5, _⟩
      · simp only [Value.slice.injEq] at e0; omega
      · simp only [Value.slice.injEq] at e1; omega
    refine ⟨aF, cF, w, ?_, by simpa using h, Keeps.refl _ _⟩
    show (Builtin.append_ _ _ _).run Try.prog w = _
    cases aF with
    | none =>
      cases ax with
      | none => simp [Builtin.append_, run_underlying Try.underlying22, sizeOf, typeInfo, hio, Builtin.lenOf, Builtin.firstCells, hle]
      | some y => simp [Builtin.append_, run_underlying Try.underlying22, sizeOf, typeInfo, hio, Builtin.lenOf, Builtin.firstCells, hle, loadCells, loadCellsFrom]
    | some a =>
      cases ax with
      | none => simp [Builtin.append_, run_underlying Try.underlying22, sizeOf, typeInfo, hio, Builtin.lenOf, Builtin.firstCells, hle, storeCells]
      | some y => simp [Builtin.append_, run_underlying Try.underlying22, sizeOf, typeInfo, hio, Builtin.lenOf, Builtin.firstCells, hle, loadCells, loadCellsFrom, storeCells]
  · have hp : 0 < xs.length := List.length_pos_iff.2 hx0
    have hn : (natInts xs).length = xs.length := nlen xs
    obtain ⟨b, off, rfl, hc⟩ := hx.at (k := 0) (by rw [hn]; exact hp)
    obtain ⟨g', cap, w5, hrun, ho5, hg5, hat5, hlt5⟩ := run_append_lies (P := Try.prog) w 22 22 B 3 i0 (.int .i64 0) 1 8 Try.underlying22 hio hz0 hz1 hz2 rfl (by decide) (.slice aF F.length cF) F.length (vals (natInts F)) hr ⟨b, off, none⟩ xs.length cx (vals (natInts xs)) (by rw [vals_len, hn]; omega) (fun j u hu => by
      have hj : j < (natInts xs).length := by have := (List.getElem?_eq_some_iff.1 hu).1; rwa [vals_len] at this
      rw [vals_get hj] at hu
      rw [add_off, hc j hj]
      exact hu) (by intro u hu; obtain ⟨x, _, rfl⟩ := List.mem_map.1 hu; rfl) hp (by unfold maxLen; omega) (by omega) hB _ rfl
    refine ⟨some ⟨g', 0, none⟩, cap, w5, by rw [List.length_append]; exact hrun, ?_, Keeps.first h hg5⟩
    have h2 := h.append ho5 (by simp) hg5 hat5 rfl
    rw [← List.map_append] at h2
    rw [List.length_append]
    have e3 : natInts (F ++ xs) = natInts F ++ natInts xs := by simp
    rw [e3]
    exact h2

/-- The search's box. -/
abbrev seaIt (ps n l : Nat) (vw : Value) (turn : Nat) (vt vs vf v7 v8 : Value) : Item := (91, .slice (some ⟨ps, 0, none⟩) 9 9, [.int .i64 (n : Int), .int .i64 (l : Int), vw, .int .i64 (turn : Int), vt, vs, vf, v7, v8])
section
variable {B ps n l turn : Nat} {w : World} {vw vt vs vf v7 v8 : Value} {r : List Item}
theorem sea_new {w : World} {r : List Item} (h : Owns B w r) (hB : B ≤ w.heap.size) : Owns B (w.alloc (.cells #[.int .i64 (n : Int), .int .i64 (l : Int), vw, .int .i64 (turn : Int), vt, vs, vf, v7, v8] 91)) (seaIt w.heap.size n l vw turn vt vs vf v7 v8 :: r) :=
  h.made (arr := #[.int .i64 (n : Int), .int .i64 (l : Int), vw, .int .i64 (turn : Int), vt, vs, vf, v7, v8]) (n := 9) hB 91 rfl (by unfold maxLen; omega)
/-- The word is laid: head, then loop. -/
theorem sea_word {gf fs : Nat} {hd lp : List Nat} {ah al : Option Addr} {ch cl : Nat} (h : Owns B w (seaIt ps n l (.slice none 0 0) turn vt vs vf v7 v8 :: r)) (hB : B ≤ w.heap.size) {w0 : World} (h0 : w0.grownBy w none) (hw0 : w0.heap.size ≤ B) (hh : Ints w0 ah (natInts hd)) (hp : Ints w0 al (natInts lp)) (hl1 : hd.length ≤ 1000) (hl2 : lp.length ≤ 1000) :
    ∃ a1 c1 w3 a2 c2 w4, (AppS #[22, 22] 22 #[.slice none 0 0, .slice ah hd.length ch]).run Try.prog w = .ok (.slice a1 hd.length c1) w3 ∧ (AppS #[22, 22] 22 #[.slice a1 hd.length c1, .slice al lp.length cl]).run Try.prog w3 = .ok (.slice a2 (hd ++ lp).length c2) w4 ∧
      Keeps B w w3 ∧ w4.cell? ⟨ps, 2, none⟩ = some (.slice none 0 0) ∧ w4.frozen? ⟨ps, 2, none⟩ = false ∧ Keeps B w (w4.setCell ⟨ps, 2, none⟩ (.slice a2 (hd ++ lp).length c2)) ∧ Owns B (w4.setCell ⟨ps, 2, none⟩ (.slice a2 (hd ++ lp).length c2)) (seaIt ps n l (.slice a2 (hd ++ lp).length c2) turn vt vs vf v7 v8 :: (3, .slice a2 (hd ++ lp).length c2, vals (natInts (hd ++ lp))) :: r) := by
  obtain ⟨a1, c1, w3, hr1, ho1, hk1⟩ := app_src (F := []) (xs := hd) (cx := ch) (h.empty 3) hB (hh.grown h0) (by simp; omega)
  rw [List.nil_append] at hr1 ho1
  have g1 := hk1 w0 hw0 h0
  have hB3 : B ≤ w3.heap.size := by
    have := ho1.tail.ge
    omega
  obtain ⟨a2, c2, w4, hr2, ho2, hk2⟩ := app_src (F := hd) (xs := lp) (cx := cl) ho1 hB3 (hp.grown g1) (by omega)
  have ho3 := at_2 ho2
  have ho4 := ho3.set (i := 2) (by omega) (.slice a2 (hd ++ lp).length c2)
  exact ⟨a1, c1, w3, a2, c2, w4, hr1, hr2, hk1, ho3.cell rfl, ho3.fz 2, (hk1.trans hk2).set ho3.ge.1 _ _, ho4⟩
end
/-- The table under way: after some steps. -/
structure TabIn (B : Nat) (w : World) (ps n l : Nat) (vw : Value) (turn gt k : Nat) (vs vf : Value) (T : List StepI) (r : List Item) : Prop where
  ex : ∃ rs : List (Value × List Nat), rs.map (·.2) = (List.range k).map (toL T l) ∧ Owns B w (seaIt ps n l vw turn (.slice (some ⟨gt, 0, none⟩) k k) vs vf (.slice none 0 0) (.slice none 0 0) :: (22, .slice (some ⟨gt, 0, none⟩) k k, rs.map (·.1)) :: (rowIts rs ++ r))
section
variable {B ps n l turn gt k : Nat} {w : World} {vw vs vf : Value} {T : List StepI} {r : List Item}
theorem TabIn.kept {w' : World} (h : TabIn B w ps n l vw turn gt k vs vf T r) (hg : w.grownBy w' none) : TabIn B w' ps n l vw turn gt k vs vf T r := by
  obtain ⟨rs, h1, h2⟩ := h.ex
  exact ⟨rs, h1, h2.kept hg⟩
theorem tab_new (h : Owns B w (seaIt ps n l vw turn (.slice none 0 0) vs vf (.slice none 0 0) (.slice none 0 0) :: r)) (hB : B ≤ w.heap.size) (hk : k ≤ 100000) :
    (w.alloc (.cells (Array.replicate k (Value.slice none 0 0)) 22)).cell? ⟨ps, 4, none⟩ = some (.slice none 0 0) ∧ (w.alloc (.cells (Array.replicate k (Value.slice none 0 0)) 22)).frozen? ⟨ps, 4, none⟩ = false ∧ Keeps B w ((w.alloc (.cells (Array.replicate k (Value.slice none 0 0)) 22)).setCell ⟨ps, 4, none⟩ (.slice (some ⟨w.heap.size, 0, none⟩) k k)) ∧
    TabIn B ((w.alloc (.cells (Array.replicate k (Value.slice none 0 0)) 22)).setCell ⟨ps, 4, none⟩ (.slice (some ⟨w.heap.size, 0, none⟩) k k)) ps n l vw turn w.heap.size k vs vf [] r := by
  have h1 := h.made (arr := Array.replicate k (Value.slice none 0 0)) (n := k) hB 22 (by simp) (by unfold maxLen; omega)
  rw [Array.toList_replicate] at h1
  have h2 := at_2 h1
  have h3 := h2.set (i := 4) (by omega) (.slice (some ⟨w.heap.size, 0, none⟩) k k)
  refine ⟨h2.cell rfl, h2.fz 4, ((Keeps.refl B w).alloc _).set h2.ge.1 _ _, (List.range k).map (fun _ => (Value.slice none 0 0, ([] : List Nat))), ?_, ?_⟩
  · rw [List.map_map]; exact List.map_congr_left fun x _ => rfl
  have e2 : ((List.range k).map fun _ => (Value.slice none 0 0, ([] : List Nat))).map (·.1) = List.replicate k (.slice none 0 0) := by rw [List.eq_replicate_iff]; simp
  have e3 : rowIts ((List.range k).map fun _ => (Value.slice none 0 0, ([] : List Nat))) = List.replicate k (3, Value.slice none 0 0, []) := by rw [List.eq_replicate_iff]; simp [rowIts, vals]
  rw [e2, e3]
  have key : ∀ (m : Nat) (W : World) (D : List Item) (x y : Item), Owns B W (x :: y :: D) → Owns B W (x :: y :: (List.replicate m (3, Value.slice none 0 0, []) ++ D)) := by
    intro m
    induction m with
    | zero => intro W D x y h; simpa using h
    | succ m ih =>
      intro W D x y h
      rw [List.replicate_succ, List.cons_append]
      exact to_3 ((ih W D x y h).empty 3)
  exact key k _ _ _ _ h3
theorem getD_of {α : Type} {l : List α} {i : Nat} {d : α} (h : i < l.length) : l.getD i d = l[i] := by simp [List.getD, h]
/-- A step is laid in. -/
theorem TabIn.push {w0 : World} (h0 : TabIn B w0 ps n l vw turn gt k vs vf T r) (hg0 : w0.grownBy w none) (hB : B ≤ w.heap.size) (hT : T.length ≤ 100000) (t : StepI) {i z : Nat} (hi : t.1.toNat * l + t.2.1.toNat = i) (hz : t.2.2 = (z : Int)) (hik : i < k) {H : Nat} (hH : w.heap.size = H) :
    ∃ va vn vc g c w', w.cell? ⟨gt, i, none⟩ = some (.slice va vn vc) ∧ w.cell? ⟨ps, 4, none⟩ = some (.slice (some ⟨gt, 0, none⟩) k k) ∧ (AppS #[22, 22] 22 #[.slice va vn vc, .slice (some ⟨H, 0, none⟩) 1 1]).run Try.prog (w.alloc (.cells #[.int .i64 (z : Int)] 3)) = .ok (.slice (some ⟨g, 0, none⟩) (vn + 1) c) w' ∧
      w'.cell? ⟨gt, i, none⟩ = some (.slice va vn vc) ∧ w'.cell? ⟨ps, 4, none⟩ = some (.slice (some ⟨gt, 0, none⟩) k k) ∧ w'.frozen? ⟨gt, i, none⟩ = false ∧ TabIn B (w'.setCell ⟨gt, i, none⟩ (.slice (some ⟨g, 0, none⟩) (vn + 1) c)) ps n l vw turn gt k vs vf (T ++ [t]) r ∧ Keeps B w (w'.setCell ⟨gt, i, none⟩ (.slice (some ⟨g, 0, none⟩) (vn + 1) c)) ∧ Keeps B w w' ∧ ∀ b, w0.heap.size ≤ b → b < w.heap.size → w'.heap[b]? = w.heap[b]? := by
  obtain ⟨i0, hio, hz0, hz1, hz2⟩ := info_parts Try.info3i
  obtain ⟨rs, hrs, h9⟩ := h0.ex
  have hrl : rs.length = k := by have := congrArg List.length hrs; simpa using this
  have hir : i < rs.length := by omega
  obtain ⟨v, xs, hvx⟩ : ∃ v xs, rs.getD i (.slice none 0 0, []) = (v, xs) := ⟨_, _, rfl⟩
  have hri : rs[i] = (v, xs) := by rw [← hvx, getD_of hir]
  have hxs : xs = toL T l i := by
    have h1 := congrArg (fun z => z[i]?) hrs
    simp only [List.getElem?_map, List.getElem?_eq_getElem hir, List.getElem?_range hik, Option.map_some, Option.some.injEq] at h1
    rw [hri] at h1
    exact h1
  have hvm : (3, v, vals (natInts xs)) ∈ rowIts rs := List.mem_map.2 ⟨(v, xs), by rw [← hri]; exact List.getElem_mem _, rfl⟩
  obtain ⟨hown, av, cv, hav⟩ := h9.1 _ (List.mem_append_right [_, _] (List.mem_append_left _ hvm))
  simp only [natInts_len] at hav
  subst hav
  have hlt9 : ∀ g, (Value.slice av xs.length cv).ownBlock = some g → g < w0.heap.size := fun g hg => (hown.lt g hg).2
  have hxl : xs.length ≤ 100000 := by rw [hxs]; exact Nat.le_trans (toL_len _ _ _) hT
  have h1 := h9.kept hg0
  have h2 := h1.kept (grown_alloc w (.cells #[.int .i64 (z : Int)] 3))
  have hO4 : (w.alloc (.cells #[.int .i64 (z : Int)] 3)).ownsRow B 3 1 (.slice av xs.length cv) xs.length (vals (natInts xs)) := by
    have h3 := (h2.1 _ (List.mem_append_right [_, _] (List.mem_append_left _ hvm))).1
    simp only [natInts_len] at h3
    exact h3
  obtain ⟨g', cap, w5, hrun, ho5, hg5, hat5, hlt5⟩ := run_append_lies (P := Try.prog) (w.alloc (.cells #[.int .i64 (z : Int)] 3)) 22 22 B 3 i0 (.int .i64 0) 1 8 Try.underlying22 hio hz0 hz1 hz2 rfl (by decide) (.slice av xs.length cv) xs.length (vals (natInts xs)) hO4 ⟨w.heap.size, 0, none⟩ 1 1 [.int .i64 (z : Int)] rfl (fun j u hu => cell_one_new w _ _ j u hu) (by intro u hu; simp at hu; subst hu; rfl) (by omega) (by unfold maxLen; omega) (by omega) (by rw [World.size_alloc]; omega) _ rfl
  obtain ⟨p1, p2, p3, p4, p5, p6⟩ := back_push h2 hir hrl hvx rfl ho5 hg5 hat5 rfl
  have hc1 : w.cell? ⟨gt, i, none⟩ = some (.slice av xs.length cv) := (at_2 h1).cell (by rw [List.getElem?_map, List.getElem?_eq_getElem hir, hri]; rfl)
  refine ⟨av, xs.length, cv, g', cap, w5, hc1, h1.cell rfl, by rw [← hH]; exact hrun, p1, p3 _ _ _ _ _ _ rfl rfl, p2, ⟨_, ?_, p4⟩, ((Keeps.refl B w).alloc _).trans p5, ((Keeps.refl B w).alloc _).trans p6, fun b hb1 hb2 => ?_⟩
  · rw [List.map_set, hrs]
    apply List.ext_getElem (by simp)
    intro s h3 h4
    simp only [List.getElem_set, List.getElem_map, List.getElem_range, toL_snoc, hi]
    by_cases e : i = s
    · subst e; rw [if_pos rfl, if_pos rfl, hxs, hz]; rfl
    · rw [if_neg e, if_neg e]
  · refine (hg5.block b (by rw [World.size_alloc]; omega) (fun e => ?_)).trans ((grown_alloc w _).block b hb2 (by simp))
    have := hlt9 b e.symm
    omega
end

section
variable {B ps n l turn N : Nat} {w : World} {vw vt vs vf v7 v8 : Value} {r : List Item}
theorem sea_row7 (h : Owns B w (seaIt ps n l vw turn vt vs vf v7 v8 :: r)) (hB : B ≤ w.heap.size) (hN : N ≤ 1000000) :
    (w.alloc (.cells (Array.replicate N (Value.bool false)) 4)).cell? ⟨ps, 7, none⟩ = some v7 ∧ (w.alloc (.cells (Array.replicate N (Value.bool false)) 4)).frozen? ⟨ps, 7, none⟩ = false ∧ Keeps B w ((w.alloc (.cells (Array.replicate N (Value.bool false)) 4)).setCell ⟨ps, 7, none⟩ (.slice (some ⟨w.heap.size, 0, none⟩) N N)) ∧
    Owns B ((w.alloc (.cells (Array.replicate N (Value.bool false)) 4)).setCell ⟨ps, 7, none⟩ (.slice (some ⟨w.heap.size, 0, none⟩) N N)) (seaIt ps n l vw turn vt vs vf (.slice (some ⟨w.heap.size, 0, none⟩) N N) v8 :: bIt w.heap.size N N 0 :: r) := by
  have h1 := at_2 (bset_new0 h hB hN)
  have h2 := h1.set (i := 7) (by omega) (.slice (some ⟨w.heap.size, 0, none⟩) N N)
  exact ⟨h1.cell rfl, h1.fz 7, ((Keeps.refl B w).alloc _).set h1.ge.1 _ _, h2⟩
theorem sea_row8 (h : Owns B w (seaIt ps n l vw turn vt vs vf v7 v8 :: r)) (hB : B ≤ w.heap.size) (hN : N ≤ 1000000) :
    (w.alloc (.cells (Array.replicate N (Value.bool false)) 4)).cell? ⟨ps, 8, none⟩ = some v8 ∧ (w.alloc (.cells (Array.replicate N (Value.bool false)) 4)).frozen? ⟨ps, 8, none⟩ = false ∧ Keeps B w ((w.alloc (.cells (Array.replicate N (Value.bool false)) 4)).setCell ⟨ps, 8, none⟩ (.slice (some ⟨w.heap.size, 0, none⟩) N N)) ∧
    Owns B ((w.alloc (.cells (Array.replicate N (Value.bool false)) 4)).setCell ⟨ps, 8, none⟩ (.slice (some ⟨w.heap.size, 0, none⟩) N N)) (seaIt ps n l vw turn vt vs vf v7 (.slice (some ⟨w.heap.size, 0, none⟩) N N) :: bIt w.heap.size N N 0 :: r) := by
  have h1 := at_2 (bset_new0 h hB hN)
  have h2 := h1.set (i := 8) (by omega) (.slice (some ⟨w.heap.size, 0, none⟩) N N)
  exact ⟨h1.cell rfl, h1.fz 8, ((Keeps.refl B w).alloc _).set h1.ge.1 _ _, h2⟩
end
theorem owns_sub {B : Nat} {w : World} {its its' : List Item} (h : Owns B w its) (hs : its'.Sublist its) : Owns B w its' := ⟨fun it hm => h.1 it (hs.subset hm), h.2.sublist hs⟩
/-- All is made. -/
theorem sea_end {B ps n l turn gt k gs gm gf N fs : Nat} {w : World} {wd : List Nat} {aw : Option Addr} {cw : Nat} {as_ : Option Addr} {cs : Nat} {S : List Int} {T : List StepI} {rs : List (Value × List Nat)}
    (h : Owns B w (seaIt ps n l (.slice aw wd.length cw) turn (.slice (some ⟨gt, 0, none⟩) k k) (.slice as_ S.length cs) (.slice (some ⟨gf, 0, none⟩) n n) (.slice (some ⟨gs, 0, none⟩) N N) (.slice (some ⟨gm, 0, none⟩) N N) :: bIt gm N N 0 :: bIt gs N N 0 :: (22, .slice (some ⟨gt, 0, none⟩) k k, rs.map (·.1)) :: (rowIts rs ++ [(3, .slice aw wd.length cw, vals (natInts wd)), bIt gf n n fs])))
    (hrs : rs.map (·.2) = (List.range k).map (toL T l)) (hk : n * l = k) (hS : Ints w as_ S) : SeAt B w ps n l wd turn gt T aw cw as_ cs S gf gs gm N fs 0 0 := by
  have hrl : rs.length = k := by have := congrArg List.length hrs; simpa using this
  subst hk
  refine ⟨⟨h.cell rfl, h.cell rfl, h.cell rfl, h.cell rfl, h.cell rfl, h.cell rfl, h.cell rfl, h.cell rfl, h.cell rfl, ?_, fun i hi => ?_, hS⟩, ?_⟩
  · have h1 : Owns B w [(3, .slice aw wd.length cw, vals (natInts wd))] := owns_sub h (List.Sublist.cons _ (List.Sublist.cons _ (List.Sublist.cons _ (List.Sublist.cons _ (List.Sublist.trans (List.cons_sublist_cons.2 (List.nil_sublist _)) (List.sublist_append_right _ _))))))
    exact h1.ints.2
  · have hir : i < rs.length := by omega
    have e1 : (rs[i]).2 = toL T l i := by
      have h1 := congrArg (fun z => z[i]?) hrs
      simp only [List.getElem?_map, List.getElem?_eq_getElem hir, List.getElem?_range hi, Option.map_some, Option.some.injEq] at h1
      exact h1
    have hm : (3, (rs[i]).1, vals (natInts (rs[i]).2)) ∈ rowIts rs := List.mem_map.2 ⟨rs[i], List.getElem_mem _, rfl⟩
    have hM : (3, (rs[i]).1, vals (natInts (rs[i]).2)) ∈ (seaIt ps n l (.slice aw wd.length cw) turn (.slice (some ⟨gt, 0, none⟩) (n * l) (n * l)) (.slice as_ S.length cs) (.slice (some ⟨gf, 0, none⟩) n n) (.slice (some ⟨gs, 0, none⟩) N N) (.slice (some ⟨gm, 0, none⟩) N N) :: bIt gm N N 0 :: bIt gs N N 0 :: (22, .slice (some ⟨gt, 0, none⟩) (n * l) (n * l), rs.map (·.1)) :: (rowIts rs ++ [(3, .slice aw wd.length cw, vals (natInts wd)), bIt gf n n fs])) := List.mem_append_right [_, _, _, _] (List.mem_append_left _ hm)
    obtain ⟨_, av, cv, hav⟩ := h.1 _ hM
    simp only [natInts_len] at hav
    have h1 : Owns B w [(3, (rs[i]).1, vals (natInts (rs[i]).2))] := ⟨fun it hm2 => by rw [List.mem_singleton.1 hm2]; exact h.1 _ hM, List.pairwise_singleton _ _⟩
    rw [hav] at h1
    refine ⟨av, cv, ?_, ?_⟩
    · have hT4 : (22, Value.slice (some ⟨gt, 0, none⟩) (n * l) (n * l), rs.map (·.1)) ∈ (seaIt ps n l (.slice aw wd.length cw) turn (.slice (some ⟨gt, 0, none⟩) (n * l) (n * l)) (.slice as_ S.length cs) (.slice (some ⟨gf, 0, none⟩) n n) (.slice (some ⟨gs, 0, none⟩) N N) (.slice (some ⟨gm, 0, none⟩) N N) :: bIt gm N N 0 :: bIt gs N N 0 :: (22, .slice (some ⟨gt, 0, none⟩) (n * l) (n * l), rs.map (·.1)) :: (rowIts rs ++ [(3, .slice aw wd.length cw, vals (natInts wd)), bIt gf n n fs])) := List.mem_cons_of_mem _ (List.mem_cons_of_mem _ (List.mem_cons_of_mem _ List.mem_cons_self))
      refine h.cellM hT4 ?_
      rw [List.getElem?_map, List.getElem?_eq_getElem hir, Option.map_some, hav, e1]
    · rw [← e1]; exact h1.ints.2
  · refine owns_sub h (List.Sublist.cons _ (List.cons_sublist_cons.2 (List.cons_sublist_cons.2 (List.Sublist.cons _ (List.Sublist.trans ?_ (List.sublist_append_right _ _))))))
    exact List.Sublist.cons _ (List.Sublist.refl _)

end Go.Proofs.Ytfjpdeoldcfhdaa
