/- The reference's Walked: what holds while it goes. -/
import Derived.Test.YtofjboelplknhaaRApart
import Derived.Test.YtofjboelplknhaaRLeast
namespace Go.Proofs.Ytofjboelplknhaa
open Go.RowKit
set_option linter.unusedVariables false

/-- Truths as a row's content. -/
abbrev tvals (n : Nat) (f : Nat → Bool) : List Value := (List.range n).map fun i => .bool (f i)
theorem tvals_len (n : Nat) (f : Nat → Bool) : (tvals n f).length = n := by simp [tvals]
theorem tvals_get {n i : Nat} {f : Nat → Bool} (h : i < n) : (tvals n f)[i]? = some (.bool (f i)) := by simp [tvals, h]
theorem tvals_set {n i : Nat} {f g : Nat → Bool} {b : Bool} (h1 : g i = b) (h2 : ∀ j, j < n → j ≠ i → g j = f j) : (tvals n f).set i (.bool b) = tvals n g := by
  apply List.ext_getElem (by simp [tvals])
  intro j h3 h4
  have hj : j < n := by simpa [tvals] using h4
  rw [List.getElem_set]
  simp only [tvals, List.getElem_map, List.getElem_range]
  by_cases e : i = j
  · subst e; rw [if_pos rfl, h1]
  · rw [if_neg e, h2 j hj (Ne.symm e)]

theorem Try.info4b : (Try.prog.info? 4).map (fun i => (i.zero, i.size, i.bytes)) = some (some (.bool false), 1, 1) := by kernel_rfl
theorem make_bools (w : World) (n : Nat) (hn : n ≤ 10000000) : (Instr.makeSlice 92 (.int .i64 (n : Int)) (.int .i64 (n : Int))).run Try.prog w = .ok (.slice (some ⟨w.heap.size, 0, none⟩) n n) (w.alloc (.cells (Array.replicate n (Value.bool false)) 4)) := by
  obtain ⟨i0, hi, hz0, hz1, hz2⟩ := info_parts Try.info4b
  have hmk := run_make (P := Try.prog) w 92 4 i0 (.bool false) Try.underlying92 hi hz0 .i64 .i64 (n : Int) (n : Int) (by omega) (by omega) (by rw [hz2]; omega) (by omega)
  have e : madeCells (Value.cells (.bool false)) n = Array.replicate n (Value.bool false) := by
    apply Array.ext'
    simpa [Value.cells] using toList_madeCells_one (.bool false) n
  rw [hz1, Nat.mul_one, Int.toNat_natCast, e] at hmk
  exact hmk
theorem tvals_no (n : Nat) : (Array.replicate n (Value.bool false)).toList = tvals n fun _ => false := by
  apply List.ext_getElem (by simp [tvals])
  intro i h1 h2
  simp [tvals]

/-- A row of numbers is put behind an empty one. -/
theorem clone_run {B H : Nat} {w : World} {its : List Item} (h : Owns B w its) (hB : B ≤ w.heap.size) (hH : w.heap.size = H) {g c : Nat} {u : List Nat} (hm : (3, Value.slice (some ⟨g, 0, none⟩) u.length c, vals (natInts u)) ∈ its) (hl : u.length ≤ 100000000) :
    ∃ g' cap w', (AppS #[23, 23] 23 #[.slice (some ⟨H, 0, none⟩) 0 0, .slice (some ⟨g, 0, none⟩) u.length c]).run Try.prog (w.alloc (.cells #[] 3)) = .ok (.slice (some ⟨g', 0, none⟩) u.length cap) w' ∧
      Owns B w' ((3, .slice (some ⟨g', 0, none⟩) u.length cap, vals (natInts u)) :: its) ∧ Keeps B w w' := by
  subst hH
  obtain ⟨i0, hio, hz0, hz1, hz2⟩ := info_parts Try.info3i
  have h' := h.made (arr := #[]) (n := 0) hB 3 rfl (by unfold maxLen; omega)
  have hr := h'.row
  obtain ⟨v', w5, hrun, ho5, hg5, hn5, hat5⟩ := run_append_own_at (P := Try.prog) (w.alloc (.cells #[] 3)) B 23 23 3 i0 (.int .i64 0) 1 8 Try.underlying23 hio hz0 hz1 hz2 rfl (by decide) (.slice (some ⟨w.heap.size, 0, none⟩) 0 0) 0 [] hr ⟨g, 0, none⟩ u.length c (vals (natInts u)) (by simp [vals]) (fun j x hx => by
    rw [addr_add]
    exact h'.cellM (List.mem_cons_of_mem _ hm) hx) (by intro x hx; simp only [vals, List.mem_map] at hx; obtain ⟨z, _, rfl⟩ := hx; rfl) (by unfold maxLen; omega) (by omega) (by simp; omega)
  obtain ⟨ho1, ho2⟩ := ho5
  rcases ho2 with ⟨e0, _⟩ | ⟨g', cap, cur, e1, hrest⟩
  · have := (hn5.1 e0).1; cases this
  · subst e1
    have ho5 : w5.ownsRow B 3 1 (.slice (some ⟨g', 0, none⟩) (0 + u.length) cap) (0 + u.length) ([] ++ vals (natInts u)) := ⟨ho1, .inr ⟨g', cap, cur, rfl, hrest⟩⟩
    have hk : Keeps B w w5 := ((Keeps.refl B w).alloc _).trans (Keeps.first h' hg5)
    have h2 := h'.append (news := vals (natInts u)) (H := (w.alloc (.cells #[] 3)).heap.size) ho5 (by simp [vals]) hg5 (by
      rcases hat5 with e | e
      · left; rw [← e]; rfl
      · right; simpa [Value.ownBlock] using e) rfl
    rw [Nat.zero_add] at hrun h2
    exact ⟨g', cap, w5, hrun, h2, hk⟩

/-- Pairs under way, in memory. -/
abbrev wkIts (bo NP NQ NW : Nat) (aP aQ aW : Option Addr) (cP cQ cW : Nat) (Ps Qs : List Nat) (rs : List (Value × List Nat)) (gs m : Nat) (f : Nat → Bool) (D : List Item) : List Item :=
  (77, .slice (some ⟨bo, 0, none⟩) 3 3, [.slice aP NP cP, .slice aQ NQ cQ, .slice aW NW cW]) :: (3, .slice aP NP cP, vals (natInts Ps)) :: (3, .slice aQ NQ cQ, vals (natInts Qs)) :: (23, .slice aW NW cW, rs.map (·.1)) :: (4, .slice (some ⟨gs, 0, none⟩) m m, tvals m f) :: (D ++ rowIts rs)
/-- Which pairs are met. -/
def metB (k : Nat) (δ δ' : Nat → Nat → Nat) (p q : Nat) (ws : List (List Nat)) (c : Nat) : Bool := ws.any fun u => cod k δ δ' p q u == c
theorem metB_iff {k : Nat} {δ δ' : Nat → Nat → Nat} {p q : Nat} {ws : List (List Nat)} {c : Nat} : metB k δ δ' p q ws c = true ↔ ∃ u, u ∈ ws ∧ cod k δ δ' p q u = c := by
  unfold metB; rw [List.any_eq_true]; simp
theorem metB_snoc (k : Nat) (δ δ' : Nat → Nat → Nat) (p q : Nat) (ws : List (List Nat)) (u : List Nat) (c : Nat) : metB k δ δ' p q (ws ++ [u]) c = (metB k δ δ' p q ws c || (cod k δ δ' p q u == c)) := by
  unfold metB; rw [List.any_append]; simp

/-- Words, each in a row of its own. -/
def WdsAt (rs : List (Value × List Nat)) : Prop := ∀ x, x ∈ rs → ∃ g c, x.1 = Value.slice (some ⟨g, 0, none⟩) x.2.length c

structure WkSt (δ δ' : Nat → Nat → Nat) (p q n k bo gs : Nat) (W1 w : World) (rs : List (Value × List Nat)) (aP aQ aW : Option Addr) (cP cQ cW : Nat) : Prop where
  own : Owns W1.heap.size w (wkIts bo rs.length rs.length rs.length aP aQ aW cP cQ cW (rs.map fun u => u.2.foldl δ p) (rs.map fun u => u.2.foldl δ' q) rs gs (n * k) (metB k δ δ' p q (rs.map (·.2))) [])
  wds : WdsAt rs
  old : W1.grownBy w none

section
variable {δ δ' : Nat → Nat → Nat} {p q n k bo gs : Nat} {W1 w : World} {rs : List (Value × List Nat)} {aP aQ aW : Option Addr} {cP cQ cW : Nat}
theorem WkSt.kept {w' : World} (h : WkSt δ δ' p q n k bo gs W1 w rs aP aQ aW cP cQ cW) (hg : w.grownBy w' none) : WkSt δ δ' p q n k bo gs W1 w' rs aP aQ aW cP cQ cW := ⟨h.own.kept hg, h.wds, grown_trans h.old hg⟩
/-- What a look at the i-th pair reads. -/
theorem WkSt.reads (h : WkSt δ δ' p q n k bo gs W1 w rs aP aQ aW cP cQ cW) {i : Nat} (hi : i < rs.length) :
    ∃ gP gQ gW gz cz, aP = some ⟨gP, 0, none⟩ ∧ aQ = some ⟨gQ, 0, none⟩ ∧ aW = some ⟨gW, 0, none⟩ ∧ w.cell? ⟨gP, i, none⟩ = some (.int .i64 ((((rs.map (·.2)).getD i []).foldl δ p : Nat) : Int)) ∧ w.cell? ⟨gQ, i, none⟩ = some (.int .i64 ((((rs.map (·.2)).getD i []).foldl δ' q : Nat) : Int)) ∧
      w.cell? ⟨gW, i, none⟩ = some (.slice (some ⟨gz, 0, none⟩) ((rs.map (·.2)).getD i []).length cz) ∧ (3, Value.slice (some ⟨gz, 0, none⟩) ((rs.map (·.2)).getD i []).length cz, vals (natInts ((rs.map (·.2)).getD i []))) ∈ rowIts rs := by
  have ho := h.own
  obtain ⟨gP, rfl⟩ := ho.formM (e := 3) (List.mem_cons_of_mem _ List.mem_cons_self) (by simp [vals]; omega)
  obtain ⟨gQ, rfl⟩ := ho.formM (e := 3) (List.mem_cons_of_mem _ (List.mem_cons_of_mem _ List.mem_cons_self)) (by simp [vals]; omega)
  obtain ⟨gW, rfl⟩ := ho.formM (e := 23) (List.mem_cons_of_mem _ (List.mem_cons_of_mem _ (List.mem_cons_of_mem _ List.mem_cons_self))) (by simp; omega)
  have hg : (rs.map (·.2)).getD i [] = rs[i].2 := by simp [List.getD, hi]
  have hm : (3, rs[i].1, vals (natInts rs[i].2)) ∈ rowIts rs := List.mem_map.2 ⟨rs[i], List.getElem_mem _, rfl⟩
  obtain ⟨gz, cz, hv⟩ := h.wds rs[i] (List.getElem_mem _)
  rw [hg]
  refine ⟨gP, gQ, gW, gz, cz, rfl, rfl, rfl, ho.cellM (List.mem_cons_of_mem _ List.mem_cons_self) (by simp [vals, hi]), ho.cellM (List.mem_cons_of_mem _ (List.mem_cons_of_mem _ List.mem_cons_self)) (by simp [vals, hi]), ?_, ?_⟩
  · rw [← hv]
    exact ho.cellM (List.mem_cons_of_mem _ (List.mem_cons_of_mem _ (List.mem_cons_of_mem _ List.mem_cons_self))) (by simp [hi])
  · rw [← hv]; exact hm
theorem WkSt.box (h : WkSt δ δ' p q n k bo gs W1 w rs aP aQ aW cP cQ cW) : w.cell? ⟨bo, 0, none⟩ = some (.slice aP rs.length cP) ∧ w.cell? ⟨bo, 1, none⟩ = some (.slice aQ rs.length cQ) ∧ w.cell? ⟨bo, 2, none⟩ = some (.slice aW rs.length cW) :=
  ⟨h.own.cell rfl, h.own.cell rfl, h.own.cell rfl⟩
theorem WkSt.seen (h : WkSt δ δ' p q n k bo gs W1 w rs aP aQ aW cP cQ cW) {c : Nat} (hc : c < n * k) : w.cell? ⟨gs, c, none⟩ = some (.bool (metB k δ δ' p q (rs.map (·.2)) c)) ∧ w.frozen? ⟨gs, c, none⟩ = false :=
  ⟨(at_5 h.own).cell (tvals_get hc), (at_5 h.own).fz c⟩
end


/-- Midway. -/
structure Mid (bo gs m : Nat) (f : Nat → Bool) (W1 w : World) (NP NQ NW : Nat) (aP aQ aW : Option Addr) (cP cQ cW : Nat) (Ps Qs : List Nat) (rs : List (Value × List Nat)) (D : List Item) : Prop where
  own : Owns W1.heap.size w (wkIts bo NP NQ NW aP aQ aW cP cQ cW Ps Qs rs gs m f D)
  old : W1.grownBy w none
section
variable {δ δ' : Nat → Nat → Nat} {p q n k bo gs m : Nat} {f : Nat → Bool} {W1 w : World} {NP NQ NW : Nat} {Ps Qs : List Nat} {rs : List (Value × List Nat)} {D : List Item} {aP aQ aW : Option Addr} {cP cQ cW : Nat}
theorem Mid.kept {w' : World} (h : Mid bo gs m f W1 w NP NQ NW aP aQ aW cP cQ cW Ps Qs rs D) (hg : w.grownBy w' none) : Mid bo gs m f W1 w' NP NQ NW aP aQ aW cP cQ cW Ps Qs rs D := ⟨h.own.kept hg, grown_trans h.old hg⟩
theorem Mid.step {w' : World} {f' : Nat → Bool} {NP' NQ' NW' : Nat} {Ps' Qs' : List Nat} {rs' : List (Value × List Nat)} {D' : List Item} {aP' aQ' aW' : Option Addr} {cP' cQ' cW' : Nat} (h : Mid bo gs m f W1 w NP NQ NW aP aQ aW cP cQ cW Ps Qs rs D)
    (ho : Owns W1.heap.size w' (wkIts bo NP' NQ' NW' aP' aQ' aW' cP' cQ' cW' Ps' Qs' rs' gs m f' D')) (hk : Keeps W1.heap.size w w') : Mid bo gs m f' W1 w' NP' NQ' NW' aP' aQ' aW' cP' cQ' cW' Ps' Qs' rs' D' := ⟨ho, hk W1 (Nat.le_refl _) h.old⟩
/-- The pair is met. -/
theorem WkSt.mark (h : WkSt δ δ' p q n k bo gs W1 w rs aP aQ aW cP cQ cW) {u : List Nat} {c : Nat} (hc : c < n * k) (hu : cod k δ δ' p q u = c) :
    Mid bo gs (n * k) (metB k δ δ' p q (rs.map (·.2) ++ [u])) W1 (w.setCell ⟨gs, c, none⟩ (.bool true)) rs.length rs.length rs.length aP aQ aW cP cQ cW (rs.map fun u => u.2.foldl δ p) (rs.map fun u => u.2.foldl δ' q) rs [] := by
  have h1 := (at_5 h.own).set hc (.bool true)
  rw [tvals_set (g := metB k δ δ' p q (rs.map (·.2) ++ [u])) (by rw [metB_snoc, hu]; simp) (fun j hj hne => by
    rw [metB_snoc, hu]
    have : (c == j) = false := by simpa using Ne.symm hne
    rw [this, Bool.or_false])] at h1
  exact ⟨to_5 h1, grown_new h.old (grown_set _ _ _) (at_5 h.own).ge.1⟩
/-- A word is copied. -/
theorem Mid.clone (h : Mid bo gs m f W1 w NP NQ NW aP aQ aW cP cQ cW Ps Qs rs []) {g c H : Nat} {u : List Nat} (hH : w.heap.size = H) (hm : (3, Value.slice (some ⟨g, 0, none⟩) u.length c, vals (natInts u)) ∈ rowIts rs) (hl : u.length ≤ 100000000) :
    ∃ g' cap w', (AppS #[23, 23] 23 #[.slice (some ⟨H, 0, none⟩) 0 0, .slice (some ⟨g, 0, none⟩) u.length c]).run Try.prog (w.alloc (.cells #[] 3)) = .ok (.slice (some ⟨g', 0, none⟩) u.length cap) w' ∧
      Mid bo gs m f W1 w' NP NQ NW aP aQ aW cP cQ cW Ps Qs rs [(3, .slice (some ⟨g', 0, none⟩) u.length cap, vals (natInts u))] := by
  obtain ⟨g', cap, w', hr, ho, hk⟩ := clone_run h.own h.old.size hH (List.mem_cons_of_mem _ (List.mem_cons_of_mem _ (List.mem_cons_of_mem _ (List.mem_cons_of_mem _ (List.mem_cons_of_mem _ hm))))) hl
  exact ⟨g', cap, w', hr, h.step (to_6 ho) hk⟩
/-- A letter is put behind it. -/
theorem Mid.letter {g1 n1 c1 H a : Nat} {u : List Nat} (h : Mid bo gs m f W1 w NP NQ NW aP aQ aW cP cQ cW Ps Qs rs [(3, .slice (some ⟨g1, 0, none⟩) n1 c1, vals (natInts u))]) (hH : w.heap.size = H) (hl : u.length ≤ 100000000) :
    ∃ g' cap w', (AppS #[23, 23] 23 #[.slice (some ⟨g1, 0, none⟩) n1 c1, .slice (some ⟨H, 0, none⟩) 1 1]).run Try.prog (w.alloc (.cells #[.int .i64 (a : Int)] 3)) = .ok (.slice (some ⟨g', 0, none⟩) (n1 + 1) cap) w' ∧
      Mid bo gs m f W1 w' NP NQ NW aP aQ aW cP cQ cW Ps Qs rs [(3, .slice (some ⟨g', 0, none⟩) (n1 + 1) cap, vals (natInts (u ++ [a])))] := by
  obtain ⟨g', cap, w', hr, ho, hk⟩ := push_int (at_6 h.own) h.old.size hH (by simpa using hl) (a : Int)
  refine ⟨g', cap, w', hr, h.step ?_ hk⟩
  have := to_6 ho
  rw [show natInts u ++ [(a : Int)] = natInts (u ++ [a]) by simp] at this
  exact this
theorem Mid.putP {H x : Nat} (h : Mid bo gs m f W1 w NP NQ NW aP aQ aW cP cQ cW Ps Qs rs D) (hH : w.heap.size = H) (hl : Ps.length ≤ 100000000) :
    ∃ g' cap w', (AppS #[23, 23] 23 #[.slice aP NP cP, .slice (some ⟨H, 0, none⟩) 1 1]).run Try.prog (w.alloc (.cells #[.int .i64 (x : Int)] 3)) = .ok (.slice (some ⟨g', 0, none⟩) (NP + 1) cap) w' ∧ w.cell? ⟨bo, 0, none⟩ = some (.slice aP NP cP) ∧ w'.cell? ⟨bo, 0, none⟩ = some (.slice aP NP cP) ∧ w'.frozen? ⟨bo, 0, none⟩ = false ∧
      Mid bo gs m f W1 (w'.setCell ⟨bo, 0, none⟩ (.slice (some ⟨g', 0, none⟩) (NP + 1) cap)) (NP + 1) NQ NW (some ⟨g', 0, none⟩) aQ aW cap cQ cW (Ps ++ [x]) Qs rs D := by
  obtain ⟨g', cap, w', hr, ho, hk⟩ := push_int (at_2 h.own) h.old.size hH (by simpa using hl) (x : Int)
  have h2 := to_2 ho
  rw [show natInts Ps ++ [(x : Int)] = natInts (Ps ++ [x]) by simp] at h2
  exact ⟨g', cap, w', hr, h.own.cell rfl, h2.cell rfl, h2.fz 0, h.step (h2.set (i := 0) (by decide) _) (hk.set h2.ge.1 _ _)⟩
theorem Mid.putQ {H x : Nat} (h : Mid bo gs m f W1 w NP NQ NW aP aQ aW cP cQ cW Ps Qs rs D) (hH : w.heap.size = H) (hl : Qs.length ≤ 100000000) :
    ∃ g' cap w', (AppS #[23, 23] 23 #[.slice aQ NQ cQ, .slice (some ⟨H, 0, none⟩) 1 1]).run Try.prog (w.alloc (.cells #[.int .i64 (x : Int)] 3)) = .ok (.slice (some ⟨g', 0, none⟩) (NQ + 1) cap) w' ∧ w.cell? ⟨bo, 1, none⟩ = some (.slice aQ NQ cQ) ∧ w'.cell? ⟨bo, 1, none⟩ = some (.slice aQ NQ cQ) ∧ w'.frozen? ⟨bo, 1, none⟩ = false ∧
      Mid bo gs m f W1 (w'.setCell ⟨bo, 1, none⟩ (.slice (some ⟨g', 0, none⟩) (NQ + 1) cap)) NP (NQ + 1) NW aP (some ⟨g', 0, none⟩) aW cP cap cW Ps (Qs ++ [x]) rs D := by
  obtain ⟨g', cap, w', hr, ho, hk⟩ := push_int (at_3 h.own) h.old.size hH (by simpa using hl) (x : Int)
  have h2 := to_3 ho
  rw [show natInts Qs ++ [(x : Int)] = natInts (Qs ++ [x]) by simp] at h2
  exact ⟨g', cap, w', hr, h.own.cell rfl, h2.cell rfl, h2.fz 1, h.step (h2.set (i := 1) (by decide) _) (hk.set h2.ge.1 _ _)⟩
theorem Mid.putW {H g1 n1 c1 : Nat} {u : List Nat} (h : Mid bo gs m f W1 w NP NQ NW aP aQ aW cP cQ cW Ps Qs rs [(3, .slice (some ⟨g1, 0, none⟩) n1 c1, vals (natInts u))]) (hH : w.heap.size = H) (hl : rs.length ≤ 100000000) :
    ∃ g' cap w', (AppS #[22, 22] 22 #[.slice aW NW cW, .slice (some ⟨H, 0, none⟩) 1 1]).run Try.prog (w.alloc (.cells #[.slice (some ⟨g1, 0, none⟩) n1 c1] 23)) = .ok (.slice (some ⟨g', 0, none⟩) (NW + 1) cap) w' ∧ w.cell? ⟨bo, 2, none⟩ = some (.slice aW NW cW) ∧ w'.cell? ⟨bo, 2, none⟩ = some (.slice aW NW cW) ∧ w'.frozen? ⟨bo, 2, none⟩ = false ∧
      Mid bo gs m f W1 (w'.setCell ⟨bo, 2, none⟩ (.slice (some ⟨g', 0, none⟩) (NW + 1) cap)) NP NQ (NW + 1) aP aQ (some ⟨g', 0, none⟩) cP cQ cap Ps Qs (rs ++ [(.slice (some ⟨g1, 0, none⟩) n1 c1, u)]) [] := by
  obtain ⟨g', cap, w', hr, ho, hk⟩ := push_row (at_4 h.own) h.old.size hH (by simpa using hl) (some ⟨g1, 0, none⟩) n1 c1
  have h2 := to_4 ho
  refine ⟨g', cap, w', hr, h.own.cell rfl, h2.cell rfl, h2.fz 2, h.step ?_ (hk.set h2.ge.1 _ _)⟩
  have h3 := h2.set (i := 2) (by decide) (.slice (some ⟨g', 0, none⟩) (NW + 1) cap)
  refine h3.perm ?_
  unfold wkIts
  simp only [List.map_append, List.map_cons, List.map_nil, List.nil_append]
  refine List.Perm.cons _ (List.Perm.cons _ (List.Perm.cons _ (List.Perm.cons _ (List.Perm.cons _ ?_))))
  exact List.perm_append_comm (l₁ := [(3, .slice (some ⟨g1, 0, none⟩) n1 c1, vals (natInts u))]) (l₂ := rowIts rs)
/-- All is put. -/
theorem Mid.done {g1 c1 : Nat} {u : List Nat} {aP' aQ' aW' : Option Addr} {cP' cQ' cW' : Nat} (h0 : WdsAt rs) (h : Mid bo gs (n * k) (metB k δ δ' p q (rs.map (·.2) ++ [u])) W1 w (rs.length + 1) (rs.length + 1) (rs.length + 1) aP aQ aW cP cQ cW ((rs.map fun u => u.2.foldl δ p) ++ [u.foldl δ p]) ((rs.map fun u => u.2.foldl δ' q) ++ [u.foldl δ' q]) (rs ++ [(.slice (some ⟨g1, 0, none⟩) u.length c1, u)]) []) :
    WkSt δ δ' p q n k bo gs W1 w (rs ++ [(.slice (some ⟨g1, 0, none⟩) u.length c1, u)]) aP aQ aW cP cQ cW := by
  refine ⟨?_, fun x hx => ?_, h.old⟩
  · have := h.own
    simp only [List.length_append, List.length_singleton, List.map_append, List.map_cons, List.map_nil] at this ⊢
    exact this
  · rcases List.mem_append.1 hx with hx | hx
    · exact h0 x hx
    · simp only [List.mem_singleton] at hx
      subst hx
      exact ⟨g1, c1, rfl⟩
end

/-- A pair of rows is stored. -/
theorem pairs_store {W : World} {B : Nat} {T : TypeId} {a0 a1 a2 : Value} (hb : W.heap[B]? = some (.cells #[a0, a1, a2] T (0, 0))) (v0 v1 v2 : Value) :
    ∃ W', W' = ((W.setCell ⟨B, 0, none⟩ v0).setCell ⟨B, 1, none⟩ v1).setCell ⟨B, 2, none⟩ v2 ∧ W.grownBy W' (some B) ∧ W'.cell? ⟨B, 0, none⟩ = some v0 ∧ W'.cell? ⟨B, 1, none⟩ = some v1 ∧ W'.cell? ⟨B, 2, none⟩ = some v2 := by
  have h0 : (W.setCell ⟨B, 0, none⟩ v0).heap[B]? = some (.cells #[v0, a1, a2] T (0, 0)) := by rw [heap_setCell_same W B 0 _ _ _ hb]; rfl
  have h1 : ((W.setCell ⟨B, 0, none⟩ v0).setCell ⟨B, 1, none⟩ v1).heap[B]? = some (.cells #[v0, v1, a2] T (0, 0)) := by rw [heap_setCell_same _ B 1 _ _ _ h0]; rfl
  have h2 : (((W.setCell ⟨B, 0, none⟩ v0).setCell ⟨B, 1, none⟩ v1).setCell ⟨B, 2, none⟩ v2).heap[B]? = some (.cells #[v0, v1, v2] T (0, 0)) := by rw [heap_setCell_same _ B 2 _ _ _ h1]; rfl
  exact ⟨_, rfl, grown_set2 (grown_set2 (grown_set W ⟨B, 0, none⟩ v0) 1 v1) 2 v2, by rw [cell_of_row _ _ _ _ _ (0, 0) h2]; rfl, by rw [cell_of_row _ _ _ _ _ (0, 0) h2]; rfl, by rw [cell_of_row _ _ _ _ _ (0, 0) h2]; rfl⟩
theorem block_cells3 {W : World} {B : Nat} {T : TypeId} {a0 a1 a2 : Value} (hb : W.heap[B]? = some (.cells #[a0, a1, a2] T (0, 0))) :
    W.cell? ⟨B, 0, none⟩ = some a0 ∧ W.cell? ⟨B, 1, none⟩ = some a1 ∧ W.cell? ⟨B, 2, none⟩ = some a2 ∧ ∀ k, W.frozen? ⟨B, k, none⟩ = false :=
  ⟨by rw [cell_of_row _ _ _ _ _ (0, 0) hb]; rfl, by rw [cell_of_row _ _ _ _ _ (0, 0) hb]; rfl, by rw [cell_of_row _ _ _ _ _ (0, 0) hb]; rfl, fun k => frozen_of_row _ _ k _ _ hb⟩

end Go.Proofs.Ytofjboelplknhaa
