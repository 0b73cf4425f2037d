/- Rows put behind copies of rows: slices.Clone of numbers and of steps; behind, stepsBehind. -/
/- Rows put behind copies of rows: behind, stepsBehind. -/
/- Two automata beside each other. -/
import Derived.Test.YtaangdomdeklhaaUOwnG
import Derived.Test.YtaangdomdeklhaaUJM
import Derived.Lib.SliceRun
import Derived.Test.YtaangdomdeklhaaUAu
import Derived.Test.YtaangdomdeklhaaUCheck2
namespace Go.Proofs.Ytaangdomdeklhaa
open Go.RowKit
set_option linter.unusedVariables false
attribute [local go_sem ↓] app_fold

/-- A row is put behind nothing, in memory of one's own. -/
theorem copyG (w : World) (T E : TypeId) (z : Value) (sz bytes : Nat) (hT : Try.prog.underlying T = some (.slice E)) (hI : (Try.prog.info? E).map (fun i => (i.zero, i.size, i.bytes)) = some (some z, sz, bytes)) (hzs : z.cells.size = sz) (h0 : 0 < sz) (y : Addr) (n d : Nat) (xs : List Value) (hl : xs.length = n * sz)
    (hc : ∀ j u, xs[j]? = some u → w.cell? (y.add j) = some u) (h1 : ∀ u, u ∈ xs → u.oneCell' = true) (hn : n ≤ 1000000) (hb : bytes ≤ 1000) :
    ∃ v' w', (AppS #[T, T] T #[.slice (some ⟨w.heap.size, 0, none⟩) 0 0, .slice (some y) n d]).run Try.prog (w.alloc (.cells #[] E)) = .ok v' w' ∧ OwnsGI w.heap.size w' ⟨E, sz, v', n, xs⟩ ∧ w.grownBy w' none := by
  obtain ⟨i0, hio, hz0, hz1, hz2⟩ := info_parts hI
  have hg := heap_alloc_new w (.cells #[] E)
  have hown : (w.alloc (.cells #[] E)).ownsRow w.heap.size E sz (.slice (some ⟨w.heap.size, 0, none⟩) 0 0) 0 [] := ⟨by simp, .inr ⟨w.heap.size, 0, #[], rfl, Nat.le_refl _, hg, Nat.le_refl _, Nat.zero_le _, by simp, by simp⟩⟩
  have hnb : n * bytes ≤ 1000000 * 1000 := Nat.mul_le_mul hn hb
  obtain ⟨v', w', hr, ho, hgr, _, _⟩ := run_append_own_at (P := Try.prog) (w.alloc (.cells #[] E)) w.heap.size T T E i0 z sz bytes hT hio hz0 hz1 hz2 hzs h0 (.slice (some ⟨w.heap.size, 0, none⟩) 0 0) 0 [] hown y n d xs hl (fun j u hu => (grown_alloc w _).cell (hc j u hu) (by simp)) h1 (by unfold maxLen; omega) (by rw [Nat.zero_add]; omega) (by rw [World.size_alloc]; omega)
  rw [Nat.zero_add, List.nil_append] at ho
  refine ⟨v', w', hr, ⟨ho, ?_⟩, grown_new (grown_alloc _ _) hgr (Nat.le_refl _)⟩
  rcases ho.2 with ⟨e1, e2⟩ | ⟨g', cap, cur, e1, _⟩
  · have e3 : n = 0 := e2
    exact ⟨none, 0, by rw [e1, e3]⟩
  · exact ⟨_, cap, e1⟩

/-- What Clone answers. -/
def CloneP (E : TypeId) (sz n : Nat) (xs : List Value) (w : World) (e : Ending) (w' : World) : Prop := ∃ v, e = .returned v ∧ OwnsGI w.heap.size w' ⟨E, sz, v, n, xs⟩ ∧ w.grownBy w' none
theorem ownsGI_nil (B : Nat) (w : World) (E : TypeId) (sz : Nat) : OwnsGI B w ⟨E, sz, .slice none 0 0, 0, []⟩ := ⟨World.ownsRow_nil w B E sz, _, _, rfl⟩

set_option maxHeartbeats 1600000 in
set_option maxRecDepth 100000 in
theorem cloneI_any (a : Option Addr) (c : Nat) (zs : List Int) (w : World) (hz : Ints w a zs) (hm : zs.length ≤ 1000) :
    Calls Try.prog 66 #[.slice a zs.length c] w (CloneP 3 1 zs.length (vals zs) w) := by
  cases a with
  | none =>
    have e : zs = [] := by
      rcases hz with h | ⟨_, _, h, _⟩
      · exact h
      · cases h
    subst e
    clear hz hm
    have hnil := fun (W : World) => Lib.run_eql_slice_nil (P := Try.prog) W 22 3 none 0 c 0 0 Try.underlying22
    go_enter Try.func66, Try.ntmps66
    go_wp2_with fail
    go_ret
    exact ⟨_, rfl, ownsGI_nil _ _ _ _, grown_refl _ _⟩
  | some y =>
    obtain ⟨v', w', hr, ho, hg⟩ := copyG w 22 3 (.int .i64 0) 1 8 Try.underlying22 Try.info3i rfl (by decide) y zs.length c (vals zs) (by simp [vals]) (fun j u hu => by
      have hj : j < zs.length := by have := (List.getElem?_eq_some_iff.1 hu).1; simpa [vals] using this
      rcases hz with h | ⟨b, off, h, hc⟩
      · subst h; simp at hj
      · cases h
        rw [add_off, hc j hj]
        have : (vals zs)[j]? = some (.int .i64 (zs.getD j 0)) := by simp [vals, List.getD, hj]
        rw [this] at hu
        exact hu) (by intro u hu; obtain ⟨x, _, rfl⟩ := List.mem_map.1 hu; rfl) (by omega) (by decide)
    have HO : Hid (OwnsGI w.heap.size w' ⟨3, 1, v', zs.length, vals zs⟩) := ho
    have HG : Hid (w.grownBy w' none) := hg
    clear hz ho hg
    generalize zs.length = n at *
    have hnil := fun (W : World) => Lib.run_eql_slice_nil (P := Try.prog) W 22 3 (some y) n c 0 0 Try.underlying22
    go_enter Try.func66, Try.ntmps66
    go_wp2_with fail
    go_ret
    exact ⟨_, rfl, HO.out, HG.out⟩

set_option maxHeartbeats 1600000 in
set_option maxRecDepth 100000 in
theorem cloneS_any (a : Option Addr) (c : Nat) (T : List StepI) (w : World) (hz : StepsAt w a T) (hm : T.length ≤ 1000) :
    Calls Try.prog 67 #[.slice a T.length c] w (CloneP 53 3 T.length (flatT T) w) := by
  cases a with
  | none =>
    have e : T = [] := by
      rcases hz with h | ⟨_, _, h, _⟩
      · exact h
      · cases h
    subst e
    clear hz hm
    have hnil := fun (W : World) => Lib.run_eql_slice_nil (P := Try.prog) W 23 53 none 0 c 0 0 Try.underlying23
    go_enter Try.func67, Try.ntmps67
    go_wp2_with fail
    go_ret
    exact ⟨_, rfl, ownsGI_nil _ _ _ _, grown_refl _ _⟩
  | some y =>
    obtain ⟨v', w', hr, ho, hg⟩ := copyG w 23 53 (.agg #[.int .i64 0, .int .i64 0, .int .i64 0]) 3 24 Try.underlying23 Try.infoT rfl (by decide) y T.length c (flatT T) (flatT_len T) (fun j u hu => by
      rcases hz with h | ⟨b, off, h, hc⟩
      · subst h; simp [flatT] at hu
      · cases h
        rw [add_off]
        exact steps_cells hc j u hu) (fun u hu => flatT_mem hu) (by omega) (by decide)
    have HO : Hid (OwnsGI w.heap.size w' ⟨53, 3, v', T.length, flatT T⟩) := ho
    have HG : Hid (w.grownBy w' none) := hg
    clear hz ho hg
    generalize T.length = n at *
    have hnil := fun (W : World) => Lib.run_eql_slice_nil (P := Try.prog) W 23 53 (some y) n c 0 0 Try.underlying23
    go_enter Try.func67, Try.ntmps67
    go_wp2_with fail
    go_ret
    exact ⟨_, rfl, HO.out, HG.out⟩

section
variable {B : Nat} {w w' : World} {its r : List ItemG}
/-- A number is put behind a row of such. -/
theorem OwnsG.push1 {v : Value} {zs : List Int} (h : OwnsG B w (⟨3, 1, v, zs.length, vals zs⟩ :: r)) (hB : B ≤ w.heap.size) (hn : zs.length ≤ 1000000) (x : Int) {H : Nat} (hH : w.heap.size = H) :
    ∃ g cap w', (AppS #[22, 22] 22 #[v, .slice (some ⟨H, 0, none⟩) 1 1]).run Try.prog (w.alloc (.cells #[.int .i64 x] 3)) = .ok (.slice (some ⟨g, 0, none⟩) (zs.length + 1) cap) w' ∧ OwnsG B w' (⟨3, 1, .slice (some ⟨g, 0, none⟩) (zs.length + 1) cap, (zs ++ [x]).length, vals (zs ++ [x])⟩ :: r) ∧ Keeps B w w' ∧ (w.alloc (.cells #[.int .i64 x] 3)).grownBy w' v.ownBlock := by
  subst hH
  obtain ⟨i0, hio, hz0, hz1, hz2⟩ := info_parts Try.info3i
  have h' := h.kept (grown_alloc w (.cells #[.int .i64 x] 3))
  have hb := heap_alloc_new w (.cells #[.int .i64 x] 3)
  obtain ⟨g, cap, w5, hrun, ho5, hg5, hat5, hlt5⟩ := run_append_lies (P := Try.prog) (w.alloc (.cells #[.int .i64 x] 3)) 22 22 B 3 i0 (.int .i64 0) 1 8 Try.underlying22 hio hz0 hz1 hz2 rfl (by decide) v zs.length (vals zs) h'.head.1 ⟨w.heap.size, 0, none⟩ 1 1 [.int .i64 x] rfl (fun j u hu => by
    rw [addr_add, cell_of_row _ _ j _ _ (0, 0) hb]
    simpa using hu) (by intro u hu; simp at hu; rcases hu with rfl; rfl) (by omega) (by unfold maxLen; omega) (by omega) (by simp; omega) _ rfl
  have e1 : vals zs ++ [Value.int .i64 x] = vals (zs ++ [x]) := by simp [vals]
  have e2 : (zs ++ [x]).length = zs.length + 1 := by simp
  rw [e1] at ho5
  rw [e2]
  refine ⟨g, cap, w5, hrun, h'.turn ⟨ho5, _, _, rfl⟩ hg5 ?_, fun w0 hB0 h0 => h'.frame hB0 (grown_trans h0 (grown_alloc _ _)) hg5, hg5⟩
  rcases hat5 with h1 | h1
  · exact .inl (by simp only; rw [h1]; rfl)
  · exact .inr ⟨g, rfl, by rw [h1]; exact Nat.le_refl _⟩
/-- A step is put behind a row of such. -/
theorem OwnsG.pushS {v : Value} {T : List StepI} (h : OwnsG B w (⟨53, 3, v, T.length, flatT T⟩ :: r)) (hB : B ≤ w.heap.size) (hn : T.length ≤ 1000000) (x : StepI) {H : Nat} (hH : w.heap.size = H) :
    ∃ g cap w', (AppS #[23, 23] 23 #[v, .slice (some ⟨H, 0, none⟩) 1 1]).run Try.prog (w.alloc (.cells #[.int .i64 x.1, .int .i64 x.2.1, .int .i64 x.2.2] 53)) = .ok (.slice (some ⟨g, 0, none⟩) (T.length + 1) cap) w' ∧ OwnsG B w' (⟨53, 3, .slice (some ⟨g, 0, none⟩) (T.length + 1) cap, (T ++ [x]).length, flatT (T ++ [x])⟩ :: r) ∧ Keeps B w w' ∧ (w.alloc (.cells #[.int .i64 x.1, .int .i64 x.2.1, .int .i64 x.2.2] 53)).grownBy w' v.ownBlock := by
  obtain ⟨g, cap, w', hr, ho, hk, hg⟩ := OwnsG.push3 23 53 Try.underlying23 Try.infoT h hB hn x.1 x.2.1 x.2.2 hH
  refine ⟨g, cap, w', hr, ?_, hk, hg⟩
  have e1 : flatT T ++ [.int .i64 x.1, .int .i64 x.2.1, .int .i64 x.2.2] = flatT (T ++ [x]) := by simp [flatT]
  rw [e1] at ho
  rw [List.length_append, List.length_singleton]
  exact ho
theorem OwnsG.ints {v : Value} {zs : List Int} (h : OwnsG B w (⟨3, 1, v, zs.length, vals zs⟩ :: r)) : ∃ a c, v = .slice a zs.length c ∧ Ints w a zs ∧ ∀ y, a = some y → B ≤ y.block := by
  obtain ⟨a, c, e⟩ := h.head.2
  refine ⟨a, c, e, ?_, fun y hy => by
    subst hy
    rcases h.head.1.2 with ⟨e1, _⟩ | ⟨g, cap, cur, e1, hB, _⟩
    · rw [e] at e1; cases e1
    · rw [e] at e1; cases e1; exact hB⟩
  have e' : v = .slice a zs.length c := e
  subst e'
  rcases Nat.eq_zero_or_pos zs.length with h0 | h0
  · exact .inl (List.length_eq_zero_iff.1 h0)
  · rcases h.head.1.2 with ⟨e1, e2⟩ | ⟨g, cap, cur, e1, _⟩
    · have : zs.length = 0 := e2
      omega
    · cases e1
      refine .inr ⟨g, 0, rfl, fun i hi => ?_⟩
      rw [Nat.zero_add]
      exact h.cell rfl (by simp [vals, List.getD, hi])
theorem OwnsG.steps {v : Value} {T : List StepI} (h : OwnsG B w (⟨53, 3, v, T.length, flatT T⟩ :: r)) : ∃ a c, v = .slice a T.length c ∧ StepsAt w a T ∧ ∀ y, a = some y → B ≤ y.block := by
  obtain ⟨a, c, e⟩ := h.head.2
  refine ⟨a, c, e, ?_, fun y hy => by
    subst hy
    rcases h.head.1.2 with ⟨e1, _⟩ | ⟨g, cap, cur, e1, hB, _⟩
    · rw [e] at e1; cases e1
    · rw [e] at e1; cases e1; exact hB⟩
  have e' : v = .slice a T.length c := e
  subst e'
  rcases Nat.eq_zero_or_pos T.length with h0 | h0
  · exact .inl (List.length_eq_zero_iff.1 h0)
  · rcases h.head.1.2 with ⟨e1, e2⟩ | ⟨g, cap, cur, e1, _⟩
    · have : T.length = 0 := e2
      omega
    · cases e1
      refine cells_steps fun j u hu => ?_
      rw [Nat.zero_add]
      exact h.cell rfl hu
end

end Go.Proofs.Ytaangdomdeklhaa

namespace Go.Proofs.Ytaangdomdeklhaa
open Go.RowKit
set_option linter.unusedVariables false
attribute [local go_sem ↓] app_fold

def RowA (zs : List Int) (w : World) (e : Ending) (w' : World) : Prop := ∃ a c, e = .returned (.slice a zs.length c) ∧ Ints w' a zs ∧ w.grownBy w' none ∧ ∀ y, a = some y → w.heap.size ≤ y.block
def StepA (T : List StepI) (w : World) (e : Ending) (w' : World) : Prop := ∃ a c, e = .returned (.slice a T.length c) ∧ StepsAt w' a T ∧ w.grownBy w' none ∧ ∀ y, a = some y → w.heap.size ≤ y.block

set_option maxHeartbeats 3200000 in
set_option maxRecDepth 100000 in
theorem behind_any (zs us : List Int) (m : Int) (a b : Option Addr) (c d : Nat) (w : World) (hz : Ints w a zs) (hu : Ints w b us) (hzl : zs.length ≤ 1000) (hul : us.length ≤ 1000) (hm : 0 ≤ m ∧ m ≤ 1000) (hb : ∀ u, u ∈ us → 0 ≤ u ∧ u ≤ 1000) :
    Calls Try.prog 50 #[.slice a zs.length c, .slice b us.length d, .int .i64 m] w (RowA (zs ++ us.map (m + ·)) w) := by
  have HC : Hid (Calls Try.prog 66 #[.slice a zs.length c] w (CloneP 3 1 zs.length (vals zs) w)) := cloneI_any a c zs w hz hzl
  have HU : Hid (∀ W, w.grownBy W none → Ints W b us) := fun W hW => hu.grown hW
  have HB : Hid (∀ u, u ∈ us → 0 ≤ u ∧ u ≤ 1000) := hb
  clear hz hu hb
  generalize hzn : zs.length = nz at *
  have HZ : Hid (zs.length = nz) := hzn
  clear hzn
  go_enter Try.func50, Try.ntmps50
  go_wp2_with fail
  refine HC.out.mono ?_
  rintro E w1 ⟨v, rfl, ho1, hg1⟩
  have O1 : Hid (OwnsG w.heap.size w1 [⟨3, 1, v, zs.length, vals zs⟩]) := ⟨fun it hm => by rw [List.mem_singleton] at hm; subst hm; rw [HZ.out]; exact ho1, List.pairwise_singleton _ _⟩
  have G1 : Hid (w.grownBy w1 none) := hg1
  clear ho1 hg1 HC
  go_wp2_with fail
  go_loopw [7, 14] (fun v7 v wr => ∃ j : Nat, j ≤ us.length ∧ v = .int .i64 j ∧ OwnsG w.heap.size wr [⟨3, 1, v7, (zs ++ (us.take j).map (m + ·)).length, vals (zs ++ (us.take j).map (m + ·))⟩] ∧ w.grownBy wr none) (fun _ v _ => us.length - (intOf v).toNat)
  case atStart => exact ⟨0, by omega, rfl, by rw [List.take_zero, List.map_nil, List.append_nil]; exact O1.out, G1.out⟩
  case round =>
    clear O1 G1
    rename World => wr
    obtain ⟨j, hj, rfl, hA, hg⟩ := hrel
    have A : Hid (OwnsG w.heap.size wr [⟨3, 1, _, (zs ++ (us.take j).map (m + ·)).length, vals (zs ++ (us.take j).map (m + ·))⟩]) := hA
    have G : Hid (w.grownBy wr none) := hg
    have HL : Hid ((zs ++ (us.take j).map (m + ·)).length = nz + j) := by show _ = _; rw [List.length_append, List.length_map, List.length_take, HZ.out]; omega
    obtain ⟨a7, c7, hv7, hI7, hN7⟩ := hA.ints
    have N7 : Hid (∀ y, a7 = some y → w.heap.size ≤ y.block) := hN7
    have I7 : Hid (Ints wr a7 (zs ++ (us.take j).map (m + ·))) := hI7
    rw [HL.out] at hv7
    subst hv7
    clear hA hg hI7 hN7
    by_cases hlt : j < us.length
    · have hji : (j : Int) < (us.length : Int) := by omega
      obtain ⟨bb, off, rfl, hc⟩ := (HU.out wr G.out).at hlt
      have y0 := hc j hlt
      have hub := HB.out (us.getD j 0) (by rw [List.getD, List.getElem?_eq_getElem hlt]; exact List.getElem_mem hlt)
      have HTk : Hid (zs ++ (us.take (j + 1)).map (m + ·) = (zs ++ (us.take j).map (m + ·)) ++ [m + us.getD j 0]) := by show _ = _; rw [List.take_add_one, List.map_append, ← List.append_assoc]; simp [List.getD, hlt]
      clear hc
      obtain ⟨q, hq⟩ : ∃ q, us.getD j 0 = q := ⟨_, rfl⟩
      rw [hq] at y0 HTk hub
      have wq : IntKind.i64.wrap (m + q) = m + q := by rw [IntKind.wrap_i64]; omega
      clear hq
      obtain ⟨g8, c8, w8, hrun0, hA8, hK8, _⟩ := A.out.push1 G.out.size (by rw [HL.out]; omega) (m + q) rfl
      rw [HL.out] at hrun0 hA8
      have hrun : (AppS #[22, 22] 22 #[.slice a7 (nz + j) c7, .slice (some ⟨wr.heap.size, 0, none⟩) 1 1]).run Try.prog (wr.alloc (.cells #[.int .i64 (m + q)] 3)) = .ok (.slice (some ⟨g8, 0, none⟩) (nz + j + 1) c8) w8 := hrun0
      have A8 : Hid (OwnsG w.heap.size w8 [⟨3, 1, .slice (some ⟨g8, 0, none⟩) (nz + j + 1) c8, (zs ++ (us.take (j + 1)).map (m + ·)).length, vals (zs ++ (us.take (j + 1)).map (m + ·))⟩]) := by
        show OwnsG _ _ _
        rw [HTk.out]; exact hA8
      have G8 : Hid (w.grownBy w8 none) := hK8 w (Nat.le_refl _) G.out
      clear hrun0 hA8 hK8
      go_wp2_with fail
      go_roundw
      case rel => exact ⟨j + 1, by omega, by go_num, A8.out, G8.out⟩
      case measure => simp [intOf]; omega
    · have hji : ¬ (j : Int) < (us.length : Int) := by omega
      have F : Hid (Ints wr a7 (zs ++ us.map (m + ·))) := by
        have h1 := I7.out
        rw [List.take_of_length_le (by omega)] at h1
        exact h1
      have FL : Hid (nz + j = (zs ++ us.map (m + ·)).length) := by
        have h1 := HL.out
        rw [List.take_of_length_le (by omega)] at h1
        exact h1.symm
      clear A I7 HL
      go_wp2_with fail
      go_ret
      exact ⟨a7, c7, by rw [FL.out]; rfl, F.out, G.out, N7.out⟩

set_option maxHeartbeats 3200000 in
set_option maxRecDepth 100000 in
theorem stepsBehind_any (T U : List StepI) (m : Int) (a b : Option Addr) (c d : Nat) (w : World) (hz : StepsAt w a T) (hu : StepsAt w b U) (hzl : T.length ≤ 1000) (hul : U.length ≤ 1000) (hm : 0 ≤ m ∧ m ≤ 1000) (hb : ∀ u, u ∈ U → (0 ≤ u.1 ∧ u.1 ≤ 1000) ∧ (0 ≤ u.2.2 ∧ u.2.2 ≤ 1000)) :
    Calls Try.prog 51 #[.slice a T.length c, .slice b U.length d, .int .i64 m] w (StepA (T ++ U.map (shS m)) w) := by
  have HC : Hid (Calls Try.prog 67 #[.slice a T.length c] w (CloneP 53 3 T.length (flatT T) w)) := cloneS_any a c T w hz hzl
  have HU : Hid (∀ W, w.grownBy W none → StepsAt W b U) := fun W hW => hu.grown hW
  have HB : Hid (∀ u, u ∈ U → (0 ≤ u.1 ∧ u.1 ≤ 1000) ∧ (0 ≤ u.2.2 ∧ u.2.2 ≤ 1000)) := hb
  clear hz hu hb
  generalize hzn : T.length = nz at *
  have HZ : Hid (T.length = nz) := hzn
  clear hzn
  go_enter Try.func51, Try.ntmps51
  go_wp2_with fail
  refine HC.out.mono ?_
  rintro E w1 ⟨v, rfl, ho1, hg1⟩
  have O1 : Hid (OwnsG w.heap.size w1 [⟨53, 3, v, T.length, flatT T⟩]) := ⟨fun it hm => by rw [List.mem_singleton] at hm; subst hm; rw [HZ.out]; exact ho1, List.pairwise_singleton _ _⟩
  have G1 : Hid (w.grownBy w1 none) := hg1
  clear ho1 hg1 HC
  go_wp2_with fail
  go_loopw [7, 14] (fun v7 v wr => ∃ j : Nat, j ≤ U.length ∧ v = .int .i64 j ∧ OwnsG w.heap.size wr [⟨53, 3, v7, (T ++ (U.take j).map (shS m)).length, flatT (T ++ (U.take j).map (shS m))⟩] ∧ w.grownBy wr none) (fun _ v _ => U.length - (intOf v).toNat)
  case atStart => exact ⟨0, by omega, rfl, by rw [List.take_zero, List.map_nil, List.append_nil]; exact O1.out, G1.out⟩
  case round =>
    clear O1 G1
    rename World => wr
    obtain ⟨j, hj, rfl, hA, hg⟩ := hrel
    have A : Hid (OwnsG w.heap.size wr [⟨53, 3, _, (T ++ (U.take j).map (shS m)).length, flatT (T ++ (U.take j).map (shS m))⟩]) := hA
    have G : Hid (w.grownBy wr none) := hg
    have HL : Hid ((T ++ (U.take j).map (shS m)).length = nz + j) := by show _ = _; rw [List.length_append, List.length_map, List.length_take, HZ.out]; omega
    obtain ⟨a7, c7, hv7, hI7, hN7⟩ := hA.steps
    have N7 : Hid (∀ y, a7 = some y → w.heap.size ≤ y.block) := hN7
    have I7 : Hid (StepsAt wr a7 (T ++ (U.take j).map (shS m))) := hI7
    rw [HL.out] at hv7
    subst hv7
    clear hA hg hI7 hN7
    by_cases hlt : j < U.length
    · have hji : (j : Int) < (U.length : Int) := by omega
      obtain ⟨bb, off, rfl, hc⟩ := (HU.out wr G.out).at hlt
      obtain ⟨y0, y1, y2⟩ := hc j hlt
      have hub := HB.out (U.getD j (0, 0, 0)) (by rw [getT_lt hlt]; exact List.getElem_mem hlt)
      have HTk : Hid (T ++ (U.take (j + 1)).map (shS m) = (T ++ (U.take j).map (shS m)) ++ [shS m (U.getD j (0, 0, 0))]) := by show _ = _; rw [List.take_add_one, List.map_append, ← List.append_assoc]; simp [List.getD, hlt]
      clear hc
      generalize U.getD j (0, 0, 0) = x at *
      obtain ⟨ff, ll, tt⟩ := x
      simp only at y0 y1 y2 hub
      have w1 : IntKind.i64.wrap (m + ff) = m + ff := by rw [IntKind.wrap_i64]; omega
      have w2 : IntKind.i64.wrap (m + tt) = m + tt := by rw [IntKind.wrap_i64]; omega
      have hA6 := A.out.kept (grown_alloc wr (.cells #[.int .i64 ff, .int .i64 ll, .int .i64 tt] 53))
      have g6 := grown_trans G.out (grown_alloc wr (.cells #[.int .i64 ff, .int .i64 ll, .int .i64 tt] 53))
      obtain ⟨g8, c8, w8, hrun0, hA8, hK8, _⟩ := hA6.pushS g6.size (by rw [HL.out]; omega) (shS m (ff, ll, tt)) (World.size_alloc _ _)
      rw [HL.out] at hrun0 hA8
      have hrun : (AppS #[23, 23] 23 #[.slice a7 (nz + j) c7, .slice (some ⟨wr.heap.size + 1, 0, none⟩) 1 1]).run Try.prog ((wr.alloc (.cells #[.int .i64 ff, .int .i64 ll, .int .i64 tt] 53)).alloc (.cells #[.int .i64 (m + ff), .int .i64 ll, .int .i64 (m + tt)] 53)) = .ok (.slice (some ⟨g8, 0, none⟩) (nz + j + 1) c8) w8 := hrun0
      have A8 : Hid (OwnsG w.heap.size w8 [⟨53, 3, .slice (some ⟨g8, 0, none⟩) (nz + j + 1) c8, (T ++ (U.take (j + 1)).map (shS m)).length, flatT (T ++ (U.take (j + 1)).map (shS m))⟩]) := by
        show OwnsG _ _ _
        rw [HTk.out]; exact hA8
      have G8 : Hid (w.grownBy w8 none) := hK8 w (Nat.le_refl _) g6
      clear hrun0 hA8 hK8 hA6 g6
      go_wp2_with fail
      go_roundw
      case rel => exact ⟨j + 1, by omega, by go_num, A8.out, G8.out⟩
      case measure => simp [intOf]; omega
    · have hji : ¬ (j : Int) < (U.length : Int) := by omega
      have F : Hid (StepsAt wr a7 (T ++ U.map (shS m))) := by
        have h1 := I7.out
        rw [List.take_of_length_le (by omega)] at h1
        exact h1
      have FL : Hid (nz + j = (T ++ U.map (shS m)).length) := by
        have h1 := HL.out
        rw [List.take_of_length_le (by omega)] at h1
        exact h1.symm
      clear A I7 HL
      go_wp2_with fail
      go_ret
      exact ⟨a7, c7, by rw [FL.out]; rfl, F.out, G.out, N7.out⟩

end Go.Proofs.Ytaangdomdeklhaa

namespace Go.Proofs.Ytaangdomdeklhaa
open Go.RowKit
set_option linter.unusedVariables false

/-- An automaton is answered. -/
def AutoA (x : Aut) (w : World) (E : Ending) (w' : World) : Prop := ∃ (a b e : Option Addr) (c d f : Nat), E = .returned (autV x.L x.N a x.S.length c b x.T.length d e x.F.length f) ∧ AutAt w' x a b e ∧ w.grownBy w' none ∧ ∀ y, (a = some y ∨ b = some y ∨ e = some y) → w.heap.size ≤ y.block

/-- The two automata's boxes stay. -/
abbrev KeepB (P W : World) (k : Nat) (L N : Int) (v2 v3 v4 : Value) (L' N' : Int) (u2 u3 u4 : Value) : Prop :=
  P.grownBy W none ∧ W.cell? ⟨k, 0, none⟩ = some (.int .i64 L) ∧ W.cell? ⟨k, 1, none⟩ = some (.int .i64 N) ∧ W.cell? ⟨k, 2, none⟩ = some v2 ∧ W.cell? ⟨k, 3, none⟩ = some v3 ∧ W.cell? ⟨k, 4, none⟩ = some v4 ∧
    W.cell? ⟨k + 1, 0, none⟩ = some (.int .i64 L') ∧ W.cell? ⟨k + 1, 1, none⟩ = some (.int .i64 N') ∧ W.cell? ⟨k + 1, 2, none⟩ = some u2 ∧ W.cell? ⟨k + 1, 3, none⟩ = some u3 ∧ W.cell? ⟨k + 1, 4, none⟩ = some u4
section
variable {P W W' : World} {k : Nat} {L N L' N' : Int} {v2 v3 v4 u2 u3 u4 : Value}
theorem KeepB.new (h : KeepB P P k L N v2 v3 v4 L' N' u2 u3 u4) (hg : P.grownBy W none) : KeepB P W k L N v2 v3 v4 L' N' u2 u3 u4 := by
  obtain ⟨_, h1, h2, h3, h4, h5, h6, h7, h8, h9, h10⟩ := h
  exact ⟨hg, hg.cell h1 (by simp), hg.cell h2 (by simp), hg.cell h3 (by simp), hg.cell h4 (by simp), hg.cell h5 (by simp), hg.cell h6 (by simp), hg.cell h7 (by simp), hg.cell h8 (by simp), hg.cell h9 (by simp), hg.cell h10 (by simp)⟩
theorem KeepB.call (h : KeepB P W k L N v2 v3 v4 L' N' u2 u3 u4) (hg : W.grownBy W' none) : KeepB P W' k L N v2 v3 v4 L' N' u2 u3 u4 := by
  obtain ⟨h0, h1, h2, h3, h4, h5, h6, h7, h8, h9, h10⟩ := h
  exact ⟨grown_trans h0 hg, hg.cell h1 (by simp), hg.cell h2 (by simp), hg.cell h3 (by simp), hg.cell h4 (by simp), hg.cell h5 (by simp), hg.cell h6 (by simp), hg.cell h7 (by simp), hg.cell h8 (by simp), hg.cell h9 (by simp), hg.cell h10 (by simp)⟩
theorem KeepB.drew (h : KeepB P W k L N v2 v3 v4 L' N' u2 u3 u4) : KeepB P W.drew k L N v2 v3 v4 L' N' u2 u3 u4 := h.call (grown_drew (grown_refl _ _))
theorem KeepB.gr (h : KeepB P W k L N v2 v3 v4 L' N' u2 u3 u4) : P.grownBy W none := h.1
end
theorem intsN_far {w w' : World} {a : Option Addr} {zs : List Int} {b : Nat} (h : Ints w a zs) (hn : zs ≠ [] → ∀ y, a = some y → y.block ≠ b) (hg : w.grownBy w' (some b)) : Ints w' a zs := by
  rcases h with h | ⟨b0, off, rfl, hc⟩
  · exact .inl h
  · by_cases h0 : zs = []
    · exact .inl h0
    · exact .inr ⟨b0, off, rfl, fun i hi => hg.cell (hc i hi) (by have := hn h0 _ rfl; simp at this ⊢; omega)⟩
theorem stepsN_far {w w' : World} {a : Option Addr} {T : List StepI} {b : Nat} (h : StepsAt w a T) (hn : T ≠ [] → ∀ y, a = some y → y.block ≠ b) (hg : w.grownBy w' (some b)) : StepsAt w' a T := by
  rcases h with h | ⟨b0, off, rfl, hc⟩
  · exact .inl h
  · by_cases h0 : T = []
    · exact .inl h0
    · have hb : b0 ≠ b := hn h0 _ rfl
      refine .inr ⟨b0, off, rfl, fun i hi => ?_⟩
      obtain ⟨c0, c1, c2⟩ := hc i hi
      exact ⟨hg.cell c0 (by simp; omega), hg.cell c1 (by simp; omega), hg.cell c2 (by simp; omega)⟩
theorem two_boxes (w : World) (L N : Int) (v2 v3 v4 : Value) (L' N' : Int) (u2 u3 u4 : Value) :
    ∃ W2, W2 = (w.alloc (.cells #[.int .i64 L, .int .i64 N, v2, v3, v4] 25)).alloc (.cells #[.int .i64 L', .int .i64 N', u2, u3, u4] 25) ∧ w.grownBy W2 none ∧ W2.heap.size = w.heap.size + 1 + 1 ∧ KeepB W2 W2 w.heap.size L N v2 v3 v4 L' N' u2 u3 u4 := by
  have h1 := heap_alloc_new w (.cells #[.int .i64 L, .int .i64 N, v2, v3, v4] 25)
  have h2 := heap_alloc_new (w.alloc (.cells #[.int .i64 L, .int .i64 N, v2, v3, v4] 25)) (.cells #[.int .i64 L', .int .i64 N', u2, u3, u4] 25)
  rw [World.size_alloc] at h2
  have g2 : (w.alloc (.cells #[.int .i64 L, .int .i64 N, v2, v3, v4] 25)).grownBy ((w.alloc (.cells #[.int .i64 L, .int .i64 N, v2, v3, v4] 25)).alloc (.cells #[.int .i64 L', .int .i64 N', u2, u3, u4] 25)) none := grown_alloc _ _
  have h3 := (g2.block _ (by rw [World.size_alloc]; omega) (by simp)).trans h1
  obtain ⟨x0, x1, x2, x3, x4, _⟩ := block_cells5A h3
  obtain ⟨y0, y1, y2, y3, y4, _⟩ := block_cells5A h2
  exact ⟨_, rfl, grown_trans (grown_alloc _ _) g2, by rw [World.size_alloc, World.size_alloc], grown_refl _ _, x0, x1, x2, x3, x4, y0, y1, y2, y3, y4⟩

set_option maxHeartbeats 3200000 in
set_option maxRecDepth 100000 in
theorem beside_any (x y : Aut) (hJ : GoodJ x y) (a b e a' b' e' : Option Addr) (c d f c' d' f' : Nat) (w : World) (h : AutAt w x a b e) (h' : AutAt w y a' b' e') :
    Calls Try.prog 29 #[autV x.L x.N a x.S.length c b x.T.length d e x.F.length f, autV y.L y.N a' y.S.length c' b' y.T.length d' e' y.F.length f'] w (AutoA (besA x y) w) := by
  have n1 := hJ.a.n1
  have n2 := hJ.na
  have m1 := hJ.b.n1
  have m2 := hJ.nb
  have l1 := few_S hJ.a hJ.na
  have l2 := few_S hJ.b hJ.nb
  have t1 := few_T hJ.a hJ.na
  have t2 := few_T hJ.b hJ.nb
  have HS : Hid (∀ W, w.grownBy W none → Calls Try.prog 50 #[.slice a x.S.length c, .slice a' y.S.length c', .int .i64 x.N] W (RowA (x.S ++ y.S.map (x.N + ·)) W)) := fun W hW => behind_any x.S y.S x.N a a' c c' W (h.start.grown hW) (h'.start.grown hW) (by omega) (by omega) (by omega) (fun u hu => by have := inR_iff.1 hJ.b.s u hu; omega)
  have HT : Hid (∀ W, w.grownBy W none → Calls Try.prog 51 #[.slice b x.T.length d, .slice b' y.T.length d', .int .i64 x.N] W (StepA (x.T ++ y.T.map (shS x.N)) W)) := fun W hW => stepsBehind_any x.T y.T x.N b b' d d' W (h.steps.grown hW) (h'.steps.grown hW) (by omega) (by omega) (by omega) (fun u hu => by obtain ⟨⟨g1, g2⟩, ⟨g3, g4⟩, _⟩ := inT_iff.1 hJ.b.t u hu; omega)
  have HF : Hid (∀ W, w.grownBy W none → Calls Try.prog 50 #[.slice e x.F.length f, .slice e' y.F.length f', .int .i64 x.N] W (RowA (x.F ++ y.F.map (x.N + ·)) W)) := fun W hW => behind_any x.F y.F x.N e e' f f' W (h.final.grown hW) (h'.final.grown hW) (by omega) (by omega) (by omega) (fun u hu => by have := inR_iff.1 hJ.b.f u hu; omega)
  have HE : Hid (∀ (A B E : Option Addr) W, Ints W A (x.S ++ y.S.map (x.N + ·)) → StepsAt W B (x.T ++ y.T.map (shS x.N)) → Ints W E (x.F ++ y.F.map (x.N + ·)) → AutAt W (besA x y) A B E) := fun A B E W q1 q2 q3 => ⟨q1, q2, q3, by simp only [besA, List.length_append, List.length_map]; unfold maxLen; omega, by simp only [besA, List.length_append, List.length_map]; unfold maxLen; omega, by simp only [besA, List.length_append, List.length_map]; unfold maxLen; omega⟩
  have wn : IntKind.i64.wrap (x.N + y.N) = x.N + y.N := by rw [IntKind.wrap_i64]; omega
  clear h h' hJ l1 l2 t1 t2
  unfold AutoA
  obtain ⟨L, N, S, T, F⟩ := x
  obtain ⟨L', N', S', T', F'⟩ := y
  simp only [besA] at *
  generalize S.length = nS at *
  generalize F.length = nF at *
  generalize T.length = nT at *
  generalize S'.length = mS at *
  generalize F'.length = mF at *
  generalize T'.length = mT at *
  generalize S ++ S'.map (N + ·) = rS at *
  generalize F ++ F'.map (N + ·) = rF at *
  generalize T ++ T'.map (shS N) = rT at *
  obtain ⟨W2, hW2, g2, s2, k2⟩ := two_boxes w L N (.slice a nS c) (.slice b nT d) (.slice e nF f) L' N' (.slice a' mS c') (.slice b' mT d') (.slice e' mF f')
  have HW2 : Hid (W2 = (w.alloc (.cells #[.int .i64 L, .int .i64 N, .slice a nS c, .slice b nT d, .slice e nF f] 25)).alloc (.cells #[.int .i64 L', .int .i64 N', .slice a' mS c', .slice b' mT d', .slice e' mF f'] 25)) := hW2
  have S2 : Hid (W2.heap.size = w.heap.size + 1 + 1) := s2
  have G2 : Hid (w.grownBy W2 none) := g2
  have K2 : Hid (KeepB W2 W2 w.heap.size L N (.slice a nS c) (.slice b nT d) (.slice e nF f) L' N' (.slice a' mS c') (.slice b' mT d') (.slice e' mF f')) := k2
  obtain ⟨W3, hW3⟩ : ∃ W3, W3 = W2.alloc (.cells #[.int .i64 0, .int .i64 0, .slice none 0 0, .slice none 0 0, .slice none 0 0] 25) := ⟨_, rfl⟩
  have HW3 : Hid (W3 = W2.alloc (.cells #[.int .i64 0, .int .i64 0, .slice none 0 0, .slice none 0 0, .slice none 0 0] 25)) := hW3
  have G3 : Hid (W2.grownBy W3 none) := by rw [hW3]; exact grown_alloc _ _
  have K3 : Hid (KeepB W2 W3 w.heap.size L N (.slice a nS c) (.slice b nT d) (.slice e nF f) L' N' (.slice a' mS c') (.slice b' mT d') (.slice e' mF f')) := K2.out.call G3.out
  have R3 : Hid (W3.heap[w.heap.size + 1 + 1]? = some (.cells #[.int .i64 0, .int .i64 0, .slice none 0 0, .slice none 0 0, .slice none 0 0] 25 (0, 0)) ∧ w.heap.size + 1 + 1 < W3.heap.size) := by
    have h1 := heap_alloc_new W2 (.cells #[.int .i64 0, .int .i64 0, .slice none 0 0, .slice none 0 0, .slice none 0 0] 25)
    rw [← hW3, s2] at h1
    exact ⟨h1, by rw [hW3, World.size_alloc, s2]; omega⟩
  clear hW2 g2 s2 k2 hW3
  go_enter Try.func29, Try.ntmps29
  go_wp2_with fail
  rw [← HW2.out, ← HW3.out]
  clear HW2 HW3
  generalize w.heap.size = k0 at *
  go_region_held3 (fun W => KeepB W2 W k0 L N (.slice a nS c) (.slice b nT d) (.slice e nF f) L' N' (.slice a' mS c') (.slice b' mT d') (.slice e' mF f'))
    (first | (with_reducible exact KeepB.drew K3.out) | (with_reducible exact KeepB.call (by assumption) hgA) | (with_reducible exact KeepB.call (by assumption) hgB) | (with_reducible exact KeepB.call (by assumption) hgC) | (with_reducible exact KeepB.drew (by assumption)) | (with_reducible exact HSt.out) | assumption)
    (first
    | (go_at_call_of 50 (Value.slice a nS c); refine (HS.out _ (grown_trans G2.out (KeepB.gr (by assumption)))).mono ?_; rintro E wA ⟨aA, cA, rfl, hiA, hgA, hnA⟩; have GA : Hid (W3.grownBy wA none) := grown_trans (by first | exact grown_refl _ _ | exact grown_drew (grown_refl _ _)) hgA; have IA : Hid (∀ W, wA.grownBy W none → Ints W aA rS) := fun W hW => hiA.grown hW; have NA : Hid (∀ y, aA = some y → W3.heap.size ≤ y.block) := hnA)
    | (go_at_call_of 51 (Value.slice b nT d); refine (HT.out _ (grown_trans G2.out (KeepB.gr (by assumption)))).mono ?_; rintro E wB ⟨aB, cB, rfl, hiB, hgB, hnB⟩; have GB : Hid (wA.grownBy wB none) := hgB; have IB : Hid (∀ W, wB.grownBy W none → StepsAt W aB rT) := fun W hW => hiB.grown hW; have NB : Hid (∀ y, aB = some y → W3.heap.size ≤ y.block) := fun y hy => Nat.le_trans GA.out.size (hnB y hy))
    | (go_at_call_of 50 (Value.slice e nF f); refine (HF.out _ (grown_trans G2.out (KeepB.gr (by assumption)))).mono ?_; rintro E wC ⟨aC, cC, rfl, hiC, hgC, hnC⟩; have GC : Hid (wB.grownBy wC none) := hgC; have NC : Hid (∀ y, aC = some y → W3.heap.size ≤ y.block) := fun y hy => Nat.le_trans (Nat.le_trans GA.out.size GB.out.size) (hnC y hy);
        have RC : Hid (wC.heap[k0 + 1 + 1]? = some (.cells #[.int .i64 0, .int .i64 0, .slice none 0 0, .slice none 0 0, .slice none 0 0] 25 (0, 0))) := (((grown_trans GA.out (grown_trans GB.out GC.out))).block _ R3.out.2 (by simp)).trans R3.out.1;
        obtain ⟨z0, z1, z2, z3, z4, zf⟩ := block_cells5A RC.out; have zf0 := zf 0; have zf1 := zf 1; have zf2 := zf 2; have zf3 := zf 3; have zf4 := zf 4; clear zf;
        obtain ⟨W9, hW9, hg9, hR9⟩ := five_store RC.out (.int .i64 L) (.int .i64 (N + N')) (.slice aA rS.length cA) (.slice aB rT.length cB) (.slice aC rF.length cC);
        have HW9 : Hid (W9 = _) := hW9; have R9 : Hid (W9.heap[k0 + 1 + 1]? = some (.cells #[.int .i64 L, .int .i64 (N + N'), .slice aA rS.length cA, .slice aB rT.length cB, .slice aC rF.length cC] 25 (0, 0))) := hR9;
        have G9 : Hid (wC.grownBy W9 (some (k0 + 1 + 1))) := hg9; have HSt : Hid (KeepB W2 _ k0 L N (.slice a nS c) (.slice b nT d) (.slice e nF f) L' N' (.slice a' mS c') (.slice b' mT d') (.slice e' mF f')) := hW9 ▸ K2.out.new (grown_new (grown_trans G3.out (grown_trans GA.out (grown_trans GB.out GC.out))) hg9 (Nat.le_of_eq S2.out));
        have IA9 : Hid (Ints W9 aA rS) := intsN_far (IA.out wC (grown_trans GB.out GC.out)) (fun _ y hy => by have := NA.out y hy; have := R3.out.2; omega) hg9;
        have IC9 : Hid (Ints W9 aC rF) := intsN_far hiC (fun _ y hy => by have := NC.out y hy; have := R3.out.2; omega) hg9;
        have IB9 : Hid (StepsAt W9 aB rT) := stepsN_far (IB.out wC GC.out) (fun _ y hy => by have := NB.out y hy; have := R3.out.2; omega) hg9;
        clear hW9 hg9 hR9))
  all_goals
    have Fin : Hid (AutoA ⟨L, N + N', rS, rT, rF⟩ w (.returned (autV L (N + N') aA rS.length cA aB rT.length cB aC rF.length cC)) W9) := ⟨_, _, _, _, _, _, rfl, HE.out _ _ _ _ IA9.out IB9.out IC9.out, grown_trans G2.out (grown_new (grown_trans G3.out (grown_trans GA.out (grown_trans GB.out GC.out))) G9.out (Nat.le_of_eq S2.out)), fun y hy => Nat.le_trans (Nat.le_trans G2.out.size G3.out.size) (hy.elim (NA.out y) fun hy => hy.elim (NB.out y) (NC.out y))⟩
    obtain ⟨v0, v1, v2, v3, v4, _⟩ := block_cells5A R9.out
    rw [← HW9.out]
    clear HSt R9 G9 IA9 IC9 IB9 z0 z1 z2 z3 z4 zf0 zf1 zf2 zf3 zf4 hiA hiB hiC hgA hgB hgC hnA hnB hnC GA GB GC NA NB NC IA IB RC
    go_wp2_with fail
    exact bodyPost_ret (v := autV L (N + N') aA rS.length cA aB rT.length cB aC rF.length cC) (by simp [results, Try.results29, go_sem, v0, v1, v2, v3, v4]) rfl Fin.out

end Go.Proofs.Ytaangdomdeklhaa
