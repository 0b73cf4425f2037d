/- Whole numbers in memory; zeros at the end taken away. -/
import Derived.Test.YtjinibofbpgfjaaDoorNuSpec
import Derived.Test.YtjinibofbpgfjaaDoorTell
import Derived.Test.YtjinibofbpgfjaaDoorSay
import Derived.Test.YtjinibofbpgfjaaDoorSkRow
import Derived.Deep.Slices
import Derived.Deep.RegionHeld3
namespace Go.Proofs.YtjinibofbpgfjaaDoor
open Go.RowKit
set_option linter.unusedVariables false
set_option linter.unusedSimpArgs false

theorem intsN_lt {w : World} {a : Option Addr} {zs : List Int} {y : Addr} (h : Ints w a zs) (hn : zs ≠ []) (hy : a = some y) : y.block < w.heap.size := by
  rcases h with h | ⟨b, off, h1, h2⟩
  · exact absurd h hn
  · rw [h1] at hy
    cases hy
    have h3 := h2 0 (List.length_pos_iff.2 hn)
    show b < _
    rcases Nat.lt_or_ge b w.heap.size with h4 | h4
    · exact h4
    · have e : w.heap[b]? = none := Array.getElem?_eq_none h4
      simp [World.cell?, e] at h3
theorem intsN_far {w w' : World} {a : Option Addr} {zs : List Int} {b : Nat} (h : Ints w a zs) (hb : zs ≠ [] → ∀ y, a = some y → y.block ≠ b) (g : w.grownBy w' (some b)) : Ints w' a zs := by
  by_cases hn : zs = []
  · exact .inl hn
  · exact h.far (hb hn) g
theorem intsN_take {w : World} {a : Option Addr} {zs : List Int} (h : Ints w a zs) (n : Nat) : Ints w a (zs.take n) := by
  rcases h with rfl | ⟨b, off, e, h2⟩
  · left; simp
  · refine .inr ⟨b, off, e, fun i hi => ?_⟩
    rw [List.length_take] at hi
    rw [h2 i (by omega)]
    have : (zs.take n).getD i 0 = zs.getD i 0 := by
      simp only [List.getD]
      rw [List.getElem?_take_of_lt (by omega)]
    rw [this]
theorem take_run (a : Option Addr) (len n c : Nat) (h2 : n ≤ c) (W : World) : (Instr.slice 22 (.slice a len c) none (some (.int .i64 (n : Int))) none).run Tryd.prog W = .ok (.slice a n c) W := by
  obtain ⟨i0, hi⟩ : ∃ i, Tryd.prog.info? 3 = some i ∧ i.size = 1 := by
    have h : (Tryd.prog.info? 3).map (fun i => i.size) = some 1 := by kernel_rfl
    cases hi : Tryd.prog.info? 3 with
    | none => rw [hi] at h; cases h
    | some i => rw [hi] at h; simp only [Option.map_some, Option.some.injEq] at h; exact ⟨i, rfl, h⟩
  have e : Tryd.prog.elem 22 = 3 := by kernel_rfl
  have ht : Tryd.prog.underlying 22 = some (.slice (Tryd.prog.elem 22)) := by rw [e]; exact Tryd.underlying22
  rw [run_slice_h (w := W) (t := 22) (a := a) (len := len) (cap := c) (ht := ht) (kh := .i64) (h := (n : Int)) (by omega) (by omega)]
  cases a with
  | none => simp [e, sizeOf, typeInfo, hi.1, hi.2, sliced, Result.andThen]
  | some y => simp [e, sizeOf, typeInfo, hi.1, hi.2, sliced, Result.andThen, Addr.add]
abbrev whV (b : Bool) (a : Option Addr) (n c : Nat) : Value := .agg #[.bool b, .slice a n c]
abbrev whO (b : Bool) (a : Option Addr) (n c : Nat) : Obj := .cells #[.bool b, .slice a n c] 32
/-- A whole number lies there. -/
def WhAt (W : World) (b : Bool) (a : Option Addr) (n c : Nat) (z : Int) : Prop := ∃ l : List Int, l.length = n ∧ n ≤ c ∧ Ints W a l ∧ Nm b l ∧ z = wvN b l
theorem WhAt.grown {W W' : World} {b : Bool} {a : Option Addr} {n c : Nat} {z : Int} (h : WhAt W b a n c z) (g : W.grownBy W' none) : WhAt W' b a n c z := by
  obtain ⟨l, h1, h2, h3, h4, h5⟩ := h
  exact ⟨l, h1, h2, h3.grown g, h4, h5⟩
/-- It stays when another block is written. -/
theorem WhAt.far {W W' : World} {b : Bool} {a : Option Addr} {n c k : Nat} {z : Int} (h : WhAt W b a n c z) (g : W.grownBy W' (some k)) (hk : ∀ y, a = some y → y.block ≠ k) : WhAt W' b a n c z := by
  obtain ⟨l, h1, h2, h3, h4, h5⟩ := h
  exact ⟨l, h1, h2, intsN_far h3 (fun _ => hk) g, h4, h5⟩
structure Box2 (W : World) (k : Nat) (b : Bool) (a : Option Addr) (n c : Nat) : Prop where
  b0 : W.cell? ⟨k, 0, none⟩ = some (.bool b)
  b1 : W.cell? ⟨k, 1, none⟩ = some (.slice a n c)
theorem Box2.grown {W W' : World} {k : Nat} {b : Bool} {a : Option Addr} {n c : Nat} (h : Box2 W k b a n c) (g : W.grownBy W' none) : Box2 W' k b a n c := ⟨g.cell h.b0 (by simp), g.cell h.b1 (by simp)⟩
theorem box2_of {W : World} {k : Nat} {t : TypeId} {b : Bool} {a : Option Addr} {n c : Nat} (h : W.heap[k]? = some (.cells #[.bool b, .slice a n c] t (0, 0))) : Box2 W k b a n c ∧ ∀ i, W.frozen? ⟨k, i, none⟩ = false :=
  ⟨⟨by rw [cell_of_row _ _ _ _ _ (0, 0) h]; rfl, by rw [cell_of_row _ _ _ _ _ (0, 0) h]; rfl⟩, fun i => frozen_of_row _ _ _ _ _ h⟩
theorem box2_new (w : World) (b : Bool) (a : Option Addr) (n c : Nat) : ∃ W, W = w.alloc (whO b a n c) ∧ w.grownBy W none ∧ W.heap.size = w.heap.size + 1 ∧ Box2 W w.heap.size b a n c ∧ W.heap[w.heap.size]? = some (.cells #[.bool b, .slice a n c] 32 (0, 0)) :=
  ⟨_, rfl, grown_alloc _ _, by simp, (box2_of (heap_alloc_new w (whO b a n c))).1, heap_alloc_new w (whO b a n c)⟩
theorem two_store {W : World} {B : Nat} {t : TypeId} {u0 u1 : Value} (h : W.heap[B]? = some (.cells #[u0, u1] t (0, 0))) (v0 v1 : Value) :
    (W.cell? ⟨B, 0, none⟩ = some u0 ∧ W.cell? ⟨B, 1, none⟩ = some u1) ∧ (∀ i, W.frozen? ⟨B, i, none⟩ = false) ∧ ∃ W', W' = (W.setCell ⟨B, 0, none⟩ v0).setCell ⟨B, 1, none⟩ v1 ∧ W.grownBy W' (some B) ∧ W'.cell? ⟨B, 0, none⟩ = some v0 ∧ W'.cell? ⟨B, 1, none⟩ = some v1 ∧ W'.heap[B]? = some (.cells #[v0, v1] t (0, 0)) := by
  have hc : ∀ k v, #[u0, u1][k]? = some v → W.cell? ⟨B, k, none⟩ = some v := fun k v hv => by rw [cell_of_row _ _ k _ _ (0, 0) h]; exact hv
  have h1 := heap_setCell_same W B 0 _ _ v0 h
  have h2 := heap_setCell_same _ B 1 _ _ v1 h1
  refine ⟨⟨hc 0 _ rfl, hc 1 _ rfl⟩, fun i => frozen_of_row _ _ _ _ _ h, _, rfl, grown_trans (grown_set _ _ _) (grown_set _ _ _), ?_, ?_, ?_⟩
  · rw [cell_of_row _ _ _ _ _ (0, 0) h2]; simp
  · rw [cell_of_row _ _ _ _ _ (0, 0) h2]; simp
  · rw [h2]; simp
theorem Tryd.cellsWh : Tryd.prog.cellsOf 32 = 2 := by kernel_rfl

/-- What trim answers. -/
def TrimP (b : Bool) (l : List Int) (a : Option Addr) (c : Nat) (w : World) (e : Ending) (w' : World) : Prop := ∃ bb n, e = .returned (whV bb a n c) ∧ WhAt w' bb a n c (wvN b l) ∧ w.grownBy w' none ∧ n ≤ l.length

set_option maxHeartbeats 1600000 in
set_option maxRecDepth 100000 in
theorem trim_any (b : Bool) (l : List Int) (a : Option Addr) (c m : Nat) (w : World) (h : Ints w a l) (hw : WfN l) (hm : l.length = m) (hc : m ≤ c) (hl : m ≤ 100000) :
    Calls Tryd.prog 52 #[.bool b, .slice a m c] w (TrimP b l a c w) := by
  obtain ⟨W1, hW1, g1, s1, bx, hrb⟩ := box2_new w false none 0 0
  have HI : Hid (Ints W1 a l) := h.grown g1
  have HIo : Hid (∀ y, l ≠ [] → a = some y → y.block < w.heap.size) := fun y hn hy => intsN_lt h hn hy
  have HW : Hid (WfN l) := hw
  have HM : Hid (l.length = m) := hm
  have HRB : Hid (∀ W, W1.grownBy W none → W.heap[w.heap.size]? = some (.cells #[.bool false, .slice none 0 0] 32 (0, 0))) := fun W hW => (hW.block _ (by omega) (by simp)).trans hrb
  have HW1 : Hid (W1 = _) := hW1
  have G1 : Hid (w.grownBy W1 none) := g1
  obtain ⟨Po, hPo⟩ : ∃ P, P = TrimP b l a c w := ⟨_, rfl⟩
  have HPo : Hid (Po = TrimP b l a c w) := hPo
  rw [← hPo]
  clear h hw hm hW1 g1 s1 bx hrb hPo
  go_enter Tryd.func52, Tryd.ntmps52
  go_wp2_with fail
  rw [← HW1.out]
  go_loopw [5] (fun v W => ∃ n : Nat, v = .int .i64 (n : Int) ∧ n ≤ m ∧ (∀ j, n ≤ j → j < l.length → l.getD j 0 = 0) ∧ W1.grownBy W none) (fun v _ => (intOf v).toNat)
  case atStart => exact ⟨m, rfl, Nat.le_refl _, fun j h1 h2 => by have := HM.out; omega, grown_refl _ _⟩
  case round =>
    obtain ⟨n, rfl, hn, hz, hg⟩ := hrel
    have HZ : Hid (∀ j, n ≤ j → j < l.length → l.getD j 0 = 0) := hz
    have G : Hid (W1.grownBy wr none) := hg
    clear hz hg
    by_cases hlt : 0 < n ∧ l.getD (n - 1) 0 = 0
    · obtain ⟨k, rfl⟩ : ∃ k, n = k + 1 := ⟨n - 1, by omega⟩
      have hk0 : l.getD k 0 = 0 := hlt.2
      obtain ⟨bb, off, rfl, hcell⟩ := HI.out.at (k := k) (by rw [HM.out]; omega)
      have c1 := G.out.cell (hcell k (by rw [HM.out]; omega)) (by simp)
      rw [hk0] at c1
      have i1 : (k : Int) < (m : Int) := by omega
      have i0 : (0 : Int) < (k : Int) + 1 := by omega
      have HZ2 : Hid (∀ j, k ≤ j → j < l.length → l.getD j 0 = 0) := fun j h1 h2 => by
        by_cases e : j = k
        · subst e; exact hk0
        · exact HZ.out j (by omega) h2
      clear hcell hlt hk0
      go_wp2_with fail
      go_roundw
      case rel => exact ⟨k, by go_num, by omega, HZ2.out, G.out⟩
      case measure => first | (simp [intOf]; done) | (simp [intOf]; omega)
    · have ht : n = 0 ∨ l.getD (n - 1) 0 ≠ 0 := by
        rcases Nat.eq_zero_or_pos n with e | e
        · exact .inl e
        · exact .inr fun h => hlt ⟨e, h⟩
      obtain ⟨hNm, hv⟩ := nm_cut (b := b) HW.out (by rw [HM.out]; exact hn) HZ.out ht
      have hlen : (l.take n).length = n := by rw [List.length_take, HM.out]; omega
      obtain ⟨bb0, hbb⟩ : ∃ bb0, (b && decide (0 < n)) = bb0 := ⟨_, rfl⟩
      rw [hbb] at hNm hv
      obtain ⟨⟨p0, p1⟩, fz, W5, hW5, g5, y0, y1, _⟩ := two_store (HRB.out wr G.out) (.bool bb0) (.slice a n c)
      have hI5 : Ints W5 a (l.take n) := by
        have h1 : Ints wr a (l.take n) := intsN_take (HI.out.grown G.out) n
        refine intsN_far h1 (fun hn' y hy e => ?_) g5
        have := HIo.out y (by intro e2; subst e2; simp at hn') hy
        omega
      have F : Hid (Po (.returned (whV bb0 a n c)) W5) := by
        show Po _ _
        rw [HPo.out]
        exact ⟨_, n, rfl, ⟨l.take n, hlen, by omega, hI5, hNm, hv.symm⟩, grown_new (grown_trans G1.out G.out) g5 (by omega), by rw [HM.out]; exact hn⟩
      have HW5 : Hid (W5 = _) := hW5
      have f0 := fz 0
      have f1 := fz 1
      have inc : (n : Int) ≤ (c : Int) := by omega
      by_cases h0 : 0 < n
      · obtain ⟨k, rfl⟩ : ∃ k, n = k + 1 := ⟨n - 1, by omega⟩
        have hk0 : ¬ l.getD k 0 = 0 := by
          exact ht.resolve_left (by omega)
        obtain ⟨bb, off, rfl, hcell⟩ := HI.out.at (k := k) (by rw [HM.out]; omega)
        have c1 := G.out.cell (hcell k (by rw [HM.out]; omega)) (by simp)
        obtain ⟨u, hu⟩ : ∃ u, l.getD k 0 = u := ⟨_, rfl⟩
        rw [hu] at c1 hk0
        have d1 : (u == 0) = false := by simpa using hk0
        have i1 : (k : Int) < (m : Int) := by omega
        have i0 : (0 : Int) < (k : Int) + 1 := by omega
        have hS := take_run (some ⟨bb, off, none⟩) m (k + 1) c (by omega)
        clear hcell hlt ht hNm hv hlen hI5 hW5 g5 fz hu hk0
        cases b with
        | true =>
          have hb2 : bb0 = true := by rw [← hbb]; simp
          subst hb2
          clear hbb
          go_wp2_with fail
          rw [← HW5.out]
          exact bodyPost_ret (v := whV true (some ⟨bb, off, none⟩) (k + 1) c) (by simp [results, Tryd.results52, go_sem, y0, y1]) rfl F.out
        | false =>
          have hb2 : bb0 = false := by rw [← hbb]; simp
          subst hb2
          clear hbb
          go_wp2_with fail
          rw [← HW5.out]
          exact bodyPost_ret (v := whV false (some ⟨bb, off, none⟩) (k + 1) c) (by simp [results, Tryd.results52, go_sem, y0, y1]) rfl F.out
      · have e0 : n = 0 := by omega
        subst e0
        have hS := take_run a m 0 c (by omega)
        clear hlt ht hNm hv hlen hI5 hW5 g5 fz
        cases b with
        | true =>
          have hb2 : bb0 = false := by rw [← hbb]; simp
          subst hb2
          clear hbb
          go_wp2_with fail
          rw [← HW5.out]
          exact bodyPost_ret (v := whV false a 0 c) (by simp [results, Tryd.results52, go_sem, y0, y1]) rfl F.out
        | false =>
          have hb2 : bb0 = false := by rw [← hbb]; simp
          subst hb2
          clear hbb
          go_wp2_with fail
          rw [← HW5.out]
          exact bodyPost_ret (v := whV false a 0 c) (by simp [results, Tryd.results52, go_sem, y0, y1]) rfl F.out

end Go.Proofs.YtjinibofbpgfjaaDoor
