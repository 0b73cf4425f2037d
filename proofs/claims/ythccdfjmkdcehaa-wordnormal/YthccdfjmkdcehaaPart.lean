/- A part of a lasso's word as a lasso, as the reference makes it by appending letter by letter. -/
import Derived.Test.YthccdfjmkdcehaaSpoil
import Derived.Maps.AppendAt
import Derived.Deep.AppendLies
namespace Go.Proofs.Ythccdfjmkdcehaa
open Go.RowKit
set_option linter.unusedVariables false

def Apart (v u : Value) : Prop := v.ownBlock = none ∨ u.ownBlock = none ∨ v.ownBlock ≠ u.ownBlock
theorem Apart.symm {v u : Value} (h : Apart v u) : Apart u v := by
  rcases h with h | h | h
  · exact .inr (.inl h)
  · exact .inl h
  · exact .inr (.inr (Ne.symm h))

theorem part_step {W w1 : World} {base n n' : Nat} {v v' u : Value} {xs xs' ys : List Value} (hu : W.ownsRow base 3 1 u n' ys) (hne : Apart v u) (hg : W.grownBy w1 v.ownBlock) (hat : v'.ownBlock = v.ownBlock ∨ v'.ownBlock = some W.heap.size) :
    w1.ownsRow base 3 1 u n' ys ∧ Apart v' u := by
  refine ⟨hu.kept hg ?_, ?_⟩
  · rcases hne with h | h | h
    · by_cases h0 : u.ownBlock = none
      · exact .inl h0
      · exact .inr (by rw [h]; exact h0)
    · exact .inl h
    · exact .inr (Ne.symm h)
  · rcases hat with h | h
    · unfold Apart; rw [h]; exact hne
    · by_cases h0 : u.ownBlock = none
      · exact .inr (.inl h0)
      · refine .inr (.inr fun e => ?_)
        have := hu.lt W.heap.size (by rw [← e, h])
        omega

theorem block_kept {W w1 : World} {base n b : Nat} {v : Value} {xs : List Value} {o : Obj} (hv : W.ownsRow base 3 1 v n xs) (hg : W.grownBy w1 v.ownBlock) (hb : b < base) (ho : W.heap[b]? = some o) : w1.heap[b]? = some o :=
  (hg.block b (Array.getElem?_eq_some_iff.1 ho).1 (fun e => by have := (hv.lt b e.symm).1; omega)).trans ho

theorem pieceF_snoc (h l : List Int) (f k : Nat) : (pieceF h l f k).map (Value.int .i64) ++ [Value.int .i64 (letF h l (f + k))] = (pieceF h l f (k + 1)).map (Value.int .i64) := by
  simp [pieceF, List.range_succ]

theorem two_set0 {w : World} {b : Nat} {u0 u1 v : Value} (h : w.heap[b]? = some (.cells #[u0, u1] 30 (0, 0))) : (w.setCell ⟨b, 0, none⟩ v).heap[b]? = some (.cells #[v, u1] 30 (0, 0)) := by
  rw [heap_setCell_same w b 0 _ 30 v h]; rfl
theorem two_set1 {w : World} {b : Nat} {u0 u1 v : Value} (h : w.heap[b]? = some (.cells #[u0, u1] 30 (0, 0))) : (w.setCell ⟨b, 1, none⟩ v).heap[b]? = some (.cells #[u0, v] 30 (0, 0)) := by
  rw [heap_setCell_same w b 1 _ 30 v h]; rfl
theorem two_cells {w : World} {b : Nat} {u0 u1 : Value} (h : w.heap[b]? = some (.cells #[u0, u1] 30 (0, 0))) :
    w.cell? ⟨b, 0, none⟩ = some u0 ∧ w.cell? ⟨b, 1, none⟩ = some u1 ∧ w.frozen? ⟨b, 0, none⟩ = false ∧ w.frozen? ⟨b, 1, none⟩ = false :=
  ⟨by rw [cell_of_row w b 0 _ 30 (0, 0) h]; rfl, by rw [cell_of_row w b 1 _ 30 (0, 0) h]; rfl, frozen_of_row w b 0 _ 30 h, frozen_of_row w b 1 _ 30 h⟩

/-- What holds at each round's head: k letters have been laid into the head and then into the loop. -/
structure PartRel (h l : List Int) (f hd B : Nat) (W0 wr : World) (k : Nat) (v0 v1 : Value) : Prop where
  blk : wr.heap[B + 2]? = some (.cells #[v0, v1] 30 (0, 0))
  own0 : wr.ownsRow (B + 3) 3 1 v0 (min k hd) ((pieceF h l f (min k hd)).map (Value.int .i64))
  own1 : wr.ownsRow (B + 3) 3 1 v1 (k - hd) ((pieceF h l (f + hd) (k - hd)).map (Value.int .i64))
  apart : Apart v0 v1
  bel : Below (B + 2) W0 wr

theorem PartRel.later {h l : List Int} {f hd B : Nat} {W0 wr w2 : World} {k : Nat} {v0 v1 : Value} (r : PartRel h l f hd B W0 wr k v0 v1) (hb : Below wr.heap.size wr w2) : PartRel h l f hd B W0 w2 k v0 v1 := by
  have hlt : B + 2 < wr.heap.size := (Array.getElem?_eq_some_iff.1 r.blk).1
  exact ⟨(hb.block _ hlt).trans r.blk, own_later r.own0 hb, own_later r.own1 hb, r.apart, r.bel.trans (hb.mono (by omega))⟩

/-- A letter into the head. -/
theorem PartRel.head {h l : List Int} {f hd B : Nat} {W0 W w3 : World} {k : Nat} {v0 v1 v' : Value} (r : PartRel h l f hd B W0 W k v0 v1) (hk : k < hd)
    (ho : w3.ownsRow (B + 3) 3 1 v' (k + 1) ((pieceF h l f k).map (Value.int .i64) ++ [Value.int .i64 (letF h l (f + k))])) (hg : W.grownBy w3 v0.ownBlock) (hat : v'.ownBlock = v0.ownBlock ∨ v'.ownBlock = some W.heap.size) :
    w3.heap[B + 2]? = some (.cells #[v0, v1] 30 (0, 0)) ∧ PartRel h l f hd B W0 (w3.setCell ⟨B + 2, 0, none⟩ v') (k + 1) v' v1 := by
  have hlt : B + 2 < W.heap.size := (Array.getElem?_eq_some_iff.1 r.blk).1
  have hbk := block_kept r.own0 hg (by omega) r.blk
  have st := part_step (xs := []) (xs' := []) (n := 0) r.own1 r.apart hg hat
  refine ⟨hbk, two_set0 hbk, ?_, ?_, st.2, ?_⟩
  · rw [pieceF_snoc] at ho
    rw [show min (k + 1) hd = k + 1 by omega]
    exact ownsRow_setCell_below ho (by simp) _
  · have := ownsRow_setCell_below (a := ⟨B + 2, 0, none⟩) st.1 (by simp) v'
    rw [show k + 1 - hd = k - hd by omega]
    exact this
  · exact (r.bel.grown hg (by omega) (fun j hj => by have := (r.own0.lt j hj).1; omega)).setCell (by simp) _

/-- A letter into the loop. -/
theorem PartRel.loop {h l : List Int} {f hd B : Nat} {W0 W w3 : World} {k : Nat} {v0 v1 v' : Value} (r : PartRel h l f hd B W0 W k v0 v1) (hk : hd ≤ k)
    (ho : w3.ownsRow (B + 3) 3 1 v' (k - hd + 1) ((pieceF h l (f + hd) (k - hd)).map (Value.int .i64) ++ [Value.int .i64 (letF h l (f + k))])) (hg : W.grownBy w3 v1.ownBlock) (hat : v'.ownBlock = v1.ownBlock ∨ v'.ownBlock = some W.heap.size) :
    w3.heap[B + 2]? = some (.cells #[v0, v1] 30 (0, 0)) ∧ PartRel h l f hd B W0 (w3.setCell ⟨B + 2, 1, none⟩ v') (k + 1) v0 v' := by
  have hlt : B + 2 < W.heap.size := (Array.getElem?_eq_some_iff.1 r.blk).1
  have hbk := block_kept r.own1 hg (by omega) r.blk
  have st := part_step (xs := []) (xs' := []) (n := 0) r.own0 r.apart.symm hg hat
  refine ⟨hbk, two_set1 hbk, ?_, ?_, st.2.symm, ?_⟩
  · have := ownsRow_setCell_below (a := ⟨B + 2, 1, none⟩) st.1 (by simp) v'
    rw [show min (k + 1) hd = min k hd by omega]
    exact this
  · rw [show letF h l (f + k) = letF h l (f + hd + (k - hd)) by rw [show f + hd + (k - hd) = f + k by omega], pieceF_snoc] at ho
    rw [show k + 1 - hd = k - hd + 1 by omega]
    exact ownsRow_setCell_below ho (by simp) _
  · exact (r.bel.grown hg (by omega) (fun j hj => by have := (r.own1.lt j hj).1; omega)).setCell (by simp) _

set_option maxHeartbeats 2000000 in
theorem part_any (f hd lp : Nat) (a a' : Option Addr) (c c' : Nat) (h l : List Int) (w : World) (hh : Ints w a h) (hl : Ints w a' l) (hm : h.length ≤ 60) (hm' : l.length ≤ 60) (hl0 : 0 < l.length) (hf : f ≤ 200) (hhd : hd ≤ 60) (hlp : lp ≤ 60) :
    Calls Try.prog 31 #[.agg #[.slice a h.length c, .slice a' l.length c'], .int .i64 f, .int .i64 hd, .int .i64 lp] w fun e w' => ∃ v0 v1, e = .returned (.agg #[v0, v1]) ∧ Own w.heap.size w' v0 (pieceF h l f hd) ∧ Own w.heap.size w' v1 (pieceF h l (f + hd) lp) ∧ Below w.heap.size w w' := by
  have HC : Hid (∀ (W : World) (x : Int) (n : Nat), Below w.heap.size w W → x = n → n ≤ 400 → Calls Try.prog 14 #[.agg #[.slice a h.length c, .slice a' l.length c'], .int .i64 x] W fun e w' => e = .returned (.int .i64 (letF h l n)) ∧ Below W.heap.size W w') :=
    fun W x n hW hx hn => hx ▸ at_any n a a' c c' h l W (hh.later hW) (hl.later hW) hm hm' (by omega) hl0
  clear hh hl
  obtain ⟨i0, hi, hz0, hz1, hz2⟩ := info_parts Try.info3
  have HW0 : Hid (PartRel h l f hd w.heap.size (((w.alloc (.cells #[.slice a h.length c, .slice a' l.length c'] 30)).alloc (.cells #[.slice none 0 0, .slice none 0 0] 30)).alloc (.cells #[.slice none 0 0, .slice none 0 0] 30)) (((w.alloc (.cells #[.slice a h.length c, .slice a' l.length c'] 30)).alloc (.cells #[.slice none 0 0, .slice none 0 0] 30)).alloc (.cells #[.slice none 0 0, .slice none 0 0] 30)) 0 (.slice none 0 0) (.slice none 0 0)) := by
    refine ⟨?_, ?_, ?_, .inl rfl, Below.refl _ _⟩
    · have := heap_alloc_new ((w.alloc (.cells #[.slice a h.length c, .slice a' l.length c'] 30)).alloc (.cells #[.slice none 0 0, .slice none 0 0] 30)) (.cells #[.slice none 0 0, .slice none 0 0] 30)
      simpa using this
    · have := World.ownsRow_nil (((w.alloc (.cells #[.slice a h.length c, .slice a' l.length c'] 30)).alloc (.cells #[.slice none 0 0, .slice none 0 0] 30)).alloc (.cells #[.slice none 0 0, .slice none 0 0] 30)) (w.heap.size + 3) 3 1
      simpa [pieceF] using this
    · have := World.ownsRow_nil (((w.alloc (.cells #[.slice a h.length c, .slice a' l.length c'] 30)).alloc (.cells #[.slice none 0 0, .slice none 0 0] 30)).alloc (.cells #[.slice none 0 0, .slice none 0 0] 30)) (w.heap.size + 3) 3 1
      simpa [pieceF] using this
  have hbW : Hid (Below w.heap.size w (((w.alloc (.cells #[.slice a h.length c, .slice a' l.length c'] 30)).alloc (.cells #[.slice none 0 0, .slice none 0 0] 30)).alloc (.cells #[.slice none 0 0, .slice none 0 0] 30))) := (((Below.refl _ _).alloc (Nat.le_refl _) _).alloc (by simp) _).alloc (by simp; omega) _
  go_enter Try.func31, Try.ntmps31
  go_wp2
  go_loopw [10] (fun i wr => ∃ (k : Nat) (a0 : Option Addr) (n0 d0 : Nat) (a1 : Option Addr) (n1 d1 : Nat), k ≤ hd + lp ∧ i = .int .i64 k ∧ PartRel h l f hd w.heap.size (((w.alloc (.cells #[.slice a h.length c, .slice a' l.length c'] 30)).alloc (.cells #[.slice none 0 0, .slice none 0 0] 30)).alloc (.cells #[.slice none 0 0, .slice none 0 0] 30)) wr k (.slice a0 n0 d0) (.slice a1 n1 d1)) (fun i _ => hd + lp - (intOf i).toNat)
  case atStart => exact ⟨0, none, 0, 0, none, 0, 0, by omega, rfl, HW0.out⟩
  case round =>
    obtain ⟨k, a0, n0, d0, a1, n1, d1, hk, rfl, hr⟩ := hrel
    have HB : Hid (Below w.heap.size w wr) := hbW.out.trans (hr.bel.mono (by omega))
    have c0 : wr.cell? ⟨w.heap.size, 0, none⟩ = some (.slice a h.length c) := by rw [hr.bel.cell (by simp)]; go_simp
    have c1 : wr.cell? ⟨w.heap.size, 1, none⟩ = some (.slice a' l.length c') := by rw [hr.bel.cell (by simp)]; go_simp
    have hlt : w.heap.size + 2 < wr.heap.size := (Array.getElem?_eq_some_iff.1 hr.blk).1
    have HR : Hid (PartRel h l f hd w.heap.size (((w.alloc (.cells #[.slice a h.length c, .slice a' l.length c'] 30)).alloc (.cells #[.slice none 0 0, .slice none 0 0] 30)).alloc (.cells #[.slice none 0 0, .slice none 0 0] 30)) wr k (.slice a0 n0 d0) (.slice a1 n1 d1)) := hr
    by_cases hkn : k < hd + lp
    · clear hr
      go_wp2_with fail
      refine (HC.out _ _ (f + k) HB.out (by omega) (by omega)).mono ?_
      rintro e w2 ⟨rfl, hb2⟩
      have r2 := HR.out.later hb2
      have z0 : w2.cell? ⟨w.heap.size + 1 + 1, 0, none⟩ = some (.slice a0 n0 d0) := (two_cells r2.blk).1
      have z1 : w2.cell? ⟨w.heap.size + 1 + 1, 1, none⟩ = some (.slice a1 n1 d1) := (two_cells r2.blk).2.1
      have hs2 : w.heap.size + 2 < w2.heap.size := Nat.lt_of_lt_of_le hlt hb2.size
      have HR2 : Hid (PartRel h l f hd w.heap.size (((w.alloc (.cells #[.slice a h.length c, .slice a' l.length c'] 30)).alloc (.cells #[.slice none 0 0, .slice none 0 0] 30)).alloc (.cells #[.slice none 0 0, .slice none 0 0] 30)) w2 k (.slice a0 n0 d0) (.slice a1 n1 d1)) := r2
      have HR3 : Hid (∀ o, PartRel h l f hd w.heap.size (((w.alloc (.cells #[.slice a h.length c, .slice a' l.length c'] 30)).alloc (.cells #[.slice none 0 0, .slice none 0 0] 30)).alloc (.cells #[.slice none 0 0, .slice none 0 0] 30)) (w2.alloc o) k (.slice a0 n0 d0) (.slice a1 n1 d1)) := fun o => r2.later ((Below.refl _ _).alloc (Nat.le_refl _) o)
      clear hb2 r2
      by_cases hkh : k < hd
      · have ho0 : Hid (∀ o, (w2.alloc o).ownsRow (w.heap.size + 3) 3 1 (.slice a0 n0 d0) k ((pieceF h l f k).map (Value.int .i64))) := by
          intro o
          have := (HR3.out o).own0
          rwa [show min k hd = k by omega] at this
        go_wp2_with (first | (at_builtin; refine wpList_append_lies _ rfl (.tmp 28) (.tmp 30) 26 rfl (w.heap.size + 3) 3 i0 (.int .i64 0) 1 8 Try.underlying26 hi hz0 hz1 hz2 rfl (by decide) (.slice a0 n0 d0) k _ rfl (ho0.out _) ⟨w2.heap.size, 0, none⟩ 1 1 [.int .i64 (letF h l (f + k))] rfl rfl (cell_one_new _ _ _) (by intro u hu; simp at hu; subst hu; rfl) (by omega) (by unfold maxLen; omega) (by omega) (by simp; omega) (w2.heap.size + 1) (by simp) ?_; intro g cap w3 ho3 hg3 hat3 _; have st3 := (HR3.out _).head hkh ho3 hg3 (hat3.elim (fun e => .inl e.symm) (fun e => .inr (by rw [e]; simp [Value.ownBlock]))); have z03 : w3.cell? ⟨w.heap.size + 1 + 1, 0, none⟩ = some (.slice a0 n0 d0) := (two_cells st3.1).1; have y03 : w3.frozen? ⟨w.heap.size + 1 + 1, 0, none⟩ = false := (two_cells st3.1).2.2.1; have HS3 : Hid (PartRel h l f hd w.heap.size (((w.alloc (.cells #[.slice a h.length c, .slice a' l.length c'] 30)).alloc (.cells #[.slice none 0 0, .slice none 0 0] 30)).alloc (.cells #[.slice none 0 0, .slice none 0 0] 30)) (w3.setCell ⟨w.heap.size + 1 + 1, 0, none⟩ (.slice (some ⟨g, 0, none⟩) (k + 1) cap)) (k + 1) (.slice (some ⟨g, 0, none⟩) (k + 1) cap) (.slice a1 n1 d1)) := st3.2; clear ho3 hg3 hat3 st3))
        go_roundw
        case rel => exact ⟨k + 1, _, _, _, _, _, _, by omega, by go_num, HS3.out⟩
        case measure => simp [intOf]; omega
      · have ho1 : Hid (∀ o, (w2.alloc o).ownsRow (w.heap.size + 3) 3 1 (.slice a1 n1 d1) (k - hd) ((pieceF h l (f + hd) (k - hd)).map (Value.int .i64))) := fun o => (HR3.out o).own1
        go_wp2_with (first | (at_builtin; refine wpList_append_lies _ rfl (.tmp 34) (.tmp 36) 26 rfl (w.heap.size + 3) 3 i0 (.int .i64 0) 1 8 Try.underlying26 hi hz0 hz1 hz2 rfl (by decide) (.slice a1 n1 d1) (k - hd) _ rfl (ho1.out _) ⟨w2.heap.size, 0, none⟩ 1 1 [.int .i64 (letF h l (f + k))] rfl rfl (cell_one_new _ _ _) (by intro u hu; simp at hu; subst hu; rfl) (by omega) (by unfold maxLen; omega) (by omega) (by simp; omega) (w2.heap.size + 1) (by simp) ?_; intro g cap w3 ho3 hg3 hat3 _; have st3 := (HR3.out _).loop (by omega) ho3 hg3 (hat3.elim (fun e => .inl e.symm) (fun e => .inr (by rw [e]; simp [Value.ownBlock]))); have z13 : w3.cell? ⟨w.heap.size + 1 + 1, 1, none⟩ = some (.slice a1 n1 d1) := (two_cells st3.1).2.1; have y13 : w3.frozen? ⟨w.heap.size + 1 + 1, 1, none⟩ = false := (two_cells st3.1).2.2.2; have HS3 : Hid (PartRel h l f hd w.heap.size (((w.alloc (.cells #[.slice a h.length c, .slice a' l.length c'] 30)).alloc (.cells #[.slice none 0 0, .slice none 0 0] 30)).alloc (.cells #[.slice none 0 0, .slice none 0 0] 30)) (w3.setCell ⟨w.heap.size + 1 + 1, 1, none⟩ (.slice (some ⟨g, 0, none⟩) (k - hd + 1) cap)) (k + 1) (.slice a0 n0 d0) (.slice (some ⟨g, 0, none⟩) (k - hd + 1) cap)) := st3.2; clear ho3 hg3 hat3 st3))
        go_roundw
        case rel => exact ⟨k + 1, _, _, _, _, _, _, by omega, by go_num, HS3.out⟩
        case measure => simp [intOf]; omega
    · have z0 : wr.cell? ⟨w.heap.size + 1 + 1, 0, none⟩ = some (.slice a0 n0 d0) := (two_cells hr.blk).1
      have z1 : wr.cell? ⟨w.heap.size + 1 + 1, 1, none⟩ = some (.slice a1 n1 d1) := (two_cells hr.blk).2.1
      have r0 : wr.cell? ⟨w.heap.size + 1, 0, none⟩ = some (.slice none 0 0) := by rw [hr.bel.cell (by simp)]; go_simp
      have r1 : wr.cell? ⟨w.heap.size + 1, 1, none⟩ = some (.slice none 0 0) := by rw [hr.bel.cell (by simp)]; go_simp
      have f0 : wr.frozen? ⟨w.heap.size + 1, 0, none⟩ = false := by rw [hr.bel.frozen (by simp)]; go_simp
      have f1 : wr.frozen? ⟨w.heap.size + 1, 1, none⟩ = false := by rw [hr.bel.frozen (by simp)]; go_simp
      have hkk : k = hd + lp := by omega
      have HE : Hid (Own w.heap.size ((wr.setCell ⟨w.heap.size + 1, 0, none⟩ (.slice a0 n0 d0)).setCell ⟨w.heap.size + 1, 1, none⟩ (.slice a1 n1 d1)) (.slice a0 n0 d0) (pieceF h l f hd) ∧ Own w.heap.size ((wr.setCell ⟨w.heap.size + 1, 0, none⟩ (.slice a0 n0 d0)).setCell ⟨w.heap.size + 1, 1, none⟩ (.slice a1 n1 d1)) (.slice a1 n1 d1) (pieceF h l (f + hd) lp) ∧ Below w.heap.size w ((wr.setCell ⟨w.heap.size + 1, 0, none⟩ (.slice a0 n0 d0)).setCell ⟨w.heap.size + 1, 1, none⟩ (.slice a1 n1 d1))) := by
        subst hkk
        have o0 := hr.own0
        have o1 := hr.own1
        rw [show min (hd + lp) hd = hd by omega] at o0
        rw [show hd + lp - hd = lp by omega] at o1
        refine ⟨?_, ?_, (HB.out.setCell (by simp) _).setCell (by simp) _⟩
        · have := ownsRow_setCell_below (a := ⟨w.heap.size + 1, 1, none⟩) (ownsRow_setCell_below (a := ⟨w.heap.size + 1, 0, none⟩) o0 (by simp) (.slice a0 n0 d0)) (by simp) (.slice a1 n1 d1)
          refine Own.mono (base := w.heap.size + 3) ?_ (by omega)
          unfold Own
          rw [length_pieceF]
          exact this
        · have := ownsRow_setCell_below (a := ⟨w.heap.size + 1, 1, none⟩) (ownsRow_setCell_below (a := ⟨w.heap.size + 1, 0, none⟩) o1 (by simp) (.slice a0 n0 d0)) (by simp) (.slice a1 n1 d1)
          refine Own.mono (base := w.heap.size + 3) ?_ (by omega)
          unfold Own
          rw [length_pieceF]
          exact this
      clear hr HR hkk
      go_wp2
      have q0 : (wr.setCell ⟨w.heap.size + 1, 0, none⟩ (.slice a0 n0 d0)).cell? ⟨w.heap.size + 1, 0, none⟩ = some (.slice a0 n0 d0) := cell_set_same r0
      have q1 : ((wr.setCell ⟨w.heap.size + 1, 0, none⟩ (.slice a0 n0 d0)).setCell ⟨w.heap.size + 1, 1, none⟩ (.slice a1 n1 d1)).cell? ⟨w.heap.size + 1, 1, none⟩ = some (.slice a1 n1 d1) := cell_set_two r1
      exact bodyPost_ret (v := .agg #[.slice a0 n0 d0, .slice a1 n1 d1]) (by simp [results, Try.results31, go_sem, q0, q1]) rfl ⟨_, _, rfl, HE.out.1, HE.out.2.1, HE.out.2.2⟩

end Go.Proofs.Ythccdfjmkdcehaa
