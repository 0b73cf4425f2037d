/- The shortest lasso of a word, as the program makes it. -/
import Derived.Test.YthccdfjmkdcehaaPiece
import Derived.Test.YthccdfjmkdcehaaRepeats
namespace Go.Proofs.Ythccdfjmkdcehaa
open Go.RowKit
set_option linter.unusedVariables false

theorem Own.ints {base : Nat} {w : World} {g m c : Nat} {zs : List Int} (h : Own base w (.slice (some ⟨g, 0, none⟩) m c) zs) : Ints w (some ⟨g, 0, none⟩) zs := by
  refine .inr ⟨g, 0, rfl, fun i hi => ?_⟩
  have hm : m = zs.length := by
    rcases h.2 with ⟨h', _⟩ | ⟨g', cap', cur, h', _⟩
    · simp at h'
    · simp at h'; exact h'.2.1
  subst hm
  rw [Nat.zero_add, World.ownsRow.cellAt h i (by omega)]
  rw [List.getElem?_map, List.getElem?_eq_getElem hi]
  simp [hi]

theorem Own.later {base : Nat} {w w' : World} {v : Value} {zs : List Int} (h : Own base w v zs) (hb : Below w.heap.size w w') : Own base w' v zs := own_later h hb

theorem Own.mono {base base' : Nat} {w : World} {v : Value} {zs : List Int} (h : Own base w v zs) (hb : base' ≤ base) : Own base' w v zs := by
  obtain ⟨h1, h2⟩ := h
  refine ⟨h1, ?_⟩
  rcases h2 with g2 | ⟨g, cap, cur, hv, hg, hr⟩
  · exact .inl g2
  · exact .inr ⟨g, cap, cur, hv, by omega, hr⟩

theorem cell_set_same {w : World} {a : Addr} {v u : Value} (h : w.cell? a = some u) : (w.setCell a v).cell? a = some v := World.cell?_setCell_same _ _ _ h
theorem cell_set_two {w : World} {b : Nat} {v v' u : Value} (h : w.cell? ⟨b, 1, none⟩ = some u) : ((w.setCell ⟨b, 0, none⟩ v).setCell ⟨b, 1, none⟩ v').cell? ⟨b, 1, none⟩ = some v' :=
  cell_set_same (u := u) (by rw [World.cell?_setCell_other _ _ _ _ (by simp)]; exact h)

theorem Own.setOther {base : Nat} {w : World} {g m c : Nat} {zs : List Int} (h : Own base w (.slice (some ⟨g, 0, none⟩) m c) zs) {b o : Nat} (hne : g ≠ b) (u : Value) : Own base (w.setCell ⟨b, o, none⟩ u) (.slice (some ⟨g, 0, none⟩) m c) zs :=
  ownsRow_setCell_other h (by simp [Value.ownBlock, hne]) u

theorem Own.lt {base : Nat} {w : World} {g m c : Nat} {zs : List Int} (h : Own base w (.slice (some ⟨g, 0, none⟩) m c) zs) : base ≤ g ∧ g < w.heap.size := World.ownsRow.lt h g rfl

theorem two_end {w w2 w3 w4 : World} {B g m c g' m' c' : Nat} {xs ys : List Int} {u u' : Value} (hB : Below B w w2) (hs : B + 1 < w2.heap.size) (hw : w.heap.size = B)
    (ho : Own w2.heap.size w3 (.slice (some ⟨g, 0, none⟩) m c) xs) (hb3 : Below w2.heap.size w2.drew w3) (ho' : Own w3.heap.size w4 (.slice (some ⟨g', 0, none⟩) m' c') ys) (hb4 : Below w3.heap.size w3 w4) :
    Own B ((w4.setCell ⟨B + 1, 0, none⟩ u).setCell ⟨B + 1, 1, none⟩ u') (.slice (some ⟨g, 0, none⟩) m c) xs ∧ Own B ((w4.setCell ⟨B + 1, 0, none⟩ u).setCell ⟨B + 1, 1, none⟩ u') (.slice (some ⟨g', 0, none⟩) m' c') ys ∧
      Below B w ((w4.setCell ⟨B + 1, 0, none⟩ u).setCell ⟨B + 1, 1, none⟩ u') := by
  have h3 := hb3.size
  simp at h3
  have l1 := ho.lt
  have l2 := ho'.lt
  refine ⟨(((ho.later hb4).mono (by omega)).setOther (by omega) u).setOther (by omega) u', ((ho'.mono (by omega)).setOther (by omega) u).setOther (by omega) u', ?_⟩
  exact (((hB.drew.trans (hb3.mono (by omega))).trans (hb4.mono (by omega))).setCell (by simp) u).setCell (by simp) u'

set_option maxHeartbeats 1000000 in
theorem shortest_any (a a' : Option Addr) (c c' : Nat) (h l : List Int) (w : World) (hh : Ints w a h) (hl : Ints w a' l) (hm : h.length ≤ 60) (hm' : l.length ≤ 60) (hl0 : 0 < l.length) :
    Calls Try.prog 27 #[.agg #[.slice a h.length c, .slice a' l.length c']] w fun e w' => ∃ p n g g' : Nat, e = .returned (.agg #[.slice (some ⟨g, 0, none⟩) n n, .slice (some ⟨g', 0, none⟩) p p]) ∧
      Per l p ∧ Rep h l p n ∧ Own w.heap.size w' (.slice (some ⟨g, 0, none⟩) n n) (pieceF h l 0 n) ∧ Own w.heap.size w' (.slice (some ⟨g', 0, none⟩) p p) (pieceF h l n p) ∧ Below w.heap.size w w' := by
  have HP : Hid (∀ W, Below w.heap.size w W → Calls Try.prog 32 #[.slice a' l.length c'] W fun e w' => ∃ p : Nat, e = .returned (.int .i64 p) ∧ Per l p ∧ ∃ n, w' = W.drewN n) := fun W hW => period_any a' c' l W (hl.later hW) hm' hl0
  have HR : Hid (∀ (W : World) (p : Nat), Below w.heap.size w W → p ≤ 60 → Calls Try.prog 33 #[.agg #[.slice a h.length c, .slice a' l.length c'], .int .i64 p] W fun e w' => ∃ n : Nat, e = .returned (.int .i64 n) ∧ Rep h l p n ∧ Below W.heap.size W w') := fun W p hW hp => repeats_any p a a' c c' h l W (hh.later hW) (hl.later hW) hm hm' hl0 hp
  have HC : Hid (∀ (W : World) (x : Int) (f n : Nat), Below w.heap.size w W → x = f → f ≤ 200 → n ≤ 200 → Calls Try.prog 34 #[.agg #[.slice a h.length c, .slice a' l.length c'], .int .i64 x, .int .i64 n] W fun e w' => ∃ g : Nat, e = .returned (.slice (some ⟨g, 0, none⟩) n n) ∧ Own W.heap.size w' (.slice (some ⟨g, 0, none⟩) n n) (pieceF h l f n) ∧ Below W.heap.size W w') :=
    fun W x f n hW hx hf hn => hx ▸ piece_any f n a a' c c' h l W (hh.later hW) (hl.later hW) hm hm' hl0 hf hn
  clear hh hl
  have hb0 : ∀ o o', Below w.heap.size w ((w.alloc o).alloc o') := fun o o' => ((Below.refl _ _).alloc (Nat.le_refl _) o).alloc (by simp) o'
  go_enter Try.func27, Try.ntmps27
  go_wp2_with fail
  refine (HP.out _ (hb0 _ _)).mono ?_
  rintro e w1 ⟨p, rfl, hp, m, rfl⟩
  have HPer : Hid (Per l p) := hp
  have hp60 : p ≤ 60 := by have := hp.le; omega
  clear hp
  go_wp2_with fail
  refine (HR.out _ _ (below_drewN (hb0 _ _) m) hp60).mono ?_
  rintro e w2 ⟨n, rfl, hr, hb2⟩
  have HRep : Hid (Rep h l p n) := hr
  have hn60 : n ≤ 60 := by have := hr.le; omega
  clear hr
  have c0 : w2.cell? ⟨w.heap.size, 0, none⟩ = some (.slice a h.length c) := by rw [hb2.cell (by simp; omega)]; simp
  have c1 : w2.cell? ⟨w.heap.size, 1, none⟩ = some (.slice a' l.length c') := by rw [hb2.cell (by simp; omega)]; simp
  have r0 : w2.cell? ⟨w.heap.size + 1, 0, none⟩ = some (.slice none 0 0) := by rw [hb2.cell (by simp)]; simp
  have r1 : w2.cell? ⟨w.heap.size + 1, 1, none⟩ = some (.slice none 0 0) := by rw [hb2.cell (by simp)]; simp
  have f0 : w2.frozen? ⟨w.heap.size + 1, 0, none⟩ = false := by rw [hb2.frozen (by simp)]; simp
  have f1 : w2.frozen? ⟨w.heap.size + 1, 1, none⟩ = false := by rw [hb2.frozen (by simp)]; simp
  have hs2 : w.heap.size + 1 < w2.heap.size := by have := hb2.size; simp at this; omega
  have HB2 : Hid (Below w.heap.size w w2) := (below_drewN (hb0 _ _) m).trans (hb2.mono (by simp; omega))
  clear hb2
  go_wp2
  go_region_with (first | (go_at_call_of 34 (Value.int IntKind.i64 (p : Int)); (refine (HC.out _ _ n p (HB2.out.drew.trans (hb3.mono (by simp; omega))) rfl (by omega) (by omega)).mono ?_; rintro e w4 ⟨g', rfl, ho', hb4⟩; have c04 : w4.cell? ⟨w.heap.size, 0, none⟩ = some (.slice a h.length c) := cell_later hb4 c03; have c14 : w4.cell? ⟨w.heap.size, 1, none⟩ = some (.slice a' l.length c') := cell_later hb4 c13; have r04 : w4.cell? ⟨w.heap.size + 1, 0, none⟩ = some (.slice none 0 0) := cell_later hb4 r03; have r14 : w4.cell? ⟨w.heap.size + 1, 1, none⟩ = some (.slice none 0 0) := cell_later hb4 r13; have f04 : w4.frozen? ⟨w.heap.size + 1, 0, none⟩ = false := (hb4.frozen (by simpa using hs3)).trans f03; have f14 : w4.frozen? ⟨w.heap.size + 1, 1, none⟩ = false := (hb4.frozen (by simpa using hs3)).trans f13)) | (go_at_call_of 34 (Value.int IntKind.i64 0); (refine (HC.out _ _ 0 n HB2.out.drew rfl (by omega) (by omega)).mono ?_; rintro e w3 ⟨g, rfl, ho, hb3⟩; have c03 : w3.cell? ⟨w.heap.size, 0, none⟩ = some (.slice a h.length c) := cell_later hb3 c0; have c13 : w3.cell? ⟨w.heap.size, 1, none⟩ = some (.slice a' l.length c') := cell_later hb3 c1; have r03 : w3.cell? ⟨w.heap.size + 1, 0, none⟩ = some (.slice none 0 0) := cell_later hb3 r0; have r13 : w3.cell? ⟨w.heap.size + 1, 1, none⟩ = some (.slice none 0 0) := cell_later hb3 r1; have f03 : w3.frozen? ⟨w.heap.size + 1, 0, none⟩ = false := (hb3.frozen (by simpa using hs2)).trans f0; have f13 : w3.frozen? ⟨w.heap.size + 1, 1, none⟩ = false := (hb3.frozen (by simpa using hs2)).trans f1; have hs3 : w.heap.size + 1 < w3.heap.size := Nat.lt_of_lt_of_le hs2 (by simpa using hb3.size))))
  all_goals
    go_wp2
    have fin := two_end (u := .slice (some ⟨g, 0, none⟩) n n) (u' := .slice (some ⟨g', 0, none⟩) p p) HB2.out hs2 rfl ho hb3 ho' hb4
    have q0 : (w4.setCell ⟨w.heap.size + 1, 0, none⟩ (.slice (some ⟨g, 0, none⟩) n n)).cell? ⟨w.heap.size + 1, 0, none⟩ = some (.slice (some ⟨g, 0, none⟩) n n) := cell_set_same r04
    have q1 : ((w4.setCell ⟨w.heap.size + 1, 0, none⟩ (.slice (some ⟨g, 0, none⟩) n n)).setCell ⟨w.heap.size + 1, 1, none⟩ (.slice (some ⟨g', 0, none⟩) p p)).cell? ⟨w.heap.size + 1, 1, none⟩ = some (.slice (some ⟨g', 0, none⟩) p p) := cell_set_two r14
    exact bodyPost_ret (v := .agg #[.slice (some ⟨g, 0, none⟩) n n, .slice (some ⟨g', 0, none⟩) p p]) (by simp [results, Try.results27, go_sem, q0, q1]) rfl ⟨p, n, g, g', rfl, HPer.out, HRep.out, fin.1, fin.2.1, fin.2.2⟩

end Go.Proofs.Ythccdfjmkdcehaa
