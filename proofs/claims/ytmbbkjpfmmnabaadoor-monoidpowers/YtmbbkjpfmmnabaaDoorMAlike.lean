/- monoid.Alike. -/
import Derived.Test.YtmbbkjpfmmnabaaDoorMDn
import Derived.Test.YtmbbkjpfmmnabaaDoorMWd
import Derived.Test.YtmbbkjpfmmnabaaDoorADefs
import Derived.Test.YtmbbkjpfmmnabaaDoorAApart
import Derived.Test.YtmbbkjpfmmnabaaDoorMSks
namespace Go.Proofs.YtmbbkjpfmmnabaaDoor
open Go.RowKit
set_option linter.unusedVariables false
set_option linter.unusedSimpArgs false

/-- What Alike answers of two words that an automaton may read. -/
def AlikePost (κ : List Nat → Nat) (T : Nat → Nat → List Nat → Bool) (l cu cv : Nat) (w : World) (E : Ending) (w' : World) : Prop :=
  w.grownBy w' none ∧ ((cu = cv ∧ E = .returned (.tuple #[.slice none 0 0, .slice none 0 0, .bool true, .int .i64 0])) ∨
    (cu ≠ cv ∧ ∃ (us zs : List Nat) (is : Bool) (az ab : Option Addr) (cz cb : Nat), (∀ x, x ∈ us → x < l) ∧ dg cu (dg (κ us) 0) ≠ dg cv (dg (κ us) 0) ∧ FirstOf (T (dg cu (dg (κ us) 0)) (dg cv (dg (κ us) 0))) l zs is ∧ us.length ≤ 100000000 ∧ zs.length ≤ 100000000 ∧
      E = .returned (.tuple #[.slice az us.length cz, .slice ab zs.length cb, .bool false, .int .i64 0]) ∧ Ints w' az (natInts us) ∧ Ints w' ab (natInts zs)))

set_option maxHeartbeats 3200000 in
set_option maxRecDepth 100000 in
theorem alike_ok (L S : Int) (l : Nat) (a a' b b' : Option Addr) (n m c c' d d' : Nat) (us vs : List Nat) (w : World) (δ : Nat → Nat → Nat) (mk : Nat → Bool) (nn s0 : Nat) (RL : List (List Int)) (ML : List Int) (hG : Good ⟨l, 0, RL, ML⟩) (h5 : RL.length ≤ 5) (hU : ∀ R M, LeastOf δ mk nn l s0 R M → R = RL ∧ M = ML)
    (hus : ∀ x, x ∈ us → x < l) (hvs : ∀ x, x ∈ vs → x < l) (hiu : Ints w b (natInts us)) (hiv : Ints w b' (natInts vs)) (hlu : us.length ≤ 100000000) (hlv : vs.length ≤ 100000000)
    (HL : Hid (∀ W, w.grownBy W none → Calls Tryd.prog 41 #[detV L S a n c a' m c'] W (LeastGPost δ mk nn l s0 W)))
    (hR : ∀ s, s < RL.length → ∃ z : List Nat, (∀ b, b ∈ z → b < l) ∧ z.foldl (Dfa.nx ⟨l, 0, RL, ML⟩) 0 = s)
    (HM : Hid (∀ W, w.grownBy W none → Calls Tryd.prog 45 #[.int .i64 L, .slice b us.length d, .slice b' vs.length d'] W (Says (.int .i64 0) W))) :
    Calls Tryd.prog 20 #[detV L S a n c a' m c', .slice b us.length d, .slice b' vs.length d'] w (AlikePost (deed (Dfa.nx ⟨l, 0, RL, ML⟩) RL.length) (tellT (Dfa.nx ⟨l, 0, RL, ML⟩) (Dfa.mk1 ⟨l, 0, RL, ML⟩)) l (deed (Dfa.nx ⟨l, 0, RL, ML⟩) RL.length us) (deed (Dfa.nx ⟨l, 0, RL, ML⟩) RL.length vs) w) := by
  have hmf : ∀ (fn : Fn) (first cap : Array Value) (w : World), (Instr.makeFunc fn first cap).run Tryd.prog w = .ok (.func fn first cap) w := fun _ _ _ _ => rfl
  have HU : Hid (∀ R M, LeastOf δ mk nn l s0 R M → R = RL ∧ M = ML) := hU
  have GD : Hid (Good ⟨l, 0, RL, ML⟩) := hG
  obtain ⟨W1, hW1, g1, s1, bx1⟩ := box_new w (.int .i64 L) (.int .i64 S) (.slice a n c) (.slice a' m c') 25
  have HW1 : Hid (W1 = _) := hW1
  have G1 : Hid (w.grownBy W1 none) := g1
  have HS1 : Hid (W1.heap.size = w.heap.size + 1) := s1
  have BX1 : Hid (∀ W', W1.grownBy W' none → W'.cell? ⟨w.heap.size, 0, none⟩ = some (.int .i64 L) ∧ W'.cell? ⟨w.heap.size, 1, none⟩ = some (.int .i64 S) ∧ W'.cell? ⟨w.heap.size, 2, none⟩ = some (.slice a n c) ∧ W'.cell? ⟨w.heap.size, 3, none⟩ = some (.slice a' m c')) := bx1
  have HD : Hid (∀ W aL aN cL cN (xs : List Nat) (aw : Option Addr) (cw : Nat), w.grownBy W none → DetAt W ⟨l, 0, RL, ML⟩ aL aN → (∀ x, x ∈ xs → x < l) → Ints w aw (natInts xs) → xs.length ≤ 100000000 → Calls Tryd.prog 46 #[detV l 0 aL RL.length cL aN RL.length cN, .slice aw xs.length cw] W (Says (rowV (deed (Dfa.nx ⟨l, 0, RL, ML⟩) RL.length xs)) W)) := fun W aL aN cL cN xs aw cw hW hD hx hi hl => by
    have h1 := done_any 0 l RL ML aL aN aw cL cN cw xs W hD hG h5 hx (hi.grown hW) hl
    have e3 : ML.length = RL.length := hG.ml
    rw [e3] at h1
    exact h1
  have HX : Hid ((∀ x, x ∈ us → x < l) ∧ (∀ x, x ∈ vs → x < l) ∧ Ints w b (natInts us) ∧ Ints w b' (natInts vs) ∧ us.length ≤ 100000000 ∧ vs.length ≤ 100000000) := ⟨hus, hvs, hiu, hiv, hlu, hlv⟩
  have hlt3 : ∀ u : List Nat, (∀ x, x ∈ u → x < l) → deed (Dfa.nx ⟨l, 0, RL, ML⟩) RL.length u < 3125 := fun u hu => (deed_facts h5 (fun s a hs ha => hG.nx_lt hs (by simp; exact ha)) u hu).1
  have hδ : ∀ s a, s < RL.length → a < l → Dfa.nx ⟨l, 0, RL, ML⟩ s a < RL.length := fun s a hs ha => hG.nx_lt hs (by simp; exact ha)
  have HNo : Hid (∀ k, EndW (deed (Dfa.nx ⟨l, 0, RL, ML⟩) RL.length) l k → (∀ u, u ∈ bfsW (deed (Dfa.nx ⟨l, 0, RL, ML⟩) RL.length) l k → parts (deed (Dfa.nx ⟨l, 0, RL, ML⟩) RL.length us) (deed (Dfa.nx ⟨l, 0, RL, ML⟩) RL.length vs) (deed (Dfa.nx ⟨l, 0, RL, ML⟩) RL.length u) = false) → deed (Dfa.nx ⟨l, 0, RL, ML⟩) RL.length us = deed (Dfa.nx ⟨l, 0, RL, ML⟩) RL.length vs) := fun k hend hno => alike_found h5 hG.n1 hδ hus hvs hR hend hno
  have HSh : Hid (∀ i, i < (bfsW (deed (Dfa.nx ⟨l, 0, RL, ML⟩) RL.length) l i).length → ((bfsW (deed (Dfa.nx ⟨l, 0, RL, ML⟩) RL.length) l i).getD i []).length ≤ 4000) := fun i hi => bfs_short h5 hδ hi
  have HFa : Hid (∀ u : List Nat, (∀ x, x ∈ u → x < l) → ∀ s, s < RL.length → dg (deed (Dfa.nx ⟨l, 0, RL, ML⟩) RL.length u) s < RL.length) := fun u hu s hs => by
    have := (deed_facts h5 hδ u hu).2.1 s hs
    rw [this.1]; exact this.2
  have Heq : Hid (∀ W, (Op.equalIn 10000 86 (rowV (deed (Dfa.nx ⟨l, 0, RL, ML⟩) RL.length us)) (rowV (deed (Dfa.nx ⟨l, 0, RL, ML⟩) RL.length vs))).run Tryd.prog W = .ok (decide (deed (Dfa.nx ⟨l, 0, RL, ML⟩) RL.length us = deed (Dfa.nx ⟨l, 0, RL, ML⟩) RL.length vs)) W) := fun W => eqRow (hlt3 _ hus) (hlt3 _ hvs) W
  clear hU hG hW1 g1 s1 bx1 hus hvs hiu hiv hlu hlv hlt3 hδ hR
  go_enter Tryd.func20, Tryd.ntmps20
  go_wp2_with fail
  rw [← HW1.out]
  refine (HL.out _ G1.out).mono ?_
  rintro E w2 ⟨v, rfl, aL, cL, aN, cN, rs, M9, hv, hlo, hrn, hml, hrl, ho, hg2⟩
  cases hv
  obtain ⟨e1, e2⟩ := HU.out _ _ hlo
  have hn1 : 1 ≤ RL.length := GD.out.n1
  have hl4 : l ≤ 4 := by have := GD.out.l4; simp only at this; omega
  have hmR : M9.length = RL.length := by rw [e2]; exact GD.out.ml
  have hrR : rs.length = RL.length := by rw [← e1, List.length_map]
  obtain ⟨W4, hW4, g4, s4, bx4⟩ := box_new w2 (.int .i64 l) (.int .i64 0) (.slice aL RL.length cL) (.slice aN RL.length cN) 25
  have HDet : Hid (∀ W S, (∀ x, S x → W4.heap.size ≤ x) → Turn S W4 W → DetAt W ⟨l, 0, RL, ML⟩ aL aN) := fun W S hS ht => by
    have o4 := (ho.kept g4).turn ht (fun it hm g hg hSg => by
      have h1 := (ho.lt hm hg).2
      have h2 := hS g hSg
      omega)
    have h3 := det_of_owns (L := (l : Int)) (S := 0) (its := []) (by rw [List.append_nil]; exact o4) (fun x hx => by rw [hrl x hx]; unfold maxLen; omega) (by rw [hrR]; unfold maxLen; omega) (by rw [hmR]; unfold maxLen; omega)
    rw [e1, e2] at h3
    exact h3
  have HW4 : Hid (W4 = _) := hW4
  have GW4 : Hid (w.grownBy W4 none) := grown_trans G1.out (grown_trans hg2 g4)
  have BX4 : Hid (∀ W', W4.grownBy W' none → W'.cell? ⟨w2.heap.size, 0, none⟩ = some (.int .i64 l) ∧ W'.cell? ⟨w2.heap.size, 1, none⟩ = some (.int .i64 0) ∧ W'.cell? ⟨w2.heap.size, 2, none⟩ = some (.slice aL RL.length cL) ∧ W'.cell? ⟨w2.heap.size, 3, none⟩ = some (.slice aN RL.length cN)) := bx4
  have HS4 : Hid (W4.heap.size = w2.heap.size + 1) := s4
  have x0 := (BX1.out W4 (grown_trans hg2 g4)).1
  rw [hW4] at x0
  rw [hrR, hmR]
  clear hlo hrn hml hrl ho hg2 e1 e2 hmR hrR hW4 g4 s4 bx4
  go_wp2_with fail
  rw [← HW4.out]
  refine (HM.out _ GW4.out).mono ?_
  rintro E w3 ⟨rfl, hg3⟩
  have HK0 : Hid (KeepA w3 w3 w2.heap.size (.int .i64 l) (.int .i64 0) (.slice aL RL.length cL) (.slice aN RL.length cN)) := ⟨grown_refl _ _, by have := hg3.size; rw [HS4.out] at this; omega, Nat.le_refl _, BX4.out w3 hg3⟩
  have HDu : Hid (∀ W, w3.grownBy W none → Calls Tryd.prog 46 #[detV l 0 aL RL.length cL aN RL.length cN, .slice b us.length d] W (Says (rowV (deed (Dfa.nx ⟨l, 0, RL, ML⟩) RL.length us)) W)) := fun W hW => HD.out W aL aN cL cN us b d (grown_trans GW4.out (grown_trans hg3 hW)) (HDet.out W (fun _ => False) (fun _ h => h.elim) (Turn.of (grown_trans hg3 hW))) HX.out.1 HX.out.2.2.1 HX.out.2.2.2.2.1
  have HDv : Hid (∀ W, w3.grownBy W none → Calls Tryd.prog 46 #[detV l 0 aL RL.length cL aN RL.length cN, .slice b' vs.length d'] W (Says (rowV (deed (Dfa.nx ⟨l, 0, RL, ML⟩) RL.length vs)) W)) := fun W hW => HD.out W aL aN cL cN vs b' d' (grown_trans GW4.out (grown_trans hg3 hW)) (HDet.out W (fun _ => False) (fun _ h => h.elim) (Turn.of (grown_trans hg3 hW))) HX.out.2.1 HX.out.2.2.2.1 HX.out.2.2.2.2.2
  have G3 : Hid (W4.grownBy w3 none) := hg3
  obtain ⟨-, hlt, -, y0, y1, y2, y3⟩ := HK0.out
  have HB0 : Hid (∃ b0, b0 = w2.heap.size) := ⟨_, rfl⟩
  clear x0 hg3
  generalize w2.heap.size = b0 at *
  generalize hcu : deed (Dfa.nx ⟨l, 0, RL, ML⟩) RL.length us = cu at *
  generalize hcv : deed (Dfa.nx ⟨l, 0, RL, ML⟩) RL.length vs = cv at *
  have HCu : Hid (deed (Dfa.nx ⟨l, 0, RL, ML⟩) RL.length us = cu) := hcu
  have HCv : Hid (deed (Dfa.nx ⟨l, 0, RL, ML⟩) RL.length vs = cv) := hcv
  clear hcu hcv
  generalize us.length = nu at *
  generalize vs.length = nv at *
  go_wp2_with fail
  go_cut [12, 13] (fun v12 v13 wc => BoxUV w3 cu cv v12 v13 wc)
  case first =>
    go_region_held3 (fun W => w3.grownBy W none ∧ b0 < w3.heap.size ∧ w3.heap.size ≤ W.heap.size ∧ W.cell? ⟨b0, 0, none⟩ = some (.int .i64 l) ∧ W.cell? ⟨b0, 1, none⟩ = some (.int .i64 0) ∧ W.cell? ⟨b0, 2, none⟩ = some (.slice aL RL.length cL) ∧ W.cell? ⟨b0, 3, none⟩ = some (.slice aN RL.length cN))
      (first | (with_reducible exact KeepA.drew HK0.out) | (with_reducible exact KB.out) | (with_reducible exact KeepA.call (by assumption) hgA) | (with_reducible exact KeepA.alloc (by assumption) _) | (repeat (first | (with_reducible exact KB.out) | (with_reducible exact HK0.out) | (with_reducible refine KeepA.drew ?_) | (with_reducible refine KeepA.alloc ?_ _) | (with_reducible refine KeepA.set ?_ (by omega) _))))
      (first | (go_at_call_of 46 (Value.slice b nu d); refine (HDu.out _ (KeepA.gr (show KeepA w3 _ b0 (.int .i64 l) (.int .i64 0) (.slice aL RL.length cL) (.slice aN RL.length cN) from by assumption))).mono ?_; rintro E wA ⟨rfl, hgA⟩; have sA := hgA.size; (try simp only [World.size_drew, World.size_alloc] at sA); (first | (with_reducible have zA0 := Zer.d2a hgA; (try simp only [World.size_drew, World.size_alloc] at zA0); with_reducible have zA1 := Zer.d2b hgA; (try simp only [World.size_drew, World.size_alloc] at zA1)) | (with_reducible have zA := Zer.d1 hgA; (try simp only [World.size_drew, World.size_alloc] at zA)) | skip)) | (go_at_call_of 46 (Value.slice b' nv d'); refine (HDv.out _ (KeepA.gr (show KeepA w3 _ b0 (.int .i64 l) (.int .i64 0) (.slice aL RL.length cL) (.slice aN RL.length cN) from by assumption))).mono ?_; rintro E wB ⟨rfl, hgB⟩; have sB := hgB.size; (try simp only [World.size_drew, World.size_alloc] at sB); have KB : Hid (KeepA w3 wB b0 (.int .i64 l) (.int .i64 0) (.slice aL RL.length cL) (.slice aN RL.length cN)) := KeepA.call (by assumption) hgB; (first | (with_reducible have zB0 := Zer.c2a hgB; with_reducible have zB1 := Zer.c2b hgB; obtain ⟨e0, e1, e2, e3, e4, f0, f1, f2, f3, f4⟩ := zB0.cells; obtain ⟨g0, g1, g2, g3, g4, h0, h1, h2, h3, h4⟩ := zB1.cells; have l0 := zB0.lt; have l1 := zB1.lt) | (with_reducible have zB := Zer.c1 hgB; obtain ⟨e0, e1, e2, e3, e4, f0, f1, f2, f3, f4⟩ := zB.cells; have l0 := zB.lt) | skip); (first | (have yA0 : Zer wB w3.heap.size := (by first | (with_reducible exact Zer.o0 (by assumption) hgB) | (with_reducible exact Zer.o1 (by assumption) hgB)); obtain ⟨i0, i1, i2, i3, i4, j0, j1, j2, j3, j4⟩ := yA0.cells; have l2 := yA0.lt) | skip); (first | (have yA1 : Zer wB (w3.heap.size + 1) := (by with_reducible exact Zer.o0 (by assumption) hgB); obtain ⟨k0, k1, k2, k3, k4, m0, m1, m2, m3, m4⟩ := yA1.cells; have l3 := yA1.lt) | skip); clear hgA hgB))
    all_goals
      go_wp2_with fail
      go_meet
      case rel =>
        refine ⟨_, _, rfl, rfl, by omega, by omega, by omega, ?_, ?_, (show KeepA w3 _ b0 (.int .i64 l) (.int .i64 0) (.slice aL RL.length cL) (.slice aN RL.length cN) from by assumption).1⟩
        all_goals
          first
          | (with_reducible exact RowAt.nw _ _)
          | (with_reducible exact RowAt.nw2 _ _ _)
          | (with_reducible exact RowAt.nwS _ _ _ _)
          | (with_reducible exact RowAt.al (RowAt.nw _ _) _)
          | (with_reducible exact RowAt.al (Zer.row (by assumption) _) _)
          | (with_reducible exact Zer.row (by assumption) _)
          | (with_reducible exact Zer.row (Zer.skip (by assumption) (by omega) _) _)
          | (with_reducible exact RowAt.skip (Zer.row (by assumption) _) (by omega) _)
  case rest =>
    obtain ⟨bu, bv, rfl, rfl, hbu, hbv, hne, hu, hv, hgc⟩ := hcut
    obtain ⟨u0, u1, u2, u3, u4, uf⟩ := block_cells5 hu
    obtain ⟨x0, x1, x2, x3, x4, xf⟩ := block_cells5 hv
    have hq := Heq.out wc
    by_cases heq : cu = cv
    · obtain ⟨z0, z1, z2, z3⟩ := BX4.out wc (grown_trans G3.out hgc)
      have Fin : Hid (AlikePost (deed (Dfa.nx ⟨l, 0, RL, ML⟩) RL.length) (tellT (Dfa.nx ⟨l, 0, RL, ML⟩) (Dfa.mk1 ⟨l, 0, RL, ML⟩)) l cu cv w (.returned (.tuple #[.slice none 0 0, .slice none 0 0, .bool true, .int .i64 0])) wc) := ⟨grown_trans GW4.out (grown_trans G3.out hgc), .inl ⟨heq, rfl⟩⟩
      subst heq
      rw [decide_eq_true rfl] at hq
      clear hgc hu hv
      go_wp2_with fail
      exact bodyPost_ret (v := .tuple #[.slice none 0 0, .slice none 0 0, .bool true, .int .i64 0]) (by simp [results, Tryd.results20, go_sem]) rfl Fin.out
    · rw [decide_eq_false heq] at hq
      obtain ⟨W5, hW5, g5, s5, p5, q5⟩ := two_ints wc
      have HW5 : Hid (W5 = _) := hW5
      have hcs := hgc.size
      have g45 : W4.grownBy W5 none := grown_trans G3.out (grown_trans hgc g5)
      have G45 : Hid (W4.grownBy W5 none) := g45
      have hul : bu < wc.heap.size := hu.lt
      have hvl : bv < wc.heap.size := hv.lt
      have h40 : W4.heap.size ≤ wc.heap.size := by have := (grown_trans G3.out hgc).size; omega
      obtain ⟨z0, z1, z2, z3⟩ := BX4.out W5 g45
      have hu5 : RowAt W5 bu cu := (g5.block bu hul (by simp)).trans hu
      have hv5 : RowAt W5 bv cv := (g5.block bv hvl (by simp)).trans hv
      have HKp : Hid (∀ W, Turn (fun x => x = wc.heap.size ∨ x = wc.heap.size + 1) W5 W → DetAt W ⟨l, 0, RL, ML⟩ aL aN ∧ (W.cell? ⟨b0, 0, none⟩ = some (.int .i64 l) ∧ W.cell? ⟨b0, 1, none⟩ = some (.int .i64 0) ∧ W.cell? ⟨b0, 2, none⟩ = some (.slice aL RL.length cL) ∧ W.cell? ⟨b0, 3, none⟩ = some (.slice aN RL.length cN)) ∧ RowAt W bu cu ∧ RowAt W bv cv) := fun W ht => by
        have hb0 : b0 < W5.heap.size := by have := hlt; omega
        have e0 := ht.block b0 hb0 (fun h => by rcases h with h | h <;> omega)
        refine ⟨HDet.out W (fun x => W4.heap.size ≤ x) (fun _ h => h) ((Turn.of (S := fun x => W4.heap.size ≤ x) g45).trans ht (fun x hx => .inl (by rcases hx with hx | hx <;> (show W4.heap.size ≤ x; omega)))), ⟨?_, ?_, ?_, ?_⟩, (ht.block bu (by omega) (fun h => by rcases h with h | h <;> omega)).trans hu5, (ht.block bv (by omega) (fun h => by rcases h with h | h <;> omega)).trans hv5⟩
        · rw [World.cell?_of_block e0]; exact z0
        · rw [World.cell?_of_block e0]; exact z1
        · rw [World.cell?_of_block e0]; exact z2
        · rw [World.cell?_of_block e0]; exact z3
      have HSk : Hid (Calls Tryd.prog 42 #[detV l 0 aL RL.length cL aN RL.length cN, .func (.func 47) #[] #[.pointer (some ⟨b0, 0, none⟩), .pointer (some ⟨bu, 0, none⟩), .pointer (some ⟨bv, 0, none⟩), .pointer (some ⟨wc.heap.size, 0, none⟩), .pointer (some ⟨wc.heap.size + 1, 0, none⟩)]] W5 (SeekPost (deed (Dfa.nx ⟨l, 0, RL, ML⟩) RL.length) l (Pq cu cv wc.heap.size (wc.heap.size + 1)) (fun x => x = wc.heap.size ∨ x = wc.heap.size + 1) (parts cu cv) W5)) := by
        have h1 := seekA_any 0 l RL ML aL aN cL cN (.pointer (some ⟨b0, 0, none⟩)) (.pointer (some ⟨bu, 0, none⟩)) (.pointer (some ⟨bv, 0, none⟩)) (.pointer (some ⟨wc.heap.size, 0, none⟩)) (.pointer (some ⟨wc.heap.size + 1, 0, none⟩)) W5 (fun x => x = wc.heap.size ∨ x = wc.heap.size + 1) (Pq cu cv wc.heap.size (wc.heap.size + 1)) (parts cu cv) GD.out h5 (fun W ht => (HKp.out W ht).1) (pq_stable _ _ _ _ _ _) ⟨p5, q5, rfl⟩ (fun x hx => by rcases hx with hx | hx <;> omega)
          (fun seen cc W S' hJ hsl hS ht hc hd => lookA_any cu cv b0 bu bv wc.heap.size (wc.heap.size + 1) cc seen W S' hJ (by omega) (HKp.out W ht).2.1.2.1 (HKp.out W ht).2.2.1 (HKp.out W ht).2.2.2)
        have e3 : ML.length = RL.length := GD.out.ml
        rw [e3] at h1
        exact h1
      rw [hW5] at z0 z1 z2 z3
      clear hu hv hW5 g5 s5 p5 q5 g45 hu5 hv5 hgc
      go_wp2_with fail
      rw [← HW5.out]
      refine HSk.out.mono ?_
      rintro E w5 (⟨rfl, k, hend, hno, _, _⟩ | ⟨i, az, cz, hi, hgo, hno, hyes, rfl, hints, ⟨S5, ⟨hp5, hq5, rfl⟩, hj3, hj2⟩, ht5⟩)
      · exact absurd (HNo.out k hend hno) heq
      · obtain ⟨hd5, ⟨z0', z1', z2', z3'⟩, _, _⟩ := HKp.out w5 ht5
        have e3 : (bfsW (deed (Dfa.nx ⟨l, 0, RL, ML⟩) RL.length) l i)[i]? = some ((bfsW (deed (Dfa.nx ⟨l, 0, RL, ML⟩) RL.length) l i).getD i []) := by rw [List.getElem?_eq_getElem hi]; simp [List.getD, hi]
        rw [List.take_add_one, e3, List.map_append] at hp5 hq5
        have hp6 : w5.heap[wc.heap.size]? = some (.cells #[.int .i64 ((dg cu (dg (deed (Dfa.nx ⟨l, 0, RL, ML⟩) RL.length ((bfsW (deed (Dfa.nx ⟨l, 0, RL, ML⟩) RL.length) l i).getD i [])) 0) : Nat) : Int)] 3 (0, 0)) := by rw [← lastP_snoc cu]; exact hp5
        have hq6 : w5.heap[wc.heap.size + 1]? = some (.cells #[.int .i64 ((dg cv (dg (deed (Dfa.nx ⟨l, 0, RL, ML⟩) RL.length ((bfsW (deed (Dfa.nx ⟨l, 0, RL, ML⟩) RL.length) l i).getD i [])) 0) : Nat) : Int)] 3 (0, 0)) := by rw [← lastP_snoc cv]; exact hq5
        have hlen := HSh.out i hi
        have hlet : ∀ x, x ∈ (bfsW (deed (Dfa.nx ⟨l, 0, RL, ML⟩) RL.length) l i).getD i [] → x < l := bfsW_letters i _ (getDL_mem hi)
        have hs0 := HFa.out _ hlet 0 (by omega)
        have hpl := HFa.out us HX.out.1 _ hs0
        have hql := HFa.out vs HX.out.2.1 _ hs0
        rw [HCu.out] at hpl
        rw [HCv.out] at hql
        have hyes2 : dg cu (dg (deed (Dfa.nx ⟨l, 0, RL, ML⟩) RL.length ((bfsW (deed (Dfa.nx ⟨l, 0, RL, ML⟩) RL.length) l i).getD i [])) 0) ≠ dg cv (dg (deed (Dfa.nx ⟨l, 0, RL, ML⟩) RL.length ((bfsW (deed (Dfa.nx ⟨l, 0, RL, ML⟩) RL.length) l i).getD i [])) 0) := by unfold parts at hyes; simpa using hyes
        have gf : w.grownBy w5 none := ((Turn.of (S := fun x => w.heap.size ≤ x) (grown_trans GW4.out G45.out)).trans ht5 (fun x hx => .inl (by have h1 := GW4.out.size; rcases hx with hx | hx <;> (show w.heap.size ≤ x; omega)))).grown (fun x hx => hx)
        have Fin0 : ∀ p q W zs is ab cb, p = dg cu (dg (deed (Dfa.nx ⟨l, 0, RL, ML⟩) RL.length ((bfsW (deed (Dfa.nx ⟨l, 0, RL, ML⟩) RL.length) l i).getD i [])) 0) → q = dg cv (dg (deed (Dfa.nx ⟨l, 0, RL, ML⟩) RL.length ((bfsW (deed (Dfa.nx ⟨l, 0, RL, ML⟩) RL.length) l i).getD i [])) 0) → w5.grownBy W none → FirstOf (tellT (Dfa.nx ⟨l, 0, RL, ML⟩) (Dfa.mk1 ⟨l, 0, RL, ML⟩) p q) l zs is → zs.length ≤ 100000000 → Ints W ab (natInts zs) → AlikePost (deed (Dfa.nx ⟨l, 0, RL, ML⟩) RL.length) (tellT (Dfa.nx ⟨l, 0, RL, ML⟩) (Dfa.mk1 ⟨l, 0, RL, ML⟩)) l cu cv w (.returned (.tuple #[.slice az ((bfsW (deed (Dfa.nx ⟨l, 0, RL, ML⟩) RL.length) l i).getD i []).length cz, .slice ab zs.length cb, .bool false, .int .i64 0])) W := fun p q W zs is ab cb ep eq hW hf hz hi' => by
          subst ep; subst eq
          exact ⟨grown_trans gf hW, .inr ⟨heq, _, zs, is, az, ab, cz, cb, hlet, hyes2, hf, by omega, hz, rfl, hints.grown hW, hi'⟩⟩
        have HFin : Hid (∀ p q W zs is ab cb, p = dg cu (dg (deed (Dfa.nx ⟨l, 0, RL, ML⟩) RL.length ((bfsW (deed (Dfa.nx ⟨l, 0, RL, ML⟩) RL.length) l i).getD i [])) 0) → q = dg cv (dg (deed (Dfa.nx ⟨l, 0, RL, ML⟩) RL.length ((bfsW (deed (Dfa.nx ⟨l, 0, RL, ML⟩) RL.length) l i).getD i [])) 0) → w5.grownBy W none → FirstOf (tellT (Dfa.nx ⟨l, 0, RL, ML⟩) (Dfa.mk1 ⟨l, 0, RL, ML⟩) p q) l zs is → zs.length ≤ 100000000 → Ints W ab (natInts zs) → AlikePost (deed (Dfa.nx ⟨l, 0, RL, ML⟩) RL.length) (tellT (Dfa.nx ⟨l, 0, RL, ML⟩) (Dfa.mk1 ⟨l, 0, RL, ML⟩)) l cu cv w (.returned (.tuple #[.slice az ((bfsW (deed (Dfa.nx ⟨l, 0, RL, ML⟩) RL.length) l i).getD i []).length cz, .slice ab zs.length cb, .bool false, .int .i64 0])) W) := Fin0
        clear Fin0
        generalize hpe : dg cu (dg (deed (Dfa.nx ⟨l, 0, RL, ML⟩) RL.length ((bfsW (deed (Dfa.nx ⟨l, 0, RL, ML⟩) RL.length) l i).getD i [])) 0) = p at *
        generalize hqe : dg cv (dg (deed (Dfa.nx ⟨l, 0, RL, ML⟩) RL.length ((bfsW (deed (Dfa.nx ⟨l, 0, RL, ML⟩) RL.length) l i).getD i [])) 0) = q at *
        generalize ((bfsW (deed (Dfa.nx ⟨l, 0, RL, ML⟩) RL.length) l i).getD i []).length = nz at *
        have HAp : Hid (∀ W, w5.grownBy W none → Calls Tryd.prog 48 #[detV l 0 aL RL.length cL aN RL.length cN, .int .i64 (p : Nat), .int .i64 (q : Nat)] W (ApartGPost (tellT (Dfa.nx ⟨l, 0, RL, ML⟩) (Dfa.mk1 ⟨l, 0, RL, ML⟩) p q) l W)) := fun W hW => by
          have h1 := apartE_good l 0 p q l RL ML aL aN cL cN W (tellT (Dfa.nx ⟨l, 0, RL, ML⟩) (Dfa.mk1 ⟨l, 0, RL, ML⟩) p q) (hd5.grown hW) GD.out hpl hql (fun W' hW' => by
            have := apartP_any l 0 RL ML aL aN cL cN p q W' ((hd5.grown hW).grown hW') GD.out.fit hpl hql
            rw [Int.toNat_natCast] at this
            exact this)
          have e4 : ML.length = RL.length := GD.out.ml
          rw [e4] at h1
          exact h1
        have y0' : w5.cell? ⟨wc.heap.size, 0, none⟩ = some (.int .i64 (p : Int)) := by rw [cell_of_row _ _ _ _ _ (0, 0) hp6]; rfl
        have y1' : w5.cell? ⟨wc.heap.size + 1, 0, none⟩ = some (.int .i64 (q : Int)) := by rw [cell_of_row _ _ _ _ _ (0, 0) hq6]; rfl
        clear hyes hno hgo hints hp5 hq5 hp6 hq6 hj3 hj2 ht5 hd5 e3 hlen hlet hs0 hpl hql hyes2 gf hpe hqe
        go_wp2_with fail
        refine (HAp.out _ (grown_refl _ _)).mono ?_
        rintro E w6 ⟨zs, is, ab, cb, rfl, hf, hz, ho6, hg6⟩
        have Fin : Hid (AlikePost (deed (Dfa.nx ⟨l, 0, RL, ML⟩) RL.length) (tellT (Dfa.nx ⟨l, 0, RL, ML⟩) (Dfa.mk1 ⟨l, 0, RL, ML⟩)) l cu cv w (.returned (.tuple #[.slice az nz cz, .slice ab zs.length cb, .bool false, .int .i64 0])) w6) := HFin.out p q w6 zs is ab cb rfl rfl hg6 hf hz ho6.ints.2
        clear hf hz ho6 hg6 y0' y1' z0' z1' z2' z3'
        generalize zs.length = nz2 at *
        go_wp2_with fail
        exact bodyPost_ret (v := .tuple #[.slice az nz cz, .slice ab nz2 cb, .bool false, .int .i64 0]) (by simp [results, Tryd.results20, go_sem]) rfl Fin.out

set_option maxHeartbeats 1600000 in
set_option maxRecDepth 100000 in
theorem alike_bad (L S y : Int) (a a' b b' : Option Addr) (n m c c' nu d nv d' : Nat) (w : World) (hy : y ≠ 0)
    (HL : Hid (∀ W, w.grownBy W none → Calls Tryd.prog 41 #[detV L S a n c a' m c'] W (LeastBPost y W))) :
    Calls Tryd.prog 20 #[detV L S a n c a' m c', .slice b nu d, .slice b' nv d'] w (Says (.tuple #[.slice none 0 0, .slice none 0 0, .bool false, .int .i64 y]) w) := by
  have f1 : (y != 0) = true := by simpa using hy
  obtain ⟨W1, hW1, g1, s1, bx1⟩ := box_new w (.int .i64 L) (.int .i64 S) (.slice a n c) (.slice a' m c') 25
  have HW1 : Hid (W1 = _) := hW1
  have G1 : Hid (w.grownBy W1 none) := g1
  clear hy hW1 g1 s1 bx1
  go_enter Tryd.func20, Tryd.ntmps20
  go_wp2_with fail
  rw [← HW1.out]
  refine (HL.out _ G1.out).mono ?_
  rintro E w2 ⟨rfl, hg2⟩
  have GE : Hid (∀ o, w.grownBy (w2.alloc o) none) := fun o => grown_trans (grown_trans G1.out hg2) (grown_alloc _ _)
  clear hg2
  go_wp2_with fail
  exact bodyPost_ret (v := .tuple #[.slice none 0 0, .slice none 0 0, .bool false, .int .i64 y]) (by simp [results, Tryd.results20, go_sem]) rfl ⟨rfl, GE.out _⟩

set_option maxHeartbeats 1600000 in
set_option maxRecDepth 100000 in
theorem alike_word (L S y : Int) (l : Nat) (a a' b b' : Option Addr) (n m c c' nu d nv d' : Nat) (w : World) (δ : Nat → Nat → Nat) (mk : Nat → Bool) (nn s0 : Nat) (hy : y ≠ 0)
    (HL : Hid (∀ W, w.grownBy W none → Calls Tryd.prog 41 #[detV L S a n c a' m c'] W (LeastGPost δ mk nn l s0 W)))
    (HM : Hid (∀ W, w.grownBy W none → Calls Tryd.prog 45 #[.int .i64 L, .slice b nu d, .slice b' nv d'] W (Says (.int .i64 y) W))) :
    Calls Tryd.prog 20 #[detV L S a n c a' m c', .slice b nu d, .slice b' nv d'] w (Says (.tuple #[.slice none 0 0, .slice none 0 0, .bool false, .int .i64 y]) w) := by
  have f1 : (y != 0) = true := by simpa using hy
  obtain ⟨W1, hW1, g1, s1, bx1⟩ := box_new w (.int .i64 L) (.int .i64 S) (.slice a n c) (.slice a' m c') 25
  have HW1 : Hid (W1 = _) := hW1
  have G1 : Hid (w.grownBy W1 none) := g1
  have BX1 : Hid (∀ W', W1.grownBy W' none → W'.cell? ⟨w.heap.size, 0, none⟩ = some (.int .i64 L) ∧ W'.cell? ⟨w.heap.size, 1, none⟩ = some (.int .i64 S) ∧ W'.cell? ⟨w.heap.size, 2, none⟩ = some (.slice a n c) ∧ W'.cell? ⟨w.heap.size, 3, none⟩ = some (.slice a' m c')) := bx1
  clear hy hW1 g1 s1 bx1
  go_enter Tryd.func20, Tryd.ntmps20
  go_wp2_with fail
  rw [← HW1.out]
  refine (HL.out _ G1.out).mono ?_
  rintro E w2 ⟨v, rfl, aL, cL, aN, cN, rs, M9, hv, hlo, hrn, hml, hrl, ho, hg2⟩
  cases hv
  clear hlo hrn hml hrl ho
  generalize rs.length = nr at *
  generalize M9.length = nm at *
  obtain ⟨W4, hW4, g4, s4, bx4⟩ := box_new w2 (.int .i64 l) (.int .i64 0) (.slice aL nr cL) (.slice aN nm cN) 25
  have HW4 : Hid (W4 = _) := hW4
  have GW4 : Hid (w.grownBy W4 none) := grown_trans G1.out (grown_trans hg2 g4)
  have x0 := (BX1.out W4 (grown_trans hg2 g4)).1
  rw [hW4] at x0
  clear hg2 hW4 g4 s4 bx4
  go_wp2_with fail
  rw [← HW4.out]
  refine (HM.out _ GW4.out).mono ?_
  rintro E w3 ⟨rfl, hg3⟩
  have GE : Hid (w.grownBy w3 none) := grown_trans GW4.out hg3
  clear hg3 x0
  go_wp2_with fail
  exact bodyPost_ret (v := .tuple #[.slice none 0 0, .slice none 0 0, .bool false, .int .i64 y]) (by simp [results, Tryd.results20, go_sem]) rfl ⟨rfl, GE.out⟩

end Go.Proofs.YtmbbkjpfmmnabaaDoor
