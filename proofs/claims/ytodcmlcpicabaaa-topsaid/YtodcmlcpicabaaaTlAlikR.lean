/- Whether two states say the same at once and lead to alike classes: the reference's alike. -/
import Derived.Test.YtodcmlcpicabaaaTlLeastC
import Derived.Test.YtodcmlcpicabaaaTlM
import Derived.Test.YtodcmlcpicabaaaRWord1
namespace Go.Proofs.Ytodcmlcpicabaaa
open Go.RowKit
set_option linter.unusedVariables false
set_option linter.unusedSimpArgs false

def AlkR (x : TrI) (I : Nat) (f : Nat → Nat) (p q : Nat) : Prop := f p = f q ∧ x.E.getD p [] = x.E.getD q [] ∧ ∀ l, l < I → syT x p l = syT x q l ∧ f (nxT x p l) = f (nxT x q l)
def SA1 (bt p q : Nat) (v6 : Value) (b6 o6 : Nat) (w1 w2 : Value) (W : World) : Prop := W.cell? ⟨bt, 6, none⟩ = some v6 ∧ W.cell? ⟨b6, o6 + p, none⟩ = some w1 ∧ W.cell? ⟨b6, o6 + q, none⟩ = some w2
theorem SA1.kept {bt p q : Nat} {v6 : Value} {b6 o6 : Nat} {w1 w2 : Value} {W W' : World} (h : SA1 bt p q v6 b6 o6 w1 w2 W) (k : W.grownBy W' none) : SA1 bt p q v6 b6 o6 w1 w2 W' := ⟨k.cell h.1 (by simp), k.cell h.2.1 (by simp), k.cell h.2.2 (by simp)⟩
def SA7 (bt p q l : Nat) (v5 : Value) (b5 o5 : Nat) (up uq : Value) (sb so : Nat) (s1 : Value) (ub uo : Nat) (s2 : Value) (W : World) : Prop := W.cell? ⟨bt, 5, none⟩ = some v5 ∧ W.cell? ⟨b5, o5 + p, none⟩ = some up ∧ W.cell? ⟨b5, o5 + q, none⟩ = some uq ∧ W.cell? ⟨sb, so + l, none⟩ = some s1 ∧ W.cell? ⟨ub, uo + l, none⟩ = some s2
theorem SA7.kept {bt p q l : Nat} {v5 : Value} {b5 o5 : Nat} {up uq : Value} {sb so : Nat} {s1 : Value} {ub uo : Nat} {s2 : Value} {W W' : World} (h : SA7 bt p q l v5 b5 o5 up uq sb so s1 ub uo s2 W) (k : W.grownBy W' none) : SA7 bt p q l v5 b5 o5 up uq sb so s1 ub uo s2 W' := ⟨k.cell h.1 (by simp), k.cell h.2.1 (by simp), k.cell h.2.2.1 (by simp), k.cell h.2.2.2.1 (by simp), k.cell h.2.2.2.2 (by simp)⟩

set_option maxHeartbeats 3200000 in
set_option maxRecDepth 100000 in
theorem alikeR_any (x : TrI) (I m : Nat) (a3 a4 a5 a6 : Option Addr) (c3 c4 c5 c6 : Nat) (g cc : Nat) (f : Nat → Nat) (p q : Nat) (w : World) (h : TnAt w x a3 a4 a5 a6) (hr : ShpT x I m) (hxI : x.I = (I : Int)) (hm : m ≤ 900) (hI : I ≤ 4) (hN : x.N.length ≤ 1000) (hcl : ∀ s, s < x.N.length → w.cell? ⟨g, s, none⟩ = some (.int .i64 ((f s : Nat) : Int))) (hp : p < x.N.length) (hq : q < x.N.length) :
    Calls Try.prog 42 #[tnV x.I x.O x.S a3 x.F.length c3 a4 x.N.length c4 a5 x.Y.length c5 a6 x.E.length c6, .slice (some ⟨g, 0, none⟩) x.N.length cc, .int .i64 (p : Int), .int .i64 (q : Int)] w (TellsB (AlkR x I f p q) w) := by
  obtain ⟨W1, hW1, g1, s1, bx⟩ := box7_new w x.I x.O x.S a3 x.F.length c3 a4 x.N.length c4 a5 x.Y.length c5 a6 x.E.length c6
  have HW1 : Hid (W1 = _) := hW1
  have G1 : Hid (w.grownBy W1 none) := g1
  have HT : Hid (TnAt W1 x a3 a4 a5 a6) := h.grown g1
  have HR : Hid (ShpT x I m) := hr
  have HX : Hid (∀ W, W1.grownBy W none → Box7 W w.heap.size (I : Int) x.O x.S a3 x.F.length c3 a4 x.N.length c4 a5 x.Y.length c5 a6 x.E.length c6) := fun W hW => by rw [← hxI]; exact bx.grown hW
  have HL : Hid (x.Y.length = x.N.length ∧ x.E.length = x.N.length) := ⟨hr.hy, hr.he⟩
  have HCL : Hid (∀ W, W1.grownBy W none → ∀ s, s < x.N.length → W.cell? ⟨g, s, none⟩ = some (.int .i64 ((f s : Nat) : Int))) := fun W hW s hs => (grown_trans g1 hW).cell (hcl s hs) (by simp)
  obtain ⟨b6, o6, k1, r1, ha6, hs6⟩ := shp_last HT.out HR.out hp
  obtain ⟨b6', o6', k2, r2, ha6', hs6'⟩ := shp_last HT.out HR.out hq
  subst ha6
  cases ha6'
  obtain ⟨e1, i1⟩ := hs6 W1 (grown_refl _ _)
  obtain ⟨e2, i2⟩ := hs6' W1 (grown_refl _ _)
  have hm1 := HR.out.em p hp
  have hm2 := HR.out.em q hq
  have CE0 : ∀ W, W1.grownBy W none → Calls Try.prog 14 #[.slice r1 (x.E.getD p []).length k1, .slice r2 (x.E.getD q []).length k2] W (TellsB (x.E.getD p [] = x.E.getD q []) W) := fun W hW => wordsR_any _ _ _ _ _ _ W (i1.grown hW) (i2.grown hW) (by unfold maxLen; omega) (by unfold maxLen; omega)
  obtain ⟨n1, hn1'⟩ : ∃ n, (x.E.getD p []).length = n := ⟨_, rfl⟩
  obtain ⟨n2, hn2'⟩ : ∃ n, (x.E.getD q []).length = n := ⟨_, rfl⟩
  rw [hn1'] at CE0 e1
  rw [hn2'] at CE0 e2
  have CE : Hid (∀ W, W1.grownBy W none → Calls Try.prog 14 #[.slice r1 n1 k1, .slice r2 n2 k2] W (TellsB (x.E.getD p [] = x.E.getD q []) W)) := CE0
  have S0 : Hid (SA1 w.heap.size p q (.slice (some ⟨b6, o6, none⟩) x.E.length c6) b6 o6 (.slice r1 n1 k1) (.slice r2 n2 k2) W1.drew) := ⟨bx.b6, e1, e2⟩
  have ip : (p : Int) < (x.N.length : Int) := by omega
  have iq : (q : Int) < (x.N.length : Int) := by omega
  have ipE : (p : Int) < (x.E.length : Int) := by rw [HL.out.2]; omega
  have iqE : (q : Int) < (x.E.length : Int) := by rw [HL.out.2]; omega
  have eAlk : (f p = f q ∧ x.E.getD p [] = x.E.getD q [] ∧ ∀ l, l < I → syT x p l = syT x q l ∧ f (nxT x p l) = f (nxT x q l)) = AlkR x I f p q := rfl
  rw [hxI] at HW1 ⊢
  clear eAlk hW1 g1 s1 bx h hr hxI hcl hs6 hs6' e1 e2 i1 i2 hm1 hm2 CE0 hn1' hn2'
  go_enter Try.func42, Try.ntmps42
  go_wp2_with fail
  rw [← HW1.out]
  refine wp_region_held_drew (S := SA1 w.heap.size p q (.slice (some ⟨b6, o6, none⟩) x.E.length c6) b6 o6 (.slice r1 n1 k1) (.slice r2 n2 k2)) (by kernel_rfl) (S0.out) (fun hHeld => ?_)
  refine wpAnyH_take (i := 0) (v := ?_) rfl (by kernel_rfl) (by kernel_rfl) (by kernel_rfl) (fun _ _ _ h => h) (Or.inl ⟨by rfl, ?_⟩) (by assumption) ?_
  rotate_left
  · intro W hSw
    obtain ⟨q0, q1, q2⟩ := hSw
    go_simp
    with_reducible rfl
  try simp only [Act.put, List.getElem_toArray, List.getElem_cons_succ, List.getElem_cons_zero, List.setIfInBounds_toArray, List.set_cons_zero, List.set_cons_succ]
  refine wpAnyH_take (i := 1) (v := ?_) rfl (by kernel_rfl) (by kernel_rfl) (by kernel_rfl) (fun _ _ _ h => h) (Or.inl ⟨by rfl, ?_⟩) (by assumption) ?_
  rotate_left
  · intro W hSw
    obtain ⟨q0, q1, q2⟩ := hSw
    go_simp
    with_reducible rfl
  try simp only [Act.put, List.getElem_toArray, List.getElem_cons_succ, List.getElem_cons_zero, List.setIfInBounds_toArray, List.set_cons_zero, List.set_cons_succ]
  refine wpAnyH_take (i := 2) (v := ?_) rfl (by kernel_rfl) (by kernel_rfl) (by kernel_rfl) (fun _ _ _ h => h) (Or.inl ⟨by rfl, ?_⟩) (by assumption) ?_
  rotate_left
  · intro W hSw
    obtain ⟨q0, q1, q2⟩ := hSw
    go_simp
    with_reducible rfl
  try simp only [Act.put, List.getElem_toArray, List.getElem_cons_succ, List.getElem_cons_zero, List.setIfInBounds_toArray, List.set_cons_zero, List.set_cons_succ]
  refine wpAnyH_take (i := 3) (v := ?_) rfl (by kernel_rfl) (by kernel_rfl) (by kernel_rfl) (fun _ _ _ h => h) (Or.inl ⟨by rfl, ?_⟩) (by assumption) ?_
  rotate_left
  · intro W hSw
    obtain ⟨q0, q1, q2⟩ := hSw
    go_simp
    with_reducible rfl
  try simp only [Act.put, List.getElem_toArray, List.getElem_cons_succ, List.getElem_cons_zero, List.setIfInBounds_toArray, List.set_cons_zero, List.set_cons_succ]
  refine wpAnyH_take (i := 4) (v := ?_) rfl (by kernel_rfl) (by kernel_rfl) (by kernel_rfl) (fun _ _ _ h => h) (Or.inl ⟨by rfl, ?_⟩) (by assumption) ?_
  rotate_left
  · intro W hSw
    obtain ⟨q0, q1, q2⟩ := hSw
    go_simp
    with_reducible rfl
  try simp only [Act.put, List.getElem_toArray, List.getElem_cons_succ, List.getElem_cons_zero, List.setIfInBounds_toArray, List.set_cons_zero, List.set_cons_succ]
  refine wpAnyH_take (i := 5) (v := ?_) rfl (by kernel_rfl) (by kernel_rfl) (by kernel_rfl) (fun _ _ _ h => h) (Or.inl ⟨by rfl, ?_⟩) (by assumption) ?_
  rotate_left
  · intro W hSw
    obtain ⟨q0, q1, q2⟩ := hSw
    go_simp
    with_reducible rfl
  try simp only [Act.put, List.getElem_toArray, List.getElem_cons_succ, List.getElem_cons_zero, List.setIfInBounds_toArray, List.set_cons_zero, List.set_cons_succ]
  refine wpAnyH_take (i := 6) (v := ?_) rfl (by kernel_rfl) (by kernel_rfl) (by kernel_rfl) (fun _ _ _ h => h) (Or.inl ⟨by rfl, ?_⟩) (by assumption) ?_
  rotate_left
  · intro W hSw
    obtain ⟨q0, q1, q2⟩ := hSw
    go_simp
    with_reducible rfl
  try simp only [Act.put, List.getElem_toArray, List.getElem_cons_succ, List.getElem_cons_zero, List.setIfInBounds_toArray, List.set_cons_zero, List.set_cons_succ]
  refine wpAnyH_take (i := 7) (v := ?_) rfl (by kernel_rfl) (by kernel_rfl) (by kernel_rfl) (fun _ _ _ h => h) (Or.inl ⟨by rfl, ?_⟩) (by assumption) ?_
  rotate_left
  · intro W hSw
    obtain ⟨q0, q1, q2⟩ := hSw
    go_simp
    with_reducible rfl
  try simp only [Act.put, List.getElem_toArray, List.getElem_cons_succ, List.getElem_cons_zero, List.setIfInBounds_toArray, List.set_cons_zero, List.set_cons_succ]
  refine wpAnyH_take (i := 8) (v := ?_) rfl (by kernel_rfl) (by kernel_rfl) (by kernel_rfl) (fun _ _ _ h => h) (Or.inl ⟨by rfl, ?_⟩) (by assumption) ?_
  rotate_left
  · intro W hSw
    obtain ⟨q0, q1, q2⟩ := hSw
    go_simp
    with_reducible rfl
  try simp only [Act.put, List.getElem_toArray, List.getElem_cons_succ, List.getElem_cons_zero, List.setIfInBounds_toArray, List.set_cons_zero, List.set_cons_succ]
  refine wpAnyH_take (i := 9) (v := ?_) rfl (by kernel_rfl) (by kernel_rfl) (by kernel_rfl) (fun _ _ _ h => h) (Or.inl ⟨by rfl, ?_⟩) (by assumption) ?_
  rotate_left
  · intro W hSw
    obtain ⟨q0, q1, q2⟩ := hSw
    go_simp
    with_reducible rfl
  try simp only [Act.put, List.getElem_toArray, List.getElem_cons_succ, List.getElem_cons_zero, List.setIfInBounds_toArray, List.set_cons_zero, List.set_cons_succ]
  refine wpAnyH_ready (rs := [10]) (by kernel_rfl) (by simp) ?_
  refine AllReadyH.cons (o := _) rfl (fun K' hK => ?_) ?_
  · go_simp
    refine (CE.out _ (grown_drew (grown_refl _ _))).mono ?_
    rintro E w6 ⟨bb, rfl, hbb, hg6⟩
    have GN : Hid (W1.grownBy w6 none) := grown_trans (grown_drew (grown_refl _ _)) hg6
    have HBB : Hid (bb = true ↔ x.E.getD p [] = x.E.getD q []) := hbb
    clear hbb
    go_wp2_with fail
    refine hK.out _ _ (hHeld.kept hg6) (fun hHeld => ?_)
    clear hK K'
    try simp only [Act.put, List.getElem_toArray, List.getElem_cons_succ, List.getElem_cons_zero, List.setIfInBounds_toArray, List.set_cons_zero, List.set_cons_succ]
    refine wpAnyH_ready (rs := [11]) (by kernel_rfl) (by simp) ?_
    refine AllReadyH.cons (o := _) rfl (fun K' hK => ?_) ?_
    · go_simp
      refine hK.out _ _ (by assumption) (fun hHeld => ?_)
      clear hK K'
      try simp only [Act.put, List.getElem_toArray, List.getElem_cons_succ, List.getElem_cons_zero, List.setIfInBounds_toArray, List.set_cons_zero, List.set_cons_succ]
      refine wpAnyH_done (by kernel_rfl) ?_ _
      clear S0 CE
      have ckp := HCL.out w6 GN.out p hp
      have ckq := HCL.out w6 GN.out q hq
      by_cases hk : f p = f q
      · have d1 : ((f p : Int) != (f q : Int)) = false := by rw [hk]; simp
        cases bb with
        | false =>
          have HN : Hid (¬ AlkR x I f p q) := fun e => by have := HBB.out.2 e.2.1; cases this
          clear hk
          go_wp2_with fail
          go_quiet (fail)
          go_wp2_with fail
          first | exact ⟨false, rfl, ⟨(fun e => by cases e), fun e => absurd e HN.out⟩, grown_drewN (grown_trans G1.out GN.out) _⟩ | (go_ret; exact ⟨false, rfl, ⟨(fun e => by cases e), fun e => absurd e HN.out⟩, grown_drewN (grown_trans G1.out GN.out) _⟩)
        | true =>
          have HFE : Hid (f p = f q ∧ x.E.getD p [] = x.E.getD q []) := ⟨hk, HBB.out.1 rfl⟩
          clear hk
          go_wp2_with fail
          go_quiet (fail)
          go_wp2_with fail
          clear ckp ckq d1
          go_loopw [10] (fun v W => ∃ l : Nat, l ≤ I ∧ v = .int .i64 (l : Int) ∧ W1.grownBy W none ∧ ∀ j, j < l → syT x p j = syT x q j ∧ f (nxT x p j) = f (nxT x q j)) (fun v _ => I - (intOf v).toNat)
          case atStart => exact ⟨0, Nat.zero_le _, rfl, grown_drewN GN.out _, fun j hj => by omega⟩
          case round =>
            obtain ⟨l, hl, rfl, hg, hj⟩ := hrel
            have HG : Hid (W1.grownBy wr none) := hg
            have HJ : Hid (∀ j, j < l → syT x p j = syT x q j ∧ f (nxT x p j) = f (nxT x q j)) := hj
            have y0 := (HX.out wr hg).b0
            clear hg hj GN
            by_cases hll : l < I
            · have il : (l : Int) < (I : Int) := by omega
              obtain ⟨b5, o5, sk, sb, so, k1, r1, ha5, hs1⟩ := shp_say HT.out HR.out hp hll
              obtain ⟨b5', o5', uk, ub, uo, k2, r2, ha5', hs2⟩ := shp_say HT.out HR.out hq hll
              obtain ⟨b4, o4, pk, pb, po, ha4, hn1⟩ := shp_next HT.out HR.out hp hll
              obtain ⟨b4', o4', qk, qb, qo, ha4', hn2⟩ := shp_next HT.out HR.out hq hll
              subst ha5 ha4
              cases ha5'
              cases ha4'
              obtain ⟨hnp, _⟩ := HR.out.lt hp hll
              obtain ⟨hnq, _⟩ := HR.out.lt hq hll
              obtain ⟨e1, e2, i1⟩ := hs1 wr HG.out
              obtain ⟨e3, e4, i2⟩ := hs2 wr HG.out
              have hm1 := HR.out.ym p hp l hll
              have hm2 := HR.out.ym q hq l hll
              have CE0 : ∀ W, wr.grownBy W none → Calls Try.prog 14 #[.slice r1 (syT x p l).length k1, .slice r2 (syT x q l).length k2] W (TellsB (syT x p l = syT x q l) W) := fun W hW => wordsR_any _ _ _ _ _ _ W (i1.grown hW) (i2.grown hW) (by unfold maxLen; omega) (by unfold maxLen; omega)
              obtain ⟨n1, hn1'⟩ : ∃ n, (syT x p l).length = n := ⟨_, rfl⟩
              obtain ⟨n2, hn2'⟩ : ∃ n, (syT x q l).length = n := ⟨_, rfl⟩
              rw [hn1'] at CE0 e2
              rw [hn2'] at CE0 e4
              have CE : Hid (∀ W, wr.grownBy W none → Calls Try.prog 14 #[.slice r1 n1 k1, .slice r2 n2 k2] W (TellsB (syT x p l = syT x q l) W)) := CE0
              obtain ⟨np, hnpn⟩ : ∃ n, nxT x p l = n := ⟨_, rfl⟩
              obtain ⟨nq, hnqn⟩ : ∃ n, nxT x q l = n := ⟨_, rfl⟩
              have HNP : Hid (nxT x p l = np ∧ nxT x q l = nq) := ⟨hnpn, hnqn⟩
              rw [hnpn] at hnp hn1
              rw [hnqn] at hnq hn2
              have HN1 : Hid (∀ W, W1.grownBy W none → W.cell? ⟨b4, o4 + p, none⟩ = some (.slice (some ⟨pb, po, none⟩) I pk) ∧ W.cell? ⟨pb, po + l, none⟩ = some (.int .i64 (np : Int))) := hn1
              have HN2 : Hid (∀ W, W1.grownBy W none → W.cell? ⟨b4, o4 + q, none⟩ = some (.slice (some ⟨qb, qo, none⟩) I qk) ∧ W.cell? ⟨qb, qo + l, none⟩ = some (.int .i64 (nq : Int))) := hn2
              have S0 : Hid (SA7 w.heap.size p q l (.slice (some ⟨b5, o5, none⟩) x.Y.length c5) b5 o5 (.slice (some ⟨sb, so, none⟩) I sk) (.slice (some ⟨ub, uo, none⟩) I uk) sb so (.slice r1 n1 k1) ub uo (.slice r2 n2 k2) wr.drew) := ⟨(HX.out wr HG.out).b5, e1, e3, e2, e4⟩
              have ip : (p : Int) < (x.N.length : Int) := by omega
              have iq : (q : Int) < (x.N.length : Int) := by omega
              have inp : (np : Int) < (x.N.length : Int) := by omega
              have inq : (nq : Int) < (x.N.length : Int) := by omega
              have ip5 : (p : Int) < (x.Y.length : Int) := by rw [HL.out.1]; omega
              have iq5 : (q : Int) < (x.Y.length : Int) := by rw [HL.out.1]; omega
              clear hs1 hs2 hn1 hn2 e1 e2 e3 e4 i1 i2 CE0 hn1' hn2' hnpn hnqn hm1 hm2
              go_wp2_with fail
              refine wp_region_held_drew (S := SA7 w.heap.size p q l (.slice (some ⟨b5, o5, none⟩) x.Y.length c5) b5 o5 (.slice (some ⟨sb, so, none⟩) I sk) (.slice (some ⟨ub, uo, none⟩) I uk) sb so (.slice r1 n1 k1) ub uo (.slice r2 n2 k2)) (by kernel_rfl) (S0.out) (fun hHeld => ?_)
              refine wpAnyH_take (i := 0) (v := ?_) rfl (by kernel_rfl) (by kernel_rfl) (by kernel_rfl) (fun _ _ _ h => h) (Or.inl ⟨by rfl, ?_⟩) (by assumption) ?_
              rotate_left
              · intro W hSw
                obtain ⟨q0, q1, q2, q3, q4⟩ := hSw
                go_simp
                with_reducible rfl
              try simp only [Act.put, List.getElem_toArray, List.getElem_cons_succ, List.getElem_cons_zero, List.setIfInBounds_toArray, List.set_cons_zero, List.set_cons_succ]
              refine wpAnyH_take (i := 1) (v := ?_) rfl (by kernel_rfl) (by kernel_rfl) (by kernel_rfl) (fun _ _ _ h => h) (Or.inl ⟨by rfl, ?_⟩) (by assumption) ?_
              rotate_left
              · intro W hSw
                obtain ⟨q0, q1, q2, q3, q4⟩ := hSw
                go_simp
                with_reducible rfl
              try simp only [Act.put, List.getElem_toArray, List.getElem_cons_succ, List.getElem_cons_zero, List.setIfInBounds_toArray, List.set_cons_zero, List.set_cons_succ]
              refine wpAnyH_take (i := 2) (v := ?_) rfl (by kernel_rfl) (by kernel_rfl) (by kernel_rfl) (fun _ _ _ h => h) (Or.inl ⟨by rfl, ?_⟩) (by assumption) ?_
              rotate_left
              · intro W hSw
                obtain ⟨q0, q1, q2, q3, q4⟩ := hSw
                go_simp
                with_reducible rfl
              try simp only [Act.put, List.getElem_toArray, List.getElem_cons_succ, List.getElem_cons_zero, List.setIfInBounds_toArray, List.set_cons_zero, List.set_cons_succ]
              refine wpAnyH_take (i := 3) (v := ?_) rfl (by kernel_rfl) (by kernel_rfl) (by kernel_rfl) (fun _ _ _ h => h) (Or.inl ⟨by rfl, ?_⟩) (by assumption) ?_
              rotate_left
              · intro W hSw
                obtain ⟨q0, q1, q2, q3, q4⟩ := hSw
                go_simp
                with_reducible rfl
              try simp only [Act.put, List.getElem_toArray, List.getElem_cons_succ, List.getElem_cons_zero, List.setIfInBounds_toArray, List.set_cons_zero, List.set_cons_succ]
              refine wpAnyH_take (i := 4) (v := ?_) rfl (by kernel_rfl) (by kernel_rfl) (by kernel_rfl) (fun _ _ _ h => h) (Or.inl ⟨by rfl, ?_⟩) (by assumption) ?_
              rotate_left
              · intro W hSw
                obtain ⟨q0, q1, q2, q3, q4⟩ := hSw
                go_simp
                with_reducible rfl
              try simp only [Act.put, List.getElem_toArray, List.getElem_cons_succ, List.getElem_cons_zero, List.setIfInBounds_toArray, List.set_cons_zero, List.set_cons_succ]
              refine wpAnyH_take (i := 5) (v := ?_) rfl (by kernel_rfl) (by kernel_rfl) (by kernel_rfl) (fun _ _ _ h => h) (Or.inl ⟨by rfl, ?_⟩) (by assumption) ?_
              rotate_left
              · intro W hSw
                obtain ⟨q0, q1, q2, q3, q4⟩ := hSw
                go_simp
                with_reducible rfl
              try simp only [Act.put, List.getElem_toArray, List.getElem_cons_succ, List.getElem_cons_zero, List.setIfInBounds_toArray, List.set_cons_zero, List.set_cons_succ]
              refine wpAnyH_take (i := 6) (v := ?_) rfl (by kernel_rfl) (by kernel_rfl) (by kernel_rfl) (fun _ _ _ h => h) (Or.inl ⟨by rfl, ?_⟩) (by assumption) ?_
              rotate_left
              · intro W hSw
                obtain ⟨q0, q1, q2, q3, q4⟩ := hSw
                go_simp
                with_reducible rfl
              try simp only [Act.put, List.getElem_toArray, List.getElem_cons_succ, List.getElem_cons_zero, List.setIfInBounds_toArray, List.set_cons_zero, List.set_cons_succ]
              refine wpAnyH_take (i := 7) (v := ?_) rfl (by kernel_rfl) (by kernel_rfl) (by kernel_rfl) (fun _ _ _ h => h) (Or.inl ⟨by rfl, ?_⟩) (by assumption) ?_
              rotate_left
              · intro W hSw
                obtain ⟨q0, q1, q2, q3, q4⟩ := hSw
                go_simp
                with_reducible rfl
              try simp only [Act.put, List.getElem_toArray, List.getElem_cons_succ, List.getElem_cons_zero, List.setIfInBounds_toArray, List.set_cons_zero, List.set_cons_succ]
              refine wpAnyH_take (i := 8) (v := ?_) rfl (by kernel_rfl) (by kernel_rfl) (by kernel_rfl) (fun _ _ _ h => h) (Or.inl ⟨by rfl, ?_⟩) (by assumption) ?_
              rotate_left
              · intro W hSw
                obtain ⟨q0, q1, q2, q3, q4⟩ := hSw
                go_simp
                with_reducible rfl
              try simp only [Act.put, List.getElem_toArray, List.getElem_cons_succ, List.getElem_cons_zero, List.setIfInBounds_toArray, List.set_cons_zero, List.set_cons_succ]
              refine wpAnyH_take (i := 9) (v := ?_) rfl (by kernel_rfl) (by kernel_rfl) (by kernel_rfl) (fun _ _ _ h => h) (Or.inl ⟨by rfl, ?_⟩) (by assumption) ?_
              rotate_left
              · intro W hSw
                obtain ⟨q0, q1, q2, q3, q4⟩ := hSw
                go_simp
                with_reducible rfl
              try simp only [Act.put, List.getElem_toArray, List.getElem_cons_succ, List.getElem_cons_zero, List.setIfInBounds_toArray, List.set_cons_zero, List.set_cons_succ]
              refine wpAnyH_take (i := 10) (v := ?_) rfl (by kernel_rfl) (by kernel_rfl) (by kernel_rfl) (fun _ _ _ h => h) (Or.inl ⟨by rfl, ?_⟩) (by assumption) ?_
              rotate_left
              · intro W hSw
                obtain ⟨q0, q1, q2, q3, q4⟩ := hSw
                go_simp
                with_reducible rfl
              try simp only [Act.put, List.getElem_toArray, List.getElem_cons_succ, List.getElem_cons_zero, List.setIfInBounds_toArray, List.set_cons_zero, List.set_cons_succ]
              refine wpAnyH_take (i := 11) (v := ?_) rfl (by kernel_rfl) (by kernel_rfl) (by kernel_rfl) (fun _ _ _ h => h) (Or.inl ⟨by rfl, ?_⟩) (by assumption) ?_
              rotate_left
              · intro W hSw
                obtain ⟨q0, q1, q2, q3, q4⟩ := hSw
                go_simp
                with_reducible rfl
              try simp only [Act.put, List.getElem_toArray, List.getElem_cons_succ, List.getElem_cons_zero, List.setIfInBounds_toArray, List.set_cons_zero, List.set_cons_succ]
              refine wpAnyH_take (i := 12) (v := ?_) rfl (by kernel_rfl) (by kernel_rfl) (by kernel_rfl) (fun _ _ _ h => h) (Or.inl ⟨by rfl, ?_⟩) (by assumption) ?_
              rotate_left
              · intro W hSw
                obtain ⟨q0, q1, q2, q3, q4⟩ := hSw
                go_simp
                with_reducible rfl
              try simp only [Act.put, List.getElem_toArray, List.getElem_cons_succ, List.getElem_cons_zero, List.setIfInBounds_toArray, List.set_cons_zero, List.set_cons_succ]
              refine wpAnyH_take (i := 13) (v := ?_) rfl (by kernel_rfl) (by kernel_rfl) (by kernel_rfl) (fun _ _ _ h => h) (Or.inl ⟨by rfl, ?_⟩) (by assumption) ?_
              rotate_left
              · intro W hSw
                obtain ⟨q0, q1, q2, q3, q4⟩ := hSw
                go_simp
                with_reducible rfl
              try simp only [Act.put, List.getElem_toArray, List.getElem_cons_succ, List.getElem_cons_zero, List.setIfInBounds_toArray, List.set_cons_zero, List.set_cons_succ]
              refine wpAnyH_take (i := 14) (v := ?_) rfl (by kernel_rfl) (by kernel_rfl) (by kernel_rfl) (fun _ _ _ h => h) (Or.inl ⟨by rfl, ?_⟩) (by assumption) ?_
              rotate_left
              · intro W hSw
                obtain ⟨q0, q1, q2, q3, q4⟩ := hSw
                go_simp
                with_reducible rfl
              try simp only [Act.put, List.getElem_toArray, List.getElem_cons_succ, List.getElem_cons_zero, List.setIfInBounds_toArray, List.set_cons_zero, List.set_cons_succ]
              refine wpAnyH_take (i := 15) (v := ?_) rfl (by kernel_rfl) (by kernel_rfl) (by kernel_rfl) (fun _ _ _ h => h) (Or.inl ⟨by rfl, ?_⟩) (by assumption) ?_
              rotate_left
              · intro W hSw
                obtain ⟨q0, q1, q2, q3, q4⟩ := hSw
                go_simp
                with_reducible rfl
              try simp only [Act.put, List.getElem_toArray, List.getElem_cons_succ, List.getElem_cons_zero, List.setIfInBounds_toArray, List.set_cons_zero, List.set_cons_succ]
              refine wpAnyH_ready (rs := [16]) (by kernel_rfl) (by simp) ?_
              refine AllReadyH.cons (o := _) rfl (fun K' hK => ?_) ?_
              · go_simp
                refine (CE.out _ (grown_drew (grown_refl _ _))).mono ?_
                rintro E w6 ⟨bb, rfl, hbb, hg6⟩
                have GN : Hid (W1.grownBy w6 none) := grown_trans HG.out (grown_trans (grown_drew (grown_refl _ _)) hg6)
                have HBB : Hid (bb = true ↔ syT x p l = syT x q l) := hbb
                clear hbb
                go_wp2_with fail
                refine hK.out _ _ (hHeld.kept hg6) (fun hHeld => ?_)
                clear hK K'
                try simp only [Act.put, List.getElem_toArray, List.getElem_cons_succ, List.getElem_cons_zero, List.setIfInBounds_toArray, List.set_cons_zero, List.set_cons_succ]
                refine wpAnyH_ready (rs := [17]) (by kernel_rfl) (by simp) ?_
                refine AllReadyH.cons (o := _) rfl (fun K' hK => ?_) ?_
                · go_simp
                  refine hK.out _ _ (by assumption) (fun hHeld => ?_)
                  clear hK K'
                  try simp only [Act.put, List.getElem_toArray, List.getElem_cons_succ, List.getElem_cons_zero, List.setIfInBounds_toArray, List.set_cons_zero, List.set_cons_succ]
                  refine wpAnyH_done (by kernel_rfl) ?_ _
                  clear S0 CE
                  have e4 := (HX.out w6 GN.out).b4
                  obtain ⟨e5, e6⟩ := HN1.out w6 GN.out
                  obtain ⟨e7, e8⟩ := HN2.out w6 GN.out
                  have ckp := HCL.out w6 GN.out np (by omega)
                  have ckq := HCL.out w6 GN.out nq (by omega)
                  cases bb with
                  | true =>
                    by_cases hk : f np = f nq
                    · have d1 : ((f np : Int) != (f nq : Int)) = false := by rw [hk]; simp
                      have HN : Hid (∀ j, j < l + 1 → syT x p j = syT x q j ∧ f (nxT x p j) = f (nxT x q j)) := fun j hj => by
                        by_cases e : j = l
                        · subst e; exact ⟨HBB.out.1 rfl, by rw [HNP.out.1, HNP.out.2]; exact hk⟩
                        · exact HJ.out j (by omega)
                      clear hk
                      go_wp2_with fail
                      go_quiet (fail)
                      go_wp2_with fail
                      go_roundw
                      case rel => exact ⟨l + 1, by omega, by go_num, grown_drewN GN.out _, HN.out⟩
                      case measure => simp [intOf]; omega
                    · have d1 : ((f np : Int) != (f nq : Int)) = true := by simp; omega
                      have HN : Hid (¬ AlkR x I f p q) := fun e => hk (by have := (e.2.2 l hll).2; rwa [HNP.out.1, HNP.out.2] at this)
                      clear hk
                      go_wp2_with fail
                      go_quiet (fail)
                      go_wp2_with fail
                      first | exact ⟨false, rfl, ⟨(fun e => by cases e), fun e => absurd e HN.out⟩, grown_drewN (grown_trans G1.out GN.out) _⟩ | (go_ret; exact ⟨false, rfl, ⟨(fun e => by cases e), fun e => absurd e HN.out⟩, grown_drewN (grown_trans G1.out GN.out) _⟩)
                  | false =>
                    have HN : Hid (¬ AlkR x I f p q) := fun e => by have := HBB.out.2 (e.2.2 l hll).1; cases this
                    go_wp2_with fail
                    go_quiet (fail)
                    go_wp2_with fail
                    first | exact ⟨false, rfl, ⟨(fun e => by cases e), fun e => absurd e HN.out⟩, grown_drewN (grown_trans G1.out GN.out) _⟩ | (go_ret; exact ⟨false, rfl, ⟨(fun e => by cases e), fun e => absurd e HN.out⟩, grown_drewN (grown_trans G1.out GN.out) _⟩)
                exact AllReadyH.nil
              exact AllReadyH.nil
            · have il : ¬ (l : Int) < (I : Int) := by omega
              have el : l = I := by omega
              subst el
              have HN : Hid (AlkR x l f p q) := ⟨HFE.out.1, HFE.out.2, HJ.out⟩
              go_wp2_with fail
              first | exact ⟨true, rfl, ⟨fun _ => HN.out, fun _ => rfl⟩, grown_trans G1.out HG.out⟩ | (go_ret; exact ⟨true, rfl, ⟨fun _ => HN.out, fun _ => rfl⟩, grown_trans G1.out HG.out⟩)
      · have d1 : ((f p : Int) != (f q : Int)) = true := by simp; omega
        have HN : Hid (¬ AlkR x I f p q) := fun e => hk e.1
        clear hk
        go_wp2_with fail
        go_quiet (fail)
        go_wp2_with fail
        first | exact ⟨false, rfl, ⟨(fun e => by cases e), fun e => absurd e HN.out⟩, grown_drewN (grown_trans G1.out GN.out) _⟩ | (go_ret; exact ⟨false, rfl, ⟨(fun e => by cases e), fun e => absurd e HN.out⟩, grown_drewN (grown_trans G1.out GN.out) _⟩)
    exact AllReadyH.nil
  exact AllReadyH.nil

end Go.Proofs.Ytodcmlcpicabaaa
