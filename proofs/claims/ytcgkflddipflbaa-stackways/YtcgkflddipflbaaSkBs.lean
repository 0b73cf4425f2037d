/- The reference's Can, Behind, Same. -/
/- The reference's Behind: what a rule makes of a config. -/
import Derived.Test.YtcgkflddipflbaaSkSpec
import Derived.Test.YtcgkflddipflbaaYSk
import Derived.Test.YtcgkflddipflbaaSkChk
namespace Go.Proofs.Ytcgkflddipflbaa
open Go.RowKit
set_option linter.unusedVariables false

theorem two_boxK (w : World) (u0 u1 u2 u3 v0 v1 : Value) (t s : TypeId) : ∃ W, W = (w.alloc (.cells #[u0, u1, u2, u3] t)).alloc (.cells #[v0, v1] s) ∧ w.grownBy W none ∧ W.heap.size = w.heap.size + 1 + 1 ∧ ∀ W', W.grownBy W' none → (W'.cell? ⟨w.heap.size, 0, none⟩ = some u0 ∧ W'.cell? ⟨w.heap.size, 1, none⟩ = some u1 ∧ W'.cell? ⟨w.heap.size, 2, none⟩ = some u2 ∧ W'.cell? ⟨w.heap.size, 3, none⟩ = some u3) ∧ W'.cell? ⟨w.heap.size + 1, 0, none⟩ = some v0 ∧ W'.cell? ⟨w.heap.size + 1, 1, none⟩ = some v1 := by
  obtain ⟨W0, hW0, g0, s0, bx0⟩ := box4s_new w u0 u1 u2 u3 t
  obtain ⟨W1, hW1, g1, s1, bx1⟩ := box2_new W0 v0 v1 s
  refine ⟨W1, by rw [hW1, hW0], grown_trans g0 g1, by rw [s1, s0], fun W' h => ⟨bx0 W' (grown_trans g1 h), ?_⟩⟩
  have := bx1 W' h
  rwa [s0] at this

set_option maxHeartbeats 3200000 in
set_option maxRecDepth 100000 in
theorem canSk_any (r : Psh) (c : Cfg) (ap b : Option Addr) (cp k : Nat) (w : World) (hc : Ints w b c.2) (hcm : c.2.length ≤ maxLen) :
    Calls Try.prog 12 #[pshV r.F r.T r.O ap r.P.length cp, cfgV c.1 b c.2.length k] w (TellsB (CanSk r c) w) := by
  unfold maxLen at hcm
  obtain ⟨W1, hW1, g1, s1, bx1⟩ := two_boxK w (.int .i64 r.F) (.int .i64 r.T) (.int .i64 r.O) (.slice ap r.P.length cp) (.int .i64 c.1) (.slice b c.2.length k) 43 25
  obtain ⟨⟨t0, t1, t2, t3⟩, v0, v1⟩ := bx1 W1 (grown_refl _ _)
  have HI : Hid (Ints W1 b c.2) := hc.grown g1
  have HW1 : Hid (W1 = _) := hW1
  have G1 : Hid (w.grownBy W1 none) := g1
  have HE : Hid (CanSk r c ↔ c.1 = r.F ∧ 0 < c.2.length ∧ c.2.getD 0 0 = r.T) := Iff.rfl
  obtain ⟨xF, xT, xO, xP⟩ := r
  obtain ⟨c0, cs⟩ := c
  simp only at *
  generalize CanSk ⟨xF, xT, xO, xP⟩ (c0, cs) = PC at *
  generalize xP.length = np at *
  obtain ⟨z0, hz0⟩ : ∃ z, cs.getD 0 0 = z := ⟨_, rfl⟩
  rw [hz0] at HE
  have HI0 : Hid (0 < cs.length → ∃ bs os, b = some ⟨bs, os, none⟩ ∧ W1.cell? ⟨bs, os, none⟩ = some (.int .i64 z0)) := fun hq => by
    obtain ⟨bs, os, e, hcc⟩ := HI.out.at (k := 0) hq
    have := hcc 0 hq
    rw [hz0, Nat.add_zero] at this
    exact ⟨bs, os, e, this⟩
  clear HI hz0 hc g1 s1 bx1
  generalize cs.length = nc at *
  by_cases h1 : c0 = xF
  case neg =>
    have d1 : (c0 == xF) = false := by simpa using h1
    have HF : Hid (¬ PC) := fun e => h1 (HE.out.1 e).1
    clear HE HI0 h1 hW1
    go_enter Try.func12, Try.ntmps12
    go_wp2_with fail
    rw [← HW1.out]
    go_quiet (fail)
    go_wp2_with fail
    go_ret
    exact tellsB false rfl ⟨(fun e => by cases e), fun e => absurd e HF.out⟩ (grown_drewN G1.out _)
  have d1 : (c0 == xF) = true := by simpa using h1
  have H1 : Hid (c0 = xF) := h1
  clear h1
  by_cases h2 : 0 < nc
  case neg =>
    have d2 : decide ((0 : Int) < (nc : Int)) = false := by simp; omega
    have d2' : decide (0 < nc) = false := by simp; omega
    have HF : Hid (¬ PC) := fun e => h2 (HE.out.1 e).2.1
    clear HE HI0 h2 hW1
    go_enter Try.func12, Try.ntmps12
    go_wp2_with fail
    rw [← HW1.out]
    go_quiet (fail)
    go_wp2_with fail
    go_ret
    exact tellsB false rfl ⟨(fun e => by cases e), fun e => absurd e HF.out⟩ (grown_drewN G1.out _)
  have d2 : decide ((0 : Int) < (nc : Int)) = true := by simp; omega
  have d2' : decide (0 < nc) = true := by simp; omega
  have hi0 : (0 : Int) < (nc : Int) := by omega
  obtain ⟨bs, os, rfl, hcz⟩ := HI0.out h2
  obtain ⟨q, hq⟩ : ∃ q, (z0 == xT) = q := ⟨_, rfl⟩
  have HQ : Hid (q = true ↔ PC) := by
    show _ ↔ _
    rw [← hq, HE.out, beq_iff_eq]
    exact ⟨fun e => ⟨H1.out, h2, e⟩, fun e => e.2.2⟩
  clear HE HI0 H1 hW1
  go_enter Try.func12, Try.ntmps12
  go_wp2_with fail
  rw [← HW1.out]
  go_quiet (fail)
  go_wp2_with fail
  go_ret
  exact tellsB q (by first | rfl | rw [hq]) HQ.out (grown_drewN G1.out _)

def SameSk (c d : Cfg) : Prop := c = d
set_option maxHeartbeats 3200000 in
set_option maxRecDepth 100000 in
theorem sameSk_any (c d : Cfg) (a b : Option Addr) (k l : Nat) (w : World) (ha : Ints w a c.2) (hb : Ints w b d.2) (hcm : c.2.length ≤ maxLen) (hdm : d.2.length ≤ maxLen) :
    Calls Try.prog 14 #[cfgV c.1 a c.2.length k, cfgV d.1 b d.2.length l] w (TellsB (SameSk c d) w) := by
  unfold maxLen at hcm hdm
  obtain ⟨W0, hW0, g0, s0, bx0⟩ := box2_new w (.int .i64 c.1) (.slice a c.2.length k) 25
  obtain ⟨W1, hW1, g1, s1, bx1⟩ := box2_new W0 (.int .i64 d.1) (.slice b d.2.length l) 25
  rw [s0] at bx1
  have BX : Hid (∀ W', W1.grownBy W' none → (W'.cell? ⟨w.heap.size, 0, none⟩ = some (.int .i64 c.1) ∧ W'.cell? ⟨w.heap.size, 1, none⟩ = some (.slice a c.2.length k)) ∧ (W'.cell? ⟨w.heap.size + 1, 0, none⟩ = some (.int .i64 d.1) ∧ W'.cell? ⟨w.heap.size + 1, 1, none⟩ = some (.slice b d.2.length l))) := fun W' h => ⟨bx0 W' (grown_trans g1 h), bx1 W' h⟩
  obtain ⟨⟨t0, t1⟩, v0, v1⟩ := BX.out W1 (grown_refl _ _)
  have G1 : Hid (w.grownBy W1 none) := grown_trans g0 g1
  have HA : Hid (Ints W1 a c.2) := ha.grown G1.out
  have HB : Hid (Ints W1 b d.2) := hb.grown G1.out
  rw [hW0] at hW1
  have HW1 : Hid (W1 = _) := hW1
  rw [hW1] at t0 t1 v0 v1
  clear ha hb hW0 hW1 g0 g1 s0 s1 bx0 bx1
  obtain ⟨c0, cs⟩ := c
  obtain ⟨e0, ds⟩ := d
  simp only at *
  have HE : Hid (SameSk (c0, cs) (e0, ds) ↔ c0 = e0 ∧ cs = ds) := by show SameSk _ _ ↔ _; unfold SameSk; simp
  generalize SameSk (c0, cs) (e0, ds) = PC at *
  obtain ⟨n, hn⟩ : ∃ n, cs.length = n := ⟨_, rfl⟩
  obtain ⟨m, hm⟩ : ∃ m, ds.length = m := ⟨_, rfl⟩
  have HN : Hid (cs.length = n ∧ ds.length = m) := ⟨hn, hm⟩
  rw [hn] at hcm t1 BX HW1 v0 v1 t0 ⊢
  rw [hm] at hdm t1 BX HW1 v0 v1 t0 ⊢
  clear hn hm
  by_cases h1 : c0 = e0
  case neg =>
    have d1 : (c0 != e0) = true := by simpa using h1
    have HF : Hid (¬ PC) := fun e => h1 (HE.out.1 e).1
    clear HE h1
    go_enter Try.func14, Try.ntmps14
    go_wp2_with fail
    rw [← HW1.out]
    go_ret
    exact tellsB false rfl ⟨(fun e => by cases e), fun e => absurd e HF.out⟩ G1.out
  have d1 : (c0 != e0) = false := by simpa using h1
  by_cases h2 : n = m
  case neg =>
    have d2 : ((n : Int) != (m : Int)) = true := by simp; omega
    have HF : Hid (¬ PC) := fun e => h2 (by rw [← HN.out.1, ← HN.out.2, (HE.out.1 e).2])
    clear HE h1 h2
    go_enter Try.func14, Try.ntmps14
    go_wp2_with fail
    rw [← HW1.out]
    go_ret
    exact tellsB false rfl ⟨(fun e => by cases e), fun e => absurd e HF.out⟩ G1.out
  have d2 : ((n : Int) != (m : Int)) = false := by simp; omega
  have HE2 : Hid (PC ↔ ∀ j, j < n → cs.getD j 0 = ds.getD j 0) := by
    show PC ↔ _
    rw [HE.out]
    refine ⟨fun e j _ => by rw [e.2], fun e => ⟨h1, ?_⟩⟩
    refine List.ext_getElem (by rw [HN.out.1, HN.out.2, h2]) (fun j j1 j2 => ?_)
    have := e j (by rw [← HN.out.1]; exact j1)
    rwa [getD_lt j1, getD_lt j2] at this
  have H2 : Hid (n = m) := h2
  clear HE h1 h2
  go_enter Try.func14, Try.ntmps14
  go_wp2_with fail
  rw [← HW1.out]
  clear t0 t1 v0 v1 d1 d2
  go_loopw [5] (fun v wr => ∃ q : Nat, q ≤ n ∧ v = .int .i64 q ∧ W1.grownBy wr none ∧ ∀ j, j < q → cs.getD j 0 = ds.getD j 0) (fun v _ => n - (intOf v).toNat)
  case atStart => exact ⟨0, by omega, rfl, grown_refl _ _, fun j hj => by omega⟩
  case round =>
    obtain ⟨q, hq, rfl, hgw, hg⟩ := hrel
    have HJ : Hid (∀ j, j < q → cs.getD j 0 = ds.getD j 0) := hg
    have G : Hid (W1.grownBy wr none) := hgw
    obtain ⟨⟨t0, t1⟩, v0, v1⟩ := BX.out wr hgw
    clear hg
    by_cases hlt : q < n
    · have hq1 : (q : Int) < (n : Int) := by omega
      have hq2 : (q : Int) < (m : Int) := by have := H2.out; omega
      obtain ⟨bx, ox, rfl, hcx⟩ := (HA.out.grown hgw).at (k := q) (by rw [HN.out.1]; exact hlt)
      obtain ⟨bY, oY, rfl, hcy⟩ := (HB.out.grown hgw).at (k := q) (by rw [HN.out.2]; omega)
      have c3 := hcx q (by rw [HN.out.1]; exact hlt)
      have c4 := hcy q (by rw [HN.out.2]; omega)
      have HNo : Hid (cs.getD q 0 ≠ ds.getD q 0 → ¬ PC) := fun e1 e2 => e1 (HE2.out.1 e2 q hlt)
      have HYes : Hid (cs.getD q 0 = ds.getD q 0 → ∀ j, j < q + 1 → cs.getD j 0 = ds.getD j 0) := fun e1 j hj => by
        by_cases e : j = q
        · subst e; exact e1
        · exact HJ.out j (by omega)
      clear hcx hcy hgw
      generalize cs.getD q 0 = u at *
      generalize ds.getD q 0 = v at *
      by_cases huv : u = v
      · have huv' : (u != v) = false := by simpa using huv
        have HT : Hid _ := HYes.out huv
        clear HNo HYes huv
        go_wp2_with fail
        go_quiet (fail)
        go_wp2_with fail
        go_roundw
        case rel => exact ⟨q + 1, by omega, by go_num, grown_drewN G.out _, HT.out⟩
        case measure => simp [intOf]; omega
      · have huv' : (u != v) = true := by simpa using huv
        have HF : Hid (¬ PC) := HNo.out huv
        clear HNo HYes huv
        go_wp2_with fail
        go_quiet (fail)
        go_wp2_with fail
        go_ret
        exact tellsB false rfl ⟨(fun e => by cases e), fun e => absurd e HF.out⟩ (grown_drewN (grown_trans G1.out G.out) _)
    · have hq1 : ¬ (q : Int) < (n : Int) := by omega
      have HT : Hid PC := HE2.out.2 (fun j hj => HJ.out j (by omega))
      clear hgw
      go_wp2_with fail
      go_ret
      exact tellsB true rfl ⟨fun _ => HT.out, fun _ => rfl⟩ (grown_trans G1.out G.out)

end Go.Proofs.Ytcgkflddipflbaa

namespace Go.Proofs.Ytcgkflddipflbaa
open Go.RowKit
set_option linter.unusedVariables false
set_option linter.unusedSimpArgs false

theorem cfg_store {W : World} {B : Nat} {t : TypeId} (h : W.heap[B]? = some (.cells #[.int .i64 0, .slice none 0 0] t (0, 0))) (c : Int) (v : Value) :
    W.cell? ⟨B, 0, none⟩ = some (.int .i64 0) ∧ W.cell? ⟨B, 1, none⟩ = some (.slice none 0 0) ∧ W.frozen? ⟨B, 0, none⟩ = false ∧ W.frozen? ⟨B, 1, none⟩ = false ∧ ∃ W', W' = (W.setCell ⟨B, 0, none⟩ (.int .i64 c)).setCell ⟨B, 1, none⟩ v ∧ W.grownBy W' (some B) ∧ W'.cell? ⟨B, 0, none⟩ = some (.int .i64 c) ∧ W'.cell? ⟨B, 1, none⟩ = some v := by
  have h1 := heap_setCell_same W B 0 _ _ (.int .i64 c) h
  have h2 := heap_setCell_same _ B 1 _ _ v h1
  refine ⟨by rw [cell_of_row _ _ 0 _ _ (0, 0) h]; rfl, by rw [cell_of_row _ _ 1 _ _ (0, 0) h]; rfl, frozen_of_row _ _ _ _ _ h, frozen_of_row _ _ _ _ _ h, _, rfl, grown_trans (grown_set _ _ _) (grown_set _ _ _), ?_, ?_⟩
  · rw [cell_of_row _ _ 0 _ _ (0, 0) h2]; simp
  · rw [cell_of_row _ _ 1 _ _ (0, 0) h2]; simp

theorem app_anyK {w : World} {B : Nat} {a0 a : Option Addr} {c0 c : Nat} {xs us : List Int} (ho : w.ownsRow B 3 1 (.slice a0 xs.length c0) xs.length (numsI xs)) (hB : B ≤ w.heap.size) (hu : Ints w a us) (hl : xs.length + us.length ≤ 100000) :
    ∃ a1 c1 w', (AppY #[23, 23] 23 #[.slice a0 xs.length c0, .slice a us.length c]).run Try.prog w = .ok (.slice a1 (xs.length + us.length) c1) w' ∧ w'.ownsRow B 3 1 (.slice a1 (xs ++ us).length c1) (xs ++ us).length (numsI (xs ++ us)) ∧ w.grownBy w' (Value.slice a0 xs.length c0).ownBlock := by
  obtain ⟨i0, hi0, hz0, hz1, hz2⟩ := info_partsY Try.infoI64Y
  by_cases he : us = []
  · subst he
    refine ⟨a0, c0, w, ?_, by simpa using ho, grown_refl _ _⟩
    have hc := ho.2
    rcases hc with ⟨h1, _⟩ | ⟨g', cap', cur, h1, _, _, h4, _⟩
    · simp only [Value.slice.injEq] at h1
      obtain ⟨rfl, h2, rfl⟩ := h1
      rw [h2]
      cases a with
      | none => simp [AppY, Builtin.append_, run_underlying Try.underlying23, sizeOf, typeInfo, zeroValue, hi0, hz0, Builtin.lenOf, run_firstCells_none, storeCells]
      | some b =>
        have hf := run_firstCells_some (P := Try.prog) w i0.size 0 b 0 c [] (by simp) (by simp)
        simp [AppY, Builtin.append_, run_underlying Try.underlying23, sizeOf, typeInfo, zeroValue, hi0, hz0, Builtin.lenOf, hf, storeCells]
    · simp only [Value.slice.injEq] at h1
      obtain ⟨rfl, _, rfl⟩ := h1
      have h5 : ¬ c0 < xs.length := by omega
      cases a with
      | none => simp [AppY, Builtin.append_, run_underlying Try.underlying23, sizeOf, typeInfo, zeroValue, hi0, hz0, Builtin.lenOf, run_firstCells_none, storeCells, h5, h4]
      | some b =>
        have hf := run_firstCells_some (P := Try.prog) w i0.size 0 b 0 c [] (by simp) (by simp)
        simp [AppY, Builtin.append_, run_underlying Try.underlying23, sizeOf, typeInfo, zeroValue, hi0, hz0, Builtin.lenOf, hf, storeCells, h5, h4]
  · have hlen : 0 < us.length := List.length_pos_iff.2 he
    obtain ⟨b, off, rfl, hc⟩ := hu.at hlen
    obtain ⟨g1, c1, w1, hr, h2, h3, _, _⟩ := run_append_lies (P := Try.prog) w 23 23 B 3 i0 (.int .i64 0) 1 8 Try.underlying23 hi0 hz0 hz1 hz2 rfl (by decide) (.slice a0 xs.length c0) xs.length (numsI xs) ho ⟨b, off, none⟩ us.length c (numsI us) (by simp [numsI]) (fun j u hu => by
        have hj : j < us.length := by have := (List.getElem?_eq_some_iff.1 hu).1; simpa [numsI] using this
        have e : (⟨b, off, none⟩ : Addr).add j = ⟨b, off + j, none⟩ := by by_cases hj0 : j = 0 <;> simp [Addr.add, hj0]
        rw [e, hc j hj, ← hu]
        simp [numsI, hj, List.getD]) (by intro u hu; simp [numsI] at hu; obtain ⟨x, _, rfl⟩ := hu; rfl) hlen (by unfold maxLen; omega) (by omega) hB _ rfl
    refine ⟨some ⟨g1, 0, none⟩, c1, w1, hr, ?_, h3⟩
    have e : numsI xs ++ numsI us = numsI (xs ++ us) := by simp [numsI]
    rw [List.length_append, ← e]
    exact h2

def BehPost (r : Psh) (c : Cfg) (w : World) (E : Ending) (w' : World) : Prop := ∃ a k, E = .returned (cfgV (behSk r c).1 a (behSk r c).2.length k) ∧ Ints w' a (behSk r c).2 ∧ w.grownBy w' none ∧ (∀ y, a = some y → w.heap.size ≤ y.block) ∧ (behSk r c).2.length ≤ k
theorem four_boxK (w : World) (u0 u1 u2 u3 v0 v1 x0 : Value) (t s : TypeId) : ∃ W, W = ((((w.alloc (.cells #[u0, u1, u2, u3] t)).alloc (.cells #[v0, v1] s)).alloc (.cells #[.int .i64 0, .slice none 0 0] s)).alloc (.cells #[x0, .slice none 0 0] s)) ∧ w.grownBy W none ∧ W.heap.size = w.heap.size + 4 ∧ W.heap[w.heap.size + 1 + 1]? = some (.cells #[.int .i64 0, .slice none 0 0] s (0, 0)) ∧ W.heap[w.heap.size + 1 + 1 + 1]? = some (.cells #[x0, .slice none 0 0] s (0, 0)) ∧ ∀ W', W.grownBy W' none → (W'.cell? ⟨w.heap.size, 0, none⟩ = some u0 ∧ W'.cell? ⟨w.heap.size, 1, none⟩ = some u1 ∧ W'.cell? ⟨w.heap.size, 2, none⟩ = some u2 ∧ W'.cell? ⟨w.heap.size, 3, none⟩ = some u3) ∧ W'.cell? ⟨w.heap.size + 1, 0, none⟩ = some v0 ∧ W'.cell? ⟨w.heap.size + 1, 1, none⟩ = some v1 := by
  obtain ⟨W1, hW1, g1, s1, bx1⟩ := two_boxK w u0 u1 u2 u3 v0 v1 t s
  obtain ⟨W2, hW2, g2, s2, _⟩ := box2_new W1 (.int .i64 0) (.slice none 0 0) s
  obtain ⟨W3, hW3, g3, s3, _⟩ := box2_new W2 x0 (.slice none 0 0) s
  have h2 := heap_alloc_new W1 (.cells #[.int .i64 0, .slice none 0 0] s)
  rw [← hW2, s1] at h2
  have h3 := heap_alloc_new W2 (.cells #[x0, .slice none 0 0] s)
  rw [← hW3, s2, s1] at h3
  exact ⟨W3, by rw [hW3, hW2, hW1], grown_trans g1 (grown_trans g2 g3), by omega, (g3.block _ (by omega) (by simp)).trans h2, h3, fun W' h => bx1 W' (grown_trans g2 (grown_trans g3 h))⟩
theorem cap_of_row {w : World} {B n c : Nat} {a : Option Addr} {zs : List Int} (h : w.ownsRow B 3 1 (.slice a n c) zs.length (numsI zs)) : zs.length ≤ c := by
  have h2 := h.2
  rcases h2 with ⟨h1, h3⟩ | ⟨g, cap, cur, h1, _, _, h4, _⟩
  · omega
  · simp only [Value.slice.injEq] at h1
    omega

attribute [local go_sem ↓] appY_fold in
set_option maxHeartbeats 6400000 in
set_option maxRecDepth 100000 in
theorem behSk_any (r : Psh) (c : Cfg) (ap b : Option Addr) (cp k : Nat) (w : World) (hp : Ints w ap r.P) (hc : Ints w b c.2) (hpl : r.P.length ≤ 300) (hcl : c.2.length ≤ 20000) (hc0 : 0 < c.2.length) (hck : c.2.length ≤ k) :
    Calls Try.prog 13 #[pshV r.F r.T r.O ap r.P.length cp, cfgV c.1 b c.2.length k] w (BehPost r c w) := by
  obtain ⟨W4, hW4, g4, s4, hr4, ho4, bx4⟩ := four_boxK w (.int .i64 r.F) (.int .i64 r.T) (.int .i64 r.O) (.slice ap r.P.length cp) (.int .i64 c.1) (.slice b c.2.length k) (.int .i64 r.O) 43 25
  obtain ⟨at', kt, htl, hkt, hti⟩ := tail_run b c.2.length k (by omega) hck
  have HTl : Hid (∀ W, Ints W b c.2 → Ints W at' (c.2.drop 1)) := fun W hW => hti W c.2 rfl hW
  have hdl : (c.2.drop 1).length = c.2.length - 1 := by simp
  -- the first append
  obtain ⟨a1, c1, wA, hrA, hoA, hgA⟩ := app_anyK (w := W4) (B := W4.heap.size) (a0 := none) (c0 := 0) (c := cp) (xs := []) (World.ownsRow_nil W4 _ _ _) (Nat.le_refl _) (hp.grown g4) (by simp; omega)
  simp only [List.length_nil, List.nil_append, Nat.zero_add] at hrA hoA
  have hgA : W4.grownBy wA none := hgA
  have ho1 : wA.heap[w.heap.size + 1 + 1 + 1]? = some (.cells #[.int .i64 r.O, .slice none 0 0] 25 (0, 0)) := (hgA.block _ (by omega) (by simp)).trans ho4
  have q0 : wA.cell? ⟨w.heap.size + 1 + 1 + 1, 0, none⟩ = some (.int .i64 r.O) := by rw [cell_of_row _ _ 0 _ _ (0, 0) ho1]; rfl
  have q1 : wA.cell? ⟨w.heap.size + 1 + 1 + 1, 1, none⟩ = some (.slice none 0 0) := by rw [cell_of_row _ _ 1 _ _ (0, 0) ho1]; rfl
  have q2 : wA.frozen? ⟨w.heap.size + 1 + 1 + 1, 1, none⟩ = false := frozen_of_row _ _ _ _ _ ho1
  obtain ⟨W5, hW5⟩ : ∃ W5, W5 = wA.setCell ⟨w.heap.size + 1 + 1 + 1, 1, none⟩ (.slice a1 r.P.length c1) := ⟨_, rfl⟩
  have g5 : wA.grownBy W5 (some (w.heap.size + 1 + 1 + 1)) := by rw [hW5]; exact grown_set _ _ _
  have ho5 := heap_setCell_same wA (w.heap.size + 1 + 1 + 1) 1 _ _ (.slice a1 r.P.length c1) ho1
  rw [← hW5] at ho5
  have n5 : W5.cell? ⟨w.heap.size + 1 + 1 + 1, 1, none⟩ = some (.slice a1 r.P.length c1) := by rw [cell_of_row _ _ 1 _ _ (0, 0) ho5]; simp
  have row5 : W5.ownsRow W4.heap.size 3 1 (.slice a1 r.P.length c1) r.P.length (numsI r.P) := hoA.kept g5 (.inr (fun e => by have := (hoA.lt _ e).1; omega))
  have G5 : w.grownBy W5 none := grown_new (grown_trans g4 hgA) g5 (by omega)
  have G45 : W4.grownBy W5 (some (w.heap.size + 1 + 1 + 1)) := grown_trans (grown_some hgA) g5
  -- the second
  obtain ⟨a2, c2, wB, hrB, hoB, hgB⟩ := app_anyK (w := W5.drew) (B := W4.heap.size) (c := kt) (us := c.2.drop 1) (row5.kept (grown_drew (grown_refl W5 none)) (by cases (Value.slice a1 r.P.length c1).ownBlock <;> simp)) (G45.size) (HTl.out _ (hc.grown (grown_drew G5))) (by rw [hdl]; omega)
  rw [hdl] at hrB
  have hblk : ∀ q, (Value.slice a1 r.P.length c1).ownBlock = some q → W4.heap.size ≤ q := fun q e => (row5.lt q e).1
  have far : ∀ i, i < W4.heap.size → wB.heap[i]? = W5.heap[i]? := fun i hi => hgB.block i (Nat.lt_of_lt_of_le hi G45.size) (fun e => by have := hblk i e.symm; omega)
  have hoZ : wB.heap[w.heap.size + 1 + 1 + 1]? = _ := (far _ (by omega)).trans ho5
  have hrZ : wB.heap[w.heap.size + 1 + 1]? = some (.cells #[.int .i64 0, .slice none 0 0] 25 (0, 0)) := by
    rw [far _ (by omega), g5.block _ (by have := hgA.size; omega) (by simp), hgA.block _ (by omega) (by simp)]
    exact hr4
  have p0 : wB.cell? ⟨w.heap.size + 1 + 1 + 1, 0, none⟩ = some (.int .i64 r.O) := by rw [cell_of_row _ _ 0 _ _ (0, 0) hoZ]; simp
  have p1 : wB.cell? ⟨w.heap.size + 1 + 1 + 1, 1, none⟩ = some (.slice a1 r.P.length c1) := by rw [cell_of_row _ _ 1 _ _ (0, 0) hoZ]; simp
  have p2 : wB.frozen? ⟨w.heap.size + 1 + 1 + 1, 1, none⟩ = false := frozen_of_row _ _ _ _ _ hoZ
  have GB : w.grownBy wB none := grown_of_below ((below_of_grown (grown_drew G5)).grown hgB (grown_drew G5).size (fun q hq => by have := hblk q hq; omega))
  obtain ⟨W6, hW6⟩ : ∃ W6, W6 = wB.setCell ⟨w.heap.size + 1 + 1 + 1, 1, none⟩ (.slice a2 (r.P.length + (c.2.length - 1)) c2) := ⟨_, rfl⟩
  have g6 : wB.grownBy W6 (some (w.heap.size + 1 + 1 + 1)) := by rw [hW6]; exact grown_set _ _ _
  have ho6 := heap_setCell_same wB (w.heap.size + 1 + 1 + 1) 1 _ _ (.slice a2 (r.P.length + (c.2.length - 1)) c2) hoZ
  rw [← hW6] at ho6
  have u0 : W6.cell? ⟨w.heap.size + 1 + 1 + 1, 0, none⟩ = some (.int .i64 r.O) := by rw [cell_of_row _ _ 0 _ _ (0, 0) ho6]; simp
  have u1 : W6.cell? ⟨w.heap.size + 1 + 1 + 1, 1, none⟩ = some (.slice a2 (r.P.length + (c.2.length - 1)) c2) := by rw [cell_of_row _ _ 1 _ _ (0, 0) ho6]; simp
  have hr6 : W6.heap[w.heap.size + 1 + 1]? = some (.cells #[.int .i64 0, .slice none 0 0] 25 (0, 0)) := (g6.block _ (by have := GB.size; have := hgB.size; have := G45.size; simp at *; omega) (by simp)).trans hrZ
  have row6 : W6.ownsRow W4.heap.size 3 1 (.slice a2 (r.P ++ c.2.drop 1).length c2) (r.P ++ c.2.drop 1).length (numsI (r.P ++ c.2.drop 1)) := hoB.kept g6 (.inr (fun e => by have := (hoB.lt _ e).1; omega))
  obtain ⟨xr0, xr1, fr0, fr1, W7, hW7, g7, xw0, xw1⟩ := cfg_store hr6 r.O (.slice a2 (r.P.length + (c.2.length - 1)) c2)
  have row7 : W7.ownsRow W4.heap.size 3 1 (.slice a2 (r.P ++ c.2.drop 1).length c2) (r.P ++ c.2.drop 1).length (numsI (r.P ++ c.2.drop 1)) := row6.kept g7 (.inr (fun e => by have := (row6.lt _ e).1; omega))
  have G7 : w.grownBy W7 none := grown_new (grown_new GB g6 (by omega)) g7 (by omega)
  obtain ⟨Po, hPo⟩ : ∃ P, P = BehPost r c w := ⟨_, rfl⟩
  have Fin : Hid (Po (.returned (cfgV r.O a2 (r.P.length + (c.2.length - 1)) c2)) W7) := by
    show Po _ _
    rw [hPo]
    refine ⟨a2, c2, by show _ = Ending.returned (cfgV r.O a2 (r.P ++ c.2.drop 1).length c2); rw [List.length_append, hdl], ints_of_row row7, G7, fun y hy => ?_, cap_of_row row7⟩
    have := new_of_row row7 y hy
    omega
  rw [← hPo]
  obtain ⟨⟨t0, t1, t2, t3⟩, v0, v1⟩ := bx4 W4 (grown_refl _ _)
  have v1' : W5.cell? ⟨w.heap.size + 1, 1, none⟩ = some (.slice b c.2.length k) := by
    have h1 := (bx4 wA hgA).2.2
    exact g5.cell h1 (by simp)
  have t3' : W4.cell? ⟨w.heap.size + 1 + 1 + 1, 1, none⟩ = some (.slice none 0 0) := by rw [cell_of_row _ _ 1 _ _ (0, 0) ho4]; rfl
  have HW4 : Hid (W4 = _) := hW4
  have HW5 : Hid (W5 = _) := hW5
  have HW6 : Hid (W6 = _) := hW6
  have HW7 : Hid (W7 = _) := hW7
  rw [hW4] at t0 t1 t2 t3 v0 v1 t3' hrA
  clear hp hc hpl hcl hck hti HTl hdl hoA hgA ho1 row5 G5 G45 hoB hgB hblk far hoZ hrZ GB ho6 hr6 row6 row7 G7 g4 g5 g6 g7 s4 hr4 ho4 bx4 ho5 hPo hW4 hW5 hW6 hW7
  go_enter Try.func13, Try.ntmps13
  go_wp2_with fail
  rw [← HW5.out]
  go_region
  rw [← HW6.out]
  go_wp2_with fail
  rw [← HW7.out]
  first | exact Fin.out | exact bodyPost_ret (v := cfgV r.O a2 (r.P.length + (c.2.length - 1)) c2) (by simp [results, Try.results13, go_sem, xw0, xw1]) rfl Fin.out

end Go.Proofs.Ytcgkflddipflbaa
