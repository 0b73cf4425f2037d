/- The reference's Can, Behind, Same. -/
import Derived.Test.YtmoaolfenllhlaaSkSpec
import Derived.Test.YtmoaolfenllhlaaSkCat
namespace Go.Proofs.Ytmoaolfenllhlaa
open Go.RowKit
set_option linter.unusedVariables false

theorem two_boxK (w : World) (u0 u1 u2 u3 v0 v1 : Value) (t s : TypeId) : ∃ W, W = (w.alloc (.cells #[u0, u1, u2, u3] t)).alloc (.cells #[v0, v1] s) ∧ w.grownBy W none ∧ W.heap.size = w.heap.size + 1 + 1 ∧ ∀ W', W.grownBy W' none → (W'.cell? ⟨w.heap.size, 0, none⟩ = some u0 ∧ W'.cell? ⟨w.heap.size, 1, none⟩ = some u1 ∧ W'.cell? ⟨w.heap.size, 2, none⟩ = some u2 ∧ W'.cell? ⟨w.heap.size, 3, none⟩ = some u3) ∧ W'.cell? ⟨w.heap.size + 1, 0, none⟩ = some v0 ∧ W'.cell? ⟨w.heap.size + 1, 1, none⟩ = some v1 := by
  obtain ⟨W0, hW0, g0, s0, bx0⟩ := box4s_new w u0 u1 u2 u3 t
  obtain ⟨W1, hW1, g1, s1, bx1⟩ := box2_new W0 v0 v1 s
  refine ⟨W1, by rw [hW1, hW0], grown_trans g0 g1, by rw [s1, s0], fun W' h => ⟨bx0 W' (grown_trans g1 h), ?_⟩⟩
  have := bx1 W' h
  rwa [s0] at this

set_option maxHeartbeats 3200000 in
set_option maxRecDepth 100000 in
theorem canSk_any (r : Psh) (c : Cfg) (ap b : Option Addr) (cp k : Nat) (w : World) (hc : Ints w b c.2) (hcm : c.2.length ≤ maxLen) :
    Calls Try.prog 8 #[pshV r.F r.T r.O ap r.P.length cp, cfgV c.1 b c.2.length k] w (TellsB (CanSk r c) w) := by
  unfold maxLen at hcm
  obtain ⟨W1, hW1, g1, s1, bx1⟩ := two_boxK w (.int .i64 r.F) (.int .i64 r.T) (.int .i64 r.O) (.slice ap r.P.length cp) (.int .i64 c.1) (.slice b c.2.length k) 33 25
  obtain ⟨⟨t0, t1, t2, t3⟩, v0, v1⟩ := bx1 W1 (grown_refl _ _)
  have HI : Hid (Ints W1 b c.2) := hc.grown g1
  have HW1 : Hid (W1 = _) := hW1
  have G1 : Hid (w.grownBy W1 none) := g1
  have HE : Hid (CanSk r c ↔ c.1 = r.F ∧ 0 < c.2.length ∧ c.2.getD 0 0 = r.T) := Iff.rfl
  obtain ⟨xF, xT, xO, xP⟩ := r
  obtain ⟨c0, cs⟩ := c
  simp only at *
  generalize CanSk ⟨xF, xT, xO, xP⟩ (c0, cs) = PC at *
  generalize xP.length = np at *
  obtain ⟨z0, hz0⟩ : ∃ z, cs.getD 0 0 = z := ⟨_, rfl⟩
  rw [hz0] at HE
  have HI0 : Hid (0 < cs.length → ∃ bs os, b = some ⟨bs, os, none⟩ ∧ W1.cell? ⟨bs, os, none⟩ = some (.int .i64 z0)) := fun hq => by
    obtain ⟨bs, os, e, hcc⟩ := HI.out.at (k := 0) hq
    have := hcc 0 hq
    rw [hz0, Nat.add_zero] at this
    exact ⟨bs, os, e, this⟩
  clear HI hz0 hc g1 s1 bx1
  generalize cs.length = nc at *
  by_cases h1 : c0 = xF
  case neg =>
    have d1 : (c0 == xF) = false := by simpa using h1
    have HF : Hid (¬ PC) := fun e => h1 (HE.out.1 e).1
    clear HE HI0 h1 hW1
    go_enter Try.func8, Try.ntmps8
    go_wp2_with fail
    rw [← HW1.out]
    go_quiet (fail)
    go_wp2_with fail
    go_ret
    exact tellsB false rfl ⟨(fun e => by cases e), fun e => absurd e HF.out⟩ (grown_drewN G1.out _)
  have d1 : (c0 == xF) = true := by simpa using h1
  have H1 : Hid (c0 = xF) := h1
  clear h1
  by_cases h2 : 0 < nc
  case neg =>
    have d2 : decide ((0 : Int) < (nc : Int)) = false := by simp; omega
    have d2' : decide (0 < nc) = false := by simp; omega
    have HF : Hid (¬ PC) := fun e => h2 (HE.out.1 e).2.1
    clear HE HI0 h2 hW1
    go_enter Try.func8, Try.ntmps8
    go_wp2_with fail
    rw [← HW1.out]
    go_quiet (fail)
    go_wp2_with fail
    go_ret
    exact tellsB false rfl ⟨(fun e => by cases e), fun e => absurd e HF.out⟩ (grown_drewN G1.out _)
  have d2 : decide ((0 : Int) < (nc : Int)) = true := by simp; omega
  have d2' : decide (0 < nc) = true := by simp; omega
  have hi0 : (0 : Int) < (nc : Int) := by omega
  obtain ⟨bs, os, rfl, hcz⟩ := HI0.out h2
  obtain ⟨q, hq⟩ : ∃ q, (z0 == xT) = q := ⟨_, rfl⟩
  have HQ : Hid (q = true ↔ PC) := by
    show _ ↔ _
    rw [← hq, HE.out, beq_iff_eq]
    exact ⟨fun e => ⟨H1.out, h2, e⟩, fun e => e.2.2⟩
  clear HE HI0 H1 hW1
  go_enter Try.func8, Try.ntmps8
  go_wp2_with fail
  rw [← HW1.out]
  go_quiet (fail)
  go_wp2_with fail
  go_ret
  exact tellsB q (by first | rfl | rw [hq]) HQ.out (grown_drewN G1.out _)

def SameSk (c d : Cfg) : Prop := c = d
set_option maxHeartbeats 3200000 in
set_option maxRecDepth 100000 in
theorem sameSk_any (c d : Cfg) (a b : Option Addr) (k l : Nat) (w : World) (ha : Ints w a c.2) (hb : Ints w b d.2) (hcm : c.2.length ≤ maxLen) (hdm : d.2.length ≤ maxLen) :
    Calls Try.prog 10 #[cfgV c.1 a c.2.length k, cfgV d.1 b d.2.length l] w (TellsB (SameSk c d) w) := by
  unfold maxLen at hcm hdm
  obtain ⟨W0, hW0, g0, s0, bx0⟩ := box2_new w (.int .i64 c.1) (.slice a c.2.length k) 25
  obtain ⟨W1, hW1, g1, s1, bx1⟩ := box2_new W0 (.int .i64 d.1) (.slice b d.2.length l) 25
  rw [s0] at bx1
  have BX : Hid (∀ W', W1.grownBy W' none → (W'.cell? ⟨w.heap.size, 0, none⟩ = some (.int .i64 c.1) ∧ W'.cell? ⟨w.heap.size, 1, none⟩ = some (.slice a c.2.length k)) ∧ (W'.cell? ⟨w.heap.size + 1, 0, none⟩ = some (.int .i64 d.1) ∧ W'.cell? ⟨w.heap.size + 1, 1, none⟩ = some (.slice b d.2.length l))) := fun W' h => ⟨bx0 W' (grown_trans g1 h), bx1 W' h⟩
  obtain ⟨⟨t0, t1⟩, v0, v1⟩ := BX.out W1 (grown_refl _ _)
  have G1 : Hid (w.grownBy W1 none) := grown_trans g0 g1
  have HA : Hid (Ints W1 a c.2) := ha.grown G1.out
  have HB : Hid (Ints W1 b d.2) := hb.grown G1.out
  rw [hW0] at hW1
  have HW1 : Hid (W1 = _) := hW1
  rw [hW1] at t0 t1 v0 v1
  clear ha hb hW0 hW1 g0 g1 s0 s1 bx0 bx1
  obtain ⟨c0, cs⟩ := c
  obtain ⟨e0, ds⟩ := d
  simp only at *
  have HE : Hid (SameSk (c0, cs) (e0, ds) ↔ c0 = e0 ∧ cs = ds) := by show SameSk _ _ ↔ _; unfold SameSk; simp
  generalize SameSk (c0, cs) (e0, ds) = PC at *
  obtain ⟨n, hn⟩ : ∃ n, cs.length = n := ⟨_, rfl⟩
  obtain ⟨m, hm⟩ : ∃ m, ds.length = m := ⟨_, rfl⟩
  have HN : Hid (cs.length = n ∧ ds.length = m) := ⟨hn, hm⟩
  rw [hn] at hcm t1 BX HW1 v0 v1 t0 ⊢
  rw [hm] at hdm t1 BX HW1 v0 v1 t0 ⊢
  clear hn hm
  by_cases h1 : c0 = e0
  case neg =>
    have d1 : (c0 != e0) = true := by simpa using h1
    have HF : Hid (¬ PC) := fun e => h1 (HE.out.1 e).1
    clear HE h1
    go_enter Try.func10, Try.ntmps10
    go_wp2_with fail
    rw [← HW1.out]
    go_ret
    exact tellsB false rfl ⟨(fun e => by cases e), fun e => absurd e HF.out⟩ G1.out
  have d1 : (c0 != e0) = false := by simpa using h1
  by_cases h2 : n = m
  case neg =>
    have d2 : ((n : Int) != (m : Int)) = true := by simp; omega
    have HF : Hid (¬ PC) := fun e => h2 (by rw [← HN.out.1, ← HN.out.2, (HE.out.1 e).2])
    clear HE h1 h2
    go_enter Try.func10, Try.ntmps10
    go_wp2_with fail
    rw [← HW1.out]
    go_ret
    exact tellsB false rfl ⟨(fun e => by cases e), fun e => absurd e HF.out⟩ G1.out
  have d2 : ((n : Int) != (m : Int)) = false := by simp; omega
  have HE2 : Hid (PC ↔ ∀ j, j < n → cs.getD j 0 = ds.getD j 0) := by
    show PC ↔ _
    rw [HE.out]
    refine ⟨fun e j _ => by rw [e.2], fun e => ⟨h1, ?_⟩⟩
    refine List.ext_getElem (by rw [HN.out.1, HN.out.2, h2]) (fun j j1 j2 => ?_)
    have := e j (by rw [← HN.out.1]; exact j1)
    rwa [getD_lt j1, getD_lt j2] at this
  have H2 : Hid (n = m) := h2
  clear HE h1 h2
  go_enter Try.func10, Try.ntmps10
  go_wp2_with fail
  rw [← HW1.out]
  clear t0 t1 v0 v1 d1 d2
  go_loopw [5] (fun v wr => ∃ q : Nat, q ≤ n ∧ v = .int .i64 q ∧ W1.grownBy wr none ∧ ∀ j, j < q → cs.getD j 0 = ds.getD j 0) (fun v _ => n - (intOf v).toNat)
  case atStart => exact ⟨0, by omega, rfl, grown_refl _ _, fun j hj => by omega⟩
  case round =>
    obtain ⟨q, hq, rfl, hgw, hg⟩ := hrel
    have HJ : Hid (∀ j, j < q → cs.getD j 0 = ds.getD j 0) := hg
    have G : Hid (W1.grownBy wr none) := hgw
    obtain ⟨⟨t0, t1⟩, v0, v1⟩ := BX.out wr hgw
    clear hg
    by_cases hlt : q < n
    · have hq1 : (q : Int) < (n : Int) := by omega
      have hq2 : (q : Int) < (m : Int) := by have := H2.out; omega
      obtain ⟨bx, ox, rfl, hcx⟩ := (HA.out.grown hgw).at (k := q) (by rw [HN.out.1]; exact hlt)
      obtain ⟨bY, oY, rfl, hcy⟩ := (HB.out.grown hgw).at (k := q) (by rw [HN.out.2]; omega)
      have c3 := hcx q (by rw [HN.out.1]; exact hlt)
      have c4 := hcy q (by rw [HN.out.2]; omega)
      have HNo : Hid (cs.getD q 0 ≠ ds.getD q 0 → ¬ PC) := fun e1 e2 => e1 (HE2.out.1 e2 q hlt)
      have HYes : Hid (cs.getD q 0 = ds.getD q 0 → ∀ j, j < q + 1 → cs.getD j 0 = ds.getD j 0) := fun e1 j hj => by
        by_cases e : j = q
        · subst e; exact e1
        · exact HJ.out j (by omega)
      clear hcx hcy hgw
      generalize cs.getD q 0 = u at *
      generalize ds.getD q 0 = v at *
      by_cases huv : u = v
      · have huv' : (u != v) = false := by simpa using huv
        have HT : Hid _ := HYes.out huv
        clear HNo HYes huv
        go_wp2_with fail
        go_quiet (fail)
        go_wp2_with fail
        go_roundw
        case rel => exact ⟨q + 1, by omega, by go_num, grown_drewN G.out _, HT.out⟩
        case measure => simp [intOf]; omega
      · have huv' : (u != v) = true := by simpa using huv
        have HF : Hid (¬ PC) := HNo.out huv
        clear HNo HYes huv
        go_wp2_with fail
        go_quiet (fail)
        go_wp2_with fail
        go_ret
        exact tellsB false rfl ⟨(fun e => by cases e), fun e => absurd e HF.out⟩ (grown_drewN (grown_trans G1.out G.out) _)
    · have hq1 : ¬ (q : Int) < (n : Int) := by omega
      have HT : Hid PC := HE2.out.2 (fun j hj => HJ.out j (by omega))
      clear hgw
      go_wp2_with fail
      go_ret
      exact tellsB true rfl ⟨fun _ => HT.out, fun _ => rfl⟩ (grown_trans G1.out G.out)

end Go.Proofs.Ytmoaolfenllhlaa
