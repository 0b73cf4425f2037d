/- Whether two automata are one: sameAuto, of an automaton and its copy. -/
import Derived.Test.YtaangdomdeklhaaUCheck2
import Derived.Test.YtaangdomdeklhaaRWords
namespace Go.Proofs.Ytaangdomdeklhaa
open Go.RowKit
set_option linter.unusedVariables false

set_option maxHeartbeats 1600000 in
set_option maxRecDepth 100000 in
theorem sameAuto_any (x : Aut) (a b e a' b' e' : Option Addr) (c d f c' d' f' : Nat) (w : World) (h : AutAt w x a b e) (h' : AutAt w x a' b' e') :
    Calls Try.prog 7 #[autV x.L x.N a x.S.length c b x.T.length d e x.F.length f, autV x.L x.N a' x.S.length c' b' x.T.length d' e' x.F.length f'] w (Says (.bool true) w) := by
  have HWs : Hid (∀ W, w.grownBy W none → Calls Try.prog 24 #[.slice a x.S.length c, .slice a' x.S.length c'] W (Says (.bool true) W)) := fun W hW => (wordsR_any a a' c c' x.S x.S W (h.start.grown hW) (h'.start.grown hW) h.ms h.ms).mono fun e w' k => says_of_tells k rfl
  have HWf : Hid (∀ W, w.grownBy W none → Calls Try.prog 24 #[.slice e x.F.length f, .slice e' x.F.length f'] W (Says (.bool true) W)) := fun W hW => (wordsR_any e e' f f' x.F x.F W (h.final.grown hW) (h'.final.grown hW) h.mf h.mf).mono fun e w' k => says_of_tells k rfl
  have HSt : Hid (∀ W, w.grownBy W none → StepsAt W b x.T ∧ StepsAt W b' x.T) := fun W hW => ⟨h.steps.grown hW, h'.steps.grown hW⟩
  have hmt := h.mt
  unfold maxLen at hmt
  clear h h'
  obtain ⟨L, N, S, T, F⟩ := x
  simp only at *
  generalize S.length = nS at *
  generalize F.length = nF at *
  obtain ⟨W1, hW1, g1, s1, bx1⟩ := boxA_new w L N a nS c b T.length d e nF f
  obtain ⟨W2, hW2, g2, s2, bx2⟩ := boxA_new W1 L N a' nS c' b' T.length d' e' nF f'
  rw [s1] at bx2
  have HW2 : Hid (W2 = (w.alloc (.cells #[.int .i64 L, .int .i64 N, .slice a nS c, .slice b T.length d, .slice e nF f] 25)).alloc (.cells #[.int .i64 L, .int .i64 N, .slice a' nS c', .slice b' T.length d', .slice e' nF f'] 25)) := by show _ = _; rw [hW2, hW1]
  have G2 : Hid (w.grownBy W2 none) := grown_trans g1 g2
  have BA : Hid (∀ W', W2.grownBy W' none → W'.cell? ⟨w.heap.size, 0, none⟩ = some (.int .i64 L) ∧ W'.cell? ⟨w.heap.size, 1, none⟩ = some (.int .i64 N) ∧ W'.cell? ⟨w.heap.size, 2, none⟩ = some (.slice a nS c) ∧ W'.cell? ⟨w.heap.size, 3, none⟩ = some (.slice b T.length d) ∧ W'.cell? ⟨w.heap.size, 4, none⟩ = some (.slice e nF f)) := fun W' hW' => bx1 W' (grown_trans g2 hW')
  have BB : Hid (∀ W', W2.grownBy W' none → W'.cell? ⟨w.heap.size + 1, 0, none⟩ = some (.int .i64 L) ∧ W'.cell? ⟨w.heap.size + 1, 1, none⟩ = some (.int .i64 N) ∧ W'.cell? ⟨w.heap.size + 1, 2, none⟩ = some (.slice a' nS c') ∧ W'.cell? ⟨w.heap.size + 1, 3, none⟩ = some (.slice b' T.length d') ∧ W'.cell? ⟨w.heap.size + 1, 4, none⟩ = some (.slice e' nF f')) := bx2
  clear hW1 hW2 g1 g2 s1 s2 bx1 bx2
  obtain ⟨x0, x1, x2, x3, x4⟩ := BA.out W2 (grown_refl _ _)
  obtain ⟨y0, y1, y2, y3, y4⟩ := BB.out W2 (grown_refl _ _)
  rw [HW2.out] at x0 x1 x2 x3 x4 y0 y1 y2 y3 y4
  have e1 : (L != L) = false := by simp
  have e2 : (N != N) = false := by simp
  have e3 : ((T.length : Int) != (T.length : Int)) = false := by simp
  go_enter Try.func7, Try.ntmps7
  go_wp2_with fail
  rw [← HW2.out]
  refine (HWs.out _ G2.out).mono ?_
  rintro E w3 ⟨rfl, hg3⟩
  have G3 : Hid (W2.grownBy w3 none) := hg3
  clear x0 x1 x2 x3 x4 y0 y1 y2 y3 y4 hg3
  obtain ⟨x0, x1, x2, x3, x4⟩ := BA.out w3 G3.out
  obtain ⟨y0, y1, y2, y3, y4⟩ := BB.out w3 G3.out
  go_wp2_with fail
  refine (HWf.out _ (grown_trans G2.out G3.out)).mono ?_
  rintro E w4 ⟨rfl, hg4⟩
  have G4 : Hid (W2.grownBy w4 none) := grown_trans G3.out hg4
  clear x0 x1 x2 x3 x4 y0 y1 y2 y3 y4 hg4
  obtain ⟨x0, x1, x2, x3, x4⟩ := BA.out w4 G4.out
  obtain ⟨y0, y1, y2, y3, y4⟩ := BB.out w4 G4.out
  go_wp2_with fail
  clear x0 x1 x2 x3 x4 y0 y1 y2 y3 y4
  go_loopw [7] (fun v wr => ∃ k : Nat, k ≤ T.length ∧ v = .int .i64 k ∧ W2.grownBy wr none) (fun v _ => T.length - (intOf v).toNat)
  case atStart => exact ⟨0, by omega, rfl, G4.out⟩
  case round =>
    clear G4 G3
    obtain ⟨k, hk, rfl, hg⟩ := hrel
    have G : Hid (W2.grownBy wr none) := hg
    obtain ⟨x0, x1, x2, x3, x4⟩ := BA.out wr G.out
    obtain ⟨y0, y1, y2, y3, y4⟩ := BB.out wr G.out
    clear hg
    by_cases hlt : k < T.length
    · have hki : (k : Int) < (T.length : Int) := by omega
      obtain ⟨hs, hs'⟩ := HSt.out wr (grown_trans G2.out G.out)
      obtain ⟨bb, off, hab, hc⟩ := hs.at hlt
      obtain ⟨bb', off', hab', hc'⟩ := hs'.at hlt
      rw [hab] at x3
      rw [hab'] at y3
      obtain ⟨p0, p1, p2⟩ := hc k hlt
      obtain ⟨q0, q1, q2⟩ := hc' k hlt
      clear hc hc' hab hab' hs hs' x0 x1 x2 x4 y0 y1 y2 y4
      generalize T.getD k (0, 0, 0) = xx at *
      obtain ⟨ff, ll, tt⟩ := xx
      simp only at p0 p1 p2 q0 q1 q2
      go_wp2_with fail
      go_quiet (fail)
      go_wp2_with fail
      go_roundw
      case rel => exact ⟨k + 1, by omega, by go_num, grown_drewN G.out _⟩
      case measure => simp [intOf]; omega
    · have hki : ¬ (k : Int) < (T.length : Int) := by omega
      go_wp2_with fail
      go_ret
      exact ⟨rfl, grown_trans G2.out G.out⟩

end Go.Proofs.Ytaangdomdeklhaa
