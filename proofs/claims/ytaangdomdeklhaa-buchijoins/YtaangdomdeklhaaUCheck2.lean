/- What is wrong with an automaton that need not know its way: the program's Check, put together. -/
import Derived.Test.YtaangdomdeklhaaUCheck
import Derived.Laws.EntriesVeiled
namespace Go.Proofs.Ytaangdomdeklhaa
open Go.RowKit
set_option linter.unusedVariables false

/-- A box of five. -/
theorem box5 {w wr : World} {v0 v1 v2 v3 v4 : Value} {t : TypeId} (h : (w.alloc (.cells #[v0, v1, v2, v3, v4] t)).grownBy wr none) :
    wr.cell? ⟨w.heap.size, 0, none⟩ = some v0 ∧ wr.cell? ⟨w.heap.size, 1, none⟩ = some v1 ∧ wr.cell? ⟨w.heap.size, 2, none⟩ = some v2 ∧ wr.cell? ⟨w.heap.size, 3, none⟩ = some v3 ∧ wr.cell? ⟨w.heap.size, 4, none⟩ = some v4 := by
  have hb := heap_alloc_new w (.cells #[v0, v1, v2, v3, v4] t)
  have hc : ∀ k v, #[v0, v1, v2, v3, v4][k]? = some v → wr.cell? ⟨w.heap.size, k, none⟩ = some v := fun k v hv => h.cell (by rw [cell_of_row _ _ k _ _ (0, 0) hb]; exact hv) (by simp)
  exact ⟨hc 0 _ rfl, hc 1 _ rfl, hc 2 _ rfl, hc 3 _ rfl, hc 4 _ rfl⟩
theorem boxA_new (w : World) (L N : Int) (a : Option Addr) (n c : Nat) (b : Option Addr) (k d : Nat) (e : Option Addr) (m f : Nat) : ∃ W, W = w.alloc (.cells #[.int .i64 L, .int .i64 N, .slice a n c, .slice b k d, .slice e m f] 25) ∧ w.grownBy W none ∧ W.heap.size = w.heap.size + 1 ∧ ∀ W', W.grownBy W' none → W'.cell? ⟨w.heap.size, 0, none⟩ = some (.int .i64 L) ∧ W'.cell? ⟨w.heap.size, 1, none⟩ = some (.int .i64 N) ∧ W'.cell? ⟨w.heap.size, 2, none⟩ = some (.slice a n c) ∧ W'.cell? ⟨w.heap.size, 3, none⟩ = some (.slice b k d) ∧ W'.cell? ⟨w.heap.size, 4, none⟩ = some (.slice e m f) :=
  ⟨_, rfl, grown_alloc _ _, by simp, fun W' h => box5 h⟩

theorem inR2 (f t n : Int) : InR [f, t] n ↔ (0 ≤ f ∧ f < n) ∧ (0 ≤ t ∧ t < n) := by
  constructor
  · intro h; exact ⟨by simpa using h 0 (by simp), by simpa using h 1 (by simp)⟩
  · rintro ⟨h1, h2⟩ i hi
    simp only [List.length_cons, List.length_nil] at hi
    have : i = 0 ∨ i = 1 := by omega
    rcases this with rfl | rfl
    · simpa using h1
    · simpa using h2
theorem inR1 (f n : Int) : InR [f] n ↔ (0 ≤ f ∧ f < n) := by
  constructor
  · intro h; simpa using h 0 (by simp)
  · intro h1 i hi
    simp only [List.length_cons, List.length_nil] at hi
    have : i = 0 := by omega
    subst this; simpa using h1

set_option maxHeartbeats 1600000 in
set_option maxRecDepth 100000 in
theorem stepsWithin_any (L N : Int) (a b e : Option Addr) (n c d m f : Nat) (T : List StepI) (w : World) (h : StepsAt w b T) (hm : T.length ≤ maxLen) :
    Calls Try.prog 35 #[autV L N a n c b T.length d e m f] w (TellsB (InT T L N) w) := by
  unfold maxLen at hm
  have HZ : Hid (StepsAt w b T) := h
  have HI2 : Hid (∀ (f t : Int) (g : Nat) W, W.heap[g]? = some (.cells #[.int .i64 f, .int .i64 t] 3 (0, 0)) → Calls Try.prog 34 #[.slice (some ⟨g, 0, none⟩) 2 2, .int .i64 N] W (TellsB (InR [f, t] N) W)) := fun f t g W hg => within_any [f, t] N (some ⟨g, 0, none⟩) 2 W (.inr ⟨g, 0, rfl, fun i hi => by
    simp only [List.length_cons, List.length_nil] at hi
    have : i = 0 ∨ i = 1 := by omega
    rw [Nat.zero_add, cell_of_row _ _ i _ _ (0, 0) hg]
    rcases this with rfl | rfl <;> rfl⟩) (by simp [maxLen])
  have HI1 : Hid (∀ (f : Int) (g : Nat) W, W.heap[g]? = some (.cells #[.int .i64 f] 3 (0, 0)) → Calls Try.prog 34 #[.slice (some ⟨g, 0, none⟩) 1 1, .int .i64 L] W (TellsB (InR [f] L) W)) := fun f g W hg => within_any [f] L (some ⟨g, 0, none⟩) 1 W (.inr ⟨g, 0, rfl, fun i hi => by
    simp only [List.length_cons, List.length_nil] at hi
    have : i = 0 := by omega
    rw [Nat.zero_add, cell_of_row _ _ i _ _ (0, 0) hg]
    subst this; rfl⟩) (by simp [maxLen])
  obtain ⟨W1, hW1, g1, s1, bx1⟩ := boxA_new w L N a n c b T.length d e m f
  have HW1 : Hid (W1 = _) := hW1
  have G1 : Hid (w.grownBy W1 none) := g1
  have B1 : Hid (∀ W', W1.grownBy W' none → W'.cell? ⟨w.heap.size, 0, none⟩ = some (.int .i64 L) ∧ W'.cell? ⟨w.heap.size, 1, none⟩ = some (.int .i64 N) ∧ W'.cell? ⟨w.heap.size, 2, none⟩ = some (.slice a n c) ∧ W'.cell? ⟨w.heap.size, 3, none⟩ = some (.slice b T.length d) ∧ W'.cell? ⟨w.heap.size, 4, none⟩ = some (.slice e m f)) := bx1
  clear h hW1 g1 s1 bx1
  go_enter Try.func35, Try.ntmps35
  go_wp2_with fail
  rw [← HW1.out]
  go_loopw [8] (fun v wr => ∃ k : Nat, k ≤ T.length ∧ v = .int .i64 k ∧ W1.grownBy wr none ∧ ∀ j, j < k → StIn L N (T.getD j (0, 0, 0))) (fun v _ => T.length - (intOf v).toNat)
  case atStart => exact ⟨0, by omega, rfl, grown_refl _ _, fun j hj => by omega⟩
  case round =>
    obtain ⟨k, hk, rfl, hgw, hg⟩ := hrel
    have HJ : Hid (∀ j, j < k → StIn L N (T.getD j (0, 0, 0))) := hg
    have G : Hid (W1.grownBy wr none) := hgw
    clear hg
    by_cases hlt : k < T.length
    · obtain ⟨bb, off, rfl, hc⟩ := (HZ.out.grown (grown_trans G1.out hgw)).at hlt
      obtain ⟨y0, y1, y2⟩ := hc k hlt
      have hki : (k : Int) < (T.length : Int) := by omega
      have HNo : Hid (¬ StIn L N (T.getD k (0, 0, 0)) → ¬ InT T L N) := fun hx e => hx (e k hlt)
      have HYes : Hid (StIn L N (T.getD k (0, 0, 0)) → ∀ j, j < k + 1 → StIn L N (T.getD j (0, 0, 0))) := fun hx j hj => by
        by_cases e : j = k
        · subst e; exact hx
        · exact HJ.out j (by omega)
      clear hc
      generalize T.getD k (0, 0, 0) = x at *
      obtain ⟨ff, ll, tt⟩ := x
      simp only at y0 y1 y2
      have cN : ∀ o o', ((wr.alloc o).alloc o').cell? ⟨w.heap.size, 1, none⟩ = some (.int .i64 N) := fun o o' => (B1.out _ (grown_trans hgw (grown_trans (grown_alloc _ o) (grown_alloc _ o')))).2.1
      have HNew : Hid (∀ o x y, (((wr.alloc o).alloc (.cells #[x, y] 3)).heap[wr.heap.size + 1]? = some (.cells #[x, y] 3 (0, 0)))) := fun o x y => by
        have h1 := heap_alloc_new (wr.alloc o) (.cells #[x, y] 3)
        rw [World.size_alloc] at h1
        exact h1
      have HX : Hid (∀ o W, (wr.alloc o).grownBy W none → ∀ c0 t0, o = .cells c0 t0 (0, 0) → W.heap[wr.heap.size]? = some (.cells c0 t0 (0, 0))) := fun o W hW c0 t0 ho => by
        have h1 := heap_alloc_new wr o
        rw [ho] at h1
        exact (hW.block _ (by simp) (by simp)).trans (by rw [ho]; exact h1)
      clear hgw
      go_wp2_with fail
      refine (HI2.out ff tt _ _ (HNew.out _ _ _)).mono ?_
      rintro E w3 ⟨b1, rfl, hb1, hg3⟩
      have G3 : Hid (W1.grownBy w3 none) := grown_trans G.out (grown_trans (grown_trans (grown_alloc _ _) (grown_alloc _ _)) hg3)
      have hst := HX.out _ w3 (grown_trans (grown_alloc _ _) hg3) _ _ rfl
      rw [inR2] at hb1
      cases b1 with
      | false =>
        have HF : Hid (¬ InT T L N) := HNo.out (fun e => by have := hb1.2 ⟨e.1, e.2.1⟩; cases this)
        clear hb1 hg3 hst cN
        go_wp2_with fail
        go_ret
        exact tellsB false rfl ⟨(fun e => by cases e), fun e => absurd e HF.out⟩ (grown_trans G1.out G3.out)
      | true =>
        have HB1 : Hid ((0 ≤ ff ∧ ff < N) ∧ (0 ≤ tt ∧ tt < N)) := hb1.1 rfl
        have c1 : w3.cell? ⟨wr.heap.size, 1, none⟩ = some (.int .i64 ll) := by rw [cell_of_row _ _ 1 _ _ (0, 0) hst]; rfl
        have cL : ∀ o, (w3.alloc o).cell? ⟨w.heap.size, 0, none⟩ = some (.int .i64 L) := fun o => (B1.out _ (grown_trans G3.out (grown_alloc _ o))).1
        have HNew3 : Hid (∀ x, ((w3.alloc (.cells #[x] 3)).heap[w3.heap.size]? = some (.cells #[x] 3 (0, 0)))) := fun x => heap_alloc_new w3 (.cells #[x] 3)
        clear hb1 hg3 hst cN
        go_wp2_with fail
        refine (HI1.out ll _ _ (HNew3.out _)).mono ?_
        rintro E w4 ⟨b2, rfl, hb2, hg4⟩
        have G4 : Hid (W1.grownBy w4 none) := grown_trans G3.out (grown_trans (grown_alloc _ _) hg4)
        rw [inR1] at hb2
        clear hg4 c1 cL
        cases b2 with
        | false =>
          have HF : Hid (¬ InT T L N) := HNo.out (fun e => by have := hb2.2 e.2.2; cases this)
          clear hb2
          go_wp2_with fail
          go_ret
          exact tellsB false rfl ⟨(fun e => by cases e), fun e => absurd e HF.out⟩ (grown_trans G1.out G4.out)
        | true =>
          have HB2 : Hid (0 ≤ ll ∧ ll < L) := hb2.1 rfl
          clear hb2
          go_wp2_with fail
          go_roundw
          case rel => exact ⟨k + 1, by omega, by go_num, G4.out, HYes.out ⟨HB1.out.1, HB1.out.2, HB2.out⟩⟩
          case measure => simp [intOf]; omega
    · have hki : ¬ (k : Int) < (T.length : Int) := by omega
      go_wp2_with fail
      go_ret
      exact tellsB true rfl ⟨fun _ => fun i hi => HJ.out i (by omega), fun _ => rfl⟩ (grown_trans G1.out G.out)

/-- An operation whose guard is off is passed over. -/
theorem skip_op {o : Oper} {y : Nat → Option Bool} {A E : Prop} (hw : Region.wanted o y = false) (h : E) : if Region.wanted o y = true then A else E := by rw [hw]; simpa using h

/-- What order answers. -/
def OrdPost (L N : Int) (w : World) (e : Ending) (w' : World) : Prop := ∃ bn ba, e = .returned (.func (.func 57) #[] #[.pointer (some ⟨bn, 0, none⟩)]) ∧ OrdAt w' bn ba L N ∧ w.grownBy w' none

set_option maxHeartbeats 800000 in
theorem order_any (L N : Int) (a b e : Option Addr) (n c k d m f : Nat) (w : World) : Calls Try.prog 39 #[autV L N a n c b k d e m f] w (OrdPost L N w) := by
  have HB : Hid (∀ (g : Nat) o, g = w.heap.size + 1 → OrdAt ((w.alloc (.cells #[.int .i64 L, .int .i64 N, .slice a n c, .slice b k d, .slice e m f] 25)).alloc (.cells #[.func (.func 56) #[] #[.pointer (some ⟨w.heap.size, 0, none⟩)]] o)) g w.heap.size L N) := fun g o hg => by
    obtain ⟨h0, h1, _⟩ := box5 (grown_alloc (w.alloc (.cells #[.int .i64 L, .int .i64 N, .slice a n c, .slice b k d, .slice e m f] 25)) (.cells #[.func (.func 56) #[] #[.pointer (some ⟨w.heap.size, 0, none⟩)]] o))
    refine ⟨?_, h0, h1⟩
    have h2 := heap_alloc_new (w.alloc (.cells #[.int .i64 L, .int .i64 N, .slice a n c, .slice b k d, .slice e m f] 25)) (.cells #[.func (.func 56) #[] #[.pointer (some ⟨w.heap.size, 0, none⟩)]] o)
    rw [World.size_alloc, ← hg] at h2
    rw [cell_of_row _ _ 0 _ _ (0, 0) h2]
    rfl
  have G : Hid (∀ o o', w.grownBy ((w.alloc o).alloc o') none) := fun o o' => grown_trans (grown_alloc _ _) (grown_alloc _ _)
  go_enter Try.func39, Try.ntmps39
  go_wp2_with fail
  go_ret
  exact ⟨_, _, rfl, HB.out _ _ rfl, G.out _ _⟩

abbrev KeepC (P W : World) (b : Nat) (L N : Int) (vS vT vF : Value) : Prop :=
  P.grownBy W none ∧ W.cell? ⟨b, 0, none⟩ = some (.int .i64 L) ∧ W.cell? ⟨b, 1, none⟩ = some (.int .i64 N) ∧ W.cell? ⟨b, 2, none⟩ = some vS ∧ W.cell? ⟨b, 3, none⟩ = some vT ∧ W.cell? ⟨b, 4, none⟩ = some vF
section
variable {P W W' : World} {b : Nat} {L N : Int} {vS vT vF : Value}
theorem KeepC.call (h : KeepC P W b L N vS vT vF) (hg : W.grownBy W' none) : KeepC P W' b L N vS vT vF := by
  obtain ⟨h0, h1, h2, h3, h4, h5⟩ := h
  exact ⟨grown_trans h0 hg, hg.cell h1 (by simp), hg.cell h2 (by simp), hg.cell h3 (by simp), hg.cell h4 (by simp), hg.cell h5 (by simp)⟩
theorem KeepC.drew (h : KeepC P W b L N vS vT vF) : KeepC P W.drew b L N vS vT vF := h.call (grown_drew (grown_refl _ _))
theorem KeepC.gr {w : World} (h : KeepC P W b L N vS vT vF) (hw : w.grownBy P none) : w.grownBy W none := grown_trans hw h.1
end

set_option maxHeartbeats 3200000 in
set_option maxRecDepth 100000 in
theorem checkB_any (x : Aut) (a b e : Option Addr) (c d f : Nat) (w : World) (h : AutAt w x a b e) :
    Calls Try.prog 21 #[autV x.L x.N a x.S.length c b x.T.length d e x.F.length f] w (Says (.int .i64 (checkA x)) w) := by
  have HS1 : Hid (∀ W, w.grownBy W none → Calls Try.prog 34 #[.slice a x.S.length c, .int .i64 x.N] W (TellsB (InR x.S x.N) W)) := fun W hW => within_any _ _ _ _ _ (h.grown hW).start h.ms
  have HF1 : Hid (∀ W, w.grownBy W none → Calls Try.prog 34 #[.slice e x.F.length f, .int .i64 x.N] W (TellsB (InR x.F x.N) W)) := fun W hW => within_any _ _ _ _ _ (h.grown hW).final h.mf
  have HT1 : Hid (∀ W, w.grownBy W none → Calls Try.prog 35 #[autV x.L x.N a x.S.length c b x.T.length d e x.F.length f] W (TellsB (InT x.T x.L x.N) W)) := fun W hW => stepsWithin_any _ _ _ _ _ _ _ _ _ _ _ _ (h.grown hW).steps h.mt
  have HS2 : Hid (∀ W, w.grownBy W none → Calls Try.prog 36 #[.slice a x.S.length c, .func (.func 37) #[] #[]] W (TellsB (Rise x.S) W)) := fun W hW => riseI_any _ _ _ _ (h.grown hW).start h.ms
  have HF2 : Hid (∀ W, w.grownBy W none → Calls Try.prog 36 #[.slice e x.F.length f, .func (.func 37) #[] #[]] W (TellsB (Rise x.F) W)) := fun W hW => riseI_any _ _ _ _ (h.grown hW).final h.mf
  have HO : Hid (∀ W, w.grownBy W none → Calls Try.prog 39 #[autV x.L x.N a x.S.length c b x.T.length d e x.F.length f] W (OrdPost x.L x.N W)) := fun W hW => order_any _ _ _ _ _ _ _ _ _ _ _ _
  have HT2 : Hid (∀ W bn ba, w.grownBy W none → OrdAt W bn ba x.L x.N → x.L ≤ 4 → 1 ≤ x.L → 1 ≤ x.N → x.N ≤ 300 → InT x.T x.L x.N → Calls Try.prog 38 #[.slice b x.T.length d, .func (.func 57) #[] #[.pointer (some ⟨bn, 0, none⟩)]] W (TellsB (RiseT x.T) W)) := fun W bn ba hW hO h1 h2 h3 h4 h5 => riseT_any _ _ _ _ _ _ _ _ (h.grown hW).steps h.mt hO h1 h2 h3 h4 h5
  have hmt := h.mt
  unfold maxLen at hmt
  obtain ⟨W1, hW1, g1, s1, bx1⟩ := boxA_new w x.L x.N a x.S.length c b x.T.length d e x.F.length f
  have HW1 : Hid (W1 = _) := hW1
  have G1 : Hid (w.grownBy W1 none) := g1
  have K1 : Hid (∀ W', W1.grownBy W' none → KeepC W1 W' w.heap.size x.L x.N (.slice a x.S.length c) (.slice b x.T.length d) (.slice e x.F.length f)) := fun W' hW' => ⟨hW', bx1 W' hW'⟩
  obtain ⟨z, hz⟩ : ∃ z, checkA x = z := ⟨_, rfl⟩
  rw [hz]
  have HZ : Hid (checkA x = z) := hz
  clear h hW1 g1 s1 bx1 hz
  obtain ⟨L, N, S, T, F⟩ := x
  simp only at *
  have HA : Hid (L < 1 ∨ 4 < L → z = 2) := fun h => by rw [← HZ.out]; exact checkA_range h
  have HB : Hid (¬ (L < 1 ∨ 4 < L) → N < 1 ∨ 300 < N ∨ 40000 < T.length → z = 1) := fun h h2 => by rw [← HZ.out]; exact checkA_size h h2
  have HC : Hid (¬ (L < 1 ∨ 4 < L) → ¬ (N < 1 ∨ 300 < N ∨ 40000 < T.length) → ¬ (InR S N ∧ InR F N ∧ InT T L N) → z = 2) := fun h h2 h3 => by rw [← HZ.out]; exact checkA_in h h2 h3
  have HD : Hid (¬ (L < 1 ∨ 4 < L) → ¬ (N < 1 ∨ 300 < N ∨ 40000 < T.length) → InR S N ∧ InR F N ∧ InT T L N → ¬ (Rise S ∧ Rise F ∧ RiseT T) → z = 3) := fun h h2 h3 h4 => by rw [← HZ.out]; exact checkA_rise h h2 h3 h4
  have HE : Hid (¬ (L < 1 ∨ 4 < L) → ¬ (N < 1 ∨ 300 < N ∨ 40000 < T.length) → InR S N ∧ InR F N ∧ InT T L N → (Rise S ∧ Rise F ∧ RiseT T) → z = 0) := fun h h2 h3 h4 => by
    rw [← HZ.out]; exact checkA_good ⟨by simp only; omega, by simp only; omega, by simp only; omega, by simp only; omega, by simp only; omega, h3.1, h3.2.1, h3.2.2, h4.1, h4.2.1, h4.2.2⟩
  generalize S.length = nS at *
  generalize T.length = nT at *
  generalize F.length = nF at *
  clear HZ
  obtain ⟨_, x0, x1, x2, x3, x4⟩ := K1.out W1 (grown_refl _ _)
  have KK : Hid (∀ W', W1.grownBy W' none → W'.cell? ⟨w.heap.size, 0, none⟩ = some (.int .i64 L) ∧ W'.cell? ⟨w.heap.size, 1, none⟩ = some (.int .i64 N) ∧ W'.cell? ⟨w.heap.size, 2, none⟩ = some (.slice a nS c) ∧ W'.cell? ⟨w.heap.size, 3, none⟩ = some (.slice b nT d) ∧ W'.cell? ⟨w.heap.size, 4, none⟩ = some (.slice e nF f)) := fun W' hW' => (K1.out W' hW').2
  by_cases c1 : L < 1 ∨ 4 < L
  · rw [HA.out c1]
    have GF := G1.out
    clear HA HB HC HD HE HS1 HF1 HT1 HS2 HF2 HO HT2
    rcases c1 with c1 | c1
    · go_enter Try.func21, Try.ntmps21
      go_wp2_with fail
      rw [← HW1.out]
      go_ret
      exact ⟨rfl, GF⟩
    · have c2 : ¬ L < 1 := by omega
      go_enter Try.func21, Try.ntmps21
      go_wp2_with fail
      rw [← HW1.out]
      go_ret
      exact ⟨rfl, GF⟩
  have HNc1 : Hid (¬ (L < 1 ∨ 4 < L)) := c1
  have l1 : ¬ L < 1 := by omega
  have l2 : ¬ 4 < L := by omega
  clear c1
  by_cases c2 : N < 1 ∨ 300 < N ∨ 40000 < nT
  · rw [HB.out HNc1.out c2]
    have GF := G1.out
    clear HA HB HC HD HE HS1 HF1 HT1 HS2 HF2 HO HT2
    rcases c2 with c2 | c2 | c2
    · go_enter Try.func21, Try.ntmps21
      go_wp2_with fail
      rw [← HW1.out]
      go_ret
      exact ⟨rfl, GF⟩
    · have c3 : ¬ N < 1 := by omega
      go_enter Try.func21, Try.ntmps21
      go_wp2_with fail
      rw [← HW1.out]
      go_ret
      exact ⟨rfl, GF⟩
    · by_cases c3 : N < 1
      · go_enter Try.func21, Try.ntmps21
        go_wp2_with fail
        rw [← HW1.out]
        go_ret
        exact ⟨rfl, GF⟩
      · by_cases c4 : 300 < N
        · go_enter Try.func21, Try.ntmps21
          go_wp2_with fail
          rw [← HW1.out]
          go_ret
          exact ⟨rfl, GF⟩
        · have c5 : (40000 : Int) < (nT : Int) := by omega
          go_enter Try.func21, Try.ntmps21
          go_wp2_with fail
          rw [← HW1.out]
          go_ret
          exact ⟨rfl, GF⟩
  have HNc2 : Hid (¬ (N < 1 ∨ 300 < N ∨ 40000 < nT)) := c2
  have n1 : ¬ N < 1 := by omega
  have n2 : ¬ 300 < N := by omega
  have n3 : ¬ (40000 : Int) < (nT : Int) := by omega
  clear c2 HA HB
  go_enter Try.func21, Try.ntmps21
  go_wp2_with fail
  rw [← HW1.out]
  refine (HS1.out _ G1.out).mono ?_
  rintro E w2 ⟨b2, rfl, hb2, hg2⟩
  have G2 : Hid (W1.grownBy w2 none) := hg2
  obtain ⟨y0, y1, y2, y3, y4⟩ := KK.out w2 hg2
  clear hg2 x0 x1 x2 x3 x4
  cases b2 with
  | false =>
    have Hz : Hid (z = 2) := HC.out HNc1.out HNc2.out (fun e => by have := hb2.2 e.1; cases this)
    have GF := grown_trans G1.out G2.out
    clear hb2
    go_wp2_with fail
    go_ret
    exact ⟨by rw [Hz.out]; rfl, GF⟩
  | true =>
  have H2 : Hid (InR S N) := hb2.1 rfl
  clear hb2
  go_wp2_with fail
  refine (HF1.out _ (grown_trans G1.out G2.out)).mono ?_
  rintro E w3 ⟨b3, rfl, hb3, hg3⟩
  have G3 : Hid (W1.grownBy w3 none) := grown_trans G2.out hg3
  obtain ⟨x0, x1, x2, x3, x4⟩ := KK.out w3 G3.out
  clear hg3 y0 y1 y2 y3 y4
  cases b3 with
  | false =>
    have Hz : Hid (z = 2) := HC.out HNc1.out HNc2.out (fun e => by have := hb3.2 e.2.1; cases this)
    have GF := grown_trans G1.out G3.out
    clear hb3
    go_wp2_with fail
    go_ret
    exact ⟨by rw [Hz.out]; rfl, GF⟩
  | true =>
  have H3 : Hid (InR F N) := hb3.1 rfl
  clear hb3
  go_wp2_with fail
  refine (HT1.out _ (grown_trans G1.out G3.out)).mono ?_
  rintro E w4 ⟨b4, rfl, hb4, hg4⟩
  have G4 : Hid (W1.grownBy w4 none) := grown_trans G3.out hg4
  obtain ⟨y0, y1, y2, y3, y4⟩ := KK.out w4 G4.out
  clear hg4 x0 x1 x2 x3 x4
  cases b4 with
  | false =>
    have Hz : Hid (z = 2) := HC.out HNc1.out HNc2.out (fun e => by have := hb4.2 e.2.2; cases this)
    have GF := grown_trans G1.out G4.out
    clear hb4
    go_wp2_with fail
    go_ret
    exact ⟨by rw [Hz.out]; rfl, GF⟩
  | true =>
  have H4 : Hid (InT T L N) := hb4.1 rfl
  have HIn : Hid (InR S N ∧ InR F N ∧ InT T L N) := ⟨H2.out, H3.out, H4.out⟩
  clear hb4 HC
  go_wp2_with fail
  have K4 : Hid (KeepC W1 w4 w.heap.size L N (.slice a nS c) (.slice b nT d) (.slice e nF f)) := K1.out w4 G4.out
  clear y0 y1 y2 y3 y4
  have HT3 : Hid (∀ W bn ba, w.grownBy W none → OrdAt W bn ba L N → Calls Try.prog 38 #[.slice b nT d, .func (.func 57) #[] #[.pointer (some ⟨bn, 0, none⟩)]] W (TellsB (RiseT T) W)) := fun W bn ba hW hO => HT2.out W bn ba hW hO (by omega) (by omega) (by omega) (by omega) H4.out
  clear HT2
  generalize w.heap.size = b0 at *
  by_cases r1 : Rise S
  · have Q1 : Hid (∀ W, w.grownBy W none → Calls Try.prog 36 #[.slice a nS c, .func (.func 37) #[] #[]] W (Says (.bool true) W)) := fun W hW => (HS2.out W hW).mono fun e w' h => says_of_tells h r1
    have R1 : Hid (Rise S) := r1
    clear r1 HS2
    by_cases r2 : Rise F
    · have Q2 : Hid (∀ W, w.grownBy W none → Calls Try.prog 36 #[.slice e nF f, .func (.func 37) #[] #[]] W (Says (.bool true) W)) := fun W hW => (HF2.out W hW).mono fun e w' h => says_of_tells h r2
      have R2 : Hid (Rise F) := r2
      clear r2 HF2
      by_cases r3 : RiseT T
      · have Q3 : Hid (∀ W bn ba, w.grownBy W none → OrdAt W bn ba L N → Calls Try.prog 38 #[.slice b nT d, .func (.func 57) #[] #[.pointer (some ⟨bn, 0, none⟩)]] W (Says (.bool true) W)) := fun W bn ba hW hO => (HT3.out W bn ba hW hO).mono fun e w' h => says_of_tells h r3
        have Hz : Hid (z = 0) := HE.out HNc1.out HNc2.out HIn.out ⟨R1.out, R2.out, r3⟩
        clear r3 HT3
        go_region_held3 (fun W => KeepC W1 W b0 L N (.slice a nS c) (.slice b nT d) (.slice e nF f))
            (first | (with_reducible exact KeepC.drew K4.out) | (with_reducible exact KeepC.call (by assumption) hgA) | (with_reducible exact KeepC.drew (by assumption)) | assumption)
            (first
            | (go_at_call_of 36 (Value.slice a nS c); refine (Q1.out _ (KeepC.gr (show KeepC W1 _ b0 L N (.slice a nS c) (.slice b nT d) (.slice e nF f) from by assumption) G1.out)).mono ?_; rintro E wA ⟨rfl, hgA⟩)
            | (go_at_call_of 36 (Value.slice e nF f); refine (Q2.out _ (KeepC.gr (show KeepC W1 _ b0 L N (.slice a nS c) (.slice b nT d) (.slice e nF f) from by assumption) G1.out)).mono ?_; rintro E wA ⟨rfl, hgA⟩)
            | (go_at_call 39; refine (HO.out _ (KeepC.gr (show KeepC W1 _ b0 L N (.slice a nS c) (.slice b nT d) (.slice e nF f) from by assumption) G1.out)).mono ?_; rintro E wA ⟨bn, ba, rfl, hO, hgA⟩; have HOA : Hid (OrdAt wA bn ba L N) := hO)
            | (go_at_call 38; refine (Q3.out _ bn ba (KeepC.gr (show KeepC W1 _ b0 L N (.slice a nS c) (.slice b nT d) (.slice e nF f) from by assumption) G1.out) HOA.out).mono ?_; rintro E wA ⟨rfl, hgA⟩))
        all_goals
          have GF : Hid (w.grownBy _ none) := (KeepC.gr (show KeepC W1 _ b0 L N (.slice a nS c) (.slice b nT d) (.slice e nF f) from by assumption) G1.out)
          go_wp2_with fail
          go_ret
          exact ⟨by rw [Hz.out]; rfl, GF.out⟩
      · have Q3 : Hid (∀ W bn ba, w.grownBy W none → OrdAt W bn ba L N → Calls Try.prog 38 #[.slice b nT d, .func (.func 57) #[] #[.pointer (some ⟨bn, 0, none⟩)]] W (Says (.bool false) W)) := fun W bn ba hW hO => (HT3.out W bn ba hW hO).mono fun e w' h => says_not h r3
        have Hz : Hid (z = 3) := HD.out HNc1.out HNc2.out HIn.out (fun e => r3 e.2.2)
        clear r3 HT3
        go_region_held3 (fun W => KeepC W1 W b0 L N (.slice a nS c) (.slice b nT d) (.slice e nF f))
            (first | (with_reducible exact KeepC.drew K4.out) | (with_reducible exact KeepC.call (by assumption) hgA) | (with_reducible exact KeepC.drew (by assumption)) | assumption)
            (first
            | (go_at_call_of 36 (Value.slice a nS c); refine (Q1.out _ (KeepC.gr (show KeepC W1 _ b0 L N (.slice a nS c) (.slice b nT d) (.slice e nF f) from by assumption) G1.out)).mono ?_; rintro E wA ⟨rfl, hgA⟩)
            | (go_at_call_of 36 (Value.slice e nF f); refine (Q2.out _ (KeepC.gr (show KeepC W1 _ b0 L N (.slice a nS c) (.slice b nT d) (.slice e nF f) from by assumption) G1.out)).mono ?_; rintro E wA ⟨rfl, hgA⟩)
            | (go_at_call 39; refine (HO.out _ (KeepC.gr (show KeepC W1 _ b0 L N (.slice a nS c) (.slice b nT d) (.slice e nF f) from by assumption) G1.out)).mono ?_; rintro E wA ⟨bn, ba, rfl, hO, hgA⟩; have HOA : Hid (OrdAt wA bn ba L N) := hO)
            | (go_at_call 38; refine (Q3.out _ bn ba (KeepC.gr (show KeepC W1 _ b0 L N (.slice a nS c) (.slice b nT d) (.slice e nF f) from by assumption) G1.out) HOA.out).mono ?_; rintro E wA ⟨rfl, hgA⟩))
        all_goals
          have GF : Hid (w.grownBy _ none) := (KeepC.gr (show KeepC W1 _ b0 L N (.slice a nS c) (.slice b nT d) (.slice e nF f) from by assumption) G1.out)
          go_wp2_with fail
          go_ret
          exact ⟨by rw [Hz.out]; rfl, GF.out⟩
    · have Q2 : Hid (∀ W, w.grownBy W none → Calls Try.prog 36 #[.slice e nF f, .func (.func 37) #[] #[]] W (Says (.bool false) W)) := fun W hW => (HF2.out W hW).mono fun e w' h => says_not h r2
      have Hz : Hid (z = 3) := HD.out HNc1.out HNc2.out HIn.out (fun e => r2 e.2.1)
      clear r2 HF2
      obtain ⟨_, y0, y1, y2, y3, y4⟩ := K4.out
      first
      | (go_region_with (first
        | (refine skip_op (by rfl) ?_)
        | (go_at_call_of 36 (Value.slice a nS c); refine (Q1.out _ (grown_drew (grown_trans G1.out G4.out))).mono ?_; rintro E wA ⟨rfl, hgA⟩; have KA : Hid (KeepC W1 wA b0 L N (.slice a nS c) (.slice b nT d) (.slice e nF f)) := (KeepC.drew K4.out).call hgA; obtain ⟨_, y0, y1, y2, y3, y4⟩ := KA.out)
        | (go_at_call_of 36 (Value.slice e nF f); refine (Q2.out _ (KA.out.gr G1.out)).mono ?_; rintro E wB ⟨rfl, hgB⟩; have GF : Hid (w.grownBy wB none) := grown_trans (KA.out.gr G1.out) hgB)))
      | fail
      all_goals
        go_wp2_with fail
        go_ret
        exact ⟨by rw [Hz.out]; rfl, GF.out⟩
  · have Q1 : Hid (∀ W, w.grownBy W none → Calls Try.prog 36 #[.slice a nS c, .func (.func 37) #[] #[]] W (Says (.bool false) W)) := fun W hW => (HS2.out W hW).mono fun e w' h => says_not h r1
    have Hz : Hid (z = 3) := HD.out HNc1.out HNc2.out HIn.out (fun e => r1 e.1)
    clear r1 HS2
    obtain ⟨_, y0, y1, y2, y3, y4⟩ := K4.out
    first
    | (go_region_with (first | (refine skip_op (by rfl) ?_) | (go_at_call_of 36 (Value.slice a nS c); refine (Q1.out _ (grown_drew (grown_trans G1.out G4.out))).mono ?_; rintro E wA ⟨rfl, hgA⟩; have GF : Hid (w.grownBy wA none) := grown_trans (grown_drew (grown_trans G1.out G4.out)) hgA)))
    | fail
    all_goals
      go_wp2_with fail
      go_ret
      exact ⟨by rw [Hz.out]; rfl, GF.out⟩

end Go.Proofs.Ytaangdomdeklhaa
