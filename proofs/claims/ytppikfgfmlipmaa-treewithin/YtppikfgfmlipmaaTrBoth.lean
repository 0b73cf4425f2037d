/- The automaton of what both accept: the program's both. -/
import Derived.Test.YtppikfgfmlipmaaTrPair
import Derived.Deep.RegionHeld3
namespace Go.Proofs.Ytppikfgfmlipmaa
open Go.RowKit
set_option linter.unusedVariables false
set_option linter.unusedSimpArgs false

def BothPost (x o : Trs) (n : Nat) (w : World) (E : Ending) (w' : World) : Prop :=
  ∃ ar cr am cm, E = .returned (trsV x.L (x.N * o.N) ar (botR x.R o.R n).length cr 0 am (botM x.M o.M).length cm) ∧ TrsAt w' (bothT x o n) ar am ∧ w.grownBy w' none

structure BI (n : Nat) (W wr : World) (bo : Nat) (L : Int) (Q : List RuleI) (K : List Int) (nQ nK : Nat) (ar : Option Addr) (cr : Nat) (am : Option Addr) (cm : Nat) : Prop where
  out : OutAt W wr bo L n Q K ar cr am cm
  lq : Q.length = nQ
  lk : K.length = nK
structure KI (wr : World) (k : Nat) (r : RuleI) (ar : Option Addr) : Prop where
  blk : wr.heap[k]? = some (.cells #[.int .i64 r.1, .int .i64 r.2.1, .int .i64 r.2.2.1, .int .i64 r.2.2.2] 43 (0, 0))
  ne : ∀ y, ar = some y → y.block ≠ k
theorem KI.kept {wr w' : World} {k : Nat} {r : RuleI} {ar : Option Addr} (h : KI wr k r ar) (hg : wr.grownBy w' none) : KI w' k r ar :=
  ⟨(hg.block k (by
    rcases Nat.lt_or_ge k wr.heap.size with h' | h'
    · exact h'
    · have := h.blk; simp [h'] at this) (by simp)).trans h.blk, h.ne⟩
theorem KI.cells {wr : World} {k : Nat} {r : RuleI} {ar : Option Addr} (h : KI wr k r ar) : Rule4 wr k 0 r :=
  ⟨by rw [cell_of_row _ _ 0 _ _ (0, 0) h.blk]; rfl, by rw [cell_of_row _ _ (0 + 1) _ _ (0, 0) h.blk]; rfl, by rw [cell_of_row _ _ (0 + 2) _ _ (0, 0) h.blk]; rfl, by rw [cell_of_row _ _ (0 + 3) _ _ (0, 0) h.blk]; rfl⟩

/-- The two rules that are held while a pair is made. -/
def TwoR (k8 kX : Nat) (r s : RuleI) (W : World) : Prop := Rule4 W k8 0 r ∧ Rule4 W kX 0 s
theorem TwoR.kept {k8 kX : Nat} {r s : RuleI} {W W' : World} (h : TwoR k8 kX r s W) (hg : W.grownBy W' none) : TwoR k8 kX r s W' := ⟨h.1.grown hg, h.2.grown hg⟩

attribute [local go_sem ↓] app_fold in
set_option maxHeartbeats 12800000 in
set_option maxRecDepth 100000 in
theorem both_any (x o : Trs) (b e b' e' : Option Addr) (d f d' f' : Nat) (w : World) (h : TrsAt w x b e) (h' : TrsAt w o b' e') (N n : Nat) (hN : x.N = N) (hn : o.N = n) (hN6 : N ≤ 6) (hn6 : n ≤ 64)
    (hR : InRu x.R x.L N) (hQ : InRu o.R o.L n) (hMk : InMk x.M) (hKk : InMk o.M) (hrl : x.R.length ≤ 40000) (hql : o.R.length ≤ 2000) (hml : x.M.length ≤ 6) (hkl : o.M.length ≤ 64) :
    Calls Try.prog 11 #[trsV x.L x.N b x.R.length d x.S e x.M.length f, trsV o.L o.N b' o.R.length d' o.S e' o.M.length f'] w (BothPost x o n w) := by
  have HPost : Hid (∀ ar cr am cm (W' : World), RulesAt W' ar (botR x.R o.R n) → Ints W' am (botM x.M o.M) → w.grownBy W' none → BothPost x o n w (.returned (trsV x.L (x.N * o.N) ar (botR x.R o.R n).length cr 0 am (botM x.M o.M).length cm)) W') := fun ar cr am cm W' h1 h2 h3 => by
    refine ⟨ar, cr, am, cm, rfl, ⟨h1, h2, ?_, ?_⟩, h3⟩
    · show (botR x.R o.R n).length ≤ _
      have := botR_len x.R o.R n x.R.length
      rw [List.take_length] at this
      have h5 : x.R.length * o.R.length ≤ 40000 * 2000 := Nat.mul_le_mul hrl hql
      unfold maxLen; omega
    · show (botM x.M o.M).length ≤ _
      rw [botM_len]
      have h5 : x.M.length * o.M.length ≤ 6 * 64 := Nat.mul_le_mul hml hkl
      unfold maxLen; omega
  have HLen : Hid (∀ i r j, i ≤ x.R.length → (botR (x.R.take i) o.R n ++ botRow r o.R n j).length ≤ 100000000) := fun i r j hi => by
    rw [List.length_append]
    have h1 := botR_len x.R o.R n i
    have h2 := botRow_len r o.R n j
    have h5 : i * o.R.length ≤ 40000 * 2000 := Nat.mul_le_mul (by omega) hql
    omega
  have HA : Hid (∀ W, w.grownBy W none → RulesAt W b x.R ∧ Ints W e x.M ∧ RulesAt W b' o.R ∧ Ints W e' o.M) := fun W hW => ⟨h.rules.grown hW, h.marks.grown hW, h'.rules.grown hW, h'.marks.grown hW⟩
  have HRu : Hid (InRu x.R x.L N) := hR
  have HQu : Hid (InRu o.R o.L n) := hQ
  have HMk : Hid (InMk x.M) := hMk
  have HKk : Hid (InMk o.M) := hKk
  have HP : Hid (∀ (p q : Int) (b0 : Nat) (W : World), W.cell? ⟨b0, 1, none⟩ = some (.int .i64 (n : Int)) → (-1 ≤ p ∧ p ≤ 300) → (-1 ≤ q ∧ q ≤ 300) → Calls Try.prog 20 #[.int .i64 p, .int .i64 q, .pointer (some ⟨b0, 0, none⟩)] W fun e w' => e = .returned (.int .i64 (prI n p q)) ∧ w' = W) := fun p q b0 W h1 h2 h3 => pair_any p q _ b0 n W h1 (by omega) h2 h3 rfl
  obtain ⟨P, hP⟩ : ∃ P, P = BothPost x o n w := ⟨_, rfl⟩
  rw [← hP] at HPost ⊢
  obtain ⟨L, Nz, R, S0, M⟩ := x
  obtain ⟨L', nz, Q, S1, K⟩ := o
  simp only at *
  subst hN hn
  obtain ⟨nn, hnn⟩ : ∃ nn : Nat, N * n = nn := ⟨_, rfl⟩
  have hmul : (N : Int) * (n : Int) = (nn : Int) := by rw [← hnn]; simp
  have hnb : nn ≤ 384 := by rw [← hnn]; exact Nat.mul_le_mul hN6 hn6
  obtain ⟨nR, hnR⟩ : ∃ k, R.length = k := ⟨_, rfl⟩
  obtain ⟨nM, hnM⟩ : ∃ k, M.length = k := ⟨_, rfl⟩
  obtain ⟨nQo, hnQ⟩ : ∃ k, Q.length = k := ⟨_, rfl⟩
  obtain ⟨nKo, hnK⟩ : ∃ k, K.length = k := ⟨_, rfl⟩
  have LR : Hid (R.length = nR ∧ M.length = nM ∧ Q.length = nQo ∧ K.length = nKo) := ⟨hnR, hnM, hnQ, hnK⟩
  rw [hnR, hnM, hnQ, hnK]
  rw [hnR] at hrl
  rw [hnM] at hml
  rw [hnQ] at hql
  rw [hnK] at hkl
  rw [hmul] at HPost
  obtain ⟨W1, hW1⟩ : ∃ W1, W1 = ((w.alloc (.cells #[.int .i64 L, .int .i64 (N : Int), .slice b nR d, .int .i64 S0, .slice e nM f] 25)).alloc (.cells #[.int .i64 L', .int .i64 (n : Int), .slice b' nQo d', .int .i64 S1, .slice e' nKo f'] 25)).alloc (.cells #[.int .i64 0, .int .i64 0, .slice none 0 0, .int .i64 0, .slice none 0 0] 25) := ⟨_, rfl⟩
  obtain ⟨W0, hW0, g0, s0, bx0⟩ := box5_new w (.int .i64 L) (.int .i64 (N : Int)) (.slice b nR d) (.int .i64 S0) (.slice e nM f) 25
  obtain ⟨W0', hW0', g0', s0', bx0'⟩ := box5_new W0 (.int .i64 L') (.int .i64 (n : Int)) (.slice b' nQo d') (.int .i64 S1) (.slice e' nKo f') 25
  have e1 : W1 = W0'.alloc (.cells #[.int .i64 0, .int .i64 0, .slice none 0 0, .int .i64 0, .slice none 0 0] 25) := by rw [hW1, hW0', hW0]
  have g1 : W0'.grownBy W1 none := by rw [e1]; exact grown_alloc _ _
  have hrb := heap_alloc_new W0' (.cells #[.int .i64 0, .int .i64 0, .slice none 0 0, .int .i64 0, .slice none 0 0] 25)
  rw [← e1, s0', s0] at hrb
  have s1 : W1.heap.size = w.heap.size + 1 + 1 + 1 := by rw [e1, World.size_alloc, s0', s0]
  have G1 : Hid (w.grownBy W1 none) := grown_trans g0 (grown_trans g0' g1)
  have HRB : Hid (W1.heap[w.heap.size + 1 + 1]? = some (.cells #[.int .i64 0, .int .i64 0, .slice none 0 0, .int .i64 0, .slice none 0 0] 25 (0, 0)) ∧ W1.heap.size = w.heap.size + 1 + 1 + 1) := ⟨hrb, s1⟩
  have B0 : Hid (∀ W', W1.grownBy W' none → W'.cell? ⟨w.heap.size, 0, none⟩ = some (.int .i64 L) ∧ W'.cell? ⟨w.heap.size, 1, none⟩ = some (.int .i64 (N : Int)) ∧ W'.cell? ⟨w.heap.size, 2, none⟩ = some (.slice b nR d) ∧ W'.cell? ⟨w.heap.size, 3, none⟩ = some (.int .i64 S0) ∧ W'.cell? ⟨w.heap.size, 4, none⟩ = some (.slice e nM f)) := fun W' hW' => bx0 W' (grown_trans g0' (grown_trans g1 hW'))
  have B1 : Hid (∀ W', W1.grownBy W' none → W'.cell? ⟨w.heap.size + 1, 0, none⟩ = some (.int .i64 L') ∧ W'.cell? ⟨w.heap.size + 1, 1, none⟩ = some (.int .i64 (n : Int)) ∧ W'.cell? ⟨w.heap.size + 1, 2, none⟩ = some (.slice b' nQo d') ∧ W'.cell? ⟨w.heap.size + 1, 3, none⟩ = some (.int .i64 S1) ∧ W'.cell? ⟨w.heap.size + 1, 4, none⟩ = some (.slice e' nKo f')) := fun W' hW' => s0 ▸ bx0' W' (grown_trans g1 hW')
  obtain ⟨W3, hW3, hO3, g3⟩ := outAt_start W1 L nn
  have G3 : Hid (W1.grownBy W3 none) := g3
  rw [s1] at hO3
  obtain ⟨bo, hbo⟩ : ∃ bo, w.heap.size + 1 + 1 + 1 = bo := ⟨_, rfl⟩
  rw [hbo] at hO3
  have Hbo : Hid (w.heap.size + 1 + 1 + 1 = bo) := hbo
  have OO : Hid (BI nn W3 W3 bo L (botR (R.take 0) Q n) [] 0 0 none 0 none 0) := ⟨hO3, rfl, rfl⟩
  have HW3 : Hid (W3 = _) := hW3.trans (by rw [hW1])
  have FR : Hid (∀ wr, W3.grownBy wr (some bo) → W1.grownBy wr none) := fun wr hw => grown_new g3 hw (by have := HRB.out.2; omega)
  have hmf : ∀ (fn : Fn) (first cap : Array Value) (w : World), (Instr.makeFunc fn first cap).run Try.prog w = .ok (.func fn first cap) w := fun _ _ _ _ => rfl
  obtain ⟨x0, x1, x2, x3, x4⟩ := B0.out W1 (grown_refl _ _)
  obtain ⟨z0, z1, z2, z3, z4⟩ := B1.out W1 (grown_refl _ _)
  have x2' : W3.cell? ⟨w.heap.size, 2, none⟩ = some (.slice b nR d) := (B0.out W3 g3).2.2.1
  rw [HW3.out] at x2'
  rw [hW1] at x0 x1 x2 x3 x4 z0 z1 z2 z3 z4
  clear h h' hR hQ hMk hKk hW0 hW0' g0 g0' s0 s0' bx0 bx0' g1 g3 hrb s1 e1 hW1 hW3 hP hnn hO3 hnR hnM hnQ hnK hbo
  go_enter Try.func11, Try.ntmps11
  go_wp2_with fail
  rw [← HW3.out, Hbo.out]
  clear x0 x1 x2 x3 x4 x2' z0 z1 z2 z3 z4 hmf
  go_loopw [27] (fun v wr => ∃ (i nQ cr : Nat) (ar : Option Addr), v = .int .i64 (i : Int) ∧ i ≤ nR ∧ BI nn W3 wr bo L (botR (R.take i) Q n) [] nQ 0 ar cr none 0) (fun v _ => nR - (intOf v).toNat)
  case atStart => exact ⟨0, 0, 0, none, rfl, by omega, OO.out⟩
  case round =>
    obtain ⟨i, nQ, cr, ar, rfl, hi, hO⟩ := hrel
    have O1 : Hid (BI nn W3 wr bo L (botR (R.take i) Q n) [] nQ 0 ar cr none 0) := hO
    clear hO OO
    have GR1 : Hid (W1.grownBy wr none) := FR.out wr O1.out.out.gr
    by_cases hin : i < nR
    · have qi : (i : Int) < (nR : Int) := by omega
      obtain ⟨bb, off, rfl, hc⟩ := (HA.out wr (grown_trans G1.out GR1.out)).1.at (k := i) (by rw [LR.out.1]; exact hin)
      obtain ⟨y0, y1, y2, y3⟩ := hc i (by rw [LR.out.1]; exact hin)
      have hri : RuIn L N (R.getD i ru0) := HRu.out i (by rw [LR.out.1]; exact hin)
      have HT : Hid (botR (R.take (i + 1)) Q n = botR (R.take i) Q n ++ botRow (R.getD i ru0) Q n Q.length) := botR_take R Q n (by rw [LR.out.1]; exact hin)
      obtain ⟨xb0, xb1, xb2, xb3, xb4⟩ := B1.out wr GR1.out
      have xb2' : ∀ o, (wr.alloc o).cell? ⟨w.heap.size + 1, 2, none⟩ = some (.slice b' nQo d') := fun o => (grown_alloc _ o).cell xb2 (by simp)
      clear hc
      generalize R.getD i ru0 = r at *
      obtain ⟨r0, r1, r2, r3⟩ := r
      unfold RuIn at hri
      simp only at y0 y1 y2 y3 hri
      obtain ⟨k8, hk8⟩ : ∃ k, wr.heap.size = k := ⟨_, rfl⟩
      obtain ⟨W8, hW8⟩ : ∃ W8, W8 = wr.alloc (.cells #[.int .i64 r0, .int .i64 r1, .int .i64 r2, .int .i64 r3] 43) := ⟨_, rfl⟩
      have HW8 : Hid (W8 = _) := hW8
      have g8 : wr.grownBy W8 none := by rw [hW8]; exact grown_alloc _ _
      have O2 : Hid (BI nn W3 W8 bo L (botR (R.take i) Q n ++ botRow (r0, r1, r2, r3) Q n 0) [] nQ 0 ar cr none 0) := by
        show BI _ _ _ _ _ _ _ _ _ _ _ _ _
        rw [botRow_zero, List.append_nil]
        exact ⟨O1.out.out.kept g8, O1.out.lq, rfl⟩
      have K2 : Hid (KI W8 k8 (r0, r1, r2, r3) ar) := ⟨by rw [hW8, ← hk8]; exact heap_alloc_new wr _, fun y hy => by
        have := (O1.out.out.rul.lt y.block (by rw [hy]; rfl)).2
        omega⟩
      have Hk8 : Hid (wr.heap.size = k8 ∧ k8 ≠ bo) := ⟨hk8, by have := O1.out.out.gr.size; have := O1.out.out.sz; omega⟩
      clear hW8 g8 hk8
      go_wp2_with fail
      rw [← HW8.out, Hk8.out.1]
      clear y0 y1 y2 y3 xb0 xb1 xb2 xb3 xb4 xb2'
      go_loopw [34] (fun v wr => ∃ (j nQ cr : Nat) (ar : Option Addr), v = .int .i64 (j : Int) ∧ j ≤ nQo ∧ BI nn W3 wr bo L (botR (R.take i) Q n ++ botRow (r0, r1, r2, r3) Q n j) [] nQ 0 ar cr none 0 ∧ KI wr k8 (r0, r1, r2, r3) ar) (fun v _ => nQo - (intOf v).toNat)
      case atStart => exact ⟨0, nQ, cr, ar, rfl, by omega, O2.out, K2.out⟩
      case round =>
        rename World => wq
        clear O1 O2 K2 GR1 HW8
        obtain ⟨j, nQ, cr, ar, rfl, hj, hO, hK⟩ := hrel
        have O1 : Hid (BI nn W3 wq bo L (botR (R.take i) Q n ++ botRow (r0, r1, r2, r3) Q n j) [] nQ 0 ar cr none 0) := hO
        have K1 : Hid (KI wq k8 (r0, r1, r2, r3) ar) := hK
        clear hO hK
        have GR1 : Hid (W1.grownBy wq none) := FR.out wq O1.out.out.gr
        by_cases hjn : j < nQo
        · have qj : (j : Int) < (nQo : Int) := by omega
          obtain ⟨cb, coff, rfl, hc⟩ := (HA.out wq (grown_trans G1.out GR1.out)).2.2.1.at (k := j) (by rw [LR.out.2.2.1]; exact hjn)
          obtain ⟨y0, y1, y2, y3⟩ := hc j (by rw [LR.out.2.2.1]; exact hjn)
          have hsj : RuIn L' n (Q.getD j ru0) := HQu.out j (by rw [LR.out.2.2.1]; exact hjn)
          have HS : Hid (botRow (r0, r1, r2, r3) Q n (j + 1) = botRow (r0, r1, r2, r3) Q n j ++ if mtB (r0, r1, r2, r3) (Q.getD j ru0) = true then [prR n (r0, r1, r2, r3) (Q.getD j ru0)] else []) := botRow_succ _ Q n (by rw [LR.out.2.2.1]; exact hjn)
          clear hc
          generalize Q.getD j ru0 = s at *
          obtain ⟨s0, s1, s2, s3⟩ := s
          unfold RuIn at hsj
          simp only at y0 y1 y2 y3 hsj
          obtain ⟨WX, hWX⟩ : ∃ WX, WX = wq.alloc (.cells #[.int .i64 s0, .int .i64 s1, .int .i64 s2, .int .i64 s3] 43) := ⟨_, rfl⟩
          have HWX : Hid (WX = _) := hWX
          have gX : wq.grownBy WX none := by rw [hWX]; exact grown_alloc _ _
          have GX : Hid (wq.grownBy WX none) := gX
          have k0 : ∀ o, (wq.alloc o).cell? ⟨k8, 0, none⟩ = some (.int .i64 r0) := fun o => (K1.out.kept (grown_alloc _ o)).cells.1
          have k1 : ∀ o, (wq.alloc o).cell? ⟨k8, 1, none⟩ = some (.int .i64 r1) := fun o => (K1.out.kept (grown_alloc _ o)).cells.2.1
          have k2 : ∀ o, (wq.alloc o).cell? ⟨k8, 2, none⟩ = some (.int .i64 r2) := fun o => (K1.out.kept (grown_alloc _ o)).cells.2.2.1
          have k3 : ∀ o, (wq.alloc o).cell? ⟨k8, 3, none⟩ = some (.int .i64 r3) := fun o => (K1.out.kept (grown_alloc _ o)).cells.2.2.2
          have HNo : Hid (mtB (r0, r1, r2, r3) (s0, s1, s2, s3) = false → BI nn W3 WX bo L (botR (R.take i) Q n ++ botRow (r0, r1, r2, r3) Q n (j + 1)) [] nQ 0 ar cr none 0 ∧ KI WX k8 (r0, r1, r2, r3) ar) := fun hm => by
            rw [HS.out, if_neg (by rw [hm]; simp), List.append_nil]
            exact ⟨⟨O1.out.out.kept GX.out, O1.out.lq, rfl⟩, K1.out.kept GX.out⟩
          have HAp : Hid (mtB (r0, r1, r2, r3) (s0, s1, s2, s3) = true → ∀ w4, WX.grownBy w4 none → w4.cell? ⟨bo, 2, none⟩ = some (.slice ar nQ cr) ∧ (∀ o, (w4.alloc o).cell? ⟨bo, 2, none⟩ = some (.slice ar nQ cr)) ∧ ∃ g c' w2, (AppS #[22, 22] 22 #[.slice ar nQ cr, .slice (some ⟨w4.heap.size, 0, none⟩) 1 1]).run Try.prog (w4.alloc (.cells #[.int .i64 r0, .int .i64 (prI n r1 s1), .int .i64 (prI n r2 s2), .int .i64 (prI n r3 s3)] 43)) = .ok (.slice (some ⟨g, 0, none⟩) (nQ + 1) c') w2 ∧ w2.cell? ⟨bo, 2, none⟩ = some (.slice ar nQ cr) ∧ w2.frozen? ⟨bo, 2, none⟩ = false ∧ Hid (BI nn W3 (w2.setCell ⟨bo, 2, none⟩ (.slice (some ⟨g, 0, none⟩) (nQ + 1) c')) bo L (botR (R.take i) Q n ++ botRow (r0, r1, r2, r3) Q n (j + 1)) [] (nQ + 1) 0 (some ⟨g, 0, none⟩) c' none 0 ∧ KI (w2.setCell ⟨bo, 2, none⟩ (.slice (some ⟨g, 0, none⟩) (nQ + 1) c')) k8 (r0, r1, r2, r3) (some ⟨g, 0, none⟩)) ∧ Hid (TwoR k8 wq.heap.size (r0, r1, r2, r3) (s0, s1, s2, s3) w2 ∧ TwoR k8 wq.heap.size (r0, r1, r2, r3) (s0, s1, s2, s3) (w2.setCell ⟨bo, 2, none⟩ (.slice (some ⟨g, 0, none⟩) (nQ + 1) c')))) := fun hm w4 hg4 => by
            have hO4 := (O1.out.out.kept GX.out).kept hg4
            have hK4 := (K1.out.kept GX.out).kept hg4
            obtain ⟨xo, _⟩ := hO4.cells
            obtain ⟨g5, c5, w5, hrun, xo5, fo5, hO5, hk5⟩ := hO4.rule2 (r0, prI n r1 s1, prI n r2 s2, prI n r3 s3) (HLen.out i _ j (by rw [LR.out.1]; omega))
            have hk6 := hk5 k8 _ hK4.blk Hk8.out.2 hK4.ne
            have hX4 : w4.heap[wq.heap.size]? = some (.cells #[.int .i64 s0, .int .i64 s1, .int .i64 s2, .int .i64 s3] 43 (0, 0)) := (hg4.block _ (by rw [HWX.out, World.size_alloc]; omega) (by simp)).trans (by rw [HWX.out]; exact heap_alloc_new wq _)
            have hk7 := hk5 wq.heap.size _ hX4 (by have := O1.out.out.gr.size; have := O1.out.out.sz; omega) (fun y hy => by have := (O1.out.out.rul.lt y.block (by rw [hy]; rfl)).2; omega)
            have two : ∀ W : World, W.heap[k8]? = some (.cells #[.int .i64 r0, .int .i64 r1, .int .i64 r2, .int .i64 r3] 43 (0, 0)) → W.heap[wq.heap.size]? = some (.cells #[.int .i64 s0, .int .i64 s1, .int .i64 s2, .int .i64 s3] 43 (0, 0)) → TwoR k8 wq.heap.size (r0, r1, r2, r3) (s0, s1, s2, s3) W := fun W h1 h2 => ⟨(KI.mk (ar := none) h1 (fun _ h => by cases h)).cells, (KI.mk (ar := none) h2 (fun _ h => by cases h)).cells⟩
            have two1 := two _ hk6.2.2 hk7.2.2
            have two2 := two _ hk6.1 hk7.1
            have e9 : botR (R.take i) Q n ++ botRow (r0, r1, r2, r3) Q n j ++ [(r0, prI n r1 s1, prI n r2 s2, prI n r3 s3)] = botR (R.take i) Q n ++ botRow (r0, r1, r2, r3) Q n (j + 1) := by
              rw [HS.out, if_pos hm, List.append_assoc]; rfl
            have e8 : (botR (R.take i) Q n ++ botRow (r0, r1, r2, r3) Q n (j + 1)).length = nQ + 1 := by rw [← e9, List.length_append, O1.out.lq]; rfl
            rw [e9] at hO5
            rw [O1.out.lq] at hrun xo xo5 hO5 hk6 two2
            exact ⟨xo, fun o => (grown_alloc _ o).cell xo (by simp), g5, c5, w5, hrun, xo5, fo5, ⟨⟨hO5, e8, rfl⟩, ⟨hk6.1, fun y hy => by cases hy; exact hk6.2.1⟩⟩, two1, two2⟩
          have HC : Hid (∀ (p q : Int) (W : World), W1.grownBy W none → (-1 ≤ p ∧ p ≤ 300) → (-1 ≤ q ∧ q ≤ 300) → Calls Try.prog 20 #[.int .i64 p, .int .i64 q, .pointer (some ⟨w.heap.size + 1, 0, none⟩)] W fun e w' => e = .returned (.int .i64 (prI n p q)) ∧ w' = W) := fun p q W hW h1 h2 => HP.out p q _ W (B1.out W hW).2.1 h1 h2
          have GD : Hid (W1.grownBy WX none ∧ W1.grownBy WX.drew none ∧ WX.grownBy WX.drew none) := ⟨grown_trans GR1.out gX, grown_trans (grown_trans GR1.out gX) (grown_drew (grown_refl _ _)), grown_drew (grown_refl _ _)⟩
          have HTw : Hid (TwoR k8 wq.heap.size (r0, r1, r2, r3) (s0, s1, s2, s3) WX) := ⟨(K1.out.kept gX).cells, (KI.mk (ar := none) (by rw [hWX]; exact heap_alloc_new wq _) (fun _ h => by cases h)).cells⟩
          clear hWX gX HS K1 O1 GX HLen
          by_cases e0 : r0 = s0
          · subst e0
            by_cases h1 : r1 = -1
            · subst h1
              by_cases h2 : s1 = -1
              · subst h2
                have hap := HAp.out (by simp [mtB])
                clear HAp HNo
                obtain ⟨xo4, xo4', g5, c5, w5, hrun, xo5, fo5, HO5, HT5⟩ := hap WX.drew GD.out.2.2
                have xo6 := (hap WX (grown_refl _ _)).2.1
                have hrun2 : (AppS #[22, 22] 22 #[.slice ar nQ cr, .slice (some ⟨WX.heap.size, 0, none⟩) 1 1]).run Try.prog (WX.alloc (.cells #[.int .i64 r0, .int .i64 (prI n (-1) (-1)), .int .i64 (prI n r2 s2), .int .i64 (prI n r3 s3)] 43)).drew = .ok (.slice (some ⟨g5, 0, none⟩) (nQ + 1) c5) w5 := hrun
                clear hap hrun
                go_wp2_with fail
                rw [← HWX.out]
                clear k0 k1 k2 k3
                have T0 : TwoR k8 wq.heap.size (r0, -1, r2, r3) (r0, -1, s2, s3) WX := HTw.out
                refine wp_region_held_drew (S := TwoR k8 wq.heap.size (r0, -1, r2, r3) (r0, -1, s2, s3)) (by kernel_rfl) (T0.kept GD.out.2.2) (fun hHeld => ?_)
                clear T0
                refine wpAnyH_take (i := 0) (v := ?_) rfl (by kernel_rfl) (by kernel_rfl) (by kernel_rfl) (fun _ _ _ h => h) (Or.inl ⟨by rfl, ?_⟩) (by assumption) ?_
                rotate_left
                · intro W hSw
                  obtain ⟨⟨t0, t1, t2, t3⟩, u0, u1, u2, u3⟩ := hSw
                  simp only [Nat.zero_add] at t1 t2 t3 u1 u2 u3
                  go_simp
                  with_reducible rfl
                try simp only [Act.put, List.setIfInBounds_toArray, List.set_cons_zero, List.set_cons_succ]
                refine wpAnyH_take (i := 2) (v := ?_) rfl (by kernel_rfl) (by kernel_rfl) (by kernel_rfl) (fun _ _ _ h => h) (Or.inl ⟨by rfl, ?_⟩) (by assumption) ?_
                rotate_left
                · intro W hSw
                  obtain ⟨⟨t0, t1, t2, t3⟩, u0, u1, u2, u3⟩ := hSw
                  simp only [Nat.zero_add] at t1 t2 t3 u1 u2 u3
                  go_simp
                  with_reducible rfl
                try simp only [Act.put, List.setIfInBounds_toArray, List.set_cons_zero, List.set_cons_succ]
                refine wpAnyH_take (i := 3) (v := ?_) rfl (by kernel_rfl) (by kernel_rfl) (by kernel_rfl) (fun _ _ _ h => h) (Or.inl ⟨by rfl, ?_⟩) (by assumption) ?_
                rotate_left
                · intro W hSw
                  obtain ⟨⟨t0, t1, t2, t3⟩, u0, u1, u2, u3⟩ := hSw
                  simp only [Nat.zero_add] at t1 t2 t3 u1 u2 u3
                  go_simp
                  with_reducible rfl
                try simp only [Act.put, List.setIfInBounds_toArray, List.set_cons_zero, List.set_cons_succ]
                refine wpAnyH_take (i := 4) (v := ?_) rfl (by kernel_rfl) (by kernel_rfl) (by kernel_rfl) (fun _ _ _ h => h) (Or.inl ⟨by rfl, ?_⟩) (by assumption) ?_
                rotate_left
                · intro W hSw
                  obtain ⟨⟨t0, t1, t2, t3⟩, u0, u1, u2, u3⟩ := hSw
                  simp only [Nat.zero_add] at t1 t2 t3 u1 u2 u3
                  go_simp
                  with_reducible rfl
                try simp only [Act.put, List.setIfInBounds_toArray, List.set_cons_zero, List.set_cons_succ]
                refine wpAnyH_take (i := 5) (v := ?_) rfl (by kernel_rfl) (by kernel_rfl) (by kernel_rfl) (fun _ _ _ h => h) (Or.inl ⟨by rfl, ?_⟩) (by assumption) ?_
                rotate_left
                · intro W hSw
                  obtain ⟨⟨t0, t1, t2, t3⟩, u0, u1, u2, u3⟩ := hSw
                  simp only [Nat.zero_add] at t1 t2 t3 u1 u2 u3
                  go_simp
                  with_reducible rfl
                try simp only [Act.put, List.setIfInBounds_toArray, List.set_cons_zero, List.set_cons_succ]
                refine wpAnyH_take (i := 6) (v := ?_) rfl (by kernel_rfl) (by kernel_rfl) (by kernel_rfl) (fun _ _ _ h => h) (Or.inl ⟨by rfl, ?_⟩) (by assumption) ?_
                rotate_left
                · intro W hSw
                  obtain ⟨⟨t0, t1, t2, t3⟩, u0, u1, u2, u3⟩ := hSw
                  simp only [Nat.zero_add] at t1 t2 t3 u1 u2 u3
                  go_simp
                  with_reducible rfl
                try simp only [Act.put, List.setIfInBounds_toArray, List.set_cons_zero, List.set_cons_succ]
                refine wpAnyH_take (i := 7) (v := ?_) rfl (by kernel_rfl) (by kernel_rfl) (by kernel_rfl) (fun _ _ _ h => h) (Or.inl ⟨by rfl, ?_⟩) (by assumption) ?_
                rotate_left
                · intro W hSw
                  obtain ⟨⟨t0, t1, t2, t3⟩, u0, u1, u2, u3⟩ := hSw
                  simp only [Nat.zero_add] at t1 t2 t3 u1 u2 u3
                  go_simp
                  with_reducible rfl
                try simp only [Act.put, List.setIfInBounds_toArray, List.set_cons_zero, List.set_cons_succ]
                refine wpAnyH_take (i := 8) (v := ?_) rfl (by kernel_rfl) (by kernel_rfl) (by kernel_rfl) (fun _ _ _ h => h) (Or.inl ⟨by rfl, ?_⟩) (by assumption) ?_
                rotate_left
                · intro W hSw
                  obtain ⟨⟨t0, t1, t2, t3⟩, u0, u1, u2, u3⟩ := hSw
                  simp only [Nat.zero_add] at t1 t2 t3 u1 u2 u3
                  go_simp
                  with_reducible rfl
                try simp only [Act.put, List.setIfInBounds_toArray, List.set_cons_zero, List.set_cons_succ]
                refine wpAnyH_take (i := 10) (v := ?_) rfl (by kernel_rfl) (by kernel_rfl) (by kernel_rfl) (fun _ _ _ h => h) (Or.inl ⟨by rfl, ?_⟩) (by assumption) ?_
                rotate_left
                · intro W hSw
                  obtain ⟨⟨t0, t1, t2, t3⟩, u0, u1, u2, u3⟩ := hSw
                  simp only [Nat.zero_add] at t1 t2 t3 u1 u2 u3
                  go_simp
                  with_reducible rfl
                try simp only [Act.put, List.setIfInBounds_toArray, List.set_cons_zero, List.set_cons_succ]
                refine wpAnyH_take (i := 11) (v := ?_) rfl (by kernel_rfl) (by kernel_rfl) (by kernel_rfl) (fun _ _ _ h => h) (Or.inl ⟨by rfl, ?_⟩) (by assumption) ?_
                rotate_left
                · intro W hSw
                  obtain ⟨⟨t0, t1, t2, t3⟩, u0, u1, u2, u3⟩ := hSw
                  simp only [Nat.zero_add] at t1 t2 t3 u1 u2 u3
                  go_simp
                  with_reducible rfl
                try simp only [Act.put, List.setIfInBounds_toArray, List.set_cons_zero, List.set_cons_succ]
                refine wpAnyH_take (i := 12) (v := ?_) rfl (by kernel_rfl) (by kernel_rfl) (by kernel_rfl) (fun _ _ _ h => h) (Or.inl ⟨by rfl, ?_⟩) (by assumption) ?_
                rotate_left
                · intro W hSw
                  obtain ⟨⟨t0, t1, t2, t3⟩, u0, u1, u2, u3⟩ := hSw
                  simp only [Nat.zero_add] at t1 t2 t3 u1 u2 u3
                  go_simp
                  with_reducible rfl
                try simp only [Act.put, List.setIfInBounds_toArray, List.set_cons_zero, List.set_cons_succ]
                refine wpAnyH_take (i := 13) (v := ?_) rfl (by kernel_rfl) (by kernel_rfl) (by kernel_rfl) (fun _ _ _ h => h) (Or.inl ⟨by rfl, ?_⟩) (by assumption) ?_
                rotate_left
                · intro W hSw
                  obtain ⟨⟨t0, t1, t2, t3⟩, u0, u1, u2, u3⟩ := hSw
                  simp only [Nat.zero_add] at t1 t2 t3 u1 u2 u3
                  go_simp
                  with_reducible rfl
                try simp only [Act.put, List.setIfInBounds_toArray, List.set_cons_zero, List.set_cons_succ]
                refine wpAnyH_take (i := 14) (v := ?_) rfl (by kernel_rfl) (by kernel_rfl) (by kernel_rfl) (fun _ _ _ h => h) (Or.inl ⟨by rfl, ?_⟩) (by assumption) ?_
                rotate_left
                · intro W hSw
                  obtain ⟨⟨t0, t1, t2, t3⟩, u0, u1, u2, u3⟩ := hSw
                  simp only [Nat.zero_add] at t1 t2 t3 u1 u2 u3
                  go_simp
                  with_reducible rfl
                try simp only [Act.put, List.setIfInBounds_toArray, List.set_cons_zero, List.set_cons_succ]
                refine wpAnyH_take (i := 16) (v := ?_) rfl (by kernel_rfl) (by kernel_rfl) (by kernel_rfl) (fun _ _ _ h => h) (Or.inl ⟨by rfl, ?_⟩) (by assumption) ?_
                rotate_left
                · intro W hSw
                  obtain ⟨⟨t0, t1, t2, t3⟩, u0, u1, u2, u3⟩ := hSw
                  simp only [Nat.zero_add] at t1 t2 t3 u1 u2 u3
                  go_simp
                  with_reducible rfl
                try simp only [Act.put, List.setIfInBounds_toArray, List.set_cons_zero, List.set_cons_succ]
                refine wpAnyH_take (i := 17) (v := ?_) rfl (by kernel_rfl) (by kernel_rfl) (by kernel_rfl) (fun _ _ _ h => h) (Or.inl ⟨by rfl, ?_⟩) (by assumption) ?_
                rotate_left
                · intro W hSw
                  obtain ⟨⟨t0, t1, t2, t3⟩, u0, u1, u2, u3⟩ := hSw
                  simp only [Nat.zero_add] at t1 t2 t3 u1 u2 u3
                  go_simp
                  with_reducible rfl
                try simp only [Act.put, List.setIfInBounds_toArray, List.set_cons_zero, List.set_cons_succ]
                refine wpAnyH_take (i := 18) (v := ?_) rfl (by kernel_rfl) (by kernel_rfl) (by kernel_rfl) (fun _ _ _ h => h) (Or.inl ⟨by rfl, ?_⟩) (by assumption) ?_
                rotate_left
                · intro W hSw
                  obtain ⟨⟨t0, t1, t2, t3⟩, u0, u1, u2, u3⟩ := hSw
                  simp only [Nat.zero_add] at t1 t2 t3 u1 u2 u3
                  go_simp
                  with_reducible rfl
                try simp only [Act.put, List.setIfInBounds_toArray, List.set_cons_zero, List.set_cons_succ]
                refine wpAnyH_take (i := 19) (v := ?_) rfl (by kernel_rfl) (by kernel_rfl) (by kernel_rfl) (fun _ _ _ h => h) (Or.inl ⟨by rfl, ?_⟩) (by assumption) ?_
                rotate_left
                · intro W hSw
                  obtain ⟨⟨t0, t1, t2, t3⟩, u0, u1, u2, u3⟩ := hSw
                  simp only [Nat.zero_add] at t1 t2 t3 u1 u2 u3
                  go_simp
                  with_reducible rfl
                try simp only [Act.put, List.setIfInBounds_toArray, List.set_cons_zero, List.set_cons_succ]
                refine wpAnyH_take (i := 20) (v := ?_) rfl (by kernel_rfl) (by kernel_rfl) (by kernel_rfl) (fun _ _ _ h => h) (Or.inl ⟨by rfl, ?_⟩) (by assumption) ?_
                rotate_left
                · intro W hSw
                  obtain ⟨⟨t0, t1, t2, t3⟩, u0, u1, u2, u3⟩ := hSw
                  simp only [Nat.zero_add] at t1 t2 t3 u1 u2 u3
                  go_simp
                  with_reducible rfl
                try simp only [Act.put, List.setIfInBounds_toArray, List.set_cons_zero, List.set_cons_succ]
                refine wpAnyH_ready (rs := [1, 9]) (by kernel_rfl) (by simp) ?_
                refine AllReadyH.cons (o := _) rfl (fun K' hK => ?_) ?_
                · go_simp
                  refine hK.out _ _ (by assumption) (fun hHeld => ?_)
                  clear hK K'
                  try simp only [Act.put, List.setIfInBounds_toArray, List.set_cons_zero, List.set_cons_succ]
                  refine wpAnyH_ready (rs := [9]) (by kernel_rfl) (by simp) ?_
                  refine AllReadyH.cons (o := _) rfl (fun K' hK => ?_) ?_
                  · go_simp
                    refine (HC.out _ _ _ GD.out.2.1 (by omega) (by omega)).mono ?_
                    rintro E w4 ⟨rfl, hw4⟩
                    have hw4' := hw4.symm
                    subst hw4'
                    go_wp2_with fail
                    refine hK.out _ _ (by assumption) (fun hHeld => ?_)
                    clear hK K'
                    try simp only [Act.put, List.setIfInBounds_toArray, List.set_cons_zero, List.set_cons_succ]
                    refine wpAnyH_ready (rs := [15]) (by kernel_rfl) (by simp) ?_
                    refine AllReadyH.cons (o := _) rfl (fun K' hK => ?_) ?_
                    · go_simp
                      refine (HC.out _ _ _ GD.out.2.1 (by omega) (by omega)).mono ?_
                      rintro E w4 ⟨rfl, hw4⟩
                      have hw4' := hw4.symm
                      subst hw4'
                      go_wp2_with fail
                      refine hK.out _ _ (by assumption) (fun hHeld => ?_)
                      clear hK K'
                      try simp only [Act.put, List.setIfInBounds_toArray, List.set_cons_zero, List.set_cons_succ]
                      refine wpAnyH_ready (rs := [21]) (by kernel_rfl) (by simp) ?_
                      refine AllReadyH.cons (o := _) rfl (fun K' hK => ?_) ?_
                      · go_simp
                        refine (HC.out _ _ _ GD.out.2.1 (by omega) (by omega)).mono ?_
                        rintro E w4 ⟨rfl, hw4⟩
                        have hw4' := hw4.symm
                        subst hw4'
                        go_wp2_with fail
                        refine hK.out _ _ (by assumption) (fun hHeld => ?_)
                        clear hK K'
                        try simp only [Act.put, List.setIfInBounds_toArray, List.set_cons_zero, List.set_cons_succ]
                        refine wpAnyH_take (i := 22) (v := ?_) rfl (by kernel_rfl) (by kernel_rfl) (by kernel_rfl) (fun _ _ _ h => h) (Or.inl ⟨by rfl, ?_⟩) (by assumption) ?_
                        rotate_left
                        · intro W hSw
                          obtain ⟨⟨t0, t1, t2, t3⟩, u0, u1, u2, u3⟩ := hSw
                          simp only [Nat.zero_add] at t1 t2 t3 u1 u2 u3
                          go_simp
                          with_reducible rfl
                        try simp only [Act.put, List.setIfInBounds_toArray, List.set_cons_zero, List.set_cons_succ]
                        refine wpAnyH_ready (rs := [23]) (by kernel_rfl) (by simp) ?_
                        refine AllReadyH.cons (o := _) rfl (fun K' hK => ?_) ?_
                        · go_simp
                          refine hK.out _ _ (hHeld.kept (grown_alloc _ _)) (fun hHeld => ?_)
                          clear hK K'
                          try simp only [Act.put, List.setIfInBounds_toArray, List.set_cons_zero, List.set_cons_succ]
                          refine wpAnyH_ready (rs := [24]) (by kernel_rfl) (by simp) ?_
                          refine AllReadyH.cons (o := _) rfl (fun K' hK => ?_) ?_
                          · go_simp
                            refine hK.out _ _ (HT5.out.1) (fun hHeld => ?_)
                            clear hK K'
                            try simp only [Act.put, List.setIfInBounds_toArray, List.set_cons_zero, List.set_cons_succ]
                            refine wpAnyH_take (i := 25) (v := ?_) rfl (by kernel_rfl) (by kernel_rfl) (by kernel_rfl) (fun _ _ _ h => h) (Or.inl ⟨by rfl, ?_⟩) (by assumption) ?_
                            rotate_left
                            · intro W hSw
                              obtain ⟨⟨t0, t1, t2, t3⟩, u0, u1, u2, u3⟩ := hSw
                              simp only [Nat.zero_add] at t1 t2 t3 u1 u2 u3
                              go_simp
                              with_reducible rfl
                            try simp only [Act.put, List.setIfInBounds_toArray, List.set_cons_zero, List.set_cons_succ]
                            refine wpAnyH_ready (rs := [26]) (by kernel_rfl) (by simp) ?_
                            refine AllReadyH.cons (o := _) rfl (fun K' hK => ?_) ?_
                            · go_simp
                              refine hK.out _ _ (HT5.out.2) (fun hHeld => ?_)
                              clear hK K'
                              try simp only [Act.put, List.setIfInBounds_toArray, List.set_cons_zero, List.set_cons_succ]
                              refine wpAnyH_done (by kernel_rfl) ?_ _
                              go_wp2_with fail
                              go_roundw
                              case rel => exact ⟨j + 1, nQ + 1, c5, some ⟨g5, 0, none⟩, by go_num, by omega, HO5.out.1, HO5.out.2⟩
                              case measure => simp [intOf]; omega
                            exact AllReadyH.nil
                          exact AllReadyH.nil
                        exact AllReadyH.nil
                      exact AllReadyH.nil
                    exact AllReadyH.nil
                  exact AllReadyH.nil
                refine AllReadyH.cons (o := _) rfl (fun K' hK => ?_) ?_
                · go_simp
                  refine (HC.out _ _ _ GD.out.2.1 (by omega) (by omega)).mono ?_
                  rintro E w4 ⟨rfl, hw4⟩
                  have hw4' := hw4.symm
                  subst hw4'
                  go_wp2_with fail
                  refine hK.out _ _ (by assumption) (fun hHeld => ?_)
                  clear hK K'
                  try simp only [Act.put, List.setIfInBounds_toArray, List.set_cons_zero, List.set_cons_succ]
                  refine wpAnyH_ready (rs := [1, 15]) (by kernel_rfl) (by simp) ?_
                  refine AllReadyH.cons (o := _) rfl (fun K' hK => ?_) ?_
                  · go_simp
                    refine hK.out _ _ (by assumption) (fun hHeld => ?_)
                    clear hK K'
                    try simp only [Act.put, List.setIfInBounds_toArray, List.set_cons_zero, List.set_cons_succ]
                    refine wpAnyH_ready (rs := [15]) (by kernel_rfl) (by simp) ?_
                    refine AllReadyH.cons (o := _) rfl (fun K' hK => ?_) ?_
                    · go_simp
                      refine (HC.out _ _ _ GD.out.2.1 (by omega) (by omega)).mono ?_
                      rintro E w4 ⟨rfl, hw4⟩
                      have hw4' := hw4.symm
                      subst hw4'
                      go_wp2_with fail
                      refine hK.out _ _ (by assumption) (fun hHeld => ?_)
                      clear hK K'
                      try simp only [Act.put, List.setIfInBounds_toArray, List.set_cons_zero, List.set_cons_succ]
                      refine wpAnyH_ready (rs := [21]) (by kernel_rfl) (by simp) ?_
                      refine AllReadyH.cons (o := _) rfl (fun K' hK => ?_) ?_
                      · go_simp
                        refine (HC.out _ _ _ GD.out.2.1 (by omega) (by omega)).mono ?_
                        rintro E w4 ⟨rfl, hw4⟩
                        have hw4' := hw4.symm
                        subst hw4'
                        go_wp2_with fail
                        refine hK.out _ _ (by assumption) (fun hHeld => ?_)
                        clear hK K'
                        try simp only [Act.put, List.setIfInBounds_toArray, List.set_cons_zero, List.set_cons_succ]
                        refine wpAnyH_take (i := 22) (v := ?_) rfl (by kernel_rfl) (by kernel_rfl) (by kernel_rfl) (fun _ _ _ h => h) (Or.inl ⟨by rfl, ?_⟩) (by assumption) ?_
                        rotate_left
                        · intro W hSw
                          obtain ⟨⟨t0, t1, t2, t3⟩, u0, u1, u2, u3⟩ := hSw
                          simp only [Nat.zero_add] at t1 t2 t3 u1 u2 u3
                          go_simp
                          with_reducible rfl
                        try simp only [Act.put, List.setIfInBounds_toArray, List.set_cons_zero, List.set_cons_succ]
                        refine wpAnyH_ready (rs := [23]) (by kernel_rfl) (by simp) ?_
                        refine AllReadyH.cons (o := _) rfl (fun K' hK => ?_) ?_
                        · go_simp
                          refine hK.out _ _ (hHeld.kept (grown_alloc _ _)) (fun hHeld => ?_)
                          clear hK K'
                          try simp only [Act.put, List.setIfInBounds_toArray, List.set_cons_zero, List.set_cons_succ]
                          refine wpAnyH_ready (rs := [24]) (by kernel_rfl) (by simp) ?_
                          refine AllReadyH.cons (o := _) rfl (fun K' hK => ?_) ?_
                          · go_simp
                            refine hK.out _ _ (HT5.out.1) (fun hHeld => ?_)
                            clear hK K'
                            try simp only [Act.put, List.setIfInBounds_toArray, List.set_cons_zero, List.set_cons_succ]
                            refine wpAnyH_take (i := 25) (v := ?_) rfl (by kernel_rfl) (by kernel_rfl) (by kernel_rfl) (fun _ _ _ h => h) (Or.inl ⟨by rfl, ?_⟩) (by assumption) ?_
                            rotate_left
                            · intro W hSw
                              obtain ⟨⟨t0, t1, t2, t3⟩, u0, u1, u2, u3⟩ := hSw
                              simp only [Nat.zero_add] at t1 t2 t3 u1 u2 u3
                              go_simp
                              with_reducible rfl
                            try simp only [Act.put, List.setIfInBounds_toArray, List.set_cons_zero, List.set_cons_succ]
                            refine wpAnyH_ready (rs := [26]) (by kernel_rfl) (by simp) ?_
                            refine AllReadyH.cons (o := _) rfl (fun K' hK => ?_) ?_
                            · go_simp
                              refine hK.out _ _ (HT5.out.2) (fun hHeld => ?_)
                              clear hK K'
                              try simp only [Act.put, List.setIfInBounds_toArray, List.set_cons_zero, List.set_cons_succ]
                              refine wpAnyH_done (by kernel_rfl) ?_ _
                              go_wp2_with fail
                              go_roundw
                              case rel => exact ⟨j + 1, nQ + 1, c5, some ⟨g5, 0, none⟩, by go_num, by omega, HO5.out.1, HO5.out.2⟩
                              case measure => simp [intOf]; omega
                            exact AllReadyH.nil
                          exact AllReadyH.nil
                        exact AllReadyH.nil
                      exact AllReadyH.nil
                    exact AllReadyH.nil
                  refine AllReadyH.cons (o := _) rfl (fun K' hK => ?_) ?_
                  · go_simp
                    refine (HC.out _ _ _ GD.out.2.1 (by omega) (by omega)).mono ?_
                    rintro E w4 ⟨rfl, hw4⟩
                    have hw4' := hw4.symm
                    subst hw4'
                    go_wp2_with fail
                    refine hK.out _ _ (by assumption) (fun hHeld => ?_)
                    clear hK K'
                    try simp only [Act.put, List.setIfInBounds_toArray, List.set_cons_zero, List.set_cons_succ]
                    refine wpAnyH_ready (rs := [1, 21]) (by kernel_rfl) (by simp) ?_
                    refine AllReadyH.cons (o := _) rfl (fun K' hK => ?_) ?_
                    · go_simp
                      refine hK.out _ _ (by assumption) (fun hHeld => ?_)
                      clear hK K'
                      try simp only [Act.put, List.setIfInBounds_toArray, List.set_cons_zero, List.set_cons_succ]
                      refine wpAnyH_ready (rs := [21]) (by kernel_rfl) (by simp) ?_
                      refine AllReadyH.cons (o := _) rfl (fun K' hK => ?_) ?_
                      · go_simp
                        refine (HC.out _ _ _ GD.out.2.1 (by omega) (by omega)).mono ?_
                        rintro E w4 ⟨rfl, hw4⟩
                        have hw4' := hw4.symm
                        subst hw4'
                        go_wp2_with fail
                        refine hK.out _ _ (by assumption) (fun hHeld => ?_)
                        clear hK K'
                        try simp only [Act.put, List.setIfInBounds_toArray, List.set_cons_zero, List.set_cons_succ]
                        refine wpAnyH_take (i := 22) (v := ?_) rfl (by kernel_rfl) (by kernel_rfl) (by kernel_rfl) (fun _ _ _ h => h) (Or.inl ⟨by rfl, ?_⟩) (by assumption) ?_
                        rotate_left
                        · intro W hSw
                          obtain ⟨⟨t0, t1, t2, t3⟩, u0, u1, u2, u3⟩ := hSw
                          simp only [Nat.zero_add] at t1 t2 t3 u1 u2 u3
                          go_simp
                          with_reducible rfl
                        try simp only [Act.put, List.setIfInBounds_toArray, List.set_cons_zero, List.set_cons_succ]
                        refine wpAnyH_ready (rs := [23]) (by kernel_rfl) (by simp) ?_
                        refine AllReadyH.cons (o := _) rfl (fun K' hK => ?_) ?_
                        · go_simp
                          refine hK.out _ _ (hHeld.kept (grown_alloc _ _)) (fun hHeld => ?_)
                          clear hK K'
                          try simp only [Act.put, List.setIfInBounds_toArray, List.set_cons_zero, List.set_cons_succ]
                          refine wpAnyH_ready (rs := [24]) (by kernel_rfl) (by simp) ?_
                          refine AllReadyH.cons (o := _) rfl (fun K' hK => ?_) ?_
                          · go_simp
                            refine hK.out _ _ (HT5.out.1) (fun hHeld => ?_)
                            clear hK K'
                            try simp only [Act.put, List.setIfInBounds_toArray, List.set_cons_zero, List.set_cons_succ]
                            refine wpAnyH_take (i := 25) (v := ?_) rfl (by kernel_rfl) (by kernel_rfl) (by kernel_rfl) (fun _ _ _ h => h) (Or.inl ⟨by rfl, ?_⟩) (by assumption) ?_
                            rotate_left
                            · intro W hSw
                              obtain ⟨⟨t0, t1, t2, t3⟩, u0, u1, u2, u3⟩ := hSw
                              simp only [Nat.zero_add] at t1 t2 t3 u1 u2 u3
                              go_simp
                              with_reducible rfl
                            try simp only [Act.put, List.setIfInBounds_toArray, List.set_cons_zero, List.set_cons_succ]
                            refine wpAnyH_ready (rs := [26]) (by kernel_rfl) (by simp) ?_
                            refine AllReadyH.cons (o := _) rfl (fun K' hK => ?_) ?_
                            · go_simp
                              refine hK.out _ _ (HT5.out.2) (fun hHeld => ?_)
                              clear hK K'
                              try simp only [Act.put, List.setIfInBounds_toArray, List.set_cons_zero, List.set_cons_succ]
                              refine wpAnyH_done (by kernel_rfl) ?_ _
                              go_wp2_with fail
                              go_roundw
                              case rel => exact ⟨j + 1, nQ + 1, c5, some ⟨g5, 0, none⟩, by go_num, by omega, HO5.out.1, HO5.out.2⟩
                              case measure => simp [intOf]; omega
                            exact AllReadyH.nil
                          exact AllReadyH.nil
                        exact AllReadyH.nil
                      exact AllReadyH.nil
                    refine AllReadyH.cons (o := _) rfl (fun K' hK => ?_) ?_
                    · go_simp
                      refine (HC.out _ _ _ GD.out.2.1 (by omega) (by omega)).mono ?_
                      rintro E w4 ⟨rfl, hw4⟩
                      have hw4' := hw4.symm
                      subst hw4'
                      go_wp2_with fail
                      refine hK.out _ _ (by assumption) (fun hHeld => ?_)
                      clear hK K'
                      try simp only [Act.put, List.setIfInBounds_toArray, List.set_cons_zero, List.set_cons_succ]
                      refine wpAnyH_take (i := 22) (v := ?_) rfl (by kernel_rfl) (by kernel_rfl) (by kernel_rfl) (fun _ _ _ h => h) (Or.inl ⟨by rfl, ?_⟩) (by assumption) ?_
                      rotate_left
                      · intro W hSw
                        obtain ⟨⟨t0, t1, t2, t3⟩, u0, u1, u2, u3⟩ := hSw
                        simp only [Nat.zero_add] at t1 t2 t3 u1 u2 u3
                        go_simp
                        with_reducible rfl
                      try simp only [Act.put, List.setIfInBounds_toArray, List.set_cons_zero, List.set_cons_succ]
                      refine wpAnyH_ready (rs := [1, 23]) (by kernel_rfl) (by simp) ?_
                      refine AllReadyH.cons (o := _) rfl (fun K' hK => ?_) ?_
                      · go_simp
                        refine hK.out _ _ (by assumption) (fun hHeld => ?_)
                        clear hK K'
                        try simp only [Act.put, List.setIfInBounds_toArray, List.set_cons_zero, List.set_cons_succ]
                        refine wpAnyH_ready (rs := [23]) (by kernel_rfl) (by simp) ?_
                        refine AllReadyH.cons (o := _) rfl (fun K' hK => ?_) ?_
                        · go_simp
                          refine hK.out _ _ (hHeld.kept (grown_alloc _ _)) (fun hHeld => ?_)
                          clear hK K'
                          try simp only [Act.put, List.setIfInBounds_toArray, List.set_cons_zero, List.set_cons_succ]
                          refine wpAnyH_ready (rs := [24]) (by kernel_rfl) (by simp) ?_
                          refine AllReadyH.cons (o := _) rfl (fun K' hK => ?_) ?_
                          · go_simp
                            refine hK.out _ _ (HT5.out.1) (fun hHeld => ?_)
                            clear hK K'
                            try simp only [Act.put, List.setIfInBounds_toArray, List.set_cons_zero, List.set_cons_succ]
                            refine wpAnyH_take (i := 25) (v := ?_) rfl (by kernel_rfl) (by kernel_rfl) (by kernel_rfl) (fun _ _ _ h => h) (Or.inl ⟨by rfl, ?_⟩) (by assumption) ?_
                            rotate_left
                            · intro W hSw
                              obtain ⟨⟨t0, t1, t2, t3⟩, u0, u1, u2, u3⟩ := hSw
                              simp only [Nat.zero_add] at t1 t2 t3 u1 u2 u3
                              go_simp
                              with_reducible rfl
                            try simp only [Act.put, List.setIfInBounds_toArray, List.set_cons_zero, List.set_cons_succ]
                            refine wpAnyH_ready (rs := [26]) (by kernel_rfl) (by simp) ?_
                            refine AllReadyH.cons (o := _) rfl (fun K' hK => ?_) ?_
                            · go_simp
                              refine hK.out _ _ (HT5.out.2) (fun hHeld => ?_)
                              clear hK K'
                              try simp only [Act.put, List.setIfInBounds_toArray, List.set_cons_zero, List.set_cons_succ]
                              refine wpAnyH_done (by kernel_rfl) ?_ _
                              go_wp2_with fail
                              go_roundw
                              case rel => exact ⟨j + 1, nQ + 1, c5, some ⟨g5, 0, none⟩, by go_num, by omega, HO5.out.1, HO5.out.2⟩
                              case measure => simp [intOf]; omega
                            exact AllReadyH.nil
                          exact AllReadyH.nil
                        exact AllReadyH.nil
                      refine AllReadyH.cons (o := _) rfl (fun K' hK => ?_) ?_
                      · go_simp
                        refine hK.out _ _ (hHeld.kept (grown_alloc _ _)) (fun hHeld => ?_)
                        clear hK K'
                        try simp only [Act.put, List.setIfInBounds_toArray, List.set_cons_zero, List.set_cons_succ]
                        refine wpAnyH_ready (rs := [1]) (by kernel_rfl) (by simp) ?_
                        refine AllReadyH.cons (o := _) rfl (fun K' hK => ?_) ?_
                        · go_simp
                          refine hK.out _ _ (by assumption) (fun hHeld => ?_)
                          clear hK K'
                          try simp only [Act.put, List.setIfInBounds_toArray, List.set_cons_zero, List.set_cons_succ]
                          refine wpAnyH_ready (rs := [24]) (by kernel_rfl) (by simp) ?_
                          refine AllReadyH.cons (o := _) rfl (fun K' hK => ?_) ?_
                          · go_simp
                            refine hK.out _ _ (HT5.out.1) (fun hHeld => ?_)
                            clear hK K'
                            try simp only [Act.put, List.setIfInBounds_toArray, List.set_cons_zero, List.set_cons_succ]
                            refine wpAnyH_take (i := 25) (v := ?_) rfl (by kernel_rfl) (by kernel_rfl) (by kernel_rfl) (fun _ _ _ h => h) (Or.inl ⟨by rfl, ?_⟩) (by assumption) ?_
                            rotate_left
                            · intro W hSw
                              obtain ⟨⟨t0, t1, t2, t3⟩, u0, u1, u2, u3⟩ := hSw
                              simp only [Nat.zero_add] at t1 t2 t3 u1 u2 u3
                              go_simp
                              with_reducible rfl
                            try simp only [Act.put, List.setIfInBounds_toArray, List.set_cons_zero, List.set_cons_succ]
                            refine wpAnyH_ready (rs := [26]) (by kernel_rfl) (by simp) ?_
                            refine AllReadyH.cons (o := _) rfl (fun K' hK => ?_) ?_
                            · go_simp
                              refine hK.out _ _ (HT5.out.2) (fun hHeld => ?_)
                              clear hK K'
                              try simp only [Act.put, List.setIfInBounds_toArray, List.set_cons_zero, List.set_cons_succ]
                              refine wpAnyH_done (by kernel_rfl) ?_ _
                              go_wp2_with fail
                              go_roundw
                              case rel => exact ⟨j + 1, nQ + 1, c5, some ⟨g5, 0, none⟩, by go_num, by omega, HO5.out.1, HO5.out.2⟩
                              case measure => simp [intOf]; omega
                            exact AllReadyH.nil
                          exact AllReadyH.nil
                        exact AllReadyH.nil
                      exact AllReadyH.nil
                    exact AllReadyH.nil
                  exact AllReadyH.nil
                exact AllReadyH.nil
              · have hno := HNo.out (by simp [mtB, h2])
                clear HAp HNo
                go_wp2_with fail
                rw [← HWX.out]
                go_roundw
                case rel => exact ⟨j + 1, nQ, cr, ar, by go_num, by omega, hno.1, hno.2⟩
                case measure => simp [intOf]; omega
            · by_cases h2 : s1 = -1
              · subst h2
                have hno := HNo.out (by simp [mtB, h1])
                clear HAp HNo
                go_wp2_with fail
                rw [← HWX.out]
                go_roundw
                case rel => exact ⟨j + 1, nQ, cr, ar, by go_num, by omega, hno.1, hno.2⟩
                case measure => simp [intOf]; omega
              · have hap := HAp.out (by simp [mtB, beq_eq_false_iff_ne.2 h1, beq_eq_false_iff_ne.2 h2])
                clear HAp HNo
                obtain ⟨xo4, xo4', g5, c5, w5, hrun, xo5, fo5, HO5, HT5⟩ := hap WX.drew GD.out.2.2
                have xo6 := (hap WX (grown_refl _ _)).2.1
                have hrun2 : (AppS #[22, 22] 22 #[.slice ar nQ cr, .slice (some ⟨WX.heap.size, 0, none⟩) 1 1]).run Try.prog (WX.alloc (.cells #[.int .i64 r0, .int .i64 (prI n r1 s1), .int .i64 (prI n r2 s2), .int .i64 (prI n r3 s3)] 43)).drew = .ok (.slice (some ⟨g5, 0, none⟩) (nQ + 1) c5) w5 := hrun
                clear hap hrun
                have b1 : (r1 == -1) = false := beq_eq_false_iff_ne.2 h1
                have b2 : (s1 == -1) = false := beq_eq_false_iff_ne.2 h2
                have b3 : ((r1 == -1) == (s1 == -1)) = true := by rw [b1, b2]; rfl
                go_wp2_with fail
                rw [← HWX.out]
                clear k0 k1 k2 k3
                have T0 : TwoR k8 wq.heap.size (r0, r1, r2, r3) (r0, s1, s2, s3) WX := HTw.out
                refine wp_region_held_drew (S := TwoR k8 wq.heap.size (r0, r1, r2, r3) (r0, s1, s2, s3)) (by kernel_rfl) (T0.kept GD.out.2.2) (fun hHeld => ?_)
                clear T0
                refine wpAnyH_take (i := 0) (v := ?_) rfl (by kernel_rfl) (by kernel_rfl) (by kernel_rfl) (fun _ _ _ h => h) (Or.inl ⟨by rfl, ?_⟩) (by assumption) ?_
                rotate_left
                · intro W hSw
                  obtain ⟨⟨t0, t1, t2, t3⟩, u0, u1, u2, u3⟩ := hSw
                  simp only [Nat.zero_add] at t1 t2 t3 u1 u2 u3
                  go_simp
                  with_reducible rfl
                try simp only [Act.put, List.setIfInBounds_toArray, List.set_cons_zero, List.set_cons_succ]
                refine wpAnyH_take (i := 2) (v := ?_) rfl (by kernel_rfl) (by kernel_rfl) (by kernel_rfl) (fun _ _ _ h => h) (Or.inl ⟨by rfl, ?_⟩) (by assumption) ?_
                rotate_left
                · intro W hSw
                  obtain ⟨⟨t0, t1, t2, t3⟩, u0, u1, u2, u3⟩ := hSw
                  simp only [Nat.zero_add] at t1 t2 t3 u1 u2 u3
                  go_simp
                  with_reducible rfl
                try simp only [Act.put, List.setIfInBounds_toArray, List.set_cons_zero, List.set_cons_succ]
                refine wpAnyH_take (i := 3) (v := ?_) rfl (by kernel_rfl) (by kernel_rfl) (by kernel_rfl) (fun _ _ _ h => h) (Or.inl ⟨by rfl, ?_⟩) (by assumption) ?_
                rotate_left
                · intro W hSw
                  obtain ⟨⟨t0, t1, t2, t3⟩, u0, u1, u2, u3⟩ := hSw
                  simp only [Nat.zero_add] at t1 t2 t3 u1 u2 u3
                  go_simp
                  with_reducible rfl
                try simp only [Act.put, List.setIfInBounds_toArray, List.set_cons_zero, List.set_cons_succ]
                refine wpAnyH_take (i := 4) (v := ?_) rfl (by kernel_rfl) (by kernel_rfl) (by kernel_rfl) (fun _ _ _ h => h) (Or.inl ⟨by rfl, ?_⟩) (by assumption) ?_
                rotate_left
                · intro W hSw
                  obtain ⟨⟨t0, t1, t2, t3⟩, u0, u1, u2, u3⟩ := hSw
                  simp only [Nat.zero_add] at t1 t2 t3 u1 u2 u3
                  go_simp
                  with_reducible rfl
                try simp only [Act.put, List.setIfInBounds_toArray, List.set_cons_zero, List.set_cons_succ]
                refine wpAnyH_take (i := 5) (v := ?_) rfl (by kernel_rfl) (by kernel_rfl) (by kernel_rfl) (fun _ _ _ h => h) (Or.inl ⟨by rfl, ?_⟩) (by assumption) ?_
                rotate_left
                · intro W hSw
                  obtain ⟨⟨t0, t1, t2, t3⟩, u0, u1, u2, u3⟩ := hSw
                  simp only [Nat.zero_add] at t1 t2 t3 u1 u2 u3
                  go_simp
                  with_reducible rfl
                try simp only [Act.put, List.setIfInBounds_toArray, List.set_cons_zero, List.set_cons_succ]
                refine wpAnyH_take (i := 6) (v := ?_) rfl (by kernel_rfl) (by kernel_rfl) (by kernel_rfl) (fun _ _ _ h => h) (Or.inl ⟨by rfl, ?_⟩) (by assumption) ?_
                rotate_left
                · intro W hSw
                  obtain ⟨⟨t0, t1, t2, t3⟩, u0, u1, u2, u3⟩ := hSw
                  simp only [Nat.zero_add] at t1 t2 t3 u1 u2 u3
                  go_simp
                  with_reducible rfl
                try simp only [Act.put, List.setIfInBounds_toArray, List.set_cons_zero, List.set_cons_succ]
                refine wpAnyH_take (i := 7) (v := ?_) rfl (by kernel_rfl) (by kernel_rfl) (by kernel_rfl) (fun _ _ _ h => h) (Or.inl ⟨by rfl, ?_⟩) (by assumption) ?_
                rotate_left
                · intro W hSw
                  obtain ⟨⟨t0, t1, t2, t3⟩, u0, u1, u2, u3⟩ := hSw
                  simp only [Nat.zero_add] at t1 t2 t3 u1 u2 u3
                  go_simp
                  with_reducible rfl
                try simp only [Act.put, List.setIfInBounds_toArray, List.set_cons_zero, List.set_cons_succ]
                refine wpAnyH_take (i := 8) (v := ?_) rfl (by kernel_rfl) (by kernel_rfl) (by kernel_rfl) (fun _ _ _ h => h) (Or.inl ⟨by rfl, ?_⟩) (by assumption) ?_
                rotate_left
                · intro W hSw
                  obtain ⟨⟨t0, t1, t2, t3⟩, u0, u1, u2, u3⟩ := hSw
                  simp only [Nat.zero_add] at t1 t2 t3 u1 u2 u3
                  go_simp
                  with_reducible rfl
                try simp only [Act.put, List.setIfInBounds_toArray, List.set_cons_zero, List.set_cons_succ]
                refine wpAnyH_take (i := 10) (v := ?_) rfl (by kernel_rfl) (by kernel_rfl) (by kernel_rfl) (fun _ _ _ h => h) (Or.inl ⟨by rfl, ?_⟩) (by assumption) ?_
                rotate_left
                · intro W hSw
                  obtain ⟨⟨t0, t1, t2, t3⟩, u0, u1, u2, u3⟩ := hSw
                  simp only [Nat.zero_add] at t1 t2 t3 u1 u2 u3
                  go_simp
                  with_reducible rfl
                try simp only [Act.put, List.setIfInBounds_toArray, List.set_cons_zero, List.set_cons_succ]
                refine wpAnyH_take (i := 11) (v := ?_) rfl (by kernel_rfl) (by kernel_rfl) (by kernel_rfl) (fun _ _ _ h => h) (Or.inl ⟨by rfl, ?_⟩) (by assumption) ?_
                rotate_left
                · intro W hSw
                  obtain ⟨⟨t0, t1, t2, t3⟩, u0, u1, u2, u3⟩ := hSw
                  simp only [Nat.zero_add] at t1 t2 t3 u1 u2 u3
                  go_simp
                  with_reducible rfl
                try simp only [Act.put, List.setIfInBounds_toArray, List.set_cons_zero, List.set_cons_succ]
                refine wpAnyH_take (i := 12) (v := ?_) rfl (by kernel_rfl) (by kernel_rfl) (by kernel_rfl) (fun _ _ _ h => h) (Or.inl ⟨by rfl, ?_⟩) (by assumption) ?_
                rotate_left
                · intro W hSw
                  obtain ⟨⟨t0, t1, t2, t3⟩, u0, u1, u2, u3⟩ := hSw
                  simp only [Nat.zero_add] at t1 t2 t3 u1 u2 u3
                  go_simp
                  with_reducible rfl
                try simp only [Act.put, List.setIfInBounds_toArray, List.set_cons_zero, List.set_cons_succ]
                refine wpAnyH_take (i := 13) (v := ?_) rfl (by kernel_rfl) (by kernel_rfl) (by kernel_rfl) (fun _ _ _ h => h) (Or.inl ⟨by rfl, ?_⟩) (by assumption) ?_
                rotate_left
                · intro W hSw
                  obtain ⟨⟨t0, t1, t2, t3⟩, u0, u1, u2, u3⟩ := hSw
                  simp only [Nat.zero_add] at t1 t2 t3 u1 u2 u3
                  go_simp
                  with_reducible rfl
                try simp only [Act.put, List.setIfInBounds_toArray, List.set_cons_zero, List.set_cons_succ]
                refine wpAnyH_take (i := 14) (v := ?_) rfl (by kernel_rfl) (by kernel_rfl) (by kernel_rfl) (fun _ _ _ h => h) (Or.inl ⟨by rfl, ?_⟩) (by assumption) ?_
                rotate_left
                · intro W hSw
                  obtain ⟨⟨t0, t1, t2, t3⟩, u0, u1, u2, u3⟩ := hSw
                  simp only [Nat.zero_add] at t1 t2 t3 u1 u2 u3
                  go_simp
                  with_reducible rfl
                try simp only [Act.put, List.setIfInBounds_toArray, List.set_cons_zero, List.set_cons_succ]
                refine wpAnyH_take (i := 16) (v := ?_) rfl (by kernel_rfl) (by kernel_rfl) (by kernel_rfl) (fun _ _ _ h => h) (Or.inl ⟨by rfl, ?_⟩) (by assumption) ?_
                rotate_left
                · intro W hSw
                  obtain ⟨⟨t0, t1, t2, t3⟩, u0, u1, u2, u3⟩ := hSw
                  simp only [Nat.zero_add] at t1 t2 t3 u1 u2 u3
                  go_simp
                  with_reducible rfl
                try simp only [Act.put, List.setIfInBounds_toArray, List.set_cons_zero, List.set_cons_succ]
                refine wpAnyH_take (i := 17) (v := ?_) rfl (by kernel_rfl) (by kernel_rfl) (by kernel_rfl) (fun _ _ _ h => h) (Or.inl ⟨by rfl, ?_⟩) (by assumption) ?_
                rotate_left
                · intro W hSw
                  obtain ⟨⟨t0, t1, t2, t3⟩, u0, u1, u2, u3⟩ := hSw
                  simp only [Nat.zero_add] at t1 t2 t3 u1 u2 u3
                  go_simp
                  with_reducible rfl
                try simp only [Act.put, List.setIfInBounds_toArray, List.set_cons_zero, List.set_cons_succ]
                refine wpAnyH_take (i := 18) (v := ?_) rfl (by kernel_rfl) (by kernel_rfl) (by kernel_rfl) (fun _ _ _ h => h) (Or.inl ⟨by rfl, ?_⟩) (by assumption) ?_
                rotate_left
                · intro W hSw
                  obtain ⟨⟨t0, t1, t2, t3⟩, u0, u1, u2, u3⟩ := hSw
                  simp only [Nat.zero_add] at t1 t2 t3 u1 u2 u3
                  go_simp
                  with_reducible rfl
                try simp only [Act.put, List.setIfInBounds_toArray, List.set_cons_zero, List.set_cons_succ]
                refine wpAnyH_take (i := 19) (v := ?_) rfl (by kernel_rfl) (by kernel_rfl) (by kernel_rfl) (fun _ _ _ h => h) (Or.inl ⟨by rfl, ?_⟩) (by assumption) ?_
                rotate_left
                · intro W hSw
                  obtain ⟨⟨t0, t1, t2, t3⟩, u0, u1, u2, u3⟩ := hSw
                  simp only [Nat.zero_add] at t1 t2 t3 u1 u2 u3
                  go_simp
                  with_reducible rfl
                try simp only [Act.put, List.setIfInBounds_toArray, List.set_cons_zero, List.set_cons_succ]
                refine wpAnyH_take (i := 20) (v := ?_) rfl (by kernel_rfl) (by kernel_rfl) (by kernel_rfl) (fun _ _ _ h => h) (Or.inl ⟨by rfl, ?_⟩) (by assumption) ?_
                rotate_left
                · intro W hSw
                  obtain ⟨⟨t0, t1, t2, t3⟩, u0, u1, u2, u3⟩ := hSw
                  simp only [Nat.zero_add] at t1 t2 t3 u1 u2 u3
                  go_simp
                  with_reducible rfl
                try simp only [Act.put, List.setIfInBounds_toArray, List.set_cons_zero, List.set_cons_succ]
                refine wpAnyH_ready (rs := [1, 9]) (by kernel_rfl) (by simp) ?_
                refine AllReadyH.cons (o := _) rfl (fun K' hK => ?_) ?_
                · go_simp
                  refine hK.out _ _ (by assumption) (fun hHeld => ?_)
                  clear hK K'
                  try simp only [Act.put, List.setIfInBounds_toArray, List.set_cons_zero, List.set_cons_succ]
                  refine wpAnyH_ready (rs := [9]) (by kernel_rfl) (by simp) ?_
                  refine AllReadyH.cons (o := _) rfl (fun K' hK => ?_) ?_
                  · go_simp
                    refine (HC.out _ _ _ GD.out.2.1 (by omega) (by omega)).mono ?_
                    rintro E w4 ⟨rfl, hw4⟩
                    have hw4' := hw4.symm
                    subst hw4'
                    go_wp2_with fail
                    refine hK.out _ _ (by assumption) (fun hHeld => ?_)
                    clear hK K'
                    try simp only [Act.put, List.setIfInBounds_toArray, List.set_cons_zero, List.set_cons_succ]
                    refine wpAnyH_ready (rs := [15]) (by kernel_rfl) (by simp) ?_
                    refine AllReadyH.cons (o := _) rfl (fun K' hK => ?_) ?_
                    · go_simp
                      refine (HC.out _ _ _ GD.out.2.1 (by omega) (by omega)).mono ?_
                      rintro E w4 ⟨rfl, hw4⟩
                      have hw4' := hw4.symm
                      subst hw4'
                      go_wp2_with fail
                      refine hK.out _ _ (by assumption) (fun hHeld => ?_)
                      clear hK K'
                      try simp only [Act.put, List.setIfInBounds_toArray, List.set_cons_zero, List.set_cons_succ]
                      refine wpAnyH_ready (rs := [21]) (by kernel_rfl) (by simp) ?_
                      refine AllReadyH.cons (o := _) rfl (fun K' hK => ?_) ?_
                      · go_simp
                        refine (HC.out _ _ _ GD.out.2.1 (by omega) (by omega)).mono ?_
                        rintro E w4 ⟨rfl, hw4⟩
                        have hw4' := hw4.symm
                        subst hw4'
                        go_wp2_with fail
                        refine hK.out _ _ (by assumption) (fun hHeld => ?_)
                        clear hK K'
                        try simp only [Act.put, List.setIfInBounds_toArray, List.set_cons_zero, List.set_cons_succ]
                        refine wpAnyH_take (i := 22) (v := ?_) rfl (by kernel_rfl) (by kernel_rfl) (by kernel_rfl) (fun _ _ _ h => h) (Or.inl ⟨by rfl, ?_⟩) (by assumption) ?_
                        rotate_left
                        · intro W hSw
                          obtain ⟨⟨t0, t1, t2, t3⟩, u0, u1, u2, u3⟩ := hSw
                          simp only [Nat.zero_add] at t1 t2 t3 u1 u2 u3
                          go_simp
                          with_reducible rfl
                        try simp only [Act.put, List.setIfInBounds_toArray, List.set_cons_zero, List.set_cons_succ]
                        refine wpAnyH_ready (rs := [23]) (by kernel_rfl) (by simp) ?_
                        refine AllReadyH.cons (o := _) rfl (fun K' hK => ?_) ?_
                        · go_simp
                          refine hK.out _ _ (hHeld.kept (grown_alloc _ _)) (fun hHeld => ?_)
                          clear hK K'
                          try simp only [Act.put, List.setIfInBounds_toArray, List.set_cons_zero, List.set_cons_succ]
                          refine wpAnyH_ready (rs := [24]) (by kernel_rfl) (by simp) ?_
                          refine AllReadyH.cons (o := _) rfl (fun K' hK => ?_) ?_
                          · go_simp
                            refine hK.out _ _ (HT5.out.1) (fun hHeld => ?_)
                            clear hK K'
                            try simp only [Act.put, List.setIfInBounds_toArray, List.set_cons_zero, List.set_cons_succ]
                            refine wpAnyH_take (i := 25) (v := ?_) rfl (by kernel_rfl) (by kernel_rfl) (by kernel_rfl) (fun _ _ _ h => h) (Or.inl ⟨by rfl, ?_⟩) (by assumption) ?_
                            rotate_left
                            · intro W hSw
                              obtain ⟨⟨t0, t1, t2, t3⟩, u0, u1, u2, u3⟩ := hSw
                              simp only [Nat.zero_add] at t1 t2 t3 u1 u2 u3
                              go_simp
                              with_reducible rfl
                            try simp only [Act.put, List.setIfInBounds_toArray, List.set_cons_zero, List.set_cons_succ]
                            refine wpAnyH_ready (rs := [26]) (by kernel_rfl) (by simp) ?_
                            refine AllReadyH.cons (o := _) rfl (fun K' hK => ?_) ?_
                            · go_simp
                              refine hK.out _ _ (HT5.out.2) (fun hHeld => ?_)
                              clear hK K'
                              try simp only [Act.put, List.setIfInBounds_toArray, List.set_cons_zero, List.set_cons_succ]
                              refine wpAnyH_done (by kernel_rfl) ?_ _
                              go_wp2_with fail
                              go_roundw
                              case rel => exact ⟨j + 1, nQ + 1, c5, some ⟨g5, 0, none⟩, by go_num, by omega, HO5.out.1, HO5.out.2⟩
                              case measure => simp [intOf]; omega
                            exact AllReadyH.nil
                          exact AllReadyH.nil
                        exact AllReadyH.nil
                      exact AllReadyH.nil
                    exact AllReadyH.nil
                  exact AllReadyH.nil
                refine AllReadyH.cons (o := _) rfl (fun K' hK => ?_) ?_
                · go_simp
                  refine (HC.out _ _ _ GD.out.2.1 (by omega) (by omega)).mono ?_
                  rintro E w4 ⟨rfl, hw4⟩
                  have hw4' := hw4.symm
                  subst hw4'
                  go_wp2_with fail
                  refine hK.out _ _ (by assumption) (fun hHeld => ?_)
                  clear hK K'
                  try simp only [Act.put, List.setIfInBounds_toArray, List.set_cons_zero, List.set_cons_succ]
                  refine wpAnyH_ready (rs := [1, 15]) (by kernel_rfl) (by simp) ?_
                  refine AllReadyH.cons (o := _) rfl (fun K' hK => ?_) ?_
                  · go_simp
                    refine hK.out _ _ (by assumption) (fun hHeld => ?_)
                    clear hK K'
                    try simp only [Act.put, List.setIfInBounds_toArray, List.set_cons_zero, List.set_cons_succ]
                    refine wpAnyH_ready (rs := [15]) (by kernel_rfl) (by simp) ?_
                    refine AllReadyH.cons (o := _) rfl (fun K' hK => ?_) ?_
                    · go_simp
                      refine (HC.out _ _ _ GD.out.2.1 (by omega) (by omega)).mono ?_
                      rintro E w4 ⟨rfl, hw4⟩
                      have hw4' := hw4.symm
                      subst hw4'
                      go_wp2_with fail
                      refine hK.out _ _ (by assumption) (fun hHeld => ?_)
                      clear hK K'
                      try simp only [Act.put, List.setIfInBounds_toArray, List.set_cons_zero, List.set_cons_succ]
                      refine wpAnyH_ready (rs := [21]) (by kernel_rfl) (by simp) ?_
                      refine AllReadyH.cons (o := _) rfl (fun K' hK => ?_) ?_
                      · go_simp
                        refine (HC.out _ _ _ GD.out.2.1 (by omega) (by omega)).mono ?_
                        rintro E w4 ⟨rfl, hw4⟩
                        have hw4' := hw4.symm
                        subst hw4'
                        go_wp2_with fail
                        refine hK.out _ _ (by assumption) (fun hHeld => ?_)
                        clear hK K'
                        try simp only [Act.put, List.setIfInBounds_toArray, List.set_cons_zero, List.set_cons_succ]
                        refine wpAnyH_take (i := 22) (v := ?_) rfl (by kernel_rfl) (by kernel_rfl) (by kernel_rfl) (fun _ _ _ h => h) (Or.inl ⟨by rfl, ?_⟩) (by assumption) ?_
                        rotate_left
                        · intro W hSw
                          obtain ⟨⟨t0, t1, t2, t3⟩, u0, u1, u2, u3⟩ := hSw
                          simp only [Nat.zero_add] at t1 t2 t3 u1 u2 u3
                          go_simp
                          with_reducible rfl
                        try simp only [Act.put, List.setIfInBounds_toArray, List.set_cons_zero, List.set_cons_succ]
                        refine wpAnyH_ready (rs := [23]) (by kernel_rfl) (by simp) ?_
                        refine AllReadyH.cons (o := _) rfl (fun K' hK => ?_) ?_
                        · go_simp
                          refine hK.out _ _ (hHeld.kept (grown_alloc _ _)) (fun hHeld => ?_)
                          clear hK K'
                          try simp only [Act.put, List.setIfInBounds_toArray, List.set_cons_zero, List.set_cons_succ]
                          refine wpAnyH_ready (rs := [24]) (by kernel_rfl) (by simp) ?_
                          refine AllReadyH.cons (o := _) rfl (fun K' hK => ?_) ?_
                          · go_simp
                            refine hK.out _ _ (HT5.out.1) (fun hHeld => ?_)
                            clear hK K'
                            try simp only [Act.put, List.setIfInBounds_toArray, List.set_cons_zero, List.set_cons_succ]
                            refine wpAnyH_take (i := 25) (v := ?_) rfl (by kernel_rfl) (by kernel_rfl) (by kernel_rfl) (fun _ _ _ h => h) (Or.inl ⟨by rfl, ?_⟩) (by assumption) ?_
                            rotate_left
                            · intro W hSw
                              obtain ⟨⟨t0, t1, t2, t3⟩, u0, u1, u2, u3⟩ := hSw
                              simp only [Nat.zero_add] at t1 t2 t3 u1 u2 u3
                              go_simp
                              with_reducible rfl
                            try simp only [Act.put, List.setIfInBounds_toArray, List.set_cons_zero, List.set_cons_succ]
                            refine wpAnyH_ready (rs := [26]) (by kernel_rfl) (by simp) ?_
                            refine AllReadyH.cons (o := _) rfl (fun K' hK => ?_) ?_
                            · go_simp
                              refine hK.out _ _ (HT5.out.2) (fun hHeld => ?_)
                              clear hK K'
                              try simp only [Act.put, List.setIfInBounds_toArray, List.set_cons_zero, List.set_cons_succ]
                              refine wpAnyH_done (by kernel_rfl) ?_ _
                              go_wp2_with fail
                              go_roundw
                              case rel => exact ⟨j + 1, nQ + 1, c5, some ⟨g5, 0, none⟩, by go_num, by omega, HO5.out.1, HO5.out.2⟩
                              case measure => simp [intOf]; omega
                            exact AllReadyH.nil
                          exact AllReadyH.nil
                        exact AllReadyH.nil
                      exact AllReadyH.nil
                    exact AllReadyH.nil
                  refine AllReadyH.cons (o := _) rfl (fun K' hK => ?_) ?_
                  · go_simp
                    refine (HC.out _ _ _ GD.out.2.1 (by omega) (by omega)).mono ?_
                    rintro E w4 ⟨rfl, hw4⟩
                    have hw4' := hw4.symm
                    subst hw4'
                    go_wp2_with fail
                    refine hK.out _ _ (by assumption) (fun hHeld => ?_)
                    clear hK K'
                    try simp only [Act.put, List.setIfInBounds_toArray, List.set_cons_zero, List.set_cons_succ]
                    refine wpAnyH_ready (rs := [1, 21]) (by kernel_rfl) (by simp) ?_
                    refine AllReadyH.cons (o := _) rfl (fun K' hK => ?_) ?_
                    · go_simp
                      refine hK.out _ _ (by assumption) (fun hHeld => ?_)
                      clear hK K'
                      try simp only [Act.put, List.setIfInBounds_toArray, List.set_cons_zero, List.set_cons_succ]
                      refine wpAnyH_ready (rs := [21]) (by kernel_rfl) (by simp) ?_
                      refine AllReadyH.cons (o := _) rfl (fun K' hK => ?_) ?_
                      · go_simp
                        refine (HC.out _ _ _ GD.out.2.1 (by omega) (by omega)).mono ?_
                        rintro E w4 ⟨rfl, hw4⟩
                        have hw4' := hw4.symm
                        subst hw4'
                        go_wp2_with fail
                        refine hK.out _ _ (by assumption) (fun hHeld => ?_)
                        clear hK K'
                        try simp only [Act.put, List.setIfInBounds_toArray, List.set_cons_zero, List.set_cons_succ]
                        refine wpAnyH_take (i := 22) (v := ?_) rfl (by kernel_rfl) (by kernel_rfl) (by kernel_rfl) (fun _ _ _ h => h) (Or.inl ⟨by rfl, ?_⟩) (by assumption) ?_
                        rotate_left
                        · intro W hSw
                          obtain ⟨⟨t0, t1, t2, t3⟩, u0, u1, u2, u3⟩ := hSw
                          simp only [Nat.zero_add] at t1 t2 t3 u1 u2 u3
                          go_simp
                          with_reducible rfl
                        try simp only [Act.put, List.setIfInBounds_toArray, List.set_cons_zero, List.set_cons_succ]
                        refine wpAnyH_ready (rs := [23]) (by kernel_rfl) (by simp) ?_
                        refine AllReadyH.cons (o := _) rfl (fun K' hK => ?_) ?_
                        · go_simp
                          refine hK.out _ _ (hHeld.kept (grown_alloc _ _)) (fun hHeld => ?_)
                          clear hK K'
                          try simp only [Act.put, List.setIfInBounds_toArray, List.set_cons_zero, List.set_cons_succ]
                          refine wpAnyH_ready (rs := [24]) (by kernel_rfl) (by simp) ?_
                          refine AllReadyH.cons (o := _) rfl (fun K' hK => ?_) ?_
                          · go_simp
                            refine hK.out _ _ (HT5.out.1) (fun hHeld => ?_)
                            clear hK K'
                            try simp only [Act.put, List.setIfInBounds_toArray, List.set_cons_zero, List.set_cons_succ]
                            refine wpAnyH_take (i := 25) (v := ?_) rfl (by kernel_rfl) (by kernel_rfl) (by kernel_rfl) (fun _ _ _ h => h) (Or.inl ⟨by rfl, ?_⟩) (by assumption) ?_
                            rotate_left
                            · intro W hSw
                              obtain ⟨⟨t0, t1, t2, t3⟩, u0, u1, u2, u3⟩ := hSw
                              simp only [Nat.zero_add] at t1 t2 t3 u1 u2 u3
                              go_simp
                              with_reducible rfl
                            try simp only [Act.put, List.setIfInBounds_toArray, List.set_cons_zero, List.set_cons_succ]
                            refine wpAnyH_ready (rs := [26]) (by kernel_rfl) (by simp) ?_
                            refine AllReadyH.cons (o := _) rfl (fun K' hK => ?_) ?_
                            · go_simp
                              refine hK.out _ _ (HT5.out.2) (fun hHeld => ?_)
                              clear hK K'
                              try simp only [Act.put, List.setIfInBounds_toArray, List.set_cons_zero, List.set_cons_succ]
                              refine wpAnyH_done (by kernel_rfl) ?_ _
                              go_wp2_with fail
                              go_roundw
                              case rel => exact ⟨j + 1, nQ + 1, c5, some ⟨g5, 0, none⟩, by go_num, by omega, HO5.out.1, HO5.out.2⟩
                              case measure => simp [intOf]; omega
                            exact AllReadyH.nil
                          exact AllReadyH.nil
                        exact AllReadyH.nil
                      exact AllReadyH.nil
                    refine AllReadyH.cons (o := _) rfl (fun K' hK => ?_) ?_
                    · go_simp
                      refine (HC.out _ _ _ GD.out.2.1 (by omega) (by omega)).mono ?_
                      rintro E w4 ⟨rfl, hw4⟩
                      have hw4' := hw4.symm
                      subst hw4'
                      go_wp2_with fail
                      refine hK.out _ _ (by assumption) (fun hHeld => ?_)
                      clear hK K'
                      try simp only [Act.put, List.setIfInBounds_toArray, List.set_cons_zero, List.set_cons_succ]
                      refine wpAnyH_take (i := 22) (v := ?_) rfl (by kernel_rfl) (by kernel_rfl) (by kernel_rfl) (fun _ _ _ h => h) (Or.inl ⟨by rfl, ?_⟩) (by assumption) ?_
                      rotate_left
                      · intro W hSw
                        obtain ⟨⟨t0, t1, t2, t3⟩, u0, u1, u2, u3⟩ := hSw
                        simp only [Nat.zero_add] at t1 t2 t3 u1 u2 u3
                        go_simp
                        with_reducible rfl
                      try simp only [Act.put, List.setIfInBounds_toArray, List.set_cons_zero, List.set_cons_succ]
                      refine wpAnyH_ready (rs := [1, 23]) (by kernel_rfl) (by simp) ?_
                      refine AllReadyH.cons (o := _) rfl (fun K' hK => ?_) ?_
                      · go_simp
                        refine hK.out _ _ (by assumption) (fun hHeld => ?_)
                        clear hK K'
                        try simp only [Act.put, List.setIfInBounds_toArray, List.set_cons_zero, List.set_cons_succ]
                        refine wpAnyH_ready (rs := [23]) (by kernel_rfl) (by simp) ?_
                        refine AllReadyH.cons (o := _) rfl (fun K' hK => ?_) ?_
                        · go_simp
                          refine hK.out _ _ (hHeld.kept (grown_alloc _ _)) (fun hHeld => ?_)
                          clear hK K'
                          try simp only [Act.put, List.setIfInBounds_toArray, List.set_cons_zero, List.set_cons_succ]
                          refine wpAnyH_ready (rs := [24]) (by kernel_rfl) (by simp) ?_
                          refine AllReadyH.cons (o := _) rfl (fun K' hK => ?_) ?_
                          · go_simp
                            refine hK.out _ _ (HT5.out.1) (fun hHeld => ?_)
                            clear hK K'
                            try simp only [Act.put, List.setIfInBounds_toArray, List.set_cons_zero, List.set_cons_succ]
                            refine wpAnyH_take (i := 25) (v := ?_) rfl (by kernel_rfl) (by kernel_rfl) (by kernel_rfl) (fun _ _ _ h => h) (Or.inl ⟨by rfl, ?_⟩) (by assumption) ?_
                            rotate_left
                            · intro W hSw
                              obtain ⟨⟨t0, t1, t2, t3⟩, u0, u1, u2, u3⟩ := hSw
                              simp only [Nat.zero_add] at t1 t2 t3 u1 u2 u3
                              go_simp
                              with_reducible rfl
                            try simp only [Act.put, List.setIfInBounds_toArray, List.set_cons_zero, List.set_cons_succ]
                            refine wpAnyH_ready (rs := [26]) (by kernel_rfl) (by simp) ?_
                            refine AllReadyH.cons (o := _) rfl (fun K' hK => ?_) ?_
                            · go_simp
                              refine hK.out _ _ (HT5.out.2) (fun hHeld => ?_)
                              clear hK K'
                              try simp only [Act.put, List.setIfInBounds_toArray, List.set_cons_zero, List.set_cons_succ]
                              refine wpAnyH_done (by kernel_rfl) ?_ _
                              go_wp2_with fail
                              go_roundw
                              case rel => exact ⟨j + 1, nQ + 1, c5, some ⟨g5, 0, none⟩, by go_num, by omega, HO5.out.1, HO5.out.2⟩
                              case measure => simp [intOf]; omega
                            exact AllReadyH.nil
                          exact AllReadyH.nil
                        exact AllReadyH.nil
                      refine AllReadyH.cons (o := _) rfl (fun K' hK => ?_) ?_
                      · go_simp
                        refine hK.out _ _ (hHeld.kept (grown_alloc _ _)) (fun hHeld => ?_)
                        clear hK K'
                        try simp only [Act.put, List.setIfInBounds_toArray, List.set_cons_zero, List.set_cons_succ]
                        refine wpAnyH_ready (rs := [1]) (by kernel_rfl) (by simp) ?_
                        refine AllReadyH.cons (o := _) rfl (fun K' hK => ?_) ?_
                        · go_simp
                          refine hK.out _ _ (by assumption) (fun hHeld => ?_)
                          clear hK K'
                          try simp only [Act.put, List.setIfInBounds_toArray, List.set_cons_zero, List.set_cons_succ]
                          refine wpAnyH_ready (rs := [24]) (by kernel_rfl) (by simp) ?_
                          refine AllReadyH.cons (o := _) rfl (fun K' hK => ?_) ?_
                          · go_simp
                            refine hK.out _ _ (HT5.out.1) (fun hHeld => ?_)
                            clear hK K'
                            try simp only [Act.put, List.setIfInBounds_toArray, List.set_cons_zero, List.set_cons_succ]
                            refine wpAnyH_take (i := 25) (v := ?_) rfl (by kernel_rfl) (by kernel_rfl) (by kernel_rfl) (fun _ _ _ h => h) (Or.inl ⟨by rfl, ?_⟩) (by assumption) ?_
                            rotate_left
                            · intro W hSw
                              obtain ⟨⟨t0, t1, t2, t3⟩, u0, u1, u2, u3⟩ := hSw
                              simp only [Nat.zero_add] at t1 t2 t3 u1 u2 u3
                              go_simp
                              with_reducible rfl
                            try simp only [Act.put, List.setIfInBounds_toArray, List.set_cons_zero, List.set_cons_succ]
                            refine wpAnyH_ready (rs := [26]) (by kernel_rfl) (by simp) ?_
                            refine AllReadyH.cons (o := _) rfl (fun K' hK => ?_) ?_
                            · go_simp
                              refine hK.out _ _ (HT5.out.2) (fun hHeld => ?_)
                              clear hK K'
                              try simp only [Act.put, List.setIfInBounds_toArray, List.set_cons_zero, List.set_cons_succ]
                              refine wpAnyH_done (by kernel_rfl) ?_ _
                              go_wp2_with fail
                              go_roundw
                              case rel => exact ⟨j + 1, nQ + 1, c5, some ⟨g5, 0, none⟩, by go_num, by omega, HO5.out.1, HO5.out.2⟩
                              case measure => simp [intOf]; omega
                            exact AllReadyH.nil
                          exact AllReadyH.nil
                        exact AllReadyH.nil
                      exact AllReadyH.nil
                    exact AllReadyH.nil
                  exact AllReadyH.nil
                exact AllReadyH.nil
          · have hno := HNo.out (by simp [mtB, e0])
            clear HAp HNo
            go_wp2_with fail
            rw [← HWX.out]
            go_roundw
            case rel => exact ⟨j + 1, nQ, cr, ar, by go_num, by omega, hno.1, hno.2⟩
            case measure => simp [intOf]; omega
        · have qj : ¬ (j : Int) < (nQo : Int) := by omega
          obtain rfl : j = nQo := by omega
          have O3 : Hid (BI nn W3 wq bo L (botR (R.take (i + 1)) Q n) [] nQ 0 ar cr none 0) := by
            have := O1.out
            have e5 : botR (R.take i) Q n ++ botRow (r0, r1, r2, r3) Q n j = botR (R.take (i + 1)) Q n := by rw [HT.out, LR.out.2.2.1]
            rw [e5] at this
            exact this
          go_wp2_with fail
          go_roundw
          case rel => exact ⟨i + 1, nQ, cr, ar, by go_num, by omega, O3.out⟩
          case measure => simp [intOf]; omega
    · have qi : ¬ (i : Int) < (nR : Int) := by omega
      obtain rfl : i = nR := by omega
      have O0 : Hid (BI nn W3 wr bo L (botR R Q n) (botM (M.take 0) K) nQ 0 ar cr none 0) := by
        have := O1.out
        have e5 : R.take i = R := by rw [← LR.out.1, List.take_length]
        rw [e5] at this
        exact this
      obtain ⟨x0, x1, x2, x3, x4⟩ := B0.out wr GR1.out
      clear O1 HLen
      go_wp2_with fail
      clear x0 x1 x2 x3 x4
      go_loopw [83] (fun v wr => ∃ (k nK cm : Nat) (am : Option Addr), v = .int .i64 (k : Int) ∧ k ≤ nM ∧ BI nn W3 wr bo L (botR R Q n) (botM (M.take k) K) nQ nK ar cr am cm) (fun v _ => nM - (intOf v).toNat)
      case atStart => exact ⟨0, 0, 0, none, rfl, by omega, O0.out⟩
      case round =>
        rename World => wp
        clear O0 GR1
        obtain ⟨k, nK, cm, am, rfl, hk, hO⟩ := hrel
        have O1 : Hid (BI nn W3 wp bo L (botR R Q n) (botM (M.take k) K) nQ nK ar cr am cm) := hO
        have GP1 : Hid (W1.grownBy wp none) := FR.out wp hO.out.gr
        clear hO
        by_cases hkn : k < nM
        · have qk : (k : Int) < (nM : Int) := by omega
          obtain ⟨gb, goff, rfl, hc⟩ := (HA.out wp (grown_trans G1.out GP1.out)).2.1.at (k := k) (by rw [LR.out.2.1]; exact hkn)
          have ck := hc k (by rw [LR.out.2.1]; exact hkn)
          have hm01 := HMk.out k (by rw [LR.out.2.1]; exact hkn)
          have HT : Hid (botM (M.take (k + 1)) K = botM (M.take k) K ++ K.map (M.getD k 0 * ·)) := botM_take M K (by rw [LR.out.2.1]; exact hkn)
          have HL : Hid ((botM (M.take k) K).length ≤ 6 * 64) := by
            show _ ≤ _
            rw [botM_len]
            exact Nat.mul_le_mul (by rw [List.length_take]; omega) (by rw [LR.out.2.2.2]; exact hkl)
          clear hc
          generalize M.getD k 0 = m at *
          obtain ⟨z0, z1, z2, z3, z4⟩ := B1.out wp GP1.out
          have O2 : Hid (BI nn W3 wp bo L (botR R Q n) (botM (M.take k) K ++ (K.take 0).map (m * ·)) nQ nK ar cr am cm) := by
            have := O1.out
            show BI _ _ _ _ _ _ _ _ _ _ _ _ _
            rw [List.take_zero, List.map_nil, List.append_nil]
            exact this
          go_wp2_with fail
          clear ck z0 z1 z2 z3 z4
          go_loopw [90] (fun v wr => ∃ (j nK cm : Nat) (am : Option Addr), v = .int .i64 (j : Int) ∧ j ≤ nKo ∧ BI nn W3 wr bo L (botR R Q n) (botM (M.take k) K ++ (K.take j).map (m * ·)) nQ nK ar cr am cm) (fun v _ => nKo - (intOf v).toNat)
          case atStart => exact ⟨0, nK, cm, am, rfl, by omega, O2.out⟩
          case round =>
            rename World => wq
            clear O1 O2 GP1
            obtain ⟨j, nK, cm, am, rfl, hj, hO⟩ := hrel
            have O1 : Hid (BI nn W3 wq bo L (botR R Q n) (botM (M.take k) K ++ (K.take j).map (m * ·)) nQ nK ar cr am cm) := hO
            have GP1 : Hid (W1.grownBy wq none) := FR.out wq hO.out.gr
            clear hO
            by_cases hjn : j < nKo
            · have qj : (j : Int) < (nKo : Int) := by omega
              obtain ⟨fb, foff, rfl, hc⟩ := (HA.out wq (grown_trans G1.out GP1.out)).2.2.2.at (k := j) (by rw [LR.out.2.2.2]; exact hjn)
              have cj := hc j (by rw [LR.out.2.2.2]; exact hjn)
              have hk01 := HKk.out j (by rw [LR.out.2.2.2]; exact hjn)
              have HS : Hid ((K.take (j + 1)).map (m * ·) = (K.take j).map (m * ·) ++ [m * K.getD j 0]) := take_mul_succ m K (by rw [LR.out.2.2.2]; exact hjn)
              clear hc
              generalize K.getD j 0 = y at *
              obtain ⟨z, hz⟩ : ∃ z, m * y = z := ⟨_, rfl⟩
              have hzb : 0 ≤ z ∧ z ≤ 1 := by
                rcases hm01 with h1 | h1 <;> rcases hk01 with h2 | h2 <;> rw [h1, h2] at hz <;> omega
              have hnK : nK ≤ 1000 := by
                have := O1.out.lk
                rw [List.length_append, List.length_map, List.length_take] at this
                have := HL.out
                omega
              obtain ⟨_, xo⟩ := O1.out.out.cells
              obtain ⟨g5, c5, w5, hrun, xo5, fo5, hO5⟩ := O1.out.out.mark z (by rw [O1.out.lk]; omega)
              have xo' : ∀ o, (wq.alloc o).cell? ⟨bo, 4, none⟩ = some (.slice am (botM (M.take k) K ++ (K.take j).map (m * ·)).length cm) := fun o => (grown_alloc _ o).cell xo (by simp)
              have e9 : botM (M.take k) K ++ (K.take j).map (m * ·) ++ [z] = botM (M.take k) K ++ (K.take (j + 1)).map (m * ·) := by
                rw [HS.out, hz, List.append_assoc]
              have e8 : (botM (M.take k) K ++ (K.take (j + 1)).map (m * ·)).length = nK + 1 := by rw [← e9, List.length_append, O1.out.lk]; rfl
              rw [e9] at hO5
              rw [O1.out.lk] at hrun xo xo' xo5 hO5
              have O3 : Hid (BI nn W3 (w5.setCell ⟨bo, 4, none⟩ (.slice (some ⟨g5, 0, none⟩) (nK + 1) c5)) bo L (botR R Q n) (botM (M.take k) K ++ (K.take (j + 1)).map (m * ·)) nQ (nK + 1) ar cr (some ⟨g5, 0, none⟩) c5) := ⟨hO5, O1.out.lq, e8⟩
              clear hO5 e9 e8 HS
              go_wp2_with fail
              go_roundw
              case rel => exact ⟨j + 1, nK + 1, c5, some ⟨g5, 0, none⟩, by go_num, by omega, O3.out⟩
              case measure => simp [intOf]; omega
            · have qj : ¬ (j : Int) < (nKo : Int) := by omega
              obtain rfl : j = nKo := by omega
              have O3 : Hid (BI nn W3 wq bo L (botR R Q n) (botM (M.take (k + 1)) K) nQ nK ar cr am cm) := by
                have := O1.out
                have e5 : K.take j = K := by rw [← LR.out.2.2.2, List.take_length]
                rw [e5, ← HT.out] at this
                exact this
              go_wp2_with fail
              go_roundw
              case rel => exact ⟨k + 1, nK, cm, am, by go_num, by omega, O3.out⟩
              case measure => simp [intOf]; omega
        · have qk : ¬ (k : Int) < (nM : Int) := by omega
          obtain rfl : k = nM := by omega
          have hT : M.take k = M := by rw [← LR.out.2.1, List.take_length]
          have hO := O1.out.out
          have hlk := O1.out.lk
          rw [hT] at hO hlk
          have hlq := O1.out.lq
          obtain ⟨v0, v1, v2, v3, v4, _⟩ := block_cells5T hO.box
          have hr6 : wp.heap[w.heap.size + 1 + 1]? = some (.cells #[.int .i64 0, .int .i64 0, .slice none 0 0, .int .i64 0, .slice none 0 0] 25 (0, 0)) := (GP1.out.block _ (by have := HRB.out.2; omega) (by simp)).trans HRB.out.1
          obtain ⟨r0, r1, r2, r3, r4, rf⟩ := block_cells5T hr6
          obtain ⟨W7, hW7, hg7, R7⟩ := five_storeT hr6 (.int .i64 L) (.int .i64 (nn : Int)) (.slice ar (botR R Q n).length cr) (.int .i64 0) (.slice am (botM M K).length cm)
          obtain ⟨y0, y1, y2, y3, y4, _⟩ := block_cells5T R7
          have rf0 := rf 0
          have rf1 := rf 1
          have rf2 := rf 2
          have rf3 := rf 3
          have rf4 := rf 4
          obtain ⟨hru, hin⟩ := hO.trs hg7 (by have := Hbo.out; omega)
          have Fin : Hid (P (.returned (trsV L (nn : Int) ar (botR R Q n).length cr 0 am (botM M K).length cm)) W7) := HPost.out ar cr am cm W7 hru hin (grown_new (grown_trans G1.out GP1.out) hg7 (by omega))
          rw [hlk] at v4 hW7 y4 Fin
          rw [hlq] at v2 hW7 y2 Fin
          clear hT hO hlk hlq hr6 rf hg7 R7 hru hin
          go_wp2_with fail
          rw [← hW7]
          exact bodyPost_ret (v := trsV L (nn : Int) ar nQ cr 0 am nK cm) (by simp [results, Try.results11, go_sem, y0, y1, y2, y3, y4]) rfl Fin.out

end Go.Proofs.Ytppikfgfmlipmaa
