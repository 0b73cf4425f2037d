/- Products of whole numbers. -/
import Derived.Test.YtjinibofbpgfjaaDoorNuAdd
namespace Go.Proofs.YtjinibofbpgfjaaDoor
open Go.RowKit
set_option linter.unusedVariables false
set_option linter.unusedSimpArgs false

theorem make_intsN (w : World) (n : Nat) (hn : n ≤ 1000000) : (Instr.makeSlice 22 (.int .i64 (n : Int)) (.int .i64 (n : Int))).run Tryd.prog w = .ok (.slice (some ⟨w.heap.size, 0, none⟩) n n) (w.alloc (.cells (Array.replicate n (Value.int .i64 0)) 3)) := by
  obtain ⟨i0, hi, hz0, hz1, hz2⟩ := info_partsY Tryd.infoI64Y
  have hmk := run_make (P := Tryd.prog) w 22 3 i0 (.int .i64 0) Tryd.underlying22 hi hz0 .i64 .i64 (n : Int) (n : Int) (by omega) (by omega) (by rw [hz2]; omega) (by omega)
  have e : madeCells (Value.cells (.int .i64 0)) n = Array.replicate n (Value.int .i64 0) := by
    apply Array.ext'
    simpa [Value.cells] using toList_madeCells_one (.int .i64 0) n
  rw [hz1, Nat.mul_one, Int.toNat_natCast, e] at hmk
  exact hmk
/-- A row of numbers that fills its block. -/
def RowN (W : World) (g : Nat) (l : List Int) : Prop := W.heap[g]? = some (.cells (l.map (Value.int .i64)).toArray 3 (0, 0))
section
variable {W W' : World} {g : Nat} {l : List Int}
theorem RowN.kept (h : RowN W g l) (k : W.grownBy W' none) : RowN W' g l := (k.block _ (Array.getElem?_eq_some_iff.1 h).1 (by simp)).trans h
theorem RowN.cell (h : RowN W g l) {i : Nat} (hi : i < l.length) : W.cell? ⟨g, i, none⟩ = some (.int .i64 (l.getD i 0)) ∧ W.frozen? ⟨g, i, none⟩ = false := by
  refine ⟨?_, frozen_of_row _ _ _ _ _ h⟩
  rw [cell_of_row _ _ _ _ _ (0, 0) h]
  simp [List.getD, hi]
theorem RowN.set (h : RowN W g l) (i : Nat) (z : Int) : RowN (W.setCell ⟨g, i, none⟩ (.int .i64 z)) g (l.set i z) := by
  have h1 := heap_setCell_same W g i _ _ (.int .i64 z) h
  unfold RowN
  rw [h1]
  simp [List.map_set]
theorem RowN.ints (h : RowN W g l) : Ints W (some ⟨g, 0, none⟩) l := .inr ⟨g, 0, rfl, fun i hi => by rw [Nat.zero_add]; exact (h.cell hi).1⟩
end
theorem valN_set {l : List Int} {i : Nat} (hi : i < l.length) (z : Int) : valN (l.set i z) = valN l + pwN i * (z - l.getD i 0) := by
  induction l generalizing i with
  | nil => simp at hi
  | cons d l ih =>
    cases i with
    | zero =>
      show z + 10000 * valN l = d + 10000 * valN l + 1 * (z - d)
      omega
    | succ i =>
      have hi' : i < l.length := by simpa using hi
      show d + 10000 * valN (l.set i z) = d + 10000 * valN l + pwN (i + 1) * (z - l.getD i 0)
      rw [ih hi', pwN_succ, Int.mul_add, Int.mul_assoc]
      omega
theorem set_getD {l : List Int} {i k : Nat} (z : Int) (h : k ≠ i) : (l.set i z).getD k 0 = l.getD k 0 := by
  simp only [List.getD]
  rw [List.getElem?_set_ne (by omega)]
structure MuSt (l1 l2 : List Int) (n1 n2 i : Nat) (l : List Int) : Prop where
  len : l.length = n1 + n2 + 1
  wf : WfN l
  val : valN l = valN (l1.take i) * valN l2
  zero : ∀ k, i + n2 ≤ k → l.getD k 0 = 0
structure MuIn (l1 l2 : List Int) (n1 n2 i j : Nat) (cr : Int) (l : List Int) : Prop where
  len : l.length = n1 + n2 + 1
  wf : WfN l
  crr : 0 ≤ cr ∧ cr < 10000
  val : valN l + pwN (i + j) * cr = valN (l1.take i) * valN l2 + pwN i * l1.getD i 0 * valN (l2.take j)
  zero : ∀ k, i + n2 + 1 ≤ k → l.getD k 0 = 0
  zz : j ≤ n2 → l.getD (i + n2) 0 = 0
  jn : j ≤ n2 + 1
  je : j = n2 + 1 → cr = 0
theorem mu_start {l1 l2 l : List Int} {n1 n2 i : Nat} (h : MuSt l1 l2 n1 n2 i l) : MuIn l1 l2 n1 n2 i 0 0 l :=
  ⟨h.len, h.wf, by omega, by rw [Int.mul_zero, Int.add_zero, h.val]; show _ = _ + pwN i * l1.getD i 0 * 0; rw [Int.mul_zero, Int.add_zero], fun k hk => h.zero k (by omega), fun _ => h.zero _ (Nat.le_refl _), by omega, fun e => by omega⟩
theorem mu_end {l1 l2 l : List Int} {n1 n2 i j : Nat} (h : MuIn l1 l2 n1 n2 i j 0 l) (h2 : l2.length = n2) (hj : n2 ≤ j) : MuSt l1 l2 n1 n2 (i + 1) l := by
  refine ⟨h.len, h.wf, ?_, fun k hk => h.zero k (by omega)⟩
  have hv := h.val
  have e : l2.take j = l2 := List.take_of_length_le (by omega)
  rw [Int.mul_zero, Int.add_zero, e] at hv
  rw [hv, takeN_snoc, Int.add_mul]
theorem wf_set {l : List Int} (h : WfN l) (i : Nat) {z : Int} (hz : 0 ≤ z ∧ z < 10000) : WfN (l.set i z) := fun d hd => by
  rcases List.mem_or_eq_of_mem_set hd with e | e
  · exact h d e
  · rw [e]; exact hz
theorem mu_step {l1 l2 l : List Int} {n1 n2 i j : Nat} {cr : Int} (h : MuIn l1 l2 n1 n2 i j cr l) (w1 : WfN l1) (w2 : WfN l2) (h2 : l2.length = n2) (hi : i < n1) (hj : j ≤ n2) (s : Int) (hs : s = l.getD (i + j) 0 + cr + l1.getD i 0 * l2.getD j 0) : 0 ≤ s ∧ s < 100000000 ∧ MuIn l1 l2 n1 n2 i (j + 1) (s / 10000) (l.set (i + j) (s % 10000)) := by
  have d1 := w1.at i
  have d2 := w2.at j
  have d3 := h.wf.at (i + j)
  have hc := h.crr
  have p1 : 0 ≤ l1.getD i 0 * l2.getD j 0 := Int.mul_nonneg d1.1 d2.1
  have p2 : l1.getD i 0 * l2.getD j 0 ≤ 9999 * 9999 := by
    have a1 : l1.getD i 0 * l2.getD j 0 ≤ 9999 * l2.getD j 0 := Int.mul_le_mul_of_nonneg_right (by omega) d2.1
    omega
  have hs0 : 0 ≤ s ∧ s < 100000000 := by rw [hs]; omega
  refine ⟨hs0.1, hs0.2, by rw [List.length_set]; exact h.len, wf_set h.wf _ (by omega), by omega, ?_, fun k hk => ?_, fun hj' => ?_, by omega, fun e => ?_⟩
  · rw [valN_set (by rw [h.len]; omega), takeN_snoc l2, ← Nat.add_assoc, pwN_succ]
    have e1 := h.val
    have e2 : s = s % 10000 + 10000 * (s / 10000) := by omega
    have e3 : pwN (i + j) * s = pwN (i + j) * (s % 10000) + 10000 * pwN (i + j) * (s / 10000) := by
      conv => lhs; rw [e2]
      rw [Int.mul_add, Int.mul_comm 10000 (pwN (i + j)), Int.mul_assoc]
    have e4 : pwN (i + j) * s = pwN (i + j) * l.getD (i + j) 0 + pwN (i + j) * cr + pwN (i + j) * (l1.getD i 0 * l2.getD j 0) := by rw [hs, Int.mul_add, Int.mul_add]
    have e5 : pwN (i + j) * (l1.getD i 0 * l2.getD j 0) = pwN i * l1.getD i 0 * (pwN j * l2.getD j 0) := by
      rw [pwN_add]
      ac_rfl
    rw [Int.mul_sub, Int.mul_add (pwN i * l1.getD i 0)]
    omega
  · rw [set_getD _ (by omega)]; exact h.zero k hk
  · rw [set_getD _ (by omega)]; exact h.zz (by omega)
  · have ej : j = n2 := by omega
    have z1 : l2.getD j 0 = 0 := by rw [ej]; simp [List.getD, ← h2]
    have z2 : l.getD (i + j) 0 = 0 := by rw [ej]; exact h.zz (by omega)
    rw [z1, z2, Int.mul_zero] at hs
    omega

set_option maxHeartbeats 3200000 in
set_option maxRecDepth 100000 in
theorem mul_any (b1 : Bool) (a1 : Option Addr) (n1 c1 : Nat) (z1 : Int) (b2 : Bool) (a2 : Option Addr) (n2 c2 : Nat) (z2 : Int) (w : World) (h1 : WhAt w b1 a1 n1 c1 z1) (h2 : WhAt w b2 a2 n2 c2 z2) (m1 : n1 ≤ 200) (m2 : n2 ≤ 200) :
    Calls Tryd.prog 35 #[whV b1 a1 n1 c1, whV b2 a2 n2 c2] w (WhN (z1 * z2) w) := by
  obtain ⟨l1, hl1, hc1, hi1, hn1, hz1⟩ := h1
  obtain ⟨l2, hl2, hc2, hi2, hn2, hz2⟩ := h2
  obtain ⟨W0, hW0, g0, s0, bx, _⟩ := box2_new w b1 a1 n1 c1
  obtain ⟨Wy, hWy, gy, sy, bY, _⟩ := box2_new W0 b2 a2 n2 c2
  obtain ⟨W1, hW1, g1, s1, _, hrb⟩ := box2_new Wy false none 0 0
  have s2 : Wy.heap.size = w.heap.size + 1 + 1 := by omega
  rw [s2] at hrb
  rw [s0] at bY
  have HW1 : Hid (W1 = ((w.alloc (whO b1 a1 n1 c1)).alloc (whO b2 a2 n2 c2)).alloc (whO false none 0 0)) := by show _ = _; rw [hW1, hWy, hW0]
  have G1 : Hid (w.grownBy W1 none) := grown_trans g0 (grown_trans gy g1)
  have S1 : Hid (W1.heap.size = w.heap.size + 1 + 1 + 1) := by show _ = _; omega
  have HRB : Hid (∀ W, W1.grownBy W none → W.heap[w.heap.size + 1 + 1]? = some (.cells #[.bool false, .slice none 0 0] 32 (0, 0))) := fun W hW => (hW.block _ (by have := S1.out; omega) (by simp)).trans hrb
  have BX : Hid (∀ W, W1.grownBy W none → Box2 W w.heap.size b1 a1 n1 c1) := fun W hW => bx.grown (grown_trans gy (grown_trans g1 hW))
  have BY : Hid (∀ W, W1.grownBy W none → Box2 W (w.heap.size + 1) b2 a2 n2 c2) := fun W hW => bY.grown (grown_trans g1 hW)
  have HI : Hid (Ints W1 a1 l1 ∧ Ints W1 a2 l2) := ⟨hi1.grown G1.out, hi2.grown G1.out⟩
  have HN : Hid (Nm b1 l1 ∧ Nm b2 l2) := ⟨hn1, hn2⟩
  have HE : Hid (l1.length = n1 ∧ l2.length = n2) := ⟨hl1, hl2⟩
  have HZ : Hid (∀ l, valN l = valN l1 * valN l2 → wvN (b1 != b2) l = z1 * z2) := fun l hl => by
    rw [hz1, hz2]
    unfold wvN
    rw [hl]
    cases b1 <;> cases b2 <;> simp [Int.neg_mul, Int.mul_neg]
  have x1 := (BX.out W1 (grown_refl _ _)).b1
  have y1 := (BY.out W1 (grown_refl _ _)).b1
  rw [HW1.out] at x1 y1
  obtain ⟨N, hN⟩ : ∃ N, n1 + n2 + 1 = N := ⟨_, rfl⟩
  have eN : ((n1 : Int) + (n2 : Int) + 1) = (N : Int) := by omega
  have HNN : Hid (n1 + n2 + 1 = N) := hN
  have hmk := make_intsN W1 N (by omega)
  rw [← eN, S1.out, HW1.out] at hmk
  obtain ⟨W2, hW2⟩ : ∃ W, W = W1.alloc (.cells (Array.replicate N (Value.int .i64 0)) 3) := ⟨_, rfl⟩
  have HW2 : Hid (W2 = (((w.alloc (whO b1 a1 n1 c1)).alloc (whO b2 a2 n2 c2)).alloc (whO false none 0 0)).alloc (.cells (Array.replicate N (Value.int .i64 0)) 3)) := by show _ = _; rw [hW2, HW1.out]
  have g12 : W1.grownBy W2 none := by rw [hW2]; exact grown_alloc _ _
  have R2 : Hid (RowN W2 (w.heap.size + 1 + 1 + 1) (List.replicate N 0) ∧ MuSt l1 l2 n1 n2 0 (List.replicate N 0)) := by
    refine ⟨?_, by rw [List.length_replicate, hN], fun d hd => by rw [(List.mem_replicate.1 hd).2]; omega, ?_, fun k _ => ?_⟩
    · have := heap_alloc_new W1 (.cells (Array.replicate N (Value.int .i64 0)) 3)
      rw [← hW2, S1.out] at this
      unfold RowN
      rw [this]
      simp
    · have : ∀ m, valN (List.replicate m 0) = 0 := fun m => by
        induction m with
        | zero => rfl
        | succ m ih => rw [List.replicate_succ]; show 0 + 10000 * valN (List.replicate m 0) = 0; rw [ih]; rfl
      rw [this]
      show 0 = 0 * valN l2
      rw [Int.zero_mul]
    · simp [List.getD, List.getElem?_replicate]
      split <;> rfl
  have G2 : Hid (W1.grownBy W2 none) := g12
  obtain ⟨Po, hPo⟩ : ∃ P, P = WhN (z1 * z2) w := ⟨_, rfl⟩
  have HPo : Hid (Po = WhN (z1 * z2) w) := hPo
  rw [← hPo]
  clear hl1 hc1 hi1 hn1 hz1 hl2 hc2 hi2 hn2 hz2 hW0 hWy hW1 g0 gy g1 s0 sy s1 s2 bx bY hrb hPo hW2 g12 eN hN
  go_enter Tryd.func35, Tryd.ntmps35
  go_wp2_with fail
  rw [← HW2.out]
  clear hmk x1 y1
  go_loopw [6] (fun v W => ∃ (i : Nat) (l : List Int), v = .int .i64 (i : Int) ∧ i ≤ n1 ∧ RowN W (w.heap.size + 1 + 1 + 1) l ∧ MuSt l1 l2 n1 n2 i l ∧ W1.grownBy W none) (fun v _ => n1 - (intOf v).toNat)
  case atStart => exact ⟨0, _, rfl, Nat.zero_le _, R2.out.1, R2.out.2, G2.out⟩
  case round =>
    clear R2 G2
    obtain ⟨wi, hwi⟩ : ∃ W, W = wr := ⟨_, rfl⟩
    subst hwi
    obtain ⟨i, l, rfl, hi, hr, hst, hg⟩ := hrel
    have HR : Hid (RowN wi (w.heap.size + 1 + 1 + 1) l) := hr
    have HS : Hid (MuSt l1 l2 n1 n2 i l) := hst
    have GI : Hid (W1.grownBy wi none) := hg
    have x1 := (BX.out wi hg).b1
    clear hr hst hg
    by_cases hin : i < n1
    · have i1 : (i : Int) < (n1 : Int) := by omega
      go_wp2_with fail
      clear x1
      go_loopw [8, 7] (fun v v7 W => ∃ (j : Nat) (cr : Int) (m : List Int), v = .int .i64 (j : Int) ∧ v7 = .int .i64 cr ∧ RowN W (w.heap.size + 1 + 1 + 1) m ∧ MuIn l1 l2 n1 n2 i j cr m ∧ W1.grownBy W none) (fun v _ _ => n2 + 1 - (intOf v).toNat)
      case atStart => exact ⟨0, 0, l, rfl, rfl, HR.out, mu_start HS.out, GI.out⟩
      case round =>
        clear HR HS GI
        obtain ⟨wj, hwj⟩ : ∃ W, W = wr := ⟨_, rfl⟩
        subst hwj
        obtain ⟨j, cr, m, rfl, rfl, hr, hst, hg⟩ := hrel
        have HR : Hid (RowN wj (w.heap.size + 1 + 1 + 1) m) := hr
        have HM : Hid (MuIn l1 l2 n1 n2 i j cr m) := hst
        have GJ : Hid (W1.grownBy wj none) := hg
        have hjn := hst.jn
        have hcr := hst.crr
        have hje := hst.je
        have y1 := (BY.out wj hg).b1
        clear hr hst hg
        by_cases hgo : j < n2 ∨ 0 < cr
        · have hjm : j ≤ n2 := by
            rcases hgo with h | h
            · omega
            · by_cases e : j = n2 + 1
              · have := hje e; omega
              · omega
          obtain ⟨s, hs⟩ : ∃ s, s = m.getD (i + j) 0 + cr + l1.getD i 0 * l2.getD j 0 := ⟨_, rfl⟩
          obtain ⟨s0, s8, hIn⟩ := mu_step HM.out HN.out.1.wf HN.out.2.wf HE.out.2 hin hjm s hs
          have cm := (HR.out.cell (by rw [HM.out.len]; omega : i + j < m.length)).1
          have HM2 : Hid (MuIn l1 l2 n1 n2 i (j + 1) (s / 10000) (m.set (i + j) (s % 10000))) := hIn
          have HX : Hid (∀ W, wj.grownBy W none → W.cell? ⟨w.heap.size + 1 + 1 + 1, i + j, none⟩ = some (.int .i64 (m.getD (i + j) 0)) ∧ W.frozen? ⟨w.heap.size + 1 + 1 + 1, i + j, none⟩ = false ∧ RowN (W.setCell ⟨w.heap.size + 1 + 1 + 1, i + j, none⟩ (.int .i64 (s % 10000))) (w.heap.size + 1 + 1 + 1) (m.set (i + j) (s % 10000)) ∧ W1.grownBy (W.setCell ⟨w.heap.size + 1 + 1 + 1, i + j, none⟩ (.int .i64 (s % 10000))) none) := by
            intro W hW
            have hr := HR.out.kept hW
            have hc := hr.cell (by rw [HM.out.len]; omega : i + j < m.length)
            exact ⟨hc.1, hc.2, hr.set _ _, grown_new (grown_trans GJ.out hW) (grown_set _ _ _) (by have := S1.out; show _ ≤ w.heap.size + 1 + 1 + 1; omega)⟩
          have d1 := HN.out.1.wf.at i
          have d2 := HN.out.2.wf.at j
          have d3 := HM.out.wf.at (i + j)
          have HZ2 : Hid (¬ j < n2 → l2.getD j 0 = 0) := fun h => by rw [← HE.out.2] at h; simp [List.getD, h]
          have K1 : Hid (∃ b off, a1 = some ⟨b, off, none⟩ ∧ wj.cell? ⟨b, off + i, none⟩ = some (.int .i64 (l1.getD i 0))) := by
            obtain ⟨b, off, e, hc⟩ := HI.out.1.at (k := i) (by rw [HE.out.1]; exact hin)
            exact ⟨b, off, e, GJ.out.cell (hc i (by rw [HE.out.1]; exact hin)) (by simp)⟩
          have K2 : Hid (j < n2 → ∃ b off, a2 = some ⟨b, off, none⟩ ∧ wj.cell? ⟨b, off + j, none⟩ = some (.int .i64 (l2.getD j 0))) := fun h => by
            obtain ⟨b, off, e, hc⟩ := HI.out.2.at (k := j) (by rw [HE.out.2]; exact h)
            exact ⟨b, off, e, GJ.out.cell (hc j (by rw [HE.out.2]; exact h)) (by simp)⟩
          have eij : ((i : Int) + (j : Int)) = ((i + j : Nat) : Int) := by omega
          have iij : (i : Int) + (j : Int) < (N : Int) := by have := HNN.out; omega
          clear hIn HR HM
          generalize m.getD (i + j) 0 = dm at *
          generalize l1.getD i 0 = e1 at *
          generalize l2.getD j 0 = e2 at *
          by_cases hj2 : j < n2
          · have i2 : (j : Int) < (n2 : Int) := by omega
            obtain ⟨b1', o1, rfl, q1⟩ := K1.out
            obtain ⟨b2', o2, rfl, q2⟩ := K2.out hj2
            have p1 : 0 ≤ e1 * e2 := Int.mul_nonneg d1.1 d2.1
            have p2 : e1 * e2 ≤ 99980001 := by
              have a1 : e1 * e2 ≤ 9999 * e2 := Int.mul_le_mul_of_nonneg_right (by omega) d2.1
              omega
            have wr1 : IntKind.i64.wrap (e1 * e2) = e1 * e2 := by rw [IntKind.wrap_i64]; omega
            have wr2 : IntKind.i64.wrap (dm + cr + e1 * e2) = s := by rw [IntKind.wrap_i64, hs]; omega
            have x1 := (BX.out wj GJ.out).b1
            have r1 := (grown_drew (grown_refl wj none)).cell q1 (by simp)
            have r2 := (grown_drew (grown_refl wj none)).cell q2 (by simp)
            have rx := (grown_drew (grown_refl wj none)).cell x1 (by simp)
            have ry := (grown_drew (grown_refl wj none)).cell y1 (by simp)
            clear hgo hje K1 K2 hj2 eij hs p1 p2
            go_wp2_with fail
            go_quiet (fail)
            clear r1 r2 rx ry wr1 wr2 x1 q1 q2 y1 cm
            obtain ⟨cm, fm, hrow, hgr⟩ := HX.out _ (grown_drewN (grown_refl wj none) nq)
            have HR3 : Hid (_) := hrow
            have HG3 : Hid (_) := hgr
            clear hrow hgr
            go_wp2_with fail
            go_roundw
            case rel => exact ⟨j + 1, s / 10000, _, by go_num, by go_num, HR3.out, HM2.out, HG3.out⟩
            case measure => simp [intOf]; omega
          · have i2 : ¬ (j : Int) < (n2 : Int) := by omega
            have ez : e2 = 0 := HZ2.out hj2
            have i3 : 0 < cr := by rcases hgo with h | h <;> omega
            rw [ez, Int.mul_zero, Int.add_zero] at hs
            subst hs
            obtain ⟨cm', fm, hrow, hgr⟩ := HX.out _ (grown_refl wj none)
            have HR3 : Hid (_) := hrow
            have HG3 : Hid (_) := hgr
            have x1 := (BX.out wj GJ.out).b1
            clear hgo hje K1 K2 hj2 eij hrow hgr cm' ez HZ2
            go_wp2_with fail
            go_roundw
            case rel => exact ⟨j + 1, _, _, by go_num, by go_num, HR3.out, HM2.out, HG3.out⟩
            case measure => simp [intOf]; omega
        · have ez : cr = 0 := by omega
          subst ez
          have i2 : ¬ (j : Int) < (n2 : Int) := by omega
          have HE2 : Hid (MuSt l1 l2 n1 n2 (i + 1) m) := mu_end HM.out HE.out.2 (by omega)
          clear HM hgo hcr hje
          go_wp2_with fail
          go_roundw
          case rel => exact ⟨i + 1, m, by go_num, by omega, HR.out, HE2.out, GJ.out⟩
          case measure => simp [intOf]; omega
    · have ei : i = n1 := by omega
      subst ei
      have i1 : ¬ (i : Int) < (i : Int) := by omega
      have hv : valN l = valN l1 * valN l2 := by
        have h := HS.out.val
        have e : l1.take i = l1 := List.take_of_length_le (by rw [HE.out.1]; omega)
        rw [e] at h
        exact h
      have HVl : Hid (wvN (b1 != b2) l = z1 * z2) := HZ.out l hv
      have hll : l.length = N := by rw [HS.out.len]; exact HNN.out
      have HTr : Hid (Calls Tryd.prog 52 #[.bool (b1 != b2), .slice (some ⟨w.heap.size + 1 + 1 + 1, 0, none⟩) N N] wi (TrimP (b1 != b2) l (some ⟨w.heap.size + 1 + 1 + 1, 0, none⟩) N wi)) := trim_any (b1 != b2) l _ N N wi HR.out.ints HS.out.wf hll (Nat.le_refl _) (by have := HNN.out; omega)
      have x0 := (BX.out wi GI.out).b0
      have y0 := (BY.out wi GI.out).b0
      have hNb : N ≤ 401 := by have := HNN.out; omega
      have HnD : Hid (l.length = N ∧ N ≤ 401) := ⟨hll, hNb⟩
      clear hv hll hNb HR HS hin
      go_wp2_with fail
      clear x0 x1 y0
      refine HTr.out.mono ?_
      rintro E w4 ⟨bb, mm, rfl, hwh, hg4, hm⟩
      obtain ⟨⟨p0, p1⟩, fz, W5, hW5, g5, q0, q1, _⟩ := two_store (HRB.out w4 (grown_trans GI.out hg4)) (.bool bb) (.slice (some ⟨w.heap.size + 1 + 1 + 1, 0, none⟩) mm N)
      have HW5 : Hid (W5 = _) := hW5
      have F : Hid (Po (.returned (whV bb (some ⟨w.heap.size + 1 + 1 + 1, 0, none⟩) mm N)) W5) := by
        show Po _ _
        rw [HPo.out]
        rw [HVl.out] at hwh
        exact ⟨bb, _, mm, N, rfl, hwh.far g5 (fun y hy => by cases hy; show w.heap.size + 1 + 1 + 1 ≠ w.heap.size + 1 + 1; omega), by have := HnD.out; omega, grown_new (grown_trans G1.out (grown_trans GI.out hg4)) g5 (by omega), fun y hy => by cases hy; show w.heap.size ≤ w.heap.size + 1 + 1 + 1; omega⟩
      have f0 := fz 0
      have f1 := fz 1
      clear fz hW5 g5 hwh hg4 hm
      go_wp2_with fail
      rw [← HW5.out]
      exact bodyPost_ret (v := whV bb (some ⟨w.heap.size + 1 + 1 + 1, 0, none⟩) mm N) (by simp [results, Tryd.results35, go_sem, q0, q1]) rfl F.out

end Go.Proofs.YtjinibofbpgfjaaDoor
