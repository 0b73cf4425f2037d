/- The ways that bar: the program's barred. -/
import Derived.Test.YtnlkdihfoekjmaaGwDesc
namespace Go.Proofs.Ytnlkdihfoekjmaa
open Go.RowKit
set_option linter.unusedVariables false
set_option linter.unusedSimpArgs false

def SBar (k0 kw br bm q : Nat) (v0 v1 v2 v3 v4 u : Value) (rg vq : Int) (W : World) : Prop := W.cell? ⟨k0, 0, none⟩ = some v0 ∧ W.cell? ⟨k0, 1, none⟩ = some v1 ∧ W.cell? ⟨k0, 2, none⟩ = some v2 ∧ W.cell? ⟨k0, 3, none⟩ = some v3 ∧ W.cell? ⟨k0, 4, none⟩ = some v4 ∧ W.cell? ⟨kw, 1, none⟩ = some u ∧ W.cell? ⟨br, 2, none⟩ = some (.int .i64 rg) ∧ W.cell? ⟨bm, q, none⟩ = some (.int .i64 vq)
theorem SBar.kept {k0 kw br bm q : Nat} {v0 v1 v2 v3 v4 u : Value} {rg vq : Int} {W W' : World} (h : SBar k0 kw br bm q v0 v1 v2 v3 v4 u rg vq W) (hg : W.grownBy W' none) : SBar k0 kw br bm q v0 v1 v2 v3 v4 u rg vq W' :=
  ⟨hg.cell h.1 (by simp), hg.cell h.2.1 (by simp), hg.cell h.2.2.1 (by simp), hg.cell h.2.2.2.1 (by simp), hg.cell h.2.2.2.2.1 (by simp), hg.cell h.2.2.2.2.2.1 (by simp), hg.cell h.2.2.2.2.2.2.1 (by simp), hg.cell h.2.2.2.2.2.2.2 (by simp)⟩
def BarPost (x : Trs) (N : Nat) (V : Nat → Int) (w : World) (E : Ending) (w' : World) : Prop :=
  ∃ g, E = .returned (.slice (some ⟨g, 0, none⟩) x.R.length x.R.length) ∧ IRow w' g x.R.length x.R.length (wayW x N V) ∧ w.grownBy w' none
/-- The ways of the first rules. -/
def wysW (x : Trs) (N : Nat) (V : Nat → Int) (i j : Nat) : Int := if j < i then wayW x N V j else 0

set_option maxHeartbeats 6400000 in
set_option maxRecDepth 100000 in
theorem barred_any (x : Trs) (b e : Option Addr) (d f N bw bm : Nat) (V : Nat → Int) (w : World) (h : TrsAt w x b e) (hG : GoodW x) (hN : x.N = N) (hV : IRow w bm (N + x.R.length) (N + x.R.length) V) :
    Calls Try.prog 14 #[trsV x.L x.N b x.R.length d x.S e x.M.length f, .agg #[.slice (some ⟨bw, 0, none⟩) (N + x.R.length) (N + x.R.length), .slice (some ⟨bm, 0, none⟩) (N + x.R.length) (N + x.R.length)]] w (BarPost x N V w) := by
  have h6 := hG.n6
  have hr6 := hG.r6
  have HG : Hid (GoodW x) := hG
  have HNx : Hid (x.N = N) := hN
  have HR : Hid (∀ W, w.grownBy W none → RulesAt W b x.R) := fun W hW => (h.grown hW).rules
  have HV : Hid (∀ W, w.grownBy W none → IRow W bm (N + x.R.length) (N + x.R.length) V) := fun W hW => hV.kept hW
  rw [hN] at h6 ⊢
  have HF : Hid (∀ g W, IRow W g x.R.length x.R.length (wysW x N V x.R.length) → w.grownBy W none → BarPost x N V w (.returned (.slice (some ⟨g, 0, none⟩) x.R.length x.R.length)) W) := fun g W h1 h2 => ⟨g, rfl, h1.congr (fun j hj => by simp [wysW, hj]), h2⟩
  obtain ⟨Po, hPo⟩ : ∃ Po, Po = BarPost x N V w := ⟨_, rfl⟩
  rw [← hPo] at HF ⊢
  obtain ⟨nR, hnR⟩ : ∃ nR, x.R.length = nR := ⟨_, rfl⟩
  have HnR : Hid (x.R.length = nR) := hnR
  rw [hnR] at hr6 HV HF ⊢
  obtain ⟨n, hn⟩ : ∃ n, N + nR = n := ⟨_, rfl⟩
  have HN : Hid (N + nR = n) := hn
  rw [hn] at HV ⊢
  obtain ⟨Wb, hWb, gb, sb, bx⟩ := box5_new w (.int .i64 x.L) (.int .i64 (N : Int)) (.slice b nR d) (.int .i64 x.S) (.slice e x.M.length f) 25
  obtain ⟨Wc, hWc⟩ : ∃ Wc, Wc = Wb.alloc (.cells #[.slice (some ⟨bw, 0, none⟩) n n, .slice (some ⟨bm, 0, none⟩) n n] 40) := ⟨_, rfl⟩
  have gc : Wb.grownBy Wc none := by rw [hWc]; exact grown_alloc _ _
  have sc : Wc.heap.size = w.heap.size + 1 + 1 := by rw [hWc, World.size_alloc, sb]
  have hbc := heap_alloc_new Wb (.cells #[.slice (some ⟨bw, 0, none⟩) n n, .slice (some ⟨bm, 0, none⟩) n n] 40)
  rw [← hWc, sb] at hbc
  have cw : Wc.cell? ⟨w.heap.size + 1, 1, none⟩ = some (.slice (some ⟨bm, 0, none⟩) n n) := by rw [cell_of_row _ _ 1 _ _ (0, 0) hbc]; rfl
  have hmk := make_nums Wc nR (by omega)
  obtain ⟨Wd, hWd⟩ : ∃ Wd, Wd = Wc.alloc (.cells (Array.replicate nR (.int .i64 0)) 3) := ⟨_, rfl⟩
  rw [← hWd, sc] at hmk
  have gd : Wc.grownBy Wd none := by rw [hWd]; exact grown_alloc _ _
  have rd : IRow Wd (w.heap.size + 1 + 1) nR nR (wysW x N V 0) := by
    rw [hWd, ← sc]
    exact (RowB.make Wc 3 nR (.int .i64 0)).congr (fun j hj => by simp [wysW])
  have SH : Hid (∀ W, Wd.grownBy W (some (w.heap.size + 1 + 1)) → Wc.grownBy W none) := fun W hW => grown_new gd hW (by omega)
  have GW : Hid (∀ W, Wd.grownBy W (some (w.heap.size + 1 + 1)) → w.grownBy W none) := fun W hW => grown_trans gb (grown_trans gc (SH.out W hW))
  have BX : Hid (∀ W, Wc.grownBy W none → W.cell? ⟨w.heap.size, 0, none⟩ = some (.int .i64 x.L) ∧ W.cell? ⟨w.heap.size, 1, none⟩ = some (.int .i64 (N : Int)) ∧ W.cell? ⟨w.heap.size, 2, none⟩ = some (.slice b nR d) ∧ W.cell? ⟨w.heap.size, 3, none⟩ = some (.int .i64 x.S) ∧ W.cell? ⟨w.heap.size, 4, none⟩ = some (.slice e x.M.length f) ∧ W.cell? ⟨w.heap.size + 1, 1, none⟩ = some (.slice (some ⟨bm, 0, none⟩) n n)) := fun W hW => by
    obtain ⟨a0, a1, a2, a3, a4⟩ := bx W (grown_trans gc hW)
    exact ⟨a0, a1, a2, a3, a4, hW.cell cw (by simp)⟩
  obtain ⟨x0, x1, x2, x3, x4, x5⟩ := BX.out Wc (grown_refl _ _)
  have x2d := (BX.out Wd gd).2.2.1
  have RD : Hid (IRow Wd (w.heap.size + 1 + 1) nR nR (wysW x N V 0)) := rd
  rw [hWb] at hWc
  rw [hWc] at x0 x1 x2 x3 x4 x5 hmk
  clear h hG hN hV hPo hnR hn gb bx sb sc hbc cw gd rd hWc hWb gc hWd
  generalize hk0 : w.heap.size = k0 at *
  generalize x.M.length = nM at *
  go_enter Try.func14, Try.ntmps14
  go_wp2_with fail
  clear hmk x0 x1 x2 x3 x4 x5 x2d
  go_loopw [15] (fun v wr => ∃ i : Nat, v = .int .i64 i ∧ i ≤ nR ∧ IRow wr (k0 + 1 + 1) nR nR (wysW x N V i) ∧ Wd.grownBy wr (some (k0 + 1 + 1))) (fun v _ => nR - (intOf v).toNat)
  case atStart => exact ⟨0, rfl, by omega, RD.out, grown_refl _ _⟩
  case round =>
    clear RD
    obtain ⟨i, rfl, hi, hrow, hgw⟩ := hrel
    have RR : Hid (IRow wr (k0 + 1 + 1) nR nR (wysW x N V i)) := hrow
    have GR : Hid (Wd.grownBy wr (some (k0 + 1 + 1))) := hgw
    clear hrow hgw
    by_cases hiR : i < nR
    · have hii : (i : Int) < (nR : Int) := by omega
      have hiR' : i < x.R.length := by rw [HnR.out]; exact hiR
      obtain ⟨f1, f2, f3, f4, f5, f6⟩ := HG.out.rule HNx.out hiR'
      obtain ⟨bb, off, rfl, hc⟩ := (HR.out wr (GW.out wr GR.out)).at hiR'
      obtain ⟨y0, y1, y2, y3⟩ := hc i hiR'
      rw [f6] at y2
      have HWy : Hid (wayW x N V i = if V (N + i) = (rgW x i : Int) then 1 else 0) := rfl
      obtain ⟨rg, hrg⟩ : ∃ rg, rgW x i = rg := ⟨_, rfl⟩
      rw [hrg] at y2 HWy
      obtain ⟨q, hq⟩ : ∃ q, N + i = q := ⟨_, rfl⟩
      obtain ⟨vq, hvq⟩ : ∃ vq, V (N + i) = vq := ⟨_, rfl⟩
      rw [hvq] at HWy
      have hqn : q < n := by have := HN.out; omega
      have hqi : (q : Int) < (n : Int) := by omega
      generalize (x.R.getD i ru0).1 = r0 at *
      generalize (x.R.getD i ru0).2.1 = r1 at *
      generalize (x.R.getD i ru0).2.2.2 = r3 at *
      obtain ⟨Wr, hWr⟩ : ∃ Wr, Wr = wr.alloc (.cells #[.int .i64 r0, .int .i64 r1, .int .i64 (rg : Int), .int .i64 r3] 47) := ⟨_, rfl⟩
      have HWr : Hid (Wr = _) := hWr
      have gr : wr.grownBy Wr none := by rw [hWr]; exact grown_alloc _ _
      have rbr : Wr.heap[wr.heap.size]? = some (.cells #[.int .i64 r0, .int .i64 r1, .int .i64 (rg : Int), .int .i64 r3] 47 (0, 0)) := by rw [hWr]; exact heap_alloc_new _ _
      have GRr : Hid (Wd.grownBy Wr (some (k0 + 1 + 1))) := grown_trans GR.out (grown_some gr)
      have RRr : Hid (IRow Wr (k0 + 1 + 1) nR nR (wysW x N V i)) := RR.out.kept gr
      have cq : Wr.cell? ⟨bm, q, none⟩ = some (.int .i64 vq) := by
        have := (HV.out Wr (GW.out Wr GRr.out)).cell (i := q) hqn
        rw [← hq, hvq] at this; rw [← hq]; exact this
      have S0 : Hid (SBar k0 (k0 + 1) wr.heap.size bm q (.int .i64 x.L) (.int .i64 (N : Int)) (.slice (some ⟨bb, off, none⟩) nR d) (.int .i64 x.S) (.slice e nM f) (.slice (some ⟨bm, 0, none⟩) n n) (rg : Int) vq Wr) := by
        obtain ⟨a0, a1, a2, a3, a4, a5⟩ := BX.out Wr (SH.out Wr GRr.out)
        exact ⟨a0, a1, a2, a3, a4, a5, by rw [cell_of_row _ _ 2 _ _ (0, 0) rbr]; rfl, cq⟩
      have CP : Hid (∀ W, Calls Try.prog 22 #[trsV x.L (N : Int) (some ⟨bb, off, none⟩) nR d x.S e nM f, .int .i64 (i : Int)] W (Says (.int .i64 (q : Int)) W)) := fun W => by rw [← hq]; exact rulesPlace_any x.L x.S N nR d nM f i _ _ W (by omega) (by omega)
      have HPut : Hid (vq = (rg : Int) → ∀ W, IRow W (k0 + 1 + 1) nR nR (wysW x N V i) → IRow (W.setCell ⟨k0 + 1 + 1, i, none⟩ (.int .i64 1)) (k0 + 1 + 1) nR nR (wysW x N V (i + 1))) := fun hh W hW => IRow.put hW hiR (by simp [wysW, HWy.out, hh]) (fun j hj => by unfold wysW; by_cases e : j < i; simp [e, show j < i + 1 by omega]; simp [e, show ¬ j < i + 1 by omega])
      have HSk : Hid (vq ≠ (rg : Int) → ∀ W, IRow W (k0 + 1 + 1) nR nR (wysW x N V i) → IRow W (k0 + 1 + 1) nR nR (wysW x N V (i + 1))) := fun hh W hW => hW.congr (fun j hj => by
        by_cases e : j = i
        · subst e; simp [wysW, HWy.out, hh]
        · unfold wysW; by_cases e2 : j < i; simp [e2, show j < i + 1 by omega]; simp [e2, show ¬ j < i + 1 by omega])
      clear hc f1 f2 f3 f4 f5 f6 hrg hq hvq gr rbr cq hWr RR GR
      go_wp2_with fail
      rw [← HWr.out]
      generalize wr.heap.size = br at *
      by_cases hh : vq = (rg : Int)
      · have d0 : (vq == (rg : Int)) = true := by simpa using hh
        have HT : Hid _ := HPut.out hh
        clear hh HPut HSk
        refine wp_region_held_drew (S := SBar k0 (k0 + 1) br bm q (.int .i64 x.L) (.int .i64 (N : Int)) (.slice (some ⟨bb, off, none⟩) nR d) (.int .i64 x.S) (.slice e nM f) (.slice (some ⟨bm, 0, none⟩) n n) (rg : Int) vq) (by kernel_rfl) (S0.out.kept (grown_drew (grown_refl _ _))) (fun hHeld => ?_)
        refine wpAnyH_take (i := 0) (v := ?_) rfl (by kernel_rfl) (by kernel_rfl) (by kernel_rfl) (fun _ _ _ h => h) (Or.inl ⟨by rfl, ?_⟩) (by assumption) ?_
        rotate_left
        · intro W hSw
          obtain ⟨t1, t2, t3, t4, t5, t6, t7, t8⟩ := hSw
          go_simp
          with_reducible rfl
        try simp only [Act.put, List.setIfInBounds_toArray, List.set_cons_zero, List.set_cons_succ]
        refine wpAnyH_take (i := 1) (v := ?_) rfl (by kernel_rfl) (by kernel_rfl) (by kernel_rfl) (fun _ _ _ h => h) (Or.inl ⟨by rfl, ?_⟩) (by assumption) ?_
        rotate_left
        · intro W hSw
          obtain ⟨t1, t2, t3, t4, t5, t6, t7, t8⟩ := hSw
          go_simp
          with_reducible rfl
        try simp only [Act.put, List.setIfInBounds_toArray, List.set_cons_zero, List.set_cons_succ]
        refine wpAnyH_take (i := 2) (v := ?_) rfl (by kernel_rfl) (by kernel_rfl) (by kernel_rfl) (fun _ _ _ h => h) (Or.inl ⟨by rfl, ?_⟩) (by assumption) ?_
        rotate_left
        · intro W hSw
          obtain ⟨t1, t2, t3, t4, t5, t6, t7, t8⟩ := hSw
          go_simp
          with_reducible rfl
        try simp only [Act.put, List.setIfInBounds_toArray, List.set_cons_zero, List.set_cons_succ]
        refine wpAnyH_take (i := 3) (v := ?_) rfl (by kernel_rfl) (by kernel_rfl) (by kernel_rfl) (fun _ _ _ h => h) (Or.inl ⟨by rfl, ?_⟩) (by assumption) ?_
        rotate_left
        · intro W hSw
          obtain ⟨t1, t2, t3, t4, t5, t6, t7, t8⟩ := hSw
          go_simp
          with_reducible rfl
        try simp only [Act.put, List.setIfInBounds_toArray, List.set_cons_zero, List.set_cons_succ]
        refine wpAnyH_take (i := 7) (v := ?_) rfl (by kernel_rfl) (by kernel_rfl) (by kernel_rfl) (fun _ _ _ h => h) (Or.inl ⟨by rfl, ?_⟩) (by assumption) ?_
        rotate_left
        · intro W hSw
          obtain ⟨t1, t2, t3, t4, t5, t6, t7, t8⟩ := hSw
          go_simp
          with_reducible rfl
        try simp only [Act.put, List.setIfInBounds_toArray, List.set_cons_zero, List.set_cons_succ]
        refine wpAnyH_take (i := 8) (v := ?_) rfl (by kernel_rfl) (by kernel_rfl) (by kernel_rfl) (fun _ _ _ h => h) (Or.inl ⟨by rfl, ?_⟩) (by assumption) ?_
        rotate_left
        · intro W hSw
          obtain ⟨t1, t2, t3, t4, t5, t6, t7, t8⟩ := hSw
          go_simp
          with_reducible rfl
        try simp only [Act.put, List.setIfInBounds_toArray, List.set_cons_zero, List.set_cons_succ]
        refine wpAnyH_ready (rs := [4]) (by kernel_rfl) (by simp) ?_
        refine AllReadyH.cons (o := _) rfl (fun K' hK => ?_) ?_
        · go_simp
          refine (CP.out _).mono ?_
          rintro E w9 ⟨rfl, hg9⟩
          have R9 : Hid (IRow w9 (k0 + 1 + 1) nR nR (wysW x N V i)) := RRr.out.kept (grown_trans (grown_drew (grown_refl _ _)) hg9)
          have G9 : Hid (Wd.grownBy w9 (some (k0 + 1 + 1))) := grown_trans GRr.out (grown_some (grown_trans (grown_drew (grown_refl _ _)) hg9))
          go_wp2_with fail
          refine hK.out _ _ (hHeld.kept hg9) (fun hHeld => ?_)
          clear hK K'
          try simp only [Act.put, List.setIfInBounds_toArray, List.set_cons_zero, List.set_cons_succ]
          refine wpAnyH_take (i := 5) (v := ?_) rfl (by kernel_rfl) (by kernel_rfl) (by kernel_rfl) (fun _ _ _ h => h) (Or.inl ⟨by rfl, ?_⟩) (by assumption) ?_
          rotate_left
          · intro W hSw
            obtain ⟨t1, t2, t3, t4, t5, t6, t7, t8⟩ := hSw
            go_simp
            with_reducible rfl
          try simp only [Act.put, List.setIfInBounds_toArray, List.set_cons_zero, List.set_cons_succ]
          refine wpAnyH_take (i := 6) (v := ?_) rfl (by kernel_rfl) (by kernel_rfl) (by kernel_rfl) (fun _ _ _ h => h) (Or.inl ⟨by rfl, ?_⟩) (by assumption) ?_
          rotate_left
          · intro W hSw
            obtain ⟨t1, t2, t3, t4, t5, t6, t7, t8⟩ := hSw
            go_simp
            with_reducible rfl
          try simp only [Act.put, List.setIfInBounds_toArray, List.set_cons_zero, List.set_cons_succ]
          refine wpAnyH_take (i := 9) (v := ?_) rfl (by kernel_rfl) (by kernel_rfl) (by kernel_rfl) (fun _ _ _ h => h) (Or.inl ⟨by rfl, ?_⟩) (by assumption) ?_
          rotate_left
          · intro W hSw
            obtain ⟨t1, t2, t3, t4, t5, t6, t7, t8⟩ := hSw
            go_simp
            with_reducible rfl
          try simp only [Act.put, List.setIfInBounds_toArray, List.set_cons_zero, List.set_cons_succ]
          refine wpAnyH_done (by kernel_rfl) ?_ _
          have cI := R9.out.cell hiR
          have fI := R9.out.frozen i
          have NN : Hid _ := HT.out w9 R9.out
          go_wp2_with fail
          go_roundw
          case rel => exact ⟨i + 1, by go_num, by omega, NN.out, grown_trans G9.out (grown_set _ _ _)⟩
          case measure => simp [intOf]; omega
        exact AllReadyH.nil
      · have d0 : (vq == (rg : Int)) = false := by simpa using hh
        have HT : Hid _ := HSk.out hh
        clear hh HPut HSk
        refine wp_region_held_drew (S := SBar k0 (k0 + 1) br bm q (.int .i64 x.L) (.int .i64 (N : Int)) (.slice (some ⟨bb, off, none⟩) nR d) (.int .i64 x.S) (.slice e nM f) (.slice (some ⟨bm, 0, none⟩) n n) (rg : Int) vq) (by kernel_rfl) (S0.out.kept (grown_drew (grown_refl _ _))) (fun hHeld => ?_)
        refine wpAnyH_take (i := 0) (v := ?_) rfl (by kernel_rfl) (by kernel_rfl) (by kernel_rfl) (fun _ _ _ h => h) (Or.inl ⟨by rfl, ?_⟩) (by assumption) ?_
        rotate_left
        · intro W hSw
          obtain ⟨t1, t2, t3, t4, t5, t6, t7, t8⟩ := hSw
          go_simp
          with_reducible rfl
        try simp only [Act.put, List.setIfInBounds_toArray, List.set_cons_zero, List.set_cons_succ]
        refine wpAnyH_take (i := 1) (v := ?_) rfl (by kernel_rfl) (by kernel_rfl) (by kernel_rfl) (fun _ _ _ h => h) (Or.inl ⟨by rfl, ?_⟩) (by assumption) ?_
        rotate_left
        · intro W hSw
          obtain ⟨t1, t2, t3, t4, t5, t6, t7, t8⟩ := hSw
          go_simp
          with_reducible rfl
        try simp only [Act.put, List.setIfInBounds_toArray, List.set_cons_zero, List.set_cons_succ]
        refine wpAnyH_take (i := 2) (v := ?_) rfl (by kernel_rfl) (by kernel_rfl) (by kernel_rfl) (fun _ _ _ h => h) (Or.inl ⟨by rfl, ?_⟩) (by assumption) ?_
        rotate_left
        · intro W hSw
          obtain ⟨t1, t2, t3, t4, t5, t6, t7, t8⟩ := hSw
          go_simp
          with_reducible rfl
        try simp only [Act.put, List.setIfInBounds_toArray, List.set_cons_zero, List.set_cons_succ]
        refine wpAnyH_take (i := 3) (v := ?_) rfl (by kernel_rfl) (by kernel_rfl) (by kernel_rfl) (fun _ _ _ h => h) (Or.inl ⟨by rfl, ?_⟩) (by assumption) ?_
        rotate_left
        · intro W hSw
          obtain ⟨t1, t2, t3, t4, t5, t6, t7, t8⟩ := hSw
          go_simp
          with_reducible rfl
        try simp only [Act.put, List.setIfInBounds_toArray, List.set_cons_zero, List.set_cons_succ]
        refine wpAnyH_take (i := 7) (v := ?_) rfl (by kernel_rfl) (by kernel_rfl) (by kernel_rfl) (fun _ _ _ h => h) (Or.inl ⟨by rfl, ?_⟩) (by assumption) ?_
        rotate_left
        · intro W hSw
          obtain ⟨t1, t2, t3, t4, t5, t6, t7, t8⟩ := hSw
          go_simp
          with_reducible rfl
        try simp only [Act.put, List.setIfInBounds_toArray, List.set_cons_zero, List.set_cons_succ]
        refine wpAnyH_take (i := 8) (v := ?_) rfl (by kernel_rfl) (by kernel_rfl) (by kernel_rfl) (fun _ _ _ h => h) (Or.inl ⟨by rfl, ?_⟩) (by assumption) ?_
        rotate_left
        · intro W hSw
          obtain ⟨t1, t2, t3, t4, t5, t6, t7, t8⟩ := hSw
          go_simp
          with_reducible rfl
        try simp only [Act.put, List.setIfInBounds_toArray, List.set_cons_zero, List.set_cons_succ]
        refine wpAnyH_ready (rs := [4]) (by kernel_rfl) (by simp) ?_
        refine AllReadyH.cons (o := _) rfl (fun K' hK => ?_) ?_
        · go_simp
          refine (CP.out _).mono ?_
          rintro E w9 ⟨rfl, hg9⟩
          have R9 : Hid (IRow w9 (k0 + 1 + 1) nR nR (wysW x N V i)) := RRr.out.kept (grown_trans (grown_drew (grown_refl _ _)) hg9)
          have G9 : Hid (Wd.grownBy w9 (some (k0 + 1 + 1))) := grown_trans GRr.out (grown_some (grown_trans (grown_drew (grown_refl _ _)) hg9))
          go_wp2_with fail
          refine hK.out _ _ (hHeld.kept hg9) (fun hHeld => ?_)
          clear hK K'
          try simp only [Act.put, List.setIfInBounds_toArray, List.set_cons_zero, List.set_cons_succ]
          refine wpAnyH_take (i := 5) (v := ?_) rfl (by kernel_rfl) (by kernel_rfl) (by kernel_rfl) (fun _ _ _ h => h) (Or.inl ⟨by rfl, ?_⟩) (by assumption) ?_
          rotate_left
          · intro W hSw
            obtain ⟨t1, t2, t3, t4, t5, t6, t7, t8⟩ := hSw
            go_simp
            with_reducible rfl
          try simp only [Act.put, List.setIfInBounds_toArray, List.set_cons_zero, List.set_cons_succ]
          refine wpAnyH_take (i := 6) (v := ?_) rfl (by kernel_rfl) (by kernel_rfl) (by kernel_rfl) (fun _ _ _ h => h) (Or.inl ⟨by rfl, ?_⟩) (by assumption) ?_
          rotate_left
          · intro W hSw
            obtain ⟨t1, t2, t3, t4, t5, t6, t7, t8⟩ := hSw
            go_simp
            with_reducible rfl
          try simp only [Act.put, List.setIfInBounds_toArray, List.set_cons_zero, List.set_cons_succ]
          refine wpAnyH_take (i := 9) (v := ?_) rfl (by kernel_rfl) (by kernel_rfl) (by kernel_rfl) (fun _ _ _ h => h) (Or.inl ⟨by rfl, ?_⟩) (by assumption) ?_
          rotate_left
          · intro W hSw
            obtain ⟨t1, t2, t3, t4, t5, t6, t7, t8⟩ := hSw
            go_simp
            with_reducible rfl
          try simp only [Act.put, List.setIfInBounds_toArray, List.set_cons_zero, List.set_cons_succ]
          refine wpAnyH_done (by kernel_rfl) ?_ _
          have NN : Hid _ := HT.out w9 R9.out
          go_wp2_with fail
          go_roundw
          case rel => exact ⟨i + 1, by go_num, by omega, NN.out, G9.out⟩
          case measure => simp [intOf]; omega
        exact AllReadyH.nil
    · have hii : ¬ (i : Int) < (nR : Int) := by omega
      have hin : i = nR := by omega
      have Fin : Hid (Po (.returned (.slice (some ⟨k0 + 1 + 1, 0, none⟩) nR nR)) wr) := HF.out _ wr (by have := RR.out; rw [hin] at this; exact this) (GW.out wr GR.out)
      clear hin
      go_wp2_with fail
      first | exact Fin.out | (go_ret; exact Fin.out)

end Go.Proofs.Ytnlkdihfoekjmaa
