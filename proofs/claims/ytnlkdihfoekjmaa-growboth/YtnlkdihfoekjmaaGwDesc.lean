/- The game of going down: the program's descent. -/
import Derived.Test.YtnlkdihfoekjmaaGwDescD
import Derived.Deep.CutRange
import Derived.Deep.DeepCutAuto
namespace Go.Proofs.Ytnlkdihfoekjmaa
open Go.RowKit
set_option linter.unusedVariables false
set_option linter.unusedSimpArgs false
attribute [local go_sem ↓] app_fold

def DescPost (x : Trs) (N : Nat) (w : World) (E : Ending) (w' : World) : Prop :=
  ∃ bw bm W M, E = .returned (.agg #[.slice (some ⟨bw, 0, none⟩) (N + x.R.length) (N + x.R.length), .slice (some ⟨bm, 0, none⟩) (N + x.R.length) (N + x.R.length)]) ∧ IRow w' bw (N + x.R.length) (N + x.R.length) W ∧ IRow w' bm (N + x.R.length) (N + x.R.length) (mvW x N W M) ∧ GwS x N W M ∧ w.grownBy w' none

/-- The boxes that are made first. -/
theorem desc_start (w : World) : GmB w w.heap.size (w.heap.size + 1) w.heap.size (.slice none 0 0) (.slice none 0 0) (.slice none 0 0) [] [] [] ((w.alloc (.cells #[.slice none 0 0, .slice none 0 0] 40)).alloc (.cells #[.slice none 0 0, .slice none 0 0, .slice none 0 0] 53)) := by
  have o1 := (Owns.no w.heap.size w).made (arr := #[.slice none 0 0, .slice none 0 0]) (n := 2) (Nat.le_refl _) 40 rfl (by unfold maxLen; omega)
  have o2 := ((o1.empty 3).empty 3).empty 23
  have o3 := o2.made (arr := #[.slice none 0 0, .slice none 0 0, .slice none 0 0]) (n := 3) (by simp) 53 rfl (by unfold maxLen; omega)
  rw [World.size_alloc] at o3
  exact ⟨o3, grown_trans (grown_alloc _ _) (grown_alloc _ _), Nat.le_refl _, by simp; omega⟩
theorem one_drew (w : World) (v : Value) (t : TypeId) : w.grownBy (w.alloc (.cells #[v] t)).drew none ∧ (w.alloc (.cells #[v] t)).drew.heap.size = w.heap.size + 1 ∧ (w.alloc (.cells #[v] t)).drew.cell? ⟨w.heap.size, 0, none⟩ = some v := by
  obtain ⟨h1, h2, h3⟩ := one_cell w v t
  exact ⟨grown_drew h1, h2, h3⟩

def S14 (br lf rg : Nat) (W : World) : Prop := W.cell? ⟨br, 1, none⟩ = some (.int .i64 (lf : Int)) ∧ W.cell? ⟨br, 2, none⟩ = some (.int .i64 (rg : Int))
theorem S14.kept {br lf rg : Nat} {W W' : World} (h : S14 br lf rg W) (hg : W.grownBy W' none) : S14 br lf rg W' := ⟨hg.cell h.1 (by simp), hg.cell h.2 (by simp)⟩
theorem S14.of {br lf rg : Nat} {r0 r3 : Int} {W : World} (h : W.heap[br]? = some (.cells #[.int .i64 r0, .int .i64 (lf : Int), .int .i64 (rg : Int), .int .i64 r3] 47 (0, 0))) : S14 br lf rg W := ⟨by rw [cell_of_row _ _ 1 _ _ (0, 0) h]; rfl, by rw [cell_of_row _ _ 2 _ _ (0, 0) h]; rfl⟩
def S15 (gb br k0 tq : Nat) (v0 v1 v2 v3 v4 u : Value) (W : World) : Prop := W.cell? ⟨gb, 2, none⟩ = some u ∧ W.cell? ⟨br, 3, none⟩ = some (.int .i64 (tq : Int)) ∧ W.cell? ⟨k0, 0, none⟩ = some v0 ∧ W.cell? ⟨k0, 1, none⟩ = some v1 ∧ W.cell? ⟨k0, 2, none⟩ = some v2 ∧ W.cell? ⟨k0, 3, none⟩ = some v3 ∧ W.cell? ⟨k0, 4, none⟩ = some v4
theorem S15.kept {gb br k0 tq : Nat} {v0 v1 v2 v3 v4 u : Value} {W W' : World} (h : S15 gb br k0 tq v0 v1 v2 v3 v4 u W) (hg : W.grownBy W' none) : S15 gb br k0 tq v0 v1 v2 v3 v4 u W' :=
  ⟨hg.cell h.1 (by simp), hg.cell h.2.1 (by simp), hg.cell h.2.2.1 (by simp), hg.cell h.2.2.2.1 (by simp), hg.cell h.2.2.2.2.1 (by simp), hg.cell h.2.2.2.2.2.1 (by simp), hg.cell h.2.2.2.2.2.2 (by simp)⟩
/-- Behind the row of a rule's moves. -/
def Mid14 (Wb : World) (k0 br : Nat) (UO UM : Value) (zo zm : List Int) (rs : List (Value × List Nat)) (l : List Nat) (cs : Array Value) (W : World) : Prop :=
  ∃ (u3 v : Value), GmB Wb (k0 + 1) (k0 + 1 + 1) (k0 + 1) UO UM u3 zo zm (rs ++ [(v, l)]) W ∧ W.heap[br]? = some (.cells cs 47 (0, 0))
set_option maxHeartbeats 12800000 in
set_option maxRecDepth 100000 in
theorem descent_any (x : Trs) (b e : Option Addr) (d f N : Nat) (w : World) (h : TrsAt w x b e) (hG : GoodW x) (hN : x.N = N) :
    Calls Try.prog 12 #[trsV x.L x.N b x.R.length d x.S e x.M.length f] w (DescPost x N w) := by
  have h6 := hG.n6
  have hn1 := hG.n1
  have hr6 := hG.r6
  have hm := hG.m
  have HG : Hid (GoodW x) := hG
  have HNx : Hid (x.N = N) := hN
  have HR : Hid (∀ W, w.grownBy W none → RulesAt W b x.R) := fun W hW => (h.grown hW).rules
  have HM : Hid (∀ W, w.grownBy W none → Ints W e x.M) := fun W hW => (h.grown hW).marks
  rw [hN] at h6 hn1 hm ⊢
  obtain ⟨Po, hPo⟩ : ∃ Po, Po = DescPost x N w := ⟨_, rfl⟩
  have HPo : Hid (Po = DescPost x N w) := hPo
  rw [← hPo]
  obtain ⟨nR, hnR⟩ : ∃ nR, x.R.length = nR := ⟨_, rfl⟩
  have HnR : Hid (x.R.length = nR) := hnR
  have hnM : x.M.length = N := by omega
  have HnM : Hid (x.M.length = N) := hnM
  rw [hnR] at hr6 ⊢
  rw [hnM]
  obtain ⟨Wb, hWb, gb, sb, bx⟩ := box5_new w (.int .i64 x.L) (.int .i64 (N : Int)) (.slice b nR d) (.int .i64 x.S) (.slice e N f) 25
  have HWb : Hid (Wb = _) := hWb
  have GB : Hid (w.grownBy Wb none) := gb
  have HSb : Hid (Wb.heap.size = w.heap.size + 1) := sb
  have BX : Hid (∀ W', Wb.grownBy W' none → W'.cell? ⟨w.heap.size, 0, none⟩ = some (.int .i64 x.L) ∧ W'.cell? ⟨w.heap.size, 1, none⟩ = some (.int .i64 (N : Int)) ∧ W'.cell? ⟨w.heap.size, 2, none⟩ = some (.slice b nR d) ∧ W'.cell? ⟨w.heap.size, 3, none⟩ = some (.int .i64 x.S) ∧ W'.cell? ⟨w.heap.size, 4, none⟩ = some (.slice e N f)) := bx
  have D0 := desc_start Wb
  obtain ⟨Wd, hWd⟩ : ∃ Wd, Wd = (Wb.alloc (.cells #[.slice none 0 0, .slice none 0 0] 40)).alloc (.cells #[.slice none 0 0, .slice none 0 0, .slice none 0 0] 53) := ⟨_, rfl⟩
  rw [← hWd] at D0
  rw [sb] at D0
  have GM0 : Hid (GmB Wb (w.heap.size + 1) (w.heap.size + 1 + 1) (w.heap.size + 1) (.slice none 0 0) (.slice none 0 0) (.slice none 0 0) [] [] [] Wd) := D0
  obtain ⟨x0, x1, x2, x3, x4⟩ := BX.out Wd D0.gr
  rw [hWb] at hWd
  have HWd : Hid (Wd = _) := hWd
  rw [hWd] at x0 x1 x2 x3 x4
  clear h hG hN hPo hnR hnM gb bx D0 hWd hWb sb
  generalize hk0 : w.heap.size = k0 at *
  go_enter Try.func12, Try.ntmps12
  go_wp2_with fail
  rw [← HWd.out]
  clear x0 x1 x2 x3 x4
  go_loopw [10] (fun v wr => ∃ (s : Nat) (u0 u1 u2 : Value) (rs : List (Value × List Nat)), v = .int .i64 s ∧ s ≤ N ∧ GmB Wb (k0 + 1) (k0 + 1 + 1) (k0 + 1) u0 u1 u2 (lstW (gwOw N) s) (lstW (mk0W x N) s) rs wr ∧ rs.map (·.2) = lstW (rowW x N 0) s) (fun v _ => N - (intOf v).toNat)
  case atStart => exact ⟨0, _, _, _, [], rfl, by omega, GM0.out, rfl⟩
  case round =>
    clear GM0
    obtain ⟨s, u0, u1, u2, rs, rfl, hs, hgm, hrs⟩ := hrel
    have GM : Hid (GmB Wb (k0 + 1) (k0 + 1 + 1) (k0 + 1) u0 u1 u2 (lstW (gwOw N) s) (lstW (mk0W x N) s) rs wr) := hgm
    have HRs : Hid (rs.map (·.2) = lstW (rowW x N 0) s) := hrs
    clear hgm hrs
    by_cases hsN : s < N
    · have hsi : (s : Int) < (N : Int) := by omega
      have HRl : Hid (rs.length = s) := by have := congrArg List.length HRs.out; show _ = _; simpa [lstW] using this
      -- the owner
      obtain ⟨q1, q2, q3⟩ := one_cell wr (.int .i64 0) 3
      obtain ⟨g1, c1, w1, r1, y1, z1, M1, _, _⟩ := GM.out.pushO q1 GM.out.lz q2 q3 (by rw [lstW_len]; omega)
      rw [lstW_len] at r1 M1
      obtain ⟨b0, b1, b2⟩ := GM.out.cells
      have e0 : gwOw N s = 0 := by unfold gwOw; rw [if_pos hsN]
      rw [← e0, lstW_snoc] at M1
      obtain ⟨V1, hV1⟩ : ∃ V1, V1 = w1.setCell ⟨k0 + 1 + 1, 0, none⟩ (.slice (some ⟨g1, 0, none⟩) (s + 1) c1) := ⟨_, rfl⟩
      rw [← hV1] at M1
      have HV1 : Hid (V1 = _) := hV1
      have GM1 : Hid _ := M1
      -- the mark
      have hsM : s < x.M.length := by rw [HnM.out]; exact hsN
      obtain ⟨bb, off, rfl, hcm⟩ := (HM.out V1 (grown_trans GB.out M1.gr)).at hsM
      have cm := hcm s hsM
      have em : mk0W x N s = x.M.getD s 0 := by unfold mk0W; rw [if_pos hsN]
      obtain ⟨m, hmm⟩ : ∃ m, x.M.getD s 0 = m := ⟨_, rfl⟩
      rw [hmm] at cm em
      obtain ⟨q1, q2, q3⟩ := one_drew V1 (.int .i64 m) 3
      obtain ⟨g2, c2, w2, r2, y2, z2, M2, _, _⟩ := M1.pushM q1 M1.lz q2 q3 (by rw [lstW_len]; omega)
      rw [lstW_len] at r2 M2
      rw [← em, lstW_snoc] at M2
      obtain ⟨a0, a1, a2, a3, a4⟩ := BX.out V1 M1.gr
      obtain ⟨d0, d1, d2⟩ := M1.cells
      have d1' := fun ob => (grown_alloc V1 ob).cell d1 (by simp)
      obtain ⟨V2, hV2⟩ : ∃ V2, V2 = w2.setCell ⟨k0 + 1 + 1, 1, none⟩ (.slice (some ⟨g2, 0, none⟩) (s + 1) c2) := ⟨_, rfl⟩
      rw [← hV2] at M2
      have HV2 : Hid (V2 = _) := hV2
      -- the row
      obtain ⟨q1, q2, q3⟩ := one_cell V2 (.slice none 0 0) 23
      obtain ⟨g3, c3, w3, r3, y3, z3, M3, _, _⟩ := M2.pushN (l := []) q1 ((M2.own.kept q1).empty 3) M2.lz q2 q3 (by rw [HRl.out]; omega)
      rw [HRl.out] at r3 M3
      obtain ⟨f0, f1, f2⟩ := M2.cells
      have GM3 : Hid _ := M3
      have HR3 : Hid ((rs ++ [((Value.slice none 0 0, []) : Value × List Nat)]).map (·.2) = lstW (rowW x N 0) (s + 1)) := by
        show _ = _
        rw [List.map_append, HRs.out, ← lstW_snoc, rowW_zero hsN]; rfl
      clear M1 M2 M3 q1 q2 q3 hcm hmm em e0 hV1 hV2 hsM
      go_wp2_with fail
      rw [← HV1.out]
      go_region
      all_goals
        rw [← HV2.out]
        go_wp2_with fail
        go_roundw
        case rel => exact ⟨s + 1, _, _, _, _, by go_num, by omega, GM3.out, HR3.out⟩
        case measure => simp [intOf]; omega
    · have hsi : ¬ (s : Int) < (N : Int) := by omega
      have hsN' : s = N := by omega
      have GM0 : Hid (GmB Wb (k0 + 1) (k0 + 1 + 1) (k0 + 1) u0 u1 u2 (lstW (gwOw N) (N + 0)) (lstW (mk0W x N) (N + 0)) rs wr) := by have := GM.out; rw [hsN'] at this; exact this
      have HRs0 : Hid (rs.map (·.2) = lstW (rowW x N 0) (N + 0)) := by have := HRs.out; rw [hsN'] at this; exact this
      obtain ⟨x0, x1, x2, x3, x4⟩ := BX.out wr GM.out.gr
      clear hsN' GM HRs hsN
      go_wp2_with fail
      clear x0 x1 x2 x3 x4
      go_loopw [37] (fun v wr => ∃ (i : Nat) (u0 u1 u2 : Value) (rs : List (Value × List Nat)), v = .int .i64 i ∧ i ≤ nR ∧ GmB Wb (k0 + 1) (k0 + 1 + 1) (k0 + 1) u0 u1 u2 (lstW (gwOw N) (N + i)) (lstW (mk0W x N) (N + i)) rs wr ∧ rs.map (·.2) = lstW (rowW x N i) (N + i)) (fun v _ => nR - (intOf v).toNat)
      case atStart => exact ⟨0, _, _, _, rs, rfl, by omega, GM0.out, HRs0.out⟩
      case round =>
        clear GM0 HRs0
        obtain ⟨i, u0, u1, u2, rs, rfl, hi, hgm, hrs⟩ := hrel
        have GM : Hid (GmB Wb (k0 + 1) (k0 + 1 + 1) (k0 + 1) u0 u1 u2 (lstW (gwOw N) (N + i)) (lstW (mk0W x N) (N + i)) rs wr) := hgm
        have HRs : Hid (rs.map (·.2) = lstW (rowW x N i) (N + i)) := hrs
        clear hgm hrs
        by_cases hiR : i < nR
        · have hii : (i : Int) < (nR : Int) := by omega
          have hiR' : i < x.R.length := by rw [HnR.out]; exact hiR
          have HRl : Hid (rs.length = N + i) := by have := congrArg List.length HRs.out; show _ = _; simpa [lstW] using this
          obtain ⟨f1, f2, f3, f4, f5, f6⟩ := HG.out.rule HNx.out hiR'
          obtain ⟨bb, off, rfl, hc⟩ := (HR.out wr (grown_trans GB.out GM.out.gr)).at hiR'
          obtain ⟨y0, y1, y2, y3⟩ := hc i hiR'
          rw [f4] at y3
          rw [f5] at y1
          rw [f6] at y2
          obtain ⟨tq, hto⟩ : ∃ tq, toW x i = tq := ⟨_, rfl⟩
          obtain ⟨lf, hlf⟩ : ∃ lf, lfW x i = lf := ⟨_, rfl⟩
          obtain ⟨rg, hrg⟩ : ∃ rg, rgW x i = rg := ⟨_, rfl⟩
          obtain ⟨r0, hr0⟩ : ∃ r0, (x.R.getD i ru0).1 = r0 := ⟨_, rfl⟩
          rw [hto] at y3 f1
          rw [hlf] at y1
          rw [hrg] at y2
          rw [hr0] at y0
          have HTq : Hid (tq = toW x i) := hto.symm
          have HLf : Hid (lfW x i = lf) := hlf
          have HRg : Hid (rgW x i = rg) := hrg
          obtain ⟨Wr, hWr⟩ : ∃ Wr, Wr = wr.alloc (.cells #[.int .i64 r0, .int .i64 (lf : Int), .int .i64 (rg : Int), .int .i64 (tq : Int)] 47) := ⟨_, rfl⟩
          have HWr : Hid (Wr = _) := hWr
          have gr : wr.grownBy Wr none := by rw [hWr]; exact grown_alloc _ _
          have rbr : Wr.heap[wr.heap.size]? = some (.cells #[.int .i64 r0, .int .i64 (lf : Int), .int .i64 (rg : Int), .int .i64 (tq : Int)] 47 (0, 0)) := by rw [hWr]; exact heap_alloc_new _ _
          have M0 := GM.out.kept gr
          -- the owner
          obtain ⟨q1, q2, q3⟩ := one_cell Wr (.int .i64 1) 3
          obtain ⟨g1, c1, w1, r1, t1, z1, M1, _, k1⟩ := M0.pushO q1 M0.lz q2 q3 (by rw [lstW_len]; omega)
          have rb1 := k1 _ _ (KpRu.of q1 _ _ rbr)
          rw [lstW_len] at r1 M1 rb1
          obtain ⟨b0, b1, b2⟩ := M0.cells
          have hsr : Wr.heap.size = wr.heap.size + 1 := by rw [hWr]; exact World.size_alloc _ _
          rw [hsr] at r1
          rw [hWr] at b0 r1
          have e0 : gwOw N (N + i) = 1 := by unfold gwOw; rw [if_neg (by omega)]
          rw [← e0, lstW_snoc] at M1
          obtain ⟨V1, hV1⟩ : ∃ V1, V1 = w1.setCell ⟨k0 + 1 + 1, 0, none⟩ (.slice (some ⟨g1, 0, none⟩) (N + i + 1) c1) := ⟨_, rfl⟩
          rw [← hV1] at M1 rb1
          have HV1 : Hid (V1 = _) := hV1
          -- the mark
          have hsM : tq < x.M.length := by rw [HnM.out]; exact f1
          have htN : (tq : Int) < (N : Int) := by omega
          obtain ⟨bm, om, rfl, hcm⟩ := (HM.out V1 (grown_trans GB.out M1.gr)).at hsM
          have cm := hcm tq hsM
          have em : mk0W x N (N + i) = x.M.getD tq 0 := by unfold mk0W; rw [if_neg (by omega), Nat.add_sub_cancel_left, hto]
          obtain ⟨m, hmm⟩ : ∃ m, x.M.getD tq 0 = m := ⟨_, rfl⟩
          rw [hmm] at cm em
          obtain ⟨q1, q2, q3⟩ := one_drew V1 (.int .i64 m) 3
          obtain ⟨g2, c2, w2, r2, t2, z2, M2, _, k2⟩ := M1.pushM q1 M1.lz q2 q3 (by rw [lstW_len]; omega)
          have rb2 := k2 _ _ (KpRu.of q1 _ _ rb1)
          rw [lstW_len] at r2 M2 rb2
          rw [← em, lstW_snoc] at M2
          obtain ⟨a0, a1, a2, a3, a4⟩ := BX.out V1 M1.gr
          obtain ⟨d0, d1, d2⟩ := M1.cells
          have d1' := fun ob => (grown_alloc V1 ob).cell d1 (by simp)
          have rc1 : V1.cell? ⟨wr.heap.size, 3, none⟩ = some (.int .i64 (tq : Int)) := by rw [cell_of_row _ _ 3 _ _ (0, 0) rb1]; rfl
          obtain ⟨V2, hV2⟩ : ∃ V2, V2 = w2.setCell ⟨k0 + 1 + 1, 1, none⟩ (.slice (some ⟨g2, 0, none⟩) (N + i + 1) c2) := ⟨_, rfl⟩
          rw [← hV2] at M2 rb2
          have HV2 : Hid (V2 = _) := hV2
          have RB2 : Hid _ := rb2
          have GM2 : Hid (GmB Wb (k0 + 1) (k0 + 1 + 1) (k0 + 1) (.slice (some ⟨g1, 0, none⟩) (N + i + 1) c1) (.slice (some ⟨g2, 0, none⟩) (N + i + 1) c2) u2 (lstW (gwOw N) (N + i + 1)) (lstW (mk0W x N) (N + i + 1)) rs V2) := M2
          have CR : Hid (∀ W, Calls Try.prog 21 #[.int .i64 (lf : Int), .int .i64 (rg : Int)] W (RisPost (riL lf rg) W)) := fun W => rising_any lf rg W
          clear M0 M1 M2 q1 q2 q3 hcm hmm em e0 hV1 hV2 hsM k1 k2 rb1 rb2 rbr gr hWr hsr hc hr0 hto hlf hrg f4 f5 f6
          go_wp2_with fail
          rw [← HV1.out]
          go_region
          all_goals
            rw [← HV2.out]
            clear r1 r2 t1 t2 z1 z2 cm a0 a1 a2 a3 a4 d0 d1 d2 d1' rc1 b0 b1 b2 y0 y1 y2 y3
            generalize wr.heap.size = br at *
            have x2 := GM2.out.cells.2.2
            have S0 : Hid (S14 br lf rg V2) := S14.of RB2.out
            have HAp : Hid (∀ w7 g7 c7, V2.drew.grownBy w7 none → Owns V2.drew.heap.size w7 [(3, .slice (some ⟨g7, 0, none⟩) (riL lf rg).length c7, nvals (riL lf rg))] → w7.cell? ⟨k0 + 1 + 1, 2, none⟩ = some u2 ∧ ∃ g4 c4 w8, (AppS #[49, 49] 49 #[u2, .slice (some ⟨w7.heap.size, 0, none⟩) 1 1]).run Try.prog (w7.alloc (.cells #[.slice (some ⟨g7, 0, none⟩) (riL lf rg).length c7] 23)) = .ok (.slice (some ⟨g4, 0, none⟩) (N + i + 1) c4) w8 ∧ w8.cell? ⟨k0 + 1 + 1, 2, none⟩ = some u2 ∧ w8.frozen? ⟨k0 + 1 + 1, 2, none⟩ = false ∧ Hid (S14 br lf rg w8) ∧
                Hid (S14 br lf rg (w8.setCell ⟨k0 + 1 + 1, 2, none⟩ (.slice (some ⟨g4, 0, none⟩) (N + i + 1) c4))) ∧ Hid (Mid14 Wb k0 br (.slice (some ⟨g1, 0, none⟩) (N + i + 1) c1) (.slice (some ⟨g2, 0, none⟩) (N + i + 1) c2) (lstW (gwOw N) (N + i + 1)) (lstW (mk0W x N) (N + i + 1)) rs (riL lf rg) #[.int .i64 r0, .int .i64 (lf : Int), .int .i64 (rg : Int), .int .i64 (tq : Int)] (w8.setCell ⟨k0 + 1 + 1, 2, none⟩ (.slice (some ⟨g4, 0, none⟩) (N + i + 1) c4)))) := fun w7 g7 c7 hg7 ho7 => by
              have hgw : V2.grownBy w7 none := grown_trans (grown_drew (grown_refl _ _)) hg7
              obtain ⟨q1, q2, q3⟩ := one_cell w7 (.slice (some ⟨g7, 0, none⟩) (riL lf rg).length c7) 23
              have hj := (GM2.out.kept (grown_drew (grown_refl _ _) : V2.grownBy V2.drew none)).own.join hg7 ho7 (GM2.out.lz)
              obtain ⟨g4, c4, w8, p1, p2, p3, p4, p5, p6⟩ := GM2.out.pushN (l := riL lf rg) (grown_trans hgw q1) (hj.kept q1) (Nat.le_trans GM2.out.lz hgw.size) q2 q3 (by rw [HRl.out]; omega)
              rw [HRl.out] at p1 p4 p6
              have rbA := KpRu.of (grown_trans hgw q1) _ _ RB2.out
              exact ⟨hgw.cell x2 (by simp), g4, c4, w8, p1, p2, p3, S14.of (p5 _ _ rbA), S14.of (p6 _ _ rbA), _, _, p4, p6 _ _ rbA⟩
            go_wp2_with fail
            go_cut [58] (fun _ wc => Mid14 Wb k0 br (.slice (some ⟨g1, 0, none⟩) (N + i + 1) c1) (.slice (some ⟨g2, 0, none⟩) (N + i + 1) c2) (lstW (gwOw N) (N + i + 1)) (lstW (mk0W x N) (N + i + 1)) rs (riL lf rg) #[.int .i64 r0, .int .i64 (lf : Int), .int .i64 (rg : Int), .int .i64 (tq : Int)] wc)
            case first =>
              refine wp_region_held_drew (S := S14 br lf rg) (by kernel_rfl) (S0.out.kept (grown_drew (grown_refl _ _))) (fun hHeld => ?_)
              refine wpAnyH_take (i := 0) (v := ?_) rfl (by kernel_rfl) (by kernel_rfl) (by kernel_rfl) (fun _ _ _ h => h) (Or.inl ⟨by rfl, ?_⟩) (by assumption) ?_
              rotate_left
              · intro W hSw
                obtain ⟨t1, t2⟩ := hSw
                go_simp
                with_reducible rfl
              try simp only [Act.put, List.setIfInBounds_toArray, List.set_cons_zero, List.set_cons_succ]
              refine wpAnyH_take (i := 2) (v := ?_) rfl (by kernel_rfl) (by kernel_rfl) (by kernel_rfl) (fun _ _ _ h => h) (Or.inl ⟨by rfl, ?_⟩) (by assumption) ?_
              rotate_left
              · intro W hSw
                obtain ⟨t1, t2⟩ := hSw
                go_simp
                with_reducible rfl
              try simp only [Act.put, List.setIfInBounds_toArray, List.set_cons_zero, List.set_cons_succ]
              refine wpAnyH_take (i := 3) (v := ?_) rfl (by kernel_rfl) (by kernel_rfl) (by kernel_rfl) (fun _ _ _ h => h) (Or.inl ⟨by rfl, ?_⟩) (by assumption) ?_
              rotate_left
              · intro W hSw
                obtain ⟨t1, t2⟩ := hSw
                go_simp
                with_reducible rfl
              try simp only [Act.put, List.setIfInBounds_toArray, List.set_cons_zero, List.set_cons_succ]
              refine wpAnyH_take (i := 4) (v := ?_) rfl (by kernel_rfl) (by kernel_rfl) (by kernel_rfl) (fun _ _ _ h => h) (Or.inl ⟨by rfl, ?_⟩) (by assumption) ?_
              rotate_left
              · intro W hSw
                obtain ⟨t1, t2⟩ := hSw
                go_simp
                with_reducible rfl
              try simp only [Act.put, List.setIfInBounds_toArray, List.set_cons_zero, List.set_cons_succ]
              refine wpAnyH_take (i := 5) (v := ?_) rfl (by kernel_rfl) (by kernel_rfl) (by kernel_rfl) (fun _ _ _ h => h) (Or.inl ⟨by rfl, ?_⟩) (by assumption) ?_
              rotate_left
              · intro W hSw
                obtain ⟨t1, t2⟩ := hSw
                go_simp
                with_reducible rfl
              try simp only [Act.put, List.setIfInBounds_toArray, List.set_cons_zero, List.set_cons_succ]
              refine wpAnyH_ready (rs := [1, 6]) (by kernel_rfl) (by simp) ?_
              refine AllReadyH.cons (o := _) rfl (fun K' hK => ?_) ?_
              · go_simp
                refine hK.out _ _ (by assumption) (fun hHeld => ?_)
                clear hK K'
                try simp only [Act.put, List.setIfInBounds_toArray, List.set_cons_zero, List.set_cons_succ]
                refine wpAnyH_ready (rs := [6]) (by kernel_rfl) (by simp) ?_
                refine AllReadyH.cons (o := _) rfl (fun K' hK => ?_) ?_
                · go_simp
                  refine (CR.out _).mono ?_
                  rintro E w7 ⟨g7, c7, rfl, ho7, hg7⟩
                  obtain ⟨x7, g4, c4, w8, hrun4, y4, z4, S8, S9, M9⟩ := HAp.out w7 g7 c7 hg7 ho7
                  have x7' := fun ob => (grown_alloc w7 ob).cell x7 (by simp)
                  go_wp2_with fail
                  refine hK.out _ _ (hHeld.kept hg7) (fun hHeld => ?_)
                  clear hK K'
                  try simp only [Act.put, List.setIfInBounds_toArray, List.set_cons_zero, List.set_cons_succ]
                  refine wpAnyH_ready (rs := [7]) (by kernel_rfl) (by simp) ?_
                  refine AllReadyH.cons (o := _) rfl (fun K' hK => ?_) ?_
                  · go_simp
                    refine hK.out _ _ (hHeld.kept (grown_alloc _ _)) (fun hHeld => ?_)
                    clear hK K'
                    try simp only [Act.put, List.setIfInBounds_toArray, List.set_cons_zero, List.set_cons_succ]
                    refine wpAnyH_ready (rs := [8]) (by kernel_rfl) (by simp) ?_
                    refine AllReadyH.cons (o := _) rfl (fun K' hK => ?_) ?_
                    · go_simp
                      refine hK.out _ _ (S8.out) (fun hHeld => ?_)
                      clear hK K'
                      try simp only [Act.put, List.setIfInBounds_toArray, List.set_cons_zero, List.set_cons_succ]
                      refine wpAnyH_take (i := 9) (v := ?_) rfl (by kernel_rfl) (by kernel_rfl) (by kernel_rfl) (fun _ _ _ h => h) (Or.inl ⟨by rfl, ?_⟩) (by assumption) ?_
                      rotate_left
                      · intro W hSw
                        obtain ⟨t1, t2⟩ := hSw
                        go_simp
                        with_reducible rfl
                      try simp only [Act.put, List.setIfInBounds_toArray, List.set_cons_zero, List.set_cons_succ]
                      refine wpAnyH_ready (rs := [10]) (by kernel_rfl) (by simp) ?_
                      refine AllReadyH.cons (o := _) rfl (fun K' hK => ?_) ?_
                      · go_simp
                        refine hK.out _ _ (S9.out) (fun hHeld => ?_)
                        clear hK K'
                        try simp only [Act.put, List.setIfInBounds_toArray, List.set_cons_zero, List.set_cons_succ]
                        refine wpAnyH_done (by kernel_rfl) ?_ _
                        go_wp2_with fail
                        go_meet
                        case rel => exact M9.out
                      exact AllReadyH.nil
                    exact AllReadyH.nil
                  exact AllReadyH.nil
                exact AllReadyH.nil
              refine AllReadyH.cons (o := _) rfl (fun K' hK => ?_) ?_
              · go_simp
                refine (CR.out _).mono ?_
                rintro E w7 ⟨g7, c7, rfl, ho7, hg7⟩
                obtain ⟨x7, g4, c4, w8, hrun4, y4, z4, S8, S9, M9⟩ := HAp.out w7 g7 c7 hg7 ho7
                have x7' := fun ob => (grown_alloc w7 ob).cell x7 (by simp)
                go_wp2_with fail
                refine hK.out _ _ (hHeld.kept hg7) (fun hHeld => ?_)
                clear hK K'
                try simp only [Act.put, List.setIfInBounds_toArray, List.set_cons_zero, List.set_cons_succ]
                refine wpAnyH_ready (rs := [1, 7]) (by kernel_rfl) (by simp) ?_
                refine AllReadyH.cons (o := _) rfl (fun K' hK => ?_) ?_
                · go_simp
                  refine hK.out _ _ (by assumption) (fun hHeld => ?_)
                  clear hK K'
                  try simp only [Act.put, List.setIfInBounds_toArray, List.set_cons_zero, List.set_cons_succ]
                  refine wpAnyH_ready (rs := [7]) (by kernel_rfl) (by simp) ?_
                  refine AllReadyH.cons (o := _) rfl (fun K' hK => ?_) ?_
                  · go_simp
                    refine hK.out _ _ (hHeld.kept (grown_alloc _ _)) (fun hHeld => ?_)
                    clear hK K'
                    try simp only [Act.put, List.setIfInBounds_toArray, List.set_cons_zero, List.set_cons_succ]
                    refine wpAnyH_ready (rs := [8]) (by kernel_rfl) (by simp) ?_
                    refine AllReadyH.cons (o := _) rfl (fun K' hK => ?_) ?_
                    · go_simp
                      refine hK.out _ _ (S8.out) (fun hHeld => ?_)
                      clear hK K'
                      try simp only [Act.put, List.setIfInBounds_toArray, List.set_cons_zero, List.set_cons_succ]
                      refine wpAnyH_take (i := 9) (v := ?_) rfl (by kernel_rfl) (by kernel_rfl) (by kernel_rfl) (fun _ _ _ h => h) (Or.inl ⟨by rfl, ?_⟩) (by assumption) ?_
                      rotate_left
                      · intro W hSw
                        obtain ⟨t1, t2⟩ := hSw
                        go_simp
                        with_reducible rfl
                      try simp only [Act.put, List.setIfInBounds_toArray, List.set_cons_zero, List.set_cons_succ]
                      refine wpAnyH_ready (rs := [10]) (by kernel_rfl) (by simp) ?_
                      refine AllReadyH.cons (o := _) rfl (fun K' hK => ?_) ?_
                      · go_simp
                        refine hK.out _ _ (S9.out) (fun hHeld => ?_)
                        clear hK K'
                        try simp only [Act.put, List.setIfInBounds_toArray, List.set_cons_zero, List.set_cons_succ]
                        refine wpAnyH_done (by kernel_rfl) ?_ _
                        go_wp2_with fail
                        go_meet
                        case rel => exact M9.out
                      exact AllReadyH.nil
                    exact AllReadyH.nil
                  exact AllReadyH.nil
                refine AllReadyH.cons (o := _) rfl (fun K' hK => ?_) ?_
                · go_simp
                  refine hK.out _ _ (hHeld.kept (grown_alloc _ _)) (fun hHeld => ?_)
                  clear hK K'
                  try simp only [Act.put, List.setIfInBounds_toArray, List.set_cons_zero, List.set_cons_succ]
                  refine wpAnyH_ready (rs := [1]) (by kernel_rfl) (by simp) ?_
                  refine AllReadyH.cons (o := _) rfl (fun K' hK => ?_) ?_
                  · go_simp
                    refine hK.out _ _ (by assumption) (fun hHeld => ?_)
                    clear hK K'
                    try simp only [Act.put, List.setIfInBounds_toArray, List.set_cons_zero, List.set_cons_succ]
                    refine wpAnyH_ready (rs := [8]) (by kernel_rfl) (by simp) ?_
                    refine AllReadyH.cons (o := _) rfl (fun K' hK => ?_) ?_
                    · go_simp
                      refine hK.out _ _ (S8.out) (fun hHeld => ?_)
                      clear hK K'
                      try simp only [Act.put, List.setIfInBounds_toArray, List.set_cons_zero, List.set_cons_succ]
                      refine wpAnyH_take (i := 9) (v := ?_) rfl (by kernel_rfl) (by kernel_rfl) (by kernel_rfl) (fun _ _ _ h => h) (Or.inl ⟨by rfl, ?_⟩) (by assumption) ?_
                      rotate_left
                      · intro W hSw
                        obtain ⟨t1, t2⟩ := hSw
                        go_simp
                        with_reducible rfl
                      try simp only [Act.put, List.setIfInBounds_toArray, List.set_cons_zero, List.set_cons_succ]
                      refine wpAnyH_ready (rs := [10]) (by kernel_rfl) (by simp) ?_
                      refine AllReadyH.cons (o := _) rfl (fun K' hK => ?_) ?_
                      · go_simp
                        refine hK.out _ _ (S9.out) (fun hHeld => ?_)
                        clear hK K'
                        try simp only [Act.put, List.setIfInBounds_toArray, List.set_cons_zero, List.set_cons_succ]
                        refine wpAnyH_done (by kernel_rfl) ?_ _
                        go_wp2_with fail
                        go_meet
                        case rel => exact M9.out
                      exact AllReadyH.nil
                    exact AllReadyH.nil
                  exact AllReadyH.nil
                exact AllReadyH.nil
              exact AllReadyH.nil
            case rest =>
              clear HAp CR x2 S0 GM2 RB2
              obtain ⟨u3, v, hM3, hRB3⟩ := hcut
              obtain ⟨rs3, hrs3⟩ : ∃ rs3, rs3 = rs ++ [(v, riL lf rg)] := ⟨_, rfl⟩
              have hRow : rs3.map (·.2) = lstW (rowW x N i) (N + i + 1) := by
                rw [hrs3, List.map_append, HRs.out, ← lstW_snoc, rowW_new, HLf.out, HRg.out]; rfl
              rw [← hrs3] at hM3
              obtain ⟨gm, cg, av, cv, eu3, hAll⟩ := hM3.rule hRow (by omega) HTq.out.symm f1 (by omega)
              subst eu3
              obtain ⟨nt, hnt⟩ : ∃ nt, (rowW x N i tq).length = nt := ⟨_, rfl⟩
              rw [hnt] at hAll
              have S3 : Hid (S15 (k0 + 1 + 1) br k0 tq (.int .i64 x.L) (.int .i64 (N : Int)) (.slice (some ⟨bb, off, none⟩) nR d) (.int .i64 x.S) (.slice (some ⟨bm, om, none⟩) N f) (.slice (some ⟨gm, 0, none⟩) (N + i + 1) cg) wc) := by
                obtain ⟨a0, a1, a2, a3, a4⟩ := BX.out wc hM3.gr
                exact ⟨hM3.cells.2.2, by rw [cell_of_row _ _ 3 _ _ (0, 0) hRB3]; rfl, a0, a1, a2, a3, a4⟩
              have HAp5 : Hid (∀ w9, wc.drew.grownBy w9 none → w9.cell? ⟨gm, tq, none⟩ = some (.slice av nt cv) ∧ ∃ g5 c5 w5, (AppS #[23, 23] 23 #[.slice av nt cv, .slice (some ⟨w9.heap.size, 0, none⟩) 1 1]).run Try.prog (w9.alloc (.cells #[.int .i64 ((N + i : Nat) : Int)] 3)) = .ok (.slice (some ⟨g5, 0, none⟩) (nt + 1) c5) w5 ∧ w5.cell? ⟨gm, tq, none⟩ = some (.slice av nt cv) ∧ w5.frozen? ⟨gm, tq, none⟩ = false ∧
                  Hid (S15 (k0 + 1 + 1) br k0 tq (.int .i64 x.L) (.int .i64 (N : Int)) (.slice (some ⟨bb, off, none⟩) nR d) (.int .i64 x.S) (.slice (some ⟨bm, om, none⟩) N f) (.slice (some ⟨gm, 0, none⟩) (N + i + 1) cg) w5) ∧
                  Hid (S15 (k0 + 1 + 1) br k0 tq (.int .i64 x.L) (.int .i64 (N : Int)) (.slice (some ⟨bb, off, none⟩) nR d) (.int .i64 x.S) (.slice (some ⟨bm, om, none⟩) N f) (.slice (some ⟨gm, 0, none⟩) (N + i + 1) cg) (w5.setCell ⟨gm, tq, none⟩ (.slice (some ⟨g5, 0, none⟩) (nt + 1) c5))) ∧
                  Hid (∃ rs5, GmB Wb (k0 + 1) (k0 + 1 + 1) (k0 + 1) (.slice (some ⟨g1, 0, none⟩) (N + i + 1) c1) (.slice (some ⟨g2, 0, none⟩) (N + i + 1) c2) (.slice (some ⟨gm, 0, none⟩) (N + i + 1) cg) (lstW (gwOw N) (N + i + 1)) (lstW (mk0W x N) (N + i + 1)) rs5 (w5.setCell ⟨gm, tq, none⟩ (.slice (some ⟨g5, 0, none⟩) (nt + 1) c5)) ∧ rs5.map (·.2) = lstW (rowW x N (i + 1)) (N + i + 1))) := fun w9 hg9 => by
                have hg9' : wc.grownBy w9 none := grown_trans (grown_drew (grown_refl _ _)) hg9
                obtain ⟨p0, g5, c5, w5, p3, p4, p5, p6, p7, p8, p9, p10⟩ := hAll w9 hg9'
                have rb9 := KpRu.of hg9' _ _ hRB3
                obtain ⟨rs5, h5, h5'⟩ := p7
                obtain ⟨b0, b1, b2, b3, b4⟩ := BX.out w5 p10
                obtain ⟨d0, d1, d2, d3, d4⟩ := BX.out _ h5.gr
                exact ⟨p0, g5, c5, w5, p3, p4, p5, ⟨p6, by rw [cell_of_row _ _ 3 _ _ (0, 0) (p8 _ _ rb9)]; rfl, b0, b1, b2, b3, b4⟩, ⟨h5.cells.2.2, by rw [cell_of_row _ _ 3 _ _ (0, 0) (p9 _ _ rb9)]; rfl, d0, d1, d2, d3, d4⟩, rs5, h5, h5'⟩
              have row0 := (hAll wc (grown_refl _ _)).1
              have CP : Hid (∀ W, Calls Try.prog 22 #[trsV x.L (N : Int) (some ⟨bb, off, none⟩) nR d x.S (some ⟨bm, om, none⟩) N f, .int .i64 (i : Int)] W (Says (.int .i64 ((N + i : Nat) : Int)) W)) := fun W => rulesPlace_any x.L x.S N nR d N f i _ _ W (by omega) (by omega)
              have htn : (tq : Int) < ((N + i + 1 : Nat) : Int) := by omega
              clear hM3 hRB3 hrs3 hRow hAll hnt
              obtain ⟨n1, hn1'⟩ : ∃ n1, N + i + 1 = n1 := ⟨_, rfl⟩
              rw [hn1'] at htn
              simp only [hn1'] at HAp5 S3
              obtain ⟨ni, hni⟩ : ∃ ni, N + i = ni := ⟨_, rfl⟩
              have HNi : Hid (N + i + 1 = n1) := hn1'
              rw [hni] at CP HAp5
              clear hn1' hni
              go_wp2_with fail
              refine wp_region_held_drew (S := S15 (k0 + 1 + 1) br k0 tq (.int .i64 x.L) (.int .i64 (N : Int)) (.slice (some ⟨bb, off, none⟩) nR d) (.int .i64 x.S) (.slice (some ⟨bm, om, none⟩) N f) (.slice (some ⟨gm, 0, none⟩) n1 cg)) (by kernel_rfl) (S3.out.kept (grown_drew (grown_refl _ _))) (fun hHeld => ?_)
              refine wpAnyH_take (i := 0) (v := ?_) rfl (by kernel_rfl) (by kernel_rfl) (by kernel_rfl) (fun _ _ _ h => h) (Or.inl ⟨by rfl, ?_⟩) (by assumption) ?_
              rotate_left
              · intro W hSw
                obtain ⟨t2, t3, t4, t5, t6, t7, t8⟩ := hSw
                go_simp
                with_reducible rfl
              try simp only [Act.put, List.setIfInBounds_toArray, List.set_cons_zero, List.set_cons_succ]
              refine wpAnyH_take (i := 1) (v := ?_) rfl (by kernel_rfl) (by kernel_rfl) (by kernel_rfl) (fun _ _ _ h => h) (Or.inl ⟨by rfl, ?_⟩) (by assumption) ?_
              rotate_left
              · intro W hSw
                obtain ⟨t2, t3, t4, t5, t6, t7, t8⟩ := hSw
                go_simp
                with_reducible rfl
              try simp only [Act.put, List.setIfInBounds_toArray, List.set_cons_zero, List.set_cons_succ]
              refine wpAnyH_take (i := 2) (v := ?_) rfl (by kernel_rfl) (by kernel_rfl) (by kernel_rfl) (fun _ _ _ h => h) (Or.inl ⟨by rfl, ?_⟩) (by assumption) ?_
              rotate_left
              · intro W hSw
                obtain ⟨t2, t3, t4, t5, t6, t7, t8⟩ := hSw
                go_simp
                with_reducible rfl
              try simp only [Act.put, List.setIfInBounds_toArray, List.set_cons_zero, List.set_cons_succ]
              refine wpAnyH_take (i := 3) (v := ?_) rfl (by kernel_rfl) (by kernel_rfl) (by kernel_rfl) (fun _ _ _ h => h) (Or.inl ⟨by rfl, ?_⟩) (by assumption) ?_
              rotate_left
              · intro W hSw
                obtain ⟨t2, t3, t4, t5, t6, t7, t8⟩ := hSw
                go_simp
                with_reducible rfl
              try simp only [Act.put, List.setIfInBounds_toArray, List.set_cons_zero, List.set_cons_succ]
              refine wpAnyH_take (i := 4) (v := ?_) rfl (by kernel_rfl) (by kernel_rfl) (by kernel_rfl) (fun _ _ _ h => h) (Or.inl ⟨by rfl, ?_⟩) (by assumption) ?_
              rotate_left
              · intro W hSw
                obtain ⟨t2, t3, t4, t5, t6, t7, t8⟩ := hSw
                go_simp
                with_reducible rfl
              try simp only [Act.put, List.setIfInBounds_toArray, List.set_cons_zero, List.set_cons_succ]
              refine wpAnyH_take (i := 5) (v := ?_) rfl (by kernel_rfl) (by kernel_rfl) (by kernel_rfl) (fun _ _ _ h => h) (Or.inl ⟨by rfl, ?_⟩) (by assumption) ?_
              rotate_left
              · intro W hSw
                obtain ⟨t2, t3, t4, t5, t6, t7, t8⟩ := hSw
                go_simp
                with_reducible rfl
              try simp only [Act.put, List.setIfInBounds_toArray, List.set_cons_zero, List.set_cons_succ]
              refine wpAnyH_take (i := 6) (v := ?_) rfl (by kernel_rfl) (by kernel_rfl) (by kernel_rfl) (fun _ _ _ h => h) (Or.inl ⟨by rfl, ?_⟩) (by assumption) ?_
              rotate_left
              · intro W hSw
                obtain ⟨t2, t3, t4, t5, t6, t7, t8⟩ := hSw
                go_simp
                with_reducible rfl
              try simp only [Act.put, List.setIfInBounds_toArray, List.set_cons_zero, List.set_cons_succ]
              refine wpAnyH_take (i := 7) (v := ?_) rfl (by kernel_rfl) (by kernel_rfl) (by kernel_rfl) (fun _ _ _ h => h) (Or.inl ⟨by rfl, ?_⟩) (by assumption) ?_
              rotate_left
              · intro W hSw
                obtain ⟨t2, t3, t4, t5, t6, t7, t8⟩ := hSw
                go_simp
                with_reducible rfl
              try simp only [Act.put, List.setIfInBounds_toArray, List.set_cons_zero, List.set_cons_succ]
              refine wpAnyH_take (i := 8) (v := ?_) rfl (by kernel_rfl) (by kernel_rfl) (by kernel_rfl) (fun _ _ _ h => h) (Or.inl ⟨by rfl, ?_⟩) (by assumption) ?_
              rotate_left
              · intro W hSw
                obtain ⟨t2, t3, t4, t5, t6, t7, t8⟩ := hSw
                go_simp
                with_reducible rfl
              try simp only [Act.put, List.setIfInBounds_toArray, List.set_cons_zero, List.set_cons_succ]
              refine wpAnyH_take (i := 10) (v := ?_) rfl (by kernel_rfl) (by kernel_rfl) (by kernel_rfl) (fun _ _ _ h => h) (Or.inl ⟨by rfl, ?_⟩) (by assumption) ?_
              rotate_left
              · intro W hSw
                obtain ⟨t2, t3, t4, t5, t6, t7, t8⟩ := hSw
                go_simp
                with_reducible rfl
              try simp only [Act.put, List.setIfInBounds_toArray, List.set_cons_zero, List.set_cons_succ]
              refine wpAnyH_take (i := 11) (v := ?_) rfl (by kernel_rfl) (by kernel_rfl) (by kernel_rfl) (fun _ _ _ h => h) (Or.inl ⟨by rfl, ?_⟩) (by assumption) ?_
              rotate_left
              · intro W hSw
                obtain ⟨t2, t3, t4, t5, t6, t7, t8⟩ := hSw
                go_simp
                with_reducible rfl
              try simp only [Act.put, List.setIfInBounds_toArray, List.set_cons_zero, List.set_cons_succ]
              refine wpAnyH_ready (rs := [9, 12]) (by kernel_rfl) (by simp) ?_
              refine AllReadyH.cons (o := _) rfl (fun K' hK => ?_) ?_
              · go_simp
                refine hK.out _ _ (by assumption) (fun hHeld => ?_)
                clear hK K'
                try simp only [Act.put, List.setIfInBounds_toArray, List.set_cons_zero, List.set_cons_succ]
                refine wpAnyH_ready (rs := [12]) (by kernel_rfl) (by simp) ?_
                refine AllReadyH.cons (o := _) rfl (fun K' hK => ?_) ?_
                · go_simp
                  refine (CP.out _).mono ?_
                  rintro E w9 ⟨rfl, hg9⟩
                  obtain ⟨row9, g5, c5, w5, hrun5, y5, z5, S5, S6, M5⟩ := HAp5.out w9 hg9
                  have row9' := fun ob => (grown_alloc w9 ob).cell row9 (by simp)
                  go_wp2_with fail
                  refine hK.out _ _ (hHeld.kept hg9) (fun hHeld => ?_)
                  clear hK K'
                  try simp only [Act.put, List.setIfInBounds_toArray, List.set_cons_zero, List.set_cons_succ]
                  refine wpAnyH_ready (rs := [13]) (by kernel_rfl) (by simp) ?_
                  refine AllReadyH.cons (o := _) rfl (fun K' hK => ?_) ?_
                  · go_simp
                    refine hK.out _ _ (hHeld.kept (grown_alloc _ _)) (fun hHeld => ?_)
                    clear hK K'
                    try simp only [Act.put, List.setIfInBounds_toArray, List.set_cons_zero, List.set_cons_succ]
                    refine wpAnyH_ready (rs := [14]) (by kernel_rfl) (by simp) ?_
                    refine AllReadyH.cons (o := _) rfl (fun K' hK => ?_) ?_
                    · go_simp
                      refine hK.out _ _ (S5.out) (fun hHeld => ?_)
                      clear hK K'
                      try simp only [Act.put, List.setIfInBounds_toArray, List.set_cons_zero, List.set_cons_succ]
                      refine wpAnyH_take (i := 15) (v := ?_) rfl (by kernel_rfl) (by kernel_rfl) (by kernel_rfl) (fun _ _ _ h => h) (Or.inl ⟨by rfl, ?_⟩) (by assumption) ?_
                      rotate_left
                      · intro W hSw
                        obtain ⟨t2, t3, t4, t5, t6, t7, t8⟩ := hSw
                        go_simp
                        with_reducible rfl
                      try simp only [Act.put, List.setIfInBounds_toArray, List.set_cons_zero, List.set_cons_succ]
                      refine wpAnyH_ready (rs := [16]) (by kernel_rfl) (by simp) ?_
                      refine AllReadyH.cons (o := _) rfl (fun K' hK => ?_) ?_
                      · go_simp
                        refine hK.out _ _ (S6.out) (fun hHeld => ?_)
                        clear hK K'
                        try simp only [Act.put, List.setIfInBounds_toArray, List.set_cons_zero, List.set_cons_succ]
                        refine wpAnyH_done (by kernel_rfl) ?_ _
                        go_wp2_with fail
                        go_roundw
                        case rel =>
                          have h5 := M5.out
                          rw [← HNi.out] at h5
                          obtain ⟨rs5, h1, h2⟩ := h5
                          exact ⟨i + 1, _, _, _, rs5, by go_num, by omega, h1, h2⟩
                        case measure => simp [intOf]; omega
                      exact AllReadyH.nil
                    exact AllReadyH.nil
                  exact AllReadyH.nil
                exact AllReadyH.nil
              refine AllReadyH.cons (o := _) rfl (fun K' hK => ?_) ?_
              · go_simp
                refine (CP.out _).mono ?_
                rintro E w9 ⟨rfl, hg9⟩
                obtain ⟨row9, g5, c5, w5, hrun5, y5, z5, S5, S6, M5⟩ := HAp5.out w9 hg9
                have row9' := fun ob => (grown_alloc w9 ob).cell row9 (by simp)
                go_wp2_with fail
                refine hK.out _ _ (hHeld.kept hg9) (fun hHeld => ?_)
                clear hK K'
                try simp only [Act.put, List.setIfInBounds_toArray, List.set_cons_zero, List.set_cons_succ]
                refine wpAnyH_ready (rs := [9, 13]) (by kernel_rfl) (by simp) ?_
                refine AllReadyH.cons (o := _) rfl (fun K' hK => ?_) ?_
                · go_simp
                  refine hK.out _ _ (by assumption) (fun hHeld => ?_)
                  clear hK K'
                  try simp only [Act.put, List.setIfInBounds_toArray, List.set_cons_zero, List.set_cons_succ]
                  refine wpAnyH_ready (rs := [13]) (by kernel_rfl) (by simp) ?_
                  refine AllReadyH.cons (o := _) rfl (fun K' hK => ?_) ?_
                  · go_simp
                    refine hK.out _ _ (hHeld.kept (grown_alloc _ _)) (fun hHeld => ?_)
                    clear hK K'
                    try simp only [Act.put, List.setIfInBounds_toArray, List.set_cons_zero, List.set_cons_succ]
                    refine wpAnyH_ready (rs := [14]) (by kernel_rfl) (by simp) ?_
                    refine AllReadyH.cons (o := _) rfl (fun K' hK => ?_) ?_
                    · go_simp
                      refine hK.out _ _ (S5.out) (fun hHeld => ?_)
                      clear hK K'
                      try simp only [Act.put, List.setIfInBounds_toArray, List.set_cons_zero, List.set_cons_succ]
                      refine wpAnyH_take (i := 15) (v := ?_) rfl (by kernel_rfl) (by kernel_rfl) (by kernel_rfl) (fun _ _ _ h => h) (Or.inl ⟨by rfl, ?_⟩) (by assumption) ?_
                      rotate_left
                      · intro W hSw
                        obtain ⟨t2, t3, t4, t5, t6, t7, t8⟩ := hSw
                        go_simp
                        with_reducible rfl
                      try simp only [Act.put, List.setIfInBounds_toArray, List.set_cons_zero, List.set_cons_succ]
                      refine wpAnyH_ready (rs := [16]) (by kernel_rfl) (by simp) ?_
                      refine AllReadyH.cons (o := _) rfl (fun K' hK => ?_) ?_
                      · go_simp
                        refine hK.out _ _ (S6.out) (fun hHeld => ?_)
                        clear hK K'
                        try simp only [Act.put, List.setIfInBounds_toArray, List.set_cons_zero, List.set_cons_succ]
                        refine wpAnyH_done (by kernel_rfl) ?_ _
                        go_wp2_with fail
                        go_roundw
                        case rel =>
                          have h5 := M5.out
                          rw [← HNi.out] at h5
                          obtain ⟨rs5, h1, h2⟩ := h5
                          exact ⟨i + 1, _, _, _, rs5, by go_num, by omega, h1, h2⟩
                        case measure => simp [intOf]; omega
                      exact AllReadyH.nil
                    exact AllReadyH.nil
                  exact AllReadyH.nil
                refine AllReadyH.cons (o := _) rfl (fun K' hK => ?_) ?_
                · go_simp
                  refine hK.out _ _ (hHeld.kept (grown_alloc _ _)) (fun hHeld => ?_)
                  clear hK K'
                  try simp only [Act.put, List.setIfInBounds_toArray, List.set_cons_zero, List.set_cons_succ]
                  refine wpAnyH_ready (rs := [9]) (by kernel_rfl) (by simp) ?_
                  refine AllReadyH.cons (o := _) rfl (fun K' hK => ?_) ?_
                  · go_simp
                    refine hK.out _ _ (by assumption) (fun hHeld => ?_)
                    clear hK K'
                    try simp only [Act.put, List.setIfInBounds_toArray, List.set_cons_zero, List.set_cons_succ]
                    refine wpAnyH_ready (rs := [14]) (by kernel_rfl) (by simp) ?_
                    refine AllReadyH.cons (o := _) rfl (fun K' hK => ?_) ?_
                    · go_simp
                      refine hK.out _ _ (S5.out) (fun hHeld => ?_)
                      clear hK K'
                      try simp only [Act.put, List.setIfInBounds_toArray, List.set_cons_zero, List.set_cons_succ]
                      refine wpAnyH_take (i := 15) (v := ?_) rfl (by kernel_rfl) (by kernel_rfl) (by kernel_rfl) (fun _ _ _ h => h) (Or.inl ⟨by rfl, ?_⟩) (by assumption) ?_
                      rotate_left
                      · intro W hSw
                        obtain ⟨t2, t3, t4, t5, t6, t7, t8⟩ := hSw
                        go_simp
                        with_reducible rfl
                      try simp only [Act.put, List.setIfInBounds_toArray, List.set_cons_zero, List.set_cons_succ]
                      refine wpAnyH_ready (rs := [16]) (by kernel_rfl) (by simp) ?_
                      refine AllReadyH.cons (o := _) rfl (fun K' hK => ?_) ?_
                      · go_simp
                        refine hK.out _ _ (S6.out) (fun hHeld => ?_)
                        clear hK K'
                        try simp only [Act.put, List.setIfInBounds_toArray, List.set_cons_zero, List.set_cons_succ]
                        refine wpAnyH_done (by kernel_rfl) ?_ _
                        go_wp2_with fail
                        go_roundw
                        case rel =>
                          have h5 := M5.out
                          rw [← HNi.out] at h5
                          obtain ⟨rs5, h1, h2⟩ := h5
                          exact ⟨i + 1, _, _, _, rs5, by go_num, by omega, h1, h2⟩
                        case measure => simp [intOf]; omega
                      exact AllReadyH.nil
                    exact AllReadyH.nil
                  exact AllReadyH.nil
                exact AllReadyH.nil
              exact AllReadyH.nil
        · have hii : ¬ (i : Int) < (nR : Int) := by omega
          have hin : i = nR := by omega
          obtain ⟨n, hn⟩ : ∃ n, N + nR = n := ⟨_, rfl⟩
          have HN : Hid (N + nR = n) := hn
          have GM0 : Hid (GmB Wb (k0 + 1) (k0 + 1 + 1) (k0 + 1) u0 u1 u2 (lstW (gwOw N) n) (lstW (mk3W x N 0) n) rs wr) := by
            have := GM.out
            rw [hin, hn] at this
            rwa [lstW_congr (fun p _ => mk3_zero p)]
          have HRs0 : Hid (rs.map (·.2) = lstW (row3W x N 0) n) := by
            show _ = _
            rw [HRs.out, hin, hn, lstW_congr (fun p _ => row3_zero (x := x) (N := N) p), HnR.out]
          obtain ⟨x0, x1, x2, x3, x4⟩ := BX.out wr GM.out.gr
          have hNn : N ≤ n := by omega
          have hn66 : n ≤ 66 := by omega
          clear hin GM HRs hiR hn
          go_wp2_with fail
          clear x0 x1 x2 x3 x4
          go_loopw [87] (fun v wr => ∃ (s : Nat) (u0 u1 u2 : Value) (rs : List (Value × List Nat)), v = .int .i64 s ∧ s ≤ N ∧ GmB Wb (k0 + 1) (k0 + 1 + 1) (k0 + 1) u0 u1 u2 (lstW (gwOw N) n) (lstW (mk3W x N s) n) rs wr ∧ rs.map (·.2) = lstW (row3W x N s) n) (fun v _ => N - (intOf v).toNat)
          case atStart => exact ⟨0, _, _, _, rs, rfl, by omega, GM0.out, HRs0.out⟩
          case round =>
            clear GM0 HRs0
            obtain ⟨s, u0, u1, u2, rs, rfl, hs, hgm, hrs⟩ := hrel
            have GM : Hid (GmB Wb (k0 + 1) (k0 + 1 + 1) (k0 + 1) u0 u1 u2 (lstW (gwOw N) n) (lstW (mk3W x N s) n) rs wr) := hgm
            have HRs : Hid (rs.map (·.2) = lstW (row3W x N s) n) := hrs
            have hrl : rs.length = n := by have := congrArg List.length hrs; simpa [lstW] using this
            clear hgm hrs
            by_cases hsN : s < N
            · have hsi : (s : Int) < (N : Int) := by omega
              have hsn : (s : Int) < (n : Int) := by omega
              obtain ⟨gm, cg, av, cv, eu, row0⟩ := GM.out.rowAt (t := s) (by omega)
              rw [hrl] at eu
              subst eu
              have hget : (rs.getD s (.slice none 0 0, [])).2 = row3W x N s s := by
                have h1 := congrArg (fun z => z[s]?) HRs.out
                simp only [List.getElem?_map] at h1
                have h2 : rs[s]? = some rs[s] := List.getElem?_eq_getElem (by omega)
                simp only [List.getD]
                rw [h2] at h1 ⊢
                simp only [lstW, List.getElem?_map, List.getElem?_range (show s < n by omega), Option.map_some, Option.some.injEq] at h1
                simpa using h1
              rw [hget, row3_now hsN] at row0
              obtain ⟨b0, b1, b2⟩ := GM.out.cells
              rw [List.length_map] at row0
              by_cases hr0 : rlW x x.R.length s = []
              · have e0 : (rlW x x.R.length s).length = 0 := by rw [hr0]; rfl
                rw [e0] at row0
                obtain ⟨e1, e2, e3⟩ := row3_put (N := N) hr0
                have CL : Hid _ := lose_any Wb (k0 + 1) (k0 + 1 + 1) (k0 + 1) u0 u1 (.slice (some ⟨gm, 0, none⟩) n cg) _ _ rs s wr GM.out (by rw [lstW_len]; omega) (by omega) (by omega) (by rw [lstW_len]; omega) (by rw [lstW_len]; omega)
                have HE : Hid (∀ (v : Value) (W : World), GmB Wb (k0 + 1) (k0 + 1 + 1) (k0 + 1) u0 u1 (.slice (some ⟨gm, 0, none⟩) n cg) (lstW (gwOw N) n) ((lstW (mk3W x N s) n).set s 1) (rs.set s (v, [s])) W → GmB Wb (k0 + 1) (k0 + 1 + 1) (k0 + 1) u0 u1 (.slice (some ⟨gm, 0, none⟩) n cg) (lstW (gwOw N) n) (lstW (mk3W x N (s + 1)) n) (rs.set s (v, [s])) W ∧ (rs.set s (v, [s])).map (·.2) = lstW (row3W x N (s + 1)) n) := fun v W hW => by
                  rw [lstW_set (by omega) e2 (fun p hp hne => (e3 p hne).2)] at hW
                  refine ⟨hW, ?_⟩
                  rw [List.map_set, HRs.out]
                  exact lstW_set (by omega) e1 (fun p hp hne => (e3 p hne).1)
                clear e0 e1 e2 e3 hr0 hget hrl
                go_wp2_with fail
                refine Calls.mono CL.out ?_
                rintro E w2 ⟨rfl, v, hM2⟩
                obtain ⟨h1, h2⟩ := HE.out v w2 hM2
                have GM2 : Hid _ := h1
                have HR2 : Hid _ := h2
                clear hM2 h1 h2 HE CL
                go_wp2_with fail
                go_roundw
                case rel => exact ⟨s + 1, _, _, _, _, by go_num, by omega, GM2.out, HR2.out⟩
                case measure => simp [intOf]; omega
              · have e0 : (rlW x x.R.length s).length ≠ 0 := fun e => hr0 (List.length_eq_zero_iff.1 e)
                obtain ⟨nl, hnl⟩ : ∃ nl, (rlW x x.R.length s).length = nl := ⟨_, rfl⟩
                rw [hnl] at row0 e0
                have d0 : ((nl : Int) == 0) = false := by simp; omega
                have GM2 : Hid (GmB Wb (k0 + 1) (k0 + 1 + 1) (k0 + 1) u0 u1 (.slice (some ⟨gm, 0, none⟩) n cg) (lstW (gwOw N) n) (lstW (mk3W x N (s + 1)) n) rs wr) := by
                  have := GM.out
                  rwa [lstW_congr (fun p _ => ((row3_skip (N := N) (p := p) hr0).2).symm)] at this
                have HR2 : Hid (rs.map (·.2) = lstW (row3W x N (s + 1)) n) := by
                  show _ = _
                  rw [HRs.out, lstW_congr (fun p _ => ((row3_skip (N := N) (p := p) hr0).1).symm)]
                clear hr0 hget hrl hnl e0
                go_wp2_with fail
                go_roundw
                case rel => exact ⟨s + 1, _, _, _, _, by go_num, by omega, GM2.out, HR2.out⟩
                case measure => simp [intOf]; omega
            · have hsi : ¬ (s : Int) < (N : Int) := by omega
              have hsN' : s = N := by omega
              have hG := gw_good HG.out HNx.out
              have h1 := GM.out
              have h2 := HRs.out
              rw [hsN'] at h1 h2
              rw [lstW_congr (fun p hp => (row3_end (x := x) (N := N) (p := p) (by rw [HnR.out, HN.out]; exact hp)).2)] at h1
              rw [lstW_congr (fun p hp => (row3_end (x := x) (N := N) (p := p) (by rw [HnR.out, HN.out]; exact hp)).1)] at h2
              obtain ⟨Bx, hAt, e0, e1, e2⟩ := gmB_at (by rw [HnR.out]; exact HN.out) (by omega) h1 h2
              have CS : Hid (Calls Try.prog 24 #[.agg #[u0, u1, u2]] wr (SolvedPost (gwG x N) wr)) := by
                have := solved_any (gwG x N) Bx wr hG hAt
                have en : (gwG x N).n = n := by show N + x.R.length = n; rw [HnR.out]; exact HN.out
                rw [en] at this
                rw [e0, e1, e2]; exact this
              have Won : Hid (∀ W, wr.grownBy W none → RowB W (k0 + 1) 40 2 2 (fun _ => .slice none 0 0) ∧ Wb.grownBy W none) := fun W hW => by
                have o1 : Owns (k0 + 1) wr [wnI (k0 + 1)] := owns_sub GM.out.own (List.singleton_sublist.2 (by simp))
                have o2 : RowB wr (k0 + 1) 40 2 2 (fun _ => .slice none 0 0) := RowB.of_owns (B := k0 + 1) (r := []) (by simpa [List.range_succ] using o1)
                exact ⟨o2.kept hW, grown_trans GM.out.gr hW⟩
              obtain ⟨b0, b1, b2⟩ := GM.out.cells
              clear h1 h2 hAt e0 e1 e2 hG hsN' GM HRs hrl hsN
              go_wp2_with fail
              refine CS.out.mono ?_
              rintro E w7 ⟨bw, bn, Wf, Mf, rfl, hiw, him, hsol, hg7⟩
              obtain ⟨W7, G7⟩ := Won.out w7 hg7
              have en : (gwG x N).n = n := by show N + x.R.length = n; rw [HnR.out]; exact HN.out
              rw [en] at hiw him ⊢
              have ne1 : k0 + 1 ≠ bw := fun e => by
                obtain ⟨c1, h1, _⟩ := W7
                obtain ⟨c2, h2, _⟩ := hiw
                rw [e, h2] at h1
                cases h1
              have ne2 : k0 + 1 ≠ bn := fun e => by
                obtain ⟨c1, h1, _⟩ := W7
                obtain ⟨c2, h2, _⟩ := him
                rw [e, h2] at h1
                cases h1
              have z0 := W7.cell (i := 0) (by omega)
              have z1 := W7.cell (i := 1) (by omega)
              have zf := W7.frozen
              obtain ⟨W9, hW9⟩ : ∃ W9, W9 = (w7.setCell ⟨k0 + 1, 0, none⟩ (.slice (some ⟨bw, 0, none⟩) n n)).setCell ⟨k0 + 1, 1, none⟩ (.slice (some ⟨bn, 0, none⟩) n n) := ⟨_, rfl⟩
              have r9 := (W7.set (i := 0) (by omega) (.slice (some ⟨bw, 0, none⟩) n n)).set (i := 1) (by omega) (.slice (some ⟨bn, 0, none⟩) n n)
              rw [← hW9] at r9
              have q0 := r9.cell (i := 0) (by omega)
              have q1 := r9.cell (i := 1) (by omega)
              simp at q0 q1
              have Fin : Hid (DescPost x N w (.returned (.agg #[.slice (some ⟨bw, 0, none⟩) n n, .slice (some ⟨bn, 0, none⟩) n n])) W9) := by
                have en2 : N + x.R.length = n := by rw [HnR.out]; exact HN.out
                refine ⟨bw, bn, Wf, Mf, by rw [en2], ?_, ?_, hsol, ?_⟩
                · rw [en2, hW9]; exact (hiw.other (Ne.symm ne1) _).other (Ne.symm ne1) _
                · rw [en2, hW9]; exact (him.other (Ne.symm ne2) _).other (Ne.symm ne2) _
                · rw [hW9]
                  exact grown_new (grown_new (grown_trans GB.out G7) (grown_set _ _ _) (by rw [hk0]; show k0 ≤ k0 + 1; omega)) (grown_set _ _ _) (by rw [hk0]; show k0 ≤ k0 + 1; omega)
              clear hiw him hsol hg7 r9 CS Won W7 G7 ne1 ne2 en
              go_wp2_with fail
              rw [← hW9]
              exact bodyPost_ret (v := .agg #[.slice (some ⟨bw, 0, none⟩) n n, .slice (some ⟨bn, 0, none⟩) n n]) (by simp [results, Try.results12, go_sem, q0, q1]) rfl (by rw [HPo.out]; exact Fin.out)

end Go.Proofs.Ytnlkdihfoekjmaa
