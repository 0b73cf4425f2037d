/- buchi.newSearch: the search is made. -/
import Derived.Test.YtfjpdeoldcfhdaaUNewD
import Derived.Test.YtfjpdeoldcfhdaaULasV
import Derived.Deep.RegionHeld3
namespace Go.Proofs.Ytfjpdeoldcfhdaa
open Go.RowKit
set_option linter.unusedVariables false
attribute [local go_sem ↓] app_fold

/-- What newSearch answers. -/
def NewPost (x : Aut) (l n : Nat) (hd lp : List Nat) (w : World) (E : Ending) (w' : World) : Prop :=
  ∃ (ps gt : Nat) (aw : Option Addr) (cw : Nat) (as_ : Option Addr) (cs gf gs gm : Nat), E = .returned (.pointer (some ⟨ps, 0, none⟩)) ∧ SeAt w.heap.size w' ps n l (hd ++ lp) hd.length gt x.T aw cw as_ cs x.S gf gs gm ((hd ++ lp).length * n) (setOf x.F) 0 0 ∧ w.grownBy w' none
/-- What stays while the search's box is made. -/
abbrev KeepN (P W : World) (b : Nat) (L N : Int) (vS vT vF vh vl : Value) : Prop :=
  P.grownBy W none ∧ W.cell? ⟨b, 0, none⟩ = some (.int .i64 L) ∧ W.cell? ⟨b, 1, none⟩ = some (.int .i64 N) ∧ W.cell? ⟨b, 2, none⟩ = some vS ∧ W.cell? ⟨b, 3, none⟩ = some vT ∧ W.cell? ⟨b, 4, none⟩ = some vF ∧ W.cell? ⟨b + 1, 0, none⟩ = some vh ∧ W.cell? ⟨b + 1, 1, none⟩ = some vl
section
variable {P W W' : World} {b : Nat} {L N : Int} {vS vT vF vh vl : Value}
theorem KeepN.call (h : KeepN P W b L N vS vT vF vh vl) (hg : W.grownBy W' none) : KeepN P W' b L N vS vT vF vh vl := by
  obtain ⟨h0, h1, h2, h3, h4, h5, h6, h7⟩ := h
  exact ⟨grown_trans h0 hg, hg.cell h1 (by simp), hg.cell h2 (by simp), hg.cell h3 (by simp), hg.cell h4 (by simp), hg.cell h5 (by simp), hg.cell h6 (by simp), hg.cell h7 (by simp)⟩
theorem KeepN.drew (h : KeepN P W b L N vS vT vF vh vl) : KeepN P W.drew b L N vS vT vF vh vl := h.call (grown_drew (grown_refl _ _))
theorem KeepN.alloc (h : KeepN P W b L N vS vT vF vh vl) (o : Obj) : KeepN P (W.alloc o) b L N vS vT vF vh vl := h.call (grown_alloc _ _)
theorem KeepN.gr {w : World} (h : KeepN P W b L N vS vT vF vh vl) (hw : w.grownBy P none) : w.grownBy W none := grown_trans hw h.1
end

theorem getT_ltN {T : List StepI} {j : Nat} (h : j < T.length) : T.getD j (0, 0, 0) = T[j] := by simp [List.getD, h]
set_option maxHeartbeats 12800000 in
set_option maxRecDepth 100000 in
theorem newSearch_any (x : Aut) (l nS : Nat) (hL : x.L = l) (hN : x.N = nS) (hG : GoodA x) (a b e ah al : Option Addr) (c d f ch cl : Nat) (hd lp : List Nat) (w : World) (h : AutAt w x a b e) (hh : Ints w ah (natInts hd)) (hp : Ints w al (natInts lp)) (hhl : hd.length ≤ 100) (hpl : lp.length ≤ 100) :
    Calls Try.prog 41 #[autV l nS a x.S.length c b x.T.length d e x.F.length f, lasV ah hd.length ch al lp.length cl] w (NewPost x l nS hd lp w) := by
  have hn3 : nS ≤ 300 := by have := hG.n3; omega
  have hl4 : l ≤ 4 := by have := hG.l4; omega
  have hmt := hG.t4
  have HT : Hid (InT x.T l nS) := hL ▸ hN ▸ hG.t
  have HStp : Hid (∀ W, w.grownBy W none → StepsAt W b x.T) := fun W hW => h.steps.grown hW
  have HSta : Hid (∀ W, w.grownBy W none → Ints W a x.S) := fun W hW => h.start.grown hW
  have HFn : Hid (∀ W, w.grownBy W none → Calls Try.prog 65 #[autV l nS a x.S.length c b x.T.length d e x.F.length f] W (FinPost nS (setOf x.F) W)) := fun W hW => finals_any x l nS hN hG a b e c d f W (h.grown hW)
  have HHd : Hid (Ints w ah (natInts hd)) := hh
  have HLp : Hid (Ints w al (natInts lp)) := hp
  clear h hh hp hG hL hN
  obtain ⟨L, N, S, T, F⟩ := x
  simp only at *
  obtain ⟨sF, hsF⟩ : ∃ sF, setOf F = sF := ⟨_, rfl⟩
  have HSF : Hid (setOf F = sF) := hsF
  rw [hsF] at HFn
  clear hsF
  obtain ⟨mS, hmS⟩ : ∃ mS, S.length = mS := ⟨_, rfl⟩
  have HMS : Hid (S.length = mS) := hmS
  rw [hmS] at HFn
  rw [hmS]
  clear hmS
  obtain ⟨mT, hmT⟩ : ∃ mT, T.length = mT := ⟨_, rfl⟩
  have HMT : Hid (T.length = mT) := hmT
  rw [hmT] at HFn hmt
  rw [hmT]
  clear hmT
  generalize F.length = mF at *
  obtain ⟨nh, hnh⟩ : ∃ nh, hd.length = nh := ⟨_, rfl⟩
  have HNH : Hid (hd.length = nh) := hnh
  rw [hnh] at hhl
  rw [hnh]
  clear hnh
  obtain ⟨nl, hnl⟩ : ∃ nl, lp.length = nl := ⟨_, rfl⟩
  have HNL : Hid (lp.length = nl) := hnl
  rw [hnl] at hpl
  rw [hnl]
  clear hnl
  obtain ⟨W0, hW0, g0, s0, bx0⟩ := boxA_new w l nS a mS c b mT d e mF f
  obtain ⟨W1, hW1, g1, s1, bx1⟩ := boxL_new W0 ah nh ch al nl cl
  rw [s0] at s1 bx1
  have HW1 : Hid (W1 = (w.alloc (.cells #[.int .i64 l, .int .i64 nS, .slice a mS c, .slice b mT d, .slice e mF f] 25)).alloc (.cells #[.slice ah nh ch, .slice al nl cl] 42)) := by show _ = _; rw [hW1, hW0]
  have G1 : Hid (w.grownBy W1 none) := grown_trans g0 g1
  have K1 : Hid (KeepN W1 W1 w.heap.size l nS (.slice a mS c) (.slice b mT d) (.slice e mF f) (.slice ah nh ch) (.slice al nl cl)) := by
    obtain ⟨x0, x1, x2, x3, x4⟩ := bx0 W1 g1
    obtain ⟨x5, x6⟩ := bx1 W1 (grown_refl _ _)
    exact ⟨grown_refl _ _, x0, x1, x2, x3, x4, x5, x6⟩
  have HS1 : Hid (W1.heap.size = w.heap.size + 1 + 1) := s1
  clear hW0 hW1 g0 g1 s0 s1 bx0 bx1
  go_enter Try.func41, Try.ntmps41
  go_wp2_with fail
  rw [← HW1.out]
  clear HW1
  generalize hb0 : w.heap.size = b0 at *
  have HB0 : Hid (w.heap.size = b0) := hb0
  clear hb0
  go_region_held3 (fun W => KeepN W1 W b0 l nS (.slice a mS c) (.slice b mT d) (.slice e mF f) (.slice ah nh ch) (.slice al nl cl))
    (first | (with_reducible exact KeepN.drew K1.out) | (with_reducible exact KeepN.call (by assumption) hgA) | (with_reducible exact KeepN.drew (by assumption)) | (with_reducible exact KeepN.alloc (by assumption) _) | assumption)
    (first
    | (go_at_call 65; refine (HFn.out _ (KeepN.gr (show KeepN W1 _ b0 l nS (.slice a mS c) (.slice b mT d) (.slice e mF f) (.slice ah nh ch) (.slice al nl cl) from by assumption) G1.out)).mono ?_; rintro E wA ⟨gf, rfl, hoA, hgA⟩))
  obtain ⟨W3, hW3⟩ : ∃ W3, W3 = wA.alloc (.cells #[.int .i64 (nS : Int), .int .i64 (l : Int), .slice none 0 0, .int .i64 (nh : Int), .slice none 0 0, .slice a mS c, .slice (some ⟨gf, 0, none⟩) nS nS, .slice none 0 0, .slice none 0 0] 91) := ⟨_, rfl⟩
  have K3 : Hid (KeepN W1 W3 b0 l nS (.slice a mS c) (.slice b mT d) (.slice e mF f) (.slice ah nh ch) (.slice al nl cl)) := by
    show KeepN _ _ _ _ _ _ _ _ _ _
    rw [hW3]
    assumption
  have O3 : Hid (Owns W1.heap.size W3 [seaIt wA.heap.size nS l (.slice none 0 0) nh (.slice none 0 0) (.slice a mS c) (.slice (some ⟨gf, 0, none⟩) nS nS) (.slice none 0 0) (.slice none 0 0), bIt gf nS nS sF]) := by
    show Owns _ _ _
    rw [hW3]
    exact sea_new (B := W1.heap.size) hoA hgA.size
  rw [← hW3]
  clear hW3 hoA hgA
  generalize wA.heap.size = ps at *
  have g3 : W1.grownBy W3.drew none := grown_drew K3.out.1
  obtain ⟨a1, c1, w4, a2, c2, w5, hr1, hr2, hk1, hc5, hz5, hk5, ho5⟩ := sea_word (ch := ch) (cl := cl) (gf := gf) (fs := sF) (O3.out.kept (grown_drew (grown_refl _ _))) g3.size (grown_trans G1.out g3) G1.out.size HHd.out HLp.out (by rw [HNH.out]; omega) (by rw [HNL.out]; omega)
  rw [HNH.out] at hr1 hr2
  rw [HNL.out] at hr2
  obtain ⟨m, hm⟩ : ∃ m, (hd ++ lp).length = m := ⟨_, rfl⟩
  have HM : Hid ((hd ++ lp).length = m) := hm
  have hmb : m ≤ 200 := by rw [← hm, List.length_append, HNH.out, HNL.out]; omega
  rw [hm] at hr2 ho5 hk5
  obtain ⟨W6, hW6⟩ : ∃ W6, W6 = w5.setCell ⟨ps, 2, none⟩ (.slice a2 m c2) := ⟨_, rfl⟩
  have G6 : Hid (W1.grownBy W6 none) := by rw [hW6]; exact hk5 W1 (Nat.le_refl _) g3
  have O6 : Hid (Owns W1.heap.size W6 (seaIt ps nS l (.slice a2 m c2) nh (.slice none 0 0) (.slice a mS c) (.slice (some ⟨gf, 0, none⟩) nS nS) (.slice none 0 0) (.slice none 0 0) :: (3, .slice a2 m c2, vals (natInts (hd ++ lp))) :: [bIt gf nS nS sF])) := by
    show Owns _ _ _
    rw [hW6]
    exact ho5
  have HW6 : Hid (W6 = w5.setCell ⟨ps, 2, none⟩ (.slice a2 m c2)) := hW6
  have y0 := K3.out.2.2.2.2.2.2.1
  have y1 := K3.out.2.2.2.2.2.2.2
  have z1 := (KeepN.call K1.out (hk1 W1 (Nat.le_refl _) g3)).2.2.2.2.2.2.2
  have x2 : W3.cell? ⟨ps, 2, none⟩ = some (.slice none 0 0) := O3.out.cell rfl
  clear hW6 ho5 hk5 hk1 g3 hm O3
  go_wp2_with fail
  go_region
  rw [← HW6.out]
  clear HW6 hr1 hr2 hc5 hz5 y0 y1 z1 x2 K3 HHd HLp HFn
  obtain ⟨k, hk⟩ : ∃ k, nS * l = k := ⟨_, rfl⟩
  have HK : Hid (nS * l = k) := hk
  have hkb : k ≤ 1200 := by rw [← hk]; exact Nat.mul_le_mul hn3 hl4
  have e1 : IntKind.i64.wrap ((nS : Int) * (l : Int)) = (k : Int) := by
    rw [show (nS : Int) * (l : Int) = (k : Int) by rw [← hk]; exact (Int.natCast_mul nS l).symm, IntKind.wrap_i64]
    omega
  have hmk := make_mid W6 k (by omega)
  obtain ⟨x4, z4, hk7, ht7⟩ := tab_new (k := k) O6.out G6.out.size (by omega)
  obtain ⟨W7, hW7⟩ : ∃ W7, W7 = (W6.alloc (.cells (Array.replicate k (Value.slice none 0 0)) 22)).setCell ⟨ps, 4, none⟩ (.slice (some ⟨W6.heap.size, 0, none⟩) k k) := ⟨_, rfl⟩
  have HW7 : Hid (W7 = (W6.alloc (.cells (Array.replicate k (Value.slice none 0 0)) 22)).setCell ⟨ps, 4, none⟩ (.slice (some ⟨W6.heap.size, 0, none⟩) k k)) := hW7
  have G7 : Hid (W1.grownBy W7 none) := by rw [hW7]; exact hk7 W1 (Nat.le_refl _) G6.out
  have T7 : Hid (TabIn W1.heap.size W7 ps nS l (.slice a2 m c2) nh W6.heap.size k (.slice a mS c) (.slice (some ⟨gf, 0, none⟩) nS nS) [] [(3, .slice a2 m c2, vals (natInts (hd ++ lp))), bIt gf nS nS sF]) := by
    have h1 := ht7
    rw [← hW7] at h1
    exact h1
  have u0 := (KeepN.call K1.out G6.out).2.1
  have u1 := (KeepN.call K1.out G6.out).2.2.1
  have v3 := (KeepN.call K1.out G7.out).2.2.2.2.1
  rw [hW7] at v3
  clear hW7 hk7 ht7 hk O6
  go_wp2_with fail
  rw [← HW7.out]
  clear HW7 hmk x4 z4 u0 u1 v3 e1 G6
  generalize W6.heap.size = gt at *
  go_loopw [47] (fun v wr => ∃ j : Nat, j ≤ mT ∧ v = .int .i64 j ∧ TabIn W1.heap.size wr ps nS l (.slice a2 m c2) nh gt k (.slice a mS c) (.slice (some ⟨gf, 0, none⟩) nS nS) (T.take j) [(3, .slice a2 m c2, vals (natInts (hd ++ lp))), bIt gf nS nS sF] ∧ W1.grownBy wr none) (fun v _ => mT - (intOf v).toNat)
  case atStart => exact ⟨0, by omega, rfl, T7.out, G7.out⟩
  case round =>
    clear T7 G7
    rename World => wq
    obtain ⟨j, hj, rfl, hA, hg⟩ := hrel
    have A : Hid (TabIn W1.heap.size wq ps nS l (.slice a2 m c2) nh gt k (.slice a mS c) (.slice (some ⟨gf, 0, none⟩) nS nS) (T.take j) [(3, .slice a2 m c2, vals (natInts (hd ++ lp))), bIt gf nS nS sF]) := hA
    have G : Hid (W1.grownBy wq none) := hg
    clear hA hg
    by_cases hlt : j < mT
    · have hji : (j : Int) < (mT : Int) := by omega
      have hjT : j < T.length := by rw [HMT.out]; exact hlt
      obtain ⟨bb, off, rfl, hc⟩ := (HStp.out wq (grown_trans G1.out G.out)).at hjT
      obtain ⟨y0, y1, y2⟩ := hc j hjT
      obtain ⟨⟨i1, i2⟩, ⟨i3, i4⟩, ⟨i5, i6⟩⟩ := HT.out j hjT
      have HTk : Hid (T.take (j + 1) = T.take j ++ [T.getD j (0, 0, 0)]) := by show _ = _; rw [List.take_add_one, getT_ltN hjT]; simp [hjT]
      clear hc
      obtain ⟨xx, hxx⟩ : ∃ xx, T.getD j (0, 0, 0) = xx := ⟨_, rfl⟩
      rw [hxx] at y0 y1 y2 i1 i2 i3 i4 i5 i6 HTk
      clear hxx
      obtain ⟨ff, ll, tt⟩ := xx
      simp only at y0 y1 y2 i1 i2 i3 i4 i5 i6
      obtain ⟨fn, rfl⟩ : ∃ n : Nat, ff = n := ⟨ff.toNat, by omega⟩
      obtain ⟨ln, rfl⟩ : ∃ n : Nat, ll = n := ⟨ll.toNat, by omega⟩
      obtain ⟨tn, rfl⟩ : ∃ n : Nat, tt = n := ⟨tt.toNat, by omega⟩
      have hfn : fn < nS := by omega
      have hln : ln < l := by omega
      obtain ⟨q, hq⟩ : ∃ q, fn * l = q := ⟨_, rfl⟩
      obtain ⟨i, hi⟩ : ∃ i, q + ln = i := ⟨_, rfl⟩
      have hik : i < k := by
        rw [← HK.out]
        have h1 : (fn + 1) * l ≤ nS * l := Nat.mul_le_mul_right _ (by omega)
        rw [Nat.succ_mul] at h1
        omega
      have e1 : IntKind.i64.wrap ((fn : Int) * (l : Int)) = (q : Int) := by
        rw [show (fn : Int) * (l : Int) = (q : Int) by rw [← hq]; exact (Int.natCast_mul fn l).symm, IntKind.wrap_i64]
        omega
      have e2 : IntKind.i64.wrap ((q : Int) + (ln : Int)) = (i : Int) := by rw [IntKind.wrap_i64]; omega
      have hiI : (i : Int) < (k : Int) := by omega
      obtain ⟨W8, hW8⟩ : ∃ W8, W8 = wq.alloc (.cells #[.int .i64 (fn : Int), .int .i64 (ln : Int), .int .i64 (tn : Int)] 59) := ⟨_, rfl⟩
      have HW8 : Hid (W8 = wq.alloc (.cells #[.int .i64 (fn : Int), .int .i64 (ln : Int), .int .i64 (tn : Int)] 59)) := hW8
      have hb8 := heap_alloc_new wq (.cells #[.int .i64 (fn : Int), .int .i64 (ln : Int), .int .i64 (tn : Int)] 59)
      rw [← hW8] at hb8
      have g8 : wq.grownBy W8 none := by rw [hW8]; exact grown_alloc _ _
      have G8 : Hid (W1.grownBy W8 none) := grown_trans G.out g8
      have s0 : W8.cell? ⟨wq.heap.size, 0, none⟩ = some (.int .i64 (fn : Int)) := by rw [cell_of_row _ _ 0 _ _ (0, 0) hb8]; rfl
      have s1 : W8.cell? ⟨wq.heap.size, 1, none⟩ = some (.int .i64 (ln : Int)) := by rw [cell_of_row _ _ 1 _ _ (0, 0) hb8]; rfl
      have s2 : W8.cell? ⟨wq.heap.size, 2, none⟩ = some (.int .i64 (tn : Int)) := by rw [cell_of_row _ _ 2 _ _ (0, 0) hb8]; rfl
      obtain ⟨va, vn, vc, g9, c9, w9, hcv, hc4, hrun0, hcv9, hc49, hz9, hA9, hK9, hk9, hO9⟩ := A.out.push (w := W8.drew) (grown_drew g8) (H := W8.heap.size) G8.out.size (by rw [List.length_take]; omega) ((fn : Int), (ln : Int), (tn : Int)) (i := i) (z := tn) (by simp only [Int.toNat_natCast]; omega) rfl hik rfl
      have hrun : (AppS #[22, 22] 22 #[.slice va vn vc, .slice (some ⟨W8.heap.size, 0, none⟩) 1 1]).run Try.prog (W8.alloc (.cells #[.int .i64 (tn : Int)] 3)).drew = .ok (.slice (some ⟨g9, 0, none⟩) (vn + 1) c9) w9 := hrun0
      have t0 : W8.cell? ⟨gt, i, none⟩ = some (.slice va vn vc) := hcv
      have t1 : W8.cell? ⟨ps, 4, none⟩ = some (.slice (some ⟨gt, 0, none⟩) k k) := hc4
      have A9 : Hid (TabIn W1.heap.size (w9.setCell ⟨gt, i, none⟩ (.slice (some ⟨g9, 0, none⟩) (vn + 1) c9)) ps nS l (.slice a2 m c2) nh gt k (.slice a mS c) (.slice (some ⟨gf, 0, none⟩) nS nS) (T.take (j + 1)) [(3, .slice a2 m c2, vals (natInts (hd ++ lp))), bIt gf nS nS sF]) := by
        have h1 := hA9
        rw [← HTk.out] at h1
        exact h1
      have G9 : Hid (W1.grownBy (w9.setCell ⟨gt, i, none⟩ (.slice (some ⟨g9, 0, none⟩) (vn + 1) c9)) none) := hK9 W1 (Nat.le_refl _) (grown_drew G8.out)
      have u0 := (KeepN.call K1.out G8.out).2.1
      rw [hW8] at u0
      have aal : ∀ o, (W8.alloc o).cell? ⟨wq.heap.size, 2, none⟩ = some (.int .i64 (tn : Int)) ∧ (W8.alloc o).cell? ⟨gt, i, none⟩ = some (.slice va vn vc) ∧ (W8.alloc o).cell? ⟨ps, 4, none⟩ = some (.slice (some ⟨gt, 0, none⟩) k k) := fun o => ⟨(grown_alloc _ o).cell s2 (by simp), (grown_alloc _ o).cell t0 (by simp), (grown_alloc _ o).cell t1 (by simp)⟩
      have a0 := fun o => (aal o).1
      have a3 := fun o => (aal o).2.1
      have a4 := fun o => (aal o).2.2
      clear aal hA9 hK9 hk9 hrun0 hcv hc4 hW8 hb8 g8 hO9 hq hi
      generalize vn + 1 = nn at *
      go_wp2_with fail
      rw [← HW8.out]
      go_region
      all_goals
        go_wp2_with fail
        go_roundw
        case rel => exact ⟨j + 1, by omega, by go_num, A9.out, G9.out⟩
        case measure => simp [intOf]; omega
    · have hji : ¬ (j : Int) < (mT : Int) := by omega
      obtain ⟨rs, hrs, ho⟩ := A.out.ex
      rw [List.take_of_length_le (by rw [HMT.out]; omega)] at hrs
      have HRS : Hid (rs.map (·.2) = (List.range k).map (toL T l)) := hrs
      obtain ⟨NN, hNN⟩ : ∃ NN, nS * m = NN := ⟨_, rfl⟩
      have HNN : Hid (nS * m = NN) := hNN
      have hNb : NN ≤ 60000 := by rw [← hNN]; exact Nat.mul_le_mul hn3 hmb
      have e1 : IntKind.i64.wrap ((nS : Int) * (m : Int)) = (NN : Int) := by
        rw [show (nS : Int) * (m : Int) = (NN : Int) by rw [← hNN]; exact (Int.natCast_mul nS m).symm, IntKind.wrap_i64]
        omega
      have hmk := fun W => make_bools W NN (by omega)
      obtain ⟨x7, z7, hk7, ho7⟩ := sea_row7 (N := NN) ho G.out.size (by omega)
      obtain ⟨W7, hW7⟩ : ∃ W7, W7 = (wq.alloc (.cells (Array.replicate NN (Value.bool false)) 4)).setCell ⟨ps, 7, none⟩ (.slice (some ⟨wq.heap.size, 0, none⟩) NN NN) := ⟨_, rfl⟩
      have HW7 : Hid (W7 = (wq.alloc (.cells (Array.replicate NN (Value.bool false)) 4)).setCell ⟨ps, 7, none⟩ (.slice (some ⟨wq.heap.size, 0, none⟩) NN NN)) := hW7
      have G7 : Hid (W1.grownBy W7 none) := by rw [hW7]; exact hk7 W1 (Nat.le_refl _) G.out
      rw [← hW7] at ho7
      obtain ⟨x8, z8, hk8, ho8⟩ := sea_row8 (N := NN) ho7 G7.out.size (by omega)
      obtain ⟨W8, hW8⟩ : ∃ W8, W8 = (W7.alloc (.cells (Array.replicate NN (Value.bool false)) 4)).setCell ⟨ps, 8, none⟩ (.slice (some ⟨W7.heap.size, 0, none⟩) NN NN) := ⟨_, rfl⟩
      have HW8 : Hid (W8 = (W7.alloc (.cells (Array.replicate NN (Value.bool false)) 4)).setCell ⟨ps, 8, none⟩ (.slice (some ⟨W7.heap.size, 0, none⟩) NN NN)) := hW8
      have G8 : Hid (W1.grownBy W8 none) := by rw [hW8]; exact hk8 W1 (Nat.le_refl _) G7.out
      rw [← hW8] at ho8
      rw [← HM.out, ← HMS.out] at ho8
      have FIN : Hid (∀ W, W8.grownBy W none → NewPost ⟨L, N, S, T, F⟩ l nS hd lp w (.returned (.pointer (some ⟨ps, 0, none⟩))) W) := fun W hW => by
        have h1 := (sea_end ho8 HRS.out HK.out (HSta.out W8 (grown_trans G1.out G8.out))).grown hW
        refine ⟨ps, gt, a2, c2, a, c, gf, wq.heap.size, W7.heap.size, rfl, ?_, grown_trans G1.out (grown_trans G8.out hW)⟩
        simp only
        rw [HSF.out, Nat.mul_comm, HM.out, HNN.out, HNH.out]
        exact ⟨h1.sta, h1.own.base G1.out.size⟩
      have y2 : wq.cell? ⟨ps, 2, none⟩ = some (.slice a2 m c2) := ho.cell rfl
      have y2' : W7.cell? ⟨ps, 2, none⟩ = some (.slice a2 m c2) := ho7.cell rfl
      have u1 := (KeepN.call K1.out G.out).2.2.1
      have u1' := (KeepN.call K1.out G7.out).2.2.1
      clear hrs hNN hW7 hW8 hk7 hk8 ho ho7 ho8 A
      go_wp2_with fail
      go_region
      rw [← HW7.out]
      clear HW7 x7 z7 y2 u1
      go_wp2_with fail
      go_region
      rw [← HW8.out]
      clear HW8 x8 z8 y2' u1'
      go_wp2_with fail
      go_ret
      exact FIN.out _ (grown_drew (grown_drew (grown_refl _ _)))

end Go.Proofs.Ytfjpdeoldcfhdaa
