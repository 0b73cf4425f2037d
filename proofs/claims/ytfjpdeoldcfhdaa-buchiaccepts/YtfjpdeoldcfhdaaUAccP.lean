/- buchi.Accepts. -/
import Derived.Test.YtfjpdeoldcfhdaaUNew
import Derived.Test.YtfjpdeoldcfhdaaUFinds
import Derived.Test.YtfjpdeoldcfhdaaULas
import Derived.Test.YtfjpdeoldcfhdaaUCheck2
namespace Go.Proofs.Ytfjpdeoldcfhdaa
open Go.RowKit
set_option linter.unusedVariables false

theorem law_boxesA (w : World) (L N : Int) (a : Option Addr) (n c : Nat) (b : Option Addr) (k d : Nat) (e : Option Addr) (m f : Nat) (ah : Option Addr) (nh ch : Nat) (al : Option Addr) (nl cl : Nat) : ∃ W, W = (w.alloc (.cells #[.int .i64 L, .int .i64 N, .slice a n c, .slice b k d, .slice e m f] 25)).alloc (.cells #[.slice ah nh ch, .slice al nl cl] 42) ∧ w.grownBy W none ∧ (∀ W', W.grownBy W' none → W'.cell? ⟨w.heap.size, 0, none⟩ = some (.int .i64 L) ∧ W'.cell? ⟨w.heap.size, 1, none⟩ = some (.int .i64 N) ∧ W'.cell? ⟨w.heap.size, 2, none⟩ = some (.slice a n c) ∧ W'.cell? ⟨w.heap.size, 3, none⟩ = some (.slice b k d) ∧ W'.cell? ⟨w.heap.size, 4, none⟩ = some (.slice e m f)) ∧ (∀ W', W.grownBy W' none → W'.cell? ⟨w.heap.size + 1, 0, none⟩ = some (.slice ah nh ch) ∧ W'.cell? ⟨w.heap.size + 1, 1, none⟩ = some (.slice al nl cl)) := by
  obtain ⟨W1, hW1, g1, s1, bx1⟩ := boxA_new w L N a n c b k d e m f
  obtain ⟨W2, hW2, g2, s2, bx2⟩ := boxL_new W1 ah nh ch al nl cl
  rw [s1] at bx2
  exact ⟨W2, by rw [hW2, hW1], grown_trans g1 g2, fun W' h => bx1 W' (grown_trans g2 h), bx2⟩

/-- What Accepts answers of a lasso that may be. -/
def AccPost (P : Prop) (w : World) (E : Ending) (w' : World) : Prop := ∃ r : Bool, E = .returned (.tuple #[.bool r, .int .i64 0]) ∧ (r = true ↔ P) ∧ w.grownBy w' none

set_option maxHeartbeats 3200000 in
set_option maxRecDepth 100000 in
theorem acceptsP_bad (x : Aut) (a b e ah al : Option Addr) (c d f nh ch nl cl : Nat) (w : World) (h : AutAt w x a b e) (hb : checkA x ≠ 0) :
    Calls Try.prog 18 #[autV x.L x.N a x.S.length c b x.T.length d e x.F.length f, lasV ah nh ch al nl cl] w (Says (.tuple #[.bool false, .int .i64 (checkA x)]) w) := by
  have HC : Hid (∀ W, w.grownBy W none → Calls Try.prog 17 #[autV x.L x.N a x.S.length c b x.T.length d e x.F.length f] W (Says (.int .i64 (checkA x)) W)) := fun W hW => checkB_any x a b e c d f W (h.grown hW)
  obtain ⟨y, hy⟩ : ∃ y, checkA x = y := ⟨_, rfl⟩
  rw [hy] at HC hb
  rw [hy]
  have f1 : (y != 0) = true := by simpa using hb
  have f2 : (y == 0) = false := by simpa using hb
  obtain ⟨W1, hW1, g1, bx1, bl1⟩ := law_boxesA w x.L x.N a x.S.length c b x.T.length d e x.F.length f ah nh ch al nl cl
  have HW1 : Hid (W1 = _) := hW1
  have G1 : Hid (w.grownBy W1 none) := g1
  obtain ⟨a0, a1, a2, a3, a4⟩ := bx1 W1 (grown_refl _ _)
  rw [hW1] at a0 a1 a2 a3 a4
  clear h hW1 g1 bx1 bl1 hy hb
  go_enter Try.func18, Try.ntmps18
  go_wp2_with fail
  rw [← HW1.out]
  clear a0 a1 a2 a3 a4
  refine (HC.out _ G1.out).mono ?_
  rintro E w2 ⟨rfl, hg2⟩
  have GF : Hid (w.grownBy w2 none) := grown_trans G1.out hg2
  clear hg2
  go_wp2_with fail
  go_ret2
  exact ⟨rfl, GF.out⟩

set_option maxHeartbeats 3200000 in
set_option maxRecDepth 100000 in
theorem acceptsP_las (x : Aut) (a b e ah al : Option Addr) (c d f ch cl : Nat) (hs ls : List Int) (w : World) (h : AutAt w x a b e) (hb : checkA x = 0) (hh : Ints w ah hs) (hl : Ints w al ls) (hm : hs.length ≤ maxLen) (hm' : ls.length ≤ maxLen) (hn : lassoF x.L hs ls ≠ 0) :
    Calls Try.prog 18 #[autV x.L x.N a x.S.length c b x.T.length d e x.F.length f, lasV ah hs.length ch al ls.length cl] w (Says (.tuple #[.bool false, .int .i64 (lassoF x.L hs ls)]) w) := by
  have HC : Hid (∀ W, w.grownBy W none → Calls Try.prog 17 #[autV x.L x.N a x.S.length c b x.T.length d e x.F.length f] W (Says (.int .i64 0) W)) := fun W hW => by
    have h1 := checkB_any x a b e c d f W (h.grown hW)
    rw [hb] at h1
    exact h1
  have HL : Hid (∀ W, w.grownBy W none → Calls Try.prog 40 #[.int .i64 x.L, lasV ah hs.length ch al ls.length cl] W (Says (.int .i64 (lassoF x.L hs ls)) W)) := fun W hW => lassoP_any x.L ah al ch cl hs ls W (hh.grown hW) (hl.grown hW) hm hm'
  obtain ⟨y, hy⟩ : ∃ y, lassoF x.L hs ls = y := ⟨_, rfl⟩
  rw [hy] at HL hn
  rw [hy]
  have f1 : (y != 0) = true := by simpa using hn
  have f2 : (y == 0) = false := by simpa using hn
  generalize hs.length = nh at *
  generalize ls.length = nl at *
  obtain ⟨W1, hW1, g1, bx1, bl1⟩ := law_boxesA w x.L x.N a x.S.length c b x.T.length d e x.F.length f ah nh ch al nl cl
  have HW1 : Hid (W1 = _) := hW1
  have G1 : Hid (w.grownBy W1 none) := g1
  have Ba : Hid (∀ W', W1.grownBy W' none → W'.cell? ⟨w.heap.size, 0, none⟩ = some (.int .i64 x.L)) := fun W' hW => (bx1 W' hW).1
  have Bl : Hid (∀ W', W1.grownBy W' none → W'.cell? ⟨w.heap.size + 1, 0, none⟩ = some (.slice ah nh ch) ∧ W'.cell? ⟨w.heap.size + 1, 1, none⟩ = some (.slice al nl cl)) := bl1
  obtain ⟨a0, a1, a2, a3, a4⟩ := bx1 W1 (grown_refl _ _)
  rw [hW1] at a0 a1 a2 a3 a4
  clear h hW1 g1 bx1 bl1 hy hb hn hh hl
  go_enter Try.func18, Try.ntmps18
  go_wp2_with fail
  rw [← HW1.out]
  clear a0 a1 a2 a3 a4
  refine (HC.out _ G1.out).mono ?_
  rintro E w2 ⟨rfl, hg2⟩
  have G2 : Hid (W1.grownBy w2 none) := hg2
  have a0 := Ba.out w2 hg2
  obtain ⟨b0, b1⟩ := Bl.out w2 hg2
  clear hg2
  go_wp2_with fail
  clear a0 b0 b1
  refine (HL.out _ (grown_trans G1.out G2.out)).mono ?_
  rintro E w3 ⟨rfl, hg3⟩
  have GF : Hid (w.grownBy w3 none) := grown_trans G1.out (grown_trans G2.out hg3)
  clear hg3
  go_wp2_with fail
  go_ret2
  exact ⟨rfl, GF.out⟩

theorem rise_leN : ∀ (zs : List Int) (n : Nat), InR zs n → Rise zs → zs.length ≤ n := fun zs n hin hr => by
  have h1 : ∀ k, k < zs.length → (k : Int) ≤ zs.getD k 0 := by
    intro k
    induction k with
    | zero => intro hk; exact (hin 0 hk).1
    | succ k ih =>
      intro hk
      have h2 := ih (by omega)
      have h3 := hr k (by omega)
      omega
  rcases Nat.eq_zero_or_pos zs.length with h0 | h0
  · omega
  · have h2 := h1 (zs.length - 1) (by omega)
    have h3 := (hin (zs.length - 1) (by omega)).2
    omega

theorem stepR_lt {T : List StepI} {l n p a q : Nat} (hT : InT T l n) (h : stepR T p a q) : q < n := by
  obtain ⟨t, ht, _, _, rfl⟩ := h
  obtain ⟨i, hi, e⟩ := List.getElem_of_mem ht
  have h1 := hT i hi
  simp only [List.getD, List.getElem?_eq_getElem hi, Option.getD_some] at h1
  rw [e] at h1
  obtain ⟨_, _, i5, i6⟩ := h1
  omega

set_option maxHeartbeats 3200000 in
set_option maxRecDepth 100000 in
theorem acceptsP_good (x : Aut) (l nS : Nat) (hL : x.L = l) (hN : x.N = nS) (hG : GoodA x) (hck : checkA x = 0) (a b e ah al : Option Addr) (c d f ch cl : Nat) (hd lp : List Nat) (w : World) (h : AutAt w x a b e) (hh : Ints w ah (natInts hd)) (hp : Ints w al (natInts lp)) (hhl : hd.length ≤ 100) (hpl : lp.length ≤ 100) (hlp1 : 1 ≤ lp.length) (hleh : ∀ k, k < hd.length → hd.getD k 0 < l) (hlep : ∀ k, k < lp.length → lp.getD k 0 < l) (hlas : lassoF l (natInts hd) (natInts lp) = 0) :
    Calls Try.prog 18 #[autV l nS a x.S.length c b x.T.length d e x.F.length f, lasV ah hd.length ch al lp.length cl] w (AccPost (AccL x.T (setOf x.S) (setOf x.F) hd lp) w) := by
  have hn3 : nS ≤ 300 := by have := hG.n3; omega
  have hl4 : l ≤ 4 := by have := hG.l4; omega
  have hT : InT x.T l nS := hL ▸ hN ▸ hG.t
  have hSi : InR x.S nS := hN ▸ hG.s
  have hSl := rise_leN x.S nS hSi hG.sr
  have htl := hG.t4
  have HC : Hid (∀ W, w.grownBy W none → Calls Try.prog 17 #[autV l nS a x.S.length c b x.T.length d e x.F.length f] W (Says (.int .i64 0) W)) := fun W hW => by
    have h1 := checkB_any x a b e c d f W (h.grown hW)
    rw [hck, hL, hN] at h1
    exact h1
  have HL : Hid (∀ W, w.grownBy W none → Calls Try.prog 40 #[.int .i64 l, lasV ah hd.length ch al lp.length cl] W (Says (.int .i64 0) W)) := fun W hW => by
    have h1 := lassoP_any l ah al ch cl (natInts hd) (natInts lp) W (hh.grown hW) (hp.grown hW) (by rw [nlen]; unfold maxLen; omega) (by rw [nlen]; unfold maxLen; omega)
    rw [hlas, nlen, nlen] at h1
    exact h1
  have HNw : Hid (∀ W, w.grownBy W none → Calls Try.prog 41 #[autV l nS a x.S.length c b x.T.length d e x.F.length f, lasV ah hd.length ch al lp.length cl] W (NewPost x l nS hd lp W)) := fun W hW => newSearch_any x l nS hL hN hG a b e ah al c d f ch cl hd lp W (h.grown hW) (hh.grown hW) (hp.grown hW) hhl hpl
  have hwd : ∀ k, k < (hd ++ lp).length → (hd ++ lp).getD k 0 < l := fun k hk => by
    rw [List.length_append] at hk
    by_cases h1 : k < hd.length
    · have := hleh k h1
      rwa [List.getD, List.getElem?_append_left h1, ← List.getD]
    · have := hlep (k - hd.length) (by omega)
      rwa [List.getD, List.getElem?_append_right (by omega), ← List.getD]
  have HFd : Hid (∀ B ps gt aw cw as_ cs gf gs gm W, SeAt B W ps nS l (hd ++ lp) hd.length gt x.T aw cw as_ cs x.S gf gs gm ((hd ++ lp).length * nS) (setOf x.F) 0 0 → Calls Try.prog 42 #[.pointer (some ⟨ps, 0, none⟩)] W (FindsPost B nS (hd ++ lp) hd.length x.T x.S (setOf x.F) W)) := fun B ps gt aw cw as_ cs gf gs gm W hse => finds_any B ps nS l (hd ++ lp) hd.length gt x.T aw cw as_ cs x.S gf gs gm _ (setOf x.F) hT (by omega) hn3 hl4 (by rw [List.length_append]; omega) (by rw [List.length_append]; omega) rfl hwd hSi (by omega) W hse
  have HAc : Hid (AccL x.T (setOf x.S) (setOf x.F) hd lp ↔ ∃ q0 v k j, (setOf x.S).testBit q0 = true ∧ goN (nxP x.T (hd ++ lp) nS hd.length) k q0 v ∧ (setOf x.F).testBit (v % nS) = true ∧ goN (nxP x.T (hd ++ lp) nS hd.length) (j + 1) v v) := by
    refine place_acc (fun p y q hst => ?_) (fun q hq => ?_) hlp1
    · exact stepR_lt hT hst
    · have h1 := setOf_ltn hSi
      exact Classical.byContradiction fun hge => by
        have := Nat.testBit_lt_two_pow (Nat.lt_of_lt_of_le h1 (Nat.pow_le_pow_right (by omega) (show nS ≤ q by omega)))
        rw [this] at hq; cases hq
  generalize AccL x.T (setOf x.S) (setOf x.F) hd lp = AP at *
  obtain ⟨W1, hW1, g1, bx1, bl1⟩ := law_boxesA w l nS a x.S.length c b x.T.length d e x.F.length f ah hd.length ch al lp.length cl
  have HW1 : Hid (W1 = _) := hW1
  have G1 : Hid (w.grownBy W1 none) := g1
  have Ba : Hid (∀ W', W1.grownBy W' none → W'.cell? ⟨w.heap.size, 0, none⟩ = some (.int .i64 l) ∧ W'.cell? ⟨w.heap.size, 1, none⟩ = some (.int .i64 nS) ∧ W'.cell? ⟨w.heap.size, 2, none⟩ = some (.slice a x.S.length c) ∧ W'.cell? ⟨w.heap.size, 3, none⟩ = some (.slice b x.T.length d) ∧ W'.cell? ⟨w.heap.size, 4, none⟩ = some (.slice e x.F.length f)) := bx1
  have Bl : Hid (∀ W', W1.grownBy W' none → W'.cell? ⟨w.heap.size + 1, 0, none⟩ = some (.slice ah hd.length ch) ∧ W'.cell? ⟨w.heap.size + 1, 1, none⟩ = some (.slice al lp.length cl)) := bl1
  obtain ⟨a0, a1, a2, a3, a4⟩ := bx1 W1 (grown_refl _ _)
  rw [hW1] at a0 a1 a2 a3 a4
  clear h hW1 g1 bx1 bl1 hck hlas hh hp hG hT hSi hSl htl hwd hleh hlep
  generalize hms : x.S.length = mS at *
  generalize hmt : x.T.length = mT at *
  generalize hmf : x.F.length = mF at *
  generalize hnh : hd.length = nh at *
  generalize hnl : lp.length = nl at *
  have HNH : Hid (hd.length = nh) := hnh
  clear hms hmt hmf hnh hnl hL hN
  go_enter Try.func18, Try.ntmps18
  go_wp2_with fail
  rw [← HW1.out]
  clear a0 a1 a2 a3 a4
  refine (HC.out _ G1.out).mono ?_
  rintro E w2 ⟨rfl, hg2⟩
  have G2 : Hid (W1.grownBy w2 none) := hg2
  obtain ⟨a0, a1, a2, a3, a4⟩ := Ba.out w2 hg2
  obtain ⟨b0, b1⟩ := Bl.out w2 hg2
  clear hg2
  go_wp2_with fail
  clear a0 a1 a2 a3 a4 b0 b1
  refine (HL.out _ (grown_trans G1.out G2.out)).mono ?_
  rintro E w3 ⟨rfl, hg3⟩
  have G3 : Hid (W1.grownBy w3 none) := grown_trans G2.out hg3
  obtain ⟨a0, a1, a2, a3, a4⟩ := Ba.out w3 G3.out
  obtain ⟨b0, b1⟩ := Bl.out w3 G3.out
  clear hg3
  go_wp2_with fail
  clear a0 a1 a2 a3 a4 b0 b1
  refine (HNw.out _ (grown_trans G1.out G3.out)).mono ?_
  rintro E w4 ⟨ps, gt, aw, cw, as_, cs, gf, gs, gm, rfl, hse, hg4⟩
  have G4 : Hid (w3.grownBy w4 none) := hg4
  rw [HNH.out] at hse
  have CF : Hid (Calls Try.prog 42 #[.pointer (some ⟨ps, 0, none⟩)] w4 (FindsPost w3.heap.size nS (hd ++ lp) nh x.T x.S (setOf x.F) w4)) := HFd.out _ _ _ _ _ _ _ _ _ _ w4 hse
  clear hse hg4
  go_wp2_with fail
  refine CF.out.mono ?_
  rintro E w5 ⟨r, rfl, hk5, hiff⟩
  have GF : Hid (w.grownBy w5 none) := grown_trans G1.out (grown_trans G3.out (hk5 w3 (Nat.le_refl _) G4.out))
  have HR : Hid (r = true ↔ AP) := hiff.trans HAc.out.symm
  clear hk5 hiff
  go_wp2_with fail
  go_ret2
  exact ⟨r, rfl, HR.out, GF.out⟩

end Go.Proofs.Ytfjpdeoldcfhdaa
