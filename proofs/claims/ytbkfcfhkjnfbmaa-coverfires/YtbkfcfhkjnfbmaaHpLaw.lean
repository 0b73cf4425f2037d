/- The walk of the law CoverFires. -/
import Derived.Test.YtbkfcfhkjnfbmaaHpFire
import Derived.Test.YtbkfcfhkjnfbmaaHpRef
import Derived.Test.YtbkfcfhkjnfbmaaRWord1
namespace Go.Proofs.Ytbkfcfhkjnfbmaa
open Go.RowKit
set_option linter.unusedVariables false
set_option linter.unusedSimpArgs false

set_option maxHeartbeats 3200000 in
set_option maxRecDepth 100000 in
theorem fires_walk (x : Hp) (s : List Int) (k : Int) (a b ya : Option Addr) (c d ca : Nat) (w : World) (h : HpAt w x a b) (hs : Ints w ya s) (hm : s.length ≤ maxLen) :
    Calls Try.prog 3 #[hpV x.P a x.T.length c b x.G.length d, .slice ya s.length ca, .int .i64 k] w (Says (.bool true) w) := by
  have HC1 : Hid (∀ W, w.grownBy W none → Calls Try.prog 4 #[hpV x.P a x.T.length c b x.G.length d] W (Says (.int .i64 (checkH x)) W)) := fun W hW => checkHp_any x a b c d W (h.grown hW)
  have HC2 : Hid (∀ W, w.grownBy W none → Calls Try.prog 5 #[hpV x.P a x.T.length c b x.G.length d] W (Says (.int .i64 (checkH x)) W)) := fun W hW => checkHr_any x a b c d W (h.grown hW)
  have HFi : Hid (∀ W, w.grownBy W none → Calls Try.prog 6 #[hpV x.P a x.T.length c b x.G.length d, .slice ya s.length ca, .int .i64 k] W (FireP x s k W)) := fun W hW => fire_any x s k a b ya c d ca W (h.grown hW) (hs.grown hW) hm
  have HHe : Hid (∀ W, w.grownBy W none → Calls Try.prog 7 #[hpV x.P a x.T.length c b x.G.length d, .slice (some ⟨W.heap.size, 0, none⟩) 1 1] (W.alloc (.cells #[.slice ya s.length ca] 25)) (Says (.int .i64 (stateF x s)) (W.alloc (.cells #[.slice ya s.length ca] 25)))) := fun W hW => heapsL_any x s a b _ c d 1 _ (h.grown (grown_trans hW (grown_alloc _ _))) (rows_one (hs.grown hW) hm)
  obtain ⟨W1, hW1, g1, s1, bx1⟩ := boxH_new w x.P a x.T.length c b x.G.length d
  have HW1 : Hid (W1 = _) := hW1
  have G1 : Hid (w.grownBy W1 none) := g1
  have K1 : Hid (∀ W', W1.grownBy W' none → BoxH w.heap.size x.P a x.T.length c b x.G.length d W') := fun W' hW' => bx1.kept hW'
  have HA : Hid (HpAt w x a b ∧ Ints w ya s) := ⟨h, hs⟩
  have hmt := h.mt
  unfold maxLen at hm hmt
  obtain ⟨r, hr⟩ : ∃ r, stateF x s = r := ⟨_, rfl⟩
  rw [hr] at HHe
  have HR : Hid (stateF x s = r) := hr
  obtain ⟨ck, hck⟩ : ∃ ck, checkH x = ck := ⟨_, rfl⟩
  rw [hck] at HC1 HC2
  have f0 : (ck != ck) = false := by simp
  clear h hs hW1 g1 s1 bx1 hr hck
  obtain ⟨x0, x1, x2⟩ := K1.out W1 (grown_refl _ _)
  rw [HW1.out] at x0 x1 x2
  go_enter Try.func3, Try.ntmps3
  go_wp2_with fail
  rw [← HW1.out]
  clear x0 x1 x2 HW1
  refine (HC1.out _ G1.out).mono ?_
  rintro E w2 ⟨rfl, hg2⟩
  have G2 : Hid (W1.grownBy w2 none) := hg2
  clear hg2
  obtain ⟨x0, x1, x2⟩ := K1.out w2 G2.out
  go_wp2_with fail
  refine (HC2.out _ (grown_trans G1.out G2.out)).mono ?_
  rintro E w3 ⟨rfl, hg3⟩
  have G3 : Hid (W1.grownBy w3 none) := grown_trans G2.out hg3
  clear hg3 x0 x1 x2
  obtain ⟨x0, x1, x2⟩ := K1.out w3 G3.out
  go_wp2_with fail
  refine (HFi.out _ (grown_trans G1.out G3.out)).mono ?_
  rintro E w4 ⟨ax, cx, zx, rfl, hzi, hzl, hg4, hzx⟩
  have G4 : Hid (W1.grownBy w4 none) := grown_trans G3.out hg4
  have HZ : Hid (Ints w4 ax zx ∧ zx.length ≤ 100 ∧ zx = if fireF x s k = 0 then doneH s (x.T.getD k.toNat []) (x.G.getD k.toNat []) else []) := ⟨hzi, hzl, hzx⟩
  clear hg4 x0 x1 x2 hzi hzl hzx HC1 HC2 HFi
  obtain ⟨fe, hfe⟩ : ∃ fe, fireF x s k = fe := ⟨_, rfl⟩
  rw [hfe]
  have HFE : Hid (fireF x s k = fe) := hfe
  clear hfe
  obtain ⟨nz, hnz⟩ : ∃ nz, zx.length = nz := ⟨_, rfl⟩
  rw [hnz]
  have HNZ : Hid (zx.length = nz) := hnz
  clear hnz
  obtain ⟨x0, x1, x2⟩ := K1.out w4 G4.out
  have HH4 := HHe.out w4 (grown_trans G1.out G4.out)
  have HH5 : Hid (Calls _ _ _ _ _) := HH4
  clear HH4 HHe
  go_wp2_with fail
  refine HH5.out.mono ?_
  rintro E w5 ⟨rfl, hg5⟩
  have G45 : Hid (w4.grownBy w5 none) := grown_trans (grown_alloc _ _) hg5
  have G5 : Hid (W1.grownBy w5 none) := grown_trans G4.out G45.out
  have GF5 : Hid (w.grownBy w5 none) := grown_trans G1.out G5.out
  clear hg5 x0 x1 x2 HH5
  by_cases r0 : r = 0
  case neg =>
    have r1 : (r == 0) = false := by simpa using r0
    have r2 : (r != 0) = true := by simpa using r0
    have e1 : fe = r := by rw [← HFE.out]; unfold fireF; rw [if_pos (by rw [HR.out]; exact r0)]; exact HR.out
    have e2 : nz = 0 := by
      have h1 := HZ.out.2.2
      rw [HFE.out, e1, if_neg r0] at h1
      rw [← HNZ.out, h1]
      rfl
    subst e1 e2
    have r3 : (fe == fe) = true := by simp
    clear r0
    go_wp2_with fail
    go_ret
    exact ⟨rfl, GF5.out⟩
  have r1 : (r == 0) = true := by simpa using r0
  have r2 : (r != 0) = false := by simpa using r0
  have HS0 : Hid (stateF x s = 0) := HR.out.trans r0
  clear r0
  obtain ⟨x0, x1, x2⟩ := K1.out w5 G5.out
  by_cases k0 : k < 0 ∨ (x.T.length : Int) ≤ k
  · have e1 : fe = 5 := by rw [← HFE.out]; unfold fireF; rw [if_neg (by rw [HS0.out]; simp), if_pos k0]
    have e2 : nz = 0 := by
      have h1 := HZ.out.2.2
      rw [HFE.out, e1, if_neg (by decide)] at h1
      rw [← HNZ.out, h1]
      rfl
    subst e1 e2
    by_cases k1 : k < 0
    · clear k0
      go_wp2_with fail
      go_ret
      exact ⟨rfl, GF5.out⟩
    · have k2 : (x.T.length : Int) ≤ k := k0.resolve_left k1
      clear k0
      go_wp2_with fail
      go_ret
      exact ⟨rfl, GF5.out⟩
  have k1 : ¬ k < 0 := by omega
  have k2 : ¬ (x.T.length : Int) ≤ k := by omega
  obtain ⟨kn, rfl⟩ : ∃ kn : Nat, k = kn := ⟨k.toNat, by omega⟩
  have hkn : kn < x.T.length := by omega
  have hkn' : (kn : Int) < (x.T.length : Int) := by omega
  have hst : checkH x = 0 ∧ rowF s x.P 10 = 0 := by
    have h1 := HS0.out
    unfold stateF at h1
    by_cases e : checkH x = 0
    · rw [if_pos e] at h1; exact ⟨e, h1⟩
    · rw [if_neg e] at h1; exact absurd h1 e
  have hGood := good_of_checkH hst.1
  obtain ⟨hlen, hone⟩ := of_rowF hst.2
  have p4 := hGood.p4
  have hts := hGood.ts kn hkn
  obtain ⟨ba, oa, rfl, hca⟩ := (HA.out.1.t.grown GF5.out).at hkn
  obtain ⟨yt, ct, q1, hz1, _⟩ := hca kn hkn
  have HCv : Hid (∀ W, w5.grownBy W none → Calls Try.prog 8 #[.slice ya s.length ca, .slice yt (x.T.getD kn []).length ct] W (TellsB (CanH s (x.T.getD kn [])) W)) := fun W hW => covers_any s (x.T.getD kn []) ya yt ca ct W (HA.out.2.grown (grown_trans GF5.out hW)) (hz1.grown hW) (by omega) (by omega)
  have HDo : Hid (∀ W, w.grownBy W none → Calls Try.prog 9 #[hpV x.P (some ⟨ba, oa, none⟩) x.T.length c b x.G.length d, .slice ya s.length ca, .int .i64 kn] W (RowD (doneH s (x.T.getD kn []) (x.G.getD kn [])) W)) := fun W hW => done_any x s kn (some ⟨ba, oa, none⟩) b ya c d ca W (HA.out.1.grown hW) hGood hkn (HA.out.2.grown hW) hlen hone
  have hl4 : s.length ≤ 4 := by omega
  clear hca hz1
  generalize (x.T.getD kn []).length = nt at *
  go_wp2_with fail
  refine (HCv.out _ (grown_refl _ _)).mono ?_
  rintro E w6 ⟨cn, rfl, hcn, hg6⟩
  have G6 : Hid (W1.grownBy w6 none) := grown_trans G5.out hg6
  have G46 : Hid (w4.grownBy w6 none) := grown_trans G45.out hg6
  have GF6 : Hid (w.grownBy w6 none) := grown_trans G1.out G6.out
  clear hg6 x0 x1 x2 q1 HCv
  cases cn with
  | false =>
    have hnc : ¬ CanH s (x.T.getD kn []) := fun q => by have := hcn.2 q; cases this
    have e1 : fe = 6 := by rw [← HFE.out]; unfold fireF; rw [if_neg (by rw [HS0.out]; simp), if_neg (by omega), if_neg (by simpa using hnc)]
    have e2 : nz = 0 := by
      have h1 := HZ.out.2.2
      rw [HFE.out, e1, if_neg (by decide)] at h1
      rw [← HNZ.out, h1]
      rfl
    subst e1 e2
    clear hcn hnc
    go_wp2_with fail
    go_ret
    exact ⟨rfl, GF6.out⟩
  | true =>
  have hyc : CanH s (x.T.getD kn []) := hcn.1 rfl
  have e1 : fe = 0 := by rw [← HFE.out]; unfold fireF; rw [if_neg (by rw [HS0.out]; simp), if_neg (by omega), if_pos (by simpa using hyc)]
  have e2 : zx = doneH s (x.T.getD kn []) (x.G.getD kn []) := by
    have h1 := HZ.out.2.2
    rw [HFE.out, e1, if_pos rfl] at h1
    exact h1
  subst e1
  have HZ2 : Hid (Ints w4 ax (doneH s (x.T.getD kn []) (x.G.getD kn []))) := e2 ▸ HZ.out.1
  have HN2 : Hid ((doneH s (x.T.getD kn []) (x.G.getD kn [])).length = nz ∧ nz ≤ 100) := ⟨e2 ▸ HNZ.out, by rw [← HNZ.out]; exact HZ.out.2.1⟩
  clear hcn hyc e2 HZ HNZ HFE
  generalize doneH s (x.T.getD kn []) (x.G.getD kn []) = zd at *
  obtain ⟨x0, x1, x2⟩ := K1.out w6 G6.out
  go_wp2_with fail
  refine (HDo.out _ GF6.out).mono ?_
  rintro E w7 ⟨ad, cd, rfl, hid, hg7⟩
  have G47 : Hid (w4.grownBy w7 none) := grown_trans G46.out hg7
  have GF7 : Hid (w.grownBy w7 none) := grown_trans GF6.out hg7
  have HWo : Hid (Calls Try.prog 10 #[.slice ax nz cx, .slice ad zd.length cd] w7 (TellsB (SameW zd zd) w7)) := by
    have hmz : zd.length ≤ maxLen := by have := HN2.out; unfold maxLen; omega
    have h1 := wordsR_any ax ad cx cd zd zd w7 (HZ2.out.grown G47.out) hid hmz hmz
    rw [HN2.out.1] at h1 ⊢
    exact h1
  clear hid hg7 x0 x1 x2
  generalize zd.length = nd at *
  go_wp2_with fail
  refine HWo.out.mono ?_
  rintro E w8 ⟨sm, rfl, hsm, hg8⟩
  have e3 : sm = true := hsm.2 rfl
  subst e3
  have GF : Hid (w.grownBy w8 none) := grown_trans GF7.out hg8
  clear hsm hg8
  go_wp2_with fail
  go_ret
  exact ⟨rfl, GF.out⟩

end Go.Proofs.Ytbkfcfhkjnfbmaa
