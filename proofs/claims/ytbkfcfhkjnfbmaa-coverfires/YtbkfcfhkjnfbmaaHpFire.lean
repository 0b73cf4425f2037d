/- cover.Fire. -/
import Derived.Test.YtbkfcfhkjnfbmaaHpState
import Derived.Test.YtbkfcfhkjnfbmaaHpBehind
import Derived.Test.YtbkfcfhkjnfbmaaHpRow
namespace Go.Proofs.Ytbkfcfhkjnfbmaa
open Go.RowKit
set_option linter.unusedVariables false
set_option linter.unusedSimpArgs false

open Classical in
/-- What Fire's error is. -/
noncomputable def fireF (x : Hp) (s : List Int) (k : Int) : Int :=
  if stateF x s ≠ 0 then stateF x s else if k < 0 ∨ (x.T.length : Int) ≤ k then 5 else if CanH s (x.T.getD k.toNat []) then 0 else 6
/-- What Fire answers. -/
def FireP (x : Hp) (s : List Int) (k : Int) (w : World) (e : Ending) (w' : World) : Prop :=
  ∃ a c zs, e = .returned (.tuple #[.slice a zs.length c, .int .i64 (fireF x s k)]) ∧ Ints w' a zs ∧ zs.length ≤ 100 ∧ w.grownBy w' none ∧ zs = if fireF x s k = 0 then doneH s (x.T.getD k.toNat []) (x.G.getD k.toNat []) else []
theorem fireP_bad {x : Hp} {s : List Int} {k r : Int} {w w' : World} (h : fireF x s k = r) (hr : r ≠ 0) (hg : w.grownBy w' none) : FireP x s k w (.returned (.tuple #[.slice none 0 0, .int .i64 r])) w' :=
  ⟨none, 0, [], by rw [h]; rfl, .inl rfl, by simp, hg, by rw [h, if_neg hr]⟩

theorem boxW_new (w : World) (P : Int) (a : Option Addr) (nT c : Nat) (b : Option Addr) (nG d : Nat) : ∃ W, W = w.alloc (.cells #[.int .i64 P, .slice a nT c, .slice b nG d, .slice none 0 0, .map none, .int .i64 0, .int .i64 0, .slice none 0 0] 46) ∧ w.grownBy W none ∧ BoxH w.heap.size P a nT c b nG d W := by
  have hb := heap_alloc_new w (.cells #[.int .i64 P, .slice a nT c, .slice b nG d, .slice none 0 0, .map none, .int .i64 0, .int .i64 0, .slice none 0 0] 46)
  exact ⟨_, rfl, grown_alloc _ _, by rw [cell_of_row _ _ 0 _ _ (0, 0) hb]; rfl, by rw [cell_of_row _ _ 1 _ _ (0, 0) hb]; rfl, by rw [cell_of_row _ _ 2 _ _ (0, 0) hb]; rfl⟩
theorem done_of (s t g : List Int) : firstF (negF (stpF (negF fun i => s.getD i 0) t g s.length)) s.length = doneH s t g := by
  unfold firstF doneH
  apply List.map_congr_left
  intro i hi
  have hi' : i < s.length := List.mem_range.1 hi
  simp only [negF, stpF, if_pos hi']
  omega
theorem can_of (s t : List Int) : (∀ i, i < s.length → negF (fun i => s.getD i 0) i + t.getD i 0 ≤ 0) ↔ CanH s t :=
  ⟨fun h i hi => by have := h i hi; simp only [negF] at this; omega, fun h i hi => by have := h i hi; simp only [negF]; omega⟩

set_option maxHeartbeats 3200000 in
set_option maxRecDepth 100000 in
theorem fire_any (x : Hp) (s : List Int) (k : Int) (a b ya : Option Addr) (c d ca : Nat) (w : World) (h : HpAt w x a b) (hs : Ints w ya s) (hm : s.length ≤ maxLen) :
    Calls Try.prog 6 #[hpV x.P a x.T.length c b x.G.length d, .slice ya s.length ca, .int .i64 k] w (FireP x s k w) := by
  have HC : Hid (∀ W, w.grownBy W none → Calls Try.prog 14 #[hpV x.P a x.T.length c b x.G.length d, .slice (some ⟨W.heap.size, 0, none⟩) 1 1] (W.alloc (.cells #[.slice ya s.length ca] 25)) (Says (.int .i64 (stateF x s)) (W.alloc (.cells #[.slice ya s.length ca] 25)))) := fun W hW => checkAll_any x s a b _ c d 1 _ (h.grown (grown_trans hW (grown_alloc _ _))) (rows_one (hs.grown hW) hm)
  obtain ⟨W1, hW1, g1, s1, bx1⟩ := boxH_new w x.P a x.T.length c b x.G.length d
  have HW1 : Hid (W1 = _) := hW1
  have G1 : Hid (w.grownBy W1 none) := g1
  have K1 : Hid (∀ W', W1.grownBy W' none → BoxH w.heap.size x.P a x.T.length c b x.G.length d W') := fun W' hW' => bx1.kept hW'
  have HA : Hid (HpAt w x a b ∧ Ints w ya s) := ⟨h, hs⟩
  obtain ⟨r, hr⟩ : ∃ r, stateF x s = r := ⟨_, rfl⟩
  rw [hr] at HC
  have HR : Hid (stateF x s = r) := hr
  have hmt := h.mt
  unfold maxLen at hm hmt
  have HC1 := HC.out W1 G1.out
  rw [s1] at HC1
  have HCs : Hid (Calls _ _ _ _ _) := HC1
  clear h hs hW1 g1 s1 bx1 hr HC HC1
  obtain ⟨x0, x1, x2⟩ := K1.out W1 (grown_refl _ _)
  rw [HW1.out] at x0 x1 x2
  go_enter Try.func6, Try.ntmps6
  go_wp2_with fail
  rw [← HW1.out]
  clear x0 x1 x2
  refine HCs.out.mono ?_
  rintro E w2 ⟨rfl, hg2⟩
  have G2 : Hid (W1.grownBy w2 none) := grown_trans (grown_alloc _ _) hg2
  have GF2 : Hid (w.grownBy w2 none) := grown_trans G1.out G2.out
  clear hg2 HW1
  by_cases r0 : r = 0
  case neg =>
    have r1 : (r != 0) = true := by simpa using r0
    have HF : Hid (FireP x s k w (.returned (.tuple #[.slice none 0 0, .int .i64 r])) w2) := fireP_bad (by unfold fireF; rw [if_pos (by rw [HR.out]; exact r0)]; exact HR.out) r0 GF2.out
    clear r0
    go_wp2_with fail
    exact bodyPost_ret (v := .tuple #[.slice none 0 0, .int .i64 r]) (by simp [results, Try.results6, go_sem]) rfl HF.out
  have r1 : (r != 0) = false := by simpa using r0
  have HS0 : Hid (stateF x s = 0) := HR.out.trans r0
  clear r0
  obtain ⟨x0, x1, x2⟩ := K1.out w2 G2.out
  by_cases k0 : k < 0
  · have HF : Hid (FireP x s k w (.returned (.tuple #[.slice none 0 0, .int .i64 5])) w2) := fireP_bad (by unfold fireF; rw [if_neg (by rw [HS0.out]; simp), if_pos (.inl k0)]) (by decide) GF2.out
    go_wp2_with fail
    exact bodyPost_ret (v := .tuple #[.slice none 0 0, .int .i64 5]) (by simp [results, Try.results6, go_sem]) rfl HF.out
  by_cases k1 : (x.T.length : Int) ≤ k
  · have HF : Hid (FireP x s k w (.returned (.tuple #[.slice none 0 0, .int .i64 5])) w2) := fireP_bad (by unfold fireF; rw [if_neg (by rw [HS0.out]; simp), if_pos (.inr k1)]) (by decide) GF2.out
    go_wp2_with fail
    exact bodyPost_ret (v := .tuple #[.slice none 0 0, .int .i64 5]) (by simp [results, Try.results6, go_sem]) rfl HF.out
  obtain ⟨kn, rfl⟩ : ∃ kn : Nat, k = kn := ⟨k.toNat, by omega⟩
  have hkn : kn < x.T.length := by omega
  have hst : checkH x = 0 ∧ rowF s x.P 10 = 0 := by
    have h1 := HS0.out
    unfold stateF at h1
    by_cases e : checkH x = 0
    · rw [if_pos e] at h1; exact ⟨e, h1⟩
    · rw [if_neg e] at h1; exact absurd h1 e
  have hGood := good_of_checkH hst.1
  obtain ⟨hlen, hone⟩ := of_rowF hst.2
  have p4 := hGood.p4
  have p1 := hGood.p1
  have hn : x.P.toNat = s.length := by omega
  have hn4 : s.length ≤ 4 := by omega
  obtain ⟨W5, hW5, g5, bw5⟩ := boxW_new w2 x.P a x.T.length c b x.G.length d
  have HW5 : Hid (W5 = _) := hW5
  have G5 : Hid (w.grownBy W5 none) := grown_trans GF2.out g5
  have BW : Hid (∀ W, W5.grownBy W none → BoxH w2.heap.size x.P a x.T.length c b x.G.length d W) := fun W hW => bw5.kept hW
  have HLk : Hid (∀ W, w.grownBy W none → Calls Try.prog 16 #[.slice ya s.length ca] W (Says (pilV (negF fun i => s.getD i 0)) W)) := fun W hW => lacks_any s ya ca W (HA.out.2.grown hW) hn4 hone
  have hf : ∀ i, -1000 ≤ negF (fun i => s.getD i 0) i ∧ negF (fun i => s.getD i 0) i ≤ 1000 := fun i => by
    simp only [negF]
    by_cases e : i < s.length
    · have := hone i e; omega
    · have : s.getD i 0 = 0 := by simp [List.getD, Nat.not_lt.1 e]
      omega
  have HBe : Hid (∀ W, W5.grownBy W none → Calls Try.prog 15 #[.pointer (some ⟨w2.heap.size, 0, none⟩), pilV (negF fun i => s.getD i 0), .int .i64 kn] W (BehP (negF fun i => s.getD i 0) (x.T.getD kn []) (x.G.getD kn []) s.length W)) := fun W hW => hn ▸ behind_any (negF fun i => s.getD i 0) x a b c d w2.heap.size kn W (BW.out W hW) (HA.out.1.grown (grown_trans G5.out hW)) hGood hkn hf
  have hf2 : ∀ i, -1000 ≤ stpF (negF fun i => s.getD i 0) (x.T.getD kn []) (x.G.getD kn []) s.length i ∧ stpF (negF fun i => s.getD i 0) (x.T.getD kn []) (x.G.getD kn []) s.length i ≤ 1000 := fun i => by
    simp only [stpF]
    have h1 := hf i
    split
    · rename_i e
      have := hone i e
      have h2 := hGood.ts kn hkn
      have h3 := hGood.gs kn (by rw [hGood.g]; exact hkn)
      have h4 := hGood.tw kn hkn i (by omega)
      have h5 := hGood.gw kn (by rw [hGood.g]; exact hkn) i (by omega)
      simp only [negF] at h1 ⊢
      omega
    · exact h1
  obtain ⟨y0, y1, y2⟩ := bw5
  rw [hW5] at y0 y1 y2
  have hkn' : (kn : Int) < (x.T.length : Int) := by omega
  clear hW5 g5
  go_wp2_with fail
  rw [← HW5.out]
  refine (HLk.out _ G5.out).mono ?_
  rintro E w6 ⟨rfl, hg6⟩
  have G6 : Hid (W5.grownBy w6 none) := hg6
  clear y0 y1 y2 x0 x1 x2 HLk hg6
  go_wp2_with fail
  refine (HBe.out _ G6.out).mono ?_
  rintro E w7 ⟨hE, hg7⟩
  have G7 : Hid (W5.grownBy w7 none) := grown_trans G6.out hg7
  clear hg7
  by_cases hcan : CanH s (x.T.getD kn [])
  case neg =>
    have hc := fun q => hcan ((can_of s (x.T.getD kn [])).1 q)
    rw [if_neg hc, decide_eq_false hc] at hE
    subst hE
    have HF : Hid (∀ W, w.grownBy W none → FireP x s kn w (.returned (.tuple #[.slice none 0 0, .int .i64 6])) W) := fun W hW => fireP_bad (by unfold fireF; rw [if_neg (by rw [HS0.out]; simp), if_neg (by omega), if_neg (by simpa using hcan)]) (by decide) hW
    have GA : Hid (∀ o, w.grownBy (w7.alloc o) none) := fun o => grown_trans (grown_trans G5.out G7.out) (grown_alloc _ _)
    clear hcan hc HBe HW5 hf hf2 HA
    go_wp2_with fail
    exact bodyPost_ret (v := .tuple #[.slice none 0 0, .int .i64 6]) (by simp [results, Try.results6, go_sem]) rfl (HF.out _ (GA.out _))
  have hc := (can_of s (x.T.getD kn [])).2 hcan
  rw [if_pos hc, decide_eq_true hc] at hE
  subst hE
  have HD := done_of s (x.T.getD kn []) (x.G.getD kn [])
  obtain ⟨q, hq⟩ : ∃ q, stpF (negF fun i => s.getD i 0) (x.T.getD kn []) (x.G.getD kn []) s.length = q := ⟨_, rfl⟩
  rw [hq] at hf2 HD ⊢
  have HD' : Hid (firstF (negF q) s.length = doneH s (x.T.getD kn []) (x.G.getD kn [])) := HD
  have HFi : Hid (fireF x s kn = 0) := by show _ = _; unfold fireF; rw [if_neg (by rw [HS0.out]; simp), if_neg (by omega), if_pos (by simpa using hcan)]
  obtain ⟨W8, hW8⟩ : ∃ W8, W8 = w7.alloc (.cells #[.int .i64 (q 0), .int .i64 (q 1), .int .i64 (q 2), .int .i64 (q 3)] 48) := ⟨_, rfl⟩
  have A8 : Arr4 w7.heap.size q W8 := by rw [hW8]; exact arr4_new w7 q
  have G8 : Hid (W5.grownBy W8 none) := grown_trans G7.out (by rw [hW8]; exact grown_alloc _ _)
  have HTu : Hid (∀ W, Calls Try.prog 18 #[pilV q] W (Says (pilV (negF q)) W)) := fun W => turned_any q hf2 W
  have HRo : Hid (∀ W, W5.grownBy W none → Calls Try.prog 17 #[.pointer (some ⟨w2.heap.size, 0, none⟩), pilV (negF q)] W (RowN (firstF (negF q) s.length) W)) := fun W hW => rowW_any (negF q) x.P a b _ c _ d w2.heap.size s.length W (BW.out W hW) (by omega) hn4
  have HW8 : Hid (W8 = _) := hW8
  obtain ⟨z0, z1, z2, z3, _⟩ := A8.cells
  rw [hW8] at z0 z1 z2 z3
  clear A8 hW8 HBe HW5 hf hf2 HA hcan hc HD hq
  go_wp2_with fail
  rw [← HW8.out]
  refine (HTu.out _).mono ?_
  rintro E w9 ⟨rfl, hg9⟩
  have G9 : Hid (W5.grownBy w9 none) := grown_trans G8.out hg9
  clear hg9 z0 z1 z2 z3
  go_wp2_with fail
  refine (HRo.out _ G9.out).mono ?_
  rintro E w10 ⟨ar, cr, rfl, hir, hg10⟩
  have HF : Hid (FireP x s kn w (.returned (.tuple #[.slice ar (firstF (negF q) s.length).length cr, .int .i64 0])) w10) :=
    ⟨ar, cr, firstF (negF q) s.length, by rw [HFi.out], hir, by rw [firstF_len]; omega, grown_trans (grown_trans G5.out G9.out) hg10, by rw [HFi.out, if_pos rfl, HD'.out]; rfl⟩
  clear hir hg10
  generalize (firstF (negF q) s.length).length = nz at *
  go_wp2_with fail
  exact bodyPost_ret (v := .tuple #[.slice ar nz cr, .int .i64 0]) (by simp [results, Try.results6, go_sem]) rfl HF.out

end Go.Proofs.Ytbkfcfhkjnfbmaa
