/- det.Differ: the first word that just one of two accepts. -/
import Derived.Test.YtmbbkjpfmmnabaaDoorBMixed
import Derived.Test.YtmbbkjpfmmnabaaDoorBBes
import Derived.Test.YtmbbkjpfmmnabaaDoorAApart
import Derived.Test.YtmbbkjpfmmnabaaDoorLMath
import Derived.BigRegion
import Derived.Deep.RegionWith
import Derived.Deep.RegionLaw
import Derived.Deep.RegionHeld3
namespace Go.Proofs.YtmbbkjpfmmnabaaDoor
open Go.RowKit
set_option linter.unusedVariables false

theorem FirstOf.congr {T T' : List Nat → Bool} {l : Nat} {zs : List Nat} {is : Bool} (h : FirstOf T l zs is) (hT : ∀ z, (∀ x, x ∈ z → x < l) → T z = T' z) : FirstOf T' l zs is := by
  obtain ⟨h1, h2⟩ := h
  refine ⟨h1, ?_⟩
  rcases h2 with ⟨e, h3, h4⟩ | ⟨e, h3, h4⟩
  · exact .inl ⟨e, by rw [← hT zs h1]; exact h3, fun z hz ht => h4 z hz (by rw [hT z hz]; exact ht)⟩
  · exact .inr ⟨e, h3, fun z hz => by rw [← hT z hz]; exact h4 z hz⟩

section
variable {l : Nat} {S S' S2 : Int} {R R' : List (List Int)} {M M' : List Int}
theorem bes_nx1 {s a : Nat} (hs : s < R.length) : Dfa.nx ⟨l, S2, besR R R', M ++ M'⟩ s a = Dfa.nx ⟨l, S, R, M⟩ s a := by
  unfold Dfa.nx
  simp only
  rw [besR_fst hs]
theorem bes_nx2 (hG2 : Good ⟨l, S', R', M'⟩) {s a : Nat} (hs : s < R'.length) (ha : a < l) : Dfa.nx ⟨l, S2, besR R R', M ++ M'⟩ (R.length + s) a = R.length + Dfa.nx ⟨l, S', R', M'⟩ s a := by
  have hr := hG2.row (s := s) hs
  simp only [Int.toNat_natCast] at hr
  have h1 := hG2.r s hs a (by simp only; omega)
  simp only at h1
  unfold Dfa.nx
  simp only
  rw [besR_snd hs]
  have e : ((R'.getD s []).map fun x => (R.length : Int) + x).getD a 0 = (R.length : Int) + (R'.getD s []).getD a 0 := by
    have ha2 : a < (R'.getD s []).length := by omega
    simp only [List.getD, List.getElem?_map]
    rw [List.getElem?_eq_getElem (by simpa [List.getD] using ha2)]
    rfl
  rw [e]
  omega
theorem bes_fold1 (hG : Good ⟨l, S, R, M⟩) (z : List Nat) : ∀ s, s < R.length → (∀ x, x ∈ z → x < l) → z.foldl (Dfa.nx ⟨l, S2, besR R R', M ++ M'⟩) s = z.foldl (Dfa.nx ⟨l, S, R, M⟩) s ∧ z.foldl (Dfa.nx ⟨l, S, R, M⟩) s < R.length := by
  induction z with
  | nil => intro s hs _; exact ⟨rfl, hs⟩
  | cons a z ih =>
    intro s hs hz
    simp only [List.foldl_cons]
    rw [bes_nx1 (S := S) hs]
    exact ih _ (hG.nx_lt hs (by simp; exact hz a (by simp))) (fun x hx => hz x (by simp [hx]))
theorem bes_fold2 (hG2 : Good ⟨l, S', R', M'⟩) (z : List Nat) : ∀ s, s < R'.length → (∀ x, x ∈ z → x < l) → z.foldl (Dfa.nx ⟨l, S2, besR R R', M ++ M'⟩) (R.length + s) = R.length + z.foldl (Dfa.nx ⟨l, S', R', M'⟩) s ∧ z.foldl (Dfa.nx ⟨l, S', R', M'⟩) s < R'.length := by
  induction z with
  | nil => intro s hs _; exact ⟨rfl, hs⟩
  | cons a z ih =>
    intro s hs hz
    simp only [List.foldl_cons]
    rw [bes_nx2 hG2 hs (hz a (by simp))]
    exact ih _ (hG2.nx_lt hs (by simp; exact hz a (by simp))) (fun x hx => hz x (by simp [hx]))
theorem bes_mk1 (hG : Good ⟨l, S, R, M⟩) {i : Nat} (hi : i < R.length) : Dfa.mk1 ⟨l, S2, besR R R', M ++ M'⟩ i = Dfa.mk1 ⟨l, S, R, M⟩ i := by
  have hml : M.length = R.length := hG.ml
  have e : (M ++ M').getD i 0 = M.getD i 0 := by simp only [List.getD]; rw [List.getElem?_append_left (by omega)]
  show decide ((M ++ M').getD i 0 = 1) = decide (M.getD i 0 = 1)
  rw [e]
theorem bes_mk2 (hG : Good ⟨l, S, R, M⟩) {i : Nat} : Dfa.mk1 ⟨l, S2, besR R R', M ++ M'⟩ (R.length + i) = Dfa.mk1 ⟨l, S', R', M'⟩ i := by
  have hml : M.length = R.length := hG.ml
  have e : (M ++ M').getD (R.length + i) 0 = M'.getD i 0 := by simp only [List.getD]; rw [List.getElem?_append_right (by omega), hml, Nat.add_sub_cancel_left]
  show decide ((M ++ M').getD (R.length + i) 0 = 1) = decide (M'.getD i 0 = 1)
  rw [e]
theorem bes_tell (hG : Good ⟨l, S, R, M⟩) (hG2 : Good ⟨l, S', R', M'⟩) {p q : Nat} (hp : p < R.length) (hq : q < R'.length) (z : List Nat) (hz : ∀ x, x ∈ z → x < l) : tellT (Dfa.nx ⟨l, S2, besR R R', M ++ M'⟩) (Dfa.mk1 ⟨l, S2, besR R R', M ++ M'⟩) p (R.length + q) z = tell2 (Dfa.nx ⟨l, S, R, M⟩) (Dfa.nx ⟨l, S', R', M'⟩) (Dfa.mk1 ⟨l, S, R, M⟩) (Dfa.mk1 ⟨l, S', R', M'⟩) p q z := by
  obtain ⟨e1, h1⟩ := bes_fold1 (R' := R') (M' := M') (S2 := S2) hG z p hp hz
  obtain ⟨e2, h2⟩ := bes_fold2 (R := R) (M := M) (S2 := S2) hG2 z q hq hz
  unfold tellT tell2
  rw [e1, e2, bes_mk1 hG h1, bes_mk2 (S' := S') hG]
end

set_option maxHeartbeats 1600000 in
set_option maxRecDepth 100000 in
theorem differ_bad (L S L' S' : Int) (R R' : List (List Int)) (M M' : List Int) (a a' e e' : Option Addr) (c c' f f' : Nat) (w : World) (h : DetAt w ⟨L, S, R, M⟩ a a') (h2 : DetAt w ⟨L', S', R', M'⟩ e e') (hb : bothF ⟨L, S, R, M⟩ ⟨L', S', R', M'⟩ ≠ 0) :
    Calls Tryd.prog 18 #[detV L S a R.length c a' M.length c', detV L' S' e R'.length f e' M'.length f'] w (ApartNPost (bothF ⟨L, S, R, M⟩ ⟨L', S', R', M'⟩) w) := by
  have HC : Hid (∀ W, w.grownBy W none → Calls Tryd.prog 34 #[detV L S a R.length c a' M.length c', detV L' S' e R'.length f e' M'.length f'] W (Says (.int .i64 (bothF ⟨L, S, R, M⟩ ⟨L', S', R', M'⟩)) W)) := fun W hW => checkBoth_any L S L' S' R R' M M' a a' e e' c c' f f' W (h.grown hW) (h2.grown hW)
  generalize bothF ⟨L, S, R, M⟩ ⟨L', S', R', M'⟩ = y at *
  have f1 : (y != 0) = true := by simpa using hb
  have HG : Hid (∀ o o', w.grownBy ((w.alloc o).alloc o') none) := fun o o' => grown_trans (grown_alloc _ _) (grown_alloc _ _)
  clear h h2 hb
  go_enter Tryd.func18, Tryd.ntmps18
  go_wp2_with fail
  refine (HC.out _ (HG.out _ _)).mono ?_
  rintro E w2 ⟨rfl, hg2⟩
  have G2 : Hid (w.grownBy w2 none) := grown_trans (HG.out _ _) hg2
  clear hg2
  go_wp2_with fail
  exact bodyPost_ret (v := .tuple #[.slice none 0 0, .bool false, .int .i64 y]) (by simp [results, Tryd.results18, go_sem]) rfl ⟨rfl, G2.out⟩

theorem keep8 {W1 W W' : World} {b b' : Nat} {v0 v1 v2 v3 u0 u1 u2 u3 : Value} (h : W1.grownBy W none ∧ W.cell? ⟨b, 0, none⟩ = some v0 ∧ W.cell? ⟨b, 1, none⟩ = some v1 ∧ W.cell? ⟨b, 2, none⟩ = some v2 ∧ W.cell? ⟨b, 3, none⟩ = some v3 ∧ W.cell? ⟨b', 0, none⟩ = some u0 ∧ W.cell? ⟨b', 1, none⟩ = some u1 ∧ W.cell? ⟨b', 2, none⟩ = some u2 ∧ W.cell? ⟨b', 3, none⟩ = some u3) (hg : W.grownBy W' none) :
    W1.grownBy W' none ∧ W'.cell? ⟨b, 0, none⟩ = some v0 ∧ W'.cell? ⟨b, 1, none⟩ = some v1 ∧ W'.cell? ⟨b, 2, none⟩ = some v2 ∧ W'.cell? ⟨b, 3, none⟩ = some v3 ∧ W'.cell? ⟨b', 0, none⟩ = some u0 ∧ W'.cell? ⟨b', 1, none⟩ = some u1 ∧ W'.cell? ⟨b', 2, none⟩ = some u2 ∧ W'.cell? ⟨b', 3, none⟩ = some u3 := by
  obtain ⟨h0, h1, h2, h3, h4, h5, h6, h7, h8⟩ := h
  exact ⟨grown_trans h0 hg, hg.cell h1 (by simp), hg.cell h2 (by simp), hg.cell h3 (by simp), hg.cell h4 (by simp), hg.cell h5 (by simp), hg.cell h6 (by simp), hg.cell h7 (by simp), hg.cell h8 (by simp)⟩

set_option maxHeartbeats 1600000 in
set_option maxRecDepth 100000 in
theorem differ_good (l st st' : Nat) (R R' : List (List Int)) (M M' : List Int) (a a' e e' : Option Addr) (c c' f f' : Nat) (w : World) (h : DetAt w ⟨l, st, R, M⟩ a a') (hG : Good ⟨l, st, R, M⟩) (h2 : DetAt w ⟨l, st', R', M'⟩ e e') (hG2 : Good ⟨l, st', R', M'⟩) :
    Calls Tryd.prog 18 #[detV l st a R.length c a' M.length c', detV l st' e R'.length f e' M'.length f'] w (ApartGPost (tell2 (Dfa.nx ⟨l, st, R, M⟩) (Dfa.nx ⟨l, st', R', M'⟩) (Dfa.mk1 ⟨l, st, R, M⟩) (Dfa.mk1 ⟨l, st', R', M'⟩) st st') l w) := by
  have hn3 : R.length ≤ 3000 := hG.n3
  have hk3 : R'.length ≤ 3000 := hG2.n3
  have hs : st < R.length := by have := hG.s; simp only at this; omega
  have hs' : st' < R'.length := by have := hG2.s; simp only at this; omega
  have HC : Hid (∀ W, w.grownBy W none → Calls Tryd.prog 34 #[detV l st a R.length c a' M.length c', detV l st' e R'.length f e' M'.length f'] W (Says (.int .i64 0) W)) := fun W hW => by
    have h1 := checkBoth_any l st l st' R R' M M' a a' e e' c c' f f' W (h.grown hW) (h2.grown hW)
    have e1 : bothF ⟨l, st, R, M⟩ ⟨l, st', R', M'⟩ = 0 := by unfold bothF; rw [checkF_good hG, checkF_good hG2]; simp
    rw [e1] at h1
    exact h1
  have HB : Hid (∀ W, w.grownBy W none → Calls Tryd.prog 40 #[detV l st a R.length c a' M.length c', detV l st' e R'.length f e' M'.length f'] W (BesPost l st (besR R R') (M ++ M') W)) := fun W hW => beside_any st st' l R R' M M' a a' e e' c c' f f' W (h.grown hW) hG (h2.grown hW) hG2
  have HA : Hid (∀ W aN cN aM cM, DetAt W ⟨l, st, besR R R', M ++ M'⟩ aN aM → Calls Tryd.prog 39 #[detV l st aN (besR R R').length cN aM (M ++ M').length cM, .int .i64 (st : Nat), .int .i64 ((R.length + st' : Nat) : Int)] W (ApartPost (tell2 (Dfa.nx ⟨l, st, R, M⟩) (Dfa.nx ⟨l, st', R', M'⟩) (Dfa.mk1 ⟨l, st, R, M⟩) (Dfa.mk1 ⟨l, st', R', M'⟩) st st') l W)) := fun W aN cN aM cM hd => by
    have h1 := apartP_any l st (besR R R') (M ++ M') aN aM cN cM st (R.length + st') W hd (bes_fit hG hG2) (by rw [besR_len]; omega) (by rw [besR_len]; omega)
    refine h1.mono ?_
    rintro E w' ⟨zs, is, az, cz, hE, hF, hl, ho, hg⟩
    exact ⟨zs, is, az, cz, hE, FirstOf.congr hF (fun z hz => bes_tell hG hG2 hs hs' z (by simpa using hz)), hl, ho, hg⟩
  obtain ⟨nB, hnB⟩ : ∃ nB, (besR R R').length = nB := ⟨_, rfl⟩
  obtain ⟨mB, hmB⟩ : ∃ mB, (M ++ M').length = mB := ⟨_, rfl⟩
  unfold BesPost at HB
  rw [hnB, hmB] at HB HA
  clear hnB hmB
  obtain ⟨T, hT⟩ : ∃ T, tell2 (Dfa.nx ⟨l, st, R, M⟩) (Dfa.nx ⟨l, st', R', M'⟩) (Dfa.mk1 ⟨l, st, R, M⟩) (Dfa.mk1 ⟨l, st', R', M'⟩) st st' = T := ⟨_, rfl⟩
  rw [hT] at HA ⊢
  obtain ⟨W0, hW0, g0, s0, bx0⟩ := box_new w (.int .i64 (l : Int)) (.int .i64 (st : Int)) (.slice a R.length c) (.slice a' M.length c') 25
  obtain ⟨W1, hW1, g1, s1, bx1⟩ := box_new W0 (.int .i64 (l : Int)) (.int .i64 (st' : Int)) (.slice e R'.length f) (.slice e' M'.length f') 25
  rw [s0] at bx1
  have HW1 : Hid (W1 = (w.alloc (.cells #[.int .i64 (l : Int), .int .i64 (st : Int), .slice a R.length c, .slice a' M.length c'] 25)).alloc (.cells #[.int .i64 (l : Int), .int .i64 (st' : Int), .slice e R'.length f, .slice e' M'.length f'] 25)) := by show _ = _; rw [hW1, hW0]
  have G1 : Hid (w.grownBy W1 none) := grown_trans g0 g1
  have Ba : Hid (∀ W', W1.grownBy W' none → W'.cell? ⟨w.heap.size, 0, none⟩ = some (.int .i64 (l : Int)) ∧ W'.cell? ⟨w.heap.size, 1, none⟩ = some (.int .i64 (st : Int)) ∧ W'.cell? ⟨w.heap.size, 2, none⟩ = some (.slice a R.length c) ∧ W'.cell? ⟨w.heap.size, 3, none⟩ = some (.slice a' M.length c')) := fun W' hW' => bx0 W' (grown_trans g1 hW')
  have Bb : Hid (∀ W', W1.grownBy W' none → W'.cell? ⟨w.heap.size + 1, 0, none⟩ = some (.int .i64 (l : Int)) ∧ W'.cell? ⟨w.heap.size + 1, 1, none⟩ = some (.int .i64 (st' : Int)) ∧ W'.cell? ⟨w.heap.size + 1, 2, none⟩ = some (.slice e R'.length f) ∧ W'.cell? ⟨w.heap.size + 1, 3, none⟩ = some (.slice e' M'.length f')) := bx1
  have hadd : IntKind.i64.wrap ((R.length : Int) + (st' : Int)) = ((R.length + st' : Nat) : Int) := by rw [IntKind.wrap_i64]; omega
  clear h h2 hG hG2 hW0 hW1 g0 g1 s0 s1 bx0 bx1 hT
  generalize R.length + st' = sq at *
  go_enter Tryd.func18, Tryd.ntmps18
  go_wp2_with fail
  rw [← HW1.out]
  refine (HC.out _ G1.out).mono ?_
  rintro E w2 ⟨rfl, hg2⟩
  have G2 : Hid (W1.grownBy w2 none) := hg2
  obtain ⟨a0, a1, a2, a3⟩ := Ba.out _ hg2
  obtain ⟨e0, e1, e2, e3⟩ := Bb.out _ hg2
  clear hg2
  have S0 : W1.grownBy w2 none ∧ w2.cell? ⟨w.heap.size, 0, none⟩ = some (.int .i64 (l : Int)) ∧ w2.cell? ⟨w.heap.size, 1, none⟩ = some (.int .i64 (st : Int)) ∧ w2.cell? ⟨w.heap.size, 2, none⟩ = some (.slice a R.length c) ∧ w2.cell? ⟨w.heap.size, 3, none⟩ = some (.slice a' M.length c') ∧ w2.cell? ⟨w.heap.size + 1, 0, none⟩ = some (.int .i64 (l : Int)) ∧ w2.cell? ⟨w.heap.size + 1, 1, none⟩ = some (.int .i64 (st' : Int)) ∧ w2.cell? ⟨w.heap.size + 1, 2, none⟩ = some (.slice e R'.length f) ∧ w2.cell? ⟨w.heap.size + 1, 3, none⟩ = some (.slice e' M'.length f') := ⟨G2.out, a0, a1, a2, a3, e0, e1, e2, e3⟩
  clear a0 a1 a2 a3 e0 e1 e2 e3
  go_wp2_with fail
  go_region_held3 (fun W => W1.grownBy W none ∧ W.cell? ⟨w.heap.size, 0, none⟩ = some (.int .i64 (l : Int)) ∧ W.cell? ⟨w.heap.size, 1, none⟩ = some (.int .i64 (st : Int)) ∧ W.cell? ⟨w.heap.size, 2, none⟩ = some (.slice a R.length c) ∧ W.cell? ⟨w.heap.size, 3, none⟩ = some (.slice a' M.length c') ∧ W.cell? ⟨w.heap.size + 1, 0, none⟩ = some (.int .i64 (l : Int)) ∧ W.cell? ⟨w.heap.size + 1, 1, none⟩ = some (.int .i64 (st' : Int)) ∧ W.cell? ⟨w.heap.size + 1, 2, none⟩ = some (.slice e R'.length f) ∧ W.cell? ⟨w.heap.size + 1, 3, none⟩ = some (.slice e' M'.length f'))
    (first | (with_reducible exact keep8 S0 (grown_drew (grown_refl _ _))) | (with_reducible exact keep8 (by assumption) hg3) | (with_reducible exact keep8 (by assumption) hg4))
    (first | (go_at_call 40; refine (HB.out _ (grown_trans G1.out (by with_reducible assumption : W1.grownBy _ none ∧ _ ∧ _ ∧ _ ∧ _ ∧ _ ∧ _ ∧ _ ∧ _).1)).mono ?_; rintro E w3 ⟨aN, cN, aM, cM, rfl, hd3, hg3⟩; have D3 : Hid (DetAt w3 ⟨l, st, besR R R', M ++ M'⟩ aN aM) := hd3; have G3 : Hid (w.grownBy w3 none) := (grown_trans G1.out (keep8 (by with_reducible assumption) hg3).1)) | (go_at_call 39; refine (HA.out _ _ _ _ _ D3.out).mono ?_; rintro E w4 ⟨zs, is, az, cz, rfl, hF4, hl4, ho4, hg4⟩; have Fin : Hid (ApartGPost T l w (.returned (.tuple #[.slice az zs.length cz, .bool is, .int .i64 0])) w4) := ⟨zs, is, az, cz, rfl, hF4, hl4, ho4.base G3.out.size, grown_trans G3.out hg4⟩))
  all_goals
    clear hF4 hl4 ho4 hg4
    generalize zs.length = nz at *
    go_wp2_with fail
    exact bodyPost_ret (v := .tuple #[.slice az nz cz, .bool is, .int .i64 0]) (by simp [results, Tryd.results18, go_sem]) rfl Fin.out

end Go.Proofs.YtmbbkjpfmmnabaaDoor
