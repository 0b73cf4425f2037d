/- DetLaws holds: whatever two automata come in, in whatever memory, shared or not, automata keep the laws of sets, where the library's table holds what its initialiser lays; the law writes nothing that was there. -/
import Derived.Test.YtmbbkjpfmmnabaaDoorKLawsW
import Derived.Test.YtmbbkjpfmmnabaaDoorKLang
import Derived.Test.YtmbbkjpfmmnabaaDoorKAlike
import Derived.Test.YtmbbkjpfmmnabaaDoorPCl
import Derived.Test.YtmbbkjpfmmnabaaDoorBDiff
import Derived.Test.YtmbbkjpfmmnabaaDoorPLaid
namespace Go.Proofs.YtmbbkjpfmmnabaaDoor
open Go.ChangeShapes Go.WideShapes Go.ChangeAt Go.RowKit Go.Joins
set_option linter.unusedVariables false

def MadeAt (P : List (List Int) → List Int → Prop) (l : Nat) (W : World) (p : Option Addr) (n c : Nat) (q : Option Addr) (m d : Nat) : Prop := ∃ R M, P R M ∧ n = R.length ∧ m = M.length ∧ DetAt W ⟨l, 0, R, M⟩ p q
theorem MadeAt.kept {P : List (List Int) → List Int → Prop} {l : Nat} {W W' : World} {p : Option Addr} {n c : Nat} {q : Option Addr} {m d : Nat} (h : MadeAt P l W p n c q m d) (hg : W.grownBy W' none) : MadeAt P l W' p n c q m d := by
  obtain ⟨R, M, h1, h2, h3, h4⟩ := h
  exact ⟨R, M, h1, h2, h3, h4.grown hg⟩
/-- What a least automaton that is made leaves behind, also where a block ahead of it turns. -/
theorem least_at {δ : Nat → Nat → Nat} {mk : Nat → Bool} {n l S : Nat} {W : World} {E : Ending} {w' : World} (hn : n ≤ 3000) (hl4 : l ≤ 4) (h : LeastGPost δ mk n l S W E w') :
    ∃ R M p c q d, LeastOf δ mk n l S R M ∧ E = .returned (.tuple #[detV l 0 p R.length c q M.length d, .int .i64 0]) ∧ W.grownBy w' none ∧ DetAt w' ⟨l, 0, R, M⟩ p q ∧ ∀ g W'', g < W.heap.size → w'.grownBy W'' (some g) → DetAt W'' ⟨l, 0, R, M⟩ p q := by
  obtain ⟨v, rfl, aR, cR, aM, cM, rs, M, he, hlo, hn7, hm7, hr7, ho7, hg7⟩ := h
  simp only [Ending.returned.injEq] at he
  subst he
  have key : ∀ w'', Owns W.heap.size w'' ((22, .slice aR rs.length cR, rs.map (·.1)) :: (3, .slice aM M.length cM, vals M) :: rowItems rs) → DetAt w'' ⟨l, 0, rs.map (·.2), M⟩ aR aM := fun w'' ho => det_of_owns (L := l) (S := 0) (its := []) (by rw [List.append_nil]; exact ho) (fun x hx => by rw [hr7 x hx]; unfold maxLen; omega) (by unfold maxLen; omega) (by unfold maxLen; omega)
  exact ⟨rs.map (·.2), M, aR, cR, aM, cM, hlo, by rw [List.length_map], hg7, key _ ho7, fun g W'' hg hW => key _ (ho7.below hW hg)⟩

theorem dlaws_walk (L S L' S' : Int) (R R' : List (List Int)) (M M' : List Int) (a a' e e' : Option Addr) (c c' f f' : Nat) (w : World) (hD : DetAt w ⟨L, S, R, M⟩ a a') (hE : DetAt w ⟨L', S', R', M'⟩ e e') (hT : Tab32 w) :
    Calls Tryd.prog 4 #[detV L S a R.length c a' M.length c', detV L' S' e R'.length f e' M'.length f'] w (Says (.bool true) w) := by
  have HC : Hid (∀ W, w.grownBy W none → Calls Tryd.prog 14 #[] W (Says (.bool true) W)) := fun W hW => closed_any W (hT.kept hW (by simp))
  by_cases hb : mixF ⟨L, S, R, M⟩ ⟨L', S', R', M'⟩ 8 = 0
  · have hb0 : bothF ⟨L, S, R, M⟩ ⟨L', S', R', M'⟩ = 0 := by
      unfold mixF at hb
      by_cases h0 : bothF ⟨L, S, R, M⟩ ⟨L', S', R', M'⟩ = 0
      · exact h0
      · rw [if_pos h0] at hb; exact absurd hb h0
    have hN : R.length * R'.length ≤ 3000 := by
      unfold mixF at hb
      rw [if_neg (by simpa using hb0), if_neg (by omega)] at hb
      by_cases h0 : 3000 < R.length * R'.length
      · rw [if_pos h0] at hb; cases hb
      · omega
    obtain ⟨hG, hG2, hLL⟩ := bothF_good hb0
    simp only at hLL
    subst hLL
    have hL1 : 1 ≤ L := hG.l1
    have hL4 : L ≤ 4 := hG.l4
    obtain ⟨l, rfl⟩ : ∃ l : Nat, L = l := ⟨L.toNat, by omega⟩
    have hmix : ∀ t : Int, 0 ≤ t ∧ t ≤ 15 → ∀ W, w.grownBy W none → Calls Tryd.prog 15 #[detV l S a R.length c a' M.length c', detV l S' e R'.length f e' M'.length f', .int .i64 t] W (MxG l (MadeAt (MixOf t ⟨l, S, R, M⟩ ⟨l, S', R', M'⟩ l) l) W) := fun t ht W hW => by
      refine (mixed_good S S' t l R R' M M' a a' e e' c c' f f' W (hD.grown hW) hG (hE.grown hW) hG2 ht hN).mono ?_
      intro E w' h
      obtain ⟨Rm, Mm, p, c1, q, d1, h1, rfl, h3, h4, _⟩ := least_at hN (by omega) h
      exact ⟨p, _, c1, q, _, d1, rfl, ⟨Rm, Mm, h1, rfl, rfl, h4⟩, h3⟩
    have hback : ∀ (t t2 : Int), 0 ≤ t2 ∧ t2 ≤ 15 → (∀ Ro Mo Rl Ml Rb Mb, MixOf t ⟨l, S, R, M⟩ ⟨l, S', R', M'⟩ l Ro Mo → LstOf ⟨l, S, R, M⟩ l Rl Ml → MixOf t2 ⟨l, S, R, M⟩ ⟨l, 0, Ro, Mo⟩ l Rb Mb → Rb = Rl ∧ Mb = Ml) →
        ∀ W p n1 c1 q m1 d1 p' n' c2 q' m' d', w.grownBy W none → MadeAt (MixOf t ⟨l, S, R, M⟩ ⟨l, S', R', M'⟩ l) l W p n1 c1 q m1 d1 → MadeAt (LstOf ⟨l, S, R, M⟩ l) l W p' n' c2 q' m' d' →
        Calls Tryd.prog 15 #[detV l S a R.length c a' M.length c', detV l 0 p n1 c1 q m1 d1, .int .i64 t2] W (MxE (fun w' v => ∀ g W'', g < W.heap.size → w'.grownBy W'' (some g) → MadeAt (LstOf ⟨l, S, R, M⟩ l) l W'' p' n' c2 q' m' d' → Calls Tryd.prog 17 #[v, detV l 0 p' n' c2 q' m' d'] W'' (Says (.bool true) W'')) W) := by
      intro t t2 ht2 hlaw W p n1 c1 q m1 d1 p' n' c2 q' m' d' hW hXo hXl
      obtain ⟨Ro, Mo, ho1, rfl, rfl, ho4⟩ := hXo
      have hGo := ho1.good hG hG2 rfl rfl hN
      by_cases hn : R.length * Ro.length ≤ 3000
      · refine (mixed_good S 0 t2 l R Ro M Mo a a' p q c c' c1 d1 W (hD.grown hW) hG ho4 hGo ht2 hn).mono ?_
        intro E w' h
        obtain ⟨Rb, Mb, pb, cb, qb, db, h1, rfl, h3, h4, h5⟩ := least_at hn (by omega) h
        refine ⟨_, _, _, _, _, _, _, _, _, rfl, fun _ g W'' hg hW2 hXl2 => ?_, h3⟩
        obtain ⟨Rl, Ml, k1, rfl, rfl, k4⟩ := hXl2
        obtain ⟨rfl, rfl⟩ := hlaw _ _ _ _ _ _ ho1 k1 h1
        exact alike_same l 0 Rb Mb pb qb p' q' cb db c2 d' W'' (h5 g W'' hg hW2) k4
      · have hm : mixF ⟨l, S, R, M⟩ ⟨l, 0, Ro, Mo⟩ t2 = 7 := by
          unfold mixF
          have e1 : bothF ⟨l, S, R, M⟩ ⟨l, 0, Ro, Mo⟩ = 0 := by unfold bothF; rw [checkF_good hG, checkF_good hGo]; simp
          rw [e1, if_neg (by simp), if_neg (by omega), if_pos (by simp only; omega)]
        have h1 := mixed_bad l S l 0 t2 R Ro M Mo a a' p q c c' c1 d1 W (hD.grown hW) ho4 (by rw [hm]; decide)
        rw [hm] at h1
        refine h1.mono ?_
        rintro E w' ⟨rfl, hg⟩
        exact ⟨0, 0, none, 0, 0, none, 0, 0, 7, rfl, fun h => absurd h (by decide), hg⟩
    refine dlaws_good l l S l S' a a' e e' R.length M.length R'.length M'.length c c' f f' w (MadeAt (MixOf 8 ⟨l, S, R, M⟩ ⟨l, S', R', M'⟩ l) l) (MadeAt (MixOf 14 ⟨l, S, R, M⟩ ⟨l, S', R', M'⟩ l) l) (MadeAt (MixOf 1 ⟨l, S, R, M⟩ ⟨l, S', R', M'⟩ l) l) (MadeAt (LstOf ⟨l, S, R, M⟩ l) l)
      (fun _ _ _ _ _ _ _ _ h hg => h.kept hg) (fun _ _ _ _ _ _ _ _ h hg => h.kept hg) (fun _ _ _ _ _ _ _ _ h hg => h.kept hg) (fun _ _ _ _ _ _ _ _ h hg => h.kept hg) HC (hmix 8 (by omega)) (hmix 14 (by omega)) (hmix 1 (by omega)) ?_
      (hback 14 8 (by omega) fun Ro Mo Rl Ml Rb Mb h1 h2 h3 => law_and_or hG hG2 rfl rfl hN h1 h2 h3) (hback 8 14 (by omega) fun Ro Mo Rl Ml Rb Mb h1 h2 h3 => law_or_and hG hG2 rfl rfl hN h1 h2 h3) ?_ ?_
    · intro W hW
      refine (leastE_good l S R M a a' c c' W (hD.grown hW) hG).mono ?_
      intro E w' h
      obtain ⟨Rm, Mm, p, c1, q, d1, h1, rfl, h3, h4, _⟩ := least_at hG.n3 (by omega) h
      exact ⟨p, _, c1, q, _, d1, rfl, ⟨Rm, Mm, h1, rfl, rfl, h4⟩, h3⟩
    · intro W p n1 c1 q m1 d1 p' n' c2 q' m' d' hXo hXn
      obtain ⟨Ro, Mo, ho1, rfl, rfl, ho4⟩ := hXo
      obtain ⟨Rn, Mn, hn1, rfl, rfl, hn4⟩ := hXn
      refine (differ_good l 0 0 Ro Rn Mo Mn p q p' q' c1 d1 c2 d' W ho4 (ho1.good hG hG2 rfl rfl hN) hn4 (hn1.good hG hG2 rfl rfl hN)).mono ?_
      rintro E w' ⟨zs, is, az, cz, rfl, hF, _, _, hg⟩
      obtain ⟨rfl, rfl⟩ := law_differ hG hG2 rfl rfl ho1 hn1 hF
      exact ⟨az, cz, rfl, hg⟩
    · intro W p n1 c1 q m1 d1 hXl
      obtain ⟨Rl, Ml, hl1, rfl, rfl, hl4⟩ := hXl
      have hGl := hl1.good hG rfl
      refine (leastE_good l 0 Rl Ml p q c1 d1 W hl4 hGl).mono ?_
      intro E w' h
      obtain ⟨Rm, Mm, pm, cm, qm, dm, h1, rfl, h3, h4, _⟩ := least_at hGl.n3 (by omega) h
      obtain ⟨rfl, rfl⟩ := law_again hG rfl hl1 h1
      exact ⟨pm, _, cm, qm, _, dm, rfl, fun W'' hW2 => alike_same l 0 Rm Mm pm qm p q cm dm c1 d1 W'' (h4.grown hW2) (hl4.grown (grown_trans h3 hW2)), h3⟩
  · refine dlaws_bad L S L' S' _ a a' e e' R.length M.length R'.length M'.length c c' f f' w hb HC fun W hW => ?_
    exact mixed_bad L S L' S' 8 R R' M M' a a' e e' c c' f f' W (hD.grown hW) (hE.grown hW) hb

set_option maxRecDepth 100000 in
theorem dlaws_lifted (os : Os) (started : os.Started) (H : Type) (enc : TypeId × Value → H) :
    ReturnsInHanded {} Tryd.checked os 4 .any (fun w args => (Rows.detLawsSpec.pre enc Tryd.prog Tryd.f4 [] false w args ∧ laidMetH Tryd.prog laid32 w) ∧ sizedMet enc Tryd.prog Tryd.f4 (OpenSpec.ofChange Rows.detLawsSpec) false w args)
      (Rows.detLawsSpec.post enc Tryd.prog Tryd.f4 false true false false) := by
  refine returnsInHanded_of_change_and (C := Tryd.checked) (X := fun w _ => laidMetH Tryd.prog laid32 w) (fun _ _ _ hh h => h.of_heap hh) own32 started (by kernel_rfl) Tryd.func4
    (ChangeSpec.witness_shaped (enc := enc) (C := Tryd.checked) (os := os) (X := fun w _ => laidMetH Tryd.prog laid32 w) false (World.doorLaid Tryd.prog 400 os) #[.agg #[.int .i64 0, .int .i64 0, .slice none 0 0, .slice none 0 0], .agg #[.int .i64 0, .int .i64 0, .slice none 0 0, .slice none 0 0]] 8 rfl (World.shaped_of_RefB (by kernel_rfl) (by kernel_rfl)) (by kernel_rfl) (by kernel_rfl) (by kernel_rfl) (door32 os _)) ?_
  intro W base args ds gs before hval0 hW _ _ hL _
  have hval : ∀ (j : Nat) t v, Tryd.f4.params[j]? = some t → args[j]? = some v → Value.okWide Tryd.prog W .any base t v := hval0
  have hW' := hW
  obtain ⟨p, q, hA0, hV, rfl, hfz, hnd⟩ := hW
  have hA : DataW.TrodAll enc Tryd.prog W 0 (fun _ => true) true Tryd.f4.params.toList args.toList ds p := hA0
  rw [Tryd.params4] at hA hval
  obtain ⟨v0, vs0, d0, ds0, p0, q0, hargs, rfl, rfl, h0, r0⟩ := trodAll_cons hA
  obtain ⟨v1, vs1, d1, ds1, p1, q1, rfl, rfl, rfl, h1, r1⟩ := trodAll_cons r0
  obtain ⟨rfl, rfl, rfl⟩ := trodAll_nil r1
  obtain rfl : args = #[v0, v1] := by cases args; simp_all
  obtain ⟨rfl, rfl⟩ := trodVars_none hV
  have lt0 : ∀ x ∈ p0, x.block < W.heap.size := by obtain ⟨m, hm⟩ := h0; exact DataW.trod_lt m _ _ _ hm
  have lt1 : ∀ x ∈ p1, x.block < W.heap.size := by obtain ⟨m, hm⟩ := h1; exact DataW.trod_lt m _ _ _ hm
  obtain ⟨L, S, a, c, R, a', c', M, rfl, hD, _, _⟩ := det_of_trod (hval 0 25 v0 rfl rfl) h0
  obtain ⟨L', S', e, f, R', e', f', M', rfl, hE, _, _⟩ := det_of_trod (hval 1 25 v1 rfl rfl) h1
  have hT := tab32_of_laid hL
  clear hA0 hval0
  refine (dlaws_walk L S L' S' R R' M M' a a' e e' c c' f f' W hD hE hT).mono fun E W' ⟨he, hg⟩ => ?_
  subst he
  have bel : Below W.heap.size W W' := below_of_grown hg
  exact ⟨_, rfl, _, _, _, [], _, [], hW', trodAll_mk1 (shut_bool Tryd.underlying4 _), (trodAll_cons_mk (Below.trod Tryd.laidOut (by kernel_rfl) (of_decide_eq_true (by kernel_rfl)) h0 bel lt0) (trodAll_cons_mk (Below.trod Tryd.laidOut (by kernel_rfl) (of_decide_eq_true (by kernel_rfl)) h1 bel lt1) trodAll_mk0)), rfl, bel.frame _, fun h => by cases h⟩

theorem detLaws_holds : Rows.DetLawsSaid :=
  OpenClaim.holds_of_wide 4 Tryd.f4 rfl rfl rfl rfl rfl rfl rfl ⟨rfl, rfl, rfl, rfl, rfl⟩ rfl rfl rfl rfl rfl (by kernel_rfl) Tryd.func4 (by kernel_rfl)
    (of_decide_eq_true (by kernel_rfl)) (by unfold Func.isWrapper; first | (rw [if_pos (by decide +kernel)]; kernel_rfl) | (rw [if_neg (by decide +kernel)]; exact ⟨rfl, rfl⟩))
    (fun os started H enc _ => dlaws_lifted os started H enc)
#print axioms detLaws_holds
end Go.Proofs.YtmbbkjpfmmnabaaDoor
