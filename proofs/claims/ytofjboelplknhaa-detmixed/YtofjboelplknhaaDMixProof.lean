/- DetMixed holds: whatever two automata and whatever table come in, in whatever memory, shared or not, the program makes the one least automaton of what the table wants and finds the first word at which the two differ, as the reference does; it writes nothing that was there; there are no conditions. -/
import Derived.Test.YtofjboelplknhaaDMixW
import Derived.Test.YtofjboelplknhaaRMix
import Derived.Test.YtofjboelplknhaaRSame
import Derived.Test.YtofjboelplknhaaBDiff
import Derived.Test.YtofjboelplknhaaLKey
import Derived.Test.YtofjboelplknhaaRWalk
import Derived.Test.YtofjboelplknhaaRApartW
import Derived.Test.YtofjboelplknhaaRWords
import Derived.Test.YtofjboelplknhaaRNoDet
import Derived.Test.YtofjboelplknhaaDRCheck
import Derived.SizedLaws
namespace Go.Proofs.Ytofjboelplknhaa
open Go.ChangeShapes Go.WideShapes Go.ChangeAt Go.RowKit Go.Joins
set_option linter.unusedVariables false

theorem dmix_walk (L S L' S' t : Int) (R R' : List (List Int)) (M M' : List Int) (a a' e e' : Option Addr) (c c' f f' : Nat) (w : World) (hD : DetAt w ⟨L, S, R, M⟩ a a') (hE : DetAt w ⟨L', S', R', M'⟩ e e') :
    Calls Try.prog 4 #[detV L S a R.length c a' M.length c', detV L' S' e R'.length f e' M'.length f', .int .i64 t] w (Says (.bool true) w) := by
  have HCa : ∀ W, w.grownBy W none → Calls Try.prog 13 #[detV L S a R.length c a' M.length c'] W (Says (.int .i64 (checkF ⟨L, S, R, M⟩)) W) := fun W hW => checkR_any L S R M a a' c c' W (hD.grown hW)
  have HCb : ∀ W, w.grownBy W none → Calls Try.prog 13 #[detV L' S' e R'.length f e' M'.length f'] W (Says (.int .i64 (checkF ⟨L', S', R', M'⟩)) W) := fun W hW => checkR_any L' S' R' M' e e' f f' W (hE.grown hW)
  have HN0 : Hid (∀ W, Calls Try.prog 14 #[detV 0 0 none 0 0 none 0 0] W (Says (.bool true) W)) := fun W => (noDet_any 0 0 0 0 none none 0 0 W (by omega) (by omega)).mono fun e w' h => says_of_tells h ⟨rfl, rfl, rfl⟩
  by_cases hb : bothF ⟨L, S, R, M⟩ ⟨L', S', R', M'⟩ = 0
  · obtain ⟨hG, hG2, hLL⟩ := bothF_good hb
    simp only at hLL
    subst hLL
    rw [checkF_good hG] at HCa
    rw [checkF_good hG2] at HCb
    have hL1 : 1 ≤ L := hG.l1
    have hL4 : L ≤ 4 := hG.l4
    have hn3 : R.length ≤ 3000 := hG.n3
    have hk3 : R'.length ≤ 3000 := hG2.n3
    have hs1 : 0 ≤ S ∧ S < (R.length : Int) := hG.s
    have hs2 : 0 ≤ S' ∧ S' < (R'.length : Int) := hG2.s
    obtain ⟨l, rfl⟩ : ∃ l : Nat, L = l := ⟨L.toNat, by omega⟩
    obtain ⟨st, rfl⟩ : ∃ st : Nat, S = st := ⟨S.toNat, by omega⟩
    obtain ⟨st', rfl⟩ : ∃ st' : Nat, S' = st' := ⟨S'.toNat, by omega⟩
    obtain ⟨T, hT⟩ : ∃ T, tell2 (Dfa.nx ⟨l, st, R, M⟩) (Dfa.nx ⟨l, st', R', M'⟩) (Dfa.mk1 ⟨l, st, R, M⟩) (Dfa.mk1 ⟨l, st', R', M'⟩) st st' = T := ⟨_, rfl⟩
    have HDf : Hid (∀ W, w.grownBy W none → Calls Try.prog 20 #[detV l st a R.length c a' M.length c', detV l st' e R'.length f e' M'.length f'] W (WPost3 (fun zs is => FirstOf T l zs is ∧ zs.length ≤ 100000000) W)) := fun W hW => by
      refine (differ_good l st st' R R' M M' a a' e e' c c' f f' W (hD.grown hW) hG (hE.grown hW) hG2).mono ?_
      rintro E w' ⟨zs, is, az, cz, rfl, h2, h3, h4, h5⟩
      rw [hT] at h2
      exact ⟨zs, is, az, cz, rfl, ⟨h2, h3⟩, h4.ints.2, h5⟩
    have HAr : Hid (∀ W, w.grownBy W none → Calls Try.prog 17 #[detV l st a R.length c a' M.length c', detV l st' e R'.length f e' M'.length f', .int .i64 (st : Nat), .int .i64 (st' : Nat)] W (WPost2 (fun zs is => FirstOf T l zs is ∧ zs.length ≤ 100000000) W)) := fun W hW => by
      have h1 := apartR_any l st l st' R R' M M' a a' e e' c c' f f' st st' W (hD.grown hW) hG (hE.grown hW) hG2 (by omega) (by omega) (fun W' hW' => walkedR_any l st st' R R' M M' a a' e e' c c' f f' st st' W' (hD.grown (grown_trans hW hW')) hG (hE.grown (grown_trans hW hW')) hG2 (by omega) (by omega))
      refine h1.mono ?_
      rintro E w' ⟨zs, is, az, cz, rfl, h2, h3, h4, h5⟩
      rw [hT] at h2
      simp only [Int.toNat_natCast] at h2
      exact ⟨zs, is, az, cz, rfl, ⟨h2, h3⟩, h4, h5⟩
    have HWd : Hid (∀ W az cz az' cz' (zs : List Nat) is, (FirstOf T l zs is ∧ zs.length ≤ 100000000) → Ints W az (natInts zs) → Ints W az' (natInts zs) → Calls Try.prog 18 #[.slice az zs.length cz, .slice az' zs.length cz'] W (Says (.bool true) W)) := fun W az cz az' cz' zs is h1 i1 i2 => by
      have h3 := wordsR_any az az' cz cz' (natInts zs) (natInts zs) W i1 i2 (by rw [List.length_map]; unfold maxLen; omega) (by rw [List.length_map]; unfold maxLen; omega)
      rw [List.length_map] at h3
      exact h3.mono fun e w' h => says_of_tells h rfl
    have HF : Hid (∀ zs is zs' is', (FirstOf T l zs is ∧ zs.length ≤ 100000000) → (FirstOf T l zs' is' ∧ zs'.length ≤ 100000000) → zs = zs' ∧ is = is') := fun zs is zs' is' h1 h2 => FirstOf.one (by omega) h1.1 h2.1
    obtain ⟨N, hN⟩ : ∃ N, R.length * R'.length = N := ⟨_, rfl⟩
    have hN9 : N ≤ 9000000 := by have h2 := Nat.mul_le_mul hn3 hk3; omega
    have hNw : IntKind.i64.wrap ((R.length : Int) * (R'.length : Int)) = (N : Int) := by rw [show (R.length : Int) * (R'.length : Int) = (N : Int) by rw [← hN]; simp, IntKind.wrap_i64]; omega
    by_cases hg : 0 ≤ t ∧ t ≤ 15 ∧ N ≤ 3000
    · obtain ⟨ht0, ht1, hN3⟩ := hg
      obtain ⟨κ, hκ⟩ := ner_key (nx2 ⟨l, st, R, M⟩ ⟨l, st', R', M'⟩ R'.length) (mk2 t ⟨l, st, R, M⟩ ⟨l, st', R', M'⟩ R'.length) N l
      have HMx : Hid (∀ W, w.grownBy W none → Calls Try.prog 19 #[detV l st a R.length c a' M.length c', detV l st' e R'.length f e' M'.length f', .int .i64 t] W (LeastGPost (nx2 ⟨l, st, R, M⟩ ⟨l, st', R', M'⟩ R'.length) (mk2 t ⟨l, st, R, M⟩ ⟨l, st', R', M'⟩ R'.length) N l (st * R'.length + st') W)) := fun W hW => by
        have h1 := mixed_good st st' t l R R' M M' a a' e e' c c' f f' W (hD.grown hW) hG (hE.grown hW) hG2 ⟨ht0, ht1⟩ (by omega)
        rw [hN] at h1
        exact h1
      have HMr : Hid (∀ W, w.grownBy W none → Calls Try.prog 21 #[detV l st a R.length c a' M.length c', detV l st' e R'.length f e' M'.length f', .int .i64 t] W (LeastPost (nx2 ⟨l, st, R, M⟩ ⟨l, st', R', M'⟩ R'.length) (mk2 t ⟨l, st, R, M⟩ ⟨l, st', R', M'⟩ R'.length) N l (st * R'.length + st') W)) := fun W hW => by
        have h1 := mixedR_any st st' t l R R' M M' a a' e e' c c' f f' W (hD.grown hW) hG (hE.grown hW) hG2 ⟨ht0, ht1⟩ (by omega)
        rw [hN] at h1
        exact h1
      have HNo : Hid (∀ W (L S : Int) aR nR cR aM nM cM, nR ≤ 3000 → nM ≤ 3000 → Calls Try.prog 14 #[detV L S aR nR cR aM nM cM] W (TellsAny W)) := fun W L S aR nR cR aM nM cM h1 h2 => (noDet_any L S nR nM aR aM cR cM W (by omega) (by omega)).mono fun e w' ⟨b, h, _, hg⟩ => ⟨b, h, hg⟩
      exact dmix_C t l st st' N (st * R'.length + st') a a' e e' R.length M.length R'.length M'.length c c' f f' w _ _ _ (by omega) hN3 hNw (by omega) (by omega) (by omega) HMx HDf HCa HCb HAr HWd HF HNo HMr (fun W aR cR aM cM aR' cR' aM' cM' rs rs' M1 M2 h1 h2 d1 d2 => by
        obtain ⟨e1, e2⟩ := h1.eq h2 hκ
        have h3 := same_any l 0 l 0 (rs.map (·.2)) (rs'.map (·.2)) M1 M2 aR aM aR' aM' cR cM cR' cM' W d1 d2
        rw [List.length_map, List.length_map] at h3
        exact h3.mono fun e w' h => says_of_tells h (by rw [e1, e2]; rfl))
    · obtain ⟨y, hy, hty⟩ : ∃ y, mixF ⟨l, st, R, M⟩ ⟨l, st', R', M'⟩ t = y ∧ ((t < 0 ∧ y = 2) ∨ (¬ t < 0 ∧ 15 < t ∧ y = 2) ∨ (¬ t < 0 ∧ ¬ 15 < t ∧ 3000 < (N : Int) ∧ y = 7)) := by
        refine ⟨_, rfl, ?_⟩
        unfold mixF
        rw [hb]
        simp only [ne_eq, not_true_eq_false, if_false, hN]
        by_cases h1 : t < 0
        · left; exact ⟨h1, by rw [if_pos (.inl h1)]⟩
        · right
          by_cases h2 : 15 < t
          · left; exact ⟨h1, h2, by rw [if_pos (.inr h2)]⟩
          · right
            have h3 : 3000 < N := by
              rcases Nat.lt_or_ge 3000 N with h3 | h3
              · exact h3
              · exact absurd ⟨by omega, by omega, h3⟩ hg
            exact ⟨h1, h2, by omega, by rw [if_neg (by omega), if_pos h3]⟩
      have hy0 : mixF ⟨l, st, R, M⟩ ⟨l, st', R', M'⟩ t ≠ 0 := by omega
      have HMx : Hid (∀ W, w.grownBy W none → Calls Try.prog 19 #[detV l st a R.length c a' M.length c', detV l st' e R'.length f e' M'.length f', .int .i64 t] W (Says (.tuple #[detV 0 0 none 0 0 none 0 0, .int .i64 y]) W)) := fun W hW => by
        have h1 := mixed_bad l st l st' t R R' M M' a a' e e' c c' f f' W (hD.grown hW) (hE.grown hW) hy0
        rw [hy] at h1
        exact h1
      exact dmix_B t y l st st' N a a' e e' R.length M.length R'.length M'.length c c' f f' w _ hNw hty HMx HDf HCa HCb HAr HWd HF HN0
  · have hmx : mixF ⟨L, S, R, M⟩ ⟨L', S', R', M'⟩ t = bothF ⟨L, S, R, M⟩ ⟨L', S', R', M'⟩ := by unfold mixF; rw [if_pos hb]
    have HMx : Hid (∀ W, w.grownBy W none → Calls Try.prog 19 #[detV L S a R.length c a' M.length c', detV L' S' e R'.length f e' M'.length f', .int .i64 t] W (Says (.tuple #[detV 0 0 none 0 0 none 0 0, .int .i64 (bothF ⟨L, S, R, M⟩ ⟨L', S', R', M'⟩)]) W)) := fun W hW => by
      have h1 := mixed_bad L S L' S' t R R' M M' a a' e e' c c' f f' W (hD.grown hW) (hE.grown hW) (by rw [hmx]; exact hb)
      rw [hmx] at h1
      exact h1
    have HDf : Hid (∀ W, w.grownBy W none → Calls Try.prog 20 #[detV L S a R.length c a' M.length c', detV L' S' e R'.length f e' M'.length f'] W (Says (.tuple #[.slice none 0 0, .bool false, .int .i64 (bothF ⟨L, S, R, M⟩ ⟨L', S', R', M'⟩)]) W)) := fun W hW => differ_bad L S L' S' R R' M M' a a' e e' c c' f f' W (hD.grown hW) (hE.grown hW) hb
    refine dmix_A L S L' S' t _ _ _ a a' e e' R.length M.length R'.length M'.length c c' f f' w hb ?_ HMx HDf HCa HCb HN0
    unfold bothF
    simp only
    by_cases h1 : checkF ⟨L, S, R, M⟩ = 0
    · by_cases h2 : checkF ⟨L', S', R', M'⟩ = 0
      · by_cases h3 : L = L'
        · exact absurd (by subst h3; unfold bothF; simp [h1, h2]) hb
        · right; right; exact ⟨h1, h2, h3, by simp [h1, h2, h3]⟩
      · right; left; exact ⟨h1, h2, by simp [h1, h2]⟩
    · left; exact ⟨h1, by simp [h1]⟩

theorem dmix_own : ownKnob Try.prog.godebug = none := by kernel_rfl

set_option maxRecDepth 100000 in
theorem dmix_lifted (os : Os) (started : os.Started) (H : Type) (enc : TypeId × Value → H) :
    ReturnsInHanded {} Try.checked os 4 .any (Rows.detMixedSpec.pre6 enc Try.prog Try.f4 Rows.detMixedRow.domain false) (Rows.detMixedSpec.post enc Try.prog Try.f4 false true false false) := by
  refine returnsInHanded_of_change_sized (C := Try.checked) dmix_own started (by kernel_rfl) Try.func4
    (ChangeSpec.witness6 (enc := enc) (C := Try.checked) false ⟨#[], #[.agg #[.int .i64 0, .int .i64 0, .slice none 0 0, .slice none 0 0], .agg #[.int .i64 0, .int .i64 0, .slice none 0 0, .slice none 0 0], .int .i64 0], []⟩ 8 (by kernel_rfl) (by kernel_rfl) (by kernel_rfl) (by kernel_rfl)) ?_
  intro W base args ds gs before hval0 hW hcnd hsz0 _
  have hval : ∀ (j : Nat) t v, Try.f4.params[j]? = some t → args[j]? = some v → Value.okWide Try.prog W .any base t v := hval0
  have hW' := hW
  obtain ⟨p, q, hA0, hV, rfl, hfz, hnd⟩ := hW
  have hA : DataW.TrodAll enc Try.prog W 0 (fun _ => true) true Try.f4.params.toList args.toList ds p := hA0
  rw [Try.params4] at hA hval
  obtain ⟨v0, vs0, d0, ds0, p0, q0, hargs, rfl, rfl, h0, r0⟩ := trodAll_cons hA
  obtain ⟨v1, vs1, d1, ds1, p1, q1, rfl, rfl, rfl, h1, r1⟩ := trodAll_cons r0
  obtain ⟨v2, vs2, d2, ds2, p2, q2, rfl, rfl, rfl, h2, r2⟩ := trodAll_cons r1
  obtain ⟨rfl, rfl, rfl⟩ := trodAll_nil r2
  obtain rfl : args = #[v0, v1, v2] := by cases args; simp_all
  obtain ⟨rfl, rfl⟩ := trodVars_none hV
  have lt0 : ∀ x ∈ p0, x.block < W.heap.size := by obtain ⟨m, hm⟩ := h0; exact DataW.trod_lt m _ _ _ hm
  have lt1 : ∀ x ∈ p1, x.block < W.heap.size := by obtain ⟨m, hm⟩ := h1; exact DataW.trod_lt m _ _ _ hm
  obtain ⟨n2, rfl, rfl, rfl, wn2⟩ := open_int Try.underlying3 (hval 2 3 v2 rfl rfl) h2
  obtain ⟨L, S, a, c, R, a', c', M, rfl, hD, _, _⟩ := det_of_trod (hval 0 25 v0 rfl rfl) h0
  obtain ⟨L', S', e, f, R', e', f', M', rfl, hE, _, _⟩ := det_of_trod (hval 1 25 v1 rfl rfl) h1
  clear hA0 hval0 hsz0
  refine (dmix_walk L S L' S' n2 R R' M M' a a' e e' c c' f f' W hD hE).mono fun E W' ⟨he, hg⟩ => ?_
  subst he
  have bel : Below W.heap.size W W' := below_of_grown hg
  exact ⟨_, rfl, _, _, _, [], _, [], hW', trodAll_mk1 (shut_bool Try.underlying4 _), (trodAll_cons_mk (Below.trod Try.laidOut (by kernel_rfl) (of_decide_eq_true (by kernel_rfl)) h0 bel lt0) (trodAll_cons_mk (Below.trod Try.laidOut (by kernel_rfl) (of_decide_eq_true (by kernel_rfl)) h1 bel lt1) (trodAll_cons_mk (shut_int Try.underlying3 wn2) trodAll_mk0))), rfl, bel.frame _, fun h => by cases h⟩

theorem detMixed_holds : Rows.DetMixedSaid :=
  OpenClaim.holds_of_wide 4 Try.f4 rfl rfl rfl rfl rfl rfl rfl ⟨rfl, rfl, rfl, rfl, rfl⟩ rfl rfl rfl rfl rfl (by kernel_rfl) Try.func4 (by kernel_rfl)
    (of_decide_eq_true (by kernel_rfl)) (by unfold Func.isWrapper; first | (rw [if_pos (by decide +kernel)]; kernel_rfl) | (rw [if_neg (by decide +kernel)]; exact ⟨rfl, rfl⟩))
    (fun os started H enc _ => dmix_lifted os started H enc)
#print axioms detMixed_holds
end Go.Proofs.Ytofjboelplknhaa
