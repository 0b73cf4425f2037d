/- MonoidAlike holds: whatever automaton and words come in, in whatever memory, shared or not, the program says whether the two words do the same, or finds words ahead of and behind them that tell them apart, and refuses them as the document says otherwise; it writes over nothing that was handed in. -/
import Derived.Test.YtofjboelplknhaaMPrf
import Derived.Test.YtofjboelplknhaaMLeast
import Derived.SizedLaws
namespace Go.Proofs.Ytofjboelplknhaa
open Go.ChangeShapes Go.WideShapes Go.ChangeAt Go.RowKit Go.Joins
set_option linter.unusedVariables false

theorem may_word {l : Nat} {zs : List Int} (h : mayF l zs = 0) : ∃ us : List Nat, zs = natInts us ∧ (∀ x, x ∈ us → x < l) ∧ us.length ≤ 60 := by
  unfold mayF at h
  split at h
  · cases h
  · split at h
    · cases h
    · split at h
      · next h1 =>
        have h2 : ∀ x, x ∈ zs → 0 ≤ x ∧ x < (l : Int) := fun x hx => by simpa using List.all_eq_true.1 h1 x hx
        refine ⟨zs.map Int.toNat, ?_, ?_, by rw [List.length_map]; omega⟩
        · unfold natInts
          rw [List.map_map]
          have : zs = zs.map id := (List.map_id zs).symm
          conv => lhs; rw [this]
          refine List.map_congr_left fun x hx => ?_
          have := h2 x hx
          simp
          omega
        · intro x hx
          obtain ⟨y, hy, rfl⟩ := List.mem_map.1 hx
          have := h2 y hy
          omega
      · cases h

theorem malike_walk (L S : Int) (R : List (List Int)) (M : List Int) (a a' b b' : Option Addr) (c c' d d' : Nat) (zs zt : List Int) (w : World) (hD : DetAt w ⟨L, S, R, M⟩ a a') (iz : Ints w b zs) (it : Ints w b' zt) (mz : zs.length ≤ maxLen) (mt : zt.length ≤ maxLen) :
    Calls Try.prog 6 #[detV L S a R.length c a' M.length c', .slice b zs.length d, .slice b' zt.length d'] w (Says (.bool true) w) := by
  have HCk : ∀ W, w.grownBy W none → Calls Try.prog 13 #[detV L S a R.length c a' M.length c'] W (Says (.int .i64 (checkF ⟨L, S, R, M⟩)) W) := fun W hW => checkR_any L S R M a a' c c' W (hD.grown hW)
  by_cases hc : checkF ⟨L, S, R, M⟩ = 0
  · have hG := good_of_check hc
    rw [hc] at HCk
    have hL1 : 1 ≤ L := hG.l1
    have hL4 : L ≤ 4 := hG.l4
    have hn3 : R.length ≤ 3000 := hG.n3
    have hs1 : 0 ≤ S ∧ S < (R.length : Int) := hG.s
    obtain ⟨l, rfl⟩ : ∃ l : Nat, L = l := ⟨L.toNat, by omega⟩
    obtain ⟨κ, hκ⟩ := ner_key (Dfa.nx ⟨l, S, R, M⟩) (Dfa.mk1 ⟨l, S, R, M⟩) R.length l
    obtain ⟨RL, ML, hlo⟩ := least_exists l S R M a a' c c' w hD hG
    simp only [Int.toNat_natCast] at hlo
    have hδ : ∀ s b, s < R.length → b < l → Dfa.nx ⟨l, S, R, M⟩ s b < R.length := fun s b hs hb => hG.nx_lt hs (by simp; exact hb)
    have hU : ∀ R' M', LeastOf (Dfa.nx ⟨l, S, R, M⟩) (Dfa.mk1 ⟨l, S, R, M⟩) R.length l S.toNat R' M' → R' = RL ∧ M' = ML := fun R' M' h => h.eq hlo hκ
    have hGL : Good ⟨l, 0, RL, ML⟩ := hlo.good hδ (by omega) (by omega) (by omega) hn3
    have HL : Hid (∀ W, w.grownBy W none → Calls Try.prog 10 #[detV l S a R.length c a' M.length c'] W (LeastGPost (Dfa.nx ⟨l, S, R, M⟩) (Dfa.mk1 ⟨l, S, R, M⟩) R.length l S.toNat W)) := fun W hW => leastE_good l S R M a a' c c' W (hD.grown hW) hG
    have HLr : Hid (∀ W, w.grownBy W none → Calls Try.prog 15 #[detV l S a R.length c a' M.length c'] W (LeastPost (Dfa.nx ⟨l, S, R, M⟩) (Dfa.mk1 ⟨l, S, R, M⟩) R.length l S.toNat W)) := fun W hW => leastR_any l S R M a a' c c' W (hD.grown hW) hG
    by_cases h5 : RL.length ≤ 5
    · have HSo : Hid (∀ W, w.grownBy W none → Calls Try.prog 50 #[detV l S a R.length c a' M.length c'] W (LeastGPost (Dfa.nx ⟨l, S, R, M⟩) (Dfa.mk1 ⟨l, S, R, M⟩) R.length l S.toNat W)) := fun W hW => small_ok l S l a a' R.length M.length c c' W _ _ _ _ RL.length (fun R' M' h => by rw [(hU R' M' h).1]) h5 (fun W2 hW2 => HL.out W2 (grown_trans hW hW2))
      have HSl : Hid (∀ W, w.grownBy W none → Calls Try.prog 23 #[detV l S a R.length c a' M.length c'] W (LeastGPost (Dfa.nx ⟨l, S, R, M⟩) (Dfa.mk1 ⟨l, S, R, M⟩) R.length l S.toNat W)) := fun W hW => lsmall_ok l S l a a' R.length M.length c c' W _ _ _ _ RL.length (fun R' M' h => by rw [(hU R' M' h).1]) h5 (fun W2 hW2 => HCk W2 (grown_trans hW hW2)) (fun W2 hW2 => HLr.out W2 (grown_trans hW hW2))
      have HMb : Hid (∀ W, w.grownBy W none → Calls Try.prog 54 #[.int .i64 l, .slice b zs.length d, .slice b' zt.length d'] W (Says (.int .i64 (if mayF l zs ≠ 0 then mayF l zs else mayF l zt)) W)) := fun W hW => mayBoth_any l b b' d d' zs zt W (iz.grown hW) (it.grown hW) mz mt
      have HMu : Hid (∀ W, w.grownBy W none → Calls Try.prog 26 #[.int .i64 l, .slice b zs.length d] W fun e w' => e = .returned (.int .i64 (mayF l zs)) ∧ w' = W) := fun W hW => mayR_any l b d zs W (iz.grown hW) mz
      have HMv : Hid (∀ W, w.grownBy W none → Calls Try.prog 26 #[.int .i64 l, .slice b' zt.length d'] W fun e w' => e = .returned (.int .i64 (mayF l zt)) ∧ w' = W) := fun W hW => mayR_any l b' d' zt W (it.grown hW) mt
      by_cases hm : mayF l zs = 0 ∧ mayF l zt = 0
      · obtain ⟨h1, h2⟩ := hm
        rw [h1, h2, if_neg (by simp)] at HMb
        rw [h1] at HMu
        rw [h2] at HMv
        obtain ⟨us, rfl, hus, lus⟩ := may_word h1
        obtain ⟨vs, rfl, hvs, lvs⟩ := may_word h2
        have eu : (natInts us).length = us.length := by simp [natInts]
        have ev : (natInts vs).length = vs.length := by simp [natInts]
        rw [eu, ev] at HMb ⊢
        rw [eu] at HMu
        rw [ev] at HMv
        refine malike_B S l R M a a' b b' c c' d d' us vs w (Dfa.nx ⟨l, S, R, M⟩) (Dfa.mk1 ⟨l, S, R, M⟩) R.length S.toNat RL ML hGL h5 hU hD hG hus hvs iz it (by omega) (by omega) (fun z hz => hlo.lang hδ (by omega) hz) (fun p q zs is hp hq hne hf => ?_) (fun W hW => ?_) HSl HMu HMv
        · rcases hf.2 with ⟨_, h, _⟩ | ⟨_, _, h⟩
          · exact h
          · exact absurd (hlo.apart hδ (by omega) hp hq (fun z hz => by have := h z hz; unfold tellT at this; simpa using this)) hne
        · exact alike_ok l S l a a' b b' R.length M.length c c' d d' us vs W (Dfa.nx ⟨l, S, R, M⟩) (Dfa.mk1 ⟨l, S, R, M⟩) R.length S.toNat RL ML hGL h5 hU hus hvs (iz.grown hW) (it.grown hW) (by omega) (by omega) (fun W2 hW2 => HSo.out W2 (grown_trans hW hW2)) (fun s hs => hlo.reached hδ (by omega) hs) (fun W2 hW2 => HMb.out W2 (grown_trans hW hW2))
      · have hy : (if mayF l zs ≠ 0 then mayF l zs else mayF l zt) ≠ 0 := by
          split
          · assumption
          · next h => exact fun e => hm ⟨by simpa using h, e⟩
        refine malike_A2 l S (if mayF l zs ≠ 0 then mayF l zs else mayF l zt) (mayF l zs) (mayF l zt) l a a' b b' R.length M.length c c' zs.length d zt.length d' w (Dfa.nx ⟨l, S, R, M⟩) (Dfa.mk1 ⟨l, S, R, M⟩) R.length S.toNat hy ?_ (fun W hW => ?_) HSl HMu HMv
        · split
          · exact .inl rfl
          · next h => exact .inr ⟨by simpa using h, rfl⟩
        · exact alike_word l S _ l a a' b b' R.length M.length c c' zs.length d zt.length d' W (Dfa.nx ⟨l, S, R, M⟩) (Dfa.mk1 ⟨l, S, R, M⟩) R.length S.toNat hy (fun W2 hW2 => HSo.out W2 (grown_trans hW hW2)) (fun W2 hW2 => HMb.out W2 (grown_trans hW hW2))
    · refine malike_A1 l S 1 a a' b b' R.length M.length c c' zs.length d zt.length d' w (by omega) (fun W hW => ?_) (fun W hW => ?_)
      · exact alike_bad l S 1 a a' b b' R.length M.length c c' zs.length d zt.length d' W (by omega) (fun W' hW' => small_big l S l a a' R.length M.length c c' W' _ _ _ _ RL.length (fun R' M' h => by rw [(hU R' M' h).1]) (by omega) hn3 (fun W2 hW2 => HL.out W2 (grown_trans hW (grown_trans hW' hW2))))
      · exact lsmall_big l S l a a' R.length M.length c c' W _ _ _ _ RL.length (fun R' M' h => by rw [(hU R' M' h).1]) (by omega) hn3 (fun W2 hW2 => HCk W2 (grown_trans hW hW2)) (fun W2 hW2 => HLr.out W2 (grown_trans hW hW2))
  · refine malike_A1 L S (checkF ⟨L, S, R, M⟩) a a' b b' R.length M.length c c' zs.length d zt.length d' w hc (fun W hW => ?_) (fun W hW => ?_)
    · exact alike_bad L S _ a a' b b' R.length M.length c c' zs.length d zt.length d' W hc (fun W' hW' => small_bad L S _ a a' R.length M.length c c' W' hc (fun W2 hW2 => leastE_bad L S R M a a' c c' W2 (hD.grown (grown_trans hW (grown_trans hW' hW2))) hc))
    · exact lsmall_bad L S _ a a' R.length M.length c c' W hc (fun W2 hW2 => HCk W2 (grown_trans hW hW2))

theorem malike_own : ownKnob Try.prog.godebug = none := by kernel_rfl

set_option maxRecDepth 100000 in
theorem malike_lifted (os : Os) (started : os.Started) (H : Type) (enc : TypeId × Value → H) :
    ReturnsInHanded {} Try.checked os 6 .any (Rows.monoidAlikeSpec.pre6 enc Try.prog Try.f6 Rows.monoidAlikeRow.domain false) (Rows.monoidAlikeSpec.post enc Try.prog Try.f6 false true false false) := by
  refine returnsInHanded_of_change_sized (C := Try.checked) malike_own started (by kernel_rfl) Try.func6
    (ChangeSpec.witness6 (enc := enc) (C := Try.checked) false ⟨#[], #[.agg #[.int .i64 0, .int .i64 0, .slice none 0 0, .slice none 0 0], .slice none 0 0, .slice none 0 0], []⟩ 8 (by kernel_rfl) (by kernel_rfl) (by kernel_rfl) (by kernel_rfl)) ?_
  intro W base args ds gs before hval0 hW hcnd hsz0 _
  have hval : ∀ (j : Nat) t v, Try.f6.params[j]? = some t → args[j]? = some v → Value.okWide Try.prog W .any base t v := hval0
  have hW' := hW
  obtain ⟨p, q, hA0, hV, rfl, hfz, hnd⟩ := hW
  have hA : DataW.TrodAll enc Try.prog W 0 (fun _ => true) true Try.f6.params.toList args.toList ds p := hA0
  rw [Try.params6] at hA hval
  obtain ⟨v0, vs0, d0, ds0, p0, q0, hargs, rfl, rfl, h0, r0⟩ := trodAll_cons hA
  obtain ⟨v1, vs1, d1, ds1, p1, q1, rfl, rfl, rfl, h1, r1⟩ := trodAll_cons r0
  obtain ⟨v2, vs2, d2, ds2, p2, q2, rfl, rfl, rfl, h2, r2⟩ := trodAll_cons r1
  obtain ⟨rfl, rfl, rfl⟩ := trodAll_nil r2
  obtain rfl : args = #[v0, v1, v2] := by cases args; simp_all
  obtain ⟨rfl, rfl⟩ := trodVars_none hV
  have lt0 : ∀ x ∈ p0, x.block < W.heap.size := by obtain ⟨m, hm⟩ := h0; exact DataW.trod_lt m _ _ _ hm
  have lt1 : ∀ x ∈ p1, x.block < W.heap.size := by obtain ⟨m, hm⟩ := h1; exact DataW.trod_lt m _ _ _ hm
  have lt2 : ∀ x ∈ p2, x.block < W.heap.size := by obtain ⟨m, hm⟩ := h2; exact DataW.trod_lt m _ _ _ hm
  obtain ⟨L, S, a, c, R, a', c', M, rfl, hD, _, _⟩ := det_of_trod (hval 0 25 v0 rfl rfl) h0
  obtain ⟨b, d, zs, rfl, iz, mz⟩ := slice_of_trod (hval 1 23 v1 rfl rfl) h1
  obtain ⟨b', d', zt, rfl, it, mt⟩ := slice_of_trod (hval 2 23 v2 rfl rfl) h2
  clear hA0 hval0 hsz0
  refine (malike_walk L S R M a a' b b' c c' d d' zs zt W hD iz it mz mt).mono fun E W' ⟨he, hg⟩ => ?_
  subst he
  have bel : Below W.heap.size W W' := below_of_grown hg
  exact ⟨_, rfl, _, _, _, [], _, [], hW', trodAll_mk1 (shut_bool Try.underlying4 _), trodAll_cons_mk (Below.trod Try.laidOut (by kernel_rfl) (of_decide_eq_true (by kernel_rfl)) h0 bel lt0) (trodAll_cons_mk (Below.trod Try.laidOut (by kernel_rfl) (of_decide_eq_true (by kernel_rfl)) h1 bel lt1) (trodAll_cons_mk (Below.trod Try.laidOut (by kernel_rfl) (of_decide_eq_true (by kernel_rfl)) h2 bel lt2) trodAll_mk0)), rfl, bel.frame _, fun h => by cases h⟩

theorem monoidAlike_holds : Rows.MonoidAlikeSaid :=
  OpenClaim.holds_of_wide 6 Try.f6 rfl rfl rfl rfl rfl rfl rfl ⟨rfl, rfl, rfl, rfl, rfl⟩ rfl rfl rfl rfl rfl (by kernel_rfl) Try.func6 (by kernel_rfl)
    (of_decide_eq_true (by kernel_rfl)) (by unfold Func.isWrapper; first | (rw [if_pos (by decide +kernel)]; kernel_rfl) | (rw [if_neg (by decide +kernel)]; exact ⟨rfl, rfl⟩))
    (fun os started H enc _ => malike_lifted os started H enc)
#print axioms monoidAlike_holds
end Go.Proofs.Ytofjboelplknhaa
