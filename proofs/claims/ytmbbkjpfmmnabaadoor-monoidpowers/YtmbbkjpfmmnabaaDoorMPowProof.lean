/- MonoidPowers holds: whatever automaton and word come in, in whatever memory, shared or not, five times a word and six times it do the same where no word counts, and do not where one counts, where the library's table holds what its initialiser lays; the law writes nothing that was there. -/
import Derived.Test.YtmbbkjpfmmnabaaDoorMPws
import Derived.Test.YtmbbkjpfmmnabaaDoorMLl
import Derived.Test.YtmbbkjpfmmnabaaDoorMAlike
import Derived.Test.YtmbbkjpfmmnabaaDoorMCt
import Derived.Test.YtmbbkjpfmmnabaaDoorMLeast
import Derived.Test.YtmbbkjpfmmnabaaDoorPCl
import Derived.Test.YtmbbkjpfmmnabaaDoorPLaid
import Derived.Test.YtmbbkjpfmmnabaaDoorDSized
namespace Go.Proofs.YtmbbkjpfmmnabaaDoor
open Go.ChangeShapes Go.WideShapes Go.ChangeAt Go.RowKit Go.Joins
set_option linter.unusedVariables false

theorem pwI_nat (u : List Nat) (k : Nat) : pwI (natInts u) k = natInts (pw u k) := by
  induction k with
  | zero => rfl
  | succ k ih => simp only [pwI, pw, ih, natInts, List.map_append]
theorem may_ok {l : Nat} {u : List Nat} (h1 : 1 ≤ l) (h4 : l ≤ 4) (hu : ∀ x, x ∈ u → x < l) (hl : u.length ≤ 60) : mayF l (natInts u) = 0 := by
  unfold mayF
  rw [if_neg (by omega), if_neg (by rw [List.length_map]; omega), if_pos]
  refine List.all_eq_true.2 fun x hx => ?_
  obtain ⟨y, hy, rfl⟩ := List.mem_map.1 hx
  have := hu y hy
  simp
  omega
theorem may_part {l : Nat} {zs : List Int} (h : mayF l (pwI zs 6) = 0) : ∃ us : List Nat, zs = natInts us ∧ (∀ x, x ∈ us → x < l) := by
  unfold mayF at h
  split at h
  · cases h
  · split at h
    · cases h
    · split at h
      · next h1 =>
        have h2 : ∀ x, x ∈ zs → 0 ≤ x ∧ x < (l : Int) := fun x hx => by
          have : x ∈ pwI zs 6 := List.mem_append_right (pwI zs 5) hx
          simpa using List.all_eq_true.1 h1 x this
        refine ⟨zs.map Int.toNat, ?_, ?_⟩
        · unfold natInts
          rw [List.map_map]
          have : zs = zs.map id := (List.map_id zs).symm
          conv => lhs; rw [this]
          refine List.map_congr_left fun x hx => ?_
          have := h2 x hx
          simp
          omega
        · intro x hx
          obtain ⟨y, hy, rfl⟩ := List.mem_map.1 hx
          have := h2 y hy
          omega
      · cases h

theorem mpow_walk (L S : Int) (R : List (List Int)) (M : List Int) (a a' e : Option Addr) (c c' f : Nat) (zs : List Int) (w : World) (hD : DetAt w ⟨L, S, R, M⟩ a a') (iz : Ints w e zs) (mz : zs.length ≤ 17592186044416) (hT : Tab32 w) :
    Calls Tryd.prog 5 #[detV L S a R.length c a' M.length c', .slice e zs.length f] w (Says (.bool true) w) := by
  have HC : Hid (∀ W, w.grownBy W none → Calls Tryd.prog 14 #[] W (Says (.bool true) W)) := fun W hW => closed_any W (hT.kept hW (by simp))
  by_cases hc : checkF ⟨L, S, R, M⟩ = 0
  · have hG := good_of_check hc
    have hL1 : 1 ≤ L := hG.l1
    have hL4 : L ≤ 4 := hG.l4
    have hn3 : R.length ≤ 3000 := hG.n3
    have hs1 : 0 ≤ S ∧ S < (R.length : Int) := hG.s
    obtain ⟨l, rfl⟩ : ∃ l : Nat, L = l := ⟨L.toNat, by omega⟩
    obtain ⟨κ, hκ⟩ := ner_key (Dfa.nx ⟨l, S, R, M⟩) (Dfa.mk1 ⟨l, S, R, M⟩) R.length l
    obtain ⟨RL, ML, hlo⟩ := least_exists l S R M a a' c c' w hD hG
    simp only [Int.toNat_natCast] at hlo
    have hδ : ∀ s b, s < R.length → b < l → Dfa.nx ⟨l, S, R, M⟩ s b < R.length := fun s b hs hb => hG.nx_lt hs (by simp; exact hb)
    have hU : ∀ R' M', LeastOf (Dfa.nx ⟨l, S, R, M⟩) (Dfa.mk1 ⟨l, S, R, M⟩) R.length l S.toNat R' M' → R' = RL ∧ M' = ML := fun R' M' h => h.eq hlo hκ
    have hGL : Good ⟨l, 0, RL, ML⟩ := hlo.good hδ (by omega) (by omega) (by omega) hn3
    have hδL : ∀ s b, s < RL.length → b < l → Dfa.nx ⟨l, 0, RL, ML⟩ s b < RL.length := fun s b hs hb => hGL.nx_lt hs (by simp; exact hb)
    have HL : Hid (∀ W, w.grownBy W none → Calls Tryd.prog 16 #[detV l S a R.length c a' M.length c'] W (LeastGPost (Dfa.nx ⟨l, S, R, M⟩) (Dfa.mk1 ⟨l, S, R, M⟩) R.length l S.toNat W)) := fun W hW => leastE_good l S R M a a' c c' W (hD.grown hW) hG
    by_cases h5 : RL.length ≤ 5
    · have HSo : ∀ W, w.grownBy W none → Calls Tryd.prog 41 #[detV l S a R.length c a' M.length c'] W (LeastGPost (Dfa.nx ⟨l, S, R, M⟩) (Dfa.mk1 ⟨l, S, R, M⟩) R.length l S.toNat W) := fun W hW => small_ok l S l a a' R.length M.length c c' W _ _ _ _ RL.length (fun R' M' h => by rw [(hU R' M' h).1]) h5 (fun W2 hW2 => HL.out W2 (grown_trans hW hW2))
      have HK := fun W (hW : w.grownBy W none) => count_ok l S l a a' R.length M.length c c' W _ _ _ _ RL ML hGL h5 hU (fun W' hW' => HSo W' (grown_trans hW hW'))
      have hAl : ∀ W p c1 q c2 (u v : List Nat), w.grownBy W none → Ints W p (natInts u) → Ints W q (natInts v) → (∀ x, x ∈ u → x < l) → (∀ x, x ∈ v → x < l) → u.length ≤ 60 → v.length ≤ 60 → Calls Tryd.prog 20 #[detV l S a R.length c a' M.length c', .slice p u.length c1, .slice q v.length c2] W
          (AlikePost (deed (Dfa.nx ⟨l, 0, RL, ML⟩) RL.length) (tellT (Dfa.nx ⟨l, 0, RL, ML⟩) (Dfa.mk1 ⟨l, 0, RL, ML⟩)) l (deed (Dfa.nx ⟨l, 0, RL, ML⟩) RL.length u) (deed (Dfa.nx ⟨l, 0, RL, ML⟩) RL.length v) W) := fun W p c1 q c2 u v hW iu iv hu hv lu lv =>
        alike_ok l S l a a' p q R.length M.length c c' c1 c2 u v W (Dfa.nx ⟨l, S, R, M⟩) (Dfa.mk1 ⟨l, S, R, M⟩) R.length S.toNat RL ML hGL h5 hU hu hv iu iv (by omega) (by omega) (fun W2 hW2 => HSo W2 (grown_trans hW hW2)) (fun s hs => hlo.reached hδ (by omega) hs) (fun W2 hW2 => by
          have h1 := mayBoth_any l p q c1 c2 (natInts u) (natInts v) W2 (iu.grown hW2) (iv.grown hW2) (by rw [List.length_map]; unfold maxLen; omega) (by rw [List.length_map]; unfold maxLen; omega)
          rw [may_ok (by omega) (by omega) hu lu, may_ok (by omega) (by omega) hv lv, if_neg (by simp), List.length_map, List.length_map] at h1
          exact h1)
      by_cases hP : ∃ u : List Nat, (∀ x, x ∈ u → x < l) ∧ 0 < cbk (deed (Dfa.nx ⟨l, 0, RL, ML⟩) RL.length u) 5
      · refine mpow_counts l S a a' e R.length M.length c c' f zs.length w (fun zs N => ∃ us : List Nat, zs = natInts us ∧ (∀ x, x ∈ us → x < l) ∧ us.length ≤ 4000 ∧ 0 < cbk (deed (Dfa.nx ⟨l, 0, RL, ML⟩) RL.length us) 5 ∧ N = cbk (deed (Dfa.nx ⟨l, 0, RL, ML⟩) RL.length us) 5) ?_ HC (fun W hW => ?_) ?_
        · rintro zs N ⟨us, rfl, h1, h2, h3, rfl⟩
          exact ⟨cbk_one 5 h3, cbk_le _ 5, by rw [List.length_map]; omega⟩
        · refine (HK W hW).mono ?_
          rintro E w' ⟨hg, ⟨rfl, k, hend, hno⟩ | ⟨i, az, cz, hi, _, _, hct, rfl, hz⟩⟩
          · obtain ⟨u, hu, h0⟩ := hP
            have := none_counts hend (fun v hv => by have := hno v hv; unfold cts at this; simpa using this) hu
            omega
          · refine ⟨_, _, az, cz, ⟨(bfsW (deed (Dfa.nx ⟨l, 0, RL, ML⟩) RL.length) l i).getD i [], rfl, bfsW_letters i _ (getDL_mem hi), bfs_short h5 hδL hi, by unfold cts at hct; simpa using hct, rfl⟩, by rw [List.length_map], hz, hg⟩
        · rintro zs N W p c1 q c2 ⟨us, rfl, h1, h2, h3, rfl⟩ hW h60 i5 i6
          rw [pwI_nat] at i5 i6 h60 ⊢
          rw [pwI_nat]
          rw [List.length_map] at h60 ⊢
          rw [List.length_map]
          have l5 : (pw us 5).length ≤ 60 := by rw [pw_len] at h60 ⊢; omega
          refine (hAl W p c1 q c2 (pw us 5) (pw us 6) hW i5 i6 (pw_mem h1 5) (pw_mem h1 6) l5 h60).mono ?_
          rintro E w' ⟨hg, ⟨he, _⟩ | ⟨_, u2, z2, is, az, ab, cz, cb, _, hd, hF, _, _, rfl, _, _⟩⟩
          · exact absurd he (pow_counts h5 hδL h1 h3)
          · exact ⟨az, _, cz, ab, _, cb, rfl, hg⟩
      · have HK0 : Hid (∀ W, w.grownBy W none → Calls Tryd.prog 19 #[detV l S a R.length c a' M.length c'] W (Says (.tuple #[.slice none 0 0, .int .i64 0, .bool false, .int .i64 0]) W)) := fun W hW => by
          refine (HK W hW).mono ?_
          rintro E w' ⟨hg, ⟨rfl, k, hend, hno⟩ | ⟨i, az, cz, hi, _, _, hct, rfl, hz⟩⟩
          · exact ⟨rfl, hg⟩
          · exact absurd ⟨_, bfsW_letters i _ (getDL_mem hi), by unfold cts at hct; simpa using hct⟩ hP
        by_cases h10 : zs.length ≤ 10
        · refine mpow_rest l S a a' e R.length M.length c c' f zs w iz h10 HC HK0 ?_
          intro W p c1 q c2 hW i5 i6
          have l5 := pwI_len zs 5
          have l6 := pwI_len zs 6
          by_cases hm : mayF l (pwI zs 5) = 0 ∧ mayF l (pwI zs 6) = 0
          · obtain ⟨us, rfl, hu⟩ := may_part hm.2
            rw [pwI_nat] at i5 i6 l5 l6 ⊢
            rw [pwI_nat]
            rw [List.length_map] at l5 l6 ⊢
            rw [List.length_map] at l5 l6 h10
            rw [List.length_map]
            refine (hAl W p c1 q c2 (pw us 5) (pw us 6) hW i5 i6 (pw_mem hu 5) (pw_mem hu 6) (by omega) (by omega)).mono ?_
            rintro E w' ⟨hg, ⟨_, rfl⟩ | ⟨he, _⟩⟩
            · exact ⟨none, 0, 0, none, 0, 0, true, 0, rfl, .inr rfl, hg⟩
            · refine absurd (pow_rest h5 hδL hu ?_) he
              rcases Nat.eq_zero_or_pos (cbk (deed (Dfa.nx ⟨l, 0, RL, ML⟩) RL.length us) 5) with h0 | h0
              · exact h0
              · exact absurd ⟨us, hu, h0⟩ hP
          · have hy : (if mayF l (pwI zs 5) ≠ 0 then mayF l (pwI zs 5) else mayF l (pwI zs 6)) ≠ 0 := by
              split
              · assumption
              · next h => exact fun e => hm ⟨by simpa using h, e⟩
            refine (alike_word l S _ l a a' p q R.length M.length c c' _ c1 _ c2 W (Dfa.nx ⟨l, S, R, M⟩) (Dfa.mk1 ⟨l, S, R, M⟩) R.length S.toNat hy (fun W2 hW2 => HSo W2 (grown_trans hW hW2)) (fun W2 hW2 => mayBoth_any l p q c1 c2 (pwI zs 5) (pwI zs 6) W2 (i5.grown hW2) (i6.grown hW2) (by unfold maxLen; omega) (by unfold maxLen; omega))).mono ?_
            rintro E w' ⟨rfl, hg⟩
            exact ⟨none, 0, 0, none, 0, 0, false, _, rfl, .inl hy, hg⟩
        · exact mpow_long l S a a' e R.length M.length c c' f zs.length w (by omega) (by omega) HC HK0
    · refine mpow_bad l S 1 a a' e R.length M.length c c' f zs.length w (by omega) HC fun W hW => ?_
      exact count_bad l S 1 a a' R.length M.length c c' W (by omega) (fun W' hW' => small_big l S l a a' R.length M.length c c' W' _ _ _ _ RL.length (fun R' M' h => by rw [(hU R' M' h).1]) (by omega) hn3 (fun W2 hW2 => HL.out W2 (grown_trans hW (grown_trans hW' hW2))))
  · refine mpow_bad L S (checkF ⟨L, S, R, M⟩) a a' e R.length M.length c c' f zs.length w hc HC fun W hW => ?_
    exact count_bad L S _ a a' R.length M.length c c' W hc (fun W' hW' => small_bad L S _ a a' R.length M.length c c' W' hc (fun W2 hW2 => leastE_bad L S R M a a' c c' W2 (hD.grown (grown_trans hW (grown_trans hW' hW2))) hc))

set_option maxRecDepth 100000 in
theorem mpow_lifted (os : Os) (started : os.Started) (H : Type) (enc : TypeId × Value → H) :
    ReturnsInHanded {} Tryd.checked os 5 .any (fun w args => (Rows.monoidPowersSpec.pre enc Tryd.prog Tryd.f5 [] false w args ∧ laidMetH Tryd.prog laid32 w) ∧ sizedMet enc Tryd.prog Tryd.f5 (OpenSpec.ofChange Rows.monoidPowersSpec) false w args)
      (Rows.monoidPowersSpec.post enc Tryd.prog Tryd.f5 false true false false) := by
  refine returnsInHanded_of_change_and (C := Tryd.checked) (X := fun w _ => laidMetH Tryd.prog laid32 w) (fun _ _ _ hh h => h.of_heap hh) own32 started (by kernel_rfl) Tryd.func5
    (ChangeSpec.witness_shaped (enc := enc) (C := Tryd.checked) (os := os) (X := fun w _ => laidMetH Tryd.prog laid32 w) false (World.doorLaid Tryd.prog 400 os) #[.agg #[.int .i64 0, .int .i64 0, .slice none 0 0, .slice none 0 0], .slice none 0 0] 8 rfl (World.shaped_of_RefB (by kernel_rfl) (by kernel_rfl)) (by kernel_rfl) (by kernel_rfl) (by kernel_rfl) (door32 os _)) ?_
  intro W base args ds gs before hval0 hW _ hsz0 hL _
  have hval : ∀ (j : Nat) t v, Tryd.f5.params[j]? = some t → args[j]? = some v → Value.okWide Tryd.prog W .any base t v := hval0
  have hsz : (DataW.weightsEach Tryd.prog (Tryd.f5.params.toList ++ Rows.monoidPowersSpec.plain.varTypes Tryd.prog) (ds ++ gs)).all (· ≤ reachBytes) = true := hsz0
  have hW' := hW
  obtain ⟨p, q, hA0, hV, rfl, hfz, hnd⟩ := hW
  have hA : DataW.TrodAll enc Tryd.prog W 0 (fun _ => true) true Tryd.f5.params.toList args.toList ds p := hA0
  rw [Tryd.params5] at hA hval hsz
  obtain ⟨v0, vs0, d0, ds0, p0, q0, hargs, rfl, rfl, h0, r0⟩ := trodAll_cons hA
  obtain ⟨v1, vs1, d1, ds1, p1, q1, rfl, rfl, rfl, h1, r1⟩ := trodAll_cons r0
  obtain ⟨rfl, rfl, rfl⟩ := trodAll_nil r1
  obtain rfl : args = #[v0, v1] := by cases args; simp_all
  obtain ⟨rfl, rfl⟩ := trodVars_none hV
  have lt0 : ∀ x ∈ p0, x.block < W.heap.size := by obtain ⟨m, hm⟩ := h0; exact DataW.trod_lt m _ _ _ hm
  have lt1 : ∀ x ∈ p1, x.block < W.heap.size := by obtain ⟨m, hm⟩ := h1; exact DataW.trod_lt m _ _ _ hm
  have hw1 : ∀ m ∈ d1.weights Tryd.prog 22, m ≤ reachBytes := fun m hm => by
    have := List.all_eq_true.1 hsz m (by simp [DataW.weightsEach, hm])
    simpa using this
  obtain ⟨L, S, a, c, R, a', c', M, rfl, hD, _, _⟩ := det_of_trod (hval 0 25 v0 rfl rfl) h0
  obtain ⟨e, f, zs, rfl, iz, mz⟩ := slice_of_trod (hval 1 22 v1 rfl rfl) h1
  have wz : zs.length ≤ 17592186044416 := by
    obtain ⟨fuel, hf⟩ := h1
    exact weight_of_trod (by simpa [Value.cells] using hf) hw1
  have hT := tab32_of_laid hL
  clear hA0 hval0 hsz0
  refine (mpow_walk L S R M a a' e c c' f zs W hD iz wz hT).mono fun E W' ⟨he, hg⟩ => ?_
  subst he
  have bel : Below W.heap.size W W' := below_of_grown hg
  exact ⟨_, rfl, _, _, _, [], _, [], hW', trodAll_mk1 (shut_bool Tryd.underlying4 _), (trodAll_cons_mk (Below.trod Tryd.laidOut (by kernel_rfl) (of_decide_eq_true (by kernel_rfl)) h0 bel lt0) (trodAll_cons_mk (Below.trod Tryd.laidOut (by kernel_rfl) (of_decide_eq_true (by kernel_rfl)) h1 bel lt1) trodAll_mk0)), rfl, bel.frame _, fun h => by cases h⟩

theorem monoidPowers_holds : Rows.MonoidPowersSaid :=
  OpenClaim.holds_of_wide 5 Tryd.f5 rfl rfl rfl rfl rfl rfl rfl ⟨rfl, rfl, rfl, rfl, rfl⟩ rfl rfl rfl rfl rfl (by kernel_rfl) Tryd.func5 (by kernel_rfl)
    (of_decide_eq_true (by kernel_rfl)) (by unfold Func.isWrapper; first | (rw [if_pos (by decide +kernel)]; kernel_rfl) | (rw [if_neg (by decide +kernel)]; exact ⟨rfl, rfl⟩))
    (fun os started H enc _ => mpow_lifted os started H enc)
#print axioms monoidPowers_holds
end Go.Proofs.YtmbbkjpfmmnabaaDoor
