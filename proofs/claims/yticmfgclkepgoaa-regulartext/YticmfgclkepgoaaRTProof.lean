/- RegularText holds: whatever automaton and word come in, in whatever memory, shared or not, the text that the program writes of an automaton of at most three states is read, and tells just the words that are accepted, and all other automata are refused as the reference does; it writes nothing that was there; there are no conditions. -/
import Derived.Test.YticmfgclkepgoaaRTWalk
import Derived.Test.YticmfgclkepgoaaRTextP
import Derived.Test.YticmfgclkepgoaaRSame
import Derived.Test.YticmfgclkepgoaaDRCheck
import Derived.Test.YticmfgclkepgoaaRfs
import Derived.Test.YticmfgclkepgoaaDSz
import Derived.ChangeMaps5
namespace Go.Proofs.Yticmfgclkepgoaa
open Go.ChangeShapes Go.WideShapes Go.ChangeAt Go.RowKit Go.Joins
set_option linter.unusedVariables false

theorem text_says {L S : Int} {R : List (List Int)} {M : List Int} {m : Rx} {T : ByteArray} {j : Nat} (hp : parseR T = .good m j) (ht : ∀ z, Lets L.toNat z → (tells m z ↔ accD ⟨L, S, R, M⟩ z = true)) {z : List Int} (hz : LetI L z) : saysB z (den m) = accB ⟨L, S, R, M⟩ z := by
  have e := nat_ints (z := z) fun k hk => (hz k hk).1
  have hl : Lets L.toNat (z.map Int.toNat) := fun b hb => by
    obtain ⟨x, hx, rfl⟩ := List.mem_map.1 hb
    obtain ⟨i, hi, rfl⟩ := List.getElem_of_mem hx
    have := hz i hi
    rw [getD_lt hi] at this
    omega
  have e3 := says_tells (parse_nn hp) (z.map Int.toNat)
  rw [e] at e3
  have e4 : accB ⟨L, S, R, M⟩ z = accD ⟨L, S, R, M⟩ (z.map Int.toNat) := by
    unfold accB accD Dfa.go
    rw [List.foldl_map]
  rw [e4]
  exact Bool.eq_iff_iff.2 (e3.trans (ht _ hl))

theorem text_walk (L S : Int) (R : List (List Int)) (M : List Int) (a a' az : Option Addr) (c c' cz : Nat) (zs : List Int) (w : World) (hD : DetAt w ⟨L, S, R, M⟩ a a') (hn : R.length * 24 ≤ 140737488355328) (hm : ∀ i, i < R.length → (R.getD i []).length ≤ 17592186044416) (hM : M.length ≤ 17592186044416) (hz : Ints w az zs) (hzm : zs.length ≤ maxLen) :
    Calls Try.prog 3 #[detV L S a R.length c a' M.length c', .slice az zs.length cz] w (Says (.bool true) w) := by
  have hnm : R.length ≤ maxLen := by unfold maxLen; omega
  have hmm : ∀ i, i < R.length → (R.getD i []).length ≤ maxLen := fun i hi => by have := hm i hi; unfold maxLen; omega
  have hMm : M.length ≤ maxLen := by unfold maxLen; omega
  have HDO : Hid (∀ W, w.grownBy W none → Calls Try.prog 4 #[detV L S a R.length c a' M.length c'] W (CopyPost L S R M W)) := fun W hW => (detOf_any L S R M a a' c c' W (hD.grown hW) hn hm hM).mono fun e w' h => copy_of_detOf h hnm hmm hMm
  have HSm : Hid (∀ W aR cR aM cM, w.grownBy W none → DetAt W ⟨L, S, R, M⟩ aR aM → Calls Try.prog 6 #[detV L S aR R.length cR aM M.length cM, detV L S a R.length c a' M.length c'] W (Says (.bool true) W)) := fun W aR cR aM cM hW hd => (same_any L S L S R R M M aR aM a a' cR cM c c' W hd (hD.grown hW)).mono fun e w' h => says_of_tells h rfl
  have HCk : ∀ W, w.grownBy W none → Calls Try.prog 7 #[detV L S a R.length c a' M.length c'] W (Says (.int .i64 (checkF ⟨L, S, R, M⟩)) W) := fun W hW => checkR_any L S R M a a' c c' W (hD.grown hW)
  by_cases hc : checkF ⟨L, S, R, M⟩ = 0
  · have hG := good_of_check hc
    rw [hc] at HCk
    have hL1 : 1 ≤ L := hG.l1
    have hL4 : L ≤ 4 := hG.l4
    by_cases h3 : R.length ≤ 3
    · refine rt_good L S (mayF L zs) R M a a' az c c' cz zs w (TextOf ⟨L, S, R, M⟩) (accB ⟨L, S, R, M⟩) h3 hL1 hL4 hz HDO (fun W aR cR aM cM hd => textE_good L S R M aR aM cR cM W hd hG h3) HSm HCk (fun T hT => ?_) (fun W b d z hg hI h60 hL => ?_) (fun W hg => mayR_any L az cz zs W (hz.grown hg) hzm) (fun hy => mayF_letters hy)
      · obtain ⟨hsz, m, hp, ht⟩ := hT
        refine ⟨hsz, ReadAt m, read_good hp (by unfold maxLen; omega), fun W V b d z hX hI h60 hL => ?_⟩
        obtain ⟨ps, k, hL1, hk, hMe, hps⟩ := hX
        rw [← text_says hp ht hL]
        exact rhas_any hMe hk V b d z h60 hps W hL1 hI
      · exact acceptsR_any L S R M a a' b c c' d z W (hD.grown hg) hG hI (by unfold maxLen; omega) hL
    · exact rt_bad L S 1 R M a a' c c' _ w (by omega) HDO (fun W aR cR aM cM hd => textE_size L S R M aR aM cR cM W hd hG (by omega)) HSm fun W hW => (HCk W hW).mono fun E W' h => ⟨0, h.1, .inr ⟨rfl, rfl, by omega⟩, h.2⟩
  · exact rt_bad L S (checkF ⟨L, S, R, M⟩) R M a a' c c' _ w hc HDO (fun W aR cR aM cM hd => textE_bad L S R M aR aM cR cM W hd hc) HSm fun W hW => (HCk W hW).mono fun E W' h => ⟨_, h.1, .inl rfl, h.2⟩

theorem rtext_own : ownKnob Try.prog.godebug = none := by kernel_rfl

set_option maxRecDepth 100000 in
theorem rtext_lifted (os : Os) (started : os.Started) (H : Type) (enc : TypeId × Value → H) :
    ReturnsInHanded {} Try.checked os 3 .any (Rows.regularTextSpec.pre6 enc Try.prog Try.f3 Rows.regularTextRow.domain false) (Rows.regularTextSpec.post enc Try.prog Try.f3 false true false false) := by
  refine returnsInHanded_of_change_sized (C := Try.checked) rtext_own started (by kernel_rfl) Try.func3
    (ChangeSpec.witness6 (enc := enc) (C := Try.checked) false ⟨#[], #[.agg #[.int .i64 0, .int .i64 0, .slice none 0 0, .slice none 0 0], .slice none 0 0], []⟩ 8 (by kernel_rfl) (by kernel_rfl) (by kernel_rfl) (by kernel_rfl)) ?_
  intro W base args ds gs before hval0 hW hcnd hsz0 _
  have hval : ∀ (j : Nat) t v, Try.f3.params[j]? = some t → args[j]? = some v → Value.okWide Try.prog W .any base t v := hval0
  have hsz : (DataW.weightsEach Try.prog (Try.f3.params.toList ++ Rows.regularTextSpec.plain.varTypes Try.prog) (ds ++ gs)).all (· ≤ reachBytes) = true := hsz0
  have hW' := hW
  obtain ⟨p, q, hA0, hV, rfl, hfz, hnd⟩ := hW
  have hA : DataW.TrodAll enc Try.prog W 0 (fun _ => true) true Try.f3.params.toList args.toList ds p := hA0
  rw [Try.params3] at hA hval hsz
  obtain ⟨v0, vs0, d0, ds0, p0, q0, hargs, rfl, rfl, h0, r0⟩ := trodAll_cons hA
  obtain ⟨v1, vs1, d1, ds1, p1, q1, rfl, rfl, rfl, h1, r1⟩ := trodAll_cons r0
  obtain ⟨rfl, rfl, rfl⟩ := trodAll_nil r1
  obtain rfl : args = #[v0, v1] := by cases args; simp_all
  obtain ⟨rfl, rfl⟩ := trodVars_none hV
  have lt0 : ∀ x ∈ p0, x.block < W.heap.size := by obtain ⟨m, hm⟩ := h0; exact DataW.trod_lt m _ _ _ hm
  have lt1 : ∀ x ∈ p1, x.block < W.heap.size := by obtain ⟨m, hm⟩ := h1; exact DataW.trod_lt m _ _ _ hm
  have hw0 : ∀ m ∈ d0.weights Try.prog 25, m ≤ reachBytes := fun m hm => by
    have := List.all_eq_true.1 hsz m (DataW.weights_mem_each (j := 0) rfl rfl m hm)
    simpa using this
  obtain ⟨L, S, a, c, R, a', c', M, rfl, hD, z1, z2, z3⟩ := det_sized (hval 0 25 v0 rfl rfl) h0 hw0
  obtain ⟨aw, cw, zs, rfl, iz, mz⟩ := slice_of_trod (hval 1 23 v1 rfl rfl) h1
  clear hA0 hval0 hsz0
  refine (text_walk L S R M a a' aw c c' cw zs W hD z1 z2 z3 iz mz).mono fun e W' ⟨he, hg⟩ => ?_
  subst he
  have bel : Below W.heap.size W W' := below_of_grown hg
  exact ⟨_, rfl, _, _, _, [], _, [], hW', trodAll_mk1 (shut_bool Try.underlying4 _), (trodAll_cons_mk (Below.trod Try.laidOut (by kernel_rfl) (of_decide_eq_true (by kernel_rfl)) h0 bel lt0) (trodAll_cons_mk (Below.trod Try.laidOut (by kernel_rfl) (of_decide_eq_true (by kernel_rfl)) h1 bel lt1) trodAll_mk0)), rfl, bel.frame _, fun h => by cases h⟩

theorem regularText_holds : Rows.RegularTextSaid :=
  OpenClaim.holds_of_wide 3 Try.f3 rfl rfl rfl rfl rfl rfl rfl ⟨rfl, rfl, rfl, rfl, rfl⟩ rfl rfl rfl rfl rfl (by kernel_rfl) Try.func3 (by kernel_rfl)
    (of_decide_eq_true (by kernel_rfl)) (by unfold Func.isWrapper; first | (rw [if_pos (by decide +kernel)]; kernel_rfl) | (rw [if_neg (by decide +kernel)]; exact ⟨rfl, rfl⟩))
    (fun os started H enc _ => rtext_lifted os started H enc)
#print axioms regularText_holds
end Go.Proofs.Yticmfgclkepgoaa
