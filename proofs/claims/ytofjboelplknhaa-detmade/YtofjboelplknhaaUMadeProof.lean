/- DetMade holds: whatever automaton that need not know its way and whatever word come in, in whatever memory, shared or not, the program refuses what the reference refuses, makes the one least automaton that knows its way, as the reference does, and that accepts the word just if steps lead to a final state by it; it writes nothing that was there; there are no conditions. -/
import Derived.Test.YtofjboelplknhaaUMadeW
import Derived.Test.YtofjboelplknhaaUArg
import Derived.Test.YtofjboelplknhaaUMadeE
import Derived.Test.YtofjboelplknhaaURMade
import Derived.Test.YtofjboelplknhaaURCheck
import Derived.Test.YtofjboelplknhaaURe
import Derived.Test.YtofjboelplknhaaUSameA
import Derived.Test.YtofjboelplknhaaMLeast
import Derived.Test.YtofjboelplknhaaMLang
import Derived.Test.YtofjboelplknhaaRSame
import Derived.Test.YtofjboelplknhaaRNoDet
import Derived.Test.YtofjboelplknhaaDAccR
import Derived.SizedLaws
namespace Go.Proofs.Ytofjboelplknhaa
open Go.ChangeShapes Go.WideShapes Go.ChangeAt Go.RowKit Go.Joins
set_option linter.unusedVariables false

theorem foldl_nat (d : Dfa) (s : Nat) (us : List Nat) : d.go s (natInts us) = us.foldl d.nx s := by
  induction us generalizing s with
  | nil => rfl
  | cons u us ih =>
    have := ih (d.nx s u)
    simp only [Dfa.go, natInts, List.map_cons, List.foldl_cons, Int.toNat_natCast] at this ⊢
    exact this

theorem made_walk (x : Aut) (a b e az : Option Addr) (c d f cz : Nat) (zs : List Int) (w : World) (hA : AutAt w x a b e) (hS : x.S.length ≤ 17592186044416) (hF : x.F.length ≤ 17592186044416) (hT : x.T.length * 24 ≤ 140737488355328) (hn : b = none → d = 0) (hz : Ints w az zs) (hzm : zs.length ≤ maxLen) :
    Calls Try.prog 8 #[autV x.L x.N a x.S.length c b x.T.length d e x.F.length f, .slice az zs.length cz] w (Says (.bool true) w) := by
  have HAu : Hid (∀ W, w.grownBy W none → Calls Try.prog 31 #[autV x.L x.N a x.S.length c b x.T.length d e x.F.length f] W (AutoPost x W)) := fun W hW => auto_any x a b e c d f W (hA.grown hW) hS hF hT hn
  have HSa : Hid (∀ W a' b' e' c' d' f', w.grownBy W none → AutAt W x a' b' e' → Calls Try.prog 33 #[autV x.L x.N a' x.S.length c' b' x.T.length d' e' x.F.length f', autV x.L x.N a x.S.length c b x.T.length d e x.F.length f] W (Says (.bool true) W)) := fun W a' b' e' c' d' f' hW h => sameAuto_any x a' b' e' a b e c' d' f' c d f W h (hA.grown hW)
  have HCk : ∀ W, w.grownBy W none → Calls Try.prog 34 #[autV x.L x.N a x.S.length c b x.T.length d e x.F.length f] W (Says (.int .i64 (checkA x)) W) := fun W hW => checkA7_any x a b e c d f W (hA.grown hW)
  by_cases hb : madeF x = 0
  · have hc : checkA x = 0 ∧ ¬ 8 < x.N := by
      unfold madeF at hb
      split at hb
      · next h1 =>
        split at hb
        · cases hb
        · next h2 => exact ⟨h1, h2⟩
      · next h1 => exact absurd hb h1
    have hG := goodA_of_check hc.1
    rw [hc.1] at HCk
    have hl1 := hG.l1
    have hl4 := hG.l4
    have hn1 := hG.n1
    obtain ⟨l, hl⟩ : ∃ l : Nat, x.L = l := ⟨x.L.toNat, by omega⟩
    obtain ⟨nS, hnS⟩ : ∃ nS : Nat, x.N = nS := ⟨x.N.toNat, by omega⟩
    have h8 : nS ≤ 8 := by omega
    have hδ : ∀ s k, s < 256 → k < l → dset x.T s k < 256 := fun s k _ _ => dset_lt hG.t (by omega) s k
    have hs0 : setOf x.S < 256 := setOf_lt hG.s (by omega)
    obtain ⟨κ, hκ⟩ := ner_key (dset x.T) (mset x.F) 256 l
    have HMd : Hid (∀ W a' b' e' c' d' f', AutAt W x a' b' e' → Calls Try.prog 32 #[autV l nS a' x.S.length c' b' x.T.length d' e' x.F.length f'] W (LeastGPost (dset x.T) (mset x.F) 256 l (setOf x.S) W)) := fun W a' b' e' c' d' f' h => madeE_good x l nS hl hnS h8 hG a' b' e' c' d' f' W h
    have HMr : Hid (∀ W, w.grownBy W none → Calls Try.prog 35 #[autV l nS a x.S.length c b x.T.length d e x.F.length f] W (LeastPost (dset x.T) (mset x.F) 256 l (setOf x.S) W)) := fun W hW => madeR_any x l nS hl hnS h8 hG a b e c d f W (hA.grown hW)
    have HNo : Hid (∀ W (L S : Int) aR nR cR aM nM cM, nR ≤ 3000 → nM ≤ 3000 → Calls Try.prog 14 #[detV L S aR nR cR aM nM cM] W (TellsAny W)) := fun W L S aR nR cR aM nM cM h1 h2 => (noDet_any L S nR nM aR aM cR cM W (by omega) (by omega)).mono fun e w' ⟨b, h, _, hg⟩ => ⟨b, h, hg⟩
    have HMy : Hid (∀ W, w.grownBy W none → Calls Try.prog 26 #[.int .i64 (l : Nat), .slice az zs.length cz] W (Says (.int .i64 (mayF l zs)) W)) := fun W hW => (mayR_any l az cz zs W (hz.grown hW) hzm).mono fun e w' h => ⟨h.1, by rw [h.2]; exact grown_refl _ _⟩
    have HSl : Hid (∀ W aR cR aM cM aR' cR' aM' cM' (rs rs' : List (Value × List Int)) (M1 M2 : List Int), LeastOf (dset x.T) (mset x.F) 256 l (setOf x.S) (rs.map (·.2)) M1 → LeastOf (dset x.T) (mset x.F) 256 l (setOf x.S) (rs'.map (·.2)) M2 → DetAt W ⟨l, 0, rs.map (·.2), M1⟩ aR aM → DetAt W ⟨l, 0, rs'.map (·.2), M2⟩ aR' aM' → Calls Try.prog 12 #[detV l 0 aR rs.length cR aM M1.length cM, detV l 0 aR' rs'.length cR' aM' M2.length cM'] W (Says (.bool true) W)) := fun W aR cR aM cM aR' cR' aM' cM' rs rs' M1 M2 h1 h2 d1 d2 => by
      obtain ⟨e1, e2⟩ := h1.eq h2 hκ
      have h3 := same_any l 0 l 0 (rs.map (·.2)) (rs'.map (·.2)) M1 M2 aR aM aR' aM' cR cM cR' cM' W d1 d2
      rw [List.length_map, List.length_map] at h3
      exact h3.mono fun e w' h => says_of_tells h (by rw [e1, e2]; rfl)
    rw [hl, hnS] at HAu HSa HCk ⊢
    refine made_B x l nS (setOf x.S) (mayF l zs) (mset x.F (goS x.T (setOf x.S) (zs.map Int.toNat))) (dset x.T) (mset x.F) a b e az c d f zs.length cz w (by omega) h8 ?_ HMd HSa HNo HCk HMr HSl HMy ?_ ?_
    · intro W hW
      refine (HAu.out W hW).mono ?_
      rintro E w' ⟨a', b', e', c', d', f', hE, h2, h3⟩
      rw [hl, hnS] at hE
      exact ⟨a', b', e', c', d', f', hE, h2, h3⟩
    · intro hm W aR cR aM cM rs M1 hW hlo hd
      obtain ⟨us, rfl, hus, hul⟩ := may_word hm
      have hgd := hlo.good hδ hs0 (by omega) (by omega) (by omega)
      have h1 := acceptsR_any l 0 (rs.map (·.2)) M1 aR aM az cR cM cz (natInts us) W hd hgd (hz.grown hW) hzm (fun k hk => by
        have hk2 : k < us.length := by simpa [natInts] using hk
        have e1 : (natInts us).getD k 0 = ((us.getD k 0 : Nat) : Int) := by simp [natInts, List.getD, hk2]
        have e2 : us.getD k 0 < l := hus _ (by rw [List.getD, List.getElem?_eq_getElem hk2]; exact List.getElem_mem _)
        rw [e1]; omega)
      rw [List.length_map] at h1
      refine h1.mono fun E w' h => ⟨?_, h.2⟩
      rw [h.1]
      have e3 : (natInts us).map Int.toNat = us := by simp [natInts, List.map_map, Function.comp_def]
      rw [e3]
      have e4 := hlo.lang hδ hs0 hus
      unfold accB goS
      rw [foldl_nat]
      exact ret_bool e4
    · intro hm W hW
      obtain ⟨us, rfl, hus, hul⟩ := may_word hm
      have e3 : (natInts us).map Int.toNat = us := by simp [natInts, List.map_map, Function.comp_def]
      have h1 := reachR_any x l nS hl hnS hG a b e az c d f cz us W (hA.grown hW) (hz.grown hW) hul (fun k hk => hus _ (by rw [List.getD, List.getElem?_eq_getElem hk]; exact List.getElem_mem _))
      rw [e3]
      have e4 : (natInts us).length = us.length := by simp [natInts]
      rw [e4]
      exact h1
  · have HNo : Hid (∀ W, Calls Try.prog 14 #[detV 0 0 none 0 0 none 0 0] W (Says (.bool true) W)) := fun W => (noDet_any 0 0 0 0 none none 0 0 W (by omega) (by omega)).mono fun e w' h => says_of_tells h ⟨rfl, rfl, rfl⟩
    refine made_A x (madeF x) (checkA x) a b e az c d f zs.length cz w hb ?_ HAu (fun W a' b' e' c' d' f' h => madeE_bad x a' b' e' c' d' f' W h hb) HSa HNo HCk
    unfold madeF at hb ⊢
    by_cases h1 : checkA x = 0
    · rw [if_pos h1] at hb ⊢
      by_cases h2 : 8 < x.N
      · exact .inr ⟨h1, h2, by rw [if_pos h2]⟩
      · rw [if_neg h2] at hb; exact absurd rfl hb
    · rw [if_neg h1]; exact .inl ⟨h1, rfl⟩

theorem made_own : ownKnob Try.prog.godebug = none := by kernel_rfl

set_option maxRecDepth 100000 in
theorem made_lifted (os : Os) (started : os.Started) (H : Type) (enc : TypeId × Value → H) :
    ReturnsInHanded {} Try.checked os 8 .any (Rows.detMadeSpec.pre6 enc Try.prog Try.f8 Rows.detMadeRow.domain false) (Rows.detMadeSpec.post enc Try.prog Try.f8 false true false false) := by
  refine returnsInHanded_of_change_sized (C := Try.checked) made_own started (by kernel_rfl) Try.func8
    (ChangeSpec.witness6 (enc := enc) (C := Try.checked) false ⟨#[], #[.agg #[.int .i64 0, .int .i64 0, .slice none 0 0, .slice none 0 0, .slice none 0 0], .slice none 0 0], []⟩ 8 (by kernel_rfl) (by kernel_rfl) (by kernel_rfl) (by kernel_rfl)) ?_
  intro W base args ds gs before hval0 hW hcnd hsz0 _
  have hval : ∀ (j : Nat) t v, Try.f8.params[j]? = some t → args[j]? = some v → Value.okWide Try.prog W .any base t v := hval0
  have hsz : (DataW.weightsEach Try.prog (Try.f8.params.toList ++ Rows.detMadeSpec.plain.varTypes Try.prog) (ds ++ gs)).all (· ≤ reachBytes) = true := hsz0
  have hW' := hW
  obtain ⟨p, q, hA0, hV, rfl, hfz, hnd⟩ := hW
  have hA : DataW.TrodAll enc Try.prog W 0 (fun _ => true) true Try.f8.params.toList args.toList ds p := hA0
  rw [Try.params8] at hA hval hsz
  obtain ⟨v0, vs0, d0, ds0, p0, q0, hargs, rfl, rfl, h0, r0⟩ := trodAll_cons hA
  obtain ⟨v1, vs1, d1, ds1, p1, q1, rfl, rfl, rfl, h1, r1⟩ := trodAll_cons r0
  obtain ⟨rfl, rfl, rfl⟩ := trodAll_nil r1
  obtain rfl : args = #[v0, v1] := by cases args; simp_all
  obtain ⟨rfl, rfl⟩ := trodVars_none hV
  have lt0 : ∀ x ∈ p0, x.block < W.heap.size := by obtain ⟨m, hm⟩ := h0; exact DataW.trod_lt m _ _ _ hm
  have lt1 : ∀ x ∈ p1, x.block < W.heap.size := by obtain ⟨m, hm⟩ := h1; exact DataW.trod_lt m _ _ _ hm
  have hw0 : ∀ m ∈ d0.weights Try.prog 62, m ≤ reachBytes := fun m hm => by
    have := List.all_eq_true.1 hsz m (DataW.weights_mem_each (j := 0) rfl rfl m hm)
    simpa using this
  obtain ⟨x, a, b, e, c, d, f, rfl, hX, z1, z2, z3, z4⟩ := aut_sized (hval 0 62 v0 rfl rfl) h0 hw0
  obtain ⟨az, cz, zs, rfl, hz, hzm⟩ := slice_of_trod (hval 1 23 v1 rfl rfl) h1
  clear hA0 hval0 hsz0
  refine (made_walk x a b e az c d f cz zs W hX z1 z2 z3 z4 hz hzm).mono fun E W' ⟨he, hg⟩ => ?_
  subst he
  have bel : Below W.heap.size W W' := below_of_grown hg
  exact ⟨_, rfl, _, _, _, [], _, [], hW', trodAll_mk1 (shut_bool Try.underlying4 _), (trodAll_cons_mk (Below.trod Try.laidOut (by kernel_rfl) (of_decide_eq_true (by kernel_rfl)) h0 bel lt0) (trodAll_cons_mk (Below.trod Try.laidOut (by kernel_rfl) (of_decide_eq_true (by kernel_rfl)) h1 bel lt1) trodAll_mk0)), rfl, bel.frame _, fun h => by cases h⟩

theorem detMade_holds : Rows.DetMadeSaid :=
  OpenClaim.holds_of_wide 8 Try.f8 rfl rfl rfl rfl rfl rfl rfl ⟨rfl, rfl, rfl, rfl, rfl⟩ rfl rfl rfl rfl rfl (by kernel_rfl) Try.func8 (by kernel_rfl)
    (of_decide_eq_true (by kernel_rfl)) (by unfold Func.isWrapper; first | (rw [if_pos (by decide +kernel)]; kernel_rfl) | (rw [if_neg (by decide +kernel)]; exact ⟨rfl, rfl⟩))
    (fun os started H enc _ => made_lifted os started H enc)
#print axioms detMade_holds
end Go.Proofs.Ytofjboelplknhaa
