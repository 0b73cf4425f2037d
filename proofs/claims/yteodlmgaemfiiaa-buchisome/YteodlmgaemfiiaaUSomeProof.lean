/- BuchiSome holds: whatever automaton of infinite words and whatever lasso come in, in whatever memory, shared or not: the program refuses what the reference refuses; else it answers a lasso that the reference accepts and whose parts are short enough and of its letters, or that there is none, and then the reference accepts no lasso; it writes nothing that was there; there are no conditions. -/
import Derived.Test.YteodlmgaemfiiaaUSomeW
import Derived.Test.YteodlmgaemfiiaaUArg
import Derived.Test.YteodlmgaemfiiaaURCheck
import Derived.Test.YteodlmgaemfiiaaUSameA
namespace Go.Proofs.Yteodlmgaemfiiaa
open Go.ChangeShapes Go.WideShapes Go.ChangeAt Go.RowKit Go.Joins
set_option linter.unusedVariables false

theorem lasso_word {l : Nat} {h k : List Int} (e : lassoF l h k = 0) : mayF l h = 0 ∧ mayF l k = 0 ∧ k.length ≠ 0 := by
  unfold lassoF at e
  by_cases h1 : mayF l h = 0
  · rw [if_pos h1] at e
    by_cases h2 : mayF l k = 0
    · rw [if_pos h2] at e
      by_cases h3 : k.length = 0
      · rw [if_pos h3] at e; omega
      · exact ⟨h1, h2, h3⟩
    · rw [if_neg h2] at e; exact absurd e h2
  · rw [if_neg h1] at e; exact absurd e h1
theorem below_mem {zs : List Nat} {l : Nat} (h : ∀ x, x ∈ zs → x < l) : ∀ k, k < zs.length → zs.getD k 0 < l := fun k hk => h _ (by rw [List.getD, List.getElem?_eq_getElem hk]; exact List.getElem_mem _)

theorem some_walk (x : Aut) (a b e ah al : Option Addr) (c d f ch cl : Nat) (hs ls : List Int) (w : World) (hA : AutAt w x a b e) (hS : x.S.length ≤ 17592186044416) (hF : x.F.length ≤ 17592186044416) (hT : x.T.length * 24 ≤ 140737488355328) (hn : b = none → d = 0) (hh : Ints w ah hs) (hl : Ints w al ls) (hhm : hs.length ≤ maxLen) (hlm : ls.length ≤ maxLen) :
    Calls Try.prog 5 #[autV x.L x.N a x.S.length c b x.T.length d e x.F.length f, lasV ah hs.length ch al ls.length cl] w (Says (.bool true) w) := by
  have HAu : Hid (∀ W, w.grownBy W none → Calls Try.prog 7 #[autV x.L x.N a x.S.length c b x.T.length d e x.F.length f] W (AutoPost x W)) := fun W hW => auto_any x a b e c d f W (hA.grown hW) hS hF hT hn
  have HSa : Hid (∀ W a' b' e' c' d' f', w.grownBy W none → AutAt W x a' b' e' → Calls Try.prog 9 #[autV x.L x.N a' x.S.length c' b' x.T.length d' e' x.F.length f', autV x.L x.N a x.S.length c b x.T.length d e x.F.length f] W (Says (.bool true) W)) := fun W a' b' e' c' d' f' hW h => sameAuto_any x a' b' e' a b e c' d' f' c d f W h (hA.grown hW)
  have HCk : ∀ W, w.grownBy W none → Calls Try.prog 11 #[autV x.L x.N a x.S.length c b x.T.length d e x.F.length f] W (Says (.int .i64 (checkA x)) W) := fun W hW => checkA7_any x a b e c d f W (hA.grown hW)
  by_cases hc : checkA x = 0
  · have hG := goodA_of_check hc
    rw [hc] at HCk
    have hl1 := hG.l1
    have hl4 := hG.l4
    have hn1 := hG.n1
    obtain ⟨l, hL⟩ : ∃ l : Nat, x.L = l := ⟨x.L.toNat, by omega⟩
    obtain ⟨nS, hN⟩ : ∃ nS : Nat, x.N = nS := ⟨x.N.toNat, by omega⟩
    have HLs : Hid (∀ W, w.grownBy W none → Calls Try.prog 19 #[autV l nS a x.S.length c b x.T.length d e x.F.length f, lasV ah hs.length ch al ls.length cl] W (Says (.int .i64 (lassoF l hs ls)) W)) := fun W hW => lasso7_any l nS a b e _ c _ d _ f ah al ch cl hs ls W (hh.grown hW) (hl.grown hW) hhm hlm
    rw [hL, hN] at HAu HSa HCk ⊢
    refine some_B x l nS (setOf x.S) (setOf x.F) (lassoF l hs ls) a b e ah al c d f hs.length ch ls.length cl w ?_ HSa (fun W a' b' e' c' d' f' h => some_good x l nS hL hN hG hc a' b' e' c' d' f' W h) (fun W aa ab n1 n2 ca cb h1 h2 => noLasso_any aa ab n1 n2 ca cb W h1 h2) (fun W aa ab ca cb => noLasso_yes aa ab ca cb W) HCk ?_ ?_ HLs ?_
    · intro W hW
      refine (HAu.out W hW).mono ?_
      rintro E w' ⟨a', b', e', c', d', f', hE, h2, h3⟩
      rw [hL, hN] at hE
      exact ⟨a', b', e', c', d', f', hE, h2, h3⟩
    · intro W hd lp n1 n2 aa ca ab cb e1 e2 hB hi hk
      subst e1 e2
      exact fits_any hB aa ab ca cb W hi hk
    · intro W hd lp n1 n2 aa ca ab cb e1 e2 hB hW hi hk
      subst e1 e2
      have h3 := hB.h3
      have h4 := hB.l3
      exact (accR_any x l nS hL hN hG a b e aa ab c d f ca cb hd lp W (hA.grown hW) hi hk (by omega) (by omega) hB.l1 (below_mem hB.hl) (below_mem hB.ll)).mono fun E w' h => says_of_tells h hB.acc
    · intro hb hno W hW
      obtain ⟨m1, m2, m3⟩ := lasso_word hb
      obtain ⟨us, rfl, hus, hul⟩ := may_word m1
      obtain ⟨vs, rfl, hvs, hvl⟩ := may_word m2
      have e1 : (natInts us).length = us.length := by simp [natInts]
      have e2 : (natInts vs).length = vs.length := by simp [natInts]
      rw [e2] at m3
      rw [e1, e2]
      exact (accR_any x l nS hL hN hG a b e ah al c d f ch cl us vs W (hA.grown hW) (hh.grown hW) (hl.grown hW) (by omega) (by omega) (by omega) (below_mem hus) (below_mem hvs)).mono fun E w' h => says_not h (hno us vs)
  · exact some_A x (checkA x) a b e ah al c d f hs.length ch ls.length cl w hc HAu HSa (fun W a' b' e' c' d' f' h => some_bad x a' b' e' c' d' f' W h hc) (fun W => noLasso_yes none none 0 0 W) HCk

theorem some_own : ownKnob Try.prog.godebug = none := by kernel_rfl

set_option maxRecDepth 100000 in
theorem some_lifted (os : Os) (started : os.Started) (H : Type) (enc : TypeId × Value → H) :
    ReturnsInHanded {} Try.checked os 5 .any (Rows.buchiSomeSpec.pre6 enc Try.prog Try.f5 Rows.buchiSomeRow.domain false) (Rows.buchiSomeSpec.post enc Try.prog Try.f5 false true false false) := by
  refine returnsInHanded_of_change_sized (C := Try.checked) some_own started (by kernel_rfl) Try.func5
    (ChangeSpec.witness6 (enc := enc) (C := Try.checked) false ⟨#[], #[.agg #[.int .i64 0, .int .i64 0, .slice none 0 0, .slice none 0 0, .slice none 0 0], .agg #[.slice none 0 0, .slice none 0 0]], []⟩ 8 (by kernel_rfl) (by kernel_rfl) (by kernel_rfl) (by kernel_rfl)) ?_
  intro W base args ds gs before hval0 hW hcnd hsz0 _
  have hval : ∀ (j : Nat) t v, Try.f5.params[j]? = some t → args[j]? = some v → Value.okWide Try.prog W .any base t v := hval0
  have hsz : (DataW.weightsEach Try.prog (Try.f5.params.toList ++ Rows.buchiSomeSpec.plain.varTypes Try.prog) (ds ++ gs)).all (· ≤ reachBytes) = true := hsz0
  have hW' := hW
  obtain ⟨p, q, hA0, hV, rfl, hfz, hnd⟩ := hW
  have hA : DataW.TrodAll enc Try.prog W 0 (fun _ => true) true Try.f5.params.toList args.toList ds p := hA0
  rw [Try.params5] at hA hval hsz
  obtain ⟨v0, vs0, d0, ds0, p0, q0, hargs, rfl, rfl, h0, r0⟩ := trodAll_cons hA
  obtain ⟨v1, vs1, d1, ds1, p1, q1, rfl, rfl, rfl, h1, r1⟩ := trodAll_cons r0
  obtain ⟨rfl, rfl, rfl⟩ := trodAll_nil r1
  obtain rfl : args = #[v0, v1] := by cases args; simp_all
  obtain ⟨rfl, rfl⟩ := trodVars_none hV
  have lt0 : ∀ x ∈ p0, x.block < W.heap.size := by obtain ⟨m, hm⟩ := h0; exact DataW.trod_lt m _ _ _ hm
  have lt1 : ∀ x ∈ p1, x.block < W.heap.size := by obtain ⟨m, hm⟩ := h1; exact DataW.trod_lt m _ _ _ hm
  have hw0 : ∀ m ∈ d0.weights Try.prog 25, m ≤ reachBytes := fun m hm => by
    have := List.all_eq_true.1 hsz m (DataW.weights_mem_each (j := 0) rfl rfl m hm)
    simpa using this
  obtain ⟨x, a, b, e, c, d, f, rfl, hX, z1, z2, z3, z4⟩ := aut_sized (hval 0 25 v0 rfl rfl) h0 hw0
  obtain ⟨ah, al, ch, cl, hs, ls, rfl, hh, hl, hhm, hlm⟩ := las_of_trod (hval 1 42 v1 rfl rfl) h1
  clear hA0 hval0 hsz0
  refine (some_walk x a b e ah al c d f ch cl hs ls W hX z1 z2 z3 z4 hh hl hhm hlm).mono fun E W' ⟨he, hg⟩ => ?_
  subst he
  have bel : Below W.heap.size W W' := below_of_grown hg
  exact ⟨_, rfl, _, _, _, [], _, [], hW', trodAll_mk1 (shut_bool Try.underlying4 _), (trodAll_cons_mk (Below.trod Try.laidOut (by kernel_rfl) (of_decide_eq_true (by kernel_rfl)) h0 bel lt0) (trodAll_cons_mk (Below.trod Try.laidOut (by kernel_rfl) (of_decide_eq_true (by kernel_rfl)) h1 bel lt1) trodAll_mk0)), rfl, bel.frame _, fun h => by cases h⟩

theorem buchiSome_holds : Rows.BuchiSomeSaid :=
  OpenClaim.holds_of_wide 5 Try.f5 rfl rfl rfl rfl rfl rfl rfl ⟨rfl, rfl, rfl, rfl, rfl⟩ rfl rfl rfl rfl rfl (by kernel_rfl) Try.func5 (by kernel_rfl)
    (of_decide_eq_true (by kernel_rfl)) (by unfold Func.isWrapper; first | (rw [if_pos (by decide +kernel)]; kernel_rfl) | (rw [if_neg (by decide +kernel)]; exact ⟨rfl, rfl⟩))
    (fun os started H enc _ => some_lifted os started H enc)
#print axioms buchiSome_holds
end Go.Proofs.Yteodlmgaemfiiaa
