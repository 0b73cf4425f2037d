/- BuchiAccepts holds: whatever automaton of infinite words and whatever lasso come in, in whatever memory, shared or not: the program's Check answers as the reference's, and its Accepts refuses what the reference refuses, and else tells of the lasso's infinite word what the reference tells; it writes nothing that was there; there are no conditions. -/
import Derived.Test.YtfjpdeoldcfhdaaUAccW
import Derived.Test.YtfjpdeoldcfhdaaUArg
import Derived.Test.YtfjpdeoldcfhdaaURCheck
namespace Go.Proofs.Ytfjpdeoldcfhdaa
open Go.ChangeShapes Go.WideShapes Go.ChangeAt Go.RowKit Go.Joins
set_option linter.unusedVariables false

theorem lasso_word {l : Nat} {h k : List Int} (e : lassoF l h k = 0) : mayF l h = 0 ∧ mayF l k = 0 ∧ k.length ≠ 0 := by
  unfold lassoF at e
  by_cases h1 : mayF l h = 0
  · rw [if_pos h1] at e
    by_cases h2 : mayF l k = 0
    · rw [if_pos h2] at e
      by_cases h3 : k.length = 0
      · rw [if_pos h3] at e; omega
      · exact ⟨h1, h2, h3⟩
    · rw [if_neg h2] at e; exact absurd e h2
  · rw [if_neg h1] at e; exact absurd e h1
theorem below_mem {zs : List Nat} {l : Nat} (h : ∀ x, x ∈ zs → x < l) : ∀ k, k < zs.length → zs.getD k 0 < l := fun k hk => h _ (by rw [List.getD, List.getElem?_eq_getElem hk]; exact List.getElem_mem _)

theorem baccept_walk (x : Aut) (a b e ah al : Option Addr) (c d f ch cl : Nat) (hs ls : List Int) (w : World) (hA : AutAt w x a b e) (hh : Ints w ah hs) (hl : Ints w al ls) (hhm : hs.length ≤ maxLen) (hlm : ls.length ≤ maxLen) :
    Calls Try.prog 4 #[autV x.L x.N a x.S.length c b x.T.length d e x.F.length f, lasV ah hs.length ch al ls.length cl] w (Says (.bool true) w) := by
  have HCb : ∀ W, w.grownBy W none → Calls Try.prog 17 #[autV x.L x.N a x.S.length c b x.T.length d e x.F.length f] W (Says (.int .i64 (checkA x)) W) := fun W hW => checkB_any x a b e c d f W (hA.grown hW)
  have HCk : ∀ W, w.grownBy W none → Calls Try.prog 11 #[autV x.L x.N a x.S.length c b x.T.length d e x.F.length f] W (Says (.int .i64 (checkA x)) W) := fun W hW => checkA7_any x a b e c d f W (hA.grown hW)
  by_cases hc : checkA x = 0
  · have hG := goodA_of_check hc
    rw [hc] at HCk HCb
    have hl1 := hG.l1
    have hl4 := hG.l4
    have hn1 := hG.n1
    have HLs : ∀ W, w.grownBy W none → Calls Try.prog 19 #[autV x.L x.N a x.S.length c b x.T.length d e x.F.length f, lasV ah hs.length ch al ls.length cl] W (Says (.int .i64 (lassoF x.L hs ls)) W) := fun W hW => lasso7_any x.L x.N a b e _ c _ d _ f ah al ch cl hs ls W (hh.grown hW) (hl.grown hW) hhm hlm
    by_cases hb : lassoF x.L hs ls = 0
    · rw [hb] at HLs
      obtain ⟨l, hL⟩ : ∃ l : Nat, x.L = l := ⟨x.L.toNat, by omega⟩
      obtain ⟨nS, hN⟩ : ∃ nS : Nat, x.N = nS := ⟨x.N.toNat, by omega⟩
      rw [hL] at hb
      rw [hL, hN] at HCb HCk HLs ⊢
      have hlas := hb
      obtain ⟨m1, m2, m3⟩ := lasso_word hb
      obtain ⟨us, rfl, hus, hul⟩ := may_word m1
      obtain ⟨vs, rfl, hvs, hvl⟩ := may_word m2
      have e1 : (natInts us).length = us.length := nlen us
      have e2 : (natInts vs).length = vs.length := nlen vs
      rw [e2] at m3
      rw [e1, e2] at HLs ⊢
      exact baccept_C l nS x.S.length x.T.length x.F.length (AccL x.T (setOf x.S) (setOf x.F) us vs) a b e ah al c d f us.length ch vs.length cl w HCb HCk
        (fun W hW => acceptsP_good x l nS hL hN hG hc a b e ah al c d f ch cl us vs W (hA.grown hW) (hh.grown hW) (hl.grown hW) (by omega) (by omega) (by omega) (below_mem hus) (below_mem hvs) hlas) HLs
        (fun W hW => accR_any x l nS hL hN hG a b e ah al c d f ch cl us vs W (hA.grown hW) (hh.grown hW) (hl.grown hW) (by omega) (by omega) (by omega) (below_mem hus) (below_mem hvs))
    · exact baccept_B x.L x.N x.S.length x.T.length x.F.length (lassoF x.L hs ls) a b e ah al c d f hs.length ch ls.length cl w hb HCb HCk (fun W hW => acceptsP_las x a b e ah al c d f ch cl hs ls W (hA.grown hW) hc (hh.grown hW) (hl.grown hW) hhm hlm hb) HLs
  · exact baccept_A x.L x.N x.S.length x.T.length x.F.length (checkA x) a b e ah al c d f hs.length ch ls.length cl w hc HCb HCk (fun W hW => acceptsP_bad x a b e ah al c d f hs.length ch ls.length cl W (hA.grown hW) hc)

theorem baccept_own : ownKnob Try.prog.godebug = none := by kernel_rfl

set_option maxRecDepth 100000 in
theorem baccept_lifted (os : Os) (started : os.Started) (H : Type) (enc : TypeId × Value → H) :
    ReturnsInHanded {} Try.checked os 4 .any (Rows.buchiAcceptsSpec.pre6 enc Try.prog Try.f4 Rows.buchiAcceptsRow.domain false) (Rows.buchiAcceptsSpec.post enc Try.prog Try.f4 false true false false) := by
  refine returnsInHanded_of_change_sized (C := Try.checked) baccept_own started (by kernel_rfl) Try.func4
    (ChangeSpec.witness6 (enc := enc) (C := Try.checked) false ⟨#[], #[.agg #[.int .i64 0, .int .i64 0, .slice none 0 0, .slice none 0 0, .slice none 0 0], .agg #[.slice none 0 0, .slice none 0 0]], []⟩ 8 (by kernel_rfl) (by kernel_rfl) (by kernel_rfl) (by kernel_rfl)) ?_
  intro W base args ds gs before hval0 hW hcnd hsz0 _
  have hval : ∀ (j : Nat) t v, Try.f4.params[j]? = some t → args[j]? = some v → Value.okWide Try.prog W .any base t v := hval0
  have hsz : (DataW.weightsEach Try.prog (Try.f4.params.toList ++ Rows.buchiAcceptsSpec.plain.varTypes Try.prog) (ds ++ gs)).all (· ≤ reachBytes) = true := hsz0
  have hW' := hW
  obtain ⟨p, q, hA0, hV, rfl, hfz, hnd⟩ := hW
  have hA : DataW.TrodAll enc Try.prog W 0 (fun _ => true) true Try.f4.params.toList args.toList ds p := hA0
  rw [Try.params4] at hA hval hsz
  obtain ⟨v0, vs0, d0, ds0, p0, q0, hargs, rfl, rfl, h0, r0⟩ := trodAll_cons hA
  obtain ⟨v1, vs1, d1, ds1, p1, q1, rfl, rfl, rfl, h1, r1⟩ := trodAll_cons r0
  obtain ⟨rfl, rfl, rfl⟩ := trodAll_nil r1
  obtain rfl : args = #[v0, v1] := by cases args; simp_all
  obtain ⟨rfl, rfl⟩ := trodVars_none hV
  have lt0 : ∀ x ∈ p0, x.block < W.heap.size := by obtain ⟨m, hm⟩ := h0; exact DataW.trod_lt m _ _ _ hm
  have lt1 : ∀ x ∈ p1, x.block < W.heap.size := by obtain ⟨m, hm⟩ := h1; exact DataW.trod_lt m _ _ _ hm
  have hw0 : ∀ m ∈ d0.weights Try.prog 25, m ≤ reachBytes := fun m hm => by
    have := List.all_eq_true.1 hsz m (DataW.weights_mem_each (j := 0) rfl rfl m hm)
    simpa using this
  obtain ⟨x, a, b, e, c, d, f, rfl, hX, z1, z2, z3, z4⟩ := aut_sized (hval 0 25 v0 rfl rfl) h0 hw0
  obtain ⟨ah, al, ch, cl, hs, ls, rfl, hh, hl, hhm, hlm⟩ := las_of_trod (hval 1 42 v1 rfl rfl) h1
  clear hA0 hval0 hsz0
  refine (baccept_walk x a b e ah al c d f ch cl hs ls W hX hh hl hhm hlm).mono fun E W' ⟨he, hg⟩ => ?_
  subst he
  have bel : Below W.heap.size W W' := below_of_grown hg
  exact ⟨_, rfl, _, _, _, [], _, [], hW', trodAll_mk1 (shut_bool Try.underlying4 _), (trodAll_cons_mk (Below.trod Try.laidOut (by kernel_rfl) (of_decide_eq_true (by kernel_rfl)) h0 bel lt0) (trodAll_cons_mk (Below.trod Try.laidOut (by kernel_rfl) (of_decide_eq_true (by kernel_rfl)) h1 bel lt1) trodAll_mk0)), rfl, bel.frame _, fun h => by cases h⟩

theorem buchiAccepts_holds : Rows.BuchiAcceptsSaid :=
  OpenClaim.holds_of_wide 4 Try.f4 rfl rfl rfl rfl rfl rfl rfl ⟨rfl, rfl, rfl, rfl, rfl⟩ rfl rfl rfl rfl rfl (by kernel_rfl) Try.func4 (by kernel_rfl)
    (of_decide_eq_true (by kernel_rfl)) (by unfold Func.isWrapper; first | (rw [if_pos (by decide +kernel)]; kernel_rfl) | (rw [if_neg (by decide +kernel)]; exact ⟨rfl, rfl⟩))
    (fun os started H enc _ => baccept_lifted os started H enc)
#print axioms buchiAccepts_holds
end Go.Proofs.Ytfjpdeoldcfhdaa
