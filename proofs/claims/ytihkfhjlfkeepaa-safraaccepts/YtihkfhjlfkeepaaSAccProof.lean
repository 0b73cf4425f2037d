/- SafraAccepts holds: whatever automaton with marks and whatever lasso come in, in whatever memory, shared or not: the program's Check answers as the reference's, and its Accepts refuses what the reference refuses, and else tells of the lasso's infinite word what the reference tells; it writes nothing that was there; there are no conditions. -/
import Derived.Test.YtihkfhjlfkeepaaSAccW
import Derived.SizedLaws
namespace Go.Proofs.Ytihkfhjlfkeepaa
open Go.ChangeShapes Go.WideShapes Go.ChangeAt Go.RowKit Go.Joins
set_option linter.unusedVariables false

theorem Try.cells27 : Try.prog.cellsOf 27 = 2 := by kernel_rfl
set_option maxRecDepth 100000 in
theorem las_of_trod {H : Type} {enc : TypeId × Value → H} {W : World} {base : Nat} {v : Value} {dd : DataW H} {p : List MemPlace} (hv : Value.okWide Try.prog W .any base 27 v) (h : DataW.Trod enc Try.prog W 0 (fun _ => true) true 27 v dd p) :
    ∃ (a a' : Option Addr) (c c' : Nat) (hs ls : List Int), v = .agg #[.slice a hs.length c, .slice a' ls.length c'] ∧ Ints W a hs ∧ Ints W a' ls ∧ hs.length ≤ maxLen ∧ ls.length ≤ maxLen := by
  obtain ⟨cs, rfl, hsz⟩ := okWide_struct Try.underlying27 hv
  obtain ⟨fuel, hf⟩ := h
  obtain ⟨xs, k, hk, hxy, _, hxl, hf⟩ := DataW.trod_struct Try.underlying27 hf
  rw [Try.cells27] at hsz
  obtain ⟨cs⟩ := cs
  simp only [List.size_toArray] at hsz
  match xs, hxl, cs, hsz with
  | [y0, y1], _, [v0, v1], _ =>
    have g0 := hf 0 _ rfl
    have g1 := hf 1 _ rfl
    simp [Try.cells23, Value.cells] at g0 g1
    obtain ⟨a, c, S, e0, i0, m0⟩ := ints_of_trod g0
    obtain ⟨a', c', F, e1, i1, m1⟩ := ints_of_trod g1
    simp only [List.cons.injEq, and_true] at e0 e1
    subst e0 e1
    exact ⟨a, a', c, c', S, F, rfl, i0, i1, m0, m1⟩

theorem saccept_walk (L S : Int) (R : List (List Int)) (M : List Int) (a a' ah al : Option Addr) (c c' ch cl : Nat) (hs ls : List Int) (w : World) (hD : DetAt w ⟨L, S, R, M⟩ a a') (hh : Ints w ah hs) (hl : Ints w al ls) (hhm : hs.length ≤ maxLen) (hlm : ls.length ≤ maxLen) :
    Calls Try.prog 3 #[detV L S a R.length c a' M.length c', lasV ah hs.length ch al ls.length cl] w (Says (.bool true) w) := by
  have HCb : ∀ W, w.grownBy W none → Calls Try.prog 4 #[detV L S a R.length c a' M.length c'] W (Says (.int .i64 (checkN 20000 9 ⟨L, S, R, M⟩)) W) := fun W hW => checkS_any L S R M a a' c c' W (hD.grown hW)
  have HCk : ∀ W, w.grownBy W none → Calls Try.prog 5 #[detV L S a R.length c a' M.length c'] W (Says (.int .i64 (checkN 20000 9 ⟨L, S, R, M⟩)) W) := fun W hW => check9_any L S R M a a' c c' W (hD.grown hW)
  by_cases hc : checkN 20000 9 ⟨L, S, R, M⟩ = 0
  · have hG := goodN_of_check hc
    rw [hc] at HCk HCb
    have HLp : ∀ W, w.grownBy W none → Calls Try.prog 10 #[.int .i64 L, lasV ah hs.length ch al ls.length cl] W (Says (.int .i64 (lassoF L hs ls)) W) := fun W hW => lassoP_any L ah al ch cl hs ls W (hh.grown hW) (hl.grown hW) hhm hlm
    have HLs : ∀ W, w.grownBy W none → Calls Try.prog 7 #[.int .i64 L, lasV ah hs.length ch al ls.length cl] W (Says (.int .i64 (lassoF L hs ls)) W) := fun W hW => lassoR_any L ah al ch cl hs ls W (hh.grown hW) (hl.grown hW) hhm hlm
    by_cases hb : lassoF L hs ls = 0
    · rw [hb] at HLs HLp
      obtain ⟨m1, m2, m3⟩ := lasso_word hb
      obtain ⟨_, l1⟩ := mayF_letters m1
      obtain ⟨_, l2⟩ := mayF_letters m2
      have hS : 0 ≤ S ∧ S < R.length := hG.s
      have h0 : Dfa.go ⟨L, S, R, M⟩ S.toNat hs < R.length := hG.go_lt (by simp only; omega) hs (letters_mem l1)
      have hdeep : Dfa.deep ⟨L, S, R, M⟩ hs ls < R.length := itN_lt (fun q hq => go_all hG (letters_mem l2) q hq) h0 _
      exact saccept_C L S R.length M.length ⟨L, S, R, M⟩ hs ls
        (fun y y' q q1 hq h1 h2 => by
          obtain ⟨p, p1, p2, hp⟩ := round_of (f := fun q => Dfa.go ⟨L, S, R, M⟩ q ls) (fun q hq => go_all hG (letters_mem l2) q hq) h0
          exact lows_eq hG hdeep (letters_mem l2) m3 p1 hp p2 q1 hq h1 h2)
        a a' ah al c c' hs.length ch ls.length cl w HCb HCk
        (fun W hW => acceptsS_good L S R M a a' ah al c c' ch cl hs ls W
          (fun q y hy => by have := hy.range (by omega) (fun m hm => seenR_nonneg hG (letters_mem l2) hdeep (Nat.zero_le _) hm); omega)
          (fun W' hW' => HCb W' (grown_trans hW hW')) (fun W' hW' => HLp W' (grown_trans hW hW'))
          (fun W' hW' => leastAgain_any 20000 9 (by omega) L S R M a a' ah al c c' ch cl hs ls W' (hD.grown (grown_trans hW hW')) hG (hh.grown (grown_trans hW hW')) hhm l1 (hl.grown (grown_trans hW hW')) hlm l2)) HLs
        (fun W hW => accepts9_any 20000 (by omega) L S R M a a' ah al c c' ch cl hs ls W (hD.grown hW) hG (hh.grown hW) hhm l1 (hl.grown hW) hlm l2)
    · exact saccept_B L S R.length M.length (lassoF L hs ls) a a' ah al c c' hs.length ch ls.length cl w hb HCb HCk (fun W hW => acceptsS_las L S _ R M a a' ah al c c' hs.length ch ls.length cl W hb (fun W' hW' => HCb W' (grown_trans hW hW')) (fun W' hW' => HLp W' (grown_trans hW hW'))) HLs
  · exact saccept_A L S R.length M.length (checkN 20000 9 ⟨L, S, R, M⟩) a a' ah al c c' hs.length ch ls.length cl w hc HCb HCk (fun W hW => acceptsS_bad L S _ R M a a' ah al c c' hs.length ch ls.length cl W hc (fun W' hW' => HCb W' (grown_trans hW hW')))

theorem saccept_own : ownKnob Try.prog.godebug = none := by kernel_rfl

set_option maxRecDepth 100000 in
theorem saccept_lifted (os : Os) (started : os.Started) (H : Type) (enc : TypeId × Value → H) :
    ReturnsInHanded {} Try.checked os 3 .any (Rows.safraAcceptsSpec.pre6 enc Try.prog Try.f3 Rows.safraAcceptsRow.domain false) (Rows.safraAcceptsSpec.post enc Try.prog Try.f3 false true false false) := by
  refine returnsInHanded_of_change_sized (C := Try.checked) saccept_own started (by kernel_rfl) Try.func3
    (ChangeSpec.witness6 (enc := enc) (C := Try.checked) false ⟨#[], #[.agg #[.int .i64 0, .int .i64 0, .slice none 0 0, .slice none 0 0], .agg #[.slice none 0 0, .slice none 0 0]], []⟩ 8 (by kernel_rfl) (by kernel_rfl) (by kernel_rfl) (by kernel_rfl)) ?_
  intro W base args ds gs before hval0 hW hcnd hsz0 _
  have hval : ∀ (j : Nat) t v, Try.f3.params[j]? = some t → args[j]? = some v → Value.okWide Try.prog W .any base t v := hval0
  have hsz : (DataW.weightsEach Try.prog (Try.f3.params.toList ++ Rows.safraAcceptsSpec.plain.varTypes Try.prog) (ds ++ gs)).all (· ≤ reachBytes) = true := hsz0
  have hW' := hW
  obtain ⟨p, q, hA0, hV, rfl, hfz, hnd⟩ := hW
  have hA : DataW.TrodAll enc Try.prog W 0 (fun _ => true) true Try.f3.params.toList args.toList ds p := hA0
  rw [Try.params3] at hA hval hsz
  obtain ⟨v0, vs0, d0, ds0, p0, q0, hargs, rfl, rfl, h0, r0⟩ := trodAll_cons hA
  obtain ⟨v1, vs1, d1, ds1, p1, q1, rfl, rfl, rfl, h1, r1⟩ := trodAll_cons r0
  obtain ⟨rfl, rfl, rfl⟩ := trodAll_nil r1
  obtain rfl : args = #[v0, v1] := by cases args; simp_all
  obtain ⟨rfl, rfl⟩ := trodVars_none hV
  have lt0 : ∀ x ∈ p0, x.block < W.heap.size := by obtain ⟨m, hm⟩ := h0; exact DataW.trod_lt m _ _ _ hm
  have lt1 : ∀ x ∈ p1, x.block < W.heap.size := by obtain ⟨m, hm⟩ := h1; exact DataW.trod_lt m _ _ _ hm
  obtain ⟨L, S, a, c, R, a', c', M, rfl, hD, _, _⟩ := det_of_trod (hval 0 25 v0 rfl rfl) h0
  obtain ⟨ah, al, ch, cl, hs, ls, rfl, hh, hl, hhm, hlm⟩ := las_of_trod (hval 1 27 v1 rfl rfl) h1
  clear hA0 hval0 hsz0
  refine (saccept_walk L S R M a a' ah al c c' ch cl hs ls W hD hh hl hhm hlm).mono fun E W' ⟨he, hg⟩ => ?_
  subst he
  have bel : Below W.heap.size W W' := below_of_grown hg
  exact ⟨_, rfl, _, _, _, [], _, [], hW', trodAll_mk1 (shut_bool Try.underlying4 _), (trodAll_cons_mk (Below.trod Try.laidOut (by kernel_rfl) (of_decide_eq_true (by kernel_rfl)) h0 bel lt0) (trodAll_cons_mk (Below.trod Try.laidOut (by kernel_rfl) (of_decide_eq_true (by kernel_rfl)) h1 bel lt1) trodAll_mk0)), rfl, bel.frame _, fun h => by cases h⟩

theorem safraAccepts_holds : Rows.SafraAcceptsSaid :=
  OpenClaim.holds_of_wide 3 Try.f3 rfl rfl rfl rfl rfl rfl rfl ⟨rfl, rfl, rfl, rfl, rfl⟩ rfl rfl rfl rfl rfl (by kernel_rfl) Try.func3 (by kernel_rfl)
    (of_decide_eq_true (by kernel_rfl)) (by unfold Func.isWrapper; first | (rw [if_pos (by decide +kernel)]; kernel_rfl) | (rw [if_neg (by decide +kernel)]; exact ⟨rfl, rfl⟩))
    (fun os started H enc _ => saccept_lifted os started H enc)
#print axioms safraAccepts_holds
end Go.Proofs.Ytihkfhjlfkeepaa
