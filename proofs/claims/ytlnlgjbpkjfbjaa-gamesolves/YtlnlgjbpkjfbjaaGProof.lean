/- GameSolves holds: whatever game comes in, in whatever memory, shared or not, the program says whether it is one, as the reference does, and of one that is it tells from each place who wins, and moves that look at the place alone and win; it writes nothing that was there; there are no conditions. -/
import Derived.Test.YtlnlgjbpkjfbjaaGLawA
import Derived.Test.YtlnlgjbpkjfbjaaGLawB
import Derived.Test.YtlnlgjbpkjfbjaaDSized
import Derived.SizedLaws
namespace Go.Proofs.Ytlnlgjbpkjfbjaa
open Go.ChangeShapes Go.WideShapes Go.ChangeAt Go.RowKit Go.Joins
set_option linter.unusedVariables false

theorem Try.cells33 : Try.prog.cellsOf 33 = 3 := by kernel_rfl

set_option maxRecDepth 100000 in
theorem game_sized {H : Type} {enc : TypeId × Value → H} {W : World} {base : Nat} {v : Value} {d : DataW H} {p : List MemPlace} (hv : Value.okWide Try.prog W .any base 33 v) (h : DataW.Trod enc Try.prog W 0 (fun _ => true) true 33 v d p) (hw : ∀ m ∈ d.weights Try.prog 33, m ≤ reachBytes) :
    ∃ (zo zm : List Int) (R : List (List Int)) (ao am ax : Option Addr) (co cm cx : Nat), v = gameV ao zo.length co am zm.length cm ax R.length cx ∧ GArg W zo zm R ao am ax ∧ zo.length ≤ 17592186044416 ∧ zm.length ≤ 17592186044416 ∧ R.length * 24 ≤ 140737488355328 ∧ (∀ i, i < R.length → (R.getD i []).length ≤ 17592186044416) := by
  obtain ⟨c0, c1, c2, y0, y1, y2, m, rfl, rfl, _, hy0, hy1, hy2⟩ := open_agg3 Try.underlying33 (by kernel_rfl) Try.cells33 hv h
  obtain ⟨ao, co, zo, e0, i0, m0⟩ := ints_of_trod hy0
  obtain ⟨am, cm, zm, e1, i1, m1⟩ := ints_of_trod hy1
  obtain ⟨ax, cx, R, e2, i2, m2⟩ := rows_of_trod hy2
  simp only [List.cons.injEq, and_true] at e0 e1 e2
  subst e0 e1 e2
  have hw0 : ∀ m ∈ y0.1.weights Try.prog 25, m ≤ reachBytes := fun m hm => hw m (by
    simp [DataW.weights, Try.underlying33, DataW.weightsEach]
    exact .inl hm)
  have hw1 : ∀ m ∈ y1.1.weights Try.prog 25, m ≤ reachBytes := fun m hm => hw m (by
    simp [DataW.weights, Try.underlying33, DataW.weightsEach]
    exact .inr (.inl hm))
  have hw2 : ∀ m ∈ y2.1.weights Try.prog 31, m ≤ reachBytes := fun m hm => hw m (by
    simp [DataW.weights, Try.underlying33, DataW.weightsEach]
    exact .inr (.inr hm))
  obtain ⟨z1, z2⟩ := rows_weight hy2 i2 hw2
  exact ⟨zo, zm, R, ao, am, ax, co, cm, cx, rfl, ⟨i0, i1, i2, m0, m1, m2⟩, weight_of_trod hy0 hw0, weight_of_trod hy1 hw1, z1, z2⟩

theorem game_walk (zo zm : List Int) (R : List (List Int)) (ao am ax : Option Addr) (co cm cx : Nat) (w : World) (h : GArg w zo zm R ao am ax) (hno : zo.length ≤ 17592186044416) (hnm : zm.length ≤ 17592186044416) (hnr : R.length * 24 ≤ 140737488355328) (hrl : ∀ i, i < R.length → (R.getD i []).length ≤ 17592186044416) :
    Calls Try.prog 4 #[gameV ao zo.length co am zm.length cm ax R.length cx] w (Says (.bool true) w) := by
  by_cases hc : checkG zo zm R = 0
  · exact game_B zo zm R ao am ax co cm cx w h hno hnm hnr hrl hc
  · exact game_A zo zm R ao am ax co cm cx w h hno hnm hnr hrl _ rfl hc

theorem game_own : ownKnob Try.prog.godebug = none := by kernel_rfl

set_option maxRecDepth 100000 in
theorem game_lifted (os : Os) (started : os.Started) (H : Type) (enc : TypeId × Value → H) :
    ReturnsInHanded {} Try.checked os 4 .any (Rows.gameSolvesSpec.pre6 enc Try.prog Try.f4 Rows.gameSolvesRow.domain false) (Rows.gameSolvesSpec.post enc Try.prog Try.f4 false true false false) := by
  refine returnsInHanded_of_change_sized (C := Try.checked) game_own started (by kernel_rfl) Try.func4
    (ChangeSpec.witness6 (enc := enc) (C := Try.checked) false ⟨#[], #[.agg #[.slice none 0 0, .slice none 0 0, .slice none 0 0]], []⟩ 8 (by kernel_rfl) (by kernel_rfl) (by kernel_rfl) (by kernel_rfl)) ?_
  intro W base args ds gs before hval0 hW hcnd hsz0 _
  have hval : ∀ (j : Nat) t v, Try.f4.params[j]? = some t → args[j]? = some v → Value.okWide Try.prog W .any base t v := hval0
  have hsz : (DataW.weightsEach Try.prog (Try.f4.params.toList ++ Rows.gameSolvesSpec.plain.varTypes Try.prog) (ds ++ gs)).all (· ≤ reachBytes) = true := hsz0
  have hW' := hW
  obtain ⟨p, q, hA0, hV, rfl, hfz, hnd⟩ := hW
  have hA : DataW.TrodAll enc Try.prog W 0 (fun _ => true) true Try.f4.params.toList args.toList ds p := hA0
  rw [Try.params4] at hA hval hsz
  obtain ⟨v0, vs0, d0, ds0, p0, q0, hargs, rfl, rfl, h0, r0⟩ := trodAll_cons hA
  obtain ⟨rfl, rfl, rfl⟩ := trodAll_nil r0
  obtain rfl : args = #[v0] := by cases args; simp_all
  obtain ⟨rfl, rfl⟩ := trodVars_none hV
  have lt0 : ∀ x ∈ p0, x.block < W.heap.size := by obtain ⟨m, hm⟩ := h0; exact DataW.trod_lt m _ _ _ hm
  have hw0 : ∀ m ∈ d0.weights Try.prog 33, m ≤ reachBytes := fun m hm => by
    have := List.all_eq_true.1 hsz m (DataW.weights_mem_each (j := 0) rfl rfl m hm)
    simpa using this
  obtain ⟨zo, zm, R, ao, am, ax, co, cm, cx, rfl, hD, z1, z2, z3, z4⟩ := game_sized (hval 0 33 v0 rfl rfl) h0 hw0
  clear hA0 hval0 hsz0
  refine (game_walk zo zm R ao am ax co cm cx W hD z1 z2 z3 z4).mono fun e W' ⟨he, hg⟩ => ?_
  subst he
  have bel : Below W.heap.size W W' := below_of_grown hg
  exact ⟨_, rfl, _, _, _, [], _, [], hW', trodAll_mk1 (shut_bool Try.underlying4 _), (trodAll_cons_mk (Below.trod Try.laidOut (by kernel_rfl) (of_decide_eq_true (by kernel_rfl)) h0 bel lt0) trodAll_mk0), rfl, bel.frame _, fun h => by cases h⟩

theorem gameSolves_holds : Rows.GameSolvesSaid :=
  OpenClaim.holds_of_wide 4 Try.f4 rfl rfl rfl rfl rfl rfl rfl ⟨rfl, rfl, rfl, rfl, rfl⟩ rfl rfl rfl rfl rfl (by kernel_rfl) Try.func4 (by kernel_rfl)
    (of_decide_eq_true (by kernel_rfl)) (by unfold Func.isWrapper; first | (rw [if_pos (by decide +kernel)]; kernel_rfl) | (rw [if_neg (by decide +kernel)]; exact ⟨rfl, rfl⟩))
    (fun os started H enc _ => game_lifted os started H enc)
#print axioms gameSolves_holds
end Go.Proofs.Ytlnlgjbpkjfbjaa
