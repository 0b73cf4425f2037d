/- WordNormal holds: whatever lasso and number come in, in whatever memory, shared or not, it returns true and writes nothing that was there; there are no conditions. -/
import Derived.Test.YthccdfjmkdcehaaNormalW
import Derived.Test.YthccdfjmkdcehaaOpenMore
import Derived.SizedLaws
namespace Go.Proofs.Ythccdfjmkdcehaa
open Go.ChangeShapes Go.WideShapes Go.ChangeAt Go.RowKit Go.Joins
set_option linter.unusedVariables false

theorem Try.bytes3 : Try.prog.bytesOf 3 = 8 := by kernel_rfl

theorem weight_of_trod {H : Type} {enc : TypeId × Value → H} {W : World} {fuel : Nat} {a : Option Addr} {n c : Nat} {x : DataW H × List MemPlace} (h : DataW.trod enc Try.prog W 0 (fun _ => true) true fuel 26 [.slice a n c] = some x)
    (hw : ∀ m ∈ x.1.weights Try.prog 26, m ≤ reachBytes) : n ≤ 17592186044416 := by
  rcases open_ints Try.underlying26 Try.underlying3 Try.cells3 h with ⟨hcs, _⟩ | ⟨x', len, cap, zs, hcs, _, hl, hm, hz, hx, hcell, hwz⟩
  · simp only [List.cons.injEq, Value.slice.injEq, and_true] at hcs
    omega
  · simp only [List.cons.injEq, Value.slice.injEq, and_true] at hcs
    subst hx
    simp only [if_true] at hz
    have := hw (((lits (H := H) .i64 (zs.take len)).length + (lits (H := H) .i64 (zs.drop len)).length) * Try.prog.bytesOf 3) (by simp [DataW.weights, Try.underlying26])
    rw [Try.bytes3] at this
    simp only [lits, List.length_map, List.length_take, List.length_drop, reachBytes] at this
    omega

theorem lasso_of_trod3 {H : Type} {enc : TypeId × Value → H} {W : World} {base : Nat} {v : Value} {d : DataW H} {p : List MemPlace} (hv : Value.okWide Try.prog W .any base 30 v) (h : DataW.Trod enc Try.prog W 0 (fun _ => true) true 30 v d p) (hw : ∀ m ∈ d.weights Try.prog 30, m ≤ reachBytes) :
    ∃ a c hs a' c' ls, v = .agg #[.slice a (List.length hs) c, .slice a' (List.length ls) c'] ∧ Ints W a hs ∧ Ints W a' ls ∧ hs.length ≤ 17592186044416 ∧ ls.length ≤ 17592186044416 := by
  obtain ⟨c0, c1, y0, y1, m, rfl, rfl, _, hy0, hy1⟩ := open_agg2 Try.underlying30 (by kernel_rfl) Try.cells30 hv h
  obtain ⟨a, c, zs, e0, i0, m0⟩ := ints_of_trod hy0
  obtain ⟨a', c', zs', e1, i1, m1⟩ := ints_of_trod hy1
  simp only [List.cons.injEq, and_true] at e0 e1
  subst e0 e1
  refine ⟨a, c, zs, a', c', zs', rfl, i0, i1, weight_of_trod hy0 fun m hm => hw m ?_, weight_of_trod hy1 fun m hm => hw m ?_⟩
  · simp [DataW.weights, Try.underlying30, DataW.weightsEach]
    exact .inl hm
  · simp [DataW.weights, Try.underlying30, DataW.weightsEach]
    exact .inr hm

theorem normal_walk (n : Int) (a a' : Option Addr) (c c' : Nat) (h l : List Int) (w : World) (hh : Ints w a h) (hl : Ints w a' l) (hm : h.length ≤ 17592186044416) (hm' : l.length ≤ 17592186044416) (hn : n ≤ 9223372036854775807) :
    Calls Try.prog 5 #[.agg #[.slice a h.length c, .slice a' l.length c'], .int .i64 n] w fun e w' => e = .returned (.bool true) ∧ Below w.heap.size w w' := by
  have m1 : h.length ≤ maxLen := by unfold maxLen; omega
  have m2 : l.length ≤ maxLen := by unfold maxLen; omega
  have HL := fun (W : World) (hW : Below w.heap.size w W) => lassoL_any a a' c c' h l W (hh.later hW) (hl.later hW) hm hm'
  have HX := fun (W : World) (gx gx' : Nat) (i1 : Ints W (some ⟨gx, 0, none⟩) h) (i2 : Ints W (some ⟨gx', 0, none⟩) l) (hW : Below w.heap.size w W) => alike_true (some ⟨gx, 0, none⟩) (some ⟨gx', 0, none⟩) a a' h.length l.length (h.length + 3) (l.length + 3) c c' h l W i1 i2 (hh.later hW) (hl.later hW) rfl rfl m1 m2
  have HLs := fun (W : World) (hW : Below w.heap.size w W) => lassoR_any 4 a a' c c' h l W (hh.later hW) (hl.later hW) m1 m2
  by_cases h1 : lassoF 4 h l = 0
  · obtain ⟨g1, g2, g3⟩ := lassoF_ok h1
    rw [h1] at HLs
    have HN := fun (W : World) (gx gx' : Nat) (i1 : Ints W (some ⟨gx, 0, none⟩) h) (i2 : Ints W (some ⟨gx', 0, none⟩) l) => normal_ok (some ⟨gx, 0, none⟩) (some ⟨gx', 0, none⟩) (h.length + 3) (l.length + 3) h l W i1 i2 m1 m2 h1
    have HL0 := fun (W : World) (hW : Below w.heap.size w W) => least_any 0 a a' c c' h l W (hh.later hW) (hl.later hW) g1 g2 g3 (by omega)
    have e0 : (fun m => letF h l (0 + m)) = letF h l := funext fun m => by rw [Nat.zero_add]
    rw [e0] at HL0
    by_cases h2 : n < 0
    · have hp : placedF n h l = 2 := by unfold placedF; rw [if_pos h1, if_pos h2]
      have HR := fun (W : World) (gx gx' : Nat) (i1 : Ints W (some ⟨gx, 0, none⟩) h) (i2 : Ints W (some ⟨gx', 0, none⟩) l) => rest_bad n (some ⟨gx, 0, none⟩) (some ⟨gx', 0, none⟩) (h.length + 3) (l.length + 3) h l W i1 i2 m1 m2 (by rw [hp]; omega)
      rw [hp] at HR
      exact normal_B n a a' c c' h l w h2 HL HN HR HX HLs HL0
    · obtain ⟨n, rfl⟩ := Int.eq_ofNat_of_zero_le (by omega : 0 ≤ n)
      have HR := fun (W : World) (gx gx' : Nat) (i1 : Ints W (some ⟨gx, 0, none⟩) h) (i2 : Ints W (some ⟨gx', 0, none⟩) l) => rest_ok n (some ⟨gx, 0, none⟩) (some ⟨gx', 0, none⟩) (h.length + 3) (l.length + 3) h l W i1 i2 m1 m2 h1 (by omega) hn
      have HLn := fun (W : World) (hW : Below w.heap.size w W) => least_any n a a' c c' h l W (hh.later hW) (hl.later hW) g1 g2 g3 hn
      exact normal_C n a a' c c' h l w hn HL HN HR HX HLs HL0 HLn
  · have HN := fun (W : World) (gx gx' : Nat) (i1 : Ints W (some ⟨gx, 0, none⟩) h) (i2 : Ints W (some ⟨gx', 0, none⟩) l) => normal_bad (some ⟨gx, 0, none⟩) (some ⟨gx', 0, none⟩) (h.length + 3) (l.length + 3) h l W i1 i2 m1 m2 h1
    have hp : placedF n h l = lassoF 4 h l := by unfold placedF; rw [if_neg h1]
    have HR := fun (W : World) (gx gx' : Nat) (i1 : Ints W (some ⟨gx, 0, none⟩) h) (i2 : Ints W (some ⟨gx', 0, none⟩) l) => rest_bad n (some ⟨gx, 0, none⟩) (some ⟨gx', 0, none⟩) (h.length + 3) (l.length + 3) h l W i1 i2 m1 m2 (by rw [hp]; exact h1)
    rw [hp] at HR
    exact normal_A n a a' c c' h l w (lassoF 4 h l) h1 HL HN HR HX HLs

theorem normal_own : ownKnob Try.prog.godebug = none := by kernel_rfl

set_option maxRecDepth 100000 in
theorem normal_lifted (os : Os) (started : os.Started) (H : Type) (enc : TypeId × Value → H) :
    ReturnsInHanded {} Try.checked os 5 .any (Rows.wordNormalSpec.pre6 enc Try.prog Try.f5 Rows.wordNormalRow.domain false) (Rows.wordNormalSpec.post enc Try.prog Try.f5 false true false false) := by
  refine returnsInHanded_of_change_sized (C := Try.checked) normal_own started (by kernel_rfl) Try.func5
    (ChangeSpec.witness6 (enc := enc) (C := Try.checked) false ⟨#[], #[.agg #[.slice none 0 0, .slice none 0 0], .int .i64 0], []⟩ 8 (by kernel_rfl) (by kernel_rfl) (by kernel_rfl) (by kernel_rfl)) ?_
  intro W base args ds gs before hval0 hW hcnd hsz0 _
  have hval : ∀ (j : Nat) t v, Try.f5.params[j]? = some t → args[j]? = some v → Value.okWide Try.prog W .any base t v := hval0
  have hsz : (DataW.weightsEach Try.prog (Try.f5.params.toList ++ Rows.wordNormalSpec.plain.varTypes Try.prog) (ds ++ gs)).all (· ≤ reachBytes) = true := hsz0
  have hW' := hW
  obtain ⟨p, q, hA0, hV, rfl, hfz, hnd⟩ := hW
  have hA : DataW.TrodAll enc Try.prog W 0 (fun _ => true) true Try.f5.params.toList args.toList ds p := hA0
  rw [Try.params5] at hA hval hsz
  obtain ⟨v0, vs0, d0, ds0, p0, q0, hargs, rfl, rfl, h0, r0⟩ := trodAll_cons hA
  obtain ⟨v1, vs1, d1, ds1, p1, q1, rfl, rfl, rfl, h1, r1⟩ := trodAll_cons r0
  obtain ⟨rfl, rfl, rfl⟩ := trodAll_nil r1
  obtain rfl : args = #[v0, v1] := by cases args; simp_all
  obtain ⟨rfl, rfl⟩ := trodVars_none hV
  have lt0 : ∀ x ∈ p0, x.block < W.heap.size := by obtain ⟨m, hm⟩ := h0; exact DataW.trod_lt m _ _ _ hm
  obtain ⟨n1, rfl, rfl, rfl, wn1⟩ := open_int Try.underlying3 (hval 1 3 v1 rfl rfl) h1
  have hw0 : ∀ m ∈ d0.weights Try.prog 30, m ≤ reachBytes := fun m hm => by
    have := List.all_eq_true.1 hsz m (DataW.weights_mem_each (j := 0) rfl rfl m hm)
    simpa using this
  obtain ⟨a, c, hs, a', c', ls, rfl, i0, i1, m0, m1⟩ := lasso_of_trod3 (hval 0 30 v0 rfl rfl) h0 hw0
  have hn1 : n1 ≤ 9223372036854775807 := (bounds_i64 wn1).2
  clear hA0 hval0 hsz0
  refine (normal_walk n1 a a' c c' hs ls W i0 i1 m0 m1 hn1).mono fun e W' ⟨he, bel⟩ => ?_
  subst he
  exact ⟨_, rfl, _, _, _, [], _, [], hW', trodAll_mk1 (shut_bool Try.underlying4 _), (trodAll_cons_mk (Below.trod Try.laidOut (by kernel_rfl) (of_decide_eq_true (by kernel_rfl)) h0 bel lt0) (trodAll_cons_mk (shut_int Try.underlying3 wn1) trodAll_mk0)), rfl, bel.frame _, fun h => by cases h⟩

theorem wordNormal_holds : Rows.WordNormalSaid :=
  OpenClaim.holds_of_wide 5 Try.f5 rfl rfl rfl rfl rfl rfl rfl ⟨rfl, rfl, rfl, rfl, rfl⟩ rfl rfl rfl rfl rfl (by kernel_rfl) Try.func5 (by kernel_rfl)
    (of_decide_eq_true (by kernel_rfl)) (by unfold Func.isWrapper; first | (rw [if_pos (by decide +kernel)]; kernel_rfl) | (rw [if_neg (by decide +kernel)]; exact ⟨rfl, rfl⟩))
    (fun os started H enc _ => normal_lifted os started H enc)
#print axioms wordNormal_holds
end Go.Proofs.Ythccdfjmkdcehaa
