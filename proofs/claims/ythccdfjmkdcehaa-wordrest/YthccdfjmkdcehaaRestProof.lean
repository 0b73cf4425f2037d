/- WordRest holds: whatever lasso and numbers come in, in whatever memory, shared or not, it returns true and writes nothing that was there; there are no conditions. -/
import Derived.Test.YthccdfjmkdcehaaRestW
import Derived.Test.YthccdfjmkdcehaaOpenMore
namespace Go.Proofs.Ythccdfjmkdcehaa
open Go.ChangeShapes Go.WideShapes Go.ChangeAt Go.RowKit Go.Joins
set_option linter.unusedVariables false

theorem rest_walk (n m : Int) (a a' : Option Addr) (c c' : Nat) (h l : List Int) (w : World) (hh : Ints w a h) (hl : Ints w a' l) (hm : h.length ≤ maxLen) (hm' : l.length ≤ maxLen) (hc : h.length ≤ c) :
    Calls Try.prog 6 #[.agg #[.slice a h.length c, .slice a' l.length c'], .int .i64 n, .int .i64 m] w fun e w' => e = .returned (.bool true) ∧ Below w.heap.size w w' := by
  by_cases h1 : n < 0
  · exact rest_N1 n m a a' c c' h l w h1
  · by_cases h2 : m < 0
    · exact rest_N2 n m a a' c c' h l w (by omega) h2
    · by_cases h3 : 1099511627776 < n
      · exact rest_N3 n m a a' c c' h l w h3 (by omega)
      · by_cases h4 : 1099511627776 < m
        · exact rest_N4 n m a a' c c' h l w (by omega) (by omega) h4
        · obtain ⟨n, rfl⟩ := Int.eq_ofNat_of_zero_le (by omega : 0 ≤ n)
          obtain ⟨m, rfl⟩ := Int.eq_ofNat_of_zero_le (by omega : 0 ≤ m)
          by_cases h5 : lassoF 4 h l = 0
          · have hf := lassoF_letters h5
            refine rest_G n m a a' c c' h l w (by omega) (by omega) (letF h l (n + m)) ?_ ?_ ?_ ?_ ?_ ?_ ?_
            · exact fun W hW => rest_ok n a a' c c' h l W (hh.later hW) (hl.later hW) hm hm' h5 hc (by omega)
            · intro W B p k g g' hi
              have := rest_of_short hi (fun i => hf _) m (by omega)
              simpa only [← Nat.add_assoc] using this
            · intro W x hW hx
              have := rest_ok (n + m) a a' c c' h l W (hh.later hW) (hl.later hW) hm hm' h5 hc (by omega)
              rw [hx]
              exact this
            · exact fun W B p k g g' hi => normal_of_short hi (fun i => hf _)
            · intro W x hW hx
              have := atW_any x a a' c c' h l W (hh.later hW) (hl.later hW) hm hm' (by omega)
              have hp0 : placedF x h l = 0 := by unfold placedF; rw [if_pos h5, if_neg (by omega)]
              rw [hp0, if_pos rfl, show x.toNat = n + m by omega] at this
              exact this
            · exact fun W B p k g g' hi => at_of_short hi (fun i => hf _) 0 (by omega)
            · exact fun W a a' zs q i1 i2 hq h60 => same_lists _ _ q q q q zs zs W i1 i2 rfl hq hq h60
          · have hp : placedF n h l ≠ 0 := by unfold placedF; rw [if_neg h5]; exact h5
            exact rest_B n m a a' c c' h l w (by omega) (by omega) (placedF n h l) hp (fun W hW => rest_bad n a a' c c' h l W (hh.later hW) (hl.later hW) hm hm' hp)

theorem rest_own : ownKnob Try.prog.godebug = none := by kernel_rfl

set_option maxRecDepth 100000 in
theorem rest_lifted (os : Os) (started : os.Started) (H : Type) (enc : TypeId × Value → H) :
    ReturnsInHanded {} Try.checked os 6 .any (Rows.wordRestSpec.pre6 enc Try.prog Try.f6 Rows.wordRestRow.domain false) (Rows.wordRestSpec.post enc Try.prog Try.f6 false true false false) := by
  refine returnsInHanded_of_change (C := Try.checked) rest_own started (by kernel_rfl) Try.func6
    (ChangeSpec.witness6 (enc := enc) (C := Try.checked) false ⟨#[], #[.agg #[.slice none 0 0, .slice none 0 0], .int .i64 0, .int .i64 0], []⟩ 8 (by kernel_rfl) (by kernel_rfl) (by kernel_rfl) (by kernel_rfl)) ?_
  intro W base args ds gs before hval0 hW hcnd _
  have hval : ∀ (j : Nat) t v, Try.f6.params[j]? = some t → args[j]? = some v → Value.okWide Try.prog W .any base t v := hval0
  have hW' := hW
  obtain ⟨p, q, hA0, hV, rfl, hfz, hnd⟩ := hW
  have hA : DataW.TrodAll enc Try.prog W 0 (fun _ => true) true Try.f6.params.toList args.toList ds p := hA0
  rw [Try.params6] at hA hval
  obtain ⟨v0, vs0, d0, ds0, p0, q0, hargs, rfl, rfl, h0, r0⟩ := trodAll_cons hA
  obtain ⟨v1, vs1, d1, ds1, p1, q1, rfl, rfl, rfl, h1, r1⟩ := trodAll_cons r0
  obtain ⟨v2, vs2, d2, ds2, p2, q2, rfl, rfl, rfl, h2, r2⟩ := trodAll_cons r1
  obtain ⟨rfl, rfl, rfl⟩ := trodAll_nil r2
  obtain rfl : args = #[v0, v1, v2] := by cases args; simp_all
  obtain ⟨rfl, rfl⟩ := trodVars_none hV
  have lt0 : ∀ x ∈ p0, x.block < W.heap.size := by obtain ⟨m, hm⟩ := h0; exact DataW.trod_lt m _ _ _ hm
  obtain ⟨n1, rfl, rfl, rfl, wn1⟩ := open_int Try.underlying3 (hval 1 3 v1 rfl rfl) h1
  obtain ⟨n2, rfl, rfl, rfl, wn2⟩ := open_int Try.underlying3 (hval 2 3 v2 rfl rfl) h2
  obtain ⟨a, c, hs, a', c', ls, rfl, i0, i1, m0, m1, k0, k1⟩ := lasso_of_trod2 (hval 0 30 v0 rfl rfl) h0
  clear hA0 hval0
  refine (rest_walk n1 n2 a a' c c' hs ls W i0 i1 m0 m1 k0).mono fun e W' ⟨he, bel⟩ => ?_
  subst he
  exact ⟨_, rfl, _, _, _, [], _, [], hW', trodAll_mk1 (shut_bool Try.underlying4 _), (trodAll_cons_mk (Below.trod Try.laidOut (by kernel_rfl) (of_decide_eq_true (by kernel_rfl)) h0 bel lt0) (trodAll_cons_mk (shut_int Try.underlying3 wn1) (trodAll_cons_mk (shut_int Try.underlying3 wn2) trodAll_mk0))), rfl, bel.frame _, fun h => by cases h⟩

theorem wordRest_holds : Rows.WordRestSaid :=
  OpenClaim.holds_of_wide 6 Try.f6 rfl rfl rfl rfl rfl rfl rfl ⟨rfl, rfl, rfl, rfl, rfl⟩ rfl rfl rfl rfl rfl (by kernel_rfl) Try.func6 (by kernel_rfl)
    (of_decide_eq_true (by kernel_rfl)) (by unfold Func.isWrapper; first | (rw [if_pos (by decide +kernel)]; kernel_rfl) | (rw [if_neg (by decide +kernel)]; exact ⟨rfl, rfl⟩))
    (fun os started H enc _ => rest_lifted os started H enc)
#print axioms wordRest_holds
end Go.Proofs.Ythccdfjmkdcehaa
