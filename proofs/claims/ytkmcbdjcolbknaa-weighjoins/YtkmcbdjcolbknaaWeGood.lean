/- What is made may be one: no program. -/
import Derived.Test.YtkmcbdjcolbknaaWeSpec
namespace Go.Proofs.Ytkmcbdjcolbknaa
set_option linter.unusedVariables false

theorem InW.app {a b : List Int} {k : Int} (ha : InW a k) (hb : InW b k) : InW (a ++ b) k := fun x hx => (List.mem_append.1 hx).elim (ha x) (hb x)
theorem InW.rep {n : Nat} {k : Int} (h : 0 ≤ k) : InW (List.replicate n 0) k := fun x hx => by rw [List.eq_of_mem_replicate hx]; omega
theorem InW.kro {a b : List Int} (ha : InW a 3) (hb : InW b 3) : InW (kroR a b) 9 := fun z hz => by
  unfold kroR at hz
  obtain ⟨x, hx, hz⟩ := List.mem_flatMap.1 hz
  obtain ⟨y, hy, rfl⟩ := List.mem_map.1 hz
  have h1 := ha x hx
  have h2 := hb y hy
  have e : (x * y).natAbs ≤ 3 * 3 := by rw [Int.natAbs_mul]; exact Nat.mul_le_mul (by omega) (by omega)
  omega
theorem mem_range_map {n : Nat} {f : Nat → List (List Int)} {t : List (List Int)} (h : t ∈ (List.range n).map f) : ∃ l, l < n ∧ t = f l := by
  obtain ⟨l, hl, rfl⟩ := List.mem_map.1 h
  exact ⟨l, List.mem_range.1 hl, rfl⟩
theorem good_bes {x y : WgI} (hx : GoodWg x) (hy : GoodWg y) (hL : x.S.length = y.S.length) (hs : x.F.length + y.F.length ≤ 8) : GoodWg (besA x y) := by
  have ex := hx.shape
  have ey := hy.shape
  have e1 : (besA x y).F.length = x.F.length + y.F.length := by unfold besA; simp
  refine ⟨hx.let_, ⟨by rw [e1]; have := hx.size.1; omega, by rw [e1]; exact hs⟩, ⟨by rw [e1]; show (x.E ++ y.E).length = _; rw [List.length_append, ex.1, ey.1], ?_, fun t ht => ?_⟩, ⟨hx.within.1.app hy.within.1, hx.within.2.1.app hy.within.2.1, fun t ht => ?_⟩⟩
  · show (((List.range x.S.length).map _).length : Int) = x.L
    rw [List.length_map, List.length_range]
    exact ex.2.1
  · obtain ⟨l, hl, rfl⟩ := mem_range_map ht
    have sx := ex.2.2 _ (tabW_mem hl)
    have sy := ey.2.2 _ (tabW_mem (hL ▸ hl))
    rw [e1]
    refine ⟨by unfold besT; simp [sx.1, sy.1], fun r hr => ?_⟩
    unfold besT at hr
    rcases List.mem_append.1 hr with hr | hr
    · obtain ⟨q, hq, rfl⟩ := List.mem_map.1 hr
      simp [sx.2 q hq, sy.1]
    · obtain ⟨q, hq, rfl⟩ := List.mem_map.1 hr
      simp [sy.2 q hq, sx.1]
  · obtain ⟨l, hl, rfl⟩ := mem_range_map ht
    intro r hr
    unfold besT at hr
    rcases List.mem_append.1 hr with hr | hr
    · obtain ⟨q, hq, rfl⟩ := List.mem_map.1 hr
      exact (hx.within.2.2 _ (tabW_mem hl) q hq).app (InW.rep (by omega))
    · obtain ⟨q, hq, rfl⟩ := List.mem_map.1 hr
      exact (InW.rep (by omega)).app (hy.within.2.2 _ (tabW_mem (hL ▸ hl)) q hq)
theorem good_kro {x y : WgI} (hx : GoodWg x) (hy : GoodWg y) (hL : x.S.length = y.S.length) (hs : x.F.length * y.F.length ≤ 8) (ix : InA x 3) (iy : InA y 3) : GoodWg (kroA x y) := by
  have ex := hx.shape
  have ey := hy.shape
  have e1 : (kroA x y).F.length = x.F.length * y.F.length := kroR_len _ _
  refine ⟨hx.let_, ⟨by rw [e1]; exact Nat.mul_le_mul hx.size.1 hy.size.1, by rw [e1]; exact hs⟩, ⟨by rw [e1]; show (kroR x.E y.E).length = _; rw [kroR_len, ex.1, ey.1], ?_, fun t ht => ?_⟩, ⟨ix.1.kro iy.1, ix.2.1.kro iy.2.1, fun t ht => ?_⟩⟩
  · show (((List.range x.S.length).map _).length : Int) = x.L
    rw [List.length_map, List.length_range]
    exact ex.2.1
  · obtain ⟨l, hl, rfl⟩ := mem_range_map ht
    have sx := ex.2.2 _ (tabW_mem hl)
    have sy := ey.2.2 _ (tabW_mem (hL ▸ hl))
    rw [e1]
    refine ⟨by rw [kroT_len, sx.1, sy.1], fun r hr => ?_⟩
    unfold kroT at hr
    obtain ⟨p, hp, hr⟩ := List.mem_flatMap.1 hr
    obtain ⟨q, hq, rfl⟩ := List.mem_map.1 hr
    rw [kroR_len, sx.2 p hp, sy.2 q hq]
  · obtain ⟨l, hl, rfl⟩ := mem_range_map ht
    intro r hr
    unfold kroT at hr
    obtain ⟨p, hp, hr⟩ := List.mem_flatMap.1 hr
    obtain ⟨q, hq, rfl⟩ := List.mem_map.1 hr
    exact (ix.2.2 _ (tabW_mem hl) p hp).kro (iy.2.2 _ (tabW_mem (hL ▸ hl)) q hq)
def zeroW : WgI := ⟨0, [], [], []⟩
end Go.Proofs.Ytkmcbdjcolbknaa
