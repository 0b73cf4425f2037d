/- A tree that is grown, without the program: it may be one, and it is accepted. -/
import Derived.Test.YtofjmakmbmndoaaTrMin
namespace Go.Proofs.Ytofjmakmbmndoaa
set_option linter.unusedVariables false

theorem scanF_app {L : Int} {T X : List NodeI} {k : Nat} (hk : k ≤ T.length) : scanF L (T ++ X) k = scanF L T k := by
  induction k with
  | zero => rfl
  | succ k ih =>
    have e : (T ++ X).getD k no0 = T.getD k no0 := by simp [List.getD, List.getElem?_append_left (show k < T.length by omega)]
    rw [scanF, scanF, ih (by omega), e]
theorem scanF_snoc {L : Int} {T : List NodeI} {x : NodeI} (h : (scanF L T T.length).1 = 0) : scanF L (T ++ [x]) (T.length + 1) = nodeF L T.length (scanF L T T.length).2 x := by
  have e : (T ++ [x]).getD T.length no0 = x := by simp [List.getD]
  rw [scanF, scanF_app (Nat.le_refl _), if_pos h, e]
/-- What lies behind is not taken. -/
theorem scanF_far {L : Int} {T : List NodeI} {k j : Nat} (hj : k ≤ j) : (scanF L T k).2 j = false := by
  induction k with
  | zero => rfl
  | succ k ih =>
    rw [scanF]
    split
    · have := ih (by omega)
      unfold nodeF
      split
      · exact this
      · split
        · exact this
        · split
          · exact this
          · next h1 =>
            split
            · exact this
            · next h2 =>
              have a := canTake_in ((Bool.eq_false_or_eq_true _).resolve_right h1)
              have b := canTake_in ((Bool.eq_false_or_eq_true _).resolve_right h2)
              simp only [setB]
              rw [if_neg (by omega), if_neg (by omega)]
              exact this
    · exact ih (by omega)
theorem tabB_app {R : List RuleI} {T X : List NodeI} {k : Nat} (hk : k ≤ T.length) : tabB R (T ++ X) k = tabB R T k := by
  induction k with
  | zero => rfl
  | succ k ih =>
    have e : (T ++ X).getD k no0 = T.getD k no0 := by simp [List.getD, List.getElem?_append_left (show k < T.length by omega)]
    rw [tabB, tabB, ih (by omega), e]
theorem givB_app {R : List RuleI} {T X : List NodeI} {i : Nat} (hi : i < T.length) : givB R (T ++ X) i = givB R T i := by
  unfold givB
  rw [tabB_stay (k := T.length) (by simp) hi, tabB_app (Nat.le_refl _)]
theorem givB_snoc {R : List RuleI} {T : List NodeI} {x : NodeI} (q : Nat) : givB R (T ++ [x]) T.length q = ownB (tabB R T T.length) x R R.length q := by
  unfold givB
  have e : (T ++ [x]).getD T.length no0 = x := by simp [List.getD]
  rw [show (T ++ [x]).length = T.length + 1 by simp, tabB]
  show (if T.length = T.length then _ else _) = _
  rw [if_pos rfl, tabB_app (Nat.le_refl _), e]
theorem ownB_hit {acc : Nat → Nat → Bool} {n : NodeI} {R : List RuleI} {r : RuleI} (hr : r ∈ R) (hh : hitB acc n r = true) {q : Nat} (hq : r.2.2.2 = q) : ownB acc n R R.length q = true := by
  unfold ownB
  rw [List.take_length, List.any_eq_true]
  exact ⟨r, hr, by rw [hh, hq]; simp⟩

/-- A tree with v nodes whose root can be given the state q has been put behind T. -/
structure GrowP (R : List RuleI) (L : Int) (T : List NodeI) (q : Int) (v : Nat) (T' : List NodeI) : Prop where
  app : ∃ B, T' = T ++ B ∧ B.length = v
  pos : 1 ≤ v
  code : (scanF L T T.length).1 = 0 → (scanF L T' T'.length).1 = 0
  taken : (scanF L T T.length).1 = 0 → ∀ j, (scanF L T' T'.length).2 j = if j < T.length then (scanF L T T.length).2 j else decide (j + 1 < T'.length)
  giv : ∀ q' : Nat, q = q' → givB R T' (T'.length - 1) q' = true
theorem GrowP.len {R : List RuleI} {L : Int} {T T' : List NodeI} {q : Int} {v : Nat} (h : GrowP R L T q v T') : T'.length = T.length + v := by
  obtain ⟨B, rfl, hB⟩ := h.app
  simp [hB]
theorem growP_leaf {R : List RuleI} {L n : Int} (hR : InRu R L n) {T : List NodeI} {r : RuleI} (hr : r ∈ R) (h : r.2.1 = -1) : GrowP R L T r.2.2.2 1 (T ++ [(r.1, -1, -1)]) := by
  have hin := hR.mem hr
  unfold RuIn at hin
  have hl : ¬ (r.1 < 0 ∨ L ≤ r.1) := by omega
  have key : (scanF L T T.length).1 = 0 → scanF L (T ++ [(r.1, -1, -1)]) (T ++ [(r.1, (-1 : Int), (-1 : Int))]).length = (0, (scanF L T T.length).2) := fun h0 => by
    rw [show (T ++ [(r.1, (-1 : Int), (-1 : Int))]).length = T.length + 1 by simp, scanF_snoc h0]
    unfold nodeF
    rw [if_neg hl, if_pos ⟨rfl, rfl⟩]
  refine ⟨⟨_, rfl, rfl⟩, Nat.le_refl _, fun h0 => by rw [key h0], fun h0 j => ?_, fun q' hq' => ?_⟩
  · rw [key h0]
    by_cases e : j < T.length
    · rw [if_pos e]
    · rw [if_neg e]
      simp only [List.length_append, List.length_cons, List.length_nil]
      rw [decide_eq_false (by omega)]
      exact scanF_far (by omega)
  · rw [show (T ++ [(r.1, (-1 : Int), (-1 : Int))]).length - 1 = T.length by simp, givB_snoc]
    refine ownB_hit hr ?_ hq'
    unfold hitB
    simp [h]
theorem growP_node {R : List RuleI} {L n : Int} (hR : InRu R L n) {T T1 T2 : List NodeI} {r : RuleI} {a b : Nat} (hr : r ∈ R) (h : r.2.1 ≠ -1) (h1 : GrowP R L T r.2.1 a T1) (h2 : GrowP R L T1 r.2.2.1 b T2) : GrowP R L T r.2.2.2 (1 + a + b) (T2 ++ [(r.1, (T1.length : Int) - 1, (T2.length : Int) - 1)]) := by
  have hin := hR.mem hr
  unfold RuIn at hin
  have hl : ¬ (r.1 < 0 ∨ L ≤ r.1) := by omega
  have l1 := h1.len
  have l2 := h2.len
  have p1 := h1.pos
  have p2 := h2.pos
  obtain ⟨i, hi⟩ : ∃ i : Nat, (T1.length : Int) - 1 = i := ⟨T1.length - 1, by omega⟩
  obtain ⟨k, hk⟩ : ∃ k : Nat, (T2.length : Int) - 1 = k := ⟨T2.length - 1, by omega⟩
  rw [hi, hk]
  obtain ⟨B1, hB1, e1⟩ := h1.app
  obtain ⟨B2, hB2, e2⟩ := h2.app
  have key : (scanF L T T.length).1 = 0 → scanF L (T2 ++ [(r.1, (i : Int), (k : Int))]) (T2.length + 1) = (0, setB (setB (scanF L T2 T2.length).2 i) k) := fun h0 => by
    have c1 := h1.code h0
    have c2 := h2.code c1
    have t1 := h1.taken h0
    have t2 := h2.taken c1
    rw [scanF_snoc c2]
    unfold nodeF
    have ti : (scanF L T2 T2.length).2 i = false := by
      rw [t2 i, if_pos (by omega), t1 i, if_neg (by omega)]
      exact decide_eq_false (by omega)
    have tk : setB (scanF L T2 T2.length).2 i k = false := by
      unfold setB
      rw [if_neg (by omega), t2 k, if_neg (by omega)]
      exact decide_eq_false (by omega)
    have ci : canTake T2.length (scanF L T2 T2.length).2 (i : Int) = true := by
      unfold canTake
      rw [decide_eq_true (by omega)]
      simp [ti]
    have ck : canTake T2.length (setB (scanF L T2 T2.length).2 i) (k : Int) = true := by
      unfold canTake
      rw [decide_eq_true (by omega)]
      simp [tk]
    rw [if_neg hl, if_neg (by simp only; omega), if_neg (by simp only [ci]; simp), if_neg (by simp only [Int.toNat_natCast, ck]; simp)]
    simp
  have hlen : (T2 ++ [(r.1, (i : Int), (k : Int))]).length = T2.length + 1 := by simp
  refine ⟨⟨B1 ++ B2 ++ [(r.1, (i : Int), (k : Int))], by rw [hB2, hB1]; simp, by simp; omega⟩, by omega, fun h0 => by rw [hlen, key h0], fun h0 j => ?_, fun q' hq' => ?_⟩
  · have c1 := h1.code h0
    have t1 := h1.taken h0
    have t2 := h2.taken c1
    rw [hlen, key h0]
    simp only [setB]
    by_cases ek : j = k
    · rw [if_pos ek, if_neg (by omega), decide_eq_true (by omega)]
    · rw [if_neg ek]
      by_cases ei : j = i
      · rw [if_pos ei, if_neg (by omega), decide_eq_true (by omega)]
      · rw [if_neg ei, t2 j]
        by_cases ej : j < T.length
        · rw [if_pos (by omega), if_pos ej, t1 j, if_pos ej]
        · rw [if_neg ej]
          by_cases ej1 : j < T1.length
          · rw [if_pos ej1, t1 j, if_neg ej, decide_eq_true (by omega), decide_eq_true (by omega)]
          · rw [if_neg ej1]
            by_cases e3 : j + 1 < T2.length
            · rw [decide_eq_true e3, decide_eq_true (by omega)]
            · rw [decide_eq_false e3, decide_eq_false (by omega)]
  · rw [hlen, Nat.add_sub_cancel, givB_snoc]
    refine ownB_hit hr ?_ hq'
    obtain ⟨p, hp⟩ : ∃ p : Nat, r.2.1 = p := ⟨r.2.1.toNat, by omega⟩
    obtain ⟨s, hs⟩ : ∃ s : Nat, r.2.2.1 = s := ⟨r.2.2.1.toNat, by omega⟩
    have g1 := h1.giv p hp
    have g2 := h2.giv s hs
    have gi : tabB R T2 T2.length i p = true := by
      have : givB R T2 i p = true := by
        rw [hB2, givB_app (by omega), show i = T1.length - 1 by omega]; exact g1
      exact this
    have gk : tabB R T2 T2.length k s = true := by
      have : givB R T2 k s = true := by rw [show k = T2.length - 1 by omega]; exact g2
      exact this
    obtain ⟨r1, r2, r3, r4⟩ := r
    simp only at hp hs
    subst hp hs
    unfold hitB
    have e1 : ((i : Int) == -1) = false := by rw [beq_eq_false_iff_ne]; omega
    have e2 : ((p : Int) == -1) = false := by rw [beq_eq_false_iff_ne]; omega
    simp [e1, e2, gi, gk]
/-- The whole tree. -/
theorem grown_tree {R : List RuleI} {L : Int} {v : Nat} {q : Int} {T : List NodeI} (h : GrowP R L [] q v T) (h1 : 1 ≤ L) (h4 : L ≤ 4) (hv : v ≤ 60) : treeF L T = 0 := by
  have hl := h.len
  have hp := h.pos
  simp only [List.length_nil, Nat.zero_add] at hl
  have c := h.code rfl
  have t := h.taken rfl
  rw [treeF_end (by omega) (by omega) c, if_pos]
  unfold allTaken
  rw [decide_eq_true_iff]
  intro i hi
  rw [t i, if_neg (by simp)]
  exact decide_eq_true (by omega)
theorem grown_acc {x : Trs} {L : Int} {v : Nat} {q : Nat} {T : List NodeI} (h : GrowP x.R L [] q v T) (hq : q < x.M.length) (hm : x.M.getD q 0 = 1) : accTB x T = true := by
  unfold accTB
  refine rootB_hit hq ?_
  rw [hm, h.giv q rfl]
  rfl

end Go.Proofs.Ytofjmakmbmndoaa
