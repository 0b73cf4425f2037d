/- Whether one automaton of trees accepts all that another does, without the program. -/
import Derived.Test.YtppikfgfmlipmaaTrTre
namespace Go.Proofs.Ytppikfgfmlipmaa
set_option linter.unusedVariables false

theorem mkS_iff {M : List Int} {s k : Nat} : mkS M s k = true ↔ ∃ q, q < k ∧ M.getD q 0 = 1 ∧ s.testBit (q + 1) = true := by
  induction k with
  | zero => simp [mkS]
  | succ k ih =>
    rw [mkS, Bool.or_eq_true, ih, Bool.and_eq_true, beq_iff_eq]
    constructor
    · rintro (⟨q, a, b⟩ | ⟨a, b⟩)
      · exact ⟨q, by omega, b⟩
      · exact ⟨k, by omega, a, b⟩
    · rintro ⟨q, a, b⟩
      by_cases e : q = k
      · subst e; exact .inr b
      · exact .inl ⟨q, by omega, b⟩
/-- Each tree leads the automaton of the other trees to just one state. -/
theorem oth_set {R : List RuleI} {L N : Nat} (hR : InRu R L N) {X : List Nat} (hX : Closed R L X) (hQ : InRu (othR R X L) L X.length) (t : Tr3) (ht : t.ok L) : t.set R ∈ X ∧ ∀ q, q < X.length → (t.set (othR R X L)).testBit (q + 1) = decide (q = X.idxOf (t.set R)) := by
  have bit0 : ∀ (t : Tr3) p, t.set R ∈ X → (∀ q, q < X.length → (t.set (othR R X L)).testBit (q + 1) = decide (q = X.idxOf (t.set R))) → p < X.length → (t.set (othR R X L)).testBit (plc (p : Int)) = true → p = X.idxOf (t.set R) := fun t p _ h hp hb => by
    rw [plc_nat, h p hp, decide_eq_true_iff] at hb
    exact hb
  induction t with
  | lf l =>
    have hl : l < L := ht
    refine ⟨hX.leaf l hl, fun q hq => ?_⟩
    rw [Tr3.set, Tr3.set, nxA_bit, Bool.eq_iff_iff, List.any_eq_true, decide_eq_true_iff]
    constructor
    · rintro ⟨r, hr, hh⟩
      rw [Bool.and_eq_true, beq_iff_eq] at hh
      obtain ⟨h1, h2⟩ := hh
      unfold hitS at h1
      obtain ⟨l', hl', h | ⟨p, q', hp, hq', h⟩⟩ := othR_mem.1 hr
      · rw [h] at h1 h2
        simp only [Bool.and_eq_true, beq_iff_eq] at h1
        have : l' = l := by omega
        subst this
        rw [plc_nat] at h2
        omega
      · rw [h] at h1
        rw [bit_one (by simp only; omega)] at h1
        simp only [Bool.and_eq_true, beq_iff_eq] at h1
        omega
    · intro e
      refine ⟨_, othR_mem.2 ⟨l, hl, .inl rfl⟩, ?_⟩
      rw [Bool.and_eq_true, beq_iff_eq]
      refine ⟨?_, by rw [plc_nat]; omega⟩
      unfold hitS
      simp [plc_none]
  | nd l ta tb iha ihb =>
    obtain ⟨hl, ha, hb⟩ := ht
    obtain ⟨ma, ea⟩ := iha ha
    obtain ⟨mb, eb⟩ := ihb hb
    have ia := List.idxOf_lt_length_of_mem ma
    have ib := List.idxOf_lt_length_of_mem mb
    have ga : X.getD (X.idxOf (ta.set R)) 0 = ta.set R := by simp [List.getD, ia]
    have gb : X.getD (X.idxOf (tb.set R)) 0 = tb.set R := by simp [List.getD, ib]
    refine ⟨hX.node l hl _ ma _ mb, fun q hq => ?_⟩
    rw [Tr3.set, Tr3.set, nxA_bit, Bool.eq_iff_iff, List.any_eq_true, decide_eq_true_iff]
    constructor
    · rintro ⟨r, hr, hh⟩
      rw [Bool.and_eq_true, beq_iff_eq] at hh
      obtain ⟨h1, h2⟩ := hh
      unfold hitS at h1
      obtain ⟨l', hl', h | ⟨p, q', hp, hq', h⟩⟩ := othR_mem.1 hr
      · rw [h] at h1
        simp only [Bool.and_eq_true, beq_iff_eq] at h1
        have := h1.2.1
        rw [plc_none, Tr3.set_zero hQ] at this
        cases this
      · rw [h] at h1 h2
        simp only [Bool.and_eq_true, beq_iff_eq] at h1
        have : l' = l := by omega
        subst this
        have e1 := bit0 ta p ma ea hp h1.2.1
        have e2 := bit0 tb q' mb eb hq' h1.2.2
        subst e1 e2
        simp only at h2
        rw [ga, gb, plc_nat] at h2
        omega
    · intro e
      refine ⟨_, othR_mem.2 ⟨l, hl, .inr ⟨X.idxOf (ta.set R), X.idxOf (tb.set R), ia, ib, rfl⟩⟩, ?_⟩
      rw [Bool.and_eq_true, beq_iff_eq]
      refine ⟨?_, by simp only; rw [ga, gb, plc_nat]; omega⟩
      unfold hitS
      simp only
      rw [plc_nat, plc_nat, ea _ ia, eb _ ib]
      simp

/-- A tree that the one accepts and the other does not. -/
def Sep (x y : Trs) (L : Nat) (t : Tr3) : Prop := t.ok L ∧ mkS x.M (t.set x.R) x.M.length = true ∧ mkS y.M (t.set y.R) y.M.length = false
def botM (M K : List Int) : List Int := M.flatMap fun m => K.map (m * ·)
theorem botM_len (M K : List Int) : (botM M K).length = M.length * K.length := by
  induction M with
  | nil => simp [botM]
  | cons m M ih =>
    have e : botM (m :: M) K = K.map (m * ·) ++ botM M K := rfl
    rw [e, List.length_append, List.length_map, ih, List.length_cons, Nat.succ_mul]; omega
theorem botM_get (M K : List Int) {p q : Nat} (hp : p < M.length) (hq : q < K.length) : (botM M K).getD (p * K.length + q) 0 = M.getD p 0 * K.getD q 0 := by
  induction M generalizing p with
  | nil => simp at hp
  | cons m M ih =>
    have e : botM (m :: M) K = K.map (m * ·) ++ botM M K := rfl
    rw [e]
    cases p with
    | zero =>
      rw [Nat.zero_mul, Nat.zero_add]
      simp [List.getD, List.getElem?_append_left, hq]
    | succ p =>
      have := ih (p := p) (by simpa using hp)
      rw [List.getD_cons_succ, ← this]
      have h1 : (K.map (m * ·)).length ≤ (p + 1) * K.length + q := by rw [List.length_map, Nat.succ_mul]; omega
      unfold List.getD
      rw [List.getElem?_append_right h1]
      congr 2
      rw [List.length_map, Nat.succ_mul]
      omega
def bothT (x o : Trs) (n : Nat) : Trs := ⟨x.L, x.N * o.N, botR x.R o.R n, 0, botM x.M o.M⟩
/-- What the automaton of both has to do with such trees. -/
theorem both_marks {x y : Trs} {L N n : Nat} (hx : GoodT x) (hy : GoodT y) (hLx : x.L = L) (hLy : y.L = L) (hN : x.N = N) {N' : Nat} (hN' : y.N = N') {X : List Nat} (hX : Closed y.R L X) (hn : X.length = n) (ho : GoodT (othT y X L)) (t : Tr3) (ht : t.ok L) :
    mkS (botM x.M (othT y X L).M) (t.set (botR x.R (othT y X L).R n)) (botM x.M (othT y X L).M).length = true ↔ (mkS x.M (t.set x.R) x.M.length = true ∧ mkS y.M (t.set y.R) y.M.length = false) := by
  have hRx : InRu x.R L N := by have := hx.ru; rwa [hLx, hN] at this
  have hRy : InRu y.R L N' := by have := hy.ru; rwa [hLy, hN'] at this
  have hRo : InRu (othT y X L).R L n := by
    have := ho.ru
    have e1 : (othT y X L).L = L := hLy
    have e2 : (othT y X L).N = (n : Int) := by show (X.length : Int) = _; rw [hn]
    rwa [e1, e2] at this
  have hRo' : InRu (othR y.R X L) L X.length := by rw [hn]; exact hRo
  obtain ⟨hm, hb⟩ := oth_set hRy hX hRo' t ht
  have hMx : x.M.length = N := by have := hx.m; omega
  have hMo : (othT y X L).M.length = n := by show (X.map (unmS y.M)).length = n; rw [List.length_map, hn]
  have hix := List.idxOf_lt_length_of_mem hm
  have gix : (othT y X L).M.getD (X.idxOf (t.set y.R)) 0 = unmS y.M (t.set y.R) := by
    show (X.map (unmS y.M)).getD _ 0 = _
    simp [List.getD, hix]
  have hset := bot_set hRx hRo t
  rw [mkS_iff, mkS_iff, botM_len, hMx, hMo]
  have marks01 : ∀ p, p < x.M.length → x.M.getD p 0 = 0 ∨ x.M.getD p 0 = 1 := hx.mks
  have marks01o : ∀ p, p < (othT y X L).M.length → (othT y X L).M.getD p 0 = 0 ∨ (othT y X L).M.getD p 0 = 1 := ho.mks
  constructor
  · rintro ⟨s, hs, h1, h2⟩
    have hn0 : 0 < n := by omega
    obtain ⟨p, q, hq, rfl⟩ : ∃ p q, q < n ∧ s = p * n + q := ⟨s / n, s % n, Nat.mod_lt _ hn0, by rw [Nat.mul_comm]; exact (Nat.div_add_mod s n).symm⟩
    have hp : p < N := by
      refine Nat.lt_of_not_le fun h => ?_
      have : N * n ≤ p * n := Nat.mul_le_mul_right n h
      omega
    have e1 := botM_get x.M (othT y X L).M (p := p) (q := q) (by omega) (by omega)
    rw [hMo] at e1
    rw [e1] at h1
    rw [hset p q hp hq, Bool.and_eq_true] at h2
    have e2 : (t.set (othR y.R X L)).testBit (q + 1) = true := h2.2
    rw [hb q (by omega), decide_eq_true_iff] at e2
    subst e2
    rw [gix] at h1
    have a := marks01 p (by omega)
    have b := marks01o (X.idxOf (t.set y.R)) (by omega)
    rw [gix] at b
    refine ⟨⟨p, hp, ?_, h2.1⟩, ?_⟩
    · rcases a with a | a
      · rw [a] at h1; simp at h1
      · exact a
    · rcases b with b | b
      · rw [b] at h1; simp at h1
      · unfold unmS at b
        split at b
        · cases b
        · next h => simpa using h
  · rintro ⟨⟨p, hp, h1, h2⟩, h3⟩
    refine ⟨p * n + X.idxOf (t.set y.R), pair_lt hp (by omega), ?_, ?_⟩
    · have e1 := botM_get x.M (othT y X L).M (p := p) (q := X.idxOf (t.set y.R)) (by omega) (by omega)
      rw [hMo] at e1
      rw [e1, gix, h1]
      unfold unmS
      rw [if_neg (by rw [h3]; simp)]
      rfl
    · rw [hset p _ hp (by omega), h2]
      show (true && (t.set (othR y.R X L)).testBit _) = true
      rw [hb _ hix]
      simp
/-- Marked states of both and the sizes of their trees. -/
theorem both_der {x y : Trs} {L N n : Nat} (hx : GoodT x) (hy : GoodT y) (hLx : x.L = L) (hLy : y.L = L) (hN : x.N = N) {N' : Nat} (hN' : y.N = N') {X : List Nat} (hX : Closed y.R L X) (hn : X.length = n) (ho : GoodT (othT y X L)) (m : Nat) :
    (∃ s : Nat, s < (botM x.M (othT y X L).M).length ∧ (botM x.M (othT y X L).M).getD s 0 = 1 ∧ Der (botR x.R (othT y X L).R n) s m) ↔ ∃ t, Sep x y L t ∧ t.size = m := by
  have hRx : InRu x.R L N := by have := hx.ru; rwa [hLx, hN] at this
  have hRo : InRu (othT y X L).R L n := by
    have := ho.ru
    have e1 : (othT y X L).L = L := hLy
    have e2 : (othT y X L).N = (n : Int) := by show (X.length : Int) = _; rw [hn]
    rwa [e1, e2] at this
  have hB := botR_in hRx hRo
  constructor
  · rintro ⟨s, hs, h1, h2⟩
    obtain ⟨t, a, b, c⟩ := (der_iff hB).1 h2
    have := (both_marks hx hy hLx hLy hN hN' hX hn ho t a).1 (mkS_iff.2 ⟨s, hs, h1, c⟩)
    exact ⟨t, ⟨a, this.1, this.2⟩, b⟩
  · rintro ⟨t, ⟨a, b, c⟩, d⟩
    obtain ⟨s, h1, h2, h3⟩ := mkS_iff.1 ((both_marks hx hy hLx hLy hN hN' hX hn ho t a).2 ⟨b, c⟩)
    exact ⟨s, h1, h2, (der_iff hB).2 ⟨t, a, d, h3⟩⟩
/-- The tree that a list of nodes is. -/
theorem tree_of {L : Nat} {T : List NodeI} (hT : ∀ i, i < T.length → NodeOk L i (T.getD i no0)) : ∀ i, i < T.length → ∃ t : Tr3, t.ok L ∧ ∀ (R : List RuleI) (N : Nat), InRu R L N → IsSet N (givB R T i) (t.set R) := by
  intro i
  induction i using Nat.strongRecOn with
  | ind i ih =>
    intro hi
    have hok := hT i hi
    have e1 : ∀ R q, givB R T i q = ownB (givB R T) (T.getD i no0) R R.length q := fun R q => givB_row hT hi q
    generalize T.getD i no0 = nd at *
    obtain ⟨y, a, b⟩ := nd
    obtain ⟨⟨y0, y1⟩, hkid⟩ := hok
    simp only at y0 y1 hkid
    obtain ⟨l, rfl⟩ : ∃ l : Nat, y = l := ⟨y.toNat, by omega⟩
    rcases hkid with ⟨rfl, rfl⟩ | ⟨⟨a0, a1⟩, b0, b1⟩
    · refine ⟨.lf l, by show l < L; omega, fun R N hR => ?_⟩
      have := isSet_leaf hR (acc := givB R T) (y := (l : Int))
      exact ⟨this.lt, this.zero, fun q hq => by rw [e1]; exact this.bit q hq⟩
    · obtain ⟨ca, rfl⟩ : ∃ ca : Nat, a = ca := ⟨a.toNat, by omega⟩
      obtain ⟨cb, rfl⟩ : ∃ cb : Nat, b = cb := ⟨b.toNat, by omega⟩
      obtain ⟨ta, oa, sa⟩ := ih ca (by omega) (by omega)
      obtain ⟨tb, ob, sb⟩ := ih cb (by omega) (by omega)
      refine ⟨.nd l ta tb, ⟨by omega, oa, ob⟩, fun R N hR => ?_⟩
      have := isSet_node hR (acc := givB R T) (y := (l : Int)) (sa R N hR) (sb R N hR)
      exact ⟨this.lt, this.zero, fun q hq => by rw [e1]; exact this.bit q hq⟩
theorem acc_tree {x : Trs} {L N : Nat} (hR : InRu x.R L N) (hM : x.M.length ≤ N) {T : List NodeI} {t : Tr3} (h : ∀ (R : List RuleI) (N : Nat), InRu R L N → IsSet N (givB R T (T.length - 1)) (t.set R)) : accTB x T = mkS x.M (t.set x.R) x.M.length := by
  unfold accTB
  rw [mkS_root (h x.R N hR) hM]

end Go.Proofs.Ytppikfgfmlipmaa
