/- What accepts just the other trees, without the program: by all rules at once. -/
import Derived.Test.YtofjmakmbmndoaaTrMin
namespace Go.Proofs.Ytofjmakmbmndoaa
set_option linter.unusedVariables false

/-- A rule fits a letter and the sets of both children. -/
def hitS (l : Int) (s t : Nat) (r : RuleI) : Bool := (r.1 == l) && (s.testBit (plc r.2.1) && t.testBit (plc r.2.2.1))
/-- The set that both children's lead to, by the first k rules. -/
def nxS (R : List RuleI) (l : Int) (s t : Nat) : Nat → Nat
  | 0 => 0
  | k + 1 => if hitS l s t (R.getD k ru0) = true then nxS R l s t k ||| 2 ^ plc (R.getD k ru0).2.2.2 else nxS R l s t k
def nxA (R : List RuleI) (l : Int) (s t : Nat) : Nat := nxS R l s t R.length
theorem nxS_bit {R : List RuleI} {l : Int} {s t k p : Nat} (hk : k ≤ R.length) : (nxS R l s t k).testBit p = (R.take k).any fun r => hitS l s t r && plc r.2.2.2 == p := by
  induction k with
  | zero => simp [nxS]
  | succ k ih =>
    have hk' : k < R.length := by omega
    rw [List.take_succ_eq_append_getElem hk', List.any_append, ← ih (by omega), nxS]
    have e : R.getD k ru0 = R[k] := by simp [List.getD, hk']
    rw [e]
    by_cases h : hitS l s t R[k] = true
    · rw [if_pos h, Nat.testBit_or, Nat.testBit_two_pow]
      simp [h]
      by_cases e2 : plc R[k].2.2.2 = p <;> simp [e2]
    · rw [if_neg h]
      simp [h]
theorem nxA_bit {R : List RuleI} {l : Int} {s t p : Nat} : (nxA R l s t).testBit p = R.any fun r => hitS l s t r && plc r.2.2.2 == p := by
  unfold nxA
  rw [nxS_bit (Nat.le_refl _), List.take_length]
theorem nxS_lt {R : List RuleI} {L : Int} {n : Nat} (hR : InRu R L n) {l : Int} {s t k : Nat} (hk : k ≤ R.length) : nxS R l s t k < 2 ^ (n + 1) := by
  refine Nat.lt_pow_two_of_testBit _ fun i hi => ?_
  rw [nxS_bit hk, ← Bool.not_eq_true, List.any_eq_true]
  rintro ⟨r, hr, h⟩
  rw [Bool.and_eq_true, beq_iff_eq] at h
  have hin := hR.mem (List.mem_of_mem_take hr)
  unfold RuIn at hin
  have := h.2
  unfold plc at this
  omega
/-- A set tells which states are in it. -/
structure IsSet (N : Nat) (f : Nat → Bool) (s : Nat) : Prop where
  lt : s < 2 ^ (N + 1)
  zero : s.testBit 0 = false
  bit : ∀ q, q < N → s.testBit (q + 1) = f q
theorem nxA_zero {R : List RuleI} {L : Int} {n : Nat} (hR : InRu R L n) {l : Int} {s t : Nat} : (nxA R l s t).testBit 0 = false := by
  rw [nxA_bit, ← Bool.not_eq_true, List.any_eq_true]
  rintro ⟨r, hr, h⟩
  rw [Bool.and_eq_true, beq_iff_eq] at h
  have hin := hR.mem hr
  unfold RuIn at hin
  have := h.2
  unfold plc at this
  omega
theorem any_congr {R : List RuleI} {f g : RuleI → Bool} (h : ∀ r, r ∈ R → f r = g r) : R.any f = R.any g := by
  rw [Bool.eq_iff_iff, List.any_eq_true, List.any_eq_true]
  exact ⟨fun ⟨r, a, b⟩ => ⟨r, a, by rw [← h r a]; exact b⟩, fun ⟨r, a, b⟩ => ⟨r, a, by rw [h r a]; exact b⟩⟩
theorem isSet_leaf {R : List RuleI} {L : Int} {N : Nat} (hR : InRu R L N) {acc : Nat → Nat → Bool} {y : Int} : IsSet N (ownB acc (y, -1, -1) R R.length) (nxA R y 1 1) := by
  refine ⟨nxS_lt hR (Nat.le_refl _), nxA_zero hR, fun q hq => ?_⟩
  rw [nxA_bit]
  unfold ownB
  rw [List.take_length]
  refine any_congr fun r hr => ?_
  have hin := hR.mem hr
  unfold RuIn at hin
  unfold hitS hitB
  have e1 : ∀ z : Int, -1 ≤ z → Nat.testBit 1 (plc z) = (z == -1) := fun z hz => by
    by_cases e : z = -1
    · subst e; rfl
    · have : ∃ k, plc z = k + 1 := ⟨plc z - 1, by unfold plc; omega⟩
      obtain ⟨k, hk⟩ := this
      rw [hk]
      have : (z == -1) = false := by simpa using e
      rw [this]
      simp [Nat.testBit_succ]
  have e2 : (plc r.2.2.2 == q + 1) = (r.2.2.2 == (q : Int)) := by
    by_cases e : r.2.2.2 = q
    · rw [e, plc_nat]; simp
    · have a : (r.2.2.2 == (q : Int)) = false := by simpa using e
      rw [a, beq_eq_false_iff_ne]
      unfold plc
      omega
  rw [e1 _ (by omega), e1 _ (by omega), e2]
  by_cases e3 : r.2.1 = -1
  · have : r.2.2.1 = -1 := by omega
    simp [e3, this]
  · have a : (r.2.1 == -1) = false := by simpa using e3
    simp [a]
theorem isSet_node {R : List RuleI} {L : Int} {N : Nat} (hR : InRu R L N) {acc : Nat → Nat → Bool} {y : Int} {ca cb s t : Nat} (hs : IsSet N (acc ca) s) (ht : IsSet N (acc cb) t) : IsSet N (ownB acc (y, (ca : Int), (cb : Int)) R R.length) (nxA R y s t) := by
  refine ⟨nxS_lt hR (Nat.le_refl _), nxA_zero hR, fun q hq => ?_⟩
  rw [nxA_bit]
  unfold ownB
  rw [List.take_length]
  refine any_congr fun r hr => ?_
  have hin := hR.mem hr
  unfold RuIn at hin
  unfold hitS hitB
  have e2 : (plc r.2.2.2 == q + 1) = (r.2.2.2 == (q : Int)) := by
    by_cases e : r.2.2.2 = q
    · rw [e, plc_nat]; simp
    · have a : (r.2.2.2 == (q : Int)) = false := by simpa using e
      rw [a, beq_eq_false_iff_ne]
      unfold plc
      omega
  have e4 : ((ca : Int) == -1) = false := by rw [beq_eq_false_iff_ne]; omega
  rw [e2]
  by_cases e3 : r.2.1 = -1
  · rw [e3, plc_none, hs.zero]
    simp [e4]
  · obtain ⟨p, hp⟩ : ∃ p : Nat, r.2.1 = p := ⟨r.2.1.toNat, by omega⟩
    obtain ⟨u, hu⟩ : ∃ u : Nat, r.2.2.1 = u := ⟨r.2.2.1.toNat, by omega⟩
    have e5 : ((p : Int) == -1) = false := by rw [beq_eq_false_iff_ne]; omega
    rw [hp, hu, plc_nat, plc_nat, hs.bit p (by omega), ht.bit u (by omega)]
    simp [e4, e5]

theorem hitB_both' {S : Nat → Nat → Bool} {y : Int} {ca cb : Nat} {a d : Int} {p q : Nat} (h : a = y) : hitB S (y, (ca : Int), (cb : Int)) (a, (p : Int), (q : Int), d) = (S ca p && S cb q) := by
  unfold hitB
  have e1 : ((ca : Int) == -1) = false := by rw [beq_eq_false_iff_ne]; omega
  have e2 : ((p : Int) == -1) = false := by rw [beq_eq_false_iff_ne]; omega
  simp [h, e1, e2]
/-- Sets that trees lead to, all of them. -/
structure Closed (R : List RuleI) (L : Nat) (X : List Nat) : Prop where
  leaf : ∀ l : Nat, l < L → nxA R l 1 1 ∈ X
  node : ∀ l : Nat, l < L → ∀ s, s ∈ X → ∀ t, t ∈ X → nxA R l s t ∈ X
  nodup : X.Nodup
def othRow (R : List RuleI) (X : List Nat) (l p k : Nat) : List RuleI := (List.range k).map fun (q : Nat) => ((l : Int), (p : Int), (q : Int), ((X.idxOf (nxA R l (X.getD p 0) (X.getD q 0)) : Nat) : Int))
def othLet (R : List RuleI) (X : List Nat) (l k : Nat) : List RuleI := ((l : Int), -1, -1, ((X.idxOf (nxA R l 1 1) : Nat) : Int)) :: (List.range k).flatMap fun (p : Nat) => othRow R X l p X.length
def othR (R : List RuleI) (X : List Nat) (k : Nat) : List RuleI := (List.range k).flatMap fun (l : Nat) => othLet R X l X.length
theorem othRow_succ (R : List RuleI) (X : List Nat) (l p k : Nat) : othRow R X l p (k + 1) = othRow R X l p k ++ [((l : Int), (p : Int), (k : Int), ((X.idxOf (nxA R l (X.getD p 0) (X.getD k 0)) : Nat) : Int))] := by simp [othRow, List.range_succ]
theorem othLet_succ (R : List RuleI) (X : List Nat) (l k : Nat) : othLet R X l (k + 1) = othLet R X l k ++ othRow R X l k X.length := by simp [othLet, List.range_succ]
theorem othR_succ (R : List RuleI) (X : List Nat) (k : Nat) : othR R X (k + 1) = othR R X k ++ othLet R X k X.length := by simp [othR, List.range_succ]
theorem othRow_len (R : List RuleI) (X : List Nat) (l p k : Nat) : (othRow R X l p k).length = k := by simp [othRow]
theorem othLet_len (R : List RuleI) (X : List Nat) (l k : Nat) : (othLet R X l k).length = 1 + k * X.length := by
  induction k with
  | zero => simp [othLet]
  | succ k ih => rw [othLet_succ, List.length_append, ih, othRow_len, Nat.succ_mul]; omega
theorem othR_len (R : List RuleI) (X : List Nat) (k : Nat) : (othR R X k).length = k * (1 + X.length * X.length) := by
  induction k with
  | zero => simp [othR]
  | succ k ih => rw [othR_succ, List.length_append, ih, othLet_len, Nat.succ_mul]
theorem othR_mem {R : List RuleI} {X : List Nat} {k : Nat} {r : RuleI} : r ∈ othR R X k ↔ ∃ l : Nat, l < k ∧ (r = ((l : Int), -1, -1, ((X.idxOf (nxA R l 1 1) : Nat) : Int)) ∨ ∃ p q : Nat, p < X.length ∧ q < X.length ∧ r = ((l : Int), (p : Int), (q : Int), ((X.idxOf (nxA R l (X.getD p 0) (X.getD q 0)) : Nat) : Int))) := by
  unfold othR othLet othRow
  constructor
  · intro h
    obtain ⟨l, hl, h2⟩ := List.mem_flatMap.1 h
    refine ⟨l, List.mem_range.1 hl, ?_⟩
    rcases List.mem_cons.1 h2 with h3 | h3
    · exact .inl h3
    · obtain ⟨p, hp, h4⟩ := List.mem_flatMap.1 h3
      obtain ⟨q, hq, h5⟩ := List.mem_map.1 h4
      exact .inr ⟨p, q, List.mem_range.1 hp, List.mem_range.1 hq, h5.symm⟩
  · rintro ⟨l, hl, h⟩
    refine List.mem_flatMap.2 ⟨l, List.mem_range.2 hl, ?_⟩
    rcases h with h | ⟨p, q, hp, hq, h⟩
    · rw [h]; exact List.mem_cons_self
    · exact List.mem_cons_of_mem _ (List.mem_flatMap.2 ⟨p, List.mem_range.2 hp, List.mem_map.2 ⟨q, List.mem_range.2 hq, h.symm⟩⟩)
theorem riseR_of_pairwise {Q : List RuleI} (h : Q.Pairwise LexR) : RiseR Q := by
  intro i hi
  have := List.pairwise_iff_getElem.1 h i (i + 1) (by omega) hi (by omega)
  simpa [List.getD, hi, (show i < Q.length by omega)] using this
theorem othR_rise (R : List RuleI) (X : List Nat) (k : Nat) : RiseR (othR R X k) := by
  refine riseR_of_pairwise ?_
  unfold othR
  rw [List.pairwise_flatMap]
  refine ⟨fun l hl => ?_, ?_⟩
  · unfold othLet
    refine List.Pairwise.cons (fun r hr => ?_) ?_
    · obtain ⟨p, hp, h4⟩ := List.mem_flatMap.1 hr
      obtain ⟨q, hq, h5⟩ := List.mem_map.1 h4
      rw [← h5]
      exact .inr ⟨rfl, .inl (by simp only; omega)⟩
    · rw [List.pairwise_flatMap]
      refine ⟨fun p hp => ?_, ?_⟩
      · unfold othRow
        rw [List.pairwise_map]
        exact List.pairwise_lt_range.imp fun {a b} hab => .inr ⟨rfl, .inr ⟨rfl, .inl (by simp only; omega)⟩⟩
      · refine List.pairwise_lt_range.imp fun {a b} hab x hx y hy => ?_
        obtain ⟨q, _, e1⟩ := List.mem_map.1 hx
        obtain ⟨q', _, e2⟩ := List.mem_map.1 hy
        rw [← e1, ← e2]
        exact .inr ⟨rfl, .inl (by simp only; omega)⟩
  · have key : ∀ l r, r ∈ othLet R X l X.length → r.1 = (l : Int) := fun l r hr => by
      unfold othLet at hr
      rcases List.mem_cons.1 hr with h3 | h3
      · rw [h3]
      · obtain ⟨p, hp, h4⟩ := List.mem_flatMap.1 h3
        obtain ⟨q, hq, h5⟩ := List.mem_map.1 h4
        rw [← h5]
    refine List.pairwise_lt_range.imp fun {a b} hab x hx y hy => ?_
    left
    rw [key a x hx, key b y hy]
    omega

/-- The mark of a set among the others. -/
def mkS (M : List Int) (s : Nat) : Nat → Bool
  | 0 => false
  | k + 1 => mkS M s k || (M.getD k 0 == 1 && s.testBit (k + 1))
theorem mkS_root {M : List Int} {N s : Nat} {f : Nat → Bool} (hs : IsSet N f s) {k : Nat} (hk : k ≤ N) : mkS M s k = rootB f M k := by
  induction k with
  | zero => rfl
  | succ k ih => rw [mkS, rootB_succ, ih (by omega), hs.bit k (by omega)]
def unmS (M : List Int) (s : Nat) : Int := if mkS M s M.length = true then 0 else 1
/-- The automaton of the other trees. -/
def othT (x : Trs) (X : List Nat) (L : Nat) : Trs := ⟨x.L, (X.length : Int), othR x.R X L, 0, X.map (unmS x.M)⟩
theorem oth_good {x : Trs} {X : List Nat} {L N : Nat} (hx : GoodT x) (hL : x.L = L) (hX : Closed x.R L X) (h64 : X.length ≤ 64) (hL2 : L ≤ 2) : GoodT (othT x X L) := by
  have l1 := hx.l1
  have hpos : 1 ≤ X.length := List.length_pos_of_mem (hX.leaf 0 (by omega))
  have hsq : X.length * X.length ≤ 64 * 64 := Nat.mul_le_mul h64 h64
  have hidx : ∀ s, s ∈ X → X.idxOf s < X.length := fun s hs => List.idxOf_lt_length_of_mem hs
  refine ⟨⟨?_, ?_, ?_, ?_, ?_, ?_⟩, ?_, ?_, ?_, rfl⟩
  · exact l1
  · exact hx.l4
  · show (1 : Int) ≤ X.length; omega
  · show (X.length : Int) ≤ 300; omega
  · show (othR x.R X L).length ≤ 40000
    rw [othR_len]
    have : L * (1 + X.length * X.length) ≤ 2 * (1 + 64 * 64) := Nat.mul_le_mul hL2 (by omega)
    omega
  · show ((X.map (unmS x.M)).length : Int) = X.length
    simp
  · intro i hi
    have hm : (othT x X L).R.getD i ru0 ∈ othR x.R X L := mem_getD hi
    obtain ⟨l, hl, h | ⟨p, q, hp, hq, h⟩⟩ := othR_mem.1 hm
    · rw [h]
      have := hidx _ (hX.leaf l hl)
      show RuIn x.L X.length _
      exact ⟨⟨by simp only; omega, by simp only; omega⟩, ⟨by simp only; omega, by simp only; omega⟩, .inl ⟨rfl, rfl⟩⟩
    · rw [h]
      have := hidx _ (hX.node l hl (X.getD p 0) (by simp [List.getD, hp]) (X.getD q 0) (by simp [List.getD, hq]))
      show RuIn x.L X.length _
      exact ⟨⟨by simp only; omega, by simp only; omega⟩, ⟨by simp only; omega, by simp only; omega⟩, .inr ⟨⟨by simp only; omega, by simp only; omega⟩, by simp only; omega, by simp only; omega⟩⟩
  · intro i hi
    show (X.map (unmS x.M)).getD i 0 = 0 ∨ (X.map (unmS x.M)).getD i 0 = 1
    have hi' : i < X.length := by
      have : i < (X.map (unmS x.M)).length := hi
      simpa using this
    have : (X.map (unmS x.M)).getD i 0 = unmS x.M (X[i]) := by simp [List.getD, hi']
    rw [this]
    unfold unmS
    split
    · exact .inl rfl
    · exact .inr rfl
  · exact othR_rise _ _ _

/-- Each node leads to just one set. -/
theorem oth_giv {x : Trs} {X : List Nat} {L N : Nat} (hx : GoodT x) (hL : x.L = L) (hN : x.N = N) (hX : Closed x.R L X) {T : List NodeI} (hT : GoodNd x.L T) : ∀ i, i < T.length → ∃ s, s ∈ X ∧ IsSet N (givB x.R T i) s ∧ ∀ q, q < X.length → givB (othR x.R X L) T i q = decide (q = X.idxOf s) := by
  have hR : InRu x.R x.L N := hN ▸ hx.ru
  intro i
  induction i using Nat.strongRecOn with
  | ind i ih =>
    intro hi
    have hok := hT.ok i hi
    have e1 : ∀ q, givB x.R T i q = ownB (givB x.R T) (T.getD i no0) x.R x.R.length q := fun q => givB_row hT.ok hi q
    have e2 : ∀ q, givB (othR x.R X L) T i q = ownB (givB (othR x.R X L) T) (T.getD i no0) (othR x.R X L) (othR x.R X L).length q := fun q => givB_row hT.ok hi q
    generalize T.getD i no0 = nd at *
    obtain ⟨y, a, b⟩ := nd
    obtain ⟨⟨y0, y1⟩, hkid⟩ := hok
    simp only at y0 y1 hkid
    obtain ⟨l, rfl⟩ : ∃ l : Nat, y = l := ⟨y.toNat, by omega⟩
    have hlL : l < L := by omega
    rcases hkid with ⟨rfl, rfl⟩ | ⟨⟨a0, a1⟩, b0, b1⟩
    · refine ⟨nxA x.R l 1 1, hX.leaf l hlL, ?_, fun q hq => ?_⟩
      · have := isSet_leaf hR (acc := givB x.R T) (y := (l : Int))
        exact ⟨this.lt, this.zero, fun q hq => by rw [this.bit q hq, e1 q]⟩
      · rw [e2 q]
        unfold ownB
        rw [List.take_length, Bool.eq_iff_iff, List.any_eq_true, decide_eq_true_iff]
        constructor
        · rintro ⟨r, hr, hh⟩
          rw [Bool.and_eq_true, beq_iff_eq] at hh
          obtain ⟨l', hl', h | ⟨p, q', hp, hq', h⟩⟩ := othR_mem.1 hr
          · rw [h] at hh
            unfold hitB at hh
            simp at hh
            have : l' = l := by omega
            subst this
            omega
          · rw [h] at hh
            unfold hitB at hh
            have : ((p : Int) == -1) = false := by rw [beq_eq_false_iff_ne]; omega
            simp [this] at hh
        · intro hqe
          refine ⟨_, othR_mem.2 ⟨l, hlL, .inl rfl⟩, ?_⟩
          rw [Bool.and_eq_true, beq_iff_eq]
          refine ⟨?_, by simp only; omega⟩
          unfold hitB
          simp
    · obtain ⟨ca, rfl⟩ : ∃ ca : Nat, a = ca := ⟨a.toNat, by omega⟩
      obtain ⟨cb, rfl⟩ : ∃ cb : Nat, b = cb := ⟨b.toNat, by omega⟩
      obtain ⟨s, hs1, hs2, hs3⟩ := ih ca (by omega) (by omega)
      obtain ⟨t, ht1, ht2, ht3⟩ := ih cb (by omega) (by omega)
      refine ⟨nxA x.R l s t, hX.node l hlL s hs1 t ht1, ?_, fun q hq => ?_⟩
      · have := isSet_node hR (acc := givB x.R T) (y := (l : Int)) hs2 ht2
        exact ⟨this.lt, this.zero, fun q hq => by rw [this.bit q hq, e1 q]⟩
      · have is := List.idxOf_lt_length_of_mem hs1
        have it := List.idxOf_lt_length_of_mem ht1
        have gs : X.getD (X.idxOf s) 0 = s := by simp [List.getD, is]
        have gt : X.getD (X.idxOf t) 0 = t := by simp [List.getD, it]
        rw [e2 q]
        unfold ownB
        rw [List.take_length, Bool.eq_iff_iff, List.any_eq_true, decide_eq_true_iff]
        constructor
        · rintro ⟨r, hr, hh⟩
          rw [Bool.and_eq_true, beq_iff_eq] at hh
          obtain ⟨l', hl', h | ⟨p, q', hp, hq', h⟩⟩ := othR_mem.1 hr
          · rw [h] at hh
            unfold hitB at hh
            have : ((ca : Int) == -1) = false := by rw [beq_eq_false_iff_ne]; omega
            simp [this] at hh
          · rw [h] at hh
            obtain ⟨h1, h2⟩ := hh
            have hl2 : (l' : Int) = l := by
              unfold hitB at h1
              simp only [Bool.and_eq_true, beq_iff_eq] at h1
              exact h1.1
            rw [hitB_both' hl2] at h1
            rw [Bool.and_eq_true, hs3 p hp, ht3 q' hq', decide_eq_true_iff, decide_eq_true_iff] at h1
            obtain ⟨h3, h4⟩ := h1
            subst h3 h4
            have : l' = l := by omega
            subst this
            simp only at h2
            rw [gs, gt] at h2
            omega
        · intro hqe
          refine ⟨_, othR_mem.2 ⟨l, hlL, .inr ⟨X.idxOf s, X.idxOf t, is, it, rfl⟩⟩, ?_⟩
          rw [Bool.and_eq_true, beq_iff_eq]
          refine ⟨?_, by simp only; rw [gs, gt]; omega⟩
          rw [hitB_both' rfl, hs3 _ is, ht3 _ it]
          simp
theorem oth_acc {x : Trs} {X : List Nat} {L N : Nat} (hx : GoodT x) (hL : x.L = L) (hN : x.N = N) (hX : Closed x.R L X) {T : List NodeI} (hT : GoodNd x.L T) : accTB (othT x X L) T = !accTB x T := by
  have hn := hT.n1
  have hm := hx.m
  obtain ⟨s, hs, h1, h2⟩ := oth_giv hx hL hN hX hT (T.length - 1) (by omega)
  have hi := List.idxOf_lt_length_of_mem hs
  have gs : X[X.idxOf s] = s := List.getElem_idxOf hi
  have e1 : accTB x T = mkS x.M s x.M.length := by
    unfold accTB
    rw [mkS_root h1 (by omega)]
  have e2 : ∀ q, q < X.length → (X.map (unmS x.M)).getD q 0 = unmS x.M X[q]! := fun q hq => by simp [List.getD, hq]
  rw [e1]
  unfold accTB rootB
  rw [Bool.eq_iff_iff, List.any_eq_true]
  show (∃ q, q ∈ List.range (X.map (unmS x.M)).length ∧ _) ↔ _
  constructor
  · rintro ⟨q, hq, hh⟩
    have hq' : q < X.length := by simpa using List.mem_range.1 hq
    rw [Bool.and_eq_true, beq_iff_eq] at hh
    obtain ⟨h3, h4⟩ := hh
    have h4' : givB (othR x.R X L) T (T.length - 1) q = true := h4
    rw [h2 q hq', decide_eq_true_iff] at h4'
    subst h4'
    have h3' : (X.map (unmS x.M)).getD (X.idxOf s) 0 = 1 := h3
    have e3 : (X.map (unmS x.M)).getD (X.idxOf s) 0 = unmS x.M s := by simp [List.getD, hi, gs]
    rw [e3] at h3'
    unfold unmS at h3'
    split at h3'
    · cases h3'
    · next h5 => simpa using h5
  · intro h5
    refine ⟨X.idxOf s, by simp [hi], ?_⟩
    rw [Bool.and_eq_true, beq_iff_eq]
    refine ⟨?_, ?_⟩
    · show (X.map (unmS x.M)).getD (X.idxOf s) 0 = 1
      have e3 : (X.map (unmS x.M)).getD (X.idxOf s) 0 = unmS x.M s := by simp [List.getD, hi, gs]
      rw [e3]
      unfold unmS
      rw [if_neg (by simpa using h5)]
    · show givB (othR x.R X L) T (T.length - 1) (X.idxOf s) = true
      rw [h2 _ hi]; simp

end Go.Proofs.Ytofjmakmbmndoaa
