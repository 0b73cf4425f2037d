/- Automata of trees without an end, without the program: what may be one; the game of going down; who wins it shows a tree, or ways that bar all. -/
import Derived.Test.YtnlkdihfoekjmaaTrSpec
import Derived.Test.YtnlkdihfoekjmaaGMath
namespace Go.Proofs.Ytnlkdihfoekjmaa
set_option linter.unusedVariables false

def RuW (l n : Int) (r : RuleI) : Prop := (0 ≤ r.1 ∧ r.1 < l) ∧ (0 ≤ r.2.1 ∧ r.2.1 < n) ∧ (0 ≤ r.2.2.1 ∧ r.2.2.1 < n) ∧ (0 ≤ r.2.2.2 ∧ r.2.2.2 < n)
def InW (R : List RuleI) (l n : Int) : Prop := ∀ i, i < R.length → RuW l n (R.getD i ru0)
def MkW (M : List Int) : Prop := ∀ i, i < M.length → 0 ≤ M.getD i 0 ∧ M.getD i 0 ≤ 9
def ruWB (l n : Int) (r : RuleI) : Bool := decide ((0 ≤ r.1 ∧ r.1 < l) ∧ (0 ≤ r.2.1 ∧ r.2.1 < n) ∧ (0 ≤ r.2.2.1 ∧ r.2.2.1 < n) ∧ (0 ≤ r.2.2.2 ∧ r.2.2.2 < n))
def inWB (R : List RuleI) (l n : Int) : Bool := decide (∀ i, i < R.length → ruWB l n (R.getD i ru0) = true)
def mkWB (M : List Int) : Bool := decide (∀ i, i < M.length → 0 ≤ M.getD i 0 ∧ M.getD i 0 ≤ 9)
def stWB (s n : Int) : Bool := decide (0 ≤ s ∧ s < n)
theorem inWB_iff (R : List RuleI) (l n : Int) : inWB R l n = true ↔ InW R l n := by
  unfold inWB InW RuW
  rw [decide_eq_true_iff]
  exact ⟨fun h i hi => decide_eq_true_iff.1 (h i hi), fun h i hi => decide_eq_true_iff.2 (h i hi)⟩
theorem mkWB_iff (M : List Int) : mkWB M = true ↔ MkW M := decide_eq_true_iff
theorem stWB_iff (s n : Int) : stWB s n = true ↔ 0 ≤ s ∧ s < n := decide_eq_true_iff
/-- What is wrong with an automaton. -/
def checkW (x : Trs) : Int :=
  if x.L < 1 ∨ 4 < x.L then 2
  else if x.N < 1 ∨ 6 < x.N ∨ 60 < x.R.length ∨ (x.M.length : Int) ≠ x.N then 1
  else if (inWB x.R x.L x.N && stWB x.S x.N && mkWB x.M) = true then (if riseRB x.R = true then 0 else 3)
  else 2
structure ShpW (x : Trs) : Prop where
  l1 : 1 ≤ x.L
  l4 : x.L ≤ 4
  n1 : 1 ≤ x.N
  n6 : x.N ≤ 6
  r6 : x.R.length ≤ 60
  m : (x.M.length : Int) = x.N
structure GoodW (x : Trs) : Prop extends ShpW x where
  ru : InW x.R x.L x.N
  st : 0 ≤ x.S ∧ x.S < x.N
  mks : MkW x.M
  ri : RiseR x.R
theorem checkW_range {x : Trs} (h : x.L < 1 ∨ 4 < x.L) : checkW x = 2 := by unfold checkW; rw [if_pos h]
theorem checkW_size {x : Trs} (h : ¬ (x.L < 1 ∨ 4 < x.L)) (h2 : x.N < 1 ∨ 6 < x.N ∨ 60 < x.R.length ∨ (x.M.length : Int) ≠ x.N) : checkW x = 1 := by unfold checkW; rw [if_neg h, if_pos h2]
theorem shpW {x : Trs} (h : ¬ (x.L < 1 ∨ 4 < x.L)) (h2 : ¬ (x.N < 1 ∨ 6 < x.N ∨ 60 < x.R.length ∨ (x.M.length : Int) ≠ x.N)) : ShpW x := ⟨by omega, by omega, by omega, by omega, by omega, by omega⟩
theorem checkW_shp {x : Trs} (h : ShpW x) : checkW x = if (inWB x.R x.L x.N && stWB x.S x.N && mkWB x.M) = true then (if riseRB x.R = true then 0 else 3) else 2 := by
  obtain ⟨h1, h2, h3, h4, h5, h6⟩ := h
  unfold checkW
  rw [if_neg (by omega), if_neg (by omega)]
theorem checkW_ru {x : Trs} (h : ShpW x) (h2 : ¬ InW x.R x.L x.N) : checkW x = 2 := by
  rw [checkW_shp h, if_neg]
  simp only [Bool.and_eq_true, inWB_iff]
  exact fun e => h2 e.1.1
theorem checkW_st {x : Trs} (h : ShpW x) (h2 : ¬ (0 ≤ x.S ∧ x.S < x.N)) : checkW x = 2 := by
  rw [checkW_shp h, if_neg]
  simp only [Bool.and_eq_true, stWB_iff]
  exact fun e => h2 e.1.2
theorem checkW_mk {x : Trs} (h : ShpW x) (h2 : ¬ MkW x.M) : checkW x = 2 := by
  rw [checkW_shp h, if_neg]
  simp only [Bool.and_eq_true, mkWB_iff]
  exact fun e => h2 e.2
theorem checkW_in {x : Trs} (h : ShpW x) (h1 : InW x.R x.L x.N) (h2 : 0 ≤ x.S ∧ x.S < x.N) (h3 : MkW x.M) : checkW x = if riseRB x.R = true then 0 else 3 := by
  rw [checkW_shp h, if_pos]
  simp only [Bool.and_eq_true, inWB_iff, stWB_iff, mkWB_iff]
  exact ⟨⟨h1, h2⟩, h3⟩
theorem checkW_ri {x : Trs} (h : ShpW x) (h1 : InW x.R x.L x.N) (h2 : 0 ≤ x.S ∧ x.S < x.N) (h3 : MkW x.M) (h4 : ¬ RiseR x.R) : checkW x = 3 := by
  rw [checkW_in h h1 h2 h3, if_neg (fun e => h4 ((riseRB_iff _).1 e))]
theorem checkW_ok {x : Trs} (h : ShpW x) (h1 : InW x.R x.L x.N) (h2 : 0 ≤ x.S ∧ x.S < x.N) (h3 : MkW x.M) (h4 : RiseR x.R) : checkW x = 0 := by
  rw [checkW_in h h1 h2 h3, if_pos ((riseRB_iff _).2 h4)]
theorem goodW_of {x : Trs} (h : checkW x = 0) : GoodW x := by
  have h1 : ¬ (x.L < 1 ∨ 4 < x.L) := fun e => by rw [checkW_range e] at h; cases h
  have h2 : ¬ (x.N < 1 ∨ 6 < x.N ∨ 60 < x.R.length ∨ (x.M.length : Int) ≠ x.N) := fun e => by rw [checkW_size h1 e] at h; cases h
  have s := shpW h1 h2
  have h3 : InW x.R x.L x.N := Classical.byContradiction fun e => by rw [checkW_ru s e] at h; cases h
  have h4 : 0 ≤ x.S ∧ x.S < x.N := Classical.byContradiction fun e => by rw [checkW_st s e] at h; cases h
  have h5 : MkW x.M := Classical.byContradiction fun e => by rw [checkW_mk s e] at h; cases h
  exact ⟨s, h3, h4, h5, Classical.byContradiction fun e => by rw [checkW_ri s h3 h4 h5 e] at h; cases h⟩

/-! The game of going down. -/
def toW (x : Trs) (i : Nat) : Nat := (x.R.getD i ru0).2.2.2.toNat
def lfW (x : Trs) (i : Nat) : Nat := (x.R.getD i ru0).2.1.toNat
def rgW (x : Trs) (i : Nat) : Nat := (x.R.getD i ru0).2.2.1.toNat
/-- The rules of a state, among the first. -/
def rlW (x : Trs) (k s : Nat) : List Nat := (List.range k).filter fun i => decide (toW x i = s)
def riL (a b : Nat) : List Nat := if a = b then [a] else if a < b then [a, b] else [b, a]
def gwNx (x : Trs) (N p : Nat) : List Nat := if p < N then (if rlW x x.R.length p = [] then [p] else (rlW x x.R.length p).map (N + ·)) else riL (lfW x (p - N)) (rgW x (p - N))
def gwMk (x : Trs) (N p : Nat) : Int := if p < N then (if rlW x x.R.length p = [] then 1 else x.M.getD p 0) else x.M.getD (toW x (p - N)) 0
def gwOw (N p : Nat) : Int := if p < N then 0 else 1
def gwG (x : Trs) (N : Nat) : Gm := ⟨N + x.R.length, gwOw N, gwMk x N, gwNx x N⟩
theorem mem_rlW {x : Trs} {k s i : Nat} : i ∈ rlW x k s ↔ i < k ∧ toW x i = s := by simp [rlW]
theorem mem_riL {a b q : Nat} : q ∈ riL a b ↔ q = a ∨ q = b := by
  unfold riL
  by_cases h : a = b
  · subst h; simp
  · by_cases h2 : a < b
    · simp [h, h2]
    · simp [h, h2, or_comm]
theorem riL_nodup (a b : Nat) : (riL a b).Nodup := by
  unfold riL
  by_cases h : a = b
  · simp [h]
  · by_cases h2 : a < b
    · simp [h, h2]
    · simp [h, h2, Ne.symm h]
theorem riL_ne (a b : Nat) : riL a b ≠ [] := by
  unfold riL
  split
  · simp
  · split <;> simp
theorem rlW_succ (x : Trs) (k s : Nat) : rlW x (k + 1) s = rlW x k s ++ (if toW x k = s then [k] else []) := by
  unfold rlW
  rw [List.range_succ, List.filter_append]
  by_cases h : toW x k = s <;> simp [h]
section
variable {x : Trs} {N : Nat}
theorem GoodW.rule (h : GoodW x) (hN : x.N = N) {i : Nat} (hi : i < x.R.length) : toW x i < N ∧ lfW x i < N ∧ rgW x i < N ∧ (x.R.getD i ru0).2.2.2 = (toW x i : Int) ∧ (x.R.getD i ru0).2.1 = (lfW x i : Int) ∧ (x.R.getD i ru0).2.2.1 = (rgW x i : Int) := by
  have := h.ru i hi
  unfold RuW at this
  unfold toW lfW rgW
  omega
theorem gw_good (h : GoodW x) (hN : x.N = N) : GoodG (gwG x N) := by
  have h1 := h.n1
  have h6 := h.n6
  have hr := h.r6
  have hm := h.m
  refine ⟨?_, ?_, fun p hp => ?_, fun p hp => ?_, fun p hp => ?_, fun p hp q hq => ?_, fun p hp => ?_⟩
  · show 1 ≤ N + x.R.length; omega
  · show N + x.R.length ≤ 100; omega
  · show gwOw N p = 0 ∨ gwOw N p = 1
    unfold gwOw; split <;> simp
  · show 0 ≤ gwMk x N p ∧ gwMk x N p ≤ 9
    unfold gwMk
    split
    · split
      · omega
      · exact h.mks p (by omega)
    · have hi : p - N < x.R.length := by have : p < N + x.R.length := hp; omega
      have := (h.rule hN hi).1
      exact h.mks _ (by omega)
  · show gwNx x N p ≠ []
    unfold gwNx
    split
    · split
      · simp
      · rename_i hh; intro e; exact hh (List.map_eq_nil_iff.1 e)
    · exact riL_ne _ _
  · show q < N + x.R.length
    have hq' : q ∈ gwNx x N p := hq
    unfold gwNx at hq'
    split at hq'
    · split at hq'
      · simp at hq'; omega
      · obtain ⟨i, hi, rfl⟩ := List.mem_map.1 hq'
        have := (mem_rlW.1 hi).1
        omega
    · have hi : p - N < x.R.length := by have : p < N + x.R.length := hp; omega
      obtain ⟨_, f1, f2, _⟩ := h.rule hN hi
      rcases mem_riL.1 hq' with e | e <;> omega
  · show (gwNx x N p).Nodup
    unfold gwNx
    split
    · split
      · simp
      · have : (rlW x x.R.length p).Nodup := List.Nodup.sublist List.filter_sublist List.nodup_range
        exact this.map (N + ·) (fun a b hne e => hne (by simpa using e))
    · exact riL_nodup _ _

variable {W M : Nat → Int}
abbrev GwS (x : Trs) (N : Nat) (W M : Nat → Int) : Prop := Solved (gwG x N) (fun p => decide (p < (gwG x N).n)) W M
theorem gw_at {p : Nat} (h : p < N + x.R.length) : (fun p => decide (p < (gwG x N).n)) p = true := decide_eq_true (show p < (gwG x N).n from h)
theorem own_state {p : Nat} (h : p < N) : (gwG x N).own p = 0 := by show gwOw N p = 0; unfold gwOw; rw [if_pos h]
theorem own_rule (i : Nat) : (gwG x N).own (N + i) = 1 := by show gwOw N (N + i) = 1; unfold gwOw; rw [if_neg (by omega)]
theorem nx_state {s : Nat} (h : s < N) (hr : rlW x x.R.length s ≠ []) : (gwG x N).nx s = (rlW x x.R.length s).map (N + ·) := by show gwNx x N s = _; unfold gwNx; rw [if_pos h, if_neg hr]
theorem nx_rule (i : Nat) : (gwG x N).nx (N + i) = riL (lfW x i) (rgW x i) := by show gwNx x N (N + i) = _; unfold gwNx; rw [if_neg (by omega), Nat.add_sub_cancel_left]
theorem mk_state {s : Nat} (h : s < N) (hr : rlW x x.R.length s ≠ []) : (gwG x N).mark s = x.M.getD s 0 := by show gwMk x N s = _; unfold gwMk; rw [if_pos h, if_neg hr]
theorem mk_rule (i : Nat) : (gwG x N).mark (N + i) = x.M.getD (toW x i) 0 := by show gwMk x N (N + i) = _; unfold gwMk; rw [if_neg (by omega), Nat.add_sub_cancel_left]
theorem rl_ne {i s : Nat} (hi : i < x.R.length) (hs : toW x i = s) : rlW x x.R.length s ≠ [] := fun e => by
  have : i ∈ rlW x x.R.length s := mem_rlW.2 ⟨hi, hs⟩
  rw [e] at this; simp at this
/-- Where the grower wins there is a rule, and he wins below it. -/
theorem grow_state (h : GoodW x) (hN : x.N = N) (hs : GwS x N W M) {s : Nat} (hsN : s < N) (hW : W s = 0) :
    ∃ i, i < x.R.length ∧ toW x i = s ∧ M s = ((N + i : Nat) : Int) ∧ W (N + i) = 0 ∧ W (lfW x i) = 0 ∧ W (rgW x i) = 0 := by
  have hp : (fun p => decide (p < (gwG x N).n)) s = true := gw_at (by omega)
  obtain ⟨q, hq, hM, hPq, hWq⟩ := hs.mine s hp (by rw [own_state hsN, hW])
  by_cases hr : rlW x x.R.length s = []
  · exfalso
    have e1 : (gwG x N).nx s = [s] := by show gwNx x N s = _; unfold gwNx; rw [if_pos hsN, if_pos hr]
    have e2 : (gwG x N).mark s = 1 := by show gwMk x N s = _; unfold gwMk; rw [if_pos hsN, if_pos hr]
    rw [e1] at hq
    have hqs : q = s := by simpa using hq
    subst hqs
    refine hs.bad q hp (by rw [e2, hW]; decide) (.one ⟨by rw [e1]; simp, hp, hp, rfl, rfl, Int.le_refl _, Int.le_refl _, fun _ => hM⟩)
  · rw [nx_state hsN hr] at hq
    obtain ⟨i, hi, rfl⟩ := List.mem_map.1 hq
    obtain ⟨h1, h2⟩ := mem_rlW.1 hi
    obtain ⟨_, f1, f2, _⟩ := h.rule hN h1
    have hpi : (fun p => decide (p < (gwG x N).n)) (N + i) = true := gw_at (by omega)
    have hWi : W (N + i) = 0 := hWq.trans hW
    have ho := hs.oth (N + i) hpi (by rw [own_rule, hWi]; decide)
    refine ⟨i, h1, h2, hM, hWi, ?_, ?_⟩
    · rw [ho (lfW x i) (by rw [nx_rule]; exact mem_riL.2 (.inl rfl)) (gw_at (by omega)), hWi]
    · rw [ho (rgW x i) (by rw [nx_rule]; exact mem_riL.2 (.inr rfl)) (gw_at (by omega)), hWi]

/-! The tree that is grown. -/
def plX (X : List Nat) (s : Nat) : List Nat := if s ∈ X then X else X ++ [s]
theorem plX_len (X : List Nat) (s : Nat) : X.length ≤ (plX X s).length := by unfold plX; split <;> simp
theorem plX_old {X : List Nat} {s j : Nat} (h : j < X.length) : (plX X s).getD j 0 = X.getD j 0 := by
  unfold plX
  split
  · rfl
  · simp [List.getD, List.getElem?_append_left h]
theorem plX_at (X : List Nat) (s : Nat) : X.idxOf s < (plX X s).length ∧ (plX X s).getD (X.idxOf s) 0 = s := by
  unfold plX
  by_cases h : s ∈ X
  · have h1 := List.idxOf_lt_length_of_mem h
    rw [if_pos h]
    exact ⟨h1, by simp [List.getD, h1]⟩
  · have h1 : X.idxOf s = X.length := List.idxOf_eq_length h
    rw [if_neg h, h1]
    simp [List.getD]
theorem plX_nodup {X : List Nat} {s : Nat} (h : X.Nodup) : (plX X s).Nodup := by
  unfold plX
  split
  · exact h
  · rename_i hs
    rw [List.nodup_append]
    exact ⟨h, by simp, fun a ha b hb => by simp at hb; subst hb; exact fun e => hs (e ▸ ha)⟩
theorem plX_mem {X : List Nat} {s z : Nat} (h : z ∈ plX X s) : z ∈ X ∨ z = s := by
  unfold plX at h
  split at h
  · exact .inl h
  · simpa using h

/-- What is known of a place that is done. -/
def PlcW (x : Trs) (N : Nat) (M : Nat → Int) (X : List Nat) (p : Nat) (lt : Int) (lf rg : Nat) : Prop :=
  ∃ i, i < x.R.length ∧ toW x i = X.getD p 0 ∧ M (X.getD p 0) = ((N + i : Nat) : Int) ∧ lt = (x.R.getD i ru0).1 ∧ (lf < X.length ∧ X.getD lf 0 = lfW x i) ∧ (rg < X.length ∧ X.getD rg 0 = rgW x i)
structure GrwI (x : Trs) (N : Nat) (W M : Nat → Int) (X : List Nat) (Lt : List Int) (Lf Rg : List Nat) (k : Nat) : Prop where
  st : X.getD 0 0 = x.S.toNat
  pos : 1 ≤ X.length
  nd : X.Nodup
  lt : ∀ s, s ∈ X → s < N ∧ W s = 0
  l1 : Lt.length = k
  l2 : Lf.length = k
  l3 : Rg.length = k
  kl : k ≤ X.length
  rl : ∀ p, p < k → PlcW x N M X p (Lt.getD p 0) (Lf.getD p 0) (Rg.getD p 0)
theorem GrwI.start (h : GoodW x) (hN : x.N = N) (hW : W x.S.toNat = 0) : GrwI x N W M [x.S.toNat] [] [] [] 0 :=
  ⟨rfl, by simp, by simp, fun s hs => by simp at hs; subst hs; have := h.st; exact ⟨by omega, hW⟩, rfl, rfl, rfl, by simp, fun p hp => by omega⟩
theorem GrwI.len {X : List Nat} {Lt : List Int} {Lf Rg : List Nat} {k : Nat} (h : GrwI x N W M X Lt Lf Rg k) : X.length ≤ N := by
  have := List.Nodup.length_le_of_subset h.nd (l₂ := List.range N) (fun q hq => List.mem_range.2 (h.lt q hq).1)
  rwa [List.length_range] at this
theorem getD_memW {X : List Nat} {p : Nat} (h : p < X.length) : X.getD p 0 ∈ X := by simp [List.getD, h]
theorem snoc_old {α : Type} {l : List α} {v d : α} {p : Nat} (h : p < l.length) : (l ++ [v]).getD p d = l.getD p d := by simp [List.getD, List.getElem?_append_left h]
theorem snoc_new {α : Type} {l : List α} {v d : α} {p : Nat} (h : l.length = p) : (l ++ [v]).getD p d = v := by subst h; simp [List.getD]
theorem GrwI.step {X : List Nat} {Lt : List Int} {Lf Rg : List Nat} {k i : Nat} (h : GrwI x N W M X Lt Lf Rg k) (hg : GoodW x) (hN : x.N = N) (hk : k < X.length) (h1 : i < x.R.length) (h2 : toW x i = X.getD k 0) (h3 : M (X.getD k 0) = ((N + i : Nat) : Int)) (h4 : W (lfW x i) = 0) (h5 : W (rgW x i) = 0) :
    GrwI x N W M (plX (plX X (lfW x i)) (rgW x i)) (Lt ++ [(x.R.getD i ru0).1]) (Lf ++ [X.idxOf (lfW x i)]) (Rg ++ [(plX X (lfW x i)).idxOf (rgW x i)]) (k + 1) := by
  obtain ⟨_, f1, f2, _⟩ := hg.rule hN h1
  have a1 := plX_len X (lfW x i)
  have a2 := plX_len (plX X (lfW x i)) (rgW x i)
  obtain ⟨b1, b2⟩ := plX_at X (lfW x i)
  obtain ⟨c1, c2⟩ := plX_at (plX X (lfW x i)) (rgW x i)
  have old : ∀ j, j < X.length → (plX (plX X (lfW x i)) (rgW x i)).getD j 0 = X.getD j 0 := fun j hj => by rw [plX_old (by omega), plX_old hj]
  have p1 := h.pos
  refine ⟨by rw [old 0 (by omega)]; exact h.st, by omega, plX_nodup (plX_nodup h.nd), fun s hs => ?_, by simp [h.l1], by simp [h.l2], by simp [h.l3], by omega, fun p hp => ?_⟩
  · rcases plX_mem hs with hs | rfl
    · rcases plX_mem hs with hs | rfl
      · exact h.lt s hs
      · exact ⟨f1, h4⟩
    · exact ⟨f2, h5⟩
  · by_cases e : p = k
    · subst e
      rw [snoc_new h.l1, snoc_new h.l2, snoc_new h.l3]
      refine ⟨i, h1, by rw [old p hk]; exact h2, by rw [old p hk]; exact h3, rfl, ⟨by omega, ?_⟩, c1, c2⟩
      rw [plX_old b1]; exact b2
    · rw [snoc_old (by rw [h.l1]; omega), snoc_old (by rw [h.l2]; omega), snoc_old (by rw [h.l3]; omega)]
      obtain ⟨j, j1, j2, j3, j4, ⟨j5, j6⟩, j7, j8⟩ := h.rl p (by omega)
      have hpX : p < X.length := by omega
      exact ⟨j, j1, by rw [old p hpX]; exact j2, by rw [old p hpX]; exact j3, j4, ⟨by omega, by rw [old _ j5]; exact j6⟩, by omega, by rw [old _ j7]; exact j8⟩
/-- Along no way round is the least mark odd. -/
theorem GrwI.even {X : List Nat} {Lt : List Int} {Lf Rg : List Nat} (h : GrwI x N W M X Lt Lf Rg X.length) (hg : GoodW x) (hN : x.N = N) (hs : GwS x N W M) {p : Nat} (hp : p < X.length) (hm : x.M.getD (X.getD p 0) 0 % 2 ≠ 0) :
    ¬ Pt (fun a b => b ∈ [Lf.getD a 0, Rg.getD a 0] ∧ x.M.getD (X.getD p 0) 0 ≤ x.M.getD (X.getD a 0) 0 ∧ x.M.getD (X.getD p 0) 0 ≤ x.M.getD (X.getD b 0) 0) p p := by
  have ok : ∀ a, a < X.length → X.getD a 0 < N ∧ W (X.getD a 0) = 0 ∧ rlW x x.R.length (X.getD a 0) ≠ [] := fun a ha => by
    obtain ⟨i, i1, i2, _⟩ := h.rl a ha
    exact ⟨(h.lt _ (getD_memW ha)).1, (h.lt _ (getD_memW ha)).2, rl_ne i1 i2⟩
  obtain ⟨k1, k2, k3⟩ := ok p hp
  -- one step
  have step : ∀ a b, a < X.length → b ∈ [Lf.getD a 0, Rg.getD a 0] → x.M.getD (X.getD p 0) 0 ≤ x.M.getD (X.getD a 0) 0 → x.M.getD (X.getD p 0) 0 ≤ x.M.getD (X.getD b 0) 0 →
      b < X.length ∧ ∃ c, Ed (gwG x N) (fun p => decide (p < (gwG x N).n)) W M 0 (x.M.getD (X.getD p 0) 0) (X.getD a 0) c ∧ Ed (gwG x N) (fun p => decide (p < (gwG x N).n)) W M 0 (x.M.getD (X.getD p 0) 0) c (X.getD b 0) := by
    intro a b ha hb m1 m2
    obtain ⟨a1, a2, a3⟩ := ok a ha
    obtain ⟨i, i1, i2, i3, i4, ⟨i5, i6⟩, i7, i8⟩ := h.rl a ha
    have hbX : b < X.length := by
      rcases List.mem_cons.1 hb with e | e
      · rw [e]; exact i5
      · rw [List.mem_singleton.1 e]; exact i7
    obtain ⟨b1, b2, b3⟩ := ok b hbX
    obtain ⟨i', j1, j2, j3, j4, _⟩ := grow_state hg hN hs a1 a2
    have e : i' = i := by rw [i3] at j3; omega
    subst e
    have hbx : X.getD b 0 ∈ riL (lfW x i') (rgW x i') := by
      rcases List.mem_cons.1 hb with e | e
      · rw [e, i6]; exact mem_riL.2 (.inl rfl)
      · rw [List.mem_singleton.1 e, i8]; exact mem_riL.2 (.inr rfl)
    refine ⟨hbX, N + i', ⟨?_, gw_at (by omega), gw_at (by omega), a2, j4, ?_, ?_, fun _ => i3⟩, ⟨?_, gw_at (by omega), gw_at (by omega), j4, b2, ?_, ?_, fun e => ?_⟩⟩
    · rw [nx_state a1 a3]; exact List.mem_map.2 ⟨i', mem_rlW.2 ⟨i1, i2⟩, rfl⟩
    · rw [mk_state a1 a3]; exact m1
    · rw [mk_rule, i2]; exact m1
    · rw [nx_rule]; exact hbx
    · rw [mk_rule, i2]; exact m1
    · rw [mk_state b1 b3]; exact m2
    · rw [own_rule] at e; exact absurd e (by decide)
  intro hc
  have key : ∀ q, Pt (fun a b => b ∈ [Lf.getD a 0, Rg.getD a 0] ∧ x.M.getD (X.getD p 0) 0 ≤ x.M.getD (X.getD a 0) 0 ∧ x.M.getD (X.getD p 0) 0 ≤ x.M.getD (X.getD b 0) 0) p q → q < X.length ∧ Pt (Ed (gwG x N) (fun p => decide (p < (gwG x N).n)) W M 0 (x.M.getD (X.getD p 0) 0)) (X.getD p 0) (X.getD q 0) := by
    intro q hq
    induction hq with
    | one e =>
      obtain ⟨h1, c, h2, h3⟩ := step _ _ hp e.1 e.2.1 e.2.2
      exact ⟨h1, .more (.one h2) h3⟩
    | more _ e ih =>
      obtain ⟨h0, h4⟩ := ih
      obtain ⟨h1, c, h2, h3⟩ := step _ _ h0 e.1 e.2.1 e.2.2
      exact ⟨h1, .more (.more h4 h2) h3⟩
  have hk := (key p hc).2
  have hb := hs.bad (X.getD p 0) (gw_at (by omega)) (by rw [mk_state k1 k3, k2]; exact hm)
  rw [k2, mk_state k1 k3] at hb
  exact hb hk

/-! The ways that bar. -/
def wayW (x : Trs) (N : Nat) (V : Nat → Int) (i : Nat) : Int := if V (N + i) = (rgW x i : Int) then 1 else 0
def btW (x : Trs) (N : Nat) (V : Nat → Int) (i : Nat) : Nat := if V (N + i) = (rgW x i : Int) then rgW x i else lfW x i
def bnW (x : Trs) (N : Nat) (V : Nat → Int) (s : Nat) : List Nat := (rlW x x.R.length s).map (btW x N V)
def mvW (x : Trs) (N : Nat) (W M : Nat → Int) : Nat → Int := fun p => if (gwG x N).own p ≠ W p then -1 else M p
theorem bar_step (h : GoodW x) (hN : x.N = N) (hs : GwS x N W M) {s i : Nat} (hsN : s < N) (hW : W s = 1) (hi : i < x.R.length) (ht : toW x i = s) :
    W (N + i) = 1 ∧ W (btW x N (mvW x N W M) i) = 1 ∧ M (N + i) = (btW x N (mvW x N W M) i : Int) ∧ btW x N (mvW x N W M) i ∈ riL (lfW x i) (rgW x i) := by
  have hr := rl_ne hi ht
  have hWi : W (N + i) = 1 := by
    rw [hs.oth s (gw_at (by omega)) (by rw [own_state hsN, hW]; decide) (N + i) (by rw [nx_state hsN hr]; exact List.mem_map.2 ⟨i, mem_rlW.2 ⟨hi, ht⟩, rfl⟩) (gw_at (by omega)), hW]
  obtain ⟨q, hq, hM, hPq, hWq⟩ := hs.mine (N + i) (gw_at (by omega)) (by rw [own_rule, hWi])
  rw [nx_rule] at hq
  have hmv : mvW x N W M (N + i) = (q : Int) := by
    show (if (gwG x N).own (N + i) ≠ W (N + i) then -1 else M (N + i)) = _
    rw [own_rule, hWi, if_neg (by decide), hM]
  have hbt : btW x N (mvW x N W M) i = q := by
    unfold btW
    rw [hmv]
    by_cases e : q = rgW x i
    · rw [if_pos (by rw [e]), e]
    · rw [if_neg (by omega)]
      rcases mem_riL.1 hq with e2 | e2
      · exact e2.symm
      · exact absurd e2 e
  rw [hbt]
  exact ⟨hWi, hWq.trans hWi, hM, hq⟩
theorem bar_lt (h : GoodW x) (hN : x.N = N) (V : Nat → Int) {i : Nat} (hi : i < x.R.length) : btW x N V i < N := by
  obtain ⟨_, f1, f2, _⟩ := h.rule hN hi
  unfold btW
  split <;> omega
/-- Along no way round is the least mark even. -/
theorem bar_odd (h : GoodW x) (hN : x.N = N) (hs : GwS x N W M) {inn : Nat → Bool} (hin : ∀ s, inn s = true → s < N ∧ W s = 1) {p : Nat} (hp : inn p = true) (hm : x.M.getD p 0 % 2 ≠ 1) :
    ¬ Pt (fun a b => b ∈ bnW x N (mvW x N W M) a ∧ inn a = true ∧ inn b = true ∧ x.M.getD p 0 ≤ x.M.getD a 0 ∧ x.M.getD p 0 ≤ x.M.getD b 0) p p := by
  intro hc
  obtain ⟨z, hz⟩ := hc.start
  obtain ⟨hpN, hpW⟩ := hin p hp
  have rls : ∀ a b, b ∈ bnW x N (mvW x N W M) a → rlW x x.R.length a ≠ [] := fun a b hb e => by unfold bnW at hb; rw [e] at hb; simp at hb
  have hpr := rls p z hz.1
  have step : ∀ a b, b ∈ bnW x N (mvW x N W M) a → inn a = true → inn b = true → x.M.getD p 0 ≤ x.M.getD a 0 → x.M.getD p 0 ≤ x.M.getD b 0 → rlW x x.R.length b ≠ [] →
      ∃ c, Ed (gwG x N) (fun p => decide (p < (gwG x N).n)) W M 1 (x.M.getD p 0) a c ∧ Ed (gwG x N) (fun p => decide (p < (gwG x N).n)) W M 1 (x.M.getD p 0) c b := by
    intro a b hb ha hib m1 m2 hbr
    have har := rls a b hb
    obtain ⟨i, hi, rfl⟩ := List.mem_map.1 hb
    obtain ⟨i1, i2⟩ := mem_rlW.1 hi
    obtain ⟨a1, a2⟩ := hin a ha
    obtain ⟨b1, b2⟩ := hin _ hib
    obtain ⟨c1, c2, c3, c4⟩ := bar_step h hN hs a1 a2 i1 i2
    refine ⟨N + i, ⟨?_, gw_at (by omega), gw_at (by omega), a2, c1, ?_, ?_, fun e => ?_⟩, ⟨?_, gw_at (by omega), gw_at (by omega), c1, b2, ?_, ?_, fun _ => c3⟩⟩
    · rw [nx_state a1 har]; exact List.mem_map.2 ⟨i, hi, rfl⟩
    · rw [mk_state a1 har]; exact m1
    · rw [mk_rule, i2]; exact m1
    · rw [own_state a1] at e; exact absurd e (by decide)
    · rw [nx_rule]; exact c4
    · rw [mk_rule, i2]; exact m1
    · rw [mk_state b1 hbr]; exact m2
  have key : ∀ q, Pt (fun a b => b ∈ bnW x N (mvW x N W M) a ∧ inn a = true ∧ inn b = true ∧ x.M.getD p 0 ≤ x.M.getD a 0 ∧ x.M.getD p 0 ≤ x.M.getD b 0) p q → rlW x x.R.length q ≠ [] → Pt (Ed (gwG x N) (fun p => decide (p < (gwG x N).n)) W M 1 (x.M.getD p 0)) p q := by
    intro q hq
    induction hq with
    | one e =>
      intro hr
      obtain ⟨c, h2, h3⟩ := step _ _ e.1 e.2.1 e.2.2.1 e.2.2.2.1 e.2.2.2.2 hr
      exact .more (.one h2) h3
    | more _ e ih =>
      intro hr
      have h4 := ih (rls _ _ e.1)
      obtain ⟨c, h2, h3⟩ := step _ _ e.1 e.2.1 e.2.2.1 e.2.2.2.1 e.2.2.2.2 hr
      exact .more (.more h4 h2) h3
  have hk := key p hc hpr
  have hb := hs.bad p (gw_at (by omega)) (by rw [mk_state hpN hpr, hpW]; exact hm)
  rw [hpW, mk_state hpN hpr] at hb
  exact hb hk
end

end Go.Proofs.Ytnlkdihfoekjmaa
