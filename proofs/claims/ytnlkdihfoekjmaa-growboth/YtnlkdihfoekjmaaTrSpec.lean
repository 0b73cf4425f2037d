/- Automata of trees, and trees, without the program: what may be one, which states a node can be given, which trees are accepted. -/
import Derived.Test.YtnlkdihfoekjmaaGrow
namespace Go.Proofs.Ytnlkdihfoekjmaa
set_option linter.unusedVariables false

/-- A rule: a letter, the states of both children, the state. -/
abbrev RuleI := Int × Int × Int × Int
/-- A node: a letter, both children. -/
abbrev NodeI := Int × Int × Int
abbrev ru0 : RuleI := (0, 0, 0, 0)
abbrev no0 : NodeI := (0, 0, 0)
structure Trs where
  L : Int
  N : Int
  R : List RuleI
  S : Int
  M : List Int

def RuIn (l n : Int) (r : RuleI) : Prop := (0 ≤ r.1 ∧ r.1 < l) ∧ (0 ≤ r.2.2.2 ∧ r.2.2.2 < n) ∧ ((r.2.1 = -1 ∧ r.2.2.1 = -1) ∨ ((0 ≤ r.2.1 ∧ r.2.1 < n) ∧ (0 ≤ r.2.2.1 ∧ r.2.2.1 < n)))
def InRu (R : List RuleI) (l n : Int) : Prop := ∀ i, i < R.length → RuIn l n (R.getD i ru0)
def InMk (M : List Int) : Prop := ∀ i, i < M.length → M.getD i 0 = 0 ∨ M.getD i 0 = 1
/-- A rule stands ahead of another one. -/
def LexR (x y : RuleI) : Prop := x.1 < y.1 ∨ x.1 = y.1 ∧ (x.2.1 < y.2.1 ∨ x.2.1 = y.2.1 ∧ (x.2.2.1 < y.2.2.1 ∨ x.2.2.1 = y.2.2.1 ∧ x.2.2.2 < y.2.2.2))
def RiseR (R : List RuleI) : Prop := ∀ i, i + 1 < R.length → LexR (R.getD i ru0) (R.getD (i + 1) ru0)

def ruB (l n : Int) (r : RuleI) : Bool := decide ((0 ≤ r.1 ∧ r.1 < l) ∧ (0 ≤ r.2.2.2 ∧ r.2.2.2 < n) ∧ ((r.2.1 = -1 ∧ r.2.2.1 = -1) ∨ ((0 ≤ r.2.1 ∧ r.2.1 < n) ∧ (0 ≤ r.2.2.1 ∧ r.2.2.1 < n))))
def inRuB (R : List RuleI) (l n : Int) : Bool := decide (∀ i, i < R.length → ruB l n (R.getD i ru0) = true)
def inMkB (M : List Int) : Bool := decide (∀ i, i < M.length → M.getD i 0 = 0 ∨ M.getD i 0 = 1)
def lexRB (x y : RuleI) : Bool := decide (x.1 < y.1 ∨ x.1 = y.1 ∧ (x.2.1 < y.2.1 ∨ x.2.1 = y.2.1 ∧ (x.2.2.1 < y.2.2.1 ∨ x.2.2.1 = y.2.2.1 ∧ x.2.2.2 < y.2.2.2)))
def riseRB (R : List RuleI) : Bool := decide (∀ i, i < R.length - 1 → lexRB (R.getD i ru0) (R.getD (i + 1) ru0) = true)
theorem inRuB_iff (R : List RuleI) (l n : Int) : inRuB R l n = true ↔ InRu R l n := by
  unfold inRuB InRu RuIn
  rw [decide_eq_true_iff]
  exact ⟨fun h i hi => decide_eq_true_iff.1 (h i hi), fun h i hi => decide_eq_true_iff.2 (h i hi)⟩
theorem inMkB_iff (M : List Int) : inMkB M = true ↔ InMk M := decide_eq_true_iff
theorem lexRB_iff (x y : RuleI) : lexRB x y = true ↔ LexR x y := decide_eq_true_iff
theorem riseRB_iff (R : List RuleI) : riseRB R = true ↔ RiseR R := by
  unfold riseRB RiseR
  rw [decide_eq_true_iff]
  exact ⟨fun h i hi => (lexRB_iff _ _).1 (h i (by omega)), fun h i hi => (lexRB_iff _ _).2 (h i (by omega))⟩

/-- What is wrong with an automaton. -/
def checkT (x : Trs) : Int :=
  if x.L < 1 ∨ 4 < x.L then 2
  else if x.N < 1 ∨ 300 < x.N ∨ 40000 < x.R.length ∨ (x.M.length : Int) ≠ x.N then 1
  else if (inRuB x.R x.L x.N && inMkB x.M) = true then (if (riseRB x.R && x.S == 0) = true then 0 else 3)
  else 2
structure ShpT (x : Trs) : Prop where
  l1 : 1 ≤ x.L
  l4 : x.L ≤ 4
  n1 : 1 ≤ x.N
  n3 : x.N ≤ 300
  r4 : x.R.length ≤ 40000
  m : (x.M.length : Int) = x.N
structure GoodT (x : Trs) : Prop extends ShpT x where
  ru : InRu x.R x.L x.N
  mks : InMk x.M
  ri : RiseR x.R
  st : x.S = 0
theorem checkT_range {x : Trs} (h : x.L < 1 ∨ 4 < x.L) : checkT x = 2 := by unfold checkT; rw [if_pos h]
theorem checkT_size {x : Trs} (h : ¬ (x.L < 1 ∨ 4 < x.L)) (h2 : x.N < 1 ∨ 300 < x.N ∨ 40000 < x.R.length ∨ (x.M.length : Int) ≠ x.N) : checkT x = 1 := by unfold checkT; rw [if_neg h, if_pos h2]
theorem shpT {x : Trs} (h : ¬ (x.L < 1 ∨ 4 < x.L)) (h2 : ¬ (x.N < 1 ∨ 300 < x.N ∨ 40000 < x.R.length ∨ (x.M.length : Int) ≠ x.N)) : ShpT x := by
  have : (x.M.length : Int) = x.N := by
    by_cases e : (x.M.length : Int) = x.N
    · exact e
    · exact absurd (.inr (.inr (.inr e))) h2
  exact ⟨by omega, by omega, by omega, by omega, by omega, this⟩
theorem checkT_shp {x : Trs} (h : ShpT x) : checkT x = if (inRuB x.R x.L x.N && inMkB x.M) = true then (if (riseRB x.R && x.S == 0) = true then 0 else 3) else 2 := by
  obtain ⟨a, b, c, d, e, f⟩ := h
  unfold checkT
  rw [if_neg (by omega), if_neg (by omega)]
theorem checkT_ru {x : Trs} (h : ShpT x) (h2 : ¬ InRu x.R x.L x.N) : checkT x = 2 := by
  rw [checkT_shp h, if_neg]
  intro e
  rw [Bool.and_eq_true, inRuB_iff] at e
  exact h2 e.1
theorem checkT_mk {x : Trs} (h : ShpT x) (h2 : ¬ InMk x.M) : checkT x = 2 := by
  rw [checkT_shp h, if_neg]
  intro e
  rw [Bool.and_eq_true, inMkB_iff] at e
  exact h2 e.2
theorem checkT_ri {x : Trs} (h : ShpT x) (h1 : InRu x.R x.L x.N) (h2 : InMk x.M) (h3 : ¬ RiseR x.R) : checkT x = 3 := by
  rw [checkT_shp h, if_pos (by rw [Bool.and_eq_true, inRuB_iff, inMkB_iff]; exact ⟨h1, h2⟩), if_neg]
  intro e
  rw [Bool.and_eq_true, riseRB_iff] at e
  exact h3 e.1
theorem checkT_st {x : Trs} (h : ShpT x) (h1 : InRu x.R x.L x.N) (h2 : InMk x.M) (h3 : x.S ≠ 0) : checkT x = 3 := by
  rw [checkT_shp h, if_pos (by rw [Bool.and_eq_true, inRuB_iff, inMkB_iff]; exact ⟨h1, h2⟩), if_neg]
  intro e
  rw [Bool.and_eq_true] at e
  exact h3 (by simpa using e.2)
theorem checkT_ok {x : Trs} (h : ShpT x) (h1 : InRu x.R x.L x.N) (h2 : InMk x.M) (h3 : RiseR x.R) (h4 : x.S = 0) : checkT x = 0 := by
  rw [checkT_shp h, if_pos (by rw [Bool.and_eq_true, inRuB_iff, inMkB_iff]; exact ⟨h1, h2⟩), if_pos]
  rw [Bool.and_eq_true, riseRB_iff]
  exact ⟨h3, by simpa using h4⟩
theorem goodT_of_check {x : Trs} (h : checkT x = 0) : GoodT x := by
  by_cases c1 : x.L < 1 ∨ 4 < x.L
  · rw [checkT_range c1] at h; cases h
  by_cases c2 : x.N < 1 ∨ 300 < x.N ∨ 40000 < x.R.length ∨ (x.M.length : Int) ≠ x.N
  · rw [checkT_size c1 c2] at h; cases h
  have hs := shpT c1 c2
  by_cases c3 : InRu x.R x.L x.N
  case neg => rw [checkT_ru hs c3] at h; cases h
  by_cases c4 : InMk x.M
  case neg => rw [checkT_mk hs c4] at h; cases h
  by_cases c5 : RiseR x.R
  case neg => rw [checkT_ri hs c3 c4 c5] at h; cases h
  by_cases c6 : x.S = 0
  case neg => rw [checkT_st hs c3 c4 c6] at h; cases h
  exact ⟨hs, c3, c4, c5, c6⟩

/-- A node takes one child, out of i nodes ahead. -/
def canTake (i : Nat) (s : Nat → Bool) (c : Int) : Bool := decide (0 ≤ c ∧ c < i) && !s c.toNat
def setB (s : Nat → Bool) (c : Nat) : Nat → Bool := fun j => if j = c then true else s j
/-- Nodes one by one: the first fault (0: none), and which ones are taken. -/
def nodeF (l : Int) (i : Nat) (s : Nat → Bool) (n : NodeI) : Int × (Nat → Bool) :=
  if n.1 < 0 ∨ l ≤ n.1 then (2, s)
  else if n.2.1 = -1 ∧ n.2.2 = -1 then (0, s)
  else if canTake i s n.2.1 = false then (3, s)
  else if canTake i (setB s n.2.1.toNat) n.2.2 = false then (3, s)
  else (0, setB (setB s n.2.1.toNat) n.2.2.toNat)
def scanF (l : Int) (T : List NodeI) : Nat → Int × (Nat → Bool)
  | 0 => (0, fun _ => false)
  | k + 1 => if (scanF l T k).1 = 0 then nodeF l k (scanF l T k).2 (T.getD k no0) else scanF l T k
def allTaken (s : Nat → Bool) (n : Nat) : Bool := decide (∀ i, i < n → s i = true)
/-- What is wrong with a tree. -/
def treeF (l : Int) (T : List NodeI) : Int :=
  if l < 1 ∨ 4 < l then 2
  else if T.length < 1 ∨ 60 < T.length then 1
  else if (scanF l T T.length).1 = 0 then (if allTaken (scanF l T T.length).2 (T.length - 1) = true then 0 else 3)
  else (scanF l T T.length).1
theorem scanF_stay {l : Int} {T : List NodeI} {k m : Nat} (hk : k ≤ m) (h : (scanF l T k).1 ≠ 0) : scanF l T m = scanF l T k := by
  induction m with
  | zero => obtain rfl : k = 0 := by omega
            rfl
  | succ m ih =>
    by_cases e : k = m + 1
    · rw [e]
    · have := ih (by omega)
      rw [scanF, this, if_neg h]
theorem treeF_range {l : Int} {T : List NodeI} (h : l < 1 ∨ 4 < l) : treeF l T = 2 := by unfold treeF; rw [if_pos h]
theorem treeF_size {l : Int} {T : List NodeI} (h : ¬ (l < 1 ∨ 4 < l)) (h2 : T.length < 1 ∨ 60 < T.length) : treeF l T = 1 := by unfold treeF; rw [if_neg h, if_pos h2]
theorem treeF_at {l : Int} {T : List NodeI} {k : Nat} {c : Int} {s : Nat → Bool} (h : ¬ (l < 1 ∨ 4 < l)) (h2 : ¬ (T.length < 1 ∨ 60 < T.length)) (hk : k < T.length) (h0 : (scanF l T k).1 = 0) (hc : nodeF l k (scanF l T k).2 (T.getD k no0) = (c, s)) (h3 : c ≠ 0) : treeF l T = c := by
  have h4 : scanF l T (k + 1) = (c, s) := by rw [scanF, if_pos h0, hc]
  have h5 : scanF l T T.length = (c, s) := by rw [scanF_stay (k := k + 1) (by omega) (by rw [h4]; exact h3), h4]
  unfold treeF
  rw [if_neg h, if_neg h2, h5, if_neg h3]
theorem treeF_end {l : Int} {T : List NodeI} (h : ¬ (l < 1 ∨ 4 < l)) (h2 : ¬ (T.length < 1 ∨ 60 < T.length)) (h0 : (scanF l T T.length).1 = 0) : treeF l T = if allTaken (scanF l T T.length).2 (T.length - 1) = true then 0 else 3 := by
  unfold treeF; rw [if_neg h, if_neg h2, if_pos h0]
/-- A node whose children lie ahead of it. -/
def NodeOk (l : Int) (i : Nat) (n : NodeI) : Prop := (0 ≤ n.1 ∧ n.1 < l) ∧ ((n.2.1 = -1 ∧ n.2.2 = -1) ∨ ((0 ≤ n.2.1 ∧ n.2.1 < i) ∧ (0 ≤ n.2.2 ∧ n.2.2 < i)))
theorem canTake_in {i : Nat} {s : Nat → Bool} {c : Int} (h : canTake i s c = true) : 0 ≤ c ∧ c < i := by
  unfold canTake at h
  rw [Bool.and_eq_true, decide_eq_true_iff] at h
  exact h.1
theorem nodeF_ok {l : Int} {i : Nat} {s : Nat → Bool} {n : NodeI} (h : (nodeF l i s n).1 = 0) : NodeOk l i n := by
  unfold nodeF at h
  split at h
  · cases h
  · next h1 =>
    split at h
    · next h2 => exact ⟨by omega, .inl h2⟩
    · split at h
      · cases h
      · next h3 =>
        split at h
        · cases h
        · next h4 =>
          have a := canTake_in (by simpa using h3)
          have b := canTake_in (by simpa using h4)
          exact ⟨by omega, .inr ⟨a, b⟩⟩
theorem scanF_ok {l : Int} {T : List NodeI} {k : Nat} (h : (scanF l T k).1 = 0) : ∀ i, i < k → NodeOk l i (T.getD i no0) := by
  induction k with
  | zero => intro i hi; omega
  | succ k ih =>
    rw [scanF] at h
    split at h
    · next h0 =>
      intro i hi
      by_cases e : i = k
      · subst e; exact nodeF_ok h
      · exact ih h0 i (by omega)
    · next h0 => exact absurd h h0
structure GoodNd (l : Int) (T : List NodeI) : Prop where
  l1 : 1 ≤ l
  l4 : l ≤ 4
  n1 : 1 ≤ T.length
  n6 : T.length ≤ 60
  ok : ∀ i, i < T.length → NodeOk l i (T.getD i no0)
theorem goodNd_of_tree {l : Int} {T : List NodeI} (h : treeF l T = 0) : GoodNd l T := by
  unfold treeF at h
  split at h
  · cases h
  · next h1 =>
    split at h
    · cases h
    · next h2 =>
      split at h
      · next h3 => exact ⟨by omega, by omega, by omega, by omega, scanF_ok h3⟩
      · next h3 => exact absurd h h3

/-- A rule fits a node whose children can be given these states. -/
def hitB (acc : Nat → Nat → Bool) (n : NodeI) (r : RuleI) : Bool :=
  (r.1 == n.1) && ((n.2.1 == -1 && r.2.1 == -1) || (!(n.2.1 == -1) && !(r.2.1 == -1) && (acc n.2.1.toNat r.2.1.toNat && acc n.2.2.toNat r.2.2.1.toNat)))
def ownB (acc : Nat → Nat → Bool) (n : NodeI) (R : List RuleI) (k q : Nat) : Bool := (R.take k).any fun r => hitB acc n r && r.2.2.2 == (q : Int)
def tabB (R : List RuleI) (T : List NodeI) : Nat → Nat → Nat → Bool
  | 0 => fun _ _ => false
  | k + 1 => fun i q => if i = k then ownB (tabB R T k) (T.getD k no0) R R.length q else tabB R T k i q
theorem tabB_stay {R : List RuleI} {T : List NodeI} {k m i : Nat} (hk : k ≤ m) (hi : i < k) : tabB R T m i = tabB R T k i := by
  induction m with
  | zero => omega
  | succ m ih =>
    by_cases e : k = m + 1
    · rw [e]
    · have := ih (by omega)
      funext q
      rw [tabB]
      show (if i = m then _ else tabB R T m i q) = _
      rw [if_neg (by omega), this]
/-- The states that a node can be given. -/
def givB (R : List RuleI) (T : List NodeI) : Nat → Nat → Bool := tabB R T T.length
theorem hitB_congr {acc acc' : Nat → Nat → Bool} {l : Int} {i : Nat} {n : NodeI} (hn : NodeOk l i n) (h : ∀ j, j < i → acc j = acc' j) (r : RuleI) : hitB acc n r = hitB acc' n r := by
  unfold hitB
  rcases hn.2 with ⟨e, _⟩ | ⟨a, b⟩
  · simp [e]
  · rw [h n.2.1.toNat (by omega), h n.2.2.toNat (by omega)]
theorem givB_row {R : List RuleI} {T : List NodeI} {l : Int} (hT : ∀ i, i < T.length → NodeOk l i (T.getD i no0)) {k : Nat} (hk : k < T.length) (q : Nat) : givB R T k q = ownB (givB R T) (T.getD k no0) R R.length q := by
  unfold givB
  rw [tabB_stay (k := k + 1) (by omega) (by omega), tabB]
  show (if k = k then _ else _) = _
  rw [if_pos rfl]
  unfold ownB
  congr 1
  funext r
  rw [hitB_congr (hT k hk) (fun j hj => (tabB_stay (m := T.length) (Nat.le_of_lt hk) hj).symm) r]
theorem ownB_succ {acc : Nat → Nat → Bool} {n : NodeI} {R : List RuleI} {k q : Nat} (hk : k < R.length) : ownB acc n R (k + 1) q = (ownB acc n R k q || (hitB acc n (R.getD k ru0) && (R.getD k ru0).2.2.2 == (q : Int))) := by
  unfold ownB
  rw [List.take_succ_eq_append_getElem hk, List.any_append]
  simp [List.getD, hk]
theorem ownB_zero {acc : Nat → Nat → Bool} {n : NodeI} {R : List RuleI} {q : Nat} : ownB acc n R 0 q = false := by simp [ownB]
/-- Some state of the root accepts. -/
def rootB (S : Nat → Bool) (M : List Int) (k : Nat) : Bool := (List.range k).any fun q => M.getD q 0 == 1 && S q
theorem rootB_zero (S : Nat → Bool) (M : List Int) : rootB S M 0 = false := rfl
theorem rootB_succ (S : Nat → Bool) (M : List Int) (k : Nat) : rootB S M (k + 1) = (rootB S M k || (M.getD k 0 == 1 && S k)) := by simp [rootB, List.range_succ, List.any_append]
theorem rootB_hit {S : Nat → Bool} {M : List Int} {k n : Nat} (hk : k < n) (h : (M.getD k 0 == 1 && S k) = true) : rootB S M n = true := by
  unfold rootB
  rw [List.any_eq_true]
  exact ⟨k, List.mem_range.2 hk, h⟩
def accTB (x : Trs) (T : List NodeI) : Bool := rootB (givB x.R T (T.length - 1)) x.M x.M.length

end Go.Proofs.Ytnlkdihfoekjmaa
