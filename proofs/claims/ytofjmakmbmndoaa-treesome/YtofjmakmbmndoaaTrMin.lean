/- The least trees of states, without the program: how many nodes they have, how they are found, how one is grown. -/
import Derived.Test.YtofjmakmbmndoaaTrSpec
namespace Go.Proofs.Ytofjmakmbmndoaa
set_option linter.unusedVariables false

/-- Some tree with so many nodes can be given a state. -/
inductive Der (R : List RuleI) : Int → Nat → Prop
  | leaf (r : RuleI) (hr : r ∈ R) (h : r.2.1 = -1) : Der R r.2.2.2 1
  | node (r : RuleI) (hr : r ∈ R) (h : r.2.1 ≠ -1) (a b : Nat) (ha : Der R r.2.1 a) (hb : Der R r.2.2.1 b) : Der R r.2.2.2 (1 + a + b)
theorem Der.pos {R : List RuleI} {q : Int} {m : Nat} (h : Der R q m) : 1 ≤ m := by cases h <;> omega
theorem mem_getD {R : List RuleI} {k : Nat} (hk : k < R.length) : R.getD k ru0 ∈ R := by simp [List.getD, hk]
theorem getD_mem {R : List RuleI} {r : RuleI} (h : r ∈ R) : ∃ k, k < R.length ∧ R.getD k ru0 = r := by
  obtain ⟨k, hk, e⟩ := List.mem_iff_getElem.1 h
  exact ⟨k, hk, by simp [List.getD, hk, e]⟩
theorem InRu.mem {R : List RuleI} {l n : Int} (h : InRu R l n) {r : RuleI} (hr : r ∈ R) : RuIn l n r := by
  obtain ⟨k, hk, e⟩ := getD_mem hr
  rw [← e]; exact h k hk

def plc (q : Int) : Nat := (q + 1).toNat
theorem plc_nat (q : Nat) : plc (q : Int) = q + 1 := by unfold plc; omega
theorem plc_none : plc (-1) = 0 := rfl
/-- How many nodes a rule makes of its children's. -/
def ndsF (F : Nat → Nat) (r : RuleI) : Nat := if F (plc r.2.1) = 62 ∨ F (plc r.2.2.1) = 62 then 62 else min (1 + F (plc r.2.1) + F (plc r.2.2.1)) 61
theorem ndsF_le (F : Nat → Nat) (r : RuleI) : ndsF F r ≤ 62 := by unfold ndsF; split <;> omega
theorem ndsF_mono {F G : Nat → Nat} (h : ∀ p, G p ≤ F p) (hF : ∀ p, F p ≤ 62) (r : RuleI) : ndsF G r ≤ ndsF F r := by
  unfold ndsF
  have a := h (plc r.2.1)
  have b := h (plc r.2.2.1)
  have c := hF (plc r.2.1)
  have d := hF (plc r.2.2.1)
  split <;> split <;> omega
/-- What holds of the seeds while rules are looked at. -/
structure SeedI (R : List RuleI) (F : Nat → Nat) (ρ : Nat → RuleI) : Prop where
  zero : F 0 = 0
  le : ∀ p, F p ≤ 62
  by' : ∀ p, 1 ≤ p → F p < 62 → ρ p ∈ R ∧ plc (ρ p).2.2.2 = p ∧ ndsF F (ρ p) ≤ F p
  ex : ∀ q : Int, 0 ≤ q → F (plc q) < 62 → ∃ m, Der R q m
def updF {α : Type} (F : Nat → α) (p : Nat) (v : α) : Nat → α := fun i => if i = p then v else F i
theorem SeedI.start (R : List RuleI) (F : Nat → Nat) (ρ : Nat → RuleI) (h0 : F 0 = 0) (h : ∀ p, 1 ≤ p → F p = 62) : SeedI R F ρ :=
  ⟨h0, fun p => by by_cases e : 1 ≤ p
                   · rw [h p e]; omega
                   · obtain rfl : p = 0 := by omega
                     omega, fun p hp hlt => by rw [h p hp] at hlt; omega, fun q hq hlt => by rw [h (plc q) (by unfold plc; omega)] at hlt; omega⟩
theorem SeedI.put {R : List RuleI} {L : Int} {n : Int} (hR : InRu R L n) {F : Nat → Nat} {ρ : Nat → RuleI} (h : SeedI R F ρ) {r : RuleI} (hr : r ∈ R) (hp : 1 ≤ plc r.2.2.2) (hlt : ndsF F r < F (plc r.2.2.2)) : SeedI R (updF F (plc r.2.2.2) (ndsF F r)) (updF ρ (plc r.2.2.2) r) := by
  have hle : ∀ p, updF F (plc r.2.2.2) (ndsF F r) p ≤ F p := fun p => by
    unfold updF
    split
    · next e => subst e; omega
    · omega
  refine ⟨?_, fun p => Nat.le_trans (hle p) (h.le p), fun p hp1 hp2 => ?_, fun q hq hlt2 => ?_⟩
  · unfold updF; rw [if_neg (by omega)]; exact h.zero
  · by_cases e : p = plc r.2.2.2
    · subst e
      simp only [updF, if_pos]
      exact ⟨hr, trivial, ndsF_mono hle h.le r⟩
    · simp only [updF, if_neg e] at hp2 ⊢
      obtain ⟨h1, h2, h3⟩ := h.by' p hp1 hp2
      exact ⟨h1, h2, Nat.le_trans (ndsF_mono hle h.le _) h3⟩
  · by_cases e : plc q = plc r.2.2.2
    · have hin := hR.mem hr
      unfold RuIn at hin
      have e2 : r.2.2.2 = q := by unfold plc at e; omega
      have h62 : ndsF F r < 62 := by have := h.le (plc r.2.2.2); omega
      rw [← e2]
      by_cases el : r.2.1 = -1
      · exact ⟨1, .leaf r hr el⟩
      · unfold ndsF at h62
        split at h62
        · omega
        · next hne =>
          have a1 := h.le (plc r.2.1)
          have a2 := h.le (plc r.2.2.1)
          obtain ⟨m1, d1⟩ := h.ex r.2.1 (by omega) (by omega)
          obtain ⟨m2, d2⟩ := h.ex r.2.2.1 (by omega) (by omega)
          exact ⟨_, .node r hr el m1 m2 d1 d2⟩
    · simp only [updF, if_neg e] at hlt2
      exact h.ex q hq hlt2
/-- No rule makes a tree smaller. -/
def Fixed (R : List RuleI) (F : Nat → Nat) : Prop := ∀ r, r ∈ R → F (plc r.2.2.2) ≤ ndsF F r
theorem fixed_le {R : List RuleI} {l n : Int} (hR : InRu R l n) {F : Nat → Nat} (h0 : F 0 = 0) (hF : Fixed R F) {q : Int} {m : Nat} (h : Der R q m) : F (plc q) ≤ min m 61 := by
  induction h with
  | leaf r hr hl =>
    have hin := hR.mem hr
    unfold RuIn at hin
    have h2 : r.2.2.1 = -1 := by omega
    have := hF r hr
    unfold ndsF at this
    rw [hl, h2, plc_none, h0] at this
    simpa using this
  | node r hr hl a b ha hb iha ihb =>
    have := hF r hr
    unfold ndsF at this
    rw [if_neg (by omega)] at this
    omega
theorem fixed_der {R : List RuleI} {l n : Int} (hR : InRu R l n) {F : Nat → Nat} {ρ : Nat → RuleI} (hI : SeedI R F ρ) (hF : Fixed R F) : ∀ v q, 0 ≤ q → F (plc q) = v → v ≤ 60 → Der R q v ∧ ρ (plc q) ∈ R ∧ (ρ (plc q)).2.2.2 = q ∧ 1 + F (plc (ρ (plc q)).2.1) + F (plc (ρ (plc q)).2.2.1) = v := by
  intro v
  induction v using Nat.strongRecOn with
  | ind v ih =>
    intro q hq he hv
    have hp : 1 ≤ plc q := by unfold plc; omega
    obtain ⟨h1, h2, h3⟩ := hI.by' (plc q) hp (by omega)
    have h4 := hF _ h1
    rw [h2] at h4
    have h5 : ndsF F (ρ (plc q)) = v := by omega
    have hin := hR.mem h1
    generalize ρ (plc q) = r at *
    have ht : r.2.2.2 = q := by
      unfold plc at h2
      unfold RuIn at hin
      omega
    have h6 : 1 + F (plc r.2.1) + F (plc r.2.2.1) = v := by
      unfold ndsF at h5
      split at h5 <;> omega
    refine ⟨?_, h1, ht, h6⟩
    unfold RuIn at hin
    by_cases e : r.2.1 = -1
    · have e2 : r.2.2.1 = -1 := by omega
      rw [e, e2, plc_none, hI.zero] at h6
      have : v = 1 := by omega
      subst this
      rw [← ht]
      exact .leaf r h1 e
    · have d1 := (ih (F (plc r.2.1)) (by omega) r.2.1 (by omega) rfl (by omega)).1
      have d2 := (ih (F (plc r.2.2.1)) (by omega) r.2.2.1 (by omega) rfl (by omega)).1
      rw [← ht, ← h6]
      exact .node r h1 e _ _ d1 d2

/-- The least tree of a state with the mark 1 has so many nodes. -/
def MinM (R : List RuleI) (M : List Int) (n : Nat) : Prop := (∃ q : Nat, q < M.length ∧ M.getD q 0 = 1 ∧ Der R q n) ∧ ∀ (q m : Nat), q < M.length → M.getD q 0 = 1 → Der R q m → n ≤ m
def NoM (R : List RuleI) (M : List Int) : Prop := ∀ (q m : Nat), q < M.length → M.getD q 0 = 1 → Der R q m → 60 < m
theorem MinM.one {R : List RuleI} {M : List Int} {n m : Nat} (h : MinM R M n) (h' : MinM R M m) : n = m := by
  obtain ⟨⟨q, a, b, c⟩, d⟩ := h
  obtain ⟨⟨q', a', b', c'⟩, d'⟩ := h'
  have := d q' m a' b' c'
  have := d' q n a b c
  omega
theorem MinM.not {R : List RuleI} {M : List Int} {n : Nat} (h : MinM R M n) (hn : n ≤ 60) (h' : NoM R M) : False := by
  obtain ⟨⟨q, a, b, c⟩, d⟩ := h
  have := h' q n a b c
  omega

/-- What the sizes tell when the trees with fewer than n nodes have been looked at. -/
def SizI (R : List RuleI) (N n : Nat) (G : Nat → Nat) : Prop := ∀ q, q < N → (G q ≠ 0 → Der R q (G q) ∧ G q < n) ∧ ∀ m, m < n → Der R q m → G q ≠ 0 ∧ G q ≤ m
/-- A rule makes a tree with n nodes. -/
def isN (G : Nat → Nat) (n : Nat) (r : RuleI) : Bool := if r.2.1 < 0 then n == 1 else (decide (0 < G r.2.1.toNat) && decide (0 < G r.2.2.1.toNat)) && (G r.2.1.toNat + G r.2.2.1.toNat + 1 == n)
def nowB (G : Nat → Nat) (n : Nat) (r : RuleI) : Bool := isN G n r && G r.2.2.2.toNat == 0
def nowL (G : Nat → Nat) (n : Nat) (R : List RuleI) (k : Nat) : List Int := ((R.take k).filter (nowB G n)).map (·.2.2.2)
theorem nowL_succ {G : Nat → Nat} {n : Nat} {R : List RuleI} {k : Nat} (hk : k < R.length) : nowL G n R (k + 1) = if nowB G n (R.getD k ru0) = true then nowL G n R k ++ [(R.getD k ru0).2.2.2] else nowL G n R k := by
  unfold nowL
  rw [List.take_succ_eq_append_getElem hk, List.filter_append, List.map_append]
  have : R.getD k ru0 = R[k] := by simp [List.getD, hk]
  rw [this]
  by_cases h : nowB G n R[k] = true
  · rw [if_pos h]; simp [h]
  · rw [if_neg h]; simp [h]
theorem isN_iff {R : List RuleI} {l : Int} {N n : Nat} {G : Nat → Nat} (hR : InRu R l N) (hS : SizI R N n G) (hn : 1 ≤ n) {r : RuleI} (hr : r ∈ R) (h : isN G n r = true) : Der R r.2.2.2 n := by
  have hin := hR.mem hr
  unfold RuIn at hin
  unfold isN at h
  split at h
  · next e =>
    have e1 : r.2.1 = -1 := by omega
    have : n = 1 := by simpa using h
    subst this
    exact .leaf r hr e1
  · next e =>
    simp only [Bool.and_eq_true, decide_eq_true_eq, beq_iff_eq] at h
    obtain ⟨⟨h1, h2⟩, h3⟩ := h
    have d1 := ((hS r.2.1.toNat (by omega)).1 (by omega)).1
    have d2 := ((hS r.2.2.1.toNat (by omega)).1 (by omega)).1
    rw [show ((r.2.1.toNat : Nat) : Int) = r.2.1 by omega] at d1
    rw [show ((r.2.2.1.toNat : Nat) : Int) = r.2.2.1 by omega] at d2
    have := Der.node r hr (by omega) _ _ d1 d2
    rwa [show 1 + G r.2.1.toNat + G r.2.2.1.toNat = n by omega] at this
theorem now_mem {R : List RuleI} {l : Int} {N n : Nat} {G : Nat → Nat} (hR : InRu R l N) (hS : SizI R N n G) (hn : 1 ≤ n) {z : Int} {k : Nat} (h : z ∈ nowL G n R k) : ∃ q : Nat, z = q ∧ q < N ∧ Der R q n ∧ G q = 0 := by
  unfold nowL at h
  obtain ⟨r, hr, rfl⟩ := List.mem_map.1 h
  obtain ⟨hr1, hr2⟩ := List.mem_filter.1 hr
  have hrR : r ∈ R := List.mem_of_mem_take hr1
  unfold nowB at hr2
  rw [Bool.and_eq_true, beq_iff_eq] at hr2
  have hin := hR.mem hrR
  unfold RuIn at hin
  have hd := isN_iff hR hS hn hrR hr2.1
  refine ⟨r.2.2.2.toNat, by omega, by omega, ?_, hr2.2⟩
  rwa [show ((r.2.2.2.toNat : Nat) : Int) = r.2.2.2 by omega]
theorem now_all {R : List RuleI} {l : Int} {N n : Nat} {G : Nat → Nat} (hR : InRu R l N) (hS : SizI R N n G) {q : Nat} (hq : q < N) (hd : Der R q n) (h0 : G q = 0) : (q : Int) ∈ nowL G n R R.length := by
  unfold nowL
  rw [List.take_length]
  generalize hz : (q : Int) = z at hd
  have key : ∃ r, r ∈ R ∧ r.2.2.2 = z ∧ isN G n r = true := by
    cases hd with
    | leaf r hr h => exact ⟨r, hr, rfl, by unfold isN; rw [if_pos (by omega)]; rfl⟩
    | node r hr h a b ha hb =>
      have hin := hR.mem hr
      unfold RuIn at hin
      obtain ⟨p, hp⟩ : ∃ p : Nat, r.2.1 = p := ⟨r.2.1.toNat, by omega⟩
      obtain ⟨s, hs⟩ : ∃ s : Nat, r.2.2.1 = s := ⟨r.2.2.1.toNat, by omega⟩
      rw [hp] at ha
      rw [hs] at hb
      obtain ⟨a1, a2⟩ := (hS p (by omega)).2 a (by omega) ha
      obtain ⟨b1, b2⟩ := (hS s (by omega)).2 b (by omega) hb
      obtain ⟨p1, _⟩ := (hS p (by omega)).1 a1
      obtain ⟨s1, _⟩ := (hS s (by omega)).1 b1
      by_cases hlt : G p + G s < a + b
      · exfalso
        have hd2 := Der.node r hr h (G p) (G s) (by rw [hp]; exact p1) (by rw [hs]; exact s1)
        rw [← hz] at hd2
        have := ((hS q hq).2 (1 + G p + G s) (by omega) hd2).1
        exact this h0
      · refine ⟨r, hr, rfl, ?_⟩
        unfold isN
        rw [if_neg (by omega), hp, hs]
        simp only [Int.toNat_natCast, Bool.and_eq_true, decide_eq_true_eq, beq_iff_eq]
        omega
  obtain ⟨r, hr, ht, hi⟩ := key
  refine List.mem_map.2 ⟨r, List.mem_filter.2 ⟨hr, ?_⟩, ht⟩
  unfold nowB
  rw [ht, ← hz, hi]
  simpa using h0
/-- The states that came up are given their size. -/
def setL (G : Nat → Nat) (n : Nat) (zs : List Int) : Nat → Nat := fun q => if G q = 0 ∧ (q : Int) ∈ zs then n else G q
theorem SizI.next {R : List RuleI} {l : Int} {N n : Nat} {G : Nat → Nat} (hR : InRu R l N) (hS : SizI R N n G) (hn : 1 ≤ n) : SizI R N (n + 1) (setL G n (nowL G n R R.length)) := by
  intro q hq
  unfold setL
  by_cases h : G q = 0 ∧ (q : Int) ∈ nowL G n R R.length
  · rw [if_pos h]
    obtain ⟨q', e, _, hd, _⟩ := now_mem hR hS hn h.2
    have : q = q' := by omega
    subst this
    refine ⟨fun _ => ⟨hd, by omega⟩, fun m hm hdm => ⟨by omega, ?_⟩⟩
    by_cases e2 : m < n
    · exact absurd h.1 ((hS q hq).2 m e2 hdm).1
    · omega
  · rw [if_neg h]
    refine ⟨fun h0 => ⟨((hS q hq).1 h0).1, by have := ((hS q hq).1 h0).2; omega⟩, fun m hm hdm => ?_⟩
    by_cases e2 : m < n
    · exact (hS q hq).2 m e2 hdm
    · obtain rfl : m = n := by omega
      by_cases e3 : G q = 0
      · exact absurd ⟨e3, now_all hR hS hq hdm e3⟩ h
      · have := ((hS q hq).1 e3).2
        exact ⟨e3, by omega⟩
theorem SizI.start (R : List RuleI) (N : Nat) : SizI R N 1 (fun _ => 0) := fun q hq => ⟨fun h => absurd rfl h, fun m hm hd => by have := hd.pos; omega⟩

end Go.Proofs.Ytofjmakmbmndoaa
