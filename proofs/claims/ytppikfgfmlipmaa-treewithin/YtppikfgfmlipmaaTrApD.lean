/- Sizes of trees by the pairs of sets that they lead to: the reference's Apart, without the program. -/
import Derived.Test.YtppikfgfmlipmaaTrWith
namespace Go.Proofs.Ytppikfgfmlipmaa
set_option linter.unusedVariables false

def lfI (x y : Trs) (l : Nat) : Nat := nxA x.R l 1 1 / 2 + 8 * (nxA y.R l 1 1 / 2)
def ndI (x y : Trs) (l s t : Nat) : Nat := nxA x.R l (2 * (s % 8)) (2 * (t % 8)) / 2 + 8 * (nxA y.R l (2 * (s / 8)) (2 * (t / 8)) / 2)
def ixT (x y : Trs) (t : Tr3) : Nat := t.set x.R / 2 + 8 * (t.set y.R / 2)
theorem nxA_half {R : List RuleI} {L : Int} {N : Nat} (hR : InRu R L N) (hN : N ≤ 3) (l s t : Nat) : nxA R l s t = 2 * (nxA R l s t / 2) ∧ nxA R l s t / 2 < 8 := by
  have h1 : nxA R l s t < 2 ^ (N + 1) := nxS_lt hR (l := (l : Int)) (s := s) (t := t) (Nat.le_refl _)
  have h2 : 2 ^ (N + 1) ≤ 2 ^ 4 := Nat.pow_le_pow_right (by decide) (by omega)
  have h3 : (nxA R l s t).testBit 0 = false := nxA_zero hR
  rw [Nat.testBit_zero, decide_eq_false_iff_not] at h3
  omega
theorem set_half {R : List RuleI} {L : Int} {N : Nat} (hR : InRu R L N) (hN : N ≤ 3) (t : Tr3) : t.set R = 2 * (t.set R / 2) ∧ t.set R / 2 < 8 := by
  cases t with
  | lf l => exact nxA_half hR hN l 1 1
  | nd l a b => exact nxA_half hR hN l _ _
section
variable {x y : Trs} {L N N' : Nat}
theorem ixT_lf (l : Nat) : ixT x y (.lf l) = lfI x y l := rfl
theorem ixT_dec (hx : InRu x.R L N) (hy : InRu y.R L N') (hN : N ≤ 3) (hN' : N' ≤ 3) (t : Tr3) : ixT x y t < 64 ∧ 2 * (ixT x y t % 8) = t.set x.R ∧ 2 * (ixT x y t / 8) = t.set y.R := by
  have h1 := set_half hx hN t
  have h2 := set_half hy hN' t
  unfold ixT
  omega
theorem ixT_nd (hx : InRu x.R L N) (hy : InRu y.R L N') (hN : N ≤ 3) (hN' : N' ≤ 3) (l : Nat) (a b : Tr3) : ixT x y (.nd l a b) = ndI x y l (ixT x y a) (ixT x y b) := by
  obtain ⟨_, a1, a2⟩ := ixT_dec hx hy hN hN' a
  obtain ⟨_, b1, b2⟩ := ixT_dec hx hy hN hN' b
  unfold ndI
  rw [a1, a2, b1, b2]
  rfl
/-- While it goes: a number that is there is some tree's. -/
def ApI (x y : Trs) (L : Nat) (G : Nat → Nat) : Prop := ∀ s, G s ≠ 0 → ∃ t : Tr3, t.ok L ∧ ixT x y t = s ∧ G s = min t.size 1000
/-- At rest. -/
def ApF (x y : Trs) (L : Nat) (G : Nat → Nat) : Prop := (∀ l, l < L → G (lfI x y l) = 1) ∧ ∀ l s t, l < L → s < 64 → t < 64 → G s ≠ 0 → G t ≠ 0 → G (ndI x y l s t) ≠ 0 ∧ G (ndI x y l s t) ≤ min (G s + G t + 1) 1000
theorem ApI.zero : ApI x y L (fun _ => 0) := fun s h => absurd rfl h
theorem ApI.lf {G : Nat → Nat} (h : ApI x y L G) {l : Nat} (hl : l < L) : ApI x y L (fun s => if s = lfI x y l then 1 else G s) := fun s hs => by
  by_cases e : s = lfI x y l
  · exact ⟨.lf l, hl, by rw [e]; rfl, by simp [e, Tr3.size]⟩
  · simp only [e, if_false] at hs ⊢
    exact h s hs
theorem Tr3.size_pos (t : Tr3) : 1 ≤ t.size := by cases t <;> simp [Tr3.size] <;> omega
theorem ApI.nd (hx : InRu x.R L N) (hy : InRu y.R L N') (hN : N ≤ 3) (hN' : N' ≤ 3) {G : Nat → Nat} (h : ApI x y L G) {l s t : Nat} (hl : l < L) (hs : G s ≠ 0) (ht : G t ≠ 0) : ApI x y L (fun u => if u = ndI x y l s t then min (G s + G t + 1) 1000 else G u) := fun u hu => by
  by_cases e : u = ndI x y l s t
  · obtain ⟨a, a1, a2, a3⟩ := h s hs
    obtain ⟨b, b1, b2, b3⟩ := h t ht
    refine ⟨.nd l a b, ⟨hl, a1, b1⟩, by rw [ixT_nd hx hy hN hN', a2, b2, e], ?_⟩
    simp only [e, if_true, Tr3.size]
    omega
  · simp only [e, if_false] at hu ⊢
    exact h u hu
theorem ApF.all (hx : InRu x.R L N) (hy : InRu y.R L N') (hN : N ≤ 3) (hN' : N' ≤ 3) {G : Nat → Nat} (h : ApF x y L G) (t : Tr3) (ht : t.ok L) : G (ixT x y t) ≠ 0 ∧ G (ixT x y t) ≤ min t.size 1000 := by
  induction t with
  | lf l =>
    have := h.1 l ht
    rw [ixT_lf, this]
    simp [Tr3.size]
  | nd l a b iha ihb =>
    obtain ⟨hl, ha, hb⟩ := ht
    obtain ⟨a1, a2⟩ := iha ha
    obtain ⟨b1, b2⟩ := ihb hb
    have := h.2 l _ _ hl (ixT_dec hx hy hN hN' a).1 (ixT_dec hx hy hN hN' b).1 a1 b1
    rw [ixT_nd hx hy hN hN']
    refine ⟨this.1, Nat.le_trans this.2 ?_⟩
    simp only [Tr3.size]
    omega
/-- A pair of sets that the one accepts and the other does not. -/
def sepB (x y : Trs) (s : Nat) : Bool := mkS x.M (2 * (s % 8)) x.M.length && !mkS y.M (2 * (s / 8)) y.M.length
def ApartIs (x y : Trs) (L r : Nat) : Prop := (r = 0 ∧ ∀ t, ¬ Sep x y L t) ∨ (r ≠ 0 ∧ (∃ t, Sep x y L t ∧ r = min t.size 1000) ∧ ∀ t, Sep x y L t → r ≤ min t.size 1000)
/-- The least so far. -/
def LeastI (x y : Trs) (G : Nat → Nat) (k r : Nat) : Prop := (r ≠ 0 → ∃ s, s < k ∧ G s ≠ 0 ∧ sepB x y s = true ∧ r = G s) ∧ ∀ s, s < k → G s ≠ 0 → sepB x y s = true → r ≠ 0 ∧ r ≤ G s
theorem LeastI.done (hx : InRu x.R L N) (hy : InRu y.R L N') (hN : N ≤ 3) (hN' : N' ≤ 3) {G : Nat → Nat} {r : Nat} (h1 : ApI x y L G) (h2 : ApF x y L G) (h : LeastI x y G 64 r) : ApartIs x y L r := by
  have key : ∀ t : Tr3, Sep x y L t → r ≠ 0 ∧ r ≤ min t.size 1000 := fun t ⟨a, b, c⟩ => by
    obtain ⟨d1, d2, d3⟩ := ixT_dec hx hy hN hN' t
    obtain ⟨e1, e2⟩ := h2.all hx hy hN hN' t a
    obtain ⟨f1, f2⟩ := h.2 _ d1 e1 (by unfold sepB; rw [d2, d3, b, c]; rfl)
    exact ⟨f1, Nat.le_trans f2 e2⟩
  by_cases hr : r = 0
  · exact .inl ⟨hr, fun t ht => (key t ht).1 hr⟩
  · refine .inr ⟨hr, ?_, fun t ht => (key t ht).2⟩
    obtain ⟨s, s1, s2, s3, s4⟩ := h.1 hr
    obtain ⟨t, t1, t2, t3⟩ := h1 s s2
    obtain ⟨d1, d2, d3⟩ := ixT_dec hx hy hN hN' t
    unfold sepB at s3
    rw [← t2, d2, d3, Bool.and_eq_true, Bool.not_eq_true'] at s3
    exact ⟨t, ⟨t1, s3.1, s3.2⟩, by rw [s4, t3]⟩
end

end Go.Proofs.Ytppikfgfmlipmaa
