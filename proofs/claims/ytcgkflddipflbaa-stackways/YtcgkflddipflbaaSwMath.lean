/- What Way and Before tell of the same goal, and what is near. No program is in it but what the edges' makers say. -/
import Derived.Test.YtcgkflddipflbaaSgWayE
namespace Go.Proofs.Ytcgkflddipflbaa
set_option linter.unusedVariables false

theorem tow_fin {L : List Psh} {gN : Nat} {gz : List Int} {E : Edg} (hE : Top E) (hT : TowP L gN gz E) (hG : GoodSk L) {cN : Nat} (hc : cN < 6) (zs : List Int) {t : Nat} (ht : t < 6) : readC E cN zs t < 2002 ↔ PthR (LeastD L gN gz) cN zs t := by
  obtain ⟨hM, hC, hS, hg, _⟩ := hT
  refine (readC_fin hE hc zs ht).trans ⟨PthR.mono hS zs, PthR.mono (fun f s t h => ?_) zs⟩
  refine h (fun f s t => E f s t < 2002) (fun k hk => ?_) (closed_closX hE hC fun i hi => ?_)
  · show E _ _ _ < 2002
    rw [hg k hk]; omega
  · obtain ⟨_, _, h3, _⟩ := hG.num i hi
    have := (oneSk_iff _).1 h3
    omega
/-- Two makers of edges for one goal tell the same. -/
theorem tow_one {L : List Psh} {gN : Nat} {gz : List Int} {E E' : Edg} (hE : Top E) (hT : TowP L gN gz E) (hE' : Top E') (hT' : TowP L gN gz E') (hG : GoodSk L) {cN : Nat} (hc : cN < 6) (zs : List Int) {t : Nat} (ht : t < 6) : readC E cN zs t < 2002 ↔ readC E' cN zs t < 2002 := (tow_fin hE hT hG hc zs ht).trans (tow_fin hE' hT' hG hc zs ht).symm
theorem sum_zero_l {x : Nat} (hx : x ≤ 2002) : sumC 0 x = x := by unfold sumC; split <;> omega
/-- By one edge. -/
theorem read_one {E : Edg} (hE : Top E) {f m : Nat} (hf : f < 6) (z : Int) (zs : List Int) (t : Nat) : readC E f (z :: zs) t ≤ sumC (E f z.toNat m) (readC E m zs t) := by
  have h1 : readC E f (z :: zs) t = readsC E (byC E (row0 f) z) zs t := by unfold readC; rw [readsC_cons]
  have h2 := reads_upper hE (row := byC E (row0 f) z) (fun k => byC_top E (row0 f) z k) m zs t
  have h3 : byC E (row0 f) z m ≤ E f z.toNat m := by
    have h4 := minF_le (g := fun g => sumC (row0 f g) (E g z.toNat m)) hf
    have h5 : sumC (row0 f f) (E f z.toNat m) = E f z.toNat m := by
      have : row0 f f = 0 := by unfold row0; rw [if_pos rfl]
      rw [this]
      exact sum_zero_l (hE _ _ _)
    unfold byC
    omega
  rw [h1]
  exact Nat.le_trans h2 (sumC_mono h3 (Nat.le_refl _) (hE _ _ _) (readC_top _ _ _ _))
/-- The goal itself costs nothing. -/
theorem read_goal {E : Edg} (hE : Top E) {c : Nat} {gz : List Int} (hc : c < 3) (hl : gz.length ≤ 3) (hg : ∀ j, j < gz.length → E (behC c j) (gz.getD j 0).toNat (behC c (j + 1)) = 0) : ∀ n j, n + j = gz.length → readC E (behC c j) (gz.drop j) (behC c gz.length) = 0 := by
  intro n
  induction n with
  | zero =>
    intro j hj
    have e : j = gz.length := by omega
    subst e
    rw [List.drop_length]
    unfold readC
    rw [readsC_nil]
    unfold row0
    rw [if_pos rfl]
  | succ n ih =>
    intro j hj
    have hjl : j < gz.length := by omega
    have e1 : gz.drop j = gz.getD j 0 :: gz.drop (j + 1) := by
      rw [List.drop_eq_getElem_cons hjl]
      simp [List.getD, hjl]
    have h1 := ih (j + 1) (by omega)
    have hb : behC c j < 6 := by unfold behC; split <;> omega
    have h2 := read_one hE (m := behC c (j + 1)) hb (gz.getD j 0) (gz.drop (j + 1)) (behC c gz.length)
    rw [hg j hjl, h1] at h2
    rw [e1]
    have h3 : sumC 0 0 = 0 := by decide
    omega
/-- What a few rules lead to costs no more. -/
theorem near_cost {L : List Psh} {gN : Nat} {gz : List Int} {E : Edg} (hE : Top E) (hT : TowP L gN gz E) (hG : GoodSk L) (hgN : gN < 3) (hl : gz.length ≤ 3) : ∀ (rs : List Int) (c : Cfg), rs.length ≤ 1000 → RunsTo L rs c ((gN : Int), gz) → readC E c.1.toNat c.2 (behC gN gz.length) ≤ rs.length
  | [], c, _, h => by
    have e : c = ((gN : Int), gz) := h
    subst e
    have h1 := read_goal hE hgN hl hT.2.2.2.1 gz.length 0 (by omega)
    have e2 : behC gN 0 = gN := by unfold behC; rw [if_pos rfl]
    rw [e2] at h1
    simp only [List.drop_zero] at h1
    simp only [Int.toNat_natCast, List.length_nil]
    omega
  | r :: rs, c, hlen, h => by
    obtain ⟨h0, hr, hcan, hrun⟩ := h
    have h1 := near_cost hE hT hG hgN hl rs (behSk (L.getD r.toNat pu0) c) (by simp at hlen; omega) hrun
    obtain ⟨c1, c2, c3⟩ := hcan
    have hF := (oneSk_iff _).1 (hG.num r.toNat hr).1
    have ht : behC gN gz.length < 6 := by unfold behC; split <;> omega
    have h2 := cost_step hE hT.2.1 (k := rs.length) hr (by omega) ht (zs := c.2.drop 1) h1 (by simp at hlen; omega)
    have e1 : c.2 = (L.getD r.toNat pu0).T :: c.2.drop 1 := by
      rw [← c3]
      cases hc2 : c.2 with
      | nil => rw [hc2] at c2; simp at c2
      | cons z zs => simp [List.getD]
    rw [c1, e1]
    simp only [List.length_cons]
    omega

end Go.Proofs.Ytcgkflddipflbaa
