/- What the nodes of the reference's list mean, and there for each. -/
import Derived.Test.YtnhjkgfgbebfkaaZSrch
import Derived.Test.YtnhjkgfgbebfkaaQBase
namespace Go.Proofs.Ytnhjkgfgbebfkaa
open Go.RowKit Go.Shelf
set_option linter.unusedVariables false
set_option linter.unusedSimpArgs false

theorem MeansN.one {ps : List NodR} {k : Nat} {f : Fm} (h : MeansN ps k f) : ∀ {g : Fm}, MeansN ps k g → f = g := by
  induction h with
  | leaf k c h hc =>
    intro g hg
    cases hg with
    | leaf _ c' h' hc' => rw [h] at h'; cases h'; rfl
    | un _ c' x f h' hc' => rw [h] at h'; cases h'; omega
    | bi _ c' x y f g h' hc' => rw [h] at h'; cases h'; omega
  | un k c x f h hc hx hf ih =>
    intro g hg
    cases hg with
    | leaf _ c' h' hc' => rw [h] at h'; cases h'; omega
    | un _ c' x' f' h' hc' hx' hf' => rw [h] at h'; cases h'; rw [ih hf']
    | bi _ c' x y f g h' hc' => rw [h] at h'; cases h'; omega
  | bi k c x y f f2 h hc hx hy hf hg ih1 ih2 =>
    intro g hg
    cases hg with
    | leaf _ c' h' hc' => rw [h] at h'; cases h'; omega
    | un _ c' x' f' h' hc' hx' hf' => rw [h] at h'; cases h'; omega
    | bi _ c' x' y' f' g' h' hc' hx' hy' hf' hg' => rw [h] at h'; cases h'; rw [ih1 hf', ih2 hg']

theorem DoesR.congr {us vs : List Int} {lt : Nat → Nat} {c x y k : Nat} {S : Nat → Nat → Bool} {V V' : Nat → Bool} (h : DoesR us vs lt c x y k S V) (e : ∀ i, i < us.length + vs.length → 0 < vs.length → V i = V' i) : DoesR us vs lt c x y k S V' := by
  intro W g N cap i aS ah al cs ch cl hu hv h1 h2 h0 hi
  rw [← e i hi h0]
  exact h W g N cap i aS ah al cs ch cl hu hv h1 h2 h0 hi

theorem semT_one (n t : Nat) (lt : Nat → Nat) : semT n t lt (.node 1 .nil .nil) = fun _ => true := by funext i; simp [semT]
theorem semT_zero (n t : Nat) (lt : Nat → Nat) : semT n t lt (.node 0 .nil .nil) = fun _ => false := by funext i; simp [semT]
theorem semT_not (n t : Nat) (lt : Nat → Nat) (a : Tr) : semT n t lt (.node 4 a .nil) = fun i => !semT n t lt a i := by funext i; simp [semT]
theorem semT_til (n t : Nat) (lt : Nat → Nat) (a b : Tr) : semT n t lt (.node 8 a b) = cmB n t (semT n t lt a) (semT n t lt b) := by funext i; simp [semT]

/-- What each node says; and there says it. -/
theorem mean_all (us vs : List Int) (lt : Nat → Nat) (ps : List NodR) (hA : AllN ps) : ∃ S : Nat → Nat → Bool,
    (∀ j f, MeansN ps j f → S j = semT (us.length + vs.length) us.length lt (trOf f)) ∧ ∀ k c x y, ps[k]? = some (c, x, y) → DoesR us vs lt c x y k S (S k) := by
  classical
  have key : ∀ j, ∃ s : Nat → Bool, ∀ f, MeansN ps j f → s = semT (us.length + vs.length) us.length lt (trOf f) := fun j => by
    by_cases h : ∃ f, MeansN ps j f
    · obtain ⟨f, hf⟩ := h
      exact ⟨semT (us.length + vs.length) us.length lt (trOf f), fun g hg => by rw [hf.one hg]⟩
    · exact ⟨fun _ => false, fun f hf => absurd ⟨f, hf⟩ h⟩
  refine ⟨fun j => Classical.choose (key j), fun j f hf => Classical.choose_spec (key j) f hf, ?_⟩
  have hS : ∀ j f, MeansN ps j f → (fun j => Classical.choose (key j)) j = semT (us.length + vs.length) us.length lt (trOf f) := fun j f hf => Classical.choose_spec (key j) f hf
  generalize (fun j => Classical.choose (key j)) = S at hS ⊢
  intro k c x y hk
  obtain ⟨f, hf⟩ := hA k (List.getElem?_eq_some_iff.1 hk).1
  rw [hS k f hf]
  cases hf with
  | leaf _ c' h' hc' =>
    rw [hk] at h'; cases h'
    rcases hc' with rfl | rfl | rfl | rfl
    · exact (there_p us vs lt k S).congr fun i _ _ => by simp [lfF, trOf, semT]
    · exact (there_q us vs lt k S).congr fun i _ _ => by simp [lfF, trOf, semT]
    · exact (there_zero us vs lt k S).congr fun i _ _ => by simp [lfF, trOf, semT]
    · exact (there_one us vs lt k S).congr fun i _ _ => by simp [lfF, trOf, semT]
  | un _ c' x' f' h' hc' hx' hf' =>
    rw [hk] at h'; cases h'
    have e := hS x f' hf'
    rcases hc' with rfl | rfl | rfl | rfl
    · exact (there_not us vs lt k S x hx').congr fun i _ _ => by simp [unF, trOf, semT, e]
    · exact (there_next us vs lt k S x hx').congr fun i _ _ => by simp [unF, trOf, semT, e]
    · refine (there_ev us vs lt k S x hx').congr fun i hi h0 => ?_
      show srch _ _ _ _ _ _ = semT _ _ _ (.node 8 (.node 1 .nil .nil) (trOf f')) i
      rw [semT_til, semT_one, cmB_srch (by omega) _ _ hi, e]
    · refine (there_glob us vs lt k S x hx').congr fun i hi h0 => ?_
      show (!srch _ _ _ _ _ _) = semT _ _ _ (.node 4 (.node 8 (.node 4 (.node 0 .nil .nil) .nil) (.node 4 (trOf f') .nil)) .nil) i
      rw [semT_not, semT_til, semT_not, semT_not, semT_zero]
      simp only []
      rw [cmB_srch (by omega) _ _ hi, e]
      rfl
  | bi _ c' x' y' f' g' h' hc' hx' hy' hf' hg' =>
    rw [hk] at h'; cases h'
    have e := hS x f' hf'
    have e2 := hS y g' hg'
    rcases hc' with rfl | rfl | rfl | rfl
    · exact (there_and us vs lt k S x y hx' hy').congr fun i _ _ => by simp [conF, trOf, semT, e, e2]
    · exact (there_or us vs lt k S x y hx' hy').congr fun i _ _ => by simp [conF, trOf, semT, e, e2]
    · refine (there_til us vs lt k S x y hx' hy').congr fun i hi h0 => ?_
      show srch _ _ _ _ _ _ = semT _ _ _ (.node 8 (trOf f') (trOf g')) i
      rw [semT_til, cmB_srch (by omega) _ _ hi, e, e2]
    · refine (there_rel us vs lt k S x y hx' hy').congr fun i hi h0 => ?_
      show (!srch _ _ _ _ _ _) = semT _ _ _ (.node 4 (.node 8 (.node 4 (trOf f') .nil) (.node 4 (trOf g') .nil)) .nil) i
      rw [semT_not, semT_til, semT_not, semT_not]
      simp only []
      rw [cmB_srch (by omega) _ _ hi, e, e2]

/-- The nodes lie in a block. -/
def ListN (W : World) (g : Nat) (ps : List NodR) : Prop := ∀ k p, ps[k]? = some p → W.cell? ⟨g, k * 3, none⟩ = some (.int .u8 (p.1 : Int)) ∧ W.cell? ⟨g, k * 3 + 1, none⟩ = some (.int .i64 (p.2.1 : Int)) ∧ W.cell? ⟨g, k * 3 + 2, none⟩ = some (.int .i64 (p.2.2 : Int))
theorem ListN.kept {W W' : World} {g : Nat} {ps : List NodR} (h : ListN W g ps) (hg : W.grownBy W' none) : ListN W' g ps := fun k p hk => by
  obtain ⟨h0, h1, h2⟩ := h k p hk
  exact ⟨hg.cell h0 (by simp), hg.cell h1 (by simp), hg.cell h2 (by simp)⟩
theorem flatN_get : ∀ (ps : List NodR) (k : Nat) (p : NodR), ps[k]? = some p → (flatN ps)[k * 3]? = some (.int .u8 (p.1 : Int)) ∧ (flatN ps)[k * 3 + 1]? = some (.int .i64 (p.2.1 : Int)) ∧ (flatN ps)[k * 3 + 2]? = some (.int .i64 (p.2.2 : Int)) := by
  intro ps
  induction ps with
  | nil => intro k p h; simp at h
  | cons x ps ih =>
    intro k p h
    have e : flatN (x :: ps) = .int .u8 (x.1 : Int) :: .int .i64 (x.2.1 : Int) :: .int .i64 (x.2.2 : Int) :: flatN ps := by simp [flatN]
    rw [e]
    cases k with
    | zero => simp at h; subst h; simp
    | succ k =>
      simp only [List.getElem?_cons_succ] at h
      have := ih k p h
      rw [show (k + 1) * 3 = k * 3 + 3 by omega]
      simpa using this
theorem listN_of {W : World} {b : Nat} {v : Value} {ps : List NodR} (h : NodsAt W b v ps) (hn : 0 < ps.length) : ∃ g cap, v = .slice (some ⟨g, 0, none⟩) ps.length cap ∧ ListN W g ps := by
  obtain ⟨g, cap, rfl, _, _⟩ := World.ownsRow.form h hn
  refine ⟨g, cap, rfl, fun k p hk => ?_⟩
  have hlt : k < ps.length := (List.getElem?_eq_some_iff.1 hk).1
  obtain ⟨h0, h1, h2⟩ := flatN_get ps k p hk
  exact ⟨by rw [World.ownsRow.cellAt h _ (by omega)]; exact h0, by rw [World.ownsRow.cellAt h _ (by omega)]; exact h1, by rw [World.ownsRow.cellAt h _ (by omega)]; exact h2⟩

end Go.Proofs.Ytnhjkgfgbebfkaa
