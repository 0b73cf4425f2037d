/- The texts that the law TimeLaws puts together, and what they say. No program is in it. -/
import Derived.Test.YtneialmpaiejcaaTComp
import Derived.Test.YtneialmpaiejcaaXSem
namespace Go.Proofs.Ytneialmpaiejcaa
open Go.RowKit
set_option linter.unusedVariables false
set_option linter.unusedSimpArgs false

theorem byT_left {a b : ByteArray} {i : Nat} (h : i < a.size) : byT (a ++ b) i = byT a i := by
  unfold byT
  rw [dif_pos (by rw [ByteArray.size_append]; omega), dif_pos h, ByteArray.getElem_append_left h]
theorem byT_right {a b : ByteArray} {i : Nat} (h : a.size ≤ i) : byT (a ++ b) i = byT b (i - a.size) := by
  unfold byT
  by_cases hi : i < a.size + b.size
  · rw [dif_pos (by rw [ByteArray.size_append]; omega), dif_pos (by omega), ByteArray.getElem_append_right h]
  · rw [dif_neg (by rw [ByteArray.size_append]; omega), dif_neg (by omega)]
/-- The text p stands in S from place o on. -/
structure Has (o : Nat) (p S : ByteArray) : Prop where
  fits : o + p.size ≤ S.size
  same : ∀ i, i < p.size → byT S (o + i) = byT p i
theorem Has.self (A : ByteArray) : Has 0 A A := ⟨by omega, fun i _ => by rw [Nat.zero_add]⟩
theorem Has.last (A B : ByteArray) : Has A.size B (A ++ B) := ⟨by rw [ByteArray.size_append]; omega, fun i _ => by rw [byT_right (by omega), Nat.add_sub_cancel_left]⟩
theorem Has.more {o : Nat} {p A : ByteArray} (h : Has o p A) (B : ByteArray) : Has o p (A ++ B) := ⟨by have := h.fits; rw [ByteArray.size_append]; omega, fun i hi => by have := h.fits; rw [byT_left (by omega)]; exact h.same i hi⟩
theorem Has.byte {o : Nat} {p S : ByteArray} (h : Has o p S) {i c k : Nat} (hc : byT p i = c) (hi : i < p.size) (e : k = o + i) : byT S k = c := by rw [e, h.same i hi, hc]
theorem Has.emb {o o' : Nat} {s S : ByteArray} (h : Has o s S) (e : o' = o) (y : byT S (o' + s.size) = 41) : Emb o' s S := by subst e; exact ⟨h.same, y⟩
theorem Has.form {o i j : Nat} {s S : ByteArray} {f : Fm} {js n t : Nat} (h : Has o s S) (hp : parseQ s = .good f js n t) (e : i = o) (e2 : j = o + s.size) (y : byT S j = 41) : FormIs S i j f := by
  subst e e2
  exact form_emb (h.emb rfl y) hp

theorem text_un {s A B : ByteArray} {c : Nat} {fs : Fm} {js ns ts : Nat} (zA : A.size = 2) (a0 : byT A 0 = c) (a1 : byT A 1 = 40) (zB : B.size = 1) (b0 : byT B 0 = 41) (hc : c = 33 ∨ c = 88 ∨ c = 70 ∨ c = 71) (ps : parseQ s = .good fs js ns ts) {g : Fm} {j n t : Nat} (hp : parseQ (A ++ s ++ B) = .good g j n t) : g = unF c fs := by
  have kA := ((Has.self A).more s).more B
  have kS := (Has.last A s).more B
  have kB := Has.last (A ++ s) B
  have hz : (A ++ s ++ B).size = s.size + 3 := by simp only [ByteArray.size_append, zA, zB]; omega
  rw [ByteArray.size_append] at kB
  generalize A ++ s ++ B = S at *
  rw [zA] at kS kB
  have y0 : byT S 0 = c := kA.byte a0 (by omega) (by omega)
  have y1 : byT S 1 = 40 := kA.byte a1 (by omega) (by omega)
  have y2 : byT S (2 + s.size) = 41 := kB.byte b0 (by omega) (by omega)
  have z : byT S (2 + s.size + 1) = 0 := byT_end (by omega)
  have o1 : OneIs S 1 (2 + s.size + 1) fs := one_br y1 (form_emb (kS.emb rfl y2) ps)
  have o0 : OneIs S 0 (2 + s.size + 1) (unF c fs) := one_un y0 hc o1
  exact parse_is (form_one (term_one (part_one o0 (by omega) (by omega)) (by omega)) (by omega)) hp

theorem text_two {s A B : ByteArray} {c c' : Nat} {fs : Fm} {js ns ts : Nat} (zA : A.size = 3) (a0 : byT A 0 = c) (a1 : byT A 1 = c') (a2 : byT A 2 = 40) (zB : B.size = 1) (b0 : byT B 0 = 41) (hc : c = 33 ∨ c = 88 ∨ c = 70 ∨ c = 71) (hc' : c' = 33 ∨ c' = 88 ∨ c' = 70 ∨ c' = 71) (ps : parseQ s = .good fs js ns ts) {g : Fm} {j n t : Nat} (hp : parseQ (A ++ s ++ B) = .good g j n t) : g = unF c (unF c' fs) := by
  have kA := ((Has.self A).more s).more B
  have kS := (Has.last A s).more B
  have kB := Has.last (A ++ s) B
  have hz : (A ++ s ++ B).size = s.size + 4 := by simp only [ByteArray.size_append, zA, zB]; omega
  rw [ByteArray.size_append] at kB
  generalize A ++ s ++ B = S at *
  rw [zA] at kS kB
  have y0 : byT S 0 = c := kA.byte a0 (by omega) (by omega)
  have y1 : byT S 1 = c' := kA.byte a1 (by omega) (by omega)
  have y2 : byT S 2 = 40 := kA.byte a2 (by omega) (by omega)
  have y3 : byT S (3 + s.size) = 41 := kB.byte b0 (by omega) (by omega)
  have z : byT S (3 + s.size + 1) = 0 := byT_end (by omega)
  have o2 : OneIs S 2 (3 + s.size + 1) fs := one_br y2 (form_emb (kS.emb rfl y3) ps)
  have o1 : OneIs S 1 (3 + s.size + 1) (unF c' fs) := one_un y1 hc' o2
  have o0 : OneIs S 0 (3 + s.size + 1) (unF c (unF c' fs)) := one_un y0 hc o1
  exact parse_is (form_one (term_one (part_one o0 (by omega) (by omega)) (by omega)) (by omega)) hp

theorem text_til {s t A B C : ByteArray} {fs ft : Fm} {js ns ts jt nt tt : Nat} (zA : A.size = 1) (a0 : byT A 0 = 40) (zB : B.size = 3) (b0 : byT B 0 = 41) (b1 : byT B 1 = 85) (b2 : byT B 2 = 40) (zC : C.size = 1) (c0 : byT C 0 = 41) (ps : parseQ s = .good fs js ns ts) (pt : parseQ t = .good ft jt nt tt) {g : Fm} {j n t' : Nat} (hp : parseQ (A ++ s ++ B ++ t ++ C) = .good g j n t') : g = .til fs ft := by
  have kA := ((((Has.self A).more s).more B).more t).more C
  have kS := (((Has.last A s).more B).more t).more C
  have kB := ((Has.last (A ++ s) B).more t).more C
  have kT := (Has.last (A ++ s ++ B) t).more C
  have kC := Has.last (A ++ s ++ B ++ t) C
  have hz : (A ++ s ++ B ++ t ++ C).size = s.size + t.size + 5 := by simp only [ByteArray.size_append, zA, zB, zC]; omega
  simp only [ByteArray.size_append, zA, zB] at kS kB kT kC
  generalize A ++ s ++ B ++ t ++ C = S at *
  obtain ⟨a, ha⟩ : ∃ a, a = 1 + s.size := ⟨_, rfl⟩
  obtain ⟨b, hb⟩ : ∃ b, b = a + 3 + t.size := ⟨_, rfl⟩
  have y0 : byT S 0 = 40 := kA.byte a0 (by omega) (by omega)
  have y1 : byT S a = 41 := kB.byte b0 (by omega) (by omega)
  have y2 : byT S (a + 1) = 85 := kB.byte b1 (by omega) (by omega)
  have y3 : byT S (a + 2) = 40 := kB.byte b2 (by omega) (by omega)
  have y4 : byT S b = 41 := kC.byte c0 (by omega) (by omega)
  have z : byT S (b + 1) = 0 := byT_end (by omega)
  have f1 : FormIs S 1 a fs := kS.form ps (by omega) (by omega) y1
  have f2 : FormIs S (a + 3) b ft := kT.form pt (by omega) (by omega) y4
  have o0 : OneIs S 0 (a + 1) fs := one_br y0 f1
  have o2 : OneIs S (a + 2) (b + 1) ft := one_br y3 f2
  have p2 : PartIs S (a + 2) (b + 1) ft := part_one o2 (by omega) (by omega)
  have p0 : PartIs S 0 (b + 1) (biF 85 fs ft) := part_bi o0 y2 (.inl rfl) p2
  exact parse_is (form_one (term_one p0 (by omega)) (by omega)) hp

theorem text_unfold {s t A B C D E : ByteArray} {fs ft : Fm} {js ns ts jt nt tt : Nat} (zA : A.size = 1) (a0 : byT A 0 = 40) (zB : B.size = 4) (b0 : byT B 0 = 41) (b1 : byT B 1 = 124) (b2 : byT B 2 = 40) (b3 : byT B 3 = 40)
    (zC : C.size = 5) (c0 : byT C 0 = 41) (c1 : byT C 1 = 38) (c2 : byT C 2 = 88) (c3 : byT C 3 = 40) (c4 : byT C 4 = 40) (zD : D.size = 3) (d0 : byT D 0 = 41) (d1 : byT D 1 = 85) (d2 : byT D 2 = 40) (zE : E.size = 3) (e0 : byT E 0 = 41) (e1 : byT E 1 = 41) (e2 : byT E 2 = 41)
    (ps : parseQ s = .good fs js ns ts) (pt : parseQ t = .good ft jt nt tt) {g : Fm} {j n t' : Nat} (hp : parseQ (A ++ t ++ B ++ s ++ C ++ s ++ D ++ t ++ E) = .good g j n t') : g = .or ft (.and fs (.next (.til fs ft))) := by
  have kA := ((((((((Has.self A).more t).more B).more s).more C).more s).more D).more t).more E
  have kT := (((((((Has.last A t).more B).more s).more C).more s).more D).more t).more E
  have kB := ((((((Has.last (A ++ t) B).more s).more C).more s).more D).more t).more E
  have kS := (((((Has.last (A ++ t ++ B) s).more C).more s).more D).more t).more E
  have kC := ((((Has.last (A ++ t ++ B ++ s) C).more s).more D).more t).more E
  have kU := (((Has.last (A ++ t ++ B ++ s ++ C) s).more D).more t).more E
  have kD := ((Has.last (A ++ t ++ B ++ s ++ C ++ s) D).more t).more E
  have kV := (Has.last (A ++ t ++ B ++ s ++ C ++ s ++ D) t).more E
  have kE := Has.last (A ++ t ++ B ++ s ++ C ++ s ++ D ++ t) E
  have hz : (A ++ t ++ B ++ s ++ C ++ s ++ D ++ t ++ E).size = s.size + s.size + t.size + t.size + 16 := by simp only [ByteArray.size_append, zA, zB, zC, zD, zE]; omega
  simp only [ByteArray.size_append, zA, zB, zC, zD] at kT kB kS kC kU kD kV kE
  generalize A ++ t ++ B ++ s ++ C ++ s ++ D ++ t ++ E = S at *
  obtain ⟨a, ha⟩ : ∃ a, a = 1 + t.size := ⟨_, rfl⟩
  obtain ⟨b, hb⟩ : ∃ b, b = a + 4 + s.size := ⟨_, rfl⟩
  obtain ⟨c, hc⟩ : ∃ c, c = b + 5 + s.size := ⟨_, rfl⟩
  obtain ⟨d, hd⟩ : ∃ d, d = c + 3 + t.size := ⟨_, rfl⟩
  have y0 : byT S 0 = 40 := kA.byte a0 (by omega) (by omega)
  have y1 : byT S a = 41 := kB.byte b0 (by omega) (by omega)
  have y2 : byT S (a + 1) = 124 := kB.byte b1 (by omega) (by omega)
  have y3 : byT S (a + 2) = 40 := kB.byte b2 (by omega) (by omega)
  have y4 : byT S (a + 3) = 40 := kB.byte b3 (by omega) (by omega)
  have y5 : byT S b = 41 := kC.byte c0 (by omega) (by omega)
  have y6 : byT S (b + 1) = 38 := kC.byte c1 (by omega) (by omega)
  have y7 : byT S (b + 2) = 88 := kC.byte c2 (by omega) (by omega)
  have y8 : byT S (b + 3) = 40 := kC.byte c3 (by omega) (by omega)
  have y9 : byT S (b + 4) = 40 := kC.byte c4 (by omega) (by omega)
  have x0 : byT S c = 41 := kD.byte d0 (by omega) (by omega)
  have x1 : byT S (c + 1) = 85 := kD.byte d1 (by omega) (by omega)
  have x2 : byT S (c + 2) = 40 := kD.byte d2 (by omega) (by omega)
  have x3 : byT S d = 41 := kE.byte e0 (by omega) (by omega)
  have x4 : byT S (d + 1) = 41 := kE.byte e1 (by omega) (by omega)
  have x5 : byT S (d + 2) = 41 := kE.byte e2 (by omega) (by omega)
  have z : byT S (d + 3) = 0 := byT_end (by omega)
  have f1 : FormIs S 1 a ft := kT.form pt (by omega) (by omega) y1
  have f2 : FormIs S (a + 4) b fs := kS.form ps (by omega) (by omega) y5
  have f3 : FormIs S (b + 5) c fs := kU.form ps (by omega) (by omega) x0
  have f4 : FormIs S (c + 3) d ft := kV.form pt (by omega) (by omega) x3
  have o1 : OneIs S 0 (a + 1) ft := one_br y0 f1
  have t1 : TermIs S 0 (a + 1) ft := term_one (part_one o1 (by omega) (by omega)) (by omega)
  have o2 : OneIs S (a + 3) (b + 1) fs := one_br y4 f2
  have p2 : PartIs S (a + 3) (b + 1) fs := part_one o2 (by omega) (by omega)
  have o3 : OneIs S (b + 4) (c + 1) fs := one_br y9 f3
  have o4 : OneIs S (c + 2) (d + 1) ft := one_br x2 f4
  have p4 : PartIs S (c + 2) (d + 1) ft := part_one o4 (by omega) (by omega)
  have p3 : PartIs S (b + 4) (d + 1) (biF 85 fs ft) := part_bi o3 x1 (.inl rfl) p4
  have g3 : FormIs S (b + 4) (d + 1) (biF 85 fs ft) := form_one (term_one p3 (by omega)) (by omega)
  have o5 : OneIs S (b + 3) (d + 2) (biF 85 fs ft) := one_br y8 g3
  have o6 : OneIs S (b + 2) (d + 2) (unF 88 (biF 85 fs ft)) := one_un y7 (.inr (.inl rfl)) o5
  have p6 : PartIs S (b + 2) (d + 2) (unF 88 (biF 85 fs ft)) := part_one o6 (by omega) (by omega)
  have t2 : TermIs S (a + 3) (d + 2) (.and fs (unF 88 (biF 85 fs ft))) := term_two p2 y6 p6 (by omega)
  have g2 : FormIs S (a + 3) (d + 2) (.and fs (unF 88 (biF 85 fs ft))) := form_one t2 (by omega)
  have o7 : OneIs S (a + 2) (d + 3) (.and fs (unF 88 (biF 85 fs ft))) := one_br y3 g2
  have t7 : TermIs S (a + 2) (d + 3) (.and fs (unF 88 (biF 85 fs ft))) := term_one (part_one o7 (by omega) (by omega)) (by omega)
  exact parse_is (form_two t1 y2 t7 (by omega)) hp

/-- Until unfolds by one place. -/
theorem til_step {nx : Nat → Nat} {kp gl : Nat → Bool} {i : Nat} : Til nx kp gl i ↔ gl i = true ∨ (kp i = true ∧ Til nx kp gl (nx i)) := by
  constructor
  · rintro ⟨j, h1, h2⟩
    cases j with
    | zero => exact .inl h1
    | succ j => exact .inr ⟨h2 0 (by omega), j, h1, fun k hk => h2 (k + 1) (by omega)⟩
  · rintro (h | ⟨h, j, h1, h2⟩)
    · exact ⟨0, h, fun k hk => by omega⟩
    · refine ⟨j + 1, h1, fun k hk => ?_⟩
      cases k with
      | zero => exact h
      | succ k => exact h2 k (by omega)
theorem sem_not (n t : Nat) (lt : Nat → Nat) (f : Fm) (i : Nat) : semT n t lt (trOf (unF 33 f)) i = !semT n t lt (trOf f) i := by simp [unF, trOf, semT]
theorem sem_always (n t : Nat) (lt : Nat → Nat) (f : Fm) (i : Nat) : semT n t lt (trOf (unF 71 f)) i = !semT n t lt (trOf (unF 70 (unF 33 f))) i := by
  have e0 : semT n t lt (.node 4 (.node 0 .nil .nil) .nil) = semT n t lt (.node 1 .nil .nil) := by funext i; simp [semT]
  show semT n t lt (.node 4 (.node 8 (.node 4 (.node 0 .nil .nil) .nil) (.node 4 (trOf f) .nil)) .nil) i = !semT n t lt (.node 8 (.node 1 .nil .nil) (.node 4 (trOf f) .nil)) i
  have e1 : ∀ x, semT n t lt (.node 4 x .nil) i = !semT n t lt x i := fun x => by simp [semT]
  have e2 : ∀ x y, semT n t lt (.node 8 x y) i = cmB n t (semT n t lt x) (semT n t lt y) i := fun x y => by simp [semT]
  rw [e1, e2, e2, e0]
theorem sem_until {n t : Nat} (ht : t < n) (lt : Nat → Nat) (f g : Fm) {i : Nat} (hi : i < n) : semT n t lt (trOf (.til f g)) i = semT n t lt (trOf (.or g (.and f (.next (.til f g))))) i := by
  have e1 : semT n t lt (trOf (.til f g)) i = cmB n t (semT n t lt (trOf f)) (semT n t lt (trOf g)) i := by simp [trOf, semT]
  have e2 : semT n t lt (trOf (.or g (.and f (.next (.til f g))))) i = (semT n t lt (trOf g) i || (semT n t lt (trOf f) i && cmB n t (semT n t lt (trOf f)) (semT n t lt (trOf g)) (aft n t i))) := by simp [trOf, semT]
  have ha : aft n t i < n := aft_lt ht
  rw [e1, e2, Bool.eq_iff_iff, cmB_iff ht hi, Bool.or_eq_true, Bool.and_eq_true, cmB_iff ht ha]
  exact til_step

end Go.Proofs.Ytneialmpaiejcaa
