/- Places of a graph, looked through twice: that a search finds a way back just if there is one. (Nothing of the program.) -/
import Derived.Test.YtfjpdeoldcfhdaaUSem
namespace Go.Proofs.Ytfjpdeoldcfhdaa
set_option linter.unusedVariables false

/-- A place is in a set. -/
abbrev InS (S v : Nat) : Prop := S.testBit v = true
theorem inS_add {S q v : Nat} : InS (S ||| 2 ^ q) v ↔ InS S v ∨ v = q := by
  unfold InS
  rw [Nat.testBit_or, Bool.or_eq_true, Nat.testBit_two_pow, decide_eq_true_eq]
  exact ⟨fun e => e.imp id Eq.symm, fun e => e.imp id Eq.symm⟩
/-- So many steps lead from a place to another one. -/
def goN (nx : Nat → List Nat) : Nat → Nat → Nat → Prop
  | 0, p, q => p = q
  | n + 1, p, q => ∃ r, r ∈ nx p ∧ goN nx n r q
section
variable {nx : Nat → List Nat} {acc : Nat → Bool}
theorem goN_add {m n p r q : Nat} (h : goN nx m p r) (k : goN nx n r q) : goN nx (m + n) p q := by
  induction m generalizing p with
  | zero => rw [Nat.zero_add]; have e : p = r := h; rw [e]; exact k
  | succ m ih =>
    obtain ⟨t, h1, h2⟩ := h
    rw [Nat.succ_add]
    exact ⟨t, h1, ih h2⟩
theorem goN_one {p q : Nat} (h : q ∈ nx p) : goN nx 1 p q := ⟨q, h, rfl⟩
theorem goN_closed {M : Nat → Prop} (hc : ∀ v, M v → ∀ q, q ∈ nx v → M q) {n p q : Nat} (hp : M p) (h : goN nx n p q) : M q := by
  induction n generalizing p with
  | zero => have e : p = q := h; rw [← e]; exact hp
  | succ n ih =>
    obtain ⟨t, h1, h2⟩ := h
    exact ih (hc p hp t h1) h2

/-- The second look, behind the first j places that follow p. -/
structure LeadsIn (nx : Nat → List Nat) (N back p j M M' : Nat) : Prop where
  sub : ∀ v, InS M v → InS M' v
  bk : ¬ InS M back → ¬ InS M' back
  done : ∀ i q, i < j → (nx p)[i]? = some q → q ≠ back ∧ InS M' q
  new : ∀ v, InS M' v → ¬ InS M v → ∀ q, q ∈ nx v → q ≠ back ∧ InS M' q
  reach : ∀ v, InS M' v → ¬ InS M v → ∃ n, goN nx (n + 1) p v
  lt : M' < 2 ^ N
variable {N back p j M M' : Nat}
theorem LeadsIn.start (h : M < 2 ^ N) : LeadsIn nx N back p 0 M M := ⟨fun _ h => h, fun h => h, fun i q hi => absurd hi (by omega), fun v h k => absurd h k, fun v h k => absurd h k, h⟩
theorem LeadsIn.skip (h : LeadsIn nx N back p j M M') {q : Nat} (hq : (nx p)[j]? = some q) (hb : q ≠ back) (hm : InS M' q) : LeadsIn nx N back p (j + 1) M M' :=
  ⟨h.sub, h.bk, fun i r hi hr => by
    by_cases e : i = j
    · subst e; rw [hq] at hr; cases hr; exact ⟨hb, hm⟩
    · exact h.done i r (by omega) hr, h.new, h.reach, h.lt⟩
theorem LeadsIn.go (h : LeadsIn nx N back p j M M') {q M2 : Nat} (hq : (nx p)[j]? = some q) (hb : q ≠ back) (hm : ¬ InS M' q) (k : LeadsIn nx N back q (nx q).length (M' ||| 2 ^ q) M2) : LeadsIn nx N back p (j + 1) M M2 := by
  have hpq := goN_one (List.mem_of_getElem? hq)
  have kq : ∀ r, r ∈ nx q → r ≠ back ∧ InS M2 r := fun r hr => by
    obtain ⟨i, hi, e⟩ := List.getElem_of_mem hr
    exact k.done i r hi (by rw [← e]; exact List.getElem?_eq_getElem hi)
  have s2 : ∀ v, InS M' v → InS M2 v := fun v hv => k.sub v (inS_add.2 (.inl hv))
  have q2 : InS M2 q := k.sub q (inS_add.2 (.inr rfl))
  refine ⟨fun v hv => s2 v (h.sub v hv), fun hn hv => ?_, fun i r hi hr => ?_, fun v hv hn r hr => ?_, fun v hv hn => ?_, k.lt⟩
  · refine k.bk (fun e => ?_) hv
    rcases inS_add.1 e with e | e
    · exact h.bk hn e
    · exact hb e.symm
  · by_cases e : i = j
    · subst e; rw [hq] at hr; cases hr; exact ⟨hb, q2⟩
    · obtain ⟨h1, h2⟩ := h.done i r (by omega) hr
      exact ⟨h1, s2 r h2⟩
  · by_cases h1 : InS M' v
    · obtain ⟨h2, h3⟩ := h.new v h1 hn r hr
      exact ⟨h2, s2 r h3⟩
    · by_cases e : v = q
      · subst e; exact kq r hr
      · exact k.new v hv (fun e2 => by rcases inS_add.1 e2 with e2 | e2; exact h1 e2; exact e e2) r hr
  · by_cases h1 : InS M' v
    · exact h.reach v h1 hn
    · by_cases e : v = q
      · subst e; exact ⟨0, hpq⟩
      · obtain ⟨n, h2⟩ := k.reach v hv (fun e2 => by rcases inS_add.1 e2 with e2 | e2; exact h1 e2; exact e e2)
        exact ⟨n + 1, by have := goN_add hpq h2; rwa [Nat.add_comm 1] at this⟩

/-- The first look: G are the places under way, S those that are seen, M those that a second look has seen. -/
structure VInv (nx : Nat → List Nat) (acc : Nat → Bool) (N : Nat) (G : Nat → Prop) (S M : Nat) : Prop where
  nxt : ∀ v, InS S v → ¬ G v → ∀ q, q ∈ nx v → InS S q
  clo : ∀ v, InS M v → ∀ q, q ∈ nx v → InS M q
  old : ∀ v, InS M v → InS S v ∧ ¬ G v
  no : ∀ v, InS S v → ¬ G v → acc v = true → ∀ n, ¬ goN nx (n + 1) v v
  way : ∀ v, G v → InS S v
  ltS : S < 2 ^ N
  ltM : M < 2 ^ N
variable {G : Nat → Prop} {S : Nat}
theorem VInv.begin_ (N : Nat) : VInv nx acc N (fun _ => False) 0 0 := ⟨fun v h => by simp [InS] at h, fun v h => by simp [InS] at h, fun v h => by simp [InS] at h, fun v h => by simp [InS] at h, fun v h => h.elim, Nat.two_pow_pos N, Nat.two_pow_pos N⟩
theorem add_lt {S q N : Nat} (h : S < 2 ^ N) (hq : q < N) : S ||| 2 ^ q < 2 ^ N := Nat.or_lt_two_pow h (Nat.pow_lt_pow_right (by decide) hq)
/-- A place is come to. -/
theorem VInv.enter (h : VInv nx acc N G S M) {p : Nat} (hp : ¬ InS S p) (hpN : p < N) : VInv nx acc N (fun v => G v ∨ v = p) (S ||| 2 ^ p) M := by
  refine ⟨fun v hv hn q hq => ?_, h.clo, fun v hv => ?_, fun v hv hn ha => ?_, fun v hv => ?_, add_lt h.ltS hpN, h.ltM⟩
  · rcases inS_add.1 hv with e | e
    · exact inS_add.2 (.inl (h.nxt v e (fun g => hn (.inl g)) q hq))
    · exact absurd (.inr e) hn
  · obtain ⟨h1, h2⟩ := h.old v hv
    refine ⟨inS_add.2 (.inl h1), fun g => ?_⟩
    rcases g with g | g
    · exact h2 g
    · subst g; exact hp h1
  · rcases inS_add.1 hv with e | e
    · exact h.no v e (fun g => hn (.inl g)) ha
    · exact absurd (.inr e) hn
  · rcases hv with g | g
    · exact inS_add.2 (.inl (h.way v g))
    · exact inS_add.2 (.inr g)
/-- A place that is not final is left. -/
theorem VInv.leave (h : VInv nx acc N (fun v => G v ∨ v = p) S M) (hs : ∀ q, q ∈ nx p → InS S q) (hg : ¬ G p) (ha : acc p = false) : VInv nx acc N G S M := by
  refine ⟨fun v hv hn q hq => ?_, h.clo, fun v hv => ?_, fun v hv hn ha2 => ?_, fun v hv => h.way v (.inl hv), h.ltS, h.ltM⟩
  · by_cases e : v = p
    · subst e; exact hs q hq
    · exact h.nxt v hv (fun g => g.elim hn e) q hq
  · obtain ⟨h1, h2⟩ := h.old v hv
    exact ⟨h1, fun g => h2 (.inl g)⟩
  · by_cases e : v = p
    · subst e; rw [ha] at ha2; cases ha2
    · exact h.no v hv (fun g => g.elim hn e) ha2
/-- A final place is left, when the second look has found no way back to it. -/
theorem VInv.leave2 (h : VInv nx acc N (fun v => G v ∨ v = p) S M) (hs : ∀ q, q ∈ nx p → InS S q) (hg : ¬ G p) (hanc : ∀ g, G g → ∃ n, goN nx (n + 1) g p) (k : LeadsIn nx N p p (nx p).length M M') : VInv nx acc N G S M' := by
  have hpM : ¬ InS M p := fun e => (h.old p e).2 (.inr rfl)
  have hpM' : ¬ InS M' p := k.bk hpM
  have ps : ∀ r, r ∈ nx p → InS M' r := fun r hr => by
    obtain ⟨i, hi, e⟩ := List.getElem_of_mem hr
    exact (k.done i r hi (by rw [← e]; exact List.getElem?_eq_getElem hi)).2
  have clo : ∀ v, InS M' v → ∀ q, q ∈ nx v → InS M' q := fun v hv q hq => by
    by_cases e : InS M v
    · exact k.sub q (h.clo v e q hq)
    · exact (k.new v hv e q hq).2
  have far : ∀ v n, InS M' v → ¬ goN nx n v p := fun v n hv hgo => hpM' (goN_closed (M := InS M') clo hv hgo)
  have notG : ∀ v, InS M' v → ¬ (G v ∨ v = p) := fun v hv g => by
    rcases g with g | g
    · obtain ⟨n, h1⟩ := hanc v g; exact far v _ hv h1
    · subst g; exact hpM' hv
  have inS' : ∀ v, InS M' v → InS S v := fun v hv => by
    by_cases e : InS M v
    · exact (h.old v e).1
    · obtain ⟨n, r, h1, h2⟩ := k.reach v hv e
      have h3 := goN_closed (M := fun v => InS M' v ∧ InS S v) (fun u hu q hq => ⟨clo u hu.1 q hq, h.nxt u hu.2 (notG u hu.1) q hq⟩) ⟨ps r h1, hs r h1⟩ h2
      exact h3.2
  refine ⟨fun v hv hn q hq => ?_, clo, fun v hv => ⟨inS' v hv, fun g => notG v hv (.inl g)⟩, fun v hv hn ha2 n hgo => ?_, fun v hv => h.way v (.inl hv), h.ltS, k.lt⟩
  · by_cases e : v = p
    · subst e; exact hs q hq
    · exact h.nxt v hv (fun g => g.elim hn e) q hq
  · by_cases e : v = p
    · subst e
      obtain ⟨r, h1, h2⟩ := hgo
      exact far r n (ps r h1) h2
    · exact h.no v hv (fun g => g.elim hn e) ha2 n hgo
/-- When all places that it begins with are seen, and none was found, there is none. -/
theorem VInv.end_ (h : VInv nx acc N (fun _ => False) S M) {p v : Nat} (hp : InS S p) {m n : Nat} (hm : goN nx m p v) (ha : acc v = true) : ¬ goN nx (n + 1) v v :=
  h.no v (goN_closed (M := InS S) (fun u hu q hq => h.nxt u hu (fun g => g) q hq) hp hm) (fun g => g) ha n
end

end Go.Proofs.Ytfjpdeoldcfhdaa
