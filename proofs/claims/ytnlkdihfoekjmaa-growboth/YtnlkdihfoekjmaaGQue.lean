/- How places are drawn to a goal, without the program: a row that grows, and how many moves of each place must still lead to what is drawn. -/
import Derived.Test.YtnlkdihfoekjmaaGMath
namespace Go.Proofs.Ytnlkdihfoekjmaa
set_option linter.unusedVariables false

/-- How many of a list are of a set. -/
def cntL (d : Nat → Bool) (l : List Nat) : Nat := (l.filter d).length
theorem cntL_nil (d : Nat → Bool) : cntL d [] = 0 := rfl
theorem cntL_cons (d : Nat → Bool) (x : Nat) (l : List Nat) : cntL d (x :: l) = cntL d l + (if d x = true then 1 else 0) := by
  unfold cntL
  rw [List.filter_cons]
  split <;> simp
theorem cntL_snoc (d : Nat → Bool) (x : Nat) (l : List Nat) : cntL d (l ++ [x]) = cntL d l + (if d x = true then 1 else 0) := by
  unfold cntL
  rw [List.filter_append, List.length_append]
  by_cases h : d x = true <;> simp [h]
theorem cntL_le_len (d : Nat → Bool) (l : List Nat) : cntL d l ≤ l.length := List.length_filter_le _ _
theorem cntL_mono {d e : Nat → Bool} {l : List Nat} (h : ∀ q, q ∈ l → d q = true → e q = true) : cntL d l ≤ cntL e l := by
  induction l with
  | nil => exact Nat.le_refl _
  | cons x l ih =>
    rw [cntL_cons, cntL_cons]
    have h1 := ih fun q hq => h q (List.mem_cons_of_mem _ hq)
    by_cases hd : d x = true
    · have := h x (by simp) hd
      simp [hd, this]; exact h1
    · simp [hd]; omega
theorem cntL_eq {d e : Nat → Bool} {l : List Nat} (h : ∀ q, q ∈ l → d q = true → e q = true) (hc : cntL e l ≤ cntL d l) : ∀ q, q ∈ l → e q = true → d q = true := by
  induction l with
  | nil => intro q hq; simp at hq
  | cons x l ih =>
    rw [cntL_cons, cntL_cons] at hc
    have h0 : ∀ q, q ∈ l → d q = true → e q = true := fun q hq => h q (List.mem_cons_of_mem _ hq)
    have h1 := cntL_mono h0
    intro q hq he
    by_cases hd : d x = true
    · have hex := h x (by simp) hd
      simp [hd, hex] at hc
      rcases List.mem_cons.1 hq with rfl | hq
      · exact hd
      · exact ih h0 (by omega) q hq he
    · by_cases hex : e x = true
      · simp [hd, hex] at hc; omega
      · simp [hd, hex] at hc
        rcases List.mem_cons.1 hq with rfl | hq
        · exact absurd he hex
        · exact ih h0 hc q hq he
theorem cntL_zero {d : Nat → Bool} {l : List Nat} (h : cntL d l = 0) : ∀ q, q ∈ l → d q = false := by
  intro q hq
  cases hd : d q with
  | false => rfl
  | true =>
    have : q ∈ l.filter d := List.mem_filter.2 ⟨hq, hd⟩
    have h0 : l.filter d = [] := List.length_eq_zero_iff.1 h
    rw [h0] at this
    simp at this
theorem cntL_congr {d e : Nat → Bool} {l : List Nat} (h : ∀ q, q ∈ l → d q = e q) : cntL d l = cntL e l :=
  Nat.le_antisymm (cntL_mono fun q hq hd => (h q hq) ▸ hd) (cntL_mono fun q hq hd => (h q hq).symm ▸ hd)
/-- One more is of the set. -/
theorem cntL_add {d e : Nat → Bool} {x : Nat} {l : List Nat} (hl : l.Nodup) (hx : d x = false) (he : ∀ q, e q = (d q || decide (q = x))) : cntL e l = cntL d l + (if x ∈ l then 1 else 0) := by
  induction l with
  | nil => simp [cntL]
  | cons y l ih =>
    obtain ⟨hy, hl'⟩ := List.nodup_cons.1 hl
    rw [cntL_cons, cntL_cons, ih hl', he y]
    by_cases e1 : y = x
    · subst e1
      simp [hx, hy]
    · have e2 : x ≠ y := fun e => e1 e.symm
      simp [e1, e2]
      omega

/-- What a place needs at first. -/
def needF (G : Gm) (i : Int) (part : Nat → Bool) (p : Nat) : Int := if part p = true then (if G.own p = i then 1 else (cntL part (G.nx p) : Int)) else 0
/-- Of which the moves have been counted: the first k of the row. -/
def dnB (row : List Nat) (k : Nat) : Nat → Bool := fun q => decide (q ∈ row.take k)

/-- While places are drawn: k of the row are behind, and of the next one, x, the places ps that lead to it. -/
structure Que (G : Gm) (i : Int) (goal part : Nat → Bool) (M0 : Nat → Int) (k : Nat) (ps : List Nat) (row : List Nat) (out : Nat → Bool) (nd M : Nat → Int) : Prop where
  outs : ∀ q, out q = decide (q ∈ row)
  nodup : row.Nodup
  len : k ≤ row.length
  within : ∀ q, q ∈ row → part q = true
  goals : ∀ q, goal q = true → q ∈ row
  need : ∀ p, p < G.n → nd p = needF G i part p - (cntL (dnB row k) (G.nx p) + (if p ∈ ps then 1 else 0) : Nat)
  got : ∀ p, p < G.n → part p = true → goal p = false → (p ∈ row ↔ needF G i part p ≤ (cntL (dnB row k) (G.nx p) + (if p ∈ ps then 1 else 0) : Nat))
  mine : ∀ s (hs : s < row.length), goal row[s] = false → G.own row[s] = i → ∃ s', ∃ h : s' < s, row[s'] ∈ G.nx row[s] ∧ M row[s] = (row[s'] : Int)
  oth : ∀ s (hs : s < row.length), goal row[s] = false → G.own row[s] ≠ i → ∀ q, q ∈ G.nx row[s] → part q = true → ∃ s', ∃ h : s' < s, row[s'] = q
  keep : ∀ p, p ∉ row ∨ goal p = true → M p = M0 p

theorem cntL_none (l : List Nat) (d : Nat → Bool) (h : ∀ q, d q = false) : cntL d l = 0 := by
  have : cntL d l = cntL (fun _ => false) l := cntL_congr fun q _ => h q
  rw [this]
  simp [cntL]

/-- Nothing is counted yet. -/
theorem Que.start {G : Gm} {i : Int} {goal part : Nat → Bool} {row : List Nat} (M : Nat → Int) (hS : Sub G part) (hgp : ∀ q, goal q = true → part q = true) (hrow : ∀ q, q ∈ row ↔ goal q = true) (hnd : row.Nodup) : Que G i goal part M 0 [] row goal (needF G i part) M where
  outs q := by
    cases h : goal q with
    | true => simp [(hrow q).2 h]
    | false => have : q ∉ row := fun e => by rw [(hrow q).1 e] at h; cases h
               simp [this]
  nodup := hnd
  len := Nat.zero_le _
  within q hq := hgp q ((hrow q).1 hq)
  goals q hq := (hrow q).2 hq
  need p hp := by
    rw [cntL_none _ _ (fun q => by simp [dnB])]
    simp
  got p hp hpp hg := by
    rw [cntL_none _ _ (fun q => by simp [dnB])]
    have h1 : p ∉ row := fun e => by rw [(hrow p).1 e] at hg; cases hg
    obtain ⟨_, q, hq, hqp⟩ := hS p hpp
    have h2 : 0 < cntL part (G.nx p) := by
      cases h : cntL part (G.nx p) with
      | zero => have := cntL_zero h q hq; rw [hqp] at this; cases this
      | succ n => omega
    simp only [h1, false_iff, needF, hpp, if_true]
    split <;> simp <;> omega
  mine s hs hg := absurd ((hrow _).1 (List.getElem_mem hs)) (by simp [hg])
  oth s hs hg := absurd ((hrow _).1 (List.getElem_mem hs)) (by simp [hg])
  keep _ _ := rfl

section
variable {G : Gm} {i : Int} {goal part : Nat → Bool} {M0 : Nat → Int} {k : Nat} {ps row : List Nat} {out : Nat → Bool} {nd M : Nat → Int}

/-- A place that leads to the next one is counted, and is not drawn by it. -/
theorem Que.skip (h : Que G i goal part M0 k ps row out nd M) {p : Nat} (hp : p < G.n) (hps : p ∉ ps) {nd' : Nat → Int} (hn : nd' p = nd p - 1) (hn' : ∀ q, q ≠ p → nd' q = nd q) (hno : nd p - 1 ≠ 0 ∨ out p = true) :
    Que G i goal part M0 k (ps ++ [p]) row out nd' M := by
  refine ⟨h.outs, h.nodup, h.len, h.within, h.goals, fun q hq => ?_, fun q hq hpq hg => ?_, h.mine, h.oth, h.keep⟩
  · by_cases e : q = p
    · subst e
      rw [hn, h.need q hq]
      simp [hps]
      omega
    · rw [hn' q e, h.need q hq]
      simp [e]
  · have h1 := h.got q hq hpq hg
    by_cases e : q = p
    · subst e
      have h2 := h.need q hq
      simp only [List.mem_append, List.mem_singleton, or_true, if_true, hps, if_false] at h1 h2 ⊢
      rcases hno with hno | hno
      · rw [h1]; omega
      · rw [h.outs, decide_eq_true_eq] at hno
        have := h1.1 hno
        simp only [hno, true_iff]
        omega
    · simpa [e] using h1

/-- It is drawn. -/
theorem Que.put (h : Que G i goal part M0 k ps row out nd M) (hG : ∀ p, p < G.n → (G.nx p).Nodup) {p x : Nat} (hx : row[k]? = some x) (hp : p < G.n) (hps : p ∉ ps) (hxp : x ∈ G.nx p) {nd' M' : Nat → Int} {out' : Nat → Bool} (hn : nd' p = nd p - 1) (hn' : ∀ q, q ≠ p → nd' q = nd q) (h0 : nd p - 1 = 0) (ho : out p = false)
    (ho1 : out' p = true) (ho2 : ∀ q, q ≠ p → out' q = out q) (hM : M' p = (x : Int)) (hM' : ∀ q, q ≠ p → M' q = M q) : Que G i goal part M0 k (ps ++ [p]) (row ++ [p]) out' nd' M' := by
  have hpr : p ∉ row := by have := h.outs p; rw [ho] at this; simpa using this.symm
  have hkl : k < row.length := (List.getElem?_eq_some_iff.1 hx).1
  have hxe : row[k] = x := (List.getElem?_eq_some_iff.1 hx).2
  have hd : dnB (row ++ [p]) k = dnB row k := by funext q; unfold dnB; rw [List.take_append_of_le_length (by omega)]
  have hne := h.need p hp
  simp only [hps, if_false, Nat.add_zero] at hne
  have hgp : goal p = false := by
    cases e : goal p with
    | false => rfl
    | true => exact absurd (h.goals p e) hpr
  have hpp : part p = true := by
    cases e : part p with
    | true => rfl
    | false =>
      have : needF G i part p = 0 := by simp [needF, e]
      omega
  have hxk : dnB row k x = false := by
    unfold dnB
    rw [decide_eq_false_iff_not]
    intro hm
    have h1 : row = row.take k ++ row.drop k := (List.take_append_drop _ _).symm
    have h2 := h.nodup
    rw [h1, List.nodup_append] at h2
    refine h2.2.2 x hm x ?_ rfl
    rw [List.drop_eq_getElem_cons hkl, hxe]
    simp
  have own_ne : ∀ s (hs : s < row.length), row[s] ≠ p := fun s hs e => hpr (e ▸ List.getElem_mem hs)
  refine ⟨fun q => ?_, ?_, by simp; omega, fun q hq => ?_, fun q hq => List.mem_append_left _ (h.goals q hq), fun q hq => ?_, fun q hq hpq hg => ?_, fun s hs hg ho => ?_, fun s hs hg ho => ?_, fun q hq => ?_⟩
  · by_cases e : q = p
    · subst e; simp [ho1]
    · rw [ho2 q e, h.outs q]; simp [e]
  · rw [List.nodup_append]
    exact ⟨h.nodup, by simp, fun a ha b hb => by simp at hb; subst hb; exact fun e => hpr (e ▸ ha)⟩
  · rcases List.mem_append.1 hq with hq | hq
    · exact h.within q hq
    · simp at hq; subst hq; exact hpp
  · rw [hd]
    by_cases e : q = p
    · subst e
      rw [hn, h.need q hq]
      simp [hps]
      omega
    · rw [hn' q e, h.need q hq]
      simp [e]
  · rw [hd]
    by_cases e : q = p
    · subst e
      simp only [List.mem_append, List.mem_singleton, or_true, if_true, true_iff]
      omega
    · have := h.got q hq hpq hg
      simpa [e] using this
  · by_cases hs' : s < row.length
    · rw [List.getElem_append_left hs'] at hg ho ⊢
      obtain ⟨s', h1, h2, h3⟩ := h.mine s hs' hg ho
      refine ⟨s', h1, ?_⟩
      rw [List.getElem_append_left (by omega)]
      exact ⟨h2, (hM' _ (own_ne s hs')).trans h3⟩
    · have hse : s = row.length := by simp at hs; omega
      subst hse
      have e : (row ++ [p])[row.length] = p := by simp
      rw [e] at hg ho ⊢
      refine ⟨k, hkl, ?_⟩
      rw [List.getElem_append_left hkl, hxe]
      exact ⟨hxp, hM⟩
  · intro q hq hqp
    by_cases hs' : s < row.length
    · rw [List.getElem_append_left hs'] at hg ho hq
      obtain ⟨s', h1, h2⟩ := h.oth s hs' hg ho q hq hqp
      refine ⟨s', h1, ?_⟩
      rw [List.getElem_append_left (by omega)]
      exact h2
    · have hse : s = row.length := by simp at hs; omega
      subst hse
      have e : (row ++ [p])[row.length] = p := by simp
      rw [e] at hg ho hq
      -- all of them have been counted
      have h1 : cntL (fun q => dnB row k q || decide (q = x)) (G.nx p) = cntL (dnB row k) (G.nx p) + (if x ∈ G.nx p then 1 else 0) := cntL_add (hG p hp) hxk (fun _ => rfl)
      rw [if_pos hxp] at h1
      have h2 : needF G i part p = (cntL part (G.nx p) : Int) := by simp [needF, hpp, ho]
      have h3 := cntL_eq (d := fun q => dnB row k q || decide (q = x)) (e := part) (l := G.nx p) (fun q hq hd => by
        rw [Bool.or_eq_true, decide_eq_true_eq] at hd
        rcases hd with hd | rfl
        · exact h.within q (List.mem_of_mem_take (by simpa [dnB] using hd))
        · exact h.within q (hxe ▸ List.getElem_mem hkl)) (by omega) q hq hqp
      rw [Bool.or_eq_true, decide_eq_true_eq] at h3
      rcases h3 with h3 | rfl
      · have h4 : q ∈ row.take k := by simpa [dnB] using h3
        obtain ⟨s', hs1, hs2⟩ := List.getElem_of_mem h4
        have hs3 : s' < k := by rw [List.length_take] at hs1; omega
        refine ⟨s', by omega, ?_⟩
        rw [List.getElem_append_left (by omega), ← hs2, List.getElem_take]
      · refine ⟨k, hkl, ?_⟩
        rw [List.getElem_append_left hkl, hxe]
  · have hqp : q ≠ p := fun e => by
      subst e
      rcases hq with hq | hq
      · exact hq (by simp)
      · rw [hgp] at hq; cases hq
    rw [hM' q hqp]
    refine h.keep q ?_
    rcases hq with hq | hq
    · exact .inl fun e => hq (List.mem_append_left _ e)
    · exact .inr hq

/-- All that lead to the next one are counted. -/
theorem Que.next (h : Que G i goal part M0 k ps row out nd M) (hG : ∀ p, p < G.n → (G.nx p).Nodup) {x : Nat} (hx : row[k]? = some x) (hps : ∀ p, p < G.n → (p ∈ ps ↔ x ∈ G.nx p)) : Que G i goal part M0 (k + 1) [] row out nd M := by
  have hkl : k < row.length := (List.getElem?_eq_some_iff.1 hx).1
  have hxe : row[k] = x := (List.getElem?_eq_some_iff.1 hx).2
  have hxk : dnB row k x = false := by
    unfold dnB
    rw [decide_eq_false_iff_not]
    intro hm
    have h1 : row = row.take k ++ row.drop k := (List.take_append_drop _ _).symm
    have h2 := h.nodup
    rw [h1, List.nodup_append] at h2
    refine h2.2.2 x hm x ?_ rfl
    rw [List.drop_eq_getElem_cons hkl, hxe]
    simp
  have hc : ∀ p, p < G.n → cntL (dnB row (k + 1)) (G.nx p) + (if p ∈ ([] : List Nat) then 1 else 0) = cntL (dnB row k) (G.nx p) + (if p ∈ ps then 1 else 0) := fun p hp => by
    rw [cntL_add (d := dnB row k) (e := dnB row (k + 1)) (x := x) (hG p hp) hxk (fun q => by
      unfold dnB
      rw [List.take_add_one, List.getElem?_eq_getElem hkl, hxe]
      simp)]
    simp [hps p hp]
  refine ⟨h.outs, h.nodup, hkl, h.within, h.goals, fun p hp => ?_, fun p hp hpp hg => ?_, h.mine, h.oth, h.keep⟩
  · rw [hc p hp]; exact h.need p hp
  · rw [hc p hp]; exact h.got p hp hpp hg

theorem idx_one {l : List Nat} (hl : l.Nodup) {a b : Nat} (ha : a < l.length) (hb : b < l.length) (e : l[a] = l[b]) : a = b := by
  have h := List.pairwise_iff_getElem.1 hl
  rcases Nat.lt_trichotomy a b with h1 | h1 | h1
  · exact absurd e (h a b ha hb h1)
  · exact h1
  · exact absurd e.symm (h b a hb ha h1)

/-- Nothing more is drawn. -/
theorem Que.done (h : Que G i goal part M0 row.length [] row out nd M) (hS : Sub G part) : ∃ ρ, Drawn G i goal part out M0 M ρ := by
  classical
  let ρ : Nat → Nat := fun q => if e : ∃ s, ∃ hs : s < row.length, row[s] = q then e.choose else 0
  have hρ : ∀ s (hs : s < row.length), ρ row[s] = s := fun s hs => by
    have e : ∃ s', ∃ hs : s' < row.length, row[s'] = row[s] := ⟨s, hs, rfl⟩
    have h1 : ρ row[s] = e.choose := by simp only [ρ]; rw [dif_pos e]
    rw [h1]
    obtain ⟨h2, h3⟩ := e.choose_spec
    exact idx_one h.nodup h2 hs h3
  have ino : ∀ q, out q = true → ∃ s, ∃ hs : s < row.length, row[s] = q := fun q hq => by
    rw [h.outs, decide_eq_true_eq] at hq
    obtain ⟨s, hs, e⟩ := List.getElem_of_mem hq
    exact ⟨s, hs, e⟩
  have oin : ∀ s (hs : s < row.length), out row[s] = true := fun s hs => by rw [h.outs, decide_eq_true_eq]; exact List.getElem_mem hs
  have dn : ∀ q, dnB row row.length q = out q := fun q => by rw [h.outs]; simp [dnB]
  refine ⟨ρ, ⟨fun p hp => ?_, fun p hp => ?_, fun p hp hg ho => ?_, fun p hp hg ho q hq hqp => ?_, fun p hp hq ho => ?_, fun p hp hq ho => ?_, fun p hp => ?_⟩⟩
  · rw [h.outs, decide_eq_true_eq]; exact h.goals p hp
  · rw [h.outs, decide_eq_true_eq] at hp; exact h.within p hp
  · obtain ⟨s, hs, rfl⟩ := ino p hp
    obtain ⟨s', h1, h2, h3⟩ := h.mine s hs hg ho
    exact ⟨row[s'], h2, h3, oin s' (by omega), by rw [hρ s hs, hρ s' (by omega)]; exact h1⟩
  · obtain ⟨s, hs, rfl⟩ := ino p hp
    obtain ⟨s', h1, rfl⟩ := h.oth s hs hg ho q hq hqp
    exact ⟨oin s' (by omega), by rw [hρ s hs, hρ s' (by omega)]; exact h1⟩
  · have hr : p ∉ row := by rw [h.outs] at hq; simpa using hq
    have hg : goal p = false := by cases e : goal p with | false => rfl | true => exact absurd (h.goals p e) hr
    have h1 := h.got p (hS p hp).1 hp hg
    simp only [hr, false_iff, needF, hp, ho, if_true] at h1
    have h2 : cntL (dnB row row.length) (G.nx p) = 0 := by simp at h1; omega
    intro q hq'
    rw [← dn]
    exact cntL_zero h2 q hq'
  · have hr : p ∉ row := by rw [h.outs] at hq; simpa using hq
    have hg : goal p = false := by cases e : goal p with | false => rfl | true => exact absurd (h.goals p e) hr
    have h1 := h.got p (hS p hp).1 hp hg
    simp only [hr, false_iff, needF, hp, ho, if_true, if_false] at h1
    refine Classical.byContradiction fun hno => h1 ?_
    have : cntL part (G.nx p) ≤ cntL (dnB row row.length) (G.nx p) := cntL_mono fun q hq' hqp => by
      rw [dn]
      cases e : out q with
      | true => rfl
      | false => exact absurd ⟨q, hq', hqp, e⟩ hno
    simp; omega
  · refine h.keep p ?_
    rcases hp with hp | hp
    · rw [h.outs] at hp; exact .inl (by simpa using hp)
    · exact .inr hp
end

end Go.Proofs.Ytnlkdihfoekjmaa
