/- Classes of states that are parted in place, without the program (Hopcroft): what stays true while states are picked, classes are cut, and all classes are gone through. -/
import Derived.Test.YtofjboelplknhaaLMoore
namespace Go.Proofs.Ytofjboelplknhaa
set_option linter.unusedVariables false

/-- One value is turned. -/
def upd (f : Nat → Nat) (i x : Nat) : Nat → Nat := fun j => if j = i then x else f j
theorem upd_same (f : Nat → Nat) (i x : Nat) : upd f i x i = x := by simp [upd]
theorem upd_ne {f : Nat → Nat} {i x j : Nat} (h : j ≠ i) : upd f i x j = f j := by simp [upd, h]

/-- States in classes: their order, where each stands, its class; where each class begins and ends. -/
structure Parted (n K : Nat) (o p c b e : Nat → Nat) : Prop where
  on : ∀ i, i < n → o i < n
  po : ∀ i, i < n → p (o i) = i
  pn : ∀ s, s < n → p s < n
  op : ∀ s, s < n → o (p s) = s
  ck : ∀ s, s < n → c s < K
  cb : ∀ s, s < n → b (c s) ≤ p s
  ce : ∀ s, s < n → p s < e (c s)
  be : ∀ j, j < K → b j < e j
  en : ∀ j, j < K → e j ≤ n
  co : ∀ j, j < K → ∀ i, b j ≤ i → i < e j → c (o i) = j

section
variable {n K : Nat} {o p c b e k : Nat → Nat}

theorem Parted.start (n : Nat) (h : 0 < n) : Parted n 1 id id (fun _ => 0) (fun _ => 0) (fun _ => n) :=
  ⟨fun i hi => hi, fun i hi => rfl, fun s hs => hs, fun s hs => rfl, fun s hs => by omega, fun s hs => by omega, fun s hs => hs, fun j hj => h, fun j hj => Nat.le_refl _, fun j hj i _ _ => by omega⟩
/-- No more classes than states. -/
theorem Parted.le (h : Parted n K o p c b e) : K ≤ n := by
  have hnd : ((List.range K).map fun j => o (b j)).Nodup := by
    rw [List.nodup_iff_pairwise_ne, List.pairwise_map]
    refine List.Pairwise.imp_of_mem ?_ (List.nodup_iff_pairwise_ne.1 List.nodup_range)
    intro i j hi hj hij he
    have hi := List.mem_range.1 hi
    have hj := List.mem_range.1 hj
    have h1 := h.co i hi (b i) (Nat.le_refl _) (h.be i hi)
    have h2 := h.co j hj (b j) (Nat.le_refl _) (h.be j hj)
    rw [he] at h1
    exact hij (h1.symm.trans h2)
  have := nodup_le n _ hnd (fun x hx => by
    obtain ⟨j, hj, rfl⟩ := List.mem_map.1 hx
    have hj := List.mem_range.1 hj
    exact h.on _ (by have := h.be j hj; have := h.en j hj; omega))
  simpa using this
theorem Parted.bn (h : Parted n K o p c b e) {j : Nat} (hj : j < K) : b j < n := by have := h.be j hj; have := h.en j hj; omega
theorem Parted.mem (h : Parted n K o p c b e) {j s : Nat} (hj : j < K) (hs : s < n) : c s = j ↔ b j ≤ p s ∧ p s < e j := by
  constructor
  · rintro rfl; exact ⟨h.cb s hs, h.ce s hs⟩
  · rintro ⟨h1, h2⟩
    have := h.co j hj (p s) h1 h2
    rwa [h.op s hs] at this

/-- While states are picked: the picked ones of a class stand first in it. -/
structure Picking (n K : Nat) (o p c b e k : Nat → Nat) (T touched : List Nat) : Prop where
  parted : Parted n K o p c b e
  le : ∀ j, j < K → b j + k j ≤ e j
  pick : ∀ j, j < K → ∀ i, b j ≤ i → i < e j → (i < b j + k j ↔ o i ∈ T)
  tl : ∀ j, j ∈ touched ↔ (j < K ∧ 0 < k j)
  nd : touched.Nodup

theorem Picking.start (h : Parted n K o p c b e) (hk : ∀ j, j < K → k j = 0) : Picking n K o p c b e k [] [] :=
  ⟨h, fun j hj => by have := h.be j hj; rw [hk j hj]; omega, fun j hj i h1 h2 => by rw [hk j hj]; simp; omega, fun j => by
    constructor
    · intro h; simp at h
    · rintro ⟨hj, h0⟩; rw [hk j hj] at h0; omega, List.nodup_nil⟩

/-- Where the next one goes. -/
theorem Picking.to {T touched : List Nat} (h : Picking n K o p c b e k T touched) {s : Nat} (hs : s < n) (hT : s ∉ T) : b (c s) + k (c s) ≤ p s ∧ p s < n ∧ b (c s) + k (c s) < e (c s) ∧ o (b (c s) + k (c s)) < n := by
  have hj := h.parted.ck s hs
  have h1 := h.pick (c s) hj (p s) (h.parted.cb s hs) (h.parted.ce s hs)
  rw [h.parted.op s hs] at h1
  have h2 : ¬ p s < b (c s) + k (c s) := fun hc => hT (h1.1 hc)
  have h3 := h.parted.ce s hs
  have h4 := h.parted.pn s hs
  exact ⟨by omega, h4, by omega, h.parted.on _ (by omega)⟩

/-- Two of one class change places. -/
theorem Parted.move (h : Parted n K o p c b e) {s to : Nat} (hs : s < n) (h1 : b (c s) ≤ to) (h2 : to < e (c s)) :
    Parted n K (upd (upd o (p s) (o to)) to s) (upd (upd p (o to) (p s)) s to) c b e := by
  have hj := h.ck s hs
  have hto : to < n := by have := h.en _ hj; omega
  have hps := h.pn s hs
  have hot := h.on to hto
  have hco := h.co _ hj to h1 h2
  have hop := h.op s hs
  have hpo := h.po to hto
  have inj : ∀ i i', i < n → i' < n → o i = o i' → i = i' := fun i i' hi hi' e => by rw [← h.po i hi, e, h.po i' hi']
  have injp : ∀ i i', i < n → i' < n → p i = p i' → i = i' := fun i i' hi hi' e => by rw [← h.op i hi, e, h.op i' hi']
  refine ⟨fun i hi => ?_, fun i hi => ?_, fun t ht => ?_, fun t ht => ?_, h.ck, fun t ht => ?_, fun t ht => ?_, h.be, h.en, fun j hj' i hi1 hi2 => ?_⟩
  · unfold upd; split
    · exact hs
    · split
      · exact hot
      · exact h.on i hi
  · by_cases e1 : i = to
    · subst e1; rw [upd_same, upd_same]
    · rw [upd_ne e1]
      by_cases e2 : i = p s
      · subst e2
        rw [upd_same]
        by_cases e3 : o to = s
        · exact absurd (by rw [← e3, hpo]) e1
        · rw [upd_ne e3, upd_same]
      · rw [upd_ne e2]
        have e3 : o i ≠ s := fun e => e2 (by rw [← e, h.po i hi])
        have e4 : o i ≠ o to := fun e => e1 (inj _ _ hi hto e)
        rw [upd_ne e3, upd_ne e4, h.po i hi]
  · unfold upd; split
    · exact hto
    · split
      · exact hps
      · exact h.pn t ht
  · by_cases e1 : t = s
    · subst e1; rw [upd_same, upd_same]
    · rw [upd_ne e1]
      by_cases e2 : t = o to
      · subst e2
        rw [upd_same]
        by_cases e3 : p s = to
        · exact absurd (by rw [← e3, hop]) e1
        · rw [upd_ne e3, upd_same]
      · rw [upd_ne e2]
        have e3 : p t ≠ to := fun e => e2 (by rw [← e, h.op t ht])
        have e4 : p t ≠ p s := fun e => e1 (injp _ _ ht hs e)
        rw [upd_ne e3, upd_ne e4, h.op t ht]
  · by_cases e1 : t = s
    · subst e1; rw [upd_same]; exact h1
    · rw [upd_ne e1]
      by_cases e2 : t = o to
      · subst e2; rw [upd_same, hco]; exact h.cb s hs
      · rw [upd_ne e2]; exact h.cb t ht
  · by_cases e1 : t = s
    · subst e1; rw [upd_same]; exact h2
    · rw [upd_ne e1]
      by_cases e2 : t = o to
      · subst e2; rw [upd_same, hco]; exact h.ce s hs
      · rw [upd_ne e2]; exact h.ce t ht
  · have hin : i < n := by have := h.en j hj'; omega
    by_cases e1 : i = to
    · subst e1
      rw [upd_same]
      have := h.co j hj' i hi1 hi2
      exact hco.symm.trans this
    · rw [upd_ne e1]
      by_cases e2 : i = p s
      · subst e2
        rw [upd_same, hco]
        have := h.co j hj' _ hi1 hi2
        rwa [hop] at this
      · rw [upd_ne e2]; exact h.co j hj' i hi1 hi2

theorem Picking.step {T touched : List Nat} (h : Picking n K o p c b e k T touched) {s : Nat} (hs : s < n) (hT : s ∉ T) :
    Picking n K (upd (upd o (p s) (o (b (c s) + k (c s)))) (b (c s) + k (c s)) s) (upd (upd p (o (b (c s) + k (c s))) (p s)) s (b (c s) + k (c s))) c b e (upd k (c s) (k (c s) + 1)) (T ++ [s]) (if k (c s) = 0 then touched ++ [c s] else touched) := by
  obtain ⟨h1, h2, h3, h4⟩ := h.to hs hT
  have hj := h.parted.ck s hs
  refine ⟨h.parted.move hs (by omega) h3, fun j hj' => ?_, fun j hj' i hi1 hi2 => ?_, fun j => ?_, ?_⟩
  · by_cases e1 : j = c s
    · subst e1; rw [upd_same]; omega
    · rw [upd_ne e1]; exact h.le j hj'
  · have hin : i < n := by have := h.parted.en j hj'; omega
    generalize hto : b (c s) + k (c s) = to at *
    have hton : to < n := by have := h.parted.en _ hj; omega
    have hpick := h.pick j hj' i hi1 hi2
    by_cases e1 : i = to
    · subst e1
      rw [upd_same]
      have hjc : j = c s := by
        have a1 := h.parted.co j hj' i hi1 hi2
        have a2 := h.parted.co (c s) hj i (by omega) h3
        exact a1.symm.trans a2
      subst hjc
      rw [upd_same]
      simp; omega
    · rw [upd_ne e1]
      by_cases e2 : i = p s
      · subst e2
        rw [upd_same]
        have hjc : j = c s := by
          have a1 := h.parted.co j hj' _ hi1 hi2
          rw [h.parted.op s hs] at a1
          exact a1.symm
        subst hjc
        rw [upd_same]
        have hne : o to ≠ s := fun e => e1 (by rw [← e, h.parted.po to hton])
        have hp2 := h.pick (c s) hj to (by omega) h3
        have hnt : o to ∉ T := fun hc => by have := hp2.2 hc; omega
        simp [hne, hnt]; omega
      · rw [upd_ne e2]
        have hne : o i ≠ s := fun e => e2 (by rw [← e, h.parted.po i hin])
        simp only [List.mem_append, List.mem_singleton, hne, or_false]
        rw [← hpick]
        by_cases e3 : j = c s
        · subst e3; rw [upd_same]; omega
        · rw [upd_ne e3]
  · by_cases e1 : j = c s
    · subst e1
      rw [upd_same]
      split
      · simp [hj]
      · rw [h.tl]; omega
    · rw [upd_ne e1, ← h.tl j]
      split
      · simp [e1]
      · rfl
  · split
    · next h0 =>
      rw [List.nodup_append]
      refine ⟨h.nd, by simp, fun a ha b hb => ?_⟩
      simp at hb
      subst hb
      intro e
      subst e
      have := ((h.tl _).1 ha).2
      omega
    · exact h.nd

/-- While classes are cut: those of todo are not yet. -/
structure Cutting (n K0 : Nat) (c0 : Nat → Nat) (S todo : List Nat) (K : Nat) (o p c b e k : Nat → Nat) : Prop where
  parted : Parted n K o p c b e
  k0 : K0 ≤ K
  le : ∀ j, j < K → b j + k j ≤ e j
  rest : ∀ j, j ∈ todo → j < K0 ∧ 0 < k j ∧ ∀ i, b j ≤ i → i < e j → (i < b j + k j ↔ o i ∈ S)
  zero : ∀ j, j < K → j ∉ todo → k j = 0
  keep : ∀ s, s < n → c s = c0 s ∨ K0 ≤ c s
  nd : todo.Nodup
  old : ∀ s, s < n → c0 s ∈ todo → c s = c0 s
  same : ∀ s t, s < n → t < n → (c s = c t ↔ c0 s = c0 t ∧ (c0 s ∉ todo → (s ∈ S ↔ t ∈ S)))

theorem Cutting.start {S touched : List Nat} (h : Picking n K o p c b e k S touched) : Cutting n K c S touched K o p c b e k := by
  refine ⟨h.parted, Nat.le_refl _, h.le, fun j hj => ⟨((h.tl j).1 hj).1, ((h.tl j).1 hj).2, h.pick j ((h.tl j).1 hj).1⟩, fun j hj hn => ?_, fun s _ => .inl rfl, h.nd, fun s _ _ => rfl, fun s t hs ht => ?_⟩
  · have : ¬ (j < K ∧ 0 < k j) := fun hc => hn ((h.tl j).2 hc)
    omega
  · constructor
    · intro he
      refine ⟨he, fun hn => ?_⟩
      have hk : k (c s) = 0 := by
        have : ¬ (c s < K ∧ 0 < k (c s)) := fun hc => hn ((h.tl _).2 hc)
        have := h.parted.ck s hs
        omega
      have no : ∀ x, x < n → c x = c s → x ∉ S := fun x hx hxc hxS => by
        have := (h.pick (c x) (h.parted.ck x hx) (p x) (h.parted.cb x hx) (h.parted.ce x hx)).2 (by rw [h.parted.op x hx]; exact hxS)
        have := h.parted.cb x hx
        rw [hxc] at *
        omega
      simp [no s hs rfl, no t ht he.symm]
    · exact fun h => h.1

/-- A class whose states are all picked stays. -/
theorem Cutting.stay {K0 : Nat} {c0 : Nat → Nat} {S todo : List Nat} {j : Nat} (h : Cutting n K0 c0 S (j :: todo) K o p c b e k) (hat : ¬ b j + k j < e j) : Cutting n K0 c0 S todo K o p c b e (upd k j 0) := by
  obtain ⟨hj0, hk, hpick⟩ := h.rest j (by simp)
  have hjK : j < K := Nat.lt_of_lt_of_le hj0 h.k0
  have hnj := (List.nodup_cons.1 h.nd).1
  refine ⟨h.parted, h.k0, fun i hi => ?_, fun i hi => ?_, fun i hi hn => ?_, h.keep, (List.nodup_cons.1 h.nd).2, fun s hs hc => h.old s hs (by simp [hc]), fun s t hs ht => ?_⟩
  · by_cases e1 : i = j
    · subst e1; rw [upd_same]; have := h.parted.be i hi; omega
    · rw [upd_ne e1]; exact h.le i hi
  · obtain ⟨a1, a2, a3⟩ := h.rest i (by simp [hi])
    have e1 : i ≠ j := fun e => hnj (e ▸ hi)
    rw [upd_ne e1]
    exact ⟨a1, a2, a3⟩
  · by_cases e1 : i = j
    · subst e1; rw [upd_same]
    · rw [upd_ne e1]; exact h.zero i hi (by simp [e1, hn])
  · rw [h.same s t hs ht]
    refine and_congr_right fun he => ?_
    by_cases e1 : c0 s = j
    · have all : ∀ x, x < n → c0 x = j → x ∈ S := fun x hx hxc => by
        have hc : c x = j := by rw [h.old x hx (by simp [hxc]), hxc]
        have h1 := h.parted.cb x hx
        have h2 := h.parted.ce x hx
        rw [hc] at h1 h2
        have := (hpick (p x) h1 h2).1 (by omega)
        rwa [h.parted.op x hx] at this
      simp [all s hs e1, all t ht (by rw [← he, e1])]
    · simp [e1]

/-- A class is cut: [lo, hi) is the new one, [lo', hi') stays. -/
theorem Parted.cut (h : Parted n K o p c b e) {j lo hi lo' hi' : Nat} (hj : j < K) (h1 : lo < hi) (h2 : lo' < hi') (hs : (lo = b j ∧ hi = lo' ∧ hi' = e j) ∨ (lo' = b j ∧ hi' = lo ∧ hi = e j)) :
    Parted n (K + 1) o p (fun s => if lo ≤ p s ∧ p s < hi then K else c s) (upd (upd b j lo') K lo) (upd (upd e j hi') K hi) := by
  have hjK : j ≠ K := by omega
  have hen := h.en j hj
  refine ⟨h.on, h.po, h.pn, h.op, fun s hs' => ?_, fun s hs' => ?_, fun s hs' => ?_, fun i hi => ?_, fun i hi => ?_, fun i hi q hq1 hq2 => ?_⟩
  · have := h.ck s hs'; split <;> omega
  · skip
    split
    · next hc => rw [upd_same]; exact hc.1
    · next hc =>
      have hck := h.ck s hs'
      have hcb := h.cb s hs'
      have hce := h.ce s hs'
      rw [upd_ne (by omega)]
      by_cases e1 : c s = j
      · rw [e1] at hcb hce ⊢
        rw [upd_same]
        omega
      · rw [upd_ne e1]; exact hcb
  · skip
    split
    · next hc => rw [upd_same]; exact hc.2
    · next hc =>
      have hck := h.ck s hs'
      have hcb := h.cb s hs'
      have hce := h.ce s hs'
      rw [upd_ne (by omega)]
      by_cases e1 : c s = j
      · rw [e1] at hcb hce ⊢
        rw [upd_same]
        omega
      · rw [upd_ne e1]; exact hce
  · by_cases e0 : i = K
    · subst e0; rw [upd_same, upd_same]; exact h1
    · rw [upd_ne e0, upd_ne e0]
      by_cases e1 : i = j
      · subst e1; rw [upd_same, upd_same]; exact h2
      · rw [upd_ne e1, upd_ne e1]; exact h.be i (by omega)
  · by_cases e0 : i = K
    · subst e0; rw [upd_same]; omega
    · rw [upd_ne e0]
      by_cases e1 : i = j
      · subst e1; rw [upd_same]; omega
      · rw [upd_ne e1]; exact h.en i (by omega)
  · by_cases e0 : i = K
    · subst e0
      rw [upd_same] at hq1 hq2
      have hqn : q < n := by omega
      rw [h.po q hqn, if_pos ⟨hq1, hq2⟩]
    · rw [upd_ne e0] at hq1 hq2
      by_cases e1 : i = j
      · subst e1
        rw [upd_same] at hq1 hq2
        have hqn : q < n := by omega
        rw [h.po q hqn, if_neg (by omega)]
        exact h.co i hj q (by omega) (by omega)
      · rw [upd_ne e1] at hq1 hq2
        have hiK : i < K := by omega
        have hqn : q < n := by have := h.en i hiK; omega
        have hco := h.co i hiK q hq1 hq2
        rw [h.po q hqn, if_neg]
        · exact hco
        · intro hc
          have := h.co j hj q (by omega) (by omega)
          exact e1 (hco.symm.trans this)

theorem Cutting.cut {K0 : Nat} {c0 : Nat → Nat} {S todo : List Nat} {j lo hi lo' hi' : Nat} (h : Cutting n K0 c0 S (j :: todo) K o p c b e k) (hat : b j + k j < e j)
    (hs : (lo = b j ∧ hi = b j + k j ∧ lo' = b j + k j ∧ hi' = e j) ∨ (lo' = b j ∧ hi' = b j + k j ∧ lo = b j + k j ∧ hi = e j)) :
    Cutting n K0 c0 S todo (K + 1) o p (fun s => if lo ≤ p s ∧ p s < hi then K else c s) (upd (upd b j lo') K lo) (upd (upd e j hi') K hi) (upd (upd k j 0) K 0) := by
  obtain ⟨hj0, hk, hpick⟩ := h.rest j (by simp)
  have hjK : j < K := Nat.lt_of_lt_of_le hj0 h.k0
  have hnj := (List.nodup_cons.1 h.nd).1
  have hk0 := h.k0
  have hP := h.parted.cut (lo := lo) (hi := hi) (lo' := lo') (hi' := hi') hjK (by omega) (by omega) (by omega)
  have hin : ∀ s, s < n → (lo ≤ p s ∧ p s < hi) → c s = j := fun s hs' hc => (h.parted.mem hjK hs').2 ⟨by omega, by omega⟩
  have hins : ∀ s, s < n → c s = j → (s ∈ S ↔ p s < b j + k j) := fun s hs' hc => by
    have := (h.parted.mem hjK hs').1 hc
    have := hpick (p s) this.1 this.2
    rw [h.parted.op s hs'] at this
    exact this.symm
  have hold : ∀ s, s < n → (c0 s = j ↔ c s = j) := fun s hs' => by
    constructor
    · intro hc; rw [h.old s hs' (by simp [hc]), hc]
    · intro hc
      rcases h.keep s hs' with h1 | h1
      · rw [← h1, hc]
      · omega
  refine ⟨hP, by omega, fun i hi2 => ?_, fun i hi2 => ?_, fun i hi2 hn => ?_, fun s hs' => ?_, (List.nodup_cons.1 h.nd).2, fun s hs' hc => ?_, fun s t hs' ht' => ?_⟩
  · by_cases e0 : i = K
    · subst e0; rw [upd_same, upd_same, upd_same]; omega
    · rw [upd_ne e0, upd_ne e0, upd_ne e0]
      by_cases e1 : i = j
      · subst e1; rw [upd_same, upd_same, upd_same]; omega
      · rw [upd_ne e1, upd_ne e1, upd_ne e1]; exact h.le i (by omega)
  · obtain ⟨a1, a2, a3⟩ := h.rest i (by simp [hi2])
    have e1 : i ≠ j := fun e => hnj (e ▸ hi2)
    have e0 : i ≠ K := by omega
    rw [upd_ne e0, upd_ne e1, upd_ne e0, upd_ne e1, upd_ne e0, upd_ne e1]
    exact ⟨a1, a2, a3⟩
  · by_cases e0 : i = K
    · subst e0; rw [upd_same]
    · rw [upd_ne e0]
      by_cases e1 : i = j
      · subst e1; rw [upd_same]
      · rw [upd_ne e1]; exact h.zero i (by omega) (by simp [e1, hn])
  · skip
    split
    · right; omega
    · exact h.keep s hs'
  · have e1 : c0 s ≠ j := fun e => hnj (e ▸ hc)
    rw [if_neg (fun hx => e1 ((hold s hs').2 (hin s hs' hx)))]
    exact h.old s hs' (by simp [hc])
  · have hss := h.same s t hs' ht'
    by_cases e1 : c0 s = j
    · have e1c := (hold s hs').1 e1
      have m1 := (h.parted.mem hjK hs').1 e1c
      have i1 := hins s hs' e1c
      have hnt : c0 s ∉ todo := by rw [e1]; exact hnj
      by_cases e2 : c0 t = j
      · have e2c := (hold t ht').1 e2
        have m2 := (h.parted.mem hjK ht').1 e2c
        have i2 := hins t ht' e2c
        rw [e1, e2, e1c, e2c]
        simp only [true_and, hnj, not_false_eq_true, forall_const]
        rw [i1, i2]
        have hKj : K ≠ j := by omega
        have hjK' : j ≠ K := by omega
        rcases hs with ⟨r1, r2, r3, r4⟩ | ⟨r1, r2, r3, r4⟩
        · rw [r1, r2]
          by_cases f1 : p s < b j + k j
          · by_cases f2 : p t < b j + k j
            · rw [if_pos ⟨by omega, f1⟩, if_pos ⟨by omega, f2⟩]; simp [f1, f2]
            · rw [if_pos ⟨by omega, f1⟩, if_neg (by omega)]; simp [f1, f2, hKj]
          · by_cases f2 : p t < b j + k j
            · rw [if_neg (by omega), if_pos ⟨by omega, f2⟩]; simp [f1, f2, hjK']
            · rw [if_neg (by omega), if_neg (by omega)]; simp [f1, f2]
        · rw [r3, r4]
          by_cases f1 : p s < b j + k j
          · by_cases f2 : p t < b j + k j
            · rw [if_neg (by omega), if_neg (by omega)]; simp [f1, f2]
            · rw [if_neg (by omega), if_pos (by omega)]; simp [f1, f2, hjK']
          · by_cases f2 : p t < b j + k j
            · rw [if_pos (by omega), if_neg (by omega)]; simp [f1, f2, hKj]
            · rw [if_pos (by omega), if_pos (by omega)]; simp [f1, f2]
      · have e2c : c t ≠ j := fun e => e2 ((hold t ht').2 e)
        rw [if_neg (fun hx => e2c (hin t ht' hx))]
        have hct := h.parted.ck t ht'
        constructor
        · intro hx
          exfalso
          split at hx
          · omega
          · rw [e1c] at hx; exact e2c hx.symm
        · rintro ⟨hx, _⟩
          exact absurd (by rw [← hx, e1]) e2
    · have e1c : c s ≠ j := fun e => e1 ((hold s hs').2 e)
      rw [if_neg (fun hx => e1c (hin s hs' hx))]
      have hcs := h.parted.ck s hs'
      by_cases e2 : c0 t = j
      · have e2c := (hold t ht').1 e2
        constructor
        · intro hx
          exfalso
          split at hx
          · omega
          · rw [e2c] at hx; exact e1c hx
        · rintro ⟨hx, _⟩
          exact absurd (by rw [hx, e2]) e1
      · have e2c : c t ≠ j := fun e => e2 ((hold t ht').2 e)
        rw [if_neg (fun hx => e2c (hin t ht' hx)), hss]
        simp [e1]

/-- What parting by S does. -/
structure PartOf (n K : Nat) (c : Nat → Nat) (S : Nat → Prop) (K' : Nat) (c' : Nat → Nat) : Prop where
  le : K ≤ K'
  keep : ∀ s, s < n → c' s = c s ∨ K ≤ c' s
  same : ∀ s t, s < n → t < n → (c' s = c' t ↔ c s = c t ∧ (S s ↔ S t))
theorem Cutting.done {K0 : Nat} {c0 : Nat → Nat} {S : List Nat} (h : Cutting n K0 c0 S [] K o p c b e k) : PartOf n K0 c0 (· ∈ S) K c ∧ Parted n K o p c b e ∧ ∀ j, j < K → k j = 0 :=
  ⟨⟨h.k0, h.keep, fun s t hs ht => by simpa using h.same s t hs ht⟩, h.parted, fun j hj => h.zero j hj (by simp)⟩
end

/-- All classes ahead of the k-th have been gone through. -/
structure Hop (δ : Nat → Nat → Nat) (m : Nat → Bool) (n l K : Nat) (c : Nat → Nat) (k : Nat) : Prop where
  keeps : ∀ s t, s < n → t < n → c s = c t → m s = m t
  coarse : ∀ s t, s < n → t < n → Ner δ m l s t → c s = c t
  through : ∀ s t a, s < n → t < n → a < l → c s = c t → c (δ s a) < k → c (δ t a) < k → c (δ s a) = c (δ t a)
section
variable {δ : Nat → Nat → Nat} {m : Nat → Bool} {n l : Nat}
theorem Hop.start {K : Nat} {c : Nat → Nat} (h : PartOf n 1 (fun _ => 0) (fun s => m s = true) K c) : Hop δ m n l K c 0 :=
  ⟨fun s t hs ht e => by
      have := ((h.same s t hs ht).1 e).2
      cases h1 : m s <;> cases h2 : m t <;> simp [h1, h2] at this ⊢, fun s t hs ht e => (h.same s t hs ht).2 ⟨rfl, by rw [e.mark]⟩, fun s t a _ _ _ _ h1 => by omega⟩
/-- While the letters of the k-th are gone through. -/
structure HopIn (δ : Nat → Nat → Nat) (m : Nat → Bool) (n l k K0 : Nat) (c0 : Nat → Nat) (K : Nat) (c : Nat → Nat) (a : Nat) : Prop where
  le : K0 ≤ K
  keep : ∀ s, s < n → c s = c0 s ∨ K0 ≤ c s
  fine : ∀ s t, s < n → t < n → c s = c t → c0 s = c0 t
  coarse : ∀ s t, s < n → t < n → Ner δ m l s t → c s = c t
  by_ : ∀ s t b, s < n → t < n → b < a → c s = c t → (c0 (δ s b) = k ↔ c0 (δ t b) = k)
theorem HopIn.start {k K : Nat} {c : Nat → Nat} (h : Hop δ m n l K c k) : HopIn δ m n l k K c K c 0 :=
  ⟨Nat.le_refl _, fun s _ => .inl rfl, fun _ _ _ _ e => e, h.coarse, fun s t b _ _ hb => by omega⟩
theorem HopIn.step {k K0 K K' : Nat} {c0 c c' : Nat → Nat} {a : Nat} (h0 : Hop δ m n l K0 c0 k) (hδ : ∀ s a, s < n → a < l → δ s a < n) (ha : a < l) (h : HopIn δ m n l k K0 c0 K c a) (hp : PartOf n K c (fun s => c0 (δ s a) = k) K' c') : HopIn δ m n l k K0 c0 K' c' (a + 1) := by
  have hle := h.le
  have hle' := hp.le
  refine ⟨by omega, fun s hs => ?_, fun s t hs ht e => h.fine s t hs ht ((hp.same s t hs ht).1 e).1, fun s t hs ht e => ?_, fun s t b hs ht hb e => ?_⟩
  · rcases hp.keep s hs with h1 | h1
    · rw [h1]; exact h.keep s hs
    · right; omega
  · refine (hp.same s t hs ht).2 ⟨h.coarse s t hs ht e, ?_⟩
    rw [h0.coarse _ _ (hδ _ _ hs ha) (hδ _ _ ht ha) (e.step ha)]
  · have he := (hp.same s t hs ht).1 e
    by_cases e1 : b = a
    · subst e1; exact he.2
    · exact h.by_ s t b hs ht (by omega) he.1
theorem HopIn.done {k K0 K : Nat} {c0 c : Nat → Nat} (h0 : Hop δ m n l K0 c0 k) (hδ : ∀ s a, s < n → a < l → δ s a < n) (hk : k < K0) (h : HopIn δ m n l k K0 c0 K c l) : Hop δ m n l K c (k + 1) := by
  refine ⟨fun s t hs ht e => h0.keeps s t hs ht (h.fine s t hs ht e), h.coarse, fun s t a hs ht ha e h1 h2 => ?_⟩
  have hle := h.le
  have e0 := h.fine s t hs ht e
  have k1 : c (δ s a) = c0 (δ s a) := by
    rcases h.keep _ (hδ _ _ hs ha) with hx | hx
    · exact hx
    · omega
  have k2 : c (δ t a) = c0 (δ t a) := by
    rcases h.keep _ (hδ _ _ ht ha) with hx | hx
    · exact hx
    · omega
  have hb := h.by_ s t a hs ht ha e
  rw [k1, k2]
  rw [k1] at h1
  rw [k2] at h2
  by_cases f1 : c0 (δ s a) = k
  · rw [f1, hb.1 f1]
  · have f2 : c0 (δ t a) ≠ k := fun hx => f1 (hb.2 hx)
    exact h0.through s t a hs ht ha e0 (by omega) (by omega)
/-- At the end classes are what no word tells apart. -/
theorem Hop.end {K : Nat} {c : Nat → Nat} (h : Hop δ m n l K c K) (hδ : ∀ s a, s < n → a < l → δ s a < n) (hc : ∀ s, s < n → c s < K) {s t : Nat} (hs : s < n) (ht : t < n) : c s = c t ↔ Ner δ m l s t :=
  ⟨fun e => ner_of_stable hδ h.keeps (fun p q a hp hq ha e => h.through p q a hp hq ha e (hc _ (hδ _ _ hp ha)) (hc _ (hδ _ _ hq ha))) s t hs ht e, h.coarse s t hs ht⟩
end

/-- Where a letter comes from. -/
def backL (δ : Nat → Nat → Nat) (n a s : Nat) : List Nat := (List.range n).filter fun t => δ t a == s
theorem backL_mem {δ : Nat → Nat → Nat} {n a s t : Nat} : t ∈ backL δ n a s ↔ t < n ∧ δ t a = s := by simp [backL]
theorem backL_nodup (δ : Nat → Nat → Nat) (n a s : Nat) : (backL δ n a s).Nodup := List.Pairwise.filter _ List.nodup_range
theorem backL_snoc (δ : Nat → Nat → Nat) (n a s : Nat) : backL δ (n + 1) a s = if δ n a = s then backL δ n a s ++ [n] else backL δ n a s := by
  simp only [backL, List.range_succ, List.filter_append, List.filter_cons, List.filter_nil]
  by_cases h : δ n a = s
  · simp [h]
  · simp [h]
theorem from_nodup {δ : Nat → Nat → Nat} {n a : Nat} {ms : List Nat} (h : ms.Nodup) : (ms.flatMap (backL δ n a)).Nodup := by
  refine List.pairwise_flatMap.2 ⟨fun s _ => backL_nodup _ _ _ _, ?_⟩
  refine List.Pairwise.imp ?_ h
  intro x y hxy t h1 u h2 e
  subst e
  exact hxy ((backL_mem.1 h1).2.symm.trans (backL_mem.1 h2).2)
theorem from_mem {δ : Nat → Nat → Nat} {n a t : Nat} {ms : List Nat} : t ∈ ms.flatMap (backL δ n a) ↔ t < n ∧ δ t a ∈ ms := by
  simp only [List.mem_flatMap, backL_mem]
  constructor
  · rintro ⟨s, h1, h2, rfl⟩; exact ⟨h2, h1⟩
  · rintro ⟨h1, h2⟩; exact ⟨_, h2, h1, rfl⟩
theorem from_len {δ : Nat → Nat → Nat} {n a : Nat} {ms : List Nat} (h : ms.Nodup) : (ms.flatMap (backL δ n a)).length ≤ n :=
  nodup_le n _ (from_nodup h) (fun t ht => (from_mem.1 ht).1)

end Go.Proofs.Ytofjboelplknhaa
