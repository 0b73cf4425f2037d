/- Where two transducers say unlike things: words in their order, each pair of states looked at once. Without the program. -/
import Derived.Test.YtdajdnilhjcniaaTnSpec
namespace Go.Proofs.Ytdajdnilhjcniaa
set_option linter.unusedVariables false

/-! With how many letters two words begin alike; what is left behind them. -/
def comT : List Int → List Int → Nat
  | a :: x, b :: y => if a = b then comT x y + 1 else 0
  | _, _ => 0
theorem comT_le (x y : List Int) : comT x y ≤ x.length ∧ comT x y ≤ y.length := by
  induction x generalizing y with
  | nil => cases y <;> simp [comT]
  | cons a x ih =>
    cases y with
    | nil => simp [comT]
    | cons b y =>
      simp only [comT]
      split
      · have := ih y; simp only [List.length_cons]; omega
      · simp
theorem comT_take (x y : List Int) : x.take (comT x y) = y.take (comT x y) := by
  induction x generalizing y with
  | nil => cases y <;> simp [comT]
  | cons a x ih =>
    cases y with
    | nil => simp [comT]
    | cons b y =>
      simp only [comT]
      split
      · rename_i h; subst h; simp [ih y]
      · simp
theorem comT_drop (x y : List Int) : comT (x.drop (comT x y)) (y.drop (comT x y)) = 0 := by
  induction x generalizing y with
  | nil => cases y <;> simp [comT]
  | cons a x ih =>
    cases y with
    | nil => simp [comT]
    | cons b y =>
      simp only [comT]
      split
      · simpa using ih y
      · rename_i h; simp [comT, h]
/-- As it is counted: n letters are alike, and then not. -/
theorem comT_is {x y : List Int} {n : Nat} (hx : n ≤ x.length) (hy : n ≤ y.length) (hs : ∀ j, j < n → x.getD j 0 = y.getD j 0) (he : n < x.length → n < y.length → x.getD n 0 ≠ y.getD n 0) : comT x y = n := by
  induction x generalizing y n with
  | nil => have : n = 0 := by simpa using hx
           subst this; cases y <;> simp [comT]
  | cons a x ih =>
    cases y with
    | nil => have : n = 0 := by simpa using hy
             subst this; simp [comT]
    | cons b y =>
      cases n with
      | zero =>
        have := he (by simp) (by simp)
        simp at this
        simp [comT, this]
      | succ n =>
        have h0 := hs 0 (by omega)
        simp at h0
        simp only [comT, h0, if_true]
        rw [ih (by simpa using hx) (by simpa using hy) (fun j hj => by have := hs (j + 1) (by omega); simpa using this) (fun h1 h2 => by have := he (by simpa using h1) (by simpa using h2); simpa using this)]
theorem com_nil {m n e f : List Int} (h0 : comT m n = 0) (h : m ++ e = n ++ f) : m = [] ∨ n = [] := by
  cases m with
  | nil => exact .inl rfl
  | cons a m =>
    cases n with
    | nil => exact .inr rfl
    | cons b n =>
      simp only [List.cons_append, List.cons.injEq] at h
      simp [comT, h.1] at h0

/-- What is said ahead and behind can be told from the end alone. -/
theorem say_swap {a b a' b' e f r s : List Int} (h : a ++ e = b ++ f) (h' : a' ++ e = b' ++ f) (hr : a ++ r = b ++ s) : a' ++ r = b' ++ s := by
  have hl := congrArg List.length h
  have hl' := congrArg List.length h'
  simp only [List.length_append] at hl hl'
  rcases List.append_eq_append_iff.1 h with ⟨d, hd1, hd2⟩ | ⟨d, hd1, hd2⟩
  · -- b = a ++ d, e = d ++ f
    rcases List.append_eq_append_iff.1 h' with ⟨d', hd1', hd2'⟩ | ⟨d', hd1', hd2'⟩
    · have e1 : d = d' := by
        rw [hd2] at hd2'
        exact (List.append_inj' hd2' rfl).1
      subst e1
      rw [hd1, List.append_assoc] at hr
      have := List.append_cancel_left hr
      rw [hd1', this, List.append_assoc]
    · have e0 : d.length = 0 ∧ d'.length = 0 := by
        have h1 := congrArg List.length hd1
        have h2 := congrArg List.length hd1'
        simp only [List.length_append] at h1 h2
        omega
      have ed := List.length_eq_zero_iff.1 e0.1
      have ed' := List.length_eq_zero_iff.1 e0.2
      subst ed ed'
      simp only [List.append_nil] at hd1 hd1'
      subst hd1 hd1'
      rw [List.append_cancel_left hr]
  · rcases List.append_eq_append_iff.1 h' with ⟨d', hd1', hd2'⟩ | ⟨d', hd1', hd2'⟩
    · have e0 : d.length = 0 ∧ d'.length = 0 := by
        have h1 := congrArg List.length hd1
        have h2 := congrArg List.length hd1'
        simp only [List.length_append] at h1 h2
        omega
      have ed := List.length_eq_zero_iff.1 e0.1
      have ed' := List.length_eq_zero_iff.1 e0.2
      subst ed ed'
      simp only [List.append_nil] at hd1 hd1'
      subst hd1 hd1'
      rw [List.append_cancel_left hr]
    · have e1 : d = d' := by
        rw [hd2] at hd2'
        exact (List.append_inj' hd2' rfl).1
      subst e1
      rw [hd1, List.append_assoc] at hr
      have := List.append_cancel_left hr
      rw [hd1', List.append_assoc, this]

/-! Pairs of states. -/
def aT (x : TrI) (w : List Nat) : List Int := x.F ++ ruT x x.S.toNat w
def stT (x : TrI) (w : List Nat) : Nat := goT x x.S.toNat w
theorem saysT_eq (x : TrI) (w : List Nat) : saysT x w = aT x w ++ x.E.getD (stT x w) [] := rfl
theorem aT_snoc (x : TrI) (w : List Nat) (l : Nat) : aT x (w ++ [l]) = aT x w ++ syT x (stT x w) l := by unfold aT stT; rw [ruT_snoc, List.append_assoc]
theorem stT_snoc (x : TrI) (w : List Nat) (l : Nat) : stT x (w ++ [l]) = nxT x (stT x w) l := goT_snoc _ _ _ _
def AlikeT (x y : TrI) (w : List Nat) : Prop := saysT x w = saysT y w
/-- A pair as one number. -/
def prT (x y : TrI) (w : List Nat) : Nat := stT x w * y.N.length + stT y w
def kidsT (I : Nat) (w : List Nat) : List (List Nat) := (List.range I).map fun l => w ++ [l]

/-- Behind i looks: the words that have come up, and the pairs that have been met. -/
inductive Qst (x y : TrI) (I : Nat) : Nat → List (List Nat) → List Nat → Prop
  | start : Qst x y I 0 [[]] []
  | old {i : Nat} {ws : List (List Nat)} {S : List Nat} (h : Qst x y I i ws S) (hi : i < ws.length) (ha : AlikeT x y (ws.getD i [])) (hs : prT x y (ws.getD i []) ∈ S) : Qst x y I (i + 1) ws S
  | new {i : Nat} {ws : List (List Nat)} {S : List Nat} (h : Qst x y I i ws S) (hi : i < ws.length) (ha : AlikeT x y (ws.getD i [])) (hs : prT x y (ws.getD i []) ∉ S) : Qst x y I (i + 1) (ws ++ kidsT I (ws.getD i [])) (S ++ [prT x y (ws.getD i [])])

section
variable {x y : TrI} {I : Nat}
theorem Qst.one {i : Nat} {ws ws' : List (List Nat)} {S S' : List Nat} (h : Qst x y I i ws S) (k : Qst x y I i ws' S') : ws = ws' ∧ S = S' := by
  induction i generalizing ws ws' S S' with
  | zero =>
    cases h
    cases k
    exact ⟨rfl, rfl⟩
  | succ i ih =>
    cases h with
    | old h hi ha hs =>
      cases k with
      | old k _ _ _ => exact ih h k
      | new k _ _ hs' => obtain ⟨rfl, rfl⟩ := ih h k; exact absurd hs hs'
    | new h hi ha hs =>
      cases k with
      | old k _ _ hs' => obtain ⟨rfl, rfl⟩ := ih h k; exact absurd hs' hs
      | new k _ _ _ => obtain ⟨rfl, rfl⟩ := ih h k; exact ⟨rfl, rfl⟩
theorem Qst.back {i : Nat} {ws : List (List Nat)} {S : List Nat} (h : Qst x y I i ws S) : ∀ j, j < i → ∃ ws' S', Qst x y I j ws' S' ∧ j < ws'.length ∧ AlikeT x y (ws'.getD j []) := by
  induction h with
  | start => intro j hj; omega
  | old h hi ha hs ih =>
    rename_i i ws S
    intro j hj
    by_cases e : j = i
    · subst e; exact ⟨_, _, h, hi, ha⟩
    · exact ih j (by omega)
  | new h hi ha hs ih =>
    rename_i i ws S
    intro j hj
    by_cases e : j = i
    · subst e; exact ⟨_, _, h, hi, ha⟩
    · exact ih j (by omega)
/-- What is found: a word to which unlike things are said; or none. -/
def FoundT (x y : TrI) (I : Nat) (w : List Nat) : Prop := ∃ i ws S, Qst x y I i ws S ∧ i < ws.length ∧ w = ws.getD i [] ∧ ¬ AlikeT x y w
def NoneT (x y : TrI) (I : Nat) : Prop := ∃ ws S, Qst x y I ws.length ws S
theorem found_one {w w' : List Nat} (h : FoundT x y I w) (k : FoundT x y I w') : w = w' := by
  obtain ⟨i, ws, S, hq, hi, rfl, hn⟩ := h
  obtain ⟨j, ws', S', hq', hj, rfl, hn'⟩ := k
  rcases Nat.lt_trichotomy i j with h | h | h
  · obtain ⟨ws2, S2, h1, _, h3⟩ := hq'.back i h
    obtain ⟨rfl, rfl⟩ := hq.one h1
    exact absurd h3 hn
  · subst h
    rw [(hq.one hq').1]
  · obtain ⟨ws2, S2, h1, _, h3⟩ := hq.back j h
    obtain ⟨rfl, rfl⟩ := hq'.one h1
    exact absurd h3 hn'
theorem found_none {w : List Nat} (h : FoundT x y I w) (k : NoneT x y I) : False := by
  obtain ⟨i, ws, S, hq, hi, rfl, hn⟩ := h
  obtain ⟨ws', S', hq'⟩ := k
  by_cases hlt : i < ws'.length
  · obtain ⟨ws2, S2, h1, _, h3⟩ := hq'.back i hlt
    obtain ⟨rfl, rfl⟩ := hq.one h1
    exact hn h3
  · rcases Nat.lt_or_ge ws'.length i with h | h
    · obtain ⟨ws2, S2, h1, h2, _⟩ := hq.back _ h
      obtain ⟨rfl, rfl⟩ := hq'.one h1
      exact absurd h2 (Nat.lt_irrefl _)
    · have : i = ws'.length := by omega
      subst this
      obtain ⟨rfl, rfl⟩ := hq.one hq'
      exact absurd hi (Nat.lt_irrefl _)

/-- What holds of the words that have come up. -/
structure QInv (x y : TrI) (I i : Nat) (ws : List (List Nat)) (S : List Nat) : Prop where
  len : ws.length = 1 + I * S.length
  nil : [] ∈ ws
  lets : ∀ w, w ∈ ws → (∀ l, l ∈ w → l < I) ∧ w.length ≤ S.length
  done : ∀ j, j < i → AlikeT x y (ws.getD j []) ∧ prT x y (ws.getD j []) ∈ S
  kids : ∀ p, p ∈ S → ∃ w, w ∈ ws ∧ prT x y w = p ∧ AlikeT x y w ∧ ∀ l, l < I → w ++ [l] ∈ ws
  dif : S.Nodup
  in_ : ∀ p, p ∈ S → ∃ w, (∀ l, l ∈ w → l < I) ∧ prT x y w = p
theorem getD_memL {ws : List (List Nat)} {i : Nat} (h : i < ws.length) : ws.getD i [] ∈ ws := by
  rw [List.getD, List.getElem?_eq_getElem h, Option.getD_some]; exact List.getElem_mem h
theorem Qst.inv {i : Nat} {ws : List (List Nat)} {S : List Nat} (h : Qst x y I i ws S) : QInv x y I i ws S := by
  induction h with
  | start => exact ⟨by simp, by simp, (fun w hw => by simp at hw; subst hw; simp), (fun j hj => by omega), (fun p hp => by simp at hp), by simp, (fun p hp => by simp at hp)⟩
  | old h hi ha hs ih =>
    rename_i i ws S
    refine ⟨ih.len, ih.nil, ih.lets, fun j hj => ?_, ih.kids, ih.dif, ih.in_⟩
    by_cases e : j = i
    · subst e; exact ⟨ha, hs⟩
    · exact ih.done j (by omega)
  | new h hi ha hs ih =>
    rename_i i ws S
    have hw := ih.lets _ (getD_memL hi)
    have hget : ∀ j, j < ws.length → (ws ++ kidsT I (ws.getD i [])).getD j [] = ws.getD j [] := fun j hj => by simp [List.getD, List.getElem?_append_left hj]
    refine ⟨?_, List.mem_append.2 (.inl ih.nil), fun w hm => ?_, fun j hj => ?_, fun p hp => ?_, ?_, fun p hp => ?_⟩
    · rw [List.length_append, List.length_append, ih.len]
      simp only [kidsT, List.length_map, List.length_range, List.length_singleton, Nat.mul_add, Nat.mul_one]
      omega
    · rw [List.length_append, List.length_singleton]
      rcases List.mem_append.1 hm with hm | hm
      · have := ih.lets w hm
        exact ⟨this.1, by omega⟩
      · obtain ⟨l, hl, rfl⟩ := List.mem_map.1 hm
        have hl' : l < I := by simpa using hl
        refine ⟨fun k hk => ?_, by rw [List.length_append, List.length_singleton]; omega⟩
        rcases List.mem_append.1 hk with hk | hk
        · exact hw.1 k hk
        · rw [List.mem_singleton.1 hk]; exact hl'
    · by_cases e : j = i
      · subst e
        rw [hget j hi]
        exact ⟨ha, List.mem_append.2 (.inr (by simp))⟩
      · have hj' : j < i := by omega
        rw [hget j (by omega)]
        exact ⟨(ih.done j hj').1, List.mem_append.2 (.inl (ih.done j hj').2)⟩
    · rcases List.mem_append.1 hp with hp | hp
      · obtain ⟨w, h1, h2, h3, h4⟩ := ih.kids p hp
        exact ⟨w, List.mem_append.2 (.inl h1), h2, h3, fun l hl => List.mem_append.2 (.inl (h4 l hl))⟩
      · rw [List.mem_singleton.1 hp]
        exact ⟨_, List.mem_append.2 (.inl (getD_memL hi)), rfl, ha, fun l hl => List.mem_append.2 (.inr (List.mem_map.2 ⟨l, by simpa using hl, rfl⟩))⟩
    · refine List.nodup_append.2 ⟨ih.dif, by simp, fun p hp q hq => ?_⟩
      rw [List.mem_singleton.1 hq]
      intro e
      subst e
      exact hs hp
    · rcases List.mem_append.1 hp with hp | hp
      · exact ih.in_ p hp
      · rw [List.mem_singleton.1 hp]
        exact ⟨_, hw.1, rfl⟩
theorem nodup_le {S : List Nat} {n : Nat} (h : S.Nodup) (hb : ∀ p, p ∈ S → p < n) : S.length ≤ n := by
  induction n generalizing S with
  | zero =>
    cases S with
    | nil => simp
    | cons p S => have := hb p (by simp); omega
  | succ n ih =>
    have h1 := ih (S := S.filter fun p => decide (p ≠ n)) (h.filter _) (fun p hp => by
      have hm := List.mem_filter.1 hp
      have := hb p hm.1
      have h2 : p ≠ n := by simpa using hm.2
      omega)
    have h2 : S.length ≤ (S.filter fun p => decide (p ≠ n)).length + 1 := by
      clear ih h1 hb
      induction S with
      | nil => simp
      | cons p S ih =>
        have hn := List.nodup_cons.1 h
        by_cases e : p = n
        · subst e
          have : S.filter (fun q => decide (q ≠ p)) = S := List.filter_eq_self.2 fun q hq => by
            have : q ≠ p := fun e => hn.1 (e ▸ hq)
            simpa using this
          rw [List.filter_cons_of_neg (by simp), this, List.length_cons]
          exact Nat.le_refl _
        · have := ih hn.2
          simp [e]
          simpa using this
    omega
theorem prT_lt (hx : ReadT x I) (hy : ReadT y I) {w : List Nat} (hw : ∀ l, l ∈ w → l < I) : stT x w < x.N.length ∧ stT y w < y.N.length ∧ prT x y w < x.N.length * y.N.length := by
  have h1 := hx.st
  have h2 := hy.st
  unfold StT at h1 h2
  have h3 := hx.go w hw (q := x.S.toNat) (by omega)
  have h4 := hy.go w hw (q := y.S.toNat) (by omega)
  refine ⟨h3, h4, ?_⟩
  unfold prT stT
  have : (goT x x.S.toNat w + 1) * y.N.length ≤ x.N.length * y.N.length := Nat.mul_le_mul_right _ h3
  rw [Nat.add_mul, Nat.one_mul] at this
  omega
theorem prT_eq (hy : ReadT y I) {w v : List Nat} (hw : ∀ l, l ∈ w → l < I) (hv : ∀ l, l ∈ v → l < I) (h : prT x y w = prT x y v) : stT x w = stT x v ∧ stT y w = stT y v := by
  have h2 := hy.st
  unfold StT at h2
  have h3 : stT y w < y.N.length := hy.go w hw (by omega)
  have h4 : stT y v < y.N.length := hy.go v hv (by omega)
  unfold prT at h
  have e1 : (stT x w * y.N.length + stT y w) % y.N.length = stT y w := by rw [Nat.mul_comm, Nat.mul_add_mod]; exact Nat.mod_eq_of_lt h3
  have e2 : (stT x v * y.N.length + stT y v) % y.N.length = stT y v := by rw [Nat.mul_comm, Nat.mul_add_mod]; exact Nat.mod_eq_of_lt h4
  have hyy : stT y w = stT y v := by rw [← e1, ← e2, h]
  refine ⟨?_, hyy⟩
  rw [hyy] at h
  have h5 : stT x w * y.N.length = stT x v * y.N.length := by omega
  exact Nat.eq_of_mul_eq_mul_right (by omega) h5
/-- There is room: no more than 36 pairs. -/
theorem Qst.room {i : Nat} {ws : List (List Nat)} {S : List Nat} (h : Qst x y I i ws S) (hx : ReadT x I) (hy : ReadT y I) (h6 : x.N.length ≤ 6) (h6' : y.N.length ≤ 6) : S.length ≤ 36 := by
  have h1 := nodup_le h.inv.dif (n := x.N.length * y.N.length) (fun p hp => by
    obtain ⟨w, hw, rfl⟩ := h.inv.in_ p hp
    exact (prT_lt hx hy hw).2.2)
  have h2 : x.N.length * y.N.length ≤ 6 * 6 := Nat.mul_le_mul h6 h6'
  omega
/-- If none is found, there is none. -/
theorem NoneT.all (h : NoneT x y I) (hy : ReadT y I) (w : List Nat) (hw : ∀ l, l ∈ w → l < I) : AlikeT x y w := by
  obtain ⟨ws, S, hq⟩ := h
  have hv := hq.inv
  have hall : ∀ v, v ∈ ws → AlikeT x y v ∧ prT x y v ∈ S := fun v hm => by
    obtain ⟨j, hj, rfl⟩ := List.getElem_of_mem hm
    have := hv.done j hj
    rwa [List.getD, List.getElem?_eq_getElem hj, Option.getD_some] at this
  have key : ∀ n (w : List Nat), w.length = n → (∀ l, l ∈ w → l < I) → AlikeT x y w ∧ prT x y w ∈ S := by
    intro n
    induction n with
    | zero =>
      intro w hn _
      rw [List.length_eq_zero_iff.1 hn]
      exact hall _ hv.nil
    | succ n ih =>
      intro w hn hw
      obtain ⟨v, l, rfl⟩ : ∃ v l, w = v ++ [l] := ⟨w.dropLast, w.getLast (by intro e; subst e; simp at hn), (List.dropLast_concat_getLast _).symm⟩
      have hvl : ∀ k, k ∈ v → k < I := fun k hk => hw k (List.mem_append.2 (.inl hk))
      have hl : l < I := hw l (by simp)
      obtain ⟨h1, h2⟩ := ih v (by simpa using hn) hvl
      obtain ⟨u, hu, hpu, hau, hku⟩ := hv.kids _ h2
      have hul := (hv.lets u hu).1
      obtain ⟨e1, e2⟩ := prT_eq hy hul hvl hpu
      obtain ⟨h3, h4⟩ := hall _ (hku l hl)
      constructor
      · unfold AlikeT at *
        rw [saysT_eq, saysT_eq, aT_snoc, aT_snoc, stT_snoc, stT_snoc, List.append_assoc, List.append_assoc] at h3 ⊢
        rw [saysT_eq, saysT_eq] at h1 hau
        rw [e1, e2] at hau h3
        exact say_swap hau h1 h3
      · have e3 : prT x y (v ++ [l]) = prT x y (u ++ [l]) := by unfold prT; rw [stT_snoc, stT_snoc, stT_snoc, stT_snoc, e1, e2]
        rw [e3]; exact h4
  exact (key w.length w rfl hw).1
end

/-! What each has said that the other has not said yet. -/
structure MoreT (x y : TrI) (w : List Nat) (m n : List Int) : Prop where
  same : ∃ c, aT x w = c ++ m ∧ aT y w = c ++ n
  com : comT m n = 0
  lm : m.length ≤ 16
  ln : n.length ≤ 16
section
variable {x y : TrI} {I : Nat} {w : List Nat} {m n : List Int}
theorem MoreT.alike (h : MoreT x y w m n) : (m ++ x.E.getD (stT x w) [] = n ++ y.E.getD (stT y w) []) ↔ AlikeT x y w := by
  obtain ⟨c, h1, h2⟩ := h.same
  unfold AlikeT
  rw [saysT_eq, saysT_eq, h1, h2, List.append_assoc, List.append_assoc, List.append_cancel_left_eq]
theorem more_of {a b c p q : List Int} (h1 : a = c ++ p) (h2 : b = c ++ q) : ∃ d, a = d ++ p.drop (comT p q) ∧ b = d ++ q.drop (comT p q) := by
  refine ⟨c ++ p.take (comT p q), ?_, ?_⟩
  · rw [h1, List.append_assoc, List.take_append_drop]
  · rw [h2, List.append_assoc, comT_take, List.take_append_drop]
theorem MoreT.start (h1 : x.F.length ≤ 16) (h2 : y.F.length ≤ 16) : MoreT x y [] (x.F.drop (comT x.F y.F)) (y.F.drop (comT x.F y.F)) :=
  ⟨more_of (c := []) (by simp [aT, ruT]) (by simp [aT, ruT]), comT_drop _ _, by rw [List.length_drop]; omega, by rw [List.length_drop]; omega⟩
theorem MoreT.small (h : MoreT x y w m n) (ha : AlikeT x y w) (he : (x.E.getD (stT x w) []).length ≤ 8) (hf : (y.E.getD (stT y w) []).length ≤ 8) : m.length ≤ 8 ∧ n.length ≤ 8 := by
  have h1 := h.alike.2 ha
  have h2 := congrArg List.length h1
  simp only [List.length_append] at h2
  rcases com_nil h.com h1 with e | e
  · subst e; simp only [List.length_nil] at h2 ⊢; omega
  · subst e; simp only [List.length_nil] at h2 ⊢; omega
theorem MoreT.next (h : MoreT x y w m n) (hm : m.length ≤ 8) (hn : n.length ≤ 8) (l : Nat) (hs : (syT x (stT x w) l).length ≤ 8) (ht : (syT y (stT y w) l).length ≤ 8) :
    MoreT x y (w ++ [l]) ((m ++ syT x (stT x w) l).drop (comT (m ++ syT x (stT x w) l) (n ++ syT y (stT y w) l))) ((n ++ syT y (stT y w) l).drop (comT (m ++ syT x (stT x w) l) (n ++ syT y (stT y w) l))) := by
  obtain ⟨c, h1, h2⟩ := h.same
  refine ⟨more_of (c := c) (by rw [aT_snoc, h1, List.append_assoc]) (by rw [aT_snoc, h2, List.append_assoc]), comT_drop _ _, ?_, ?_⟩
  · rw [List.length_drop, List.length_append]; omega
  · rw [List.length_drop, List.length_append]; omega
end

end Go.Proofs.Ytdajdnilhjcniaa
