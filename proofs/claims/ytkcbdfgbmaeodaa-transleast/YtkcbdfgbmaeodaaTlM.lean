/- Where two transducers say unlike things: words in their order, each pair of states looked at once. Without the program. -/
/- What all words from a state on begin with can be said ahead of it: words that are cut until they agree; what is said stays the same. Without the program. -/
/- Kinds of states: they are parted until those of one kind say the same for ever. Without the program. -/
import Derived.Test.YtkcbdfgbmaeodaaTnSpec
namespace Go.Proofs.Ytkcbdfgbmaeodaa
set_option linter.unusedVariables false

/-! With how many letters two words begin alike; what is left behind them. -/
def comT : List Int → List Int → Nat
  | a :: x, b :: y => if a = b then comT x y + 1 else 0
  | _, _ => 0
theorem comT_le (x y : List Int) : comT x y ≤ x.length ∧ comT x y ≤ y.length := by
  induction x generalizing y with
  | nil => cases y <;> simp [comT]
  | cons a x ih =>
    cases y with
    | nil => simp [comT]
    | cons b y =>
      simp only [comT]
      split
      · have := ih y; simp only [List.length_cons]; omega
      · simp
theorem comT_take (x y : List Int) : x.take (comT x y) = y.take (comT x y) := by
  induction x generalizing y with
  | nil => cases y <;> simp [comT]
  | cons a x ih =>
    cases y with
    | nil => simp [comT]
    | cons b y =>
      simp only [comT]
      split
      · rename_i h; subst h; simp [ih y]
      · simp
theorem comT_drop (x y : List Int) : comT (x.drop (comT x y)) (y.drop (comT x y)) = 0 := by
  induction x generalizing y with
  | nil => cases y <;> simp [comT]
  | cons a x ih =>
    cases y with
    | nil => simp [comT]
    | cons b y =>
      simp only [comT]
      split
      · simpa using ih y
      · rename_i h; simp [comT, h]
/-- As it is counted: n letters are alike, and then not. -/
theorem comT_is {x y : List Int} {n : Nat} (hx : n ≤ x.length) (hy : n ≤ y.length) (hs : ∀ j, j < n → x.getD j 0 = y.getD j 0) (he : n < x.length → n < y.length → x.getD n 0 ≠ y.getD n 0) : comT x y = n := by
  induction x generalizing y n with
  | nil => have : n = 0 := by simpa using hx
           subst this; cases y <;> simp [comT]
  | cons a x ih =>
    cases y with
    | nil => have : n = 0 := by simpa using hy
             subst this; simp [comT]
    | cons b y =>
      cases n with
      | zero =>
        have := he (by simp) (by simp)
        simp at this
        simp [comT, this]
      | succ n =>
        have h0 := hs 0 (by omega)
        simp at h0
        simp only [comT, h0, if_true]
        rw [ih (by simpa using hx) (by simpa using hy) (fun j hj => by have := hs (j + 1) (by omega); simpa using this) (fun h1 h2 => by have := he (by simpa using h1) (by simpa using h2); simpa using this)]
theorem com_nil {m n e f : List Int} (h0 : comT m n = 0) (h : m ++ e = n ++ f) : m = [] ∨ n = [] := by
  cases m with
  | nil => exact .inl rfl
  | cons a m =>
    cases n with
    | nil => exact .inr rfl
    | cons b n =>
      simp only [List.cons_append, List.cons.injEq] at h
      simp [comT, h.1] at h0

/-- What is said ahead and behind can be told from the end alone. -/
theorem say_swap {a b a' b' e f r s : List Int} (h : a ++ e = b ++ f) (h' : a' ++ e = b' ++ f) (hr : a ++ r = b ++ s) : a' ++ r = b' ++ s := by
  have hl := congrArg List.length h
  have hl' := congrArg List.length h'
  simp only [List.length_append] at hl hl'
  rcases List.append_eq_append_iff.1 h with ⟨d, hd1, hd2⟩ | ⟨d, hd1, hd2⟩
  · -- b = a ++ d, e = d ++ f
    rcases List.append_eq_append_iff.1 h' with ⟨d', hd1', hd2'⟩ | ⟨d', hd1', hd2'⟩
    · have e1 : d = d' := by
        rw [hd2] at hd2'
        exact (List.append_inj' hd2' rfl).1
      subst e1
      rw [hd1, List.append_assoc] at hr
      have := List.append_cancel_left hr
      rw [hd1', this, List.append_assoc]
    · have e0 : d.length = 0 ∧ d'.length = 0 := by
        have h1 := congrArg List.length hd1
        have h2 := congrArg List.length hd1'
        simp only [List.length_append] at h1 h2
        omega
      have ed := List.length_eq_zero_iff.1 e0.1
      have ed' := List.length_eq_zero_iff.1 e0.2
      subst ed ed'
      simp only [List.append_nil] at hd1 hd1'
      subst hd1 hd1'
      rw [List.append_cancel_left hr]
  · rcases List.append_eq_append_iff.1 h' with ⟨d', hd1', hd2'⟩ | ⟨d', hd1', hd2'⟩
    · have e0 : d.length = 0 ∧ d'.length = 0 := by
        have h1 := congrArg List.length hd1
        have h2 := congrArg List.length hd1'
        simp only [List.length_append] at h1 h2
        omega
      have ed := List.length_eq_zero_iff.1 e0.1
      have ed' := List.length_eq_zero_iff.1 e0.2
      subst ed ed'
      simp only [List.append_nil] at hd1 hd1'
      subst hd1 hd1'
      rw [List.append_cancel_left hr]
    · have e1 : d = d' := by
        rw [hd2] at hd2'
        exact (List.append_inj' hd2' rfl).1
      subst e1
      rw [hd1, List.append_assoc] at hr
      have := List.append_cancel_left hr
      rw [hd1', List.append_assoc, this]

/-! Pairs of states. -/
def aT (x : TrI) (w : List Nat) : List Int := x.F ++ ruT x x.S.toNat w
def stT (x : TrI) (w : List Nat) : Nat := goT x x.S.toNat w
theorem saysT_eq (x : TrI) (w : List Nat) : saysT x w = aT x w ++ x.E.getD (stT x w) [] := rfl
theorem aT_snoc (x : TrI) (w : List Nat) (l : Nat) : aT x (w ++ [l]) = aT x w ++ syT x (stT x w) l := by unfold aT stT; rw [ruT_snoc, List.append_assoc]
theorem stT_snoc (x : TrI) (w : List Nat) (l : Nat) : stT x (w ++ [l]) = nxT x (stT x w) l := goT_snoc _ _ _ _
def AlikeT (x y : TrI) (w : List Nat) : Prop := saysT x w = saysT y w
/-- A pair as one number. -/
def prT (x y : TrI) (w : List Nat) : Nat := stT x w * y.N.length + stT y w
def kidsT (I : Nat) (w : List Nat) : List (List Nat) := (List.range I).map fun l => w ++ [l]

/-- Behind i looks: the words that have come up, and the pairs that have been met. -/
inductive Qst (x y : TrI) (I : Nat) : Nat → List (List Nat) → List Nat → Prop
  | start : Qst x y I 0 [[]] []
  | old {i : Nat} {ws : List (List Nat)} {S : List Nat} (h : Qst x y I i ws S) (hi : i < ws.length) (ha : AlikeT x y (ws.getD i [])) (hs : prT x y (ws.getD i []) ∈ S) : Qst x y I (i + 1) ws S
  | new {i : Nat} {ws : List (List Nat)} {S : List Nat} (h : Qst x y I i ws S) (hi : i < ws.length) (ha : AlikeT x y (ws.getD i [])) (hs : prT x y (ws.getD i []) ∉ S) : Qst x y I (i + 1) (ws ++ kidsT I (ws.getD i [])) (S ++ [prT x y (ws.getD i [])])

section
variable {x y : TrI} {I : Nat}
theorem Qst.one {i : Nat} {ws ws' : List (List Nat)} {S S' : List Nat} (h : Qst x y I i ws S) (k : Qst x y I i ws' S') : ws = ws' ∧ S = S' := by
  induction i generalizing ws ws' S S' with
  | zero =>
    cases h
    cases k
    exact ⟨rfl, rfl⟩
  | succ i ih =>
    cases h with
    | old h hi ha hs =>
      cases k with
      | old k _ _ _ => exact ih h k
      | new k _ _ hs' => obtain ⟨rfl, rfl⟩ := ih h k; exact absurd hs hs'
    | new h hi ha hs =>
      cases k with
      | old k _ _ hs' => obtain ⟨rfl, rfl⟩ := ih h k; exact absurd hs' hs
      | new k _ _ _ => obtain ⟨rfl, rfl⟩ := ih h k; exact ⟨rfl, rfl⟩
theorem Qst.back {i : Nat} {ws : List (List Nat)} {S : List Nat} (h : Qst x y I i ws S) : ∀ j, j < i → ∃ ws' S', Qst x y I j ws' S' ∧ j < ws'.length ∧ AlikeT x y (ws'.getD j []) := by
  induction h with
  | start => intro j hj; omega
  | old h hi ha hs ih =>
    rename_i i ws S
    intro j hj
    by_cases e : j = i
    · subst e; exact ⟨_, _, h, hi, ha⟩
    · exact ih j (by omega)
  | new h hi ha hs ih =>
    rename_i i ws S
    intro j hj
    by_cases e : j = i
    · subst e; exact ⟨_, _, h, hi, ha⟩
    · exact ih j (by omega)
/-- What is found: a word to which unlike things are said; or none. -/
def FoundT (x y : TrI) (I : Nat) (w : List Nat) : Prop := ∃ i ws S, Qst x y I i ws S ∧ i < ws.length ∧ w = ws.getD i [] ∧ ¬ AlikeT x y w
def NoneT (x y : TrI) (I : Nat) : Prop := ∃ ws S, Qst x y I ws.length ws S
theorem found_one {w w' : List Nat} (h : FoundT x y I w) (k : FoundT x y I w') : w = w' := by
  obtain ⟨i, ws, S, hq, hi, rfl, hn⟩ := h
  obtain ⟨j, ws', S', hq', hj, rfl, hn'⟩ := k
  rcases Nat.lt_trichotomy i j with h | h | h
  · obtain ⟨ws2, S2, h1, _, h3⟩ := hq'.back i h
    obtain ⟨rfl, rfl⟩ := hq.one h1
    exact absurd h3 hn
  · subst h
    rw [(hq.one hq').1]
  · obtain ⟨ws2, S2, h1, _, h3⟩ := hq.back j h
    obtain ⟨rfl, rfl⟩ := hq'.one h1
    exact absurd h3 hn'
theorem found_none {w : List Nat} (h : FoundT x y I w) (k : NoneT x y I) : False := by
  obtain ⟨i, ws, S, hq, hi, rfl, hn⟩ := h
  obtain ⟨ws', S', hq'⟩ := k
  by_cases hlt : i < ws'.length
  · obtain ⟨ws2, S2, h1, _, h3⟩ := hq'.back i hlt
    obtain ⟨rfl, rfl⟩ := hq.one h1
    exact hn h3
  · rcases Nat.lt_or_ge ws'.length i with h | h
    · obtain ⟨ws2, S2, h1, h2, _⟩ := hq.back _ h
      obtain ⟨rfl, rfl⟩ := hq'.one h1
      exact absurd h2 (Nat.lt_irrefl _)
    · have : i = ws'.length := by omega
      subst this
      obtain ⟨rfl, rfl⟩ := hq.one hq'
      exact absurd hi (Nat.lt_irrefl _)

/-- What holds of the words that have come up. -/
structure QInv (x y : TrI) (I i : Nat) (ws : List (List Nat)) (S : List Nat) : Prop where
  len : ws.length = 1 + I * S.length
  nil : [] ∈ ws
  lets : ∀ w, w ∈ ws → (∀ l, l ∈ w → l < I) ∧ w.length ≤ S.length
  done : ∀ j, j < i → AlikeT x y (ws.getD j []) ∧ prT x y (ws.getD j []) ∈ S
  kids : ∀ p, p ∈ S → ∃ w, w ∈ ws ∧ prT x y w = p ∧ AlikeT x y w ∧ ∀ l, l < I → w ++ [l] ∈ ws
  dif : S.Nodup
  in_ : ∀ p, p ∈ S → ∃ w, (∀ l, l ∈ w → l < I) ∧ prT x y w = p
theorem getD_memL {ws : List (List Nat)} {i : Nat} (h : i < ws.length) : ws.getD i [] ∈ ws := by
  rw [List.getD, List.getElem?_eq_getElem h, Option.getD_some]; exact List.getElem_mem h
theorem Qst.inv {i : Nat} {ws : List (List Nat)} {S : List Nat} (h : Qst x y I i ws S) : QInv x y I i ws S := by
  induction h with
  | start => exact ⟨by simp, by simp, (fun w hw => by simp at hw; subst hw; simp), (fun j hj => by omega), (fun p hp => by simp at hp), by simp, (fun p hp => by simp at hp)⟩
  | old h hi ha hs ih =>
    rename_i i ws S
    refine ⟨ih.len, ih.nil, ih.lets, fun j hj => ?_, ih.kids, ih.dif, ih.in_⟩
    by_cases e : j = i
    · subst e; exact ⟨ha, hs⟩
    · exact ih.done j (by omega)
  | new h hi ha hs ih =>
    rename_i i ws S
    have hw := ih.lets _ (getD_memL hi)
    have hget : ∀ j, j < ws.length → (ws ++ kidsT I (ws.getD i [])).getD j [] = ws.getD j [] := fun j hj => by simp [List.getD, List.getElem?_append_left hj]
    refine ⟨?_, List.mem_append.2 (.inl ih.nil), fun w hm => ?_, fun j hj => ?_, fun p hp => ?_, ?_, fun p hp => ?_⟩
    · rw [List.length_append, List.length_append, ih.len]
      simp only [kidsT, List.length_map, List.length_range, List.length_singleton, Nat.mul_add, Nat.mul_one]
      omega
    · rw [List.length_append, List.length_singleton]
      rcases List.mem_append.1 hm with hm | hm
      · have := ih.lets w hm
        exact ⟨this.1, by omega⟩
      · obtain ⟨l, hl, rfl⟩ := List.mem_map.1 hm
        have hl' : l < I := by simpa using hl
        refine ⟨fun k hk => ?_, by rw [List.length_append, List.length_singleton]; omega⟩
        rcases List.mem_append.1 hk with hk | hk
        · exact hw.1 k hk
        · rw [List.mem_singleton.1 hk]; exact hl'
    · by_cases e : j = i
      · subst e
        rw [hget j hi]
        exact ⟨ha, List.mem_append.2 (.inr (by simp))⟩
      · have hj' : j < i := by omega
        rw [hget j (by omega)]
        exact ⟨(ih.done j hj').1, List.mem_append.2 (.inl (ih.done j hj').2)⟩
    · rcases List.mem_append.1 hp with hp | hp
      · obtain ⟨w, h1, h2, h3, h4⟩ := ih.kids p hp
        exact ⟨w, List.mem_append.2 (.inl h1), h2, h3, fun l hl => List.mem_append.2 (.inl (h4 l hl))⟩
      · rw [List.mem_singleton.1 hp]
        exact ⟨_, List.mem_append.2 (.inl (getD_memL hi)), rfl, ha, fun l hl => List.mem_append.2 (.inr (List.mem_map.2 ⟨l, by simpa using hl, rfl⟩))⟩
    · refine List.nodup_append.2 ⟨ih.dif, by simp, fun p hp q hq => ?_⟩
      rw [List.mem_singleton.1 hq]
      intro e
      subst e
      exact hs hp
    · rcases List.mem_append.1 hp with hp | hp
      · exact ih.in_ p hp
      · rw [List.mem_singleton.1 hp]
        exact ⟨_, hw.1, rfl⟩
theorem nodup_leT {S : List Nat} {n : Nat} (h : S.Nodup) (hb : ∀ p, p ∈ S → p < n) : S.length ≤ n := by
  induction n generalizing S with
  | zero =>
    cases S with
    | nil => simp
    | cons p S => have := hb p (by simp); omega
  | succ n ih =>
    have h1 := ih (S := S.filter fun p => decide (p ≠ n)) (h.filter _) (fun p hp => by
      have hm := List.mem_filter.1 hp
      have := hb p hm.1
      have h2 : p ≠ n := by simpa using hm.2
      omega)
    have h2 : S.length ≤ (S.filter fun p => decide (p ≠ n)).length + 1 := by
      clear ih h1 hb
      induction S with
      | nil => simp
      | cons p S ih =>
        have hn := List.nodup_cons.1 h
        by_cases e : p = n
        · subst e
          have : S.filter (fun q => decide (q ≠ p)) = S := List.filter_eq_self.2 fun q hq => by
            have : q ≠ p := fun e => hn.1 (e ▸ hq)
            simpa using this
          rw [List.filter_cons_of_neg (by simp), this, List.length_cons]
          exact Nat.le_refl _
        · have := ih hn.2
          simp [e]
          simpa using this
    omega
theorem prT_lt (hx : ReadT x I) (hy : ReadT y I) {w : List Nat} (hw : ∀ l, l ∈ w → l < I) : stT x w < x.N.length ∧ stT y w < y.N.length ∧ prT x y w < x.N.length * y.N.length := by
  have h1 := hx.st
  have h2 := hy.st
  unfold StT at h1 h2
  have h3 := hx.go w hw (q := x.S.toNat) (by omega)
  have h4 := hy.go w hw (q := y.S.toNat) (by omega)
  refine ⟨h3, h4, ?_⟩
  unfold prT stT
  have : (goT x x.S.toNat w + 1) * y.N.length ≤ x.N.length * y.N.length := Nat.mul_le_mul_right _ h3
  rw [Nat.add_mul, Nat.one_mul] at this
  omega
theorem prT_eq (hy : ReadT y I) {w v : List Nat} (hw : ∀ l, l ∈ w → l < I) (hv : ∀ l, l ∈ v → l < I) (h : prT x y w = prT x y v) : stT x w = stT x v ∧ stT y w = stT y v := by
  have h2 := hy.st
  unfold StT at h2
  have h3 : stT y w < y.N.length := hy.go w hw (by omega)
  have h4 : stT y v < y.N.length := hy.go v hv (by omega)
  unfold prT at h
  have e1 : (stT x w * y.N.length + stT y w) % y.N.length = stT y w := by rw [Nat.mul_comm, Nat.mul_add_mod]; exact Nat.mod_eq_of_lt h3
  have e2 : (stT x v * y.N.length + stT y v) % y.N.length = stT y v := by rw [Nat.mul_comm, Nat.mul_add_mod]; exact Nat.mod_eq_of_lt h4
  have hyy : stT y w = stT y v := by rw [← e1, ← e2, h]
  refine ⟨?_, hyy⟩
  rw [hyy] at h
  have h5 : stT x w * y.N.length = stT x v * y.N.length := by omega
  exact Nat.eq_of_mul_eq_mul_right (by omega) h5
/-- There is room: no more than 36 pairs. -/
theorem Qst.room {i : Nat} {ws : List (List Nat)} {S : List Nat} (h : Qst x y I i ws S) (hx : ReadT x I) (hy : ReadT y I) (h6 : x.N.length ≤ 6) (h6' : y.N.length ≤ 6) : S.length ≤ 36 := by
  have h1 := nodup_leT h.inv.dif (n := x.N.length * y.N.length) (fun p hp => by
    obtain ⟨w, hw, rfl⟩ := h.inv.in_ p hp
    exact (prT_lt hx hy hw).2.2)
  have h2 : x.N.length * y.N.length ≤ 6 * 6 := Nat.mul_le_mul h6 h6'
  omega
/-- If none is found, there is none. -/
theorem NoneT.all (h : NoneT x y I) (hy : ReadT y I) (w : List Nat) (hw : ∀ l, l ∈ w → l < I) : AlikeT x y w := by
  obtain ⟨ws, S, hq⟩ := h
  have hv := hq.inv
  have hall : ∀ v, v ∈ ws → AlikeT x y v ∧ prT x y v ∈ S := fun v hm => by
    obtain ⟨j, hj, rfl⟩ := List.getElem_of_mem hm
    have := hv.done j hj
    rwa [List.getD, List.getElem?_eq_getElem hj, Option.getD_some] at this
  have key : ∀ n (w : List Nat), w.length = n → (∀ l, l ∈ w → l < I) → AlikeT x y w ∧ prT x y w ∈ S := by
    intro n
    induction n with
    | zero =>
      intro w hn _
      rw [List.length_eq_zero_iff.1 hn]
      exact hall _ hv.nil
    | succ n ih =>
      intro w hn hw
      obtain ⟨v, l, rfl⟩ : ∃ v l, w = v ++ [l] := ⟨w.dropLast, w.getLast (by intro e; subst e; simp at hn), (List.dropLast_concat_getLast _).symm⟩
      have hvl : ∀ k, k ∈ v → k < I := fun k hk => hw k (List.mem_append.2 (.inl hk))
      have hl : l < I := hw l (by simp)
      obtain ⟨h1, h2⟩ := ih v (by simpa using hn) hvl
      obtain ⟨u, hu, hpu, hau, hku⟩ := hv.kids _ h2
      have hul := (hv.lets u hu).1
      obtain ⟨e1, e2⟩ := prT_eq hy hul hvl hpu
      obtain ⟨h3, h4⟩ := hall _ (hku l hl)
      constructor
      · unfold AlikeT at *
        rw [saysT_eq, saysT_eq, aT_snoc, aT_snoc, stT_snoc, stT_snoc, List.append_assoc, List.append_assoc] at h3 ⊢
        rw [saysT_eq, saysT_eq] at h1 hau
        rw [e1, e2] at hau h3
        exact say_swap hau h1 h3
      · have e3 : prT x y (v ++ [l]) = prT x y (u ++ [l]) := by unfold prT; rw [stT_snoc, stT_snoc, stT_snoc, stT_snoc, e1, e2]
        rw [e3]; exact h4
  exact (key w.length w rfl hw).1
end

/-! What each has said that the other has not said yet. -/
structure MoreT (x y : TrI) (w : List Nat) (m n : List Int) : Prop where
  same : ∃ c, aT x w = c ++ m ∧ aT y w = c ++ n
  com : comT m n = 0
  lm : m.length ≤ 16
  ln : n.length ≤ 16
section
variable {x y : TrI} {I : Nat} {w : List Nat} {m n : List Int}
theorem MoreT.alike (h : MoreT x y w m n) : (m ++ x.E.getD (stT x w) [] = n ++ y.E.getD (stT y w) []) ↔ AlikeT x y w := by
  obtain ⟨c, h1, h2⟩ := h.same
  unfold AlikeT
  rw [saysT_eq, saysT_eq, h1, h2, List.append_assoc, List.append_assoc, List.append_cancel_left_eq]
theorem more_of {a b c p q : List Int} (h1 : a = c ++ p) (h2 : b = c ++ q) : ∃ d, a = d ++ p.drop (comT p q) ∧ b = d ++ q.drop (comT p q) := by
  refine ⟨c ++ p.take (comT p q), ?_, ?_⟩
  · rw [h1, List.append_assoc, List.take_append_drop]
  · rw [h2, List.append_assoc, comT_take, List.take_append_drop]
theorem MoreT.start (h1 : x.F.length ≤ 16) (h2 : y.F.length ≤ 16) : MoreT x y [] (x.F.drop (comT x.F y.F)) (y.F.drop (comT x.F y.F)) :=
  ⟨more_of (c := []) (by simp [aT, ruT]) (by simp [aT, ruT]), comT_drop _ _, by rw [List.length_drop]; omega, by rw [List.length_drop]; omega⟩
theorem MoreT.small (h : MoreT x y w m n) (ha : AlikeT x y w) (he : (x.E.getD (stT x w) []).length ≤ 8) (hf : (y.E.getD (stT y w) []).length ≤ 8) : m.length ≤ 8 ∧ n.length ≤ 8 := by
  have h1 := h.alike.2 ha
  have h2 := congrArg List.length h1
  simp only [List.length_append] at h2
  rcases com_nil h.com h1 with e | e
  · subst e; simp only [List.length_nil] at h2 ⊢; omega
  · subst e; simp only [List.length_nil] at h2 ⊢; omega
theorem MoreT.next (h : MoreT x y w m n) (hm : m.length ≤ 8) (hn : n.length ≤ 8) (l : Nat) (hs : (syT x (stT x w) l).length ≤ 8) (ht : (syT y (stT y w) l).length ≤ 8) :
    MoreT x y (w ++ [l]) ((m ++ syT x (stT x w) l).drop (comT (m ++ syT x (stT x w) l) (n ++ syT y (stT y w) l))) ((n ++ syT y (stT y w) l).drop (comT (m ++ syT x (stT x w) l) (n ++ syT y (stT y w) l))) := by
  obtain ⟨c, h1, h2⟩ := h.same
  refine ⟨more_of (c := c) (by rw [aT_snoc, h1, List.append_assoc]) (by rw [aT_snoc, h2, List.append_assoc]), comT_drop _ _, ?_, ?_⟩
  · rw [List.length_drop, List.length_append]; omega
  · rw [List.length_drop, List.length_append]; omega
end

end Go.Proofs.Ytkcbdfgbmaeodaa

namespace Go.Proofs.Ytkcbdfgbmaeodaa
set_option linter.unusedVariables false

/-- The word of a state is cut to what it has in common with what a letter says. -/
def cutT (x : TrI) (A : List (List Int)) (s l : Nat) : List (List Int) := A.set s ((A.getD s []).take (comT (A.getD s []) (syT x s l ++ A.getD (nxT x s l) [])))
/-- By the first k letters; the first s states whole. -/
def cutR (x : TrI) (s : Nat) : Nat → List (List Int) → List (List Int)
  | 0, A => A
  | k + 1, A => cutT x (cutR x s k A) s k
def cutA (x : TrI) (I : Nat) : Nat → List (List Int) → List (List Int)
  | 0, A => A
  | s + 1, A => cutR x s I (cutA x I s A)
def sizeW (A : List (List Int)) : Nat := (A.map List.length).sum

theorem sizeW_set {A : List (List Int)} {s : Nat} {u : List Int} (hs : s < A.length) : sizeW (A.set s u) + (A.getD s []).length = sizeW A + u.length := by
  induction A generalizing s with
  | nil => simp at hs
  | cons a A ih =>
    cases s with
    | zero => simp [sizeW]; omega
    | succ s =>
      have := ih (s := s) (by simpa using hs)
      simp only [sizeW, List.set_cons_succ, List.map_cons, List.sum_cons, List.getD_cons_succ] at *
      omega
theorem cutT_len (x : TrI) (A : List (List Int)) (s l : Nat) : (cutT x A s l).length = A.length := by simp [cutT]
theorem cutR_len (x : TrI) (s k : Nat) (A : List (List Int)) : (cutR x s k A).length = A.length := by
  induction k with
  | zero => rfl
  | succ k ih => rw [cutR, cutT_len, ih]
theorem cutA_len (x : TrI) (I s : Nat) (A : List (List Int)) : (cutA x I s A).length = A.length := by
  induction s with
  | zero => rfl
  | succ s ih => rw [cutA, cutR_len, ih]
/-- A cut either leaves all as it was, or less is left. -/
theorem cutT_same {x : TrI} {A : List (List Int)} {s l : Nat} (hs : s < A.length) (h : comT (A.getD s []) (syT x s l ++ A.getD (nxT x s l) []) = (A.getD s []).length) : cutT x A s l = A := by
  unfold cutT
  rw [h, List.take_length]
  refine List.ext_getElem (by simp) fun i h1 h2 => ?_
  by_cases e : i = s
  · subst e; simp [List.getD, hs]
  · rw [List.getElem_set_ne (by omega)]
theorem cutT_size {x : TrI} {A : List (List Int)} {s l : Nat} (hs : s < A.length) : sizeW (cutT x A s l) ≤ sizeW A ∧ (comT (A.getD s []) (syT x s l ++ A.getD (nxT x s l) []) < (A.getD s []).length → sizeW (cutT x A s l) < sizeW A) := by
  have h1 := sizeW_set (A := A) (u := (A.getD s []).take (comT (A.getD s []) (syT x s l ++ A.getD (nxT x s l) []))) hs
  have h2 := (comT_le (A.getD s []) (syT x s l ++ A.getD (nxT x s l) [])).1
  rw [List.length_take, Nat.min_eq_left h2] at h1
  unfold cutT
  omega
theorem cutT_le {x : TrI} {A : List (List Int)} {s l : Nat} (hs : s < A.length) : sizeW (cutT x A s l) = sizeW A → cutT x A s l = A := fun h => by
  have h1 := cutT_size (x := x) (l := l) hs
  have h2 := (comT_le (A.getD s []) (syT x s l ++ A.getD (nxT x s l) [])).1
  refine cutT_same hs ?_
  rcases Nat.lt_or_ge (comT (A.getD s []) (syT x s l ++ A.getD (nxT x s l) [])) (A.getD s []).length with h3 | h3
  · have := h1.2 h3; omega
  · omega
theorem cutR_size {x : TrI} {A : List (List Int)} {s : Nat} (hs : s < A.length) (k : Nat) : sizeW (cutR x s k A) ≤ sizeW A := by
  induction k with
  | zero => exact Nat.le_refl _
  | succ k ih => exact Nat.le_trans (cutT_size (by rw [cutR_len]; exact hs)).1 ih
theorem cutA_size {x : TrI} {I : Nat} {A : List (List Int)} (s : Nat) (hs : s ≤ A.length) : sizeW (cutA x I s A) ≤ sizeW A := by
  induction s with
  | zero => exact Nat.le_refl _
  | succ s ih => exact Nat.le_trans (cutR_size (by rw [cutA_len]; omega) I) (ih (by omega))
/-- If nothing is lost in a round, nothing was cut by any letter. -/
theorem cutR_still {x : TrI} {A : List (List Int)} {s : Nat} (hs : s < A.length) (k : Nat) (h : sizeW (cutR x s k A) = sizeW A) : cutR x s k A = A ∧ ∀ l, l < k → comT (A.getD s []) (syT x s l ++ A.getD (nxT x s l) []) = (A.getD s []).length := by
  induction k with
  | zero => exact ⟨rfl, fun l hl => by omega⟩
  | succ k ih =>
    have h1 := cutR_size (x := x) hs k
    have h2 := cutT_size (x := x) (A := cutR x s k A) (s := s) (l := k) (by rw [cutR_len]; exact hs)
    have h3 : sizeW (cutT x (cutR x s k A) s k) = sizeW A := h
    obtain ⟨e1, e2⟩ := ih (by omega)
    rw [e1] at h2 h3
    have e3 := cutT_le (x := x) (l := k) hs h3
    refine ⟨by rw [cutR, e1, e3], fun l hl => ?_⟩
    by_cases e : l = k
    · subst e
      have h4 := (comT_le (A.getD s []) (syT x s l ++ A.getD (nxT x s l) [])).1
      rcases Nat.lt_or_ge (comT (A.getD s []) (syT x s l ++ A.getD (nxT x s l) [])) (A.getD s []).length with h5 | h5
      · have := h2.2 h5; omega
      · omega
    · exact e2 l (by omega)
theorem cutA_still {x : TrI} {I : Nat} {A : List (List Int)} (n : Nat) (hn : n ≤ A.length) (h : sizeW (cutA x I n A) = sizeW A) : cutA x I n A = A ∧ ∀ s, s < n → ∀ l, l < I → comT (A.getD s []) (syT x s l ++ A.getD (nxT x s l) []) = (A.getD s []).length := by
  induction n with
  | zero => exact ⟨rfl, fun s hs => by omega⟩
  | succ n ih =>
    have h1 := cutA_size (x := x) (I := I) n (show n ≤ A.length by omega)
    have h2 := cutR_size (x := x) (A := cutA x I n A) (s := n) (by rw [cutA_len]; omega) I
    have h3 : sizeW (cutR x n I (cutA x I n A)) = sizeW A := h
    obtain ⟨e1, e2⟩ := ih (by omega) (by omega)
    rw [e1] at h3
    obtain ⟨e3, e4⟩ := cutR_still (show n < A.length by omega) I h3
    refine ⟨by rw [cutA, e1, e3], fun s hs => ?_⟩
    by_cases e : s = n
    · subst e; exact e4
    · exact e2 s (by omega)

/-- Rounds. -/
def rndT (x : TrI) (I n : Nat) : Nat → List (List Int) → List (List Int)
  | 0, A => A
  | k + 1, A => cutA x I n (rndT x I n k A)
theorem rndT_len (x : TrI) (I n k : Nat) (A : List (List Int)) : (rndT x I n k A).length = A.length := by
  induction k with
  | zero => rfl
  | succ k ih => rw [rndT, cutA_len, ih]
theorem rndT_add (x : TrI) (I n j k : Nat) (A : List (List Int)) : rndT x I n (j + k) A = rndT x I n j (rndT x I n k A) := by
  induction j with
  | zero => rw [Nat.zero_add]; rfl
  | succ j ih => rw [Nat.add_right_comm, rndT, ih, rndT]
theorem rndT_rest {x : TrI} {I n : Nat} {B : List (List Int)} (h : cutA x I n B = B) (j : Nat) : rndT x I n j B = B := by
  induction j with
  | zero => rfl
  | succ j ih => rw [rndT, ih, h]
/-- What the words come to: it is one. -/
def SureIs (x : TrI) (I : Nat) (B : List (List Int)) : Prop := (∃ k, B = rndT x I x.N.length k x.E) ∧ cutA x I x.N.length B = B
theorem SureIs.one {x : TrI} {I : Nat} {B B' : List (List Int)} (h : SureIs x I B) (k : SureIs x I B') : B = B' := by
  obtain ⟨⟨i, hi⟩, h2⟩ := h
  obtain ⟨⟨j, hj⟩, k2⟩ := k
  rcases Nat.le_total i j with h3 | h3
  · obtain ⟨d, rfl⟩ : ∃ d, j = d + i := ⟨j - i, by omega⟩
    rw [rndT_add, ← hi, rndT_rest h2] at hj
    exact hj.symm
  · obtain ⟨d, rfl⟩ : ∃ d, i = d + j := ⟨i - j, by omega⟩
    rw [rndT_add, ← hj, rndT_rest k2] at hi
    exact hi

/-- Each word begins what it was cut from. -/
def BegT (A B : List (List Int)) : Prop := A.length = B.length ∧ ∀ s, s < B.length → ∃ r, B.getD s [] = A.getD s [] ++ r
theorem BegT.refl (A : List (List Int)) : BegT A A := ⟨rfl, fun s _ => ⟨[], by simp⟩⟩
theorem BegT.trans {A B C : List (List Int)} (h : BegT A B) (k : BegT B C) : BegT A C := ⟨h.1.trans k.1, fun s hs => by
  obtain ⟨r, hr⟩ := k.2 s hs
  obtain ⟨r', hr'⟩ := h.2 s (by rw [k.1]; exact hs)
  exact ⟨r' ++ r, by rw [hr, hr', List.append_assoc]⟩⟩
theorem cutT_beg (x : TrI) (A : List (List Int)) (s l : Nat) : BegT (cutT x A s l) A := by
  refine ⟨cutT_len _ _ _ _, fun t ht => ?_⟩
  unfold cutT
  by_cases e : t = s
  · subst e
    refine ⟨(A.getD t []).drop (comT (A.getD t []) (syT x t l ++ A.getD (nxT x t l) [])), ?_⟩
    have e2 : ∀ u : List Int, (A.set t u).getD t [] = u := fun u => by simp [List.getD, ht]
    rw [e2, List.take_append_drop]
  · refine ⟨[], ?_⟩
    have e2 : ∀ u : List Int, (A.set s u).getD t [] = A.getD t [] := fun u => by simp only [List.getD]; rw [List.getElem?_set_ne (by omega)]
    rw [e2, List.append_nil]
theorem cutR_beg (x : TrI) (s k : Nat) (A : List (List Int)) : BegT (cutR x s k A) A := by
  induction k with
  | zero => exact BegT.refl A
  | succ k ih => exact (cutT_beg x _ s k).trans ih
theorem cutA_beg (x : TrI) (I s : Nat) (A : List (List Int)) : BegT (cutA x I s A) A := by
  induction s with
  | zero => exact BegT.refl A
  | succ s ih => exact (cutR_beg x s I _).trans ih
theorem rndT_beg (x : TrI) (I n k : Nat) (A : List (List Int)) : BegT (rndT x I n k A) A := by
  induction k with
  | zero => exact BegT.refl A
  | succ k ih => exact (cutA_beg x I n _).trans ih

/-- What a state is sure to say. -/
structure SureT (x : TrI) (I : Nat) (B : List (List Int)) : Prop where
  len : B.length = x.N.length
  last : ∀ s, s < x.N.length → ∃ r, x.E.getD s [] = B.getD s [] ++ r
  step : ∀ s, s < x.N.length → ∀ l, l < I → ∃ r, syT x s l ++ B.getD (nxT x s l) [] = B.getD s [] ++ r
theorem com_beg {u v : List Int} (h : comT u v = u.length) : ∃ r, v = u ++ r := by
  have h1 := comT_take u v
  rw [h, List.take_length] at h1
  exact ⟨v.drop u.length, by conv => rhs; lhs; rw [h1]
                             rw [List.take_append_drop]⟩
theorem SureIs.sure {x : TrI} {I : Nat} {B : List (List Int)} (h : SureIs x I B) (he : x.E.length = x.N.length) : SureT x I B := by
  obtain ⟨⟨k, hk⟩, h2⟩ := h
  have hl : B.length = x.N.length := by rw [hk, rndT_len, he]
  have hb : BegT B x.E := by rw [hk]; exact rndT_beg _ _ _ _ _
  have hs := (cutA_still (x := x) (I := I) (A := B) x.N.length (by omega) (by rw [h2])).2
  exact ⟨hl, fun s hs' => hb.2 s (by rw [he]; exact hs'), fun s hs' l hl' => com_beg (hs s hs' l hl')⟩

/-- One that says ahead what it is sure to say. -/
def pushT (x : TrI) (I : Nat) (B : List (List Int)) : TrI := { x with
  F := x.F ++ B.getD x.S.toNat []
  Y := (List.range x.N.length).map fun s => (List.range I).map fun l => (syT x s l ++ B.getD (nxT x s l) []).drop (B.getD s []).length
  E := (List.range x.N.length).map fun s => (x.E.getD s []).drop (B.getD s []).length }
section
variable {x : TrI} {I : Nat} {B : List (List Int)}
theorem pushT_sy {s l : Nat} (hs : s < x.N.length) (hl : l < I) : syT (pushT x I B) s l = (syT x s l ++ B.getD (nxT x s l) []).drop (B.getD s []).length := by
  have e : (pushT x I B).Y.getD s [] = (List.range I).map fun l => (syT x s l ++ B.getD (nxT x s l) []).drop (B.getD s []).length := by
    simp [pushT, List.getD, hs]
  show ((pushT x I B).Y.getD s []).getD l [] = _
  rw [e]
  simp only [List.getD, List.getElem?_map, List.getElem?_range hl, Option.map_some, Option.getD_some]
theorem pushT_last {s : Nat} (hs : s < x.N.length) : (pushT x I B).E.getD s [] = (x.E.getD s []).drop (B.getD s []).length := by
  simp only [pushT, List.getD, List.getElem?_map, List.getElem?_range hs, Option.map_some, Option.getD_some]
theorem pushT_go (q : Nat) (w : List Nat) : goT (pushT x I B) q w = goT x q w := by
  induction w generalizing q with
  | nil => rfl
  | cons l w ih => exact ih _
theorem pushT_ru (h : SureT x I B) (hr : ReadT x I) (w : List Nat) (hw : ∀ l, l ∈ w → l < I) {q : Nat} (hq : q < x.N.length) : B.getD q [] ++ ruT (pushT x I B) q w = ruT x q w ++ B.getD (goT x q w) [] := by
  induction w generalizing q with
  | nil => simp [ruT, goT]
  | cons l w ih =>
    have hl : l < I := hw l (List.mem_cons.2 (.inl rfl))
    have h1 := ih (fun k hk => hw k (List.mem_cons.2 (.inr hk))) (hr.lt hq hl).1
    obtain ⟨r, hr'⟩ := h.step q hq l hl
    show B.getD q [] ++ (syT (pushT x I B) q l ++ ruT (pushT x I B) (nxT x q l) w) = (syT x q l ++ ruT x (nxT x q l) w) ++ B.getD (goT x (nxT x q l) w) []
    rw [pushT_sy hq hl, hr', List.drop_append_of_le_length (Nat.le_refl _), List.drop_length, List.nil_append, ← List.append_assoc, ← hr', List.append_assoc, h1, List.append_assoc]
/-- What is said stays the same. -/
theorem pushT_says (h : SureT x I B) (hr : ReadT x I) (w : List Nat) (hw : ∀ l, l ∈ w → l < I) : saysT (pushT x I B) w = saysT x w := by
  have hS := hr.st
  unfold StT at hS
  have hq : x.S.toNat < x.N.length := by omega
  have hg := hr.go w hw hq
  obtain ⟨r, he⟩ := h.last _ hg
  show (x.F ++ B.getD x.S.toNat []) ++ ruT (pushT x I B) x.S.toNat w ++ (pushT x I B).E.getD (goT (pushT x I B) x.S.toNat w) [] = x.F ++ ruT x x.S.toNat w ++ x.E.getD (goT x x.S.toNat w) []
  rw [pushT_go, pushT_last hg, List.append_assoc x.F, pushT_ru h hr w hw hq, he, List.drop_append_of_le_length (Nat.le_refl _), List.drop_length, List.nil_append]
  simp
end

end Go.Proofs.Ytkcbdfgbmaeodaa

namespace Go.Proofs.Ytkcbdfgbmaeodaa
set_option linter.unusedVariables false

/-- Two states say the same at once, and lead to the same kinds. -/
def AlkF (x : TrI) (I : Nat) (k : Nat → Nat) (p q : Nat) : Prop := (∀ l, l < I → k (nxT x p l) = k (nxT x q l) ∧ syT x p l = syT x q l) ∧ x.E.getD p [] = x.E.getD q []
section
variable {x : TrI} {I : Nat} {k : Nat → Nat} {p q r : Nat}
theorem AlkF.refl : AlkF x I k p p := ⟨fun l _ => ⟨rfl, rfl⟩, rfl⟩
theorem AlkF.symm (h : AlkF x I k p q) : AlkF x I k q p := ⟨fun l hl => ⟨(h.1 l hl).1.symm, (h.1 l hl).2.symm⟩, h.2.symm⟩
theorem AlkF.trans (h : AlkF x I k p q) (h' : AlkF x I k q r) : AlkF x I k p r := ⟨fun l hl => ⟨(h.1 l hl).1.trans (h'.1 l hl).1, (h.1 l hl).2.trans (h'.1 l hl).2⟩, h.2.trans h'.2⟩
end
/-- The next kinds: the first state that is alike. -/
def NextK (x : TrI) (I n : Nat) (k k' : Nat → Nat) : Prop := ∀ s, s < n → k' s ≤ s ∧ AlkF x I k (k' s) s ∧ ∀ i, i < k' s → ¬ AlkF x I k i s
/-- A kind is its first state. -/
def CanK (n : Nat) (k : Nat → Nat) : Prop := ∀ s, s < n → k s ≤ s ∧ k (k s) = k s ∧ ∀ i, i < k s → k i ≠ k s
section
variable {x : TrI} {I n : Nat} {k k' k'' : Nat → Nat}
theorem NextK.same (h : NextK x I n k k') {p q : Nat} (hp : p < n) (hq : q < n) : k' p = k' q ↔ AlkF x I k p q := by
  obtain ⟨p1, p2, p3⟩ := h p hp
  obtain ⟨q1, q2, q3⟩ := h q hq
  constructor
  · intro e
    rw [e] at p2
    exact p2.symm.trans q2
  · intro a
    rcases Nat.lt_trichotomy (k' p) (k' q) with h1 | h1 | h1
    · exact absurd (p2.trans a) (q3 _ h1)
    · exact h1
    · exact absurd (q2.trans a.symm) (p3 _ h1)
theorem NextK.can (h : NextK x I n k k') : CanK n k' := fun s hs => by
  obtain ⟨h1, h2, h3⟩ := h s hs
  have hk : k' s < n := by omega
  have e : k' (k' s) = k' s := (h.same hk hs).2 h2
  refine ⟨h1, e, fun i hi e2 => ?_⟩
  exact h3 i hi ((h.same (by omega) hs).1 e2)
/-- How many kinds there are. -/
def cntK (k : Nat → Nat) : Nat → Nat
  | 0 => 0
  | n + 1 => cntK k n + if k n = n then 1 else 0
theorem cntK_le (k : Nat → Nat) (n : Nat) : cntK k n ≤ n := by
  induction n with
  | zero => exact Nat.le_refl _
  | succ n ih => unfold cntK; split <;> omega
theorem cntK_mono (h : ∀ s, s < n → k s = s → k' s = s) : cntK k n ≤ cntK k' n ∧ (cntK k n = cntK k' n → ∀ s, s < n → k' s = s → k s = s) := by
  induction n with
  | zero => exact ⟨Nat.le_refl _, fun _ s hs => by omega⟩
  | succ n ih =>
    obtain ⟨h1, h2⟩ := ih (fun s hs => h s (by omega))
    have h3 := h n (by omega)
    unfold cntK
    by_cases e : k n = n
    · have e' := h3 e
      rw [if_pos e, if_pos e']
      refine ⟨by omega, fun heq s hs => ?_⟩
      by_cases es : s = n
      · subst es; exact fun _ => e
      · exact h2 (by omega) s (by omega)
    · rw [if_neg e]
      by_cases e' : k' n = n
      · rw [if_pos e']
        exact ⟨by omega, fun heq => by omega⟩
      · rw [if_neg e']
        refine ⟨by omega, fun heq s hs => ?_⟩
        by_cases es : s = n
        · subst es; exact fun h => absurd h e'
        · exact h2 (by omega) s (by omega)
/-- If what is of one kind now was of one kind before, there are more kinds, or nothing has changed. -/
theorem kinds_more (h : CanK n k) (h' : CanK n k') (hf : ∀ p q, p < n → q < n → k' p = k' q → k p = k q) : cntK k n ≤ cntK k' n ∧ (cntK k n = cntK k' n → ∀ s, s < n → k' s = k s) := by
  have hfix : ∀ s, s < n → k s = s → k' s = s := fun s hs e => by
    obtain ⟨h1, h2, _⟩ := h' s hs
    have e2 := hf (k' s) s (by omega) hs h2
    have h3 := (h s hs).2.2
    rcases Nat.lt_or_ge (k' s) s with h4 | h4
    · exact absurd e2 (h3 _ (by omega))
    · omega
  obtain ⟨c1, c2⟩ := cntK_mono hfix
  refine ⟨c1, fun e s hs => ?_⟩
  obtain ⟨h1, h2, _⟩ := h' s hs
  have e2 := c2 e (k' s) (by omega) h2
  have e3 := hf (k' s) s (by omega) hs h2
  omega
/-- Going on never joins what was parted. -/
theorem next_finer (hN : ∀ s, s < n → ∀ l, l < I → nxT x s l < n) (h : NextK x I n k k') (h' : NextK x I n k' k'') (hf : ∀ p q, p < n → q < n → k' p = k' q → k p = k q) : ∀ p q, p < n → q < n → k'' p = k'' q → k' p = k' q := fun p q hp hq e => by
  have a := (h'.same hp hq).1 e
  refine (h.same hp hq).2 ⟨fun l hl => ⟨hf _ _ (hN p hp l hl) (hN q hq l hl) (a.1 l hl).1, (a.1 l hl).2⟩, a.2⟩
end

/-- Two states say the same to all words, letter by letter. -/
def BisT (x : TrI) (I p q : Nat) : Prop := ∀ w : List Nat, (∀ l, l ∈ w → l < I) → x.E.getD (goT x p w) [] = x.E.getD (goT x q w) [] ∧ ∀ l, l < I → syT x (goT x p w) l = syT x (goT x q w) l
section
variable {x : TrI} {I n : Nat} {k k' : Nat → Nat} {p q r : Nat}
theorem BisT.refl : BisT x I p p := fun w hw => ⟨rfl, fun l hl => rfl⟩
theorem BisT.symm (h : BisT x I p q) : BisT x I q p := fun w hw => ⟨(h w hw).1.symm, fun l hl => ((h w hw).2 l hl).symm⟩
theorem BisT.trans (h : BisT x I p q) (h' : BisT x I q r) : BisT x I p r := fun w hw => ⟨(h w hw).1.trans (h' w hw).1, fun l hl => ((h w hw).2 l hl).trans ((h' w hw).2 l hl)⟩
theorem BisT.step (h : BisT x I p q) {l : Nat} (hl : l < I) : BisT x I (nxT x p l) (nxT x q l) := fun w hw => h (l :: w) (fun j hj => by
  rcases List.mem_cons.1 hj with e | e
  · rw [e]; exact hl
  · exact hw j e)
/-- What is the same for ever stays of one kind. -/
theorem BisT.kind (hN : ∀ s, s < n → ∀ l, l < I → nxT x s l < n) (h : NextK x I n k k') (hk : ∀ p q, p < n → q < n → BisT x I p q → k p = k q) : ∀ p q, p < n → q < n → BisT x I p q → k' p = k' q := fun p q hp hq b =>
  (h.same hp hq).2 ⟨fun l hl => ⟨hk _ _ (hN p hp l hl) (hN q hq l hl) (b.step hl), (b [] (by simp)).2 l hl⟩, (b [] (by simp)).1⟩
/-- At rest, what is of one kind is the same for ever. -/
theorem kind_bis (hN : ∀ s, s < n → ∀ l, l < I → nxT x s l < n) (h : NextK x I n k k) (w : List Nat) (hw : ∀ l, l ∈ w → l < I) : ∀ p q, p < n → q < n → k p = k q → x.E.getD (goT x p w) [] = x.E.getD (goT x q w) [] ∧ ∀ l, l < I → syT x (goT x p w) l = syT x (goT x q w) l := by
  induction w with
  | nil =>
    intro p q hp hq e
    have a := (h.same hp hq).1 e
    exact ⟨a.2, fun l hl => (a.1 l hl).2⟩
  | cons j w ih =>
    intro p q hp hq e
    have a := (h.same hp hq).1 e
    have hj : j < I := hw j (List.mem_cons.2 (.inl rfl))
    exact ih (fun l hl => hw l (List.mem_cons.2 (.inr hl))) _ _ (hN p hp j hj) (hN q hq j hj) (a.1 j hj).1
end
/-- What kinds come to: the first state that says the same for ever. -/
structure KindIs (x : TrI) (I n : Nat) (k : Nat → Nat) : Prop where
  can : CanK n k
  bis : ∀ p q, p < n → q < n → (k p = k q ↔ BisT x I p q)
theorem KindIs.one {x : TrI} {I n : Nat} {k k' : Nat → Nat} (h : KindIs x I n k) (h' : KindIs x I n k') : ∀ s, s < n → k s = k' s := fun s hs => by
  have h1 := (kinds_more h.can h'.can (fun p q hp hq e => (h.bis p q hp hq).2 ((h'.bis p q hp hq).1 e)))
  have h2 := (kinds_more h'.can h.can (fun p q hp hq e => (h'.bis p q hp hq).2 ((h.bis p q hp hq).1 e)))
  exact (h1.2 (by omega) s hs).symm
/-- While kinds are parted. -/
structure KindSt (x : TrI) (I n : Nat) (k : Nat → Nat) : Prop where
  can : CanK n k
  keep : ∀ p q, p < n → q < n → BisT x I p q → k p = k q
  finer : ∀ k', NextK x I n k k' → ∀ p q, p < n → q < n → k' p = k' q → k p = k q
theorem KindSt.start (x : TrI) (I n : Nat) : KindSt x I n (fun _ => 0) := ⟨fun s hs => ⟨Nat.zero_le _, rfl, fun i hi => by simp at hi⟩, fun p q _ _ _ => rfl, fun k' _ p q _ _ _ => rfl⟩
theorem KindSt.next {x : TrI} {I n : Nat} {k k' : Nat → Nat} (hN : ∀ s, s < n → ∀ l, l < I → nxT x s l < n) (h : KindSt x I n k) (h' : NextK x I n k k') : KindSt x I n k' :=
  ⟨h'.can, BisT.kind hN h' h.keep, fun k'' h'' => next_finer hN h' h'' (h.finer k' h')⟩
theorem KindSt.less {x : TrI} {I n : Nat} {k k' : Nat → Nat} (h : KindSt x I n k) (h' : NextK x I n k k') (hne : ¬ ∀ s, s < n → k' s = k s) : cntK k n < cntK k' n := by
  obtain ⟨h1, h2⟩ := kinds_more h.can h'.can (h.finer k' h')
  rcases Nat.lt_or_ge (cntK k n) (cntK k' n) with h3 | h3
  · exact h3
  · exact absurd (h2 (by omega)) hne
theorem NextK.congr {x : TrI} {I n : Nat} {k k' j : Nat → Nat} (h : NextK x I n k k') (e : ∀ s, s < n → k' s = j s) : NextK x I n k j := fun s hs => by
  obtain ⟨h1, h2, h3⟩ := h s hs
  rw [← e s hs]
  exact ⟨h1, h2, h3⟩
theorem KindSt.rest {x : TrI} {I n : Nat} {k k' : Nat → Nat} (hN : ∀ s, s < n → ∀ l, l < I → nxT x s l < n) (h : KindSt x I n k) (h' : NextK x I n k k') (he : ∀ s, s < n → k' s = k s) : KindIs x I n k :=
  ⟨h.can, fun p q hp hq => ⟨fun e w hw => kind_bis hN (h'.congr he) w hw p q hp hq e, h.keep p q hp hq⟩⟩

end Go.Proofs.Ytkcbdfgbmaeodaa
