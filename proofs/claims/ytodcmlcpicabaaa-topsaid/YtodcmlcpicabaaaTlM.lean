/- Where two transducers say unlike things: words in their order, each pair of states looked at once. Without the program. -/
/- What all words from a state on begin with can be said ahead of it: words that are cut until they agree; what is said stays the same. Without the program. -/
/- Kinds of states: they are parted until those of one kind say the same for ever. Without the program. -/
/- Classes of states, without the program: how they are parted round by round until nothing parts them any more (Moore). -/
/- States of two transducers that say the same for ever; classes; both least ones are one. Without the program. -/
/- What is said to all words tells what the least one is: two that say the same to each word have one least form. Without the program. -/
/- One transducer behind another: pairs as states; what it says is what the second says to what the first says. Without the program. -/
import Derived.Test.YtodcmlcpicabaaaBas
import Derived.Test.YtodcmlcpicabaaaLBf
namespace Go.Proofs.Ytodcmlcpicabaaa
set_option linter.unusedVariables false

/-! With how many letters two words begin alike; what is left behind them. -/
def comT : List Int → List Int → Nat
  | a :: x, b :: y => if a = b then comT x y + 1 else 0
  | _, _ => 0
theorem comT_le (x y : List Int) : comT x y ≤ x.length ∧ comT x y ≤ y.length := by
  induction x generalizing y with
  | nil => cases y <;> simp [comT]
  | cons a x ih =>
    cases y with
    | nil => simp [comT]
    | cons b y =>
      simp only [comT]
      split
      · have := ih y; simp only [List.length_cons]; omega
      · simp
theorem comT_take (x y : List Int) : x.take (comT x y) = y.take (comT x y) := by
  induction x generalizing y with
  | nil => cases y <;> simp [comT]
  | cons a x ih =>
    cases y with
    | nil => simp [comT]
    | cons b y =>
      simp only [comT]
      split
      · rename_i h; subst h; simp [ih y]
      · simp
theorem comT_drop (x y : List Int) : comT (x.drop (comT x y)) (y.drop (comT x y)) = 0 := by
  induction x generalizing y with
  | nil => cases y <;> simp [comT]
  | cons a x ih =>
    cases y with
    | nil => simp [comT]
    | cons b y =>
      simp only [comT]
      split
      · simpa using ih y
      · rename_i h; simp [comT, h]
/-- As it is counted: n letters are alike, and then not. -/
theorem comT_is {x y : List Int} {n : Nat} (hx : n ≤ x.length) (hy : n ≤ y.length) (hs : ∀ j, j < n → x.getD j 0 = y.getD j 0) (he : n < x.length → n < y.length → x.getD n 0 ≠ y.getD n 0) : comT x y = n := by
  induction x generalizing y n with
  | nil => have : n = 0 := by simpa using hx
           subst this; cases y <;> simp [comT]
  | cons a x ih =>
    cases y with
    | nil => have : n = 0 := by simpa using hy
             subst this; simp [comT]
    | cons b y =>
      cases n with
      | zero =>
        have := he (by simp) (by simp)
        simp at this
        simp [comT, this]
      | succ n =>
        have h0 := hs 0 (by omega)
        simp at h0
        simp only [comT, h0, if_true]
        rw [ih (by simpa using hx) (by simpa using hy) (fun j hj => by have := hs (j + 1) (by omega); simpa using this) (fun h1 h2 => by have := he (by simpa using h1) (by simpa using h2); simpa using this)]
theorem com_nil {m n e f : List Int} (h0 : comT m n = 0) (h : m ++ e = n ++ f) : m = [] ∨ n = [] := by
  cases m with
  | nil => exact .inl rfl
  | cons a m =>
    cases n with
    | nil => exact .inr rfl
    | cons b n =>
      simp only [List.cons_append, List.cons.injEq] at h
      simp [comT, h.1] at h0

/-- What is said ahead and behind can be told from the end alone. -/
theorem say_swap {a b a' b' e f r s : List Int} (h : a ++ e = b ++ f) (h' : a' ++ e = b' ++ f) (hr : a ++ r = b ++ s) : a' ++ r = b' ++ s := by
  have hl := congrArg List.length h
  have hl' := congrArg List.length h'
  simp only [List.length_append] at hl hl'
  rcases List.append_eq_append_iff.1 h with ⟨d, hd1, hd2⟩ | ⟨d, hd1, hd2⟩
  · -- b = a ++ d, e = d ++ f
    rcases List.append_eq_append_iff.1 h' with ⟨d', hd1', hd2'⟩ | ⟨d', hd1', hd2'⟩
    · have e1 : d = d' := by
        rw [hd2] at hd2'
        exact (List.append_inj' hd2' rfl).1
      subst e1
      rw [hd1, List.append_assoc] at hr
      have := List.append_cancel_left hr
      rw [hd1', this, List.append_assoc]
    · have e0 : d.length = 0 ∧ d'.length = 0 := by
        have h1 := congrArg List.length hd1
        have h2 := congrArg List.length hd1'
        simp only [List.length_append] at h1 h2
        omega
      have ed := List.length_eq_zero_iff.1 e0.1
      have ed' := List.length_eq_zero_iff.1 e0.2
      subst ed ed'
      simp only [List.append_nil] at hd1 hd1'
      subst hd1 hd1'
      rw [List.append_cancel_left hr]
  · rcases List.append_eq_append_iff.1 h' with ⟨d', hd1', hd2'⟩ | ⟨d', hd1', hd2'⟩
    · have e0 : d.length = 0 ∧ d'.length = 0 := by
        have h1 := congrArg List.length hd1
        have h2 := congrArg List.length hd1'
        simp only [List.length_append] at h1 h2
        omega
      have ed := List.length_eq_zero_iff.1 e0.1
      have ed' := List.length_eq_zero_iff.1 e0.2
      subst ed ed'
      simp only [List.append_nil] at hd1 hd1'
      subst hd1 hd1'
      rw [List.append_cancel_left hr]
    · have e1 : d = d' := by
        rw [hd2] at hd2'
        exact (List.append_inj' hd2' rfl).1
      subst e1
      rw [hd1, List.append_assoc] at hr
      have := List.append_cancel_left hr
      rw [hd1', List.append_assoc, this]

/-! Pairs of states. -/
def aT (x : TrI) (w : List Nat) : List Int := x.F ++ ruT x x.S.toNat w
def stT (x : TrI) (w : List Nat) : Nat := goT x x.S.toNat w
theorem saysT_eq (x : TrI) (w : List Nat) : saysT x w = aT x w ++ x.E.getD (stT x w) [] := rfl
theorem aT_snoc (x : TrI) (w : List Nat) (l : Nat) : aT x (w ++ [l]) = aT x w ++ syT x (stT x w) l := by unfold aT stT; rw [ruT_snoc, List.append_assoc]
theorem stT_snoc (x : TrI) (w : List Nat) (l : Nat) : stT x (w ++ [l]) = nxT x (stT x w) l := goT_snoc _ _ _ _
def AlikeT (x y : TrI) (w : List Nat) : Prop := saysT x w = saysT y w
/-- A pair as one number. -/
def prT (x y : TrI) (w : List Nat) : Nat := stT x w * y.N.length + stT y w
def kidsT (I : Nat) (w : List Nat) : List (List Nat) := (List.range I).map fun l => w ++ [l]

/-- Behind i looks: the words that have come up, and the pairs that have been met. -/
inductive Qst (x y : TrI) (I : Nat) : Nat → List (List Nat) → List Nat → Prop
  | start : Qst x y I 0 [[]] []
  | old {i : Nat} {ws : List (List Nat)} {S : List Nat} (h : Qst x y I i ws S) (hi : i < ws.length) (ha : AlikeT x y (ws.getD i [])) (hs : prT x y (ws.getD i []) ∈ S) : Qst x y I (i + 1) ws S
  | new {i : Nat} {ws : List (List Nat)} {S : List Nat} (h : Qst x y I i ws S) (hi : i < ws.length) (ha : AlikeT x y (ws.getD i [])) (hs : prT x y (ws.getD i []) ∉ S) : Qst x y I (i + 1) (ws ++ kidsT I (ws.getD i [])) (S ++ [prT x y (ws.getD i [])])

section
variable {x y : TrI} {I : Nat}
theorem Qst.one {i : Nat} {ws ws' : List (List Nat)} {S S' : List Nat} (h : Qst x y I i ws S) (k : Qst x y I i ws' S') : ws = ws' ∧ S = S' := by
  induction i generalizing ws ws' S S' with
  | zero =>
    cases h
    cases k
    exact ⟨rfl, rfl⟩
  | succ i ih =>
    cases h with
    | old h hi ha hs =>
      cases k with
      | old k _ _ _ => exact ih h k
      | new k _ _ hs' => obtain ⟨rfl, rfl⟩ := ih h k; exact absurd hs hs'
    | new h hi ha hs =>
      cases k with
      | old k _ _ hs' => obtain ⟨rfl, rfl⟩ := ih h k; exact absurd hs' hs
      | new k _ _ _ => obtain ⟨rfl, rfl⟩ := ih h k; exact ⟨rfl, rfl⟩
theorem Qst.back {i : Nat} {ws : List (List Nat)} {S : List Nat} (h : Qst x y I i ws S) : ∀ j, j < i → ∃ ws' S', Qst x y I j ws' S' ∧ j < ws'.length ∧ AlikeT x y (ws'.getD j []) := by
  induction h with
  | start => intro j hj; omega
  | old h hi ha hs ih =>
    rename_i i ws S
    intro j hj
    by_cases e : j = i
    · subst e; exact ⟨_, _, h, hi, ha⟩
    · exact ih j (by omega)
  | new h hi ha hs ih =>
    rename_i i ws S
    intro j hj
    by_cases e : j = i
    · subst e; exact ⟨_, _, h, hi, ha⟩
    · exact ih j (by omega)
/-- What is found: a word to which unlike things are said; or none. -/
def FoundT (x y : TrI) (I : Nat) (w : List Nat) : Prop := ∃ i ws S, Qst x y I i ws S ∧ i < ws.length ∧ w = ws.getD i [] ∧ ¬ AlikeT x y w
def NoneT (x y : TrI) (I : Nat) : Prop := ∃ ws S, Qst x y I ws.length ws S
theorem found_one {w w' : List Nat} (h : FoundT x y I w) (k : FoundT x y I w') : w = w' := by
  obtain ⟨i, ws, S, hq, hi, rfl, hn⟩ := h
  obtain ⟨j, ws', S', hq', hj, rfl, hn'⟩ := k
  rcases Nat.lt_trichotomy i j with h | h | h
  · obtain ⟨ws2, S2, h1, _, h3⟩ := hq'.back i h
    obtain ⟨rfl, rfl⟩ := hq.one h1
    exact absurd h3 hn
  · subst h
    rw [(hq.one hq').1]
  · obtain ⟨ws2, S2, h1, _, h3⟩ := hq.back j h
    obtain ⟨rfl, rfl⟩ := hq'.one h1
    exact absurd h3 hn'
theorem found_none {w : List Nat} (h : FoundT x y I w) (k : NoneT x y I) : False := by
  obtain ⟨i, ws, S, hq, hi, rfl, hn⟩ := h
  obtain ⟨ws', S', hq'⟩ := k
  by_cases hlt : i < ws'.length
  · obtain ⟨ws2, S2, h1, _, h3⟩ := hq'.back i hlt
    obtain ⟨rfl, rfl⟩ := hq.one h1
    exact hn h3
  · rcases Nat.lt_or_ge ws'.length i with h | h
    · obtain ⟨ws2, S2, h1, h2, _⟩ := hq.back _ h
      obtain ⟨rfl, rfl⟩ := hq'.one h1
      exact absurd h2 (Nat.lt_irrefl _)
    · have : i = ws'.length := by omega
      subst this
      obtain ⟨rfl, rfl⟩ := hq.one hq'
      exact absurd hi (Nat.lt_irrefl _)

/-- What holds of the words that have come up. -/
structure QInv (x y : TrI) (I i : Nat) (ws : List (List Nat)) (S : List Nat) : Prop where
  len : ws.length = 1 + I * S.length
  nil : [] ∈ ws
  lets : ∀ w, w ∈ ws → (∀ l, l ∈ w → l < I) ∧ w.length ≤ S.length
  done : ∀ j, j < i → AlikeT x y (ws.getD j []) ∧ prT x y (ws.getD j []) ∈ S
  kids : ∀ p, p ∈ S → ∃ w, w ∈ ws ∧ prT x y w = p ∧ AlikeT x y w ∧ ∀ l, l < I → w ++ [l] ∈ ws
  dif : S.Nodup
  in_ : ∀ p, p ∈ S → ∃ w, (∀ l, l ∈ w → l < I) ∧ prT x y w = p
theorem getD_memL {ws : List (List Nat)} {i : Nat} (h : i < ws.length) : ws.getD i [] ∈ ws := by
  rw [List.getD, List.getElem?_eq_getElem h, Option.getD_some]; exact List.getElem_mem h
theorem Qst.inv {i : Nat} {ws : List (List Nat)} {S : List Nat} (h : Qst x y I i ws S) : QInv x y I i ws S := by
  induction h with
  | start => exact ⟨by simp, by simp, (fun w hw => by simp at hw; subst hw; simp), (fun j hj => by omega), (fun p hp => by simp at hp), by simp, (fun p hp => by simp at hp)⟩
  | old h hi ha hs ih =>
    rename_i i ws S
    refine ⟨ih.len, ih.nil, ih.lets, fun j hj => ?_, ih.kids, ih.dif, ih.in_⟩
    by_cases e : j = i
    · subst e; exact ⟨ha, hs⟩
    · exact ih.done j (by omega)
  | new h hi ha hs ih =>
    rename_i i ws S
    have hw := ih.lets _ (getD_memL hi)
    have hget : ∀ j, j < ws.length → (ws ++ kidsT I (ws.getD i [])).getD j [] = ws.getD j [] := fun j hj => by simp [List.getD, List.getElem?_append_left hj]
    refine ⟨?_, List.mem_append.2 (.inl ih.nil), fun w hm => ?_, fun j hj => ?_, fun p hp => ?_, ?_, fun p hp => ?_⟩
    · rw [List.length_append, List.length_append, ih.len]
      simp only [kidsT, List.length_map, List.length_range, List.length_singleton, Nat.mul_add, Nat.mul_one]
      omega
    · rw [List.length_append, List.length_singleton]
      rcases List.mem_append.1 hm with hm | hm
      · have := ih.lets w hm
        exact ⟨this.1, by omega⟩
      · obtain ⟨l, hl, rfl⟩ := List.mem_map.1 hm
        have hl' : l < I := by simpa using hl
        refine ⟨fun k hk => ?_, by rw [List.length_append, List.length_singleton]; omega⟩
        rcases List.mem_append.1 hk with hk | hk
        · exact hw.1 k hk
        · rw [List.mem_singleton.1 hk]; exact hl'
    · by_cases e : j = i
      · subst e
        rw [hget j hi]
        exact ⟨ha, List.mem_append.2 (.inr (by simp))⟩
      · have hj' : j < i := by omega
        rw [hget j (by omega)]
        exact ⟨(ih.done j hj').1, List.mem_append.2 (.inl (ih.done j hj').2)⟩
    · rcases List.mem_append.1 hp with hp | hp
      · obtain ⟨w, h1, h2, h3, h4⟩ := ih.kids p hp
        exact ⟨w, List.mem_append.2 (.inl h1), h2, h3, fun l hl => List.mem_append.2 (.inl (h4 l hl))⟩
      · rw [List.mem_singleton.1 hp]
        exact ⟨_, List.mem_append.2 (.inl (getD_memL hi)), rfl, ha, fun l hl => List.mem_append.2 (.inr (List.mem_map.2 ⟨l, by simpa using hl, rfl⟩))⟩
    · refine List.nodup_append.2 ⟨ih.dif, by simp, fun p hp q hq => ?_⟩
      rw [List.mem_singleton.1 hq]
      intro e
      subst e
      exact hs hp
    · rcases List.mem_append.1 hp with hp | hp
      · exact ih.in_ p hp
      · rw [List.mem_singleton.1 hp]
        exact ⟨_, hw.1, rfl⟩
theorem nodup_leT {S : List Nat} {n : Nat} (h : S.Nodup) (hb : ∀ p, p ∈ S → p < n) : S.length ≤ n := by
  induction n generalizing S with
  | zero =>
    cases S with
    | nil => simp
    | cons p S => have := hb p (by simp); omega
  | succ n ih =>
    have h1 := ih (S := S.filter fun p => decide (p ≠ n)) (h.filter _) (fun p hp => by
      have hm := List.mem_filter.1 hp
      have := hb p hm.1
      have h2 : p ≠ n := by simpa using hm.2
      omega)
    have h2 : S.length ≤ (S.filter fun p => decide (p ≠ n)).length + 1 := by
      clear ih h1 hb
      induction S with
      | nil => simp
      | cons p S ih =>
        have hn := List.nodup_cons.1 h
        by_cases e : p = n
        · subst e
          have : S.filter (fun q => decide (q ≠ p)) = S := List.filter_eq_self.2 fun q hq => by
            have : q ≠ p := fun e => hn.1 (e ▸ hq)
            simpa using this
          rw [List.filter_cons_of_neg (by simp), this, List.length_cons]
          exact Nat.le_refl _
        · have := ih hn.2
          simp [e]
          simpa using this
    omega
theorem prT_lt (hx : ReadT x I) (hy : ReadT y I) {w : List Nat} (hw : ∀ l, l ∈ w → l < I) : stT x w < x.N.length ∧ stT y w < y.N.length ∧ prT x y w < x.N.length * y.N.length := by
  have h1 := hx.st
  have h2 := hy.st
  unfold StT at h1 h2
  have h3 := hx.go w hw (q := x.S.toNat) (by omega)
  have h4 := hy.go w hw (q := y.S.toNat) (by omega)
  refine ⟨h3, h4, ?_⟩
  unfold prT stT
  have : (goT x x.S.toNat w + 1) * y.N.length ≤ x.N.length * y.N.length := Nat.mul_le_mul_right _ h3
  rw [Nat.add_mul, Nat.one_mul] at this
  omega
theorem prT_eq (hy : ReadT y I) {w v : List Nat} (hw : ∀ l, l ∈ w → l < I) (hv : ∀ l, l ∈ v → l < I) (h : prT x y w = prT x y v) : stT x w = stT x v ∧ stT y w = stT y v := by
  have h2 := hy.st
  unfold StT at h2
  have h3 : stT y w < y.N.length := hy.go w hw (by omega)
  have h4 : stT y v < y.N.length := hy.go v hv (by omega)
  unfold prT at h
  have e1 : (stT x w * y.N.length + stT y w) % y.N.length = stT y w := by rw [Nat.mul_comm, Nat.mul_add_mod]; exact Nat.mod_eq_of_lt h3
  have e2 : (stT x v * y.N.length + stT y v) % y.N.length = stT y v := by rw [Nat.mul_comm, Nat.mul_add_mod]; exact Nat.mod_eq_of_lt h4
  have hyy : stT y w = stT y v := by rw [← e1, ← e2, h]
  refine ⟨?_, hyy⟩
  rw [hyy] at h
  have h5 : stT x w * y.N.length = stT x v * y.N.length := by omega
  exact Nat.eq_of_mul_eq_mul_right (by omega) h5
/-- There is room: no more than 36 pairs. -/
theorem Qst.room {i : Nat} {ws : List (List Nat)} {S : List Nat} (h : Qst x y I i ws S) (hx : ReadT x I) (hy : ReadT y I) (h6 : x.N.length ≤ 6) (h6' : y.N.length ≤ 6) : S.length ≤ 36 := by
  have h1 := nodup_leT h.inv.dif (n := x.N.length * y.N.length) (fun p hp => by
    obtain ⟨w, hw, rfl⟩ := h.inv.in_ p hp
    exact (prT_lt hx hy hw).2.2)
  have h2 : x.N.length * y.N.length ≤ 6 * 6 := Nat.mul_le_mul h6 h6'
  omega
/-- If none is found, there is none. -/
theorem NoneT.all (h : NoneT x y I) (hy : ReadT y I) (w : List Nat) (hw : ∀ l, l ∈ w → l < I) : AlikeT x y w := by
  obtain ⟨ws, S, hq⟩ := h
  have hv := hq.inv
  have hall : ∀ v, v ∈ ws → AlikeT x y v ∧ prT x y v ∈ S := fun v hm => by
    obtain ⟨j, hj, rfl⟩ := List.getElem_of_mem hm
    have := hv.done j hj
    rwa [List.getD, List.getElem?_eq_getElem hj, Option.getD_some] at this
  have key : ∀ n (w : List Nat), w.length = n → (∀ l, l ∈ w → l < I) → AlikeT x y w ∧ prT x y w ∈ S := by
    intro n
    induction n with
    | zero =>
      intro w hn _
      rw [List.length_eq_zero_iff.1 hn]
      exact hall _ hv.nil
    | succ n ih =>
      intro w hn hw
      obtain ⟨v, l, rfl⟩ : ∃ v l, w = v ++ [l] := ⟨w.dropLast, w.getLast (by intro e; subst e; simp at hn), (List.dropLast_concat_getLast _).symm⟩
      have hvl : ∀ k, k ∈ v → k < I := fun k hk => hw k (List.mem_append.2 (.inl hk))
      have hl : l < I := hw l (by simp)
      obtain ⟨h1, h2⟩ := ih v (by simpa using hn) hvl
      obtain ⟨u, hu, hpu, hau, hku⟩ := hv.kids _ h2
      have hul := (hv.lets u hu).1
      obtain ⟨e1, e2⟩ := prT_eq hy hul hvl hpu
      obtain ⟨h3, h4⟩ := hall _ (hku l hl)
      constructor
      · unfold AlikeT at *
        rw [saysT_eq, saysT_eq, aT_snoc, aT_snoc, stT_snoc, stT_snoc, List.append_assoc, List.append_assoc] at h3 ⊢
        rw [saysT_eq, saysT_eq] at h1 hau
        rw [e1, e2] at hau h3
        exact say_swap hau h1 h3
      · have e3 : prT x y (v ++ [l]) = prT x y (u ++ [l]) := by unfold prT; rw [stT_snoc, stT_snoc, stT_snoc, stT_snoc, e1, e2]
        rw [e3]; exact h4
  exact (key w.length w rfl hw).1
end

/-! What each has said that the other has not said yet. -/
structure MoreT (x y : TrI) (w : List Nat) (m n : List Int) : Prop where
  same : ∃ c, aT x w = c ++ m ∧ aT y w = c ++ n
  com : comT m n = 0
  lm : m.length ≤ 16
  ln : n.length ≤ 16
section
variable {x y : TrI} {I : Nat} {w : List Nat} {m n : List Int}
theorem MoreT.alike (h : MoreT x y w m n) : (m ++ x.E.getD (stT x w) [] = n ++ y.E.getD (stT y w) []) ↔ AlikeT x y w := by
  obtain ⟨c, h1, h2⟩ := h.same
  unfold AlikeT
  rw [saysT_eq, saysT_eq, h1, h2, List.append_assoc, List.append_assoc, List.append_cancel_left_eq]
theorem more_of {a b c p q : List Int} (h1 : a = c ++ p) (h2 : b = c ++ q) : ∃ d, a = d ++ p.drop (comT p q) ∧ b = d ++ q.drop (comT p q) := by
  refine ⟨c ++ p.take (comT p q), ?_, ?_⟩
  · rw [h1, List.append_assoc, List.take_append_drop]
  · rw [h2, List.append_assoc, comT_take, List.take_append_drop]
theorem MoreT.start (h1 : x.F.length ≤ 16) (h2 : y.F.length ≤ 16) : MoreT x y [] (x.F.drop (comT x.F y.F)) (y.F.drop (comT x.F y.F)) :=
  ⟨more_of (c := []) (by simp [aT, ruT]) (by simp [aT, ruT]), comT_drop _ _, by rw [List.length_drop]; omega, by rw [List.length_drop]; omega⟩
theorem MoreT.small (h : MoreT x y w m n) (ha : AlikeT x y w) (he : (x.E.getD (stT x w) []).length ≤ 8) (hf : (y.E.getD (stT y w) []).length ≤ 8) : m.length ≤ 8 ∧ n.length ≤ 8 := by
  have h1 := h.alike.2 ha
  have h2 := congrArg List.length h1
  simp only [List.length_append] at h2
  rcases com_nil h.com h1 with e | e
  · subst e; simp only [List.length_nil] at h2 ⊢; omega
  · subst e; simp only [List.length_nil] at h2 ⊢; omega
theorem MoreT.next (h : MoreT x y w m n) (hm : m.length ≤ 8) (hn : n.length ≤ 8) (l : Nat) (hs : (syT x (stT x w) l).length ≤ 8) (ht : (syT y (stT y w) l).length ≤ 8) :
    MoreT x y (w ++ [l]) ((m ++ syT x (stT x w) l).drop (comT (m ++ syT x (stT x w) l) (n ++ syT y (stT y w) l))) ((n ++ syT y (stT y w) l).drop (comT (m ++ syT x (stT x w) l) (n ++ syT y (stT y w) l))) := by
  obtain ⟨c, h1, h2⟩ := h.same
  refine ⟨more_of (c := c) (by rw [aT_snoc, h1, List.append_assoc]) (by rw [aT_snoc, h2, List.append_assoc]), comT_drop _ _, ?_, ?_⟩
  · rw [List.length_drop, List.length_append]; omega
  · rw [List.length_drop, List.length_append]; omega
end

end Go.Proofs.Ytodcmlcpicabaaa

namespace Go.Proofs.Ytodcmlcpicabaaa
set_option linter.unusedVariables false

/-- The word of a state is cut to what it has in common with what a letter says. -/
def cutT (x : TrI) (A : List (List Int)) (s l : Nat) : List (List Int) := A.set s ((A.getD s []).take (comT (A.getD s []) (syT x s l ++ A.getD (nxT x s l) [])))
/-- By the first k letters; the first s states whole. -/
def cutR (x : TrI) (s : Nat) : Nat → List (List Int) → List (List Int)
  | 0, A => A
  | k + 1, A => cutT x (cutR x s k A) s k
def cutA (x : TrI) (I : Nat) : Nat → List (List Int) → List (List Int)
  | 0, A => A
  | s + 1, A => cutR x s I (cutA x I s A)
def sizeW (A : List (List Int)) : Nat := (A.map List.length).sum

theorem sizeW_set {A : List (List Int)} {s : Nat} {u : List Int} (hs : s < A.length) : sizeW (A.set s u) + (A.getD s []).length = sizeW A + u.length := by
  induction A generalizing s with
  | nil => simp at hs
  | cons a A ih =>
    cases s with
    | zero => simp [sizeW]; omega
    | succ s =>
      have := ih (s := s) (by simpa using hs)
      simp only [sizeW, List.set_cons_succ, List.map_cons, List.sum_cons, List.getD_cons_succ] at *
      omega
theorem cutT_len (x : TrI) (A : List (List Int)) (s l : Nat) : (cutT x A s l).length = A.length := by simp [cutT]
theorem cutR_len (x : TrI) (s k : Nat) (A : List (List Int)) : (cutR x s k A).length = A.length := by
  induction k with
  | zero => rfl
  | succ k ih => rw [cutR, cutT_len, ih]
theorem cutA_len (x : TrI) (I s : Nat) (A : List (List Int)) : (cutA x I s A).length = A.length := by
  induction s with
  | zero => rfl
  | succ s ih => rw [cutA, cutR_len, ih]
/-- A cut either leaves all as it was, or less is left. -/
theorem cutT_same {x : TrI} {A : List (List Int)} {s l : Nat} (hs : s < A.length) (h : comT (A.getD s []) (syT x s l ++ A.getD (nxT x s l) []) = (A.getD s []).length) : cutT x A s l = A := by
  unfold cutT
  rw [h, List.take_length]
  refine List.ext_getElem (by simp) fun i h1 h2 => ?_
  by_cases e : i = s
  · subst e; simp [List.getD, hs]
  · rw [List.getElem_set_ne (by omega)]
theorem cutT_size {x : TrI} {A : List (List Int)} {s l : Nat} (hs : s < A.length) : sizeW (cutT x A s l) ≤ sizeW A ∧ (comT (A.getD s []) (syT x s l ++ A.getD (nxT x s l) []) < (A.getD s []).length → sizeW (cutT x A s l) < sizeW A) := by
  have h1 := sizeW_set (A := A) (u := (A.getD s []).take (comT (A.getD s []) (syT x s l ++ A.getD (nxT x s l) []))) hs
  have h2 := (comT_le (A.getD s []) (syT x s l ++ A.getD (nxT x s l) [])).1
  rw [List.length_take, Nat.min_eq_left h2] at h1
  unfold cutT
  omega
theorem cutT_le {x : TrI} {A : List (List Int)} {s l : Nat} (hs : s < A.length) : sizeW (cutT x A s l) = sizeW A → cutT x A s l = A := fun h => by
  have h1 := cutT_size (x := x) (l := l) hs
  have h2 := (comT_le (A.getD s []) (syT x s l ++ A.getD (nxT x s l) [])).1
  refine cutT_same hs ?_
  rcases Nat.lt_or_ge (comT (A.getD s []) (syT x s l ++ A.getD (nxT x s l) [])) (A.getD s []).length with h3 | h3
  · have := h1.2 h3; omega
  · omega
theorem cutR_size {x : TrI} {A : List (List Int)} {s : Nat} (hs : s < A.length) (k : Nat) : sizeW (cutR x s k A) ≤ sizeW A := by
  induction k with
  | zero => exact Nat.le_refl _
  | succ k ih => exact Nat.le_trans (cutT_size (by rw [cutR_len]; exact hs)).1 ih
theorem cutA_size {x : TrI} {I : Nat} {A : List (List Int)} (s : Nat) (hs : s ≤ A.length) : sizeW (cutA x I s A) ≤ sizeW A := by
  induction s with
  | zero => exact Nat.le_refl _
  | succ s ih => exact Nat.le_trans (cutR_size (by rw [cutA_len]; omega) I) (ih (by omega))
/-- If nothing is lost in a round, nothing was cut by any letter. -/
theorem cutR_still {x : TrI} {A : List (List Int)} {s : Nat} (hs : s < A.length) (k : Nat) (h : sizeW (cutR x s k A) = sizeW A) : cutR x s k A = A ∧ ∀ l, l < k → comT (A.getD s []) (syT x s l ++ A.getD (nxT x s l) []) = (A.getD s []).length := by
  induction k with
  | zero => exact ⟨rfl, fun l hl => by omega⟩
  | succ k ih =>
    have h1 := cutR_size (x := x) hs k
    have h2 := cutT_size (x := x) (A := cutR x s k A) (s := s) (l := k) (by rw [cutR_len]; exact hs)
    have h3 : sizeW (cutT x (cutR x s k A) s k) = sizeW A := h
    obtain ⟨e1, e2⟩ := ih (by omega)
    rw [e1] at h2 h3
    have e3 := cutT_le (x := x) (l := k) hs h3
    refine ⟨by rw [cutR, e1, e3], fun l hl => ?_⟩
    by_cases e : l = k
    · subst e
      have h4 := (comT_le (A.getD s []) (syT x s l ++ A.getD (nxT x s l) [])).1
      rcases Nat.lt_or_ge (comT (A.getD s []) (syT x s l ++ A.getD (nxT x s l) [])) (A.getD s []).length with h5 | h5
      · have := h2.2 h5; omega
      · omega
    · exact e2 l (by omega)
theorem cutA_still {x : TrI} {I : Nat} {A : List (List Int)} (n : Nat) (hn : n ≤ A.length) (h : sizeW (cutA x I n A) = sizeW A) : cutA x I n A = A ∧ ∀ s, s < n → ∀ l, l < I → comT (A.getD s []) (syT x s l ++ A.getD (nxT x s l) []) = (A.getD s []).length := by
  induction n with
  | zero => exact ⟨rfl, fun s hs => by omega⟩
  | succ n ih =>
    have h1 := cutA_size (x := x) (I := I) n (show n ≤ A.length by omega)
    have h2 := cutR_size (x := x) (A := cutA x I n A) (s := n) (by rw [cutA_len]; omega) I
    have h3 : sizeW (cutR x n I (cutA x I n A)) = sizeW A := h
    obtain ⟨e1, e2⟩ := ih (by omega) (by omega)
    rw [e1] at h3
    obtain ⟨e3, e4⟩ := cutR_still (show n < A.length by omega) I h3
    refine ⟨by rw [cutA, e1, e3], fun s hs => ?_⟩
    by_cases e : s = n
    · subst e; exact e4
    · exact e2 s (by omega)

/-- Rounds. -/
def rndT (x : TrI) (I n : Nat) : Nat → List (List Int) → List (List Int)
  | 0, A => A
  | k + 1, A => cutA x I n (rndT x I n k A)
theorem rndT_len (x : TrI) (I n k : Nat) (A : List (List Int)) : (rndT x I n k A).length = A.length := by
  induction k with
  | zero => rfl
  | succ k ih => rw [rndT, cutA_len, ih]
theorem rndT_add (x : TrI) (I n j k : Nat) (A : List (List Int)) : rndT x I n (j + k) A = rndT x I n j (rndT x I n k A) := by
  induction j with
  | zero => rw [Nat.zero_add]; rfl
  | succ j ih => rw [Nat.add_right_comm, rndT, ih, rndT]
theorem rndT_rest {x : TrI} {I n : Nat} {B : List (List Int)} (h : cutA x I n B = B) (j : Nat) : rndT x I n j B = B := by
  induction j with
  | zero => rfl
  | succ j ih => rw [rndT, ih, h]
/-- What the words come to: it is one. -/
def SureIs (x : TrI) (I : Nat) (B : List (List Int)) : Prop := (∃ k, B = rndT x I x.N.length k x.E) ∧ cutA x I x.N.length B = B
theorem SureIs.one {x : TrI} {I : Nat} {B B' : List (List Int)} (h : SureIs x I B) (k : SureIs x I B') : B = B' := by
  obtain ⟨⟨i, hi⟩, h2⟩ := h
  obtain ⟨⟨j, hj⟩, k2⟩ := k
  rcases Nat.le_total i j with h3 | h3
  · obtain ⟨d, rfl⟩ : ∃ d, j = d + i := ⟨j - i, by omega⟩
    rw [rndT_add, ← hi, rndT_rest h2] at hj
    exact hj.symm
  · obtain ⟨d, rfl⟩ : ∃ d, i = d + j := ⟨i - j, by omega⟩
    rw [rndT_add, ← hj, rndT_rest k2] at hi
    exact hi

/-- Each word begins what it was cut from. -/
def BegT (A B : List (List Int)) : Prop := A.length = B.length ∧ ∀ s, s < B.length → ∃ r, B.getD s [] = A.getD s [] ++ r
theorem BegT.refl (A : List (List Int)) : BegT A A := ⟨rfl, fun s _ => ⟨[], by simp⟩⟩
theorem BegT.trans {A B C : List (List Int)} (h : BegT A B) (k : BegT B C) : BegT A C := ⟨h.1.trans k.1, fun s hs => by
  obtain ⟨r, hr⟩ := k.2 s hs
  obtain ⟨r', hr'⟩ := h.2 s (by rw [k.1]; exact hs)
  exact ⟨r' ++ r, by rw [hr, hr', List.append_assoc]⟩⟩
theorem cutT_beg (x : TrI) (A : List (List Int)) (s l : Nat) : BegT (cutT x A s l) A := by
  refine ⟨cutT_len _ _ _ _, fun t ht => ?_⟩
  unfold cutT
  by_cases e : t = s
  · subst e
    refine ⟨(A.getD t []).drop (comT (A.getD t []) (syT x t l ++ A.getD (nxT x t l) [])), ?_⟩
    have e2 : ∀ u : List Int, (A.set t u).getD t [] = u := fun u => by simp [List.getD, ht]
    rw [e2, List.take_append_drop]
  · refine ⟨[], ?_⟩
    have e2 : ∀ u : List Int, (A.set s u).getD t [] = A.getD t [] := fun u => by simp only [List.getD]; rw [List.getElem?_set_ne (by omega)]
    rw [e2, List.append_nil]
theorem cutR_beg (x : TrI) (s k : Nat) (A : List (List Int)) : BegT (cutR x s k A) A := by
  induction k with
  | zero => exact BegT.refl A
  | succ k ih => exact (cutT_beg x _ s k).trans ih
theorem cutA_beg (x : TrI) (I s : Nat) (A : List (List Int)) : BegT (cutA x I s A) A := by
  induction s with
  | zero => exact BegT.refl A
  | succ s ih => exact (cutR_beg x s I _).trans ih
theorem rndT_beg (x : TrI) (I n k : Nat) (A : List (List Int)) : BegT (rndT x I n k A) A := by
  induction k with
  | zero => exact BegT.refl A
  | succ k ih => exact (cutA_beg x I n _).trans ih

/-- What a state is sure to say. -/
structure SureT (x : TrI) (I : Nat) (B : List (List Int)) : Prop where
  len : B.length = x.N.length
  last : ∀ s, s < x.N.length → ∃ r, x.E.getD s [] = B.getD s [] ++ r
  step : ∀ s, s < x.N.length → ∀ l, l < I → ∃ r, syT x s l ++ B.getD (nxT x s l) [] = B.getD s [] ++ r
theorem com_beg {u v : List Int} (h : comT u v = u.length) : ∃ r, v = u ++ r := by
  have h1 := comT_take u v
  rw [h, List.take_length] at h1
  exact ⟨v.drop u.length, by conv => rhs; lhs; rw [h1]
                             rw [List.take_append_drop]⟩
theorem SureIs.sure {x : TrI} {I : Nat} {B : List (List Int)} (h : SureIs x I B) (he : x.E.length = x.N.length) : SureT x I B := by
  obtain ⟨⟨k, hk⟩, h2⟩ := h
  have hl : B.length = x.N.length := by rw [hk, rndT_len, he]
  have hb : BegT B x.E := by rw [hk]; exact rndT_beg _ _ _ _ _
  have hs := (cutA_still (x := x) (I := I) (A := B) x.N.length (by omega) (by rw [h2])).2
  exact ⟨hl, fun s hs' => hb.2 s (by rw [he]; exact hs'), fun s hs' l hl' => com_beg (hs s hs' l hl')⟩

/-- One that says ahead what it is sure to say. -/
def pushT (x : TrI) (I : Nat) (B : List (List Int)) : TrI := { x with
  F := x.F ++ B.getD x.S.toNat []
  Y := (List.range x.N.length).map fun s => (List.range I).map fun l => (syT x s l ++ B.getD (nxT x s l) []).drop (B.getD s []).length
  E := (List.range x.N.length).map fun s => (x.E.getD s []).drop (B.getD s []).length }
section
variable {x : TrI} {I : Nat} {B : List (List Int)}
theorem pushT_sy {s l : Nat} (hs : s < x.N.length) (hl : l < I) : syT (pushT x I B) s l = (syT x s l ++ B.getD (nxT x s l) []).drop (B.getD s []).length := by
  have e : (pushT x I B).Y.getD s [] = (List.range I).map fun l => (syT x s l ++ B.getD (nxT x s l) []).drop (B.getD s []).length := by
    simp [pushT, List.getD, hs]
  show ((pushT x I B).Y.getD s []).getD l [] = _
  rw [e]
  simp only [List.getD, List.getElem?_map, List.getElem?_range hl, Option.map_some, Option.getD_some]
theorem pushT_last {s : Nat} (hs : s < x.N.length) : (pushT x I B).E.getD s [] = (x.E.getD s []).drop (B.getD s []).length := by
  simp only [pushT, List.getD, List.getElem?_map, List.getElem?_range hs, Option.map_some, Option.getD_some]
theorem pushT_go (q : Nat) (w : List Nat) : goT (pushT x I B) q w = goT x q w := by
  induction w generalizing q with
  | nil => rfl
  | cons l w ih => exact ih _
theorem pushT_ru (h : SureT x I B) {mb : Nat} (hr : ReadT x I mb) (w : List Nat) (hw : ∀ l, l ∈ w → l < I) {q : Nat} (hq : q < x.N.length) : B.getD q [] ++ ruT (pushT x I B) q w = ruT x q w ++ B.getD (goT x q w) [] := by
  induction w generalizing q with
  | nil => simp [ruT, goT]
  | cons l w ih =>
    have hl : l < I := hw l (List.mem_cons.2 (.inl rfl))
    have h1 := ih (fun k hk => hw k (List.mem_cons.2 (.inr hk))) (hr.lt hq hl).1
    obtain ⟨r, hr'⟩ := h.step q hq l hl
    show B.getD q [] ++ (syT (pushT x I B) q l ++ ruT (pushT x I B) (nxT x q l) w) = (syT x q l ++ ruT x (nxT x q l) w) ++ B.getD (goT x (nxT x q l) w) []
    rw [pushT_sy hq hl, hr', List.drop_append_of_le_length (Nat.le_refl _), List.drop_length, List.nil_append, ← List.append_assoc, ← hr', List.append_assoc, h1, List.append_assoc]
/-- What is said stays the same. -/
theorem pushT_says (h : SureT x I B) {mb : Nat} (hr : ReadT x I mb) (w : List Nat) (hw : ∀ l, l ∈ w → l < I) : saysT (pushT x I B) w = saysT x w := by
  have hS := hr.st
  unfold StT at hS
  have hq : x.S.toNat < x.N.length := by omega
  have hg := hr.go w hw hq
  obtain ⟨r, he⟩ := h.last _ hg
  show (x.F ++ B.getD x.S.toNat []) ++ ruT (pushT x I B) x.S.toNat w ++ (pushT x I B).E.getD (goT (pushT x I B) x.S.toNat w) [] = x.F ++ ruT x x.S.toNat w ++ x.E.getD (goT x x.S.toNat w) []
  rw [pushT_go, pushT_last hg, List.append_assoc x.F, pushT_ru h hr w hw hq, he, List.drop_append_of_le_length (Nat.le_refl _), List.drop_length, List.nil_append]
  simp
end

end Go.Proofs.Ytodcmlcpicabaaa

namespace Go.Proofs.Ytodcmlcpicabaaa
set_option linter.unusedVariables false

/-- Two states say the same at once, and lead to the same kinds. -/
def AlkF (x : TrI) (I : Nat) (k : Nat → Nat) (p q : Nat) : Prop := (∀ l, l < I → k (nxT x p l) = k (nxT x q l) ∧ syT x p l = syT x q l) ∧ x.E.getD p [] = x.E.getD q []
section
variable {x : TrI} {I : Nat} {k : Nat → Nat} {p q r : Nat}
theorem AlkF.refl : AlkF x I k p p := ⟨fun l _ => ⟨rfl, rfl⟩, rfl⟩
theorem AlkF.symm (h : AlkF x I k p q) : AlkF x I k q p := ⟨fun l hl => ⟨(h.1 l hl).1.symm, (h.1 l hl).2.symm⟩, h.2.symm⟩
theorem AlkF.trans (h : AlkF x I k p q) (h' : AlkF x I k q r) : AlkF x I k p r := ⟨fun l hl => ⟨(h.1 l hl).1.trans (h'.1 l hl).1, (h.1 l hl).2.trans (h'.1 l hl).2⟩, h.2.trans h'.2⟩
end
/-- The next kinds: the first state that is alike. -/
def NextK (x : TrI) (I n : Nat) (k k' : Nat → Nat) : Prop := ∀ s, s < n → k' s ≤ s ∧ AlkF x I k (k' s) s ∧ ∀ i, i < k' s → ¬ AlkF x I k i s
/-- A kind is its first state. -/
def CanK (n : Nat) (k : Nat → Nat) : Prop := ∀ s, s < n → k s ≤ s ∧ k (k s) = k s ∧ ∀ i, i < k s → k i ≠ k s
section
variable {x : TrI} {I n : Nat} {k k' k'' : Nat → Nat}
theorem NextK.same (h : NextK x I n k k') {p q : Nat} (hp : p < n) (hq : q < n) : k' p = k' q ↔ AlkF x I k p q := by
  obtain ⟨p1, p2, p3⟩ := h p hp
  obtain ⟨q1, q2, q3⟩ := h q hq
  constructor
  · intro e
    rw [e] at p2
    exact p2.symm.trans q2
  · intro a
    rcases Nat.lt_trichotomy (k' p) (k' q) with h1 | h1 | h1
    · exact absurd (p2.trans a) (q3 _ h1)
    · exact h1
    · exact absurd (q2.trans a.symm) (p3 _ h1)
theorem NextK.can (h : NextK x I n k k') : CanK n k' := fun s hs => by
  obtain ⟨h1, h2, h3⟩ := h s hs
  have hk : k' s < n := by omega
  have e : k' (k' s) = k' s := (h.same hk hs).2 h2
  refine ⟨h1, e, fun i hi e2 => ?_⟩
  exact h3 i hi ((h.same (by omega) hs).1 e2)
/-- How many kinds there are. -/
def cntK (k : Nat → Nat) : Nat → Nat
  | 0 => 0
  | n + 1 => cntK k n + if k n = n then 1 else 0
theorem cntK_le (k : Nat → Nat) (n : Nat) : cntK k n ≤ n := by
  induction n with
  | zero => exact Nat.le_refl _
  | succ n ih => unfold cntK; split <;> omega
theorem cntK_mono (h : ∀ s, s < n → k s = s → k' s = s) : cntK k n ≤ cntK k' n ∧ (cntK k n = cntK k' n → ∀ s, s < n → k' s = s → k s = s) := by
  induction n with
  | zero => exact ⟨Nat.le_refl _, fun _ s hs => by omega⟩
  | succ n ih =>
    obtain ⟨h1, h2⟩ := ih (fun s hs => h s (by omega))
    have h3 := h n (by omega)
    unfold cntK
    by_cases e : k n = n
    · have e' := h3 e
      rw [if_pos e, if_pos e']
      refine ⟨by omega, fun heq s hs => ?_⟩
      by_cases es : s = n
      · subst es; exact fun _ => e
      · exact h2 (by omega) s (by omega)
    · rw [if_neg e]
      by_cases e' : k' n = n
      · rw [if_pos e']
        exact ⟨by omega, fun heq => by omega⟩
      · rw [if_neg e']
        refine ⟨by omega, fun heq s hs => ?_⟩
        by_cases es : s = n
        · subst es; exact fun h => absurd h e'
        · exact h2 (by omega) s (by omega)
/-- If what is of one kind now was of one kind before, there are more kinds, or nothing has changed. -/
theorem kinds_more (h : CanK n k) (h' : CanK n k') (hf : ∀ p q, p < n → q < n → k' p = k' q → k p = k q) : cntK k n ≤ cntK k' n ∧ (cntK k n = cntK k' n → ∀ s, s < n → k' s = k s) := by
  have hfix : ∀ s, s < n → k s = s → k' s = s := fun s hs e => by
    obtain ⟨h1, h2, _⟩ := h' s hs
    have e2 := hf (k' s) s (by omega) hs h2
    have h3 := (h s hs).2.2
    rcases Nat.lt_or_ge (k' s) s with h4 | h4
    · exact absurd e2 (h3 _ (by omega))
    · omega
  obtain ⟨c1, c2⟩ := cntK_mono hfix
  refine ⟨c1, fun e s hs => ?_⟩
  obtain ⟨h1, h2, _⟩ := h' s hs
  have e2 := c2 e (k' s) (by omega) h2
  have e3 := hf (k' s) s (by omega) hs h2
  omega
/-- Going on never joins what was parted. -/
theorem next_finer (hN : ∀ s, s < n → ∀ l, l < I → nxT x s l < n) (h : NextK x I n k k') (h' : NextK x I n k' k'') (hf : ∀ p q, p < n → q < n → k' p = k' q → k p = k q) : ∀ p q, p < n → q < n → k'' p = k'' q → k' p = k' q := fun p q hp hq e => by
  have a := (h'.same hp hq).1 e
  refine (h.same hp hq).2 ⟨fun l hl => ⟨hf _ _ (hN p hp l hl) (hN q hq l hl) (a.1 l hl).1, (a.1 l hl).2⟩, a.2⟩
end

/-- Two states say the same to all words, letter by letter. -/
def BisT (x : TrI) (I p q : Nat) : Prop := ∀ w : List Nat, (∀ l, l ∈ w → l < I) → x.E.getD (goT x p w) [] = x.E.getD (goT x q w) [] ∧ ∀ l, l < I → syT x (goT x p w) l = syT x (goT x q w) l
section
variable {x : TrI} {I n : Nat} {k k' : Nat → Nat} {p q r : Nat}
theorem BisT.refl : BisT x I p p := fun w hw => ⟨rfl, fun l hl => rfl⟩
theorem BisT.symm (h : BisT x I p q) : BisT x I q p := fun w hw => ⟨(h w hw).1.symm, fun l hl => ((h w hw).2 l hl).symm⟩
theorem BisT.trans (h : BisT x I p q) (h' : BisT x I q r) : BisT x I p r := fun w hw => ⟨(h w hw).1.trans (h' w hw).1, fun l hl => ((h w hw).2 l hl).trans ((h' w hw).2 l hl)⟩
theorem BisT.step (h : BisT x I p q) {l : Nat} (hl : l < I) : BisT x I (nxT x p l) (nxT x q l) := fun w hw => h (l :: w) (fun j hj => by
  rcases List.mem_cons.1 hj with e | e
  · rw [e]; exact hl
  · exact hw j e)
/-- What is the same for ever stays of one kind. -/
theorem BisT.kind (hN : ∀ s, s < n → ∀ l, l < I → nxT x s l < n) (h : NextK x I n k k') (hk : ∀ p q, p < n → q < n → BisT x I p q → k p = k q) : ∀ p q, p < n → q < n → BisT x I p q → k' p = k' q := fun p q hp hq b =>
  (h.same hp hq).2 ⟨fun l hl => ⟨hk _ _ (hN p hp l hl) (hN q hq l hl) (b.step hl), (b [] (by simp)).2 l hl⟩, (b [] (by simp)).1⟩
/-- At rest, what is of one kind is the same for ever. -/
theorem kind_bis (hN : ∀ s, s < n → ∀ l, l < I → nxT x s l < n) (h : NextK x I n k k) (w : List Nat) (hw : ∀ l, l ∈ w → l < I) : ∀ p q, p < n → q < n → k p = k q → x.E.getD (goT x p w) [] = x.E.getD (goT x q w) [] ∧ ∀ l, l < I → syT x (goT x p w) l = syT x (goT x q w) l := by
  induction w with
  | nil =>
    intro p q hp hq e
    have a := (h.same hp hq).1 e
    exact ⟨a.2, fun l hl => (a.1 l hl).2⟩
  | cons j w ih =>
    intro p q hp hq e
    have a := (h.same hp hq).1 e
    have hj : j < I := hw j (List.mem_cons.2 (.inl rfl))
    exact ih (fun l hl => hw l (List.mem_cons.2 (.inr hl))) _ _ (hN p hp j hj) (hN q hq j hj) (a.1 j hj).1
end
/-- What kinds come to: the first state that says the same for ever. -/
structure KindIs (x : TrI) (I n : Nat) (k : Nat → Nat) : Prop where
  can : CanK n k
  bis : ∀ p q, p < n → q < n → (k p = k q ↔ BisT x I p q)
theorem KindIs.one {x : TrI} {I n : Nat} {k k' : Nat → Nat} (h : KindIs x I n k) (h' : KindIs x I n k') : ∀ s, s < n → k s = k' s := fun s hs => by
  have h1 := (kinds_more h.can h'.can (fun p q hp hq e => (h.bis p q hp hq).2 ((h'.bis p q hp hq).1 e)))
  have h2 := (kinds_more h'.can h.can (fun p q hp hq e => (h'.bis p q hp hq).2 ((h.bis p q hp hq).1 e)))
  exact (h1.2 (by omega) s hs).symm
/-- While kinds are parted. -/
structure KindSt (x : TrI) (I n : Nat) (k : Nat → Nat) : Prop where
  can : CanK n k
  keep : ∀ p q, p < n → q < n → BisT x I p q → k p = k q
  finer : ∀ k', NextK x I n k k' → ∀ p q, p < n → q < n → k' p = k' q → k p = k q
theorem KindSt.start (x : TrI) (I n : Nat) : KindSt x I n (fun _ => 0) := ⟨fun s hs => ⟨Nat.zero_le _, rfl, fun i hi => by simp at hi⟩, fun p q _ _ _ => rfl, fun k' _ p q _ _ _ => rfl⟩
theorem KindSt.next {x : TrI} {I n : Nat} {k k' : Nat → Nat} (hN : ∀ s, s < n → ∀ l, l < I → nxT x s l < n) (h : KindSt x I n k) (h' : NextK x I n k k') : KindSt x I n k' :=
  ⟨h'.can, BisT.kind hN h' h.keep, fun k'' h'' => next_finer hN h' h'' (h.finer k' h')⟩
theorem KindSt.less {x : TrI} {I n : Nat} {k k' : Nat → Nat} (h : KindSt x I n k) (h' : NextK x I n k k') (hne : ¬ ∀ s, s < n → k' s = k s) : cntK k n < cntK k' n := by
  obtain ⟨h1, h2⟩ := kinds_more h.can h'.can (h.finer k' h')
  rcases Nat.lt_or_ge (cntK k n) (cntK k' n) with h3 | h3
  · exact h3
  · exact absurd (h2 (by omega)) hne
theorem NextK.congr {x : TrI} {I n : Nat} {k k' j : Nat → Nat} (h : NextK x I n k k') (e : ∀ s, s < n → k' s = j s) : NextK x I n k j := fun s hs => by
  obtain ⟨h1, h2, h3⟩ := h s hs
  rw [← e s hs]
  exact ⟨h1, h2, h3⟩
theorem KindSt.rest {x : TrI} {I n : Nat} {k k' : Nat → Nat} (hN : ∀ s, s < n → ∀ l, l < I → nxT x s l < n) (h : KindSt x I n k) (h' : NextK x I n k k') (he : ∀ s, s < n → k' s = k s) : KindIs x I n k :=
  ⟨h.can, fun p q hp hq => ⟨fun e w hw => kind_bis hN (h'.congr he) w hw p q hp hq e, h.keep p q hp hq⟩⟩

end Go.Proofs.Ytodcmlcpicabaaa

namespace Go.Proofs.Ytodcmlcpicabaaa
set_option linter.unusedVariables false

/-- No word tells two states apart. -/
def Ner (δ : Nat → Nat → Nat) (m : Nat → Bool) (l p q : Nat) : Prop := ∀ z : List Nat, (∀ a, a ∈ z → a < l) → m (z.foldl δ p) = m (z.foldl δ q)
theorem Ner.mark {δ : Nat → Nat → Nat} {m : Nat → Bool} {l p q : Nat} (h : Ner δ m l p q) : m p = m q := h [] (by simp)
theorem Ner.step {δ : Nat → Nat → Nat} {m : Nat → Bool} {l p q a : Nat} (h : Ner δ m l p q) (ha : a < l) : Ner δ m l (δ p a) (δ q a) := fun z hz => h (a :: z) (fun b hb => by
  rcases List.mem_cons.1 hb with rfl | hb
  · exact ha
  · exact hz b hb)
theorem Ner.refl (δ : Nat → Nat → Nat) (m : Nat → Bool) (l p : Nat) : Ner δ m l p p := fun _ _ => rfl
theorem Ner.symm {δ : Nat → Nat → Nat} {m : Nat → Bool} {l p q : Nat} (h : Ner δ m l p q) : Ner δ m l q p := fun z hz => (h z hz).symm
theorem Ner.trans {δ : Nat → Nat → Nat} {m : Nat → Bool} {l p q r : Nat} (h : Ner δ m l p q) (k : Ner δ m l q r) : Ner δ m l p r := fun z hz => (h z hz).trans (k z hz)
/-- What keeps the marks and is kept by letters is told apart by no word. -/
theorem ner_of_stable {δ : Nat → Nat → Nat} {m : Nat → Bool} {n l : Nat} {f : Nat → Nat} (hδ : ∀ s a, s < n → a < l → δ s a < n) (hm : ∀ p q, p < n → q < n → f p = f q → m p = m q) (hs : ∀ p q a, p < n → q < n → a < l → f p = f q → f (δ p a) = f (δ q a)) :
    ∀ p q, p < n → q < n → f p = f q → Ner δ m l p q := by
  intro p q hp hq e z
  induction z generalizing p q with
  | nil => intro _; exact hm p q hp hq e
  | cons a z ih =>
    intro hz
    have ha := hz a (by simp)
    exact ih (δ p a) (δ q a) (hδ _ _ hp ha) (hδ _ _ hq ha) (hs p q a hp hq ha e) (fun b hb => hz b (by simp [hb]))

/-- Two states have one class, and so have those that letters lead to. -/
def eqF (f : Nat → Nat) (δ : Nat → Nat → Nat) (l p q : Nat) : Bool := decide (f p = f q) && (List.range l).all fun a => decide (f (δ p a) = f (δ q a))
theorem eqF_iff (f : Nat → Nat) (δ : Nat → Nat → Nat) (l p q : Nat) : eqF f δ l p q = true ↔ f p = f q ∧ ∀ a, a < l → f (δ p a) = f (δ q a) := by simp [eqF]
theorem eqF_refl (f : Nat → Nat) (δ : Nat → Nat → Nat) (l p : Nat) : eqF f δ l p p = true := by simp [eqF]
theorem eqF_symm {f : Nat → Nat} {δ : Nat → Nat → Nat} {l p q : Nat} (h : eqF f δ l p q = true) : eqF f δ l q p = true := by
  rw [eqF_iff] at h ⊢; exact ⟨h.1.symm, fun a ha => (h.2 a ha).symm⟩
theorem eqF_trans {f : Nat → Nat} {δ : Nat → Nat → Nat} {l p q r : Nat} (h : eqF f δ l p q = true) (k : eqF f δ l q r = true) : eqF f δ l p r = true := by
  rw [eqF_iff] at h k ⊢; exact ⟨h.1.trans k.1, fun a ha => (h.2 a ha).trans (k.2 a ha)⟩

def ixE (e : Nat → Nat → Bool) : List Nat → Nat → Nat
  | [], _ => 0
  | r :: rs, q => if e r q = true then 0 else ixE e rs q + 1
def anyE (e : Nat → Nat → Bool) (xs : List Nat) (q : Nat) : Prop := ∃ r, r ∈ xs ∧ e r q = true
theorem ixE_lt {e : Nat → Nat → Bool} {xs : List Nat} {q : Nat} (h : anyE e xs q) : ixE e xs q < xs.length := by
  obtain ⟨r, hr, he⟩ := h
  induction xs with
  | nil => simp at hr
  | cons x xs ih =>
    simp only [ixE]
    split
    · simp
    · next hne =>
      rcases List.mem_cons.1 hr with rfl | hr
      · exact absurd he hne
      · have := ih hr; simp; omega
theorem ixE_rel {e : Nat → Nat → Bool} {xs : List Nat} {q : Nat} (h : anyE e xs q) : e (xs.getD (ixE e xs q) 0) q = true := by
  obtain ⟨r, hr, he⟩ := h
  induction xs with
  | nil => simp at hr
  | cons x xs ih =>
    simp only [ixE]
    split
    · next h => simpa using h
    · next hne =>
      rcases List.mem_cons.1 hr with rfl | hr
      · exact absurd he hne
      · simpa using ih hr
/-- Where it stands first: by what stands ahead. -/
theorem ixE_eq {e : Nat → Nat → Bool} {xs : List Nat} {q k : Nat} (hk : k ≤ xs.length) (h : ∀ j, j < k → e (xs.getD j 0) q = false) (h2 : k < xs.length → e (xs.getD k 0) q = true) : ixE e xs q = k := by
  induction xs generalizing k with
  | nil => simp at hk; subst hk; rfl
  | cons x xs ih =>
    cases k with
    | zero => have := h2 (by simp); simp only [ixE]; rw [if_pos (by simpa using this)]
    | succ k =>
      have h0 := h 0 (by omega)
      simp only [ixE]
      rw [if_neg (by simpa using h0), ih (by simpa using hk) (fun j hj => by simpa using h (j + 1) (by omega)) (fun hl => by simpa using h2 (by simp; omega))]
theorem ixE_append {e : Nat → Nat → Bool} {xs : List Nat} {q : Nat} (h : anyE e xs q) (ys : List Nat) : ixE e (xs ++ ys) q = ixE e xs q := by
  obtain ⟨r, hr, he⟩ := h
  induction xs with
  | nil => simp at hr
  | cons x xs ih =>
    simp only [ixE, List.cons_append]
    split
    · rfl
    · next hne =>
      rcases List.mem_cons.1 hr with rfl | hr
      · exact absurd he hne
      · rw [ih hr]

/-- The first ones of each class, of the states ahead of q. -/
def fsE (e : Nat → Nat → Bool) : Nat → List Nat
  | 0 => []
  | q + 1 => if (fsE e q).any (fun r => e r q) = true then fsE e q else fsE e q ++ [q]
theorem fsE_any {e : Nat → Nat → Bool} {q : Nat} : (fsE e q).any (fun r => e r q) = true ↔ anyE e (fsE e q) q := by simp [anyE]
theorem fsE_old {e : Nat → Nat → Bool} {q : Nat} (h : anyE e (fsE e q) q) : fsE e (q + 1) = fsE e q := by simp only [fsE]; rw [if_pos (fsE_any.2 h)]
theorem fsE_new {e : Nat → Nat → Bool} {q : Nat} (h : ¬ anyE e (fsE e q) q) : fsE e (q + 1) = fsE e q ++ [q] := by simp only [fsE]; rw [if_neg (fun c => h (fsE_any.1 c))]
theorem fsE_le (e : Nat → Nat → Bool) {i j : Nat} (h : i ≤ j) : ∃ zs, fsE e j = fsE e i ++ zs := by
  induction j with
  | zero => have : i = 0 := by omega
            subst this; exact ⟨[], by simp⟩
  | succ j ih =>
    by_cases c : i = j + 1
    · subst c; exact ⟨[], by simp⟩
    · obtain ⟨zs, h1⟩ := ih (by omega)
      by_cases hc : anyE e (fsE e j) j
      · exact ⟨zs, by rw [fsE_old hc, h1]⟩
      · exact ⟨zs ++ [j], by rw [fsE_new hc, h1, List.append_assoc]⟩
theorem fsE_lt (e : Nat → Nat → Bool) (q : Nat) : ∀ r, r ∈ fsE e q → r < q := by
  induction q with
  | zero => intro r hr; simp [fsE] at hr
  | succ q ih =>
    intro r hr
    by_cases hc : anyE e (fsE e q) q
    · rw [fsE_old hc] at hr; have := ih r hr; omega
    · rw [fsE_new hc] at hr
      rcases List.mem_append.1 hr with h | h
      · have := ih r h; omega
      · simp at h; omega
theorem fsE_len (e : Nat → Nat → Bool) (q : Nat) : (fsE e q).length ≤ q := by
  induction q with
  | zero => simp [fsE]
  | succ q ih =>
    by_cases hc : anyE e (fsE e q) q
    · rw [fsE_old hc]; omega
    · rw [fsE_new hc]; simp; exact ih
section
variable {e : Nat → Nat → Bool}
theorem fsE_has (hr : ∀ p, e p p = true) {q N : Nat} (h : q < N) : anyE e (fsE e N) q := by
  obtain ⟨zs, h1⟩ := fsE_le e (show q + 1 ≤ N by omega)
  have h2 : anyE e (fsE e (q + 1)) q := by
    by_cases hc : anyE e (fsE e q) q
    · rw [fsE_old hc]; exact hc
    · rw [fsE_new hc]; exact ⟨q, by simp, hr q⟩
  obtain ⟨r, h3, h4⟩ := h2
  exact ⟨r, by rw [h1]; simp [h3], h4⟩
/-- No two of the first ones are in one class. -/
theorem fsE_apart (hs : ∀ p q, e p q = true → e q p = true) (ht : ∀ p q r, e p q = true → e q r = true → e p r = true) (N : Nat) : ∀ i j, i < j → j < (fsE e N).length → e ((fsE e N).getD i 0) ((fsE e N).getD j 0) = false := by
  induction N with
  | zero => intro i j _ hj; simp [fsE] at hj
  | succ N ih =>
    intro i j hij hj
    by_cases hc : anyE e (fsE e N) N
    · rw [fsE_old hc] at hj ⊢; exact ih i j hij hj
    · rw [fsE_new hc] at hj ⊢
      by_cases hjl : j < (fsE e N).length
      · rw [getD_app _ hjl, getD_app _ (by omega)]; exact ih i j hij hjl
      · have hje : j = (fsE e N).length := by simp at hj; omega
        subst hje
        have e1 : (fsE e N ++ [N]).getD (fsE e N).length 0 = N := by simp [List.getD]
        rw [e1, getD_app _ hij]
        cases hb : e ((fsE e N).getD i 0) N with
        | false => rfl
        | true => exact absurd ⟨_, getD_mem hij, hb⟩ hc
/-- The class of a state. -/
def clE (e : Nat → Nat → Bool) (N q : Nat) : Nat := ixE e (fsE e N) q
theorem clE_lt (hr : ∀ p, e p p = true) {N q : Nat} (h : q < N) : clE e N q < (fsE e N).length := ixE_lt (fsE_has hr h)
theorem clE_iff (hr : ∀ p, e p p = true) (hs : ∀ p q, e p q = true → e q p = true) (ht : ∀ p q r, e p q = true → e q r = true → e p r = true) {N p q : Nat} (hp : p < N) (hq : q < N) : clE e N p = clE e N q ↔ e p q = true := by
  have a1 := ixE_rel (fsE_has hr hp)
  have a2 := ixE_rel (fsE_has hr hq)
  have l1 := ixE_lt (fsE_has hr hp)
  have l2 := ixE_lt (fsE_has hr hq)
  constructor
  · intro h
    unfold clE at h
    rw [h] at a1
    exact ht _ _ _ (hs _ _ a1) a2
  · intro h
    have a3 : e ((fsE e N).getD (ixE e (fsE e N) p) 0) ((fsE e N).getD (ixE e (fsE e N) q) 0) = true := ht _ _ _ (ht _ _ _ a1 h) (hs _ _ a2)
    unfold clE
    rcases Nat.lt_trichotomy (ixE e (fsE e N) p) (ixE e (fsE e N) q) with c | c | c
    · have := fsE_apart hs ht N _ _ c l2; rw [this] at a3; cases a3
    · exact c
    · have := fsE_apart hs ht N _ _ c l1; rw [hs _ _ a3] at this; cases this
theorem clE_onto (hr : ∀ p, e p p = true) (hs : ∀ p q, e p q = true → e q p = true) (ht : ∀ p q r, e p q = true → e q r = true → e p r = true) {N c : Nat} (h : c < (fsE e N).length) : ∃ s, s < N ∧ clE e N s = c := by
  refine ⟨(fsE e N).getD c 0, fsE_lt e N _ (getD_mem h), ?_⟩
  refine ixE_eq (by omega) (fun j hj => fsE_apart hs ht N j c hj h) (fun _ => hr _)
theorem clE_at (hr : ∀ p, e p p = true) {N q : Nat} (h : q < N) : ixE e (fsE e (q + 1)) q = clE e N q := by
  obtain ⟨zs, h1⟩ := fsE_le e (show q + 1 ≤ N by omega)
  unfold clE
  rw [h1, ixE_append (fsE_has hr (by omega))]
end

/-- A list in which all numbers below m stand has m of them, or more. -/
theorem cover_len (m : Nat) : ∀ xs : List Nat, (∀ c, c < m → c ∈ xs) → m ≤ xs.length := by
  induction m with
  | zero => intro xs _; omega
  | succ m ih =>
    intro xs h
    have hm := h m (by omega)
    have h1 := ih (xs.erase m) (fun c hc => (List.mem_erase_of_ne (by omega)).2 (h c (by omega)))
    have h2 := List.length_erase_of_mem hm
    have h3 : 0 < xs.length := List.length_pos_of_mem hm
    omega
/-- .. and if it has just m, no two are the same. -/
theorem cover_inj {m : Nat} {xs : List Nat} (h : ∀ c, c < m → c ∈ xs) (hl : xs.length = m) {i j : Nat} (hij : i < j) (hj : j < xs.length) : xs.getD i 0 ≠ xs.getD j 0 := by
  intro hc
  have h1 := cover_len m (xs.eraseIdx j) (fun c hcm => by
    obtain ⟨k, hk, rfl⟩ := List.getElem_of_mem (h c hcm)
    rw [List.mem_eraseIdx_iff_getElem]
    by_cases hkj : k = j
    · subst hkj
      refine ⟨i, by omega, by omega, ?_⟩
      simpa [List.getD, hk, show i < xs.length by omega] using hc
    · exact ⟨k, hk, hkj, rfl⟩)
  rw [List.length_eraseIdx_of_lt hj] at h1
  omega

/-- What holds of classes at a round's head. -/
structure Moore (δ : Nat → Nat → Nat) (m : Nat → Bool) (n l : Nat) (f : Nat → Nat) (cnt : Nat) : Prop where
  keeps : ∀ p q, p < n → q < n → f p = f q → m p = m q
  coarse : ∀ p q, p < n → q < n → Ner δ m l p q → f p = f q
  onto : cnt = 0 ∨ ((∀ s, s < n → f s < cnt) ∧ ∀ c, c < cnt → ∃ s, s < n ∧ f s = c)
section
variable {δ : Nat → Nat → Nat} {m : Nat → Bool} {n l : Nat} {f : Nat → Nat} {cnt : Nat}
theorem moore_eq (δ : Nat → Nat → Nat) (l : Nat) (f : Nat → Nat) : (∀ p, eqF f δ l p p = true) ∧ (∀ p q, eqF f δ l p q = true → eqF f δ l q p = true) ∧ (∀ p q r, eqF f δ l p q = true → eqF f δ l q r = true → eqF f δ l p r = true) :=
  ⟨eqF_refl f δ l, fun _ _ => eqF_symm, fun _ _ _ => eqF_trans⟩
theorem Moore.start (δ : Nat → Nat → Nat) (m : Nat → Bool) (n l : Nat) : Moore δ m n l (fun s => if m s = true then 1 else 0) 0 := by
  refine ⟨fun p q _ _ h => ?_, fun p q _ _ h => by show (if m p = true then 1 else 0) = (if m q = true then 1 else 0); rw [h.mark], .inl rfl⟩
  cases h1 : m p <;> cases h2 : m q <;> simp [h1, h2] at h ⊢
/-- A round more. -/
theorem Moore.next (h : Moore δ m n l f cnt) (hδ : ∀ s a, s < n → a < l → δ s a < n) : Moore δ m n l (clE (eqF f δ l) n) (fsE (eqF f δ l) n).length := by
  obtain ⟨hr, hs, ht⟩ := moore_eq δ l f
  refine ⟨fun p q hp hq e => ?_, fun p q hp hq e => ?_, .inr ⟨fun s hs2 => clE_lt hr hs2, fun c hc => clE_onto hr hs ht hc⟩⟩
  · exact h.keeps p q hp hq ((eqF_iff f δ l p q).1 ((clE_iff hr hs ht hp hq).1 e)).1
  · exact (clE_iff hr hs ht hp hq).2 ((eqF_iff f δ l p q).2 ⟨h.coarse p q hp hq e, fun a ha => h.coarse _ _ (hδ _ _ hp ha) (hδ _ _ hq ha) (e.step ha)⟩)
theorem Moore.cover (h : Moore δ m n l f cnt) : ∀ c, c < cnt → c ∈ (fsE (eqF f δ l) n).map f := by
  obtain ⟨hr, hs, ht⟩ := moore_eq δ l f
  intro c hc
  rcases h.onto with h0 | ⟨_, h1⟩
  · omega
  · obtain ⟨s, hs1, rfl⟩ := h1 c hc
    have h2 := ixE_rel (fsE_has hr hs1)
    exact List.mem_map.2 ⟨_, getD_mem (ixE_lt (fsE_has hr hs1)), ((eqF_iff f δ l _ _).1 h2).1⟩
theorem Moore.grows (h : Moore δ m n l f cnt) : cnt ≤ (fsE (eqF f δ l) n).length := by
  have := cover_len cnt _ h.cover
  simpa using this
/-- Nothing has been parted: then no word tells apart what is in one class. -/
theorem Moore.end (h : Moore δ m n l f cnt) (hδ : ∀ s a, s < n → a < l → δ s a < n) (hn : 0 < n) (he : (fsE (eqF f δ l) n).length = cnt) {p q : Nat} (hp : p < n) (hq : q < n) : clE (eqF f δ l) n p = clE (eqF f δ l) n q ↔ Ner δ m l p q := by
  obtain ⟨hr, hs, ht⟩ := moore_eq δ l f
  have hstab : ∀ p q, p < n → q < n → f p = f q → eqF f δ l p q = true := by
    intro p q hp hq hf
    cases hb : eqF f δ l p q with
    | true => rfl
    | false =>
      have l1 := ixE_lt (fsE_has hr hp)
      have l2 := ixE_lt (fsE_has hr hq)
      have r1 := (eqF_iff f δ l _ _).1 (ixE_rel (fsE_has hr hp))
      have r2 := (eqF_iff f δ l _ _).1 (ixE_rel (fsE_has hr hq))
      have hne : ixE (eqF f δ l) (fsE (eqF f δ l) n) p ≠ ixE (eqF f δ l) (fsE (eqF f δ l) n) q := fun e => by
        have := (clE_iff hr hs ht hp hq).1 e
        rw [hb] at this; cases this
      have gm : ∀ i, i < (fsE (eqF f δ l) n).length → ((fsE (eqF f δ l) n).map f).getD i 0 = f ((fsE (eqF f δ l) n).getD i 0) := fun i hi => by simp [List.getD, hi]
      rcases Nat.lt_or_gt_of_ne hne with c | c
      · exact absurd (by rw [gm _ l1, gm _ l2, r1.1, r2.1, hf]) (cover_inj h.cover (by simpa using he) c (by simpa using l2))
      · exact absurd (by rw [gm _ l1, gm _ l2, r1.1, r2.1, hf]) (cover_inj h.cover (by simpa using he) c (by simpa using l1))
  constructor
  · intro e
    have e1 := ((eqF_iff f δ l p q).1 ((clE_iff hr hs ht hp hq).1 e)).1
    exact ner_of_stable hδ h.keeps (fun p q a hp hq ha e => ((eqF_iff f δ l p q).1 (hstab p q hp hq e)).2 a ha) p q hp hq e1
  · exact fun e => (h.next hδ).coarse p q hp hq e
end

end Go.Proofs.Ytodcmlcpicabaaa

namespace Go.Proofs.Ytodcmlcpicabaaa
set_option linter.unusedVariables false

/-- Two states of two transducers say the same for ever. -/
def BisX (x y : TrI) (I p q : Nat) : Prop := ∀ w : List Nat, (∀ l, l ∈ w → l < I) → x.E.getD (goT x p w) [] = y.E.getD (goT y q w) [] ∧ ∀ l, l < I → syT x (goT x p w) l = syT y (goT y q w) l
section
variable {x y z : TrI} {I p q r : Nat}
theorem bis_of (R : Nat → Nat → Prop) (h : ∀ p q, R p q → x.E.getD p [] = y.E.getD q [] ∧ ∀ l, l < I → syT x p l = syT y q l ∧ R (nxT x p l) (nxT y q l)) (hR : R p q) : BisX x y I p q := by
  intro w
  induction w generalizing p q with
  | nil => intro _; exact ⟨(h p q hR).1, fun l hl => ((h p q hR).2 l hl).1⟩
  | cons a w ih =>
    intro hw
    exact ih ((h p q hR).2 a (hw a (by simp))).2 (fun l hl => hw l (by simp [hl]))
theorem BisX.symm (h : BisX x y I p q) : BisX y x I q p := fun w hw => ⟨(h w hw).1.symm, fun l hl => ((h w hw).2 l hl).symm⟩
theorem BisX.trans (h : BisX x y I p q) (h' : BisX y z I q r) : BisX x z I p r := fun w hw => ⟨(h w hw).1.trans (h' w hw).1, fun l hl => ((h w hw).2 l hl).trans ((h' w hw).2 l hl)⟩
theorem BisX.step (h : BisX x y I p q) {l : Nat} (hl : l < I) : BisX x y I (nxT x p l) (nxT y q l) := fun w hw => h (l :: w) (fun j hj => by
  rcases List.mem_cons.1 hj with e | e
  · rw [e]; exact hl
  · exact hw j e)
theorem BisX.now (h : BisX x y I p q) : x.E.getD p [] = y.E.getD q [] ∧ ∀ l, l < I → syT x p l = syT y q l := h [] (by simp)
theorem BisX.ru (h : BisX x y I p q) (w : List Nat) (hw : ∀ l, l ∈ w → l < I) : ruT x p w = ruT y q w := by
  induction w generalizing p q with
  | nil => rfl
  | cons a w ih =>
    have ha := hw a (by simp)
    show syT x p a ++ ruT x (nxT x p a) w = syT y q a ++ ruT y (nxT y q a) w
    rw [h.now.2 a ha, ih (h.step ha) (fun l hl => hw l (by simp [hl]))]
theorem BisX.says (hF : x.F = y.F) (h : BisX x y I x.S.toNat y.S.toNat) (w : List Nat) (hw : ∀ l, l ∈ w → l < I) : saysT x w = saysT y w := by
  unfold saysT
  rw [hF, h.ru w hw, (h w hw).1]
end

/-- What comes out of states that are numbered as they are come to. -/
def ofK (κ : Nat → Nat) (O : Int) (F : List Int) (l : Nat) (δ : Nat → Nat → Nat) (σ : Nat → Nat → List Int) (ε : Nat → List Int) (xs : List Nat) : TrI :=
  ⟨(l : Int), O, 0, F, resR κ δ l xs, xs.map fun x => (List.range l).map (σ x), xs.map ε⟩
section
variable {κ : Nat → Nat} {O : Int} {F : List Int} {l x0 k : Nat} {δ : Nat → Nat → Nat} {σ : Nat → Nat → List Int} {ε : Nat → List Int} {xs : List Nat}
theorem ofK_len : (ofK κ O F l δ σ ε xs).N.length = xs.length ∧ (ofK κ O F l δ σ ε xs).Y.length = xs.length ∧ (ofK κ O F l δ σ ε xs).E.length = xs.length := by simp [ofK, resR]
theorem ofK_sy {i a : Nat} (hi : i < xs.length) (ha : a < l) : syT (ofK κ O F l δ σ ε xs) i a = σ (xs.getD i 0) a := by
  simp [syT, ofK, List.getD, hi, ha]
theorem ofK_e {i : Nat} (hi : i < xs.length) : (ofK κ O F l δ σ ε xs).E.getD i [] = ε (xs.getD i 0) := by
  simp [ofK, List.getD, hi]
theorem ofK_nx {i a : Nat} (hi : i < xs.length) (ha : a < l) : nxT (ofK κ O F l δ σ ε xs) i a = ix κ xs (δ (xs.getD i 0) a) ∧ ((ofK κ O F l δ σ ε xs).N.getD i []).getD a 0 = ((ix κ xs (δ (xs.getD i 0) a) : Nat) : Int) := by
  have : ((ofK κ O F l δ σ ε xs).N.getD i []).getD a 0 = ((ix κ xs (δ (xs.getD i 0) a) : Nat) : Int) := by simp [ofK, resR, rowR, List.getD, hi, ha]
  exact ⟨by unfold nxT; rw [this]; omega, this⟩
theorem ofK_row {i : Nat} (hi : i < xs.length) : ((ofK κ O F l δ σ ε xs).N.getD i []).length = l ∧ ((ofK κ O F l δ σ ε xs).Y.getD i []).length = l := by
  simp [ofK, resR, rowR, List.getD, hi]
theorem end_has (hE : IsEnd (bfsL κ δ l x0) k) {i a : Nat} (hi : i < k) (ha : a < l) : hasK κ (bfsL κ δ l x0 k) (δ ((bfsL κ δ l x0 k).getD i 0) a) := bfsL_has hi (hE.go i hi) ha
theorem ofK_shp {m : Nat} (hE : IsEnd (bfsL κ δ l x0) k) (hk : 1 ≤ k) (hσ : ∀ q, q ∈ bfsL κ δ l x0 k → ∀ a, a < l → (σ q a).length ≤ m) (hε : ∀ q, q ∈ bfsL κ δ l x0 k → (ε q).length ≤ m) :
    1 ≤ (ofK κ O F l δ σ ε (bfsL κ δ l x0 k)).N.length ∧ (∀ s, s < k → ∀ a, a < l → StT k (((ofK κ O F l δ σ ε (bfsL κ δ l x0 k)).N.getD s []).getD a 0)) ∧ (∀ s, s < k → ∀ a, a < l → (syT (ofK κ O F l δ σ ε (bfsL κ δ l x0 k)) s a).length ≤ m) ∧ ∀ s, s < k → ((ofK κ O F l δ σ ε (bfsL κ δ l x0 k)).E.getD s []).length ≤ m := by
  have hl := hE.len
  refine ⟨by rw [ofK_len.1, hl]; exact hk, fun s hs a ha => ?_, fun s hs a ha => ?_, fun s hs => ?_⟩
  · rw [(ofK_nx (by rw [hl]; exact hs) ha).2]
    have := ix_lt (end_has hE hs ha)
    rw [hl] at this
    unfold StT; omega
  · rw [ofK_sy (by rw [hl]; exact hs) ha]
    exact hσ _ (getD_mem (by rw [hl]; exact hs)) a ha
  · rw [ofK_e (by rw [hl]; exact hs)]
    exact hε _ (getD_mem (by rw [hl]; exact hs))
/-- It says what is said from the states that are numbered. -/
theorem ofK_bis (hE : IsEnd (bfsL id δ l x0) k) {y : TrI} (ρ : Nat → Nat → Prop) (hρ : ∀ a b, ρ a b → ε a = y.E.getD b [] ∧ ∀ c, c < l → σ a c = syT y b c ∧ ρ (δ a c) (nxT y b c)) {i b : Nat} (hi : i < k) (h : ρ ((bfsL id δ l x0 k).getD i 0) b) :
    BisX (ofK id O F l δ σ ε (bfsL id δ l x0 k)) y l i b := by
  have hl := hE.len
  refine bis_of (fun i b => i < k ∧ ρ ((bfsL id δ l x0 k).getD i 0) b) (fun i b ⟨hi, hr⟩ => ?_) ⟨hi, h⟩
  have hi' : i < (bfsL id δ l x0 k).length := by rw [hl]; exact hi
  obtain ⟨h1, h2⟩ := hρ _ _ hr
  refine ⟨by rw [ofK_e hi']; exact h1, fun c hc => ⟨by rw [ofK_sy hi' hc]; exact (h2 c hc).1, ?_⟩⟩
  rw [(ofK_nx hi' hc).1]
  have hh := end_has hE hi hc
  have h3 := ix_lt hh
  have h4 := ix_key hh
  simp only [id_eq] at h4
  rw [hl] at h3
  exact ⟨h3, by rw [h4]; exact (h2 c hc).2⟩
end

/-! Classes, by a list of first ones. -/
def alkB (x : TrI) (I : Nat) (f : Nat → Nat) (p q : Nat) : Bool := decide (f p = f q) && (decide (x.E.getD p [] = x.E.getD q []) && (List.range I).all fun l => decide (syT x p l = syT x q l) && decide (f (nxT x p l) = f (nxT x q l)))
theorem alkB_iff (x : TrI) (I : Nat) (f : Nat → Nat) (p q : Nat) : alkB x I f p q = true ↔ f p = f q ∧ x.E.getD p [] = x.E.getD q [] ∧ ∀ l, l < I → syT x p l = syT x q l ∧ f (nxT x p l) = f (nxT x q l) := by simp [alkB]
theorem alkB_eq (x : TrI) (I : Nat) (f : Nat → Nat) : (∀ p, alkB x I f p p = true) ∧ (∀ p q, alkB x I f p q = true → alkB x I f q p = true) ∧ (∀ p q r, alkB x I f p q = true → alkB x I f q r = true → alkB x I f p r = true) := by
  refine ⟨fun p => (alkB_iff _ _ _ _ _).2 ⟨rfl, rfl, fun l _ => ⟨rfl, rfl⟩⟩, fun p q h => ?_, fun p q r h h' => ?_⟩
  · rw [alkB_iff] at h ⊢
    exact ⟨h.1.symm, h.2.1.symm, fun l hl => ⟨(h.2.2 l hl).1.symm, (h.2.2 l hl).2.symm⟩⟩
  · rw [alkB_iff] at h h' ⊢
    exact ⟨h.1.trans h'.1, h.2.1.trans h'.2.1, fun l hl => ⟨(h.2.2 l hl).1.trans (h'.2.2 l hl).1, (h.2.2 l hl).2.trans (h'.2.2 l hl).2⟩⟩
structure MoT (x : TrI) (I n : Nat) (f : Nat → Nat) (cnt : Nat) : Prop where
  coarse : ∀ p q, p < n → q < n → BisT x I p q → f p = f q
  onto : cnt = 0 ∨ ((∀ s, s < n → f s < cnt) ∧ ∀ c, c < cnt → ∃ s, s < n ∧ f s = c)
section
variable {x : TrI} {I n : Nat} {f : Nat → Nat} {cnt : Nat}
theorem MoT.start (x : TrI) (I n : Nat) : MoT x I n (fun _ => 0) 0 := ⟨fun _ _ _ _ _ => rfl, .inl rfl⟩
theorem MoT.next (h : MoT x I n f cnt) (hN : ∀ s, s < n → ∀ l, l < I → nxT x s l < n) : MoT x I n (clE (alkB x I f) n) (fsE (alkB x I f) n).length := by
  obtain ⟨hr, hs, ht⟩ := alkB_eq x I f
  refine ⟨fun p q hp hq e => ?_, .inr ⟨fun s hs2 => clE_lt hr hs2, fun c hc => clE_onto hr hs ht hc⟩⟩
  refine (clE_iff hr hs ht hp hq).2 ((alkB_iff x I f p q).2 ⟨h.coarse p q hp hq e, (e [] (by simp)).1, fun l hl => ⟨(e [] (by simp)).2 l hl, h.coarse _ _ (hN p hp l hl) (hN q hq l hl) (e.step hl)⟩⟩)
theorem MoT.cover (h : MoT x I n f cnt) : ∀ c, c < cnt → c ∈ (fsE (alkB x I f) n).map f := by
  obtain ⟨hr, hs, ht⟩ := alkB_eq x I f
  intro c hc
  rcases h.onto with h0 | ⟨_, h1⟩
  · omega
  · obtain ⟨s, hs1, rfl⟩ := h1 c hc
    exact List.mem_map.2 ⟨_, getD_mem (ixE_lt (fsE_has hr hs1)), ((alkB_iff x I f _ _).1 (ixE_rel (fsE_has hr hs1))).1⟩
theorem MoT.grows (h : MoT x I n f cnt) : cnt ≤ (fsE (alkB x I f) n).length := by
  have := cover_len cnt _ h.cover
  simpa using this
theorem MoT.end (h : MoT x I n f cnt) (hN : ∀ s, s < n → ∀ l, l < I → nxT x s l < n) (he : (fsE (alkB x I f) n).length = cnt) {p q : Nat} (hp : p < n) (hq : q < n) : clE (alkB x I f) n p = clE (alkB x I f) n q ↔ BisT x I p q := by
  obtain ⟨hr, hs, ht⟩ := alkB_eq x I f
  have hstab : ∀ p q, p < n → q < n → f p = f q → alkB x I f p q = true := by
    intro p q hp hq hf
    cases hb : alkB x I f p q with
    | true => rfl
    | false =>
      have l1 := ixE_lt (fsE_has hr hp)
      have l2 := ixE_lt (fsE_has hr hq)
      have r1 := (alkB_iff x I f _ _).1 (ixE_rel (fsE_has hr hp))
      have r2 := (alkB_iff x I f _ _).1 (ixE_rel (fsE_has hr hq))
      have hne : ixE (alkB x I f) (fsE (alkB x I f) n) p ≠ ixE (alkB x I f) (fsE (alkB x I f) n) q := fun e => by
        have := (clE_iff hr hs ht hp hq).1 e
        rw [hb] at this; cases this
      have gm : ∀ i, i < (fsE (alkB x I f) n).length → ((fsE (alkB x I f) n).map f).getD i 0 = f ((fsE (alkB x I f) n).getD i 0) := fun i hi => by simp [List.getD, hi]
      rcases Nat.lt_or_gt_of_ne hne with c | c
      · exact absurd (by rw [gm _ l1, gm _ l2, r1.1, r2.1, hf]) (cover_inj h.cover (by simpa using he) c (by simpa using l2))
      · exact absurd (by rw [gm _ l1, gm _ l2, r1.1, r2.1, hf]) (cover_inj h.cover (by simpa using he) c (by simpa using l1))
  constructor
  · intro e
    have e1 := ((alkB_iff x I f p q).1 ((clE_iff hr hs ht hp hq).1 e)).1
    exact bis_of (x := x) (y := x) (fun a b => a < n ∧ b < n ∧ f a = f b) (fun a b ⟨ha, hb, hf⟩ => by
      obtain ⟨_, h2, h3⟩ := (alkB_iff x I f a b).1 (hstab a b ha hb hf)
      exact ⟨h2, fun l hl => ⟨(h3 l hl).1, hN a ha l hl, hN b hb l hl, (h3 l hl).2⟩⟩) ⟨hp, hq, e1⟩
  · exact fun e => (h.next hN).coarse p q hp hq e
end

/-- Both least ones are one: of states numbered as they are come to, then by kinds; and at once by classes. -/
theorem least_one {p : TrI} {I n s0 k k2 k3 : Nat} {O O1 : Int} {F F1 : List Int} {kd cls : Nat → Nat} (hn : n = p.N.length) (hs0 : s0 < n) (hN : ∀ s, s < n → ∀ l, l < I → nxT p s l < n)
    (e1 : IsEnd (bfsL id (nxT p) I s0) k) {y : TrI} (hy : y = ofK id O1 F1 I (nxT p) (syT p) (fun q => p.E.getD q []) (bfsL id (nxT p) I s0 k)) (hkd : KindIs y I k kd)
    (e2 : IsEnd (bfsL id (fun s l => kd (nxT y s l)) I (kd 0)) k2)
    (hcl : ∀ a b, a < n → b < n → (cls a = cls b ↔ BisT p I a b)) (e3 : IsEnd (bfsL cls (nxT p) I s0) k3) :
    ofK id O F I (fun s l => kd (nxT y s l)) (syT y) (fun q => y.E.getD q []) (bfsL id (fun s l => kd (nxT y s l)) I (kd 0) k2) = ofK cls O F I (nxT p) (syT p) (fun q => p.E.getD q []) (bfsL cls (nxT p) I s0 k3) ∧
    BisX (ofK id O F I (fun s l => kd (nxT y s l)) (syT y) (fun q => y.E.getD q []) (bfsL id (fun s l => kd (nxT y s l)) I (kd 0) k2)) p I 0 s0 ∧ 1 ≤ k2 := by
  have hk1 : 1 ≤ k := by
    rcases Nat.eq_zero_or_pos k with h | h
    · subst h; have := e1.len; simp [bfsL] at this
    · exact h
  have hx0 : (bfsL id (nxT p) I s0 k).getD 0 0 = s0 := by
    obtain ⟨zs, hz⟩ := bfsL_le id (nxT p) I s0 (Nat.zero_le k)
    rw [hz]; rfl
  have hyl : ∀ i, i < k → ∀ l, l < I → nxT y i l < k := fun i hi l hl => by
    rw [hy, (ofK_nx (by rw [e1.len]; exact hi) hl).1]
    have := ix_lt (end_has e1 hi hl)
    rwa [e1.len] at this
  have hyb : ∀ i b, i < k → (bfsL id (nxT p) I s0 k).getD i 0 = b → BisX y p I i b := fun i b hi hb => by
    rw [hy]
    exact ofK_bis e1 (fun a b => a = b) (fun a b e => by subst e; exact ⟨rfl, fun c hc => ⟨rfl, rfl⟩⟩) hi hb
  have hkk : ∀ a, a < k → kd a < k ∧ BisX y y I (kd a) a ∧ kd (kd a) = kd a := fun a ha => by
    obtain ⟨h1, h2, _⟩ := hkd.can a ha
    have h3 : kd a < k := by omega
    exact ⟨h3, (hkd.bis _ _ h3 ha).1 h2, h2⟩
  let ρ : Nat → Nat → Prop := fun a b => a < k ∧ kd a = a ∧ b < n ∧ BisX y p I a b
  have h0 : ρ (kd 0) s0 := by
    obtain ⟨a1, a2, a3⟩ := hkk 0 (by omega)
    exact ⟨a1, a3, hs0, a2.trans (hyb 0 s0 (by omega) hx0)⟩
  have hs : ∀ a b c, ρ a b → c < I → ρ (kd (nxT y a c)) (nxT p b c) := fun a b c ⟨ha, hka, hb, hab⟩ hc => by
    obtain ⟨a1, a2, a3⟩ := hkk _ (hyl a ha c hc)
    exact ⟨a1, a3, hN b hb c hc, a2.trans (hab.step hc)⟩
  have hkey : ∀ a b a' b', ρ a b → ρ a' b' → (id a = id a' ↔ cls b = cls b') := fun a b a' b' ⟨ha, hka, hb, hab⟩ ⟨ha', hka', hb', hab'⟩ => by
    show a = a' ↔ _
    rw [hcl b b' hb hb']
    constructor
    · intro e; subst e; exact hab.symm.trans hab'
    · intro e
      have h1 : BisT y I a a' := hab.trans (BisX.trans e hab'.symm)
      have h2 := (hkd.bis a a' ha ha').2 h1
      rw [hka, hka'] at h2; exact h2
  have hb := beside_bfs (κ1 := id) (κ2 := cls) (δ1 := fun s l => kd (nxT y s l)) (δ2 := nxT p) (l := I) h0 hs hkey
  have hk23 : k2 = k3 := by
    rcases Nat.lt_trichotomy k2 k3 with h | h | h
    · have h1 := e3.go k2 h; have h2 := (hb k2).1; have h3 := e2.len; omega
    · exact h
    · have h1 := e2.go k3 h; have h2 := (hb k3).1; have h3 := e3.len; omega
  have hres := (beside_res (κ1 := id) (κ2 := cls) (δ1 := fun s l => kd (nxT y s l)) (δ2 := nxT p) (l := I) (m1 := fun _ => true) (m2 := fun _ => true) h0 hs hkey (fun _ _ _ => rfl) e2 e3).1
  subst hk23
  obtain ⟨hbl, hbr⟩ := hb k2
  have hk2 : 1 ≤ k2 := by
    rcases Nat.eq_zero_or_pos k2 with h | h
    · subst h; have := e2.len; simp [bfsL] at this
    · exact h
  refine ⟨?_, ?_, hk2⟩
  · unfold ofK
    rw [hres]
    congr 1
    · refine List.ext_getElem (by simp [hbl]) fun i h1 h2 => ?_
      have hi1 : i < (bfsL id (fun s l => kd (nxT y s l)) I (kd 0) k2).length := by simpa using h1
      have hi2 : i < (bfsL cls (nxT p) I s0 k2).length := by rw [← hbl]; exact hi1
      have h3 := (hbr i hi1).2.2.2.now.2
      rw [List.getElem_map, List.getElem_map]
      refine List.map_congr_left fun c hc => ?_
      have h4 := h3 c (List.mem_range.1 hc)
      simpa [List.getD, hi1, hi2] using h4
    · refine List.ext_getElem (by simp [hbl]) fun i h1 h2 => ?_
      have hi1 : i < (bfsL id (fun s l => kd (nxT y s l)) I (kd 0) k2).length := by simpa using h1
      have hi2 : i < (bfsL cls (nxT p) I s0 k2).length := by rw [← hbl]; exact hi1
      have h3 := (hbr i hi1).2.2.2.now.1
      rw [List.getElem_map, List.getElem_map]
      simpa [List.getD, hi1, hi2] using h3
  · refine ofK_bis e2 ρ (fun a b h => ⟨h.2.2.2.now.1, fun c hc => ⟨h.2.2.2.now.2 c hc, hs a b c h hc⟩⟩) (by omega) ?_
    obtain ⟨zs, hz⟩ := bfsL_le id (fun s l => kd (nxT y s l)) I (kd 0) (Nat.zero_le k2)
    rw [hz]
    exact h0

end Go.Proofs.Ytodcmlcpicabaaa

namespace Go.Proofs.Ytodcmlcpicabaaa
set_option linter.unusedVariables false

theorem com_pre {v : List Int} : ∀ {x y : List Int}, v <+: x → v <+: y → v <+: x.take (comT x y) := by
  induction v with
  | nil => intro x y _ _; exact List.nil_prefix
  | cons a v ih =>
    intro x y hx hy
    obtain ⟨r, rfl⟩ := hx
    obtain ⟨r', rfl⟩ := hy
    simp only [List.cons_append, comT, if_true, List.take_succ_cons]
    exact List.cons_prefix_cons.2 ⟨rfl, ih ⟨r, rfl⟩ ⟨r', rfl⟩⟩
theorem pre_split {v u : List Int} {α : Type} (d : α) {f : α → List Int} (h : ∀ z, v <+: u ++ f z) : v <+: u ∨ ∃ v', v = u ++ v' ∧ ∀ z, v' <+: f z := by
  rcases Nat.le_total v.length u.length with hl | hl
  · left
    have h1 := h d
    exact List.prefix_of_prefix_length_le h1 (List.prefix_append _ _) hl
  · right
    have h1 := List.prefix_of_prefix_length_le (List.prefix_append u (f d)) (h d) hl
    obtain ⟨v', rfl⟩ := h1
    exact ⟨v', rfl, fun z => (List.prefix_append_right_inj u).1 (h z)⟩

/-- With it begins all that is said from a state on. -/
def CPT (x : TrI) (I s : Nat) (v : List Int) : Prop := ∀ z : { z : List Nat // ∀ l, l ∈ z → l < I }, v <+: ruT x s z.1 ++ x.E.getD (goT x s z.1) []
section
variable {x : TrI} {I mb : Nat} {A B : List (List Int)}
theorem cpt_cut (hr : ReadT x I mb) (hA : ∀ s, s < x.N.length → ∀ v, CPT x I s v → v <+: A.getD s []) (hl : A.length = x.N.length) {s l : Nat} (hs : s < x.N.length) (hli : l < I) : ∀ t, t < x.N.length → ∀ v, CPT x I t v → v <+: (cutT x A s l).getD t [] := by
  intro t ht v hv
  unfold cutT
  by_cases e : t = s
  · subst e
    have e1 : (A.set t ((A.getD t []).take (comT (A.getD t []) (syT x t l ++ A.getD (nxT x t l) [])))).getD t [] = (A.getD t []).take (comT (A.getD t []) (syT x t l ++ A.getD (nxT x t l) [])) := by simp [List.getD, hl, ht]
    rw [e1]
    refine com_pre (hA t ht v hv) ?_
    have h1 : ∀ z : { z : List Nat // ∀ l, l ∈ z → l < I }, v <+: syT x t l ++ (ruT x (nxT x t l) z.1 ++ x.E.getD (goT x (nxT x t l) z.1) []) := fun z => by
      have h2 := hv ⟨l :: z.1, fun j hj => by
        rcases List.mem_cons.1 hj with e | e
        · rw [e]; exact hli
        · exact z.2 j e⟩
      rw [← List.append_assoc]
      exact h2
    rcases pre_split ⟨[], by simp⟩ h1 with h2 | ⟨v', rfl, h3⟩
    · exact h2.trans (List.prefix_append _ _)
    · exact (List.prefix_append_right_inj _).2 (hA _ (hr.lt hs hli).1 v' h3)
  · have e1 : ∀ u : List Int, (A.set s u).getD t [] = A.getD t [] := fun u => by simp only [List.getD]; rw [List.getElem?_set_ne (by omega)]
    rw [e1]
    exact hA t ht v hv
theorem cpt_row (hr : ReadT x I mb) {s : Nat} (hs : s < x.N.length) (k : Nat) (hk : k ≤ I) (hA : ∀ s, s < x.N.length → ∀ v, CPT x I s v → v <+: A.getD s []) (hl : A.length = x.N.length) : ∀ t, t < x.N.length → ∀ v, CPT x I t v → v <+: (cutR x s k A).getD t [] := by
  induction k with
  | zero => exact hA
  | succ k ih => exact cpt_cut hr (ih (by omega)) (by rw [cutR_len, hl]) hs (by omega)
theorem cpt_all (hr : ReadT x I mb) (k : Nat) (hk : k ≤ x.N.length) (hA : ∀ s, s < x.N.length → ∀ v, CPT x I s v → v <+: A.getD s []) (hl : A.length = x.N.length) : ∀ t, t < x.N.length → ∀ v, CPT x I t v → v <+: (cutA x I k A).getD t [] := by
  induction k with
  | zero => exact hA
  | succ k ih => exact cpt_row hr (by omega) I (Nat.le_refl _) (ih (by omega)) (by rw [cutA_len, hl])
theorem cpt_rnd (hr : ReadT x I mb) (k : Nat) : ∀ t, t < x.N.length → ∀ v, CPT x I t v → v <+: (rndT x I x.N.length k x.E).getD t [] := by
  induction k with
  | zero => intro t ht v hv; exact hv ⟨[], by simp⟩
  | succ k ih => exact cpt_all hr x.N.length (Nat.le_refl _) ih (by rw [rndT_len, hr.he])
theorem SureIs.most (h : SureIs x I B) (hr : ReadT x I mb) {s : Nat} (hs : s < x.N.length) {v : List Int} (hv : CPT x I s v) : v <+: B.getD s [] := by
  obtain ⟨⟨k, rfl⟩, _⟩ := h
  exact cpt_rnd hr k s hs v hv
theorem SureT.pre (h : SureT x I B) (hr : ReadT x I mb) (z : List Nat) (hz : ∀ l, l ∈ z → l < I) {s : Nat} (hs : s < x.N.length) : B.getD s [] <+: ruT x s z ++ x.E.getD (goT x s z) [] := by
  have h1 := pushT_ru h hr z hz hs
  obtain ⟨r, h2⟩ := h.last _ (hr.go z hz hs)
  rw [h2, ← List.append_assoc, ← h1, List.append_assoc]
  exact List.prefix_append _ _
theorem ruT_app (x : TrI) (q : Nat) (us vs : List Nat) : ruT x q (us ++ vs) = ruT x q us ++ ruT x (goT x q us) vs ∧ goT x q (us ++ vs) = goT x (goT x q us) vs := by
  induction us generalizing q with
  | nil => exact ⟨rfl, rfl⟩
  | cons u us ih =>
    obtain ⟨h1, h2⟩ := ih (nxT x q u)
    exact ⟨by simp only [List.cons_append, ruT, goT]; rw [h1, List.append_assoc], by simp only [List.cons_append, goT]; exact h2⟩
/-- What is sure to be said behind a word: all that begins whatever is said to its ends. -/
theorem sure_word (h : SureIs x I B) (hr : ReadT x I mb) (us : List Nat) (hu : ∀ l, l ∈ us → l < I) (v : List Int) :
    (∀ z : { z : List Nat // ∀ l, l ∈ z → l < I }, v <+: saysT x (us ++ z.1)) ↔ v <+: (x.F ++ ruT x x.S.toNat us) ++ B.getD (goT x x.S.toNat us) [] := by
  have hst := hr.st
  unfold StT at hst
  have hS : x.S.toNat < x.N.length := by omega
  have hg := hr.go us hu hS
  have e : ∀ z : List Nat, saysT x (us ++ z) = (x.F ++ ruT x x.S.toNat us) ++ (ruT x (goT x x.S.toNat us) z ++ x.E.getD (goT x (goT x x.S.toNat us) z) []) := fun z => by
    unfold saysT
    rw [(ruT_app x _ us z).1, (ruT_app x _ us z).2]
    simp only [List.append_assoc]
  constructor
  · intro hv
    have h1 : ∀ z : { z : List Nat // ∀ l, l ∈ z → l < I }, v <+: (x.F ++ ruT x x.S.toNat us) ++ (ruT x (goT x x.S.toNat us) z.1 ++ x.E.getD (goT x (goT x x.S.toNat us) z.1) []) := fun z => by rw [← e]; exact hv z
    rcases pre_split ⟨[], by simp⟩ h1 with h2 | ⟨v', rfl, h3⟩
    · exact h2.trans (List.prefix_append _ _)
    · exact (List.prefix_append_right_inj _).2 (h.most hr hg h3)
  · intro hv z
    rw [e]
    exact hv.trans ((List.prefix_append_right_inj _).2 ((h.sure hr.he).pre hr z.1 z.2 hg))
end
/-- Two that say the same: pushed, they say the same letter by letter. -/
theorem push_fun {x y : TrI} {I mx my : Nat} {B C : List (List Int)} (hx : ReadT x I mx) (hy : ReadT y I my) (hB : SureIs x I B) (hC : SureIs y I C) (h : ∀ us : List Nat, (∀ l, l ∈ us → l < I) → saysT x us = saysT y us) :
    (pushT x I B).F = (pushT y I C).F ∧ BisX (pushT x I B) (pushT y I C) I x.S.toNat y.S.toNat := by
  have hsx := hx.st
  have hsy := hy.st
  unfold StT at hsx hsy
  have hSx : x.S.toNat < x.N.length := by omega
  have hSy : y.S.toNat < y.N.length := by omega
  have anti : ∀ {u v : List Int}, u <+: v → v <+: u → u = v := fun h1 h2 => h1.eq_of_length (Nat.le_antisymm h1.length_le h2.length_le)
  have lc : ∀ us : List Nat, (∀ l, l ∈ us → l < I) → (x.F ++ ruT x x.S.toNat us) ++ B.getD (goT x x.S.toNat us) [] = (y.F ++ ruT y y.S.toNat us) ++ C.getD (goT y y.S.toNat us) [] := fun us hu => by
    have hz : ∀ z : { z : List Nat // ∀ l, l ∈ z → l < I }, saysT x (us ++ z.1) = saysT y (us ++ z.1) := fun z => h _ (fun l hl => by
      rcases List.mem_append.1 hl with e | e
      · exact hu l e
      · exact z.2 l e)
    refine anti ((sure_word hC hy us hu _).1 (fun z => ?_)) ((sure_word hB hx us hu _).1 (fun z => ?_))
    · rw [← hz z]; exact (sure_word hB hx us hu _).2 (List.prefix_refl _) z
    · rw [hz z]; exact (sure_word hC hy us hu _).2 (List.prefix_refl _) z
  have px : ∀ us : List Nat, (∀ l, l ∈ us → l < I) → (pushT x I B).F ++ ruT (pushT x I B) x.S.toNat us = (x.F ++ ruT x x.S.toNat us) ++ B.getD (goT x x.S.toNat us) [] := fun us hu => by
    show (x.F ++ B.getD x.S.toNat []) ++ _ = _
    rw [List.append_assoc, pushT_ru (hB.sure hx.he) hx us hu hSx, List.append_assoc]
  have py : ∀ us : List Nat, (∀ l, l ∈ us → l < I) → (pushT y I C).F ++ ruT (pushT y I C) y.S.toNat us = (y.F ++ ruT y y.S.toNat us) ++ C.getD (goT y y.S.toNat us) [] := fun us hu => by
    show (y.F ++ C.getD y.S.toNat []) ++ _ = _
    rw [List.append_assoc, pushT_ru (hC.sure hy.he) hy us hu hSy, List.append_assoc]
  have hF : (pushT x I B).F = (pushT y I C).F := by
    have h1 := px [] (by simp)
    have h2 := py [] (by simp)
    have h3 := lc [] (by simp)
    simp only [ruT, List.append_nil] at h1 h2 h3
    rw [h1, h2, h3]
  have hru : ∀ us : List Nat, (∀ l, l ∈ us → l < I) → ruT (pushT x I B) x.S.toNat us = ruT (pushT y I C) y.S.toNat us := fun us hu => by
    have h1 := (px us hu).trans ((lc us hu).trans (py us hu).symm)
    rw [hF] at h1
    exact List.append_cancel_left h1
  refine ⟨hF, bis_of (fun p q => ∃ us : List Nat, (∀ l, l ∈ us → l < I) ∧ p = goT x x.S.toNat us ∧ q = goT y y.S.toNat us) (fun p q ⟨us, hu, hp, hq⟩ => ⟨?_, fun l hl => ⟨?_, us ++ [l], fun j hj => ?_, ?_, ?_⟩⟩) ⟨[], by simp, rfl, rfl⟩⟩
  · have h1 : saysT (pushT x I B) us = saysT (pushT y I C) us := by rw [pushT_says (hB.sure hx.he) hx us hu, pushT_says (hC.sure hy.he) hy us hu, h us hu]
    unfold saysT at h1
    have e1 : (pushT x I B).S.toNat = x.S.toNat := rfl
    have e2 : (pushT y I C).S.toNat = y.S.toNat := rfl
    rw [e1, e2, hF, hru us hu, pushT_go, pushT_go] at h1
    rw [hp, hq]
    exact List.append_cancel_left h1
  · have hul : ∀ j, j ∈ us ++ [l] → j < I := fun j hj => by
      rcases List.mem_append.1 hj with e | e
      · exact hu j e
      · rw [List.mem_singleton.1 e]; exact hl
    have h1 := hru (us ++ [l]) hul
    rw [ruT_snoc, ruT_snoc, hru us hu, pushT_go, pushT_go, ← hp, ← hq] at h1
    exact List.append_cancel_left h1
  · rcases List.mem_append.1 hj with e | e
    · exact hu j e
    · rw [List.mem_singleton.1 e]; exact hl
  · rw [goT_snoc, ← hp]; rfl
  · rw [goT_snoc, ← hq]; rfl

/-- Both least ones are one, whatever two of which they are made say the same. -/
theorem least_one2 {p1 p2 : TrI} {I n1 n2 s1 s2 k k2 k3 : Nat} {O O1 : Int} {F F1 : List Int} {kd cls : Nat → Nat} (hs1 : s1 < n1) (hs2 : s2 < n2) (hN1 : ∀ s, s < n1 → ∀ l, l < I → nxT p1 s l < n1) (hN2 : ∀ s, s < n2 → ∀ l, l < I → nxT p2 s l < n2) (hb0 : BisX p1 p2 I s1 s2)
    (e1 : IsEnd (bfsL id (nxT p1) I s1) k) {y : TrI} (hy : y = ofK id O1 F1 I (nxT p1) (syT p1) (fun q => p1.E.getD q []) (bfsL id (nxT p1) I s1 k)) (hkd : KindIs y I k kd)
    (e2 : IsEnd (bfsL id (fun s l => kd (nxT y s l)) I (kd 0)) k2)
    (hcl : ∀ a b, a < n2 → b < n2 → (cls a = cls b ↔ BisT p2 I a b)) (e3 : IsEnd (bfsL cls (nxT p2) I s2) k3) :
    ofK id O F I (fun s l => kd (nxT y s l)) (syT y) (fun q => y.E.getD q []) (bfsL id (fun s l => kd (nxT y s l)) I (kd 0) k2) = ofK cls O F I (nxT p2) (syT p2) (fun q => p2.E.getD q []) (bfsL cls (nxT p2) I s2 k3) := by
  have hk1 : 1 ≤ k := by
    rcases Nat.eq_zero_or_pos k with h | h
    · subst h; have := e1.len; simp [bfsL] at this
    · exact h
  have hx0 : (bfsL id (nxT p1) I s1 k).getD 0 0 = s1 := by
    obtain ⟨zs, hz⟩ := bfsL_le id (nxT p1) I s1 (Nat.zero_le k)
    rw [hz]; rfl
  have hyl : ∀ i, i < k → ∀ l, l < I → nxT y i l < k := fun i hi l hl => by
    rw [hy, (ofK_nx (by rw [e1.len]; exact hi) hl).1]
    have := ix_lt (end_has e1 hi hl)
    rwa [e1.len] at this
  have hyb : BisX y p1 I 0 s1 := by
    rw [hy]
    exact ofK_bis e1 (fun a b => a = b) (fun a b e => by subst e; exact ⟨rfl, fun c hc => ⟨rfl, rfl⟩⟩) (by omega) hx0
  have hkk : ∀ a, a < k → kd a < k ∧ BisX y y I (kd a) a ∧ kd (kd a) = kd a := fun a ha => by
    obtain ⟨h1, h2, _⟩ := hkd.can a ha
    have h3 : kd a < k := by omega
    exact ⟨h3, (hkd.bis _ _ h3 ha).1 h2, h2⟩
  let ρ : Nat → Nat → Prop := fun a b => a < k ∧ kd a = a ∧ b < n2 ∧ BisX y p2 I a b
  have h0 : ρ (kd 0) s2 := by
    obtain ⟨a1, a2, a3⟩ := hkk 0 (by omega)
    exact ⟨a1, a3, hs2, a2.trans (hyb.trans hb0)⟩
  have hs : ∀ a b c, ρ a b → c < I → ρ (kd (nxT y a c)) (nxT p2 b c) := fun a b c ⟨ha, hka, hb, hab⟩ hc => by
    obtain ⟨a1, a2, a3⟩ := hkk _ (hyl a ha c hc)
    exact ⟨a1, a3, hN2 b hb c hc, a2.trans (hab.step hc)⟩
  have hkey : ∀ a b a' b', ρ a b → ρ a' b' → (id a = id a' ↔ cls b = cls b') := fun a b a' b' ⟨ha, hka, hb, hab⟩ ⟨ha', hka', hb', hab'⟩ => by
    show a = a' ↔ _
    rw [hcl b b' hb hb']
    constructor
    · intro e; subst e; exact hab.symm.trans hab'
    · intro e
      have h1 : BisT y I a a' := hab.trans (BisX.trans e hab'.symm)
      have h2 := (hkd.bis a a' ha ha').2 h1
      rw [hka, hka'] at h2; exact h2
  have hb := beside_bfs (κ1 := id) (κ2 := cls) (δ1 := fun s l => kd (nxT y s l)) (δ2 := nxT p2) (l := I) h0 hs hkey
  have hk23 : k2 = k3 := by
    rcases Nat.lt_trichotomy k2 k3 with h | h | h
    · have h1 := e3.go k2 h; have h2 := (hb k2).1; have h3 := e2.len; omega
    · exact h
    · have h1 := e2.go k3 h; have h2 := (hb k3).1; have h3 := e3.len; omega
  have hres := (beside_res (κ1 := id) (κ2 := cls) (δ1 := fun s l => kd (nxT y s l)) (δ2 := nxT p2) (l := I) (m1 := fun _ => true) (m2 := fun _ => true) h0 hs hkey (fun _ _ _ => rfl) e2 e3).1
  subst hk23
  obtain ⟨hbl, hbr⟩ := hb k2
  unfold ofK
  rw [hres]
  congr 1
  · refine List.ext_getElem (by simp [hbl]) fun i h1 h2 => ?_
    have hi1 : i < (bfsL id (fun s l => kd (nxT y s l)) I (kd 0) k2).length := by simpa using h1
    have hi2 : i < (bfsL cls (nxT p2) I s2 k2).length := by rw [← hbl]; exact hi1
    have h3 := (hbr i hi1).2.2.2.now.2
    rw [List.getElem_map, List.getElem_map]
    refine List.map_congr_left fun c hc => ?_
    have h4 := h3 c (List.mem_range.1 hc)
    simpa [List.getD, hi1, hi2] using h4
  · refine List.ext_getElem (by simp [hbl]) fun i h1 h2 => ?_
    have hi1 : i < (bfsL id (fun s l => kd (nxT y s l)) I (kd 0) k2).length := by simpa using h1
    have hi2 : i < (bfsL cls (nxT p2) I s2 k2).length := by rw [← hbl]; exact hi1
    have h3 := (hbr i hi1).2.2.2.now.1
    rw [List.getElem_map, List.getElem_map]
    simpa [List.getD, hi1, hi2] using h3
end Go.Proofs.Ytodcmlcpicabaaa

namespace Go.Proofs.Ytodcmlcpicabaaa
set_option linter.unusedVariables false

def tnsT (w : List Int) : List Nat := w.map Int.toNat
theorem tnsT_app (u v : List Int) : tnsT (u ++ v) = tnsT u ++ tnsT v := by simp [tnsT]
theorem tnsT_len (u : List Int) : (tnsT u).length = u.length := by simp [tnsT]
theorem nsT_tns {w : List Int} (h : ∀ j, j ∈ w → 0 ≤ j) : nsT (tnsT w) = w := by
  unfold nsT tnsT
  rw [List.map_map]
  refine (List.map_congr_left (g := id) fun j hj => ?_).trans (List.map_id w)
  have := h j hj
  show ((j.toNat : Nat) : Int) = j
  omega

/-- What both need: the second reads what the first says. -/
structure BehG (x y : TrI) (I M : Nat) : Prop where
  rx : ReadT x I
  ry : ReadT y M
  f : ∀ j, j ∈ x.F → 0 ≤ j ∧ j < (M : Int)
  s : ∀ s, s < x.N.length → ∀ l, l < I → ∀ j, j ∈ syT x s l → 0 ≤ j ∧ j < (M : Int)
  e : ∀ s, s < x.N.length → ∀ j, j ∈ x.E.getD s [] → 0 ≤ j ∧ j < (M : Int)
theorem tns_lt {w : List Int} {M : Nat} (h : ∀ j, j ∈ w → 0 ≤ j ∧ j < (M : Int)) : ∀ l, l ∈ tnsT w → l < M := fun l hl => by
  obtain ⟨j, hj, rfl⟩ := List.mem_map.1 hl
  have := h j hj
  omega

def bD (x y : TrI) (s a : Nat) : Nat := nxT x (s / y.N.length) a * y.N.length + goT y (s % y.N.length) (tnsT (syT x (s / y.N.length) a))
def bS (x y : TrI) (s a : Nat) : List Int := ruT y (s % y.N.length) (tnsT (syT x (s / y.N.length) a))
def bE (x y : TrI) (s : Nat) : List Int := ruT y (s % y.N.length) (tnsT (x.E.getD (s / y.N.length) [])) ++ y.E.getD (goT y (s % y.N.length) (tnsT (x.E.getD (s / y.N.length) []))) []
def bF (x y : TrI) : List Int := y.F ++ ruT y y.S.toNat (tnsT x.F)
def bX (x y : TrI) : Nat := x.S.toNat * y.N.length + goT y y.S.toNat (tnsT x.F)
abbrev behY (x y : TrI) (I k : Nat) : TrI := ofK id y.O (bF x y) I (bD x y) (bS x y) (bE x y) (bfsL id (bD x y) I (bX x y) k)

section
variable {x y : TrI} {I M k : Nat}
theorem BehG.kk (h : BehG x y I M) : 0 < y.N.length := h.ry.n1
theorem pair_div {q r n : Nat} (hr : r < n) : (q * n + r) / n = q ∧ (q * n + r) % n = r := by
  have h0 : 0 < n := by omega
  constructor
  · rw [Nat.mul_comm, Nat.mul_add_div h0, Nat.div_eq_of_lt hr, Nat.add_zero]
  · rw [Nat.mul_comm, Nat.mul_add_mod, Nat.mod_eq_of_lt hr]
theorem pair_lt {q r m n : Nat} (hq : q < m) (hr : r < n) : q * n + r < m * n := by
  have : (q + 1) * n ≤ m * n := Nat.mul_le_mul_right n hq
  rw [Nat.add_mul] at this
  omega
theorem div_lt' {s m n : Nat} (h : s < m * n) : s / n < m := Nat.div_lt_of_lt_mul (by rw [Nat.mul_comm]; exact h)
theorem BehG.st (h : BehG x y I M) : y.S.toNat < y.N.length ∧ x.S.toNat < x.N.length := by
  have h1 := h.ry.st
  have h2 := h.rx.st
  unfold StT at h1 h2
  omega
theorem BehG.x0 (h : BehG x y I M) : bX x y < x.N.length * y.N.length := pair_lt h.st.2 (h.ry.go _ (tns_lt h.f) h.st.1)
theorem BehG.d (h : BehG x y I M) {s a : Nat} (hs : s < x.N.length * y.N.length) (ha : a < I) : bD x y s a < x.N.length * y.N.length :=
  pair_lt (h.rx.lt (div_lt' hs) ha).1 (h.ry.go _ (tns_lt (h.s _ (div_lt' hs) a ha)) (Nat.mod_lt _ h.kk))
theorem BehG.s64 (h : BehG x y I M) {s a : Nat} (hs : s < x.N.length * y.N.length) (ha : a < I) : (bS x y s a).length ≤ 64 := by
  have h1 := h.ry.len _ (tns_lt (h.s _ (div_lt' hs) a ha)) (Nat.mod_lt s h.kk)
  have h2 := h.rx.y8 _ (div_lt' hs) a ha
  rw [tnsT_len] at h1
  unfold bS
  omega
theorem BehG.e72 (h : BehG x y I M) {s : Nat} (hs : s < x.N.length * y.N.length) : (bE x y s).length ≤ 72 := by
  have h1 := h.ry.len _ (tns_lt (h.e _ (div_lt' hs))) (Nat.mod_lt s h.kk)
  have h2 := h.rx.e8 _ (div_lt' hs)
  have h3 := h.ry.e8 _ (h.ry.go _ (tns_lt (h.e _ (div_lt' hs))) (Nat.mod_lt s h.kk))
  rw [tnsT_len] at h1
  unfold bE
  rw [List.length_append]
  omega
theorem BehG.f72 (h : BehG x y I M) : (bF x y).length ≤ 72 := by
  have h1 := h.ry.len _ (tns_lt h.f) h.st.1
  have h2 := h.rx.f8
  have h3 := h.ry.f8
  rw [tnsT_len] at h1
  unfold bF
  rw [List.length_append]
  omega
/-- What is said from a pair of states on. -/
theorem beh_run (h : BehG x y I M) (hE : IsEnd (bfsL id (bD x y) I (bX x y)) k) (us : List Nat) : (∀ l, l ∈ us → l < I) → ∀ i q r, i < k → q < x.N.length → r < y.N.length → (bfsL id (bD x y) I (bX x y) k).getD i 0 = q * y.N.length + r →
    ruT (behY x y I k) i us ++ (behY x y I k).E.getD (goT (behY x y I k) i us) [] = ruT y r (tnsT (ruT x q us ++ x.E.getD (goT x q us) [])) ++ y.E.getD (goT y r (tnsT (ruT x q us ++ x.E.getD (goT x q us) []))) [] := by
  induction us with
  | nil =>
    intro _ i q r hi hq hr hx
    simp only [ruT, goT, List.nil_append]
    rw [ofK_e (by rw [hE.len]; exact hi), hx]
    unfold bE
    rw [(pair_div hr).1, (pair_div hr).2]
  | cons l us ih =>
    intro hu i q r hi hq hr hx
    have hl := hu l (List.mem_cons_self)
    have hi' : i < (bfsL id (bD x y) I (bX x y) k).length := by rw [hE.len]; exact hi
    have hh := end_has hE hi hl
    have h3 := ix_lt hh
    have h4 := ix_key hh
    simp only [id_eq] at h4
    rw [hE.len] at h3
    have hd : bD x y (q * y.N.length + r) l = nxT x q l * y.N.length + goT y r (tnsT (syT x q l)) := by
      unfold bD
      rw [(pair_div hr).1, (pair_div hr).2]
    have hs : bS x y (q * y.N.length + r) l = ruT y r (tnsT (syT x q l)) := by
      unfold bS
      rw [(pair_div hr).1, (pair_div hr).2]
    have h5 := ih (fun j hj => hu j (List.mem_cons_of_mem _ hj)) _ (nxT x q l) (goT y r (tnsT (syT x q l))) h3 (h.rx.lt hq hl).1 (h.ry.go _ (tns_lt (h.s q hq l hl)) hr) (by rw [h4, hx, hd])
    simp only [ruT, goT]
    rw [ofK_sy hi' hl, (ofK_nx hi' hl).1, hx, hs, List.append_assoc]
    rw [hx] at h5
    rw [h5, List.append_assoc (syT x q l), tnsT_app (syT x q l), (ruT_app y r _ _).1, (ruT_app y r _ _).2, List.append_assoc]
theorem beh_says (h : BehG x y I M) (hE : IsEnd (bfsL id (bD x y) I (bX x y)) k) (us : List Nat) (hu : ∀ l, l ∈ us → l < I) : saysT (behY x y I k) us = saysT y (tnsT (saysT x us)) := by
  have hk : 0 < k := by
    rcases Nat.eq_zero_or_pos k with h0 | h0
    · subst h0; have := hE.len; simp [bfsL] at this
    · exact h0
  obtain ⟨zz, hz⟩ := bfsL_le id (bD x y) I (bX x y) (Nat.zero_le k)
  have h1 := beh_run h hE us hu 0 x.S.toNat (goT y y.S.toNat (tnsT x.F)) hk h.st.2 (h.ry.go _ (tns_lt h.f) h.st.1) (by rw [hz]; rfl)
  unfold saysT
  show bF x y ++ ruT (behY x y I k) 0 us ++ (behY x y I k).E.getD (goT (behY x y I k) 0 us) [] = _
  rw [List.append_assoc, h1]
  unfold bF
  rw [List.append_assoc x.F, tnsT_app x.F, (ruT_app y _ _ _).1, (ruT_app y _ _ _).2]
  simp only [List.append_assoc]
/-- It may be read. -/
theorem beh_read (h : BehG x y I M) (hE : IsEnd (bfsL id (bD x y) I (bX x y)) k) (hin : ∀ q, q ∈ bfsL id (bD x y) I (bX x y) k → q < x.N.length * y.N.length) : ReadT (behY x y I k) I 72 := by
  have hk : 1 ≤ k := by
    rcases Nat.eq_zero_or_pos k with h0 | h0
    · subst h0; have := hE.len; simp [bfsL] at this
    · exact h0
  have hl := hE.len
  obtain ⟨h1, h2, h3, h4⟩ := ofK_shp (O := y.O) (F := bF x y) (σ := bS x y) (ε := bE x y) (m := 72) hE hk (fun q hq a ha => Nat.le_trans (h.s64 (hin q hq) ha) (by omega)) (fun q hq => h.e72 (hin q hq))
  have eN : (behY x y I k).N.length = k := by rw [ofK_len.1, hl]
  refine ⟨h1, by rw [ofK_len.2.1, ofK_len.1], by rw [ofK_len.2.2, ofK_len.1], fun s hs => (ofK_row (by rw [hl]; omega)).1, fun s hs => (ofK_row (by rw [hl]; omega)).2, fun s hs l hl' => ?_, ?_, h.f72, fun s hs l hl' => h3 s (by omega) l hl', fun s hs => h4 s (by omega)⟩
  · rw [eN]; exact h2 s (by omega) l hl'
  · rw [eN]
    show StT k 0
    unfold StT
    omega
end

end Go.Proofs.Ytodcmlcpicabaaa
