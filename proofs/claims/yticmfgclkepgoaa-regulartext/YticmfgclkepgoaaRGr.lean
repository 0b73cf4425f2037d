/- Texts that are put together as a text may be: they are read, and as they were put together. No program is in it. -/
/- Sayings: texts with how loose they are, and the words that they tell, put together (for regular.Text). No program is in it. -/
/- Words that are accepted from states on, and states that are taken away one by one (Arden); and sayings as the program puts them together. No program is in it. -/
/- The text of an automaton of at most three states, as the program writes it: it is read, and tells the words that are accepted. No program is in it. -/
import Derived.Test.YticmfgclkepgoaaRdr
import Derived.Test.YticmfgclkepgoaaRYs
import Derived.Test.YticmfgclkepgoaaMLl
namespace Go.Proofs.Yticmfgclkepgoaa
open Go.RowKit
set_option linter.unusedVariables false

/-- Bytes that are a part (0), a part with or without a star (1), a row (2), an either (3): of which parts, and how deep its brackets go. -/
inductive Txt : Nat → List Nat → List Rx → Nat → Prop
  | none : Txt 0 [48] [noneS] 0
  | empty : Txt 0 [49] [emptyS] 0
  | letter (c : Nat) (h1 : 97 ≤ c) (h2 : c ≤ 100) : Txt 0 [c] [letterS (c - 97 : Nat)] 0
  | br (bs : List Nat) (ms : List Rx) (h : Nat) (t : Txt 3 bs ms h) : Txt 0 (40 :: (bs ++ [41])) [eitherOf ms] (h + 1)
  | plain (bs : List Nat) (m : Rx) (h : Nat) (t : Txt 0 bs [m] h) : Txt 1 bs [m] h
  | star (bs : List Nat) (m : Rx) (h : Nat) (t : Txt 0 bs [m] h) : Txt 1 (bs ++ [42]) [starS m] h
  | one (bs : List Nat) (m : Rx) (h : Nat) (t : Txt 1 bs [m] h) : Txt 2 bs [m] h
  | next (bs cs : List Nat) (ms : List Rx) (m : Rx) (h h' : Nat) (t : Txt 2 bs ms h) (t' : Txt 1 cs [m] h') : Txt 2 (bs ++ cs) (ms ++ [m]) (max h h')
  | row (bs : List Nat) (ms : List Rx) (h : Nat) (t : Txt 2 bs ms h) : Txt 3 bs [rowOf ms] h
  | or (bs cs : List Nat) (ms ms' : List Rx) (h h' : Nat) (t : Txt 3 bs ms h) (t' : Txt 2 cs ms' h') : Txt 3 (bs ++ 43 :: cs) (ms ++ [rowOf ms']) (max h h')

/-- The first byte begins a part; no byte is 0; there are as many parts as bytes at most. -/
theorem Txt.head {k : Nat} {bs : List Nat} {ms : List Rx} {h : Nat} (t : Txt k bs ms h) : (∃ c cs, bs = c :: cs ∧ beginsF c = true) ∧ (∀ b, b ∈ bs → b ≠ 0) ∧ 0 < ms.length ∧ ms.length ≤ bs.length := by
  induction t with
  | none => exact ⟨⟨48, [], rfl, rfl⟩, by simp, by simp, by simp⟩
  | empty => exact ⟨⟨49, [], rfl, rfl⟩, by simp, by simp, by simp⟩
  | letter c h1 h2 => exact ⟨⟨c, [], rfl, by simp [beginsF, h1, h2]⟩, by simp; omega, by simp, by simp⟩
  | br bs ms h t ih =>
    obtain ⟨⟨c, cs, rfl, hc⟩, h2, h3, h4⟩ := ih
    refine ⟨⟨40, _, rfl, rfl⟩, fun b hb => ?_, by simp, by simp⟩
    simp only [List.mem_cons, List.mem_append, List.not_mem_nil, or_false] at hb
    rcases hb with rfl | hb | rfl
    · omega
    · exact h2 b (by simpa using hb)
    · omega
  | plain bs m h t ih => exact ih
  | star bs m h t ih =>
    obtain ⟨⟨c, cs, rfl, hc⟩, h2, h3, h4⟩ := ih
    refine ⟨⟨c, cs ++ [42], rfl, hc⟩, fun b hb => ?_, by simp, by simp⟩
    rcases List.mem_append.1 hb with hb | hb
    · exact h2 b hb
    · simp only [List.mem_singleton] at hb; omega
  | one bs m h t ih => exact ih
  | next bs cs ms m h h' t t' ih ih' =>
    obtain ⟨⟨c, ds, rfl, hc⟩, h2, h3, h4⟩ := ih
    obtain ⟨_, k2, k3, k4⟩ := ih'
    refine ⟨⟨c, ds ++ cs, rfl, hc⟩, fun b hb => ?_, by simp, ?_⟩
    · rcases List.mem_append.1 hb with hb | hb
      · exact h2 b hb
      · exact k2 b hb
    · simp only [List.length_append, List.length_singleton] at *; omega
  | row bs ms h t ih =>
    obtain ⟨h1, h2, h3, h4⟩ := ih
    exact ⟨h1, h2, by simp, by simp; omega⟩
  | or bs cs ms ms' h h' t t' ih ih' =>
    obtain ⟨⟨c, ds, rfl, hc⟩, h2, h3, h4⟩ := ih
    obtain ⟨_, k2, k3, k4⟩ := ih'
    refine ⟨⟨c, ds ++ 43 :: cs, rfl, hc⟩, fun b hb => ?_, by simp, ?_⟩
    · rcases List.mem_append.1 hb with hb | hb
      · exact h2 b hb
      · rcases List.mem_cons.1 hb with rfl | hb
        · omega
        · exact k2 b hb
    · simp only [List.length_append, List.length_cons, List.length_nil] at *; omega

/-- The bytes bs stand in S from place i on. -/
def Stands (S : ByteArray) (i : Nat) (bs : List Nat) : Prop := ∀ k, k < bs.length → byteAt S (i + k) = bs.getD k 0
theorem Stands.left {S : ByteArray} {i : Nat} {bs cs : List Nat} (h : Stands S i (bs ++ cs)) : Stands S i bs := fun k hk => by
  rw [h k (by rw [List.length_append]; omega)]
  simp [List.getD, List.getElem?_append_left hk]
theorem Stands.right {S : ByteArray} {i : Nat} {bs cs : List Nat} (h : Stands S i (bs ++ cs)) : Stands S (i + bs.length) cs := fun k hk => by
  have := h (bs.length + k) (by rw [List.length_append]; omega)
  rw [Nat.add_assoc, this]
  simp [List.getD, List.getElem?_append_right]
theorem Stands.first {S : ByteArray} {i c : Nat} {cs : List Nat} (h : Stands S i (c :: cs)) : byteAt S i = c := by
  have := h 0 (by simp); simpa using this
theorem Stands.rest {S : ByteArray} {i c : Nat} {cs : List Nat} (h : Stands S i (c :: cs)) : Stands S (i + 1) cs := by
  have : Stands S i ([c] ++ cs) := h
  exact this.right
theorem Stands.fits {S : ByteArray} {i : Nat} {bs : List Nat} (h : Stands S i bs) (h0 : ∀ b, b ∈ bs → b ≠ 0) (hl : 0 < bs.length) : i + bs.length ≤ S.size := by
  rcases Nat.lt_or_ge S.size (i + bs.length) with hlt | hge
  · have h1 := h (bs.length - 1) (by omega)
    rw [byteAt_end (by omega)] at h1
    have e : bs.getD (bs.length - 1) 0 = bs[bs.length - 1]'(by omega) := by simp [List.getD, show bs.length - 1 < bs.length by omega]
    rw [e] at h1
    exact absurd h1.symm (h0 _ (List.getElem_mem (by omega)))
  · exact hge

/-- What the reader comes to where such bytes stand. -/
def ReadsT (k : Nat) (bs : List Nat) (ms : List Rx) (h : Nat) : Prop := ∀ S i, Stands S i bs → ∀ N D, h ≤ N → D + h ≤ 40 →
  (k = 0 → ∃ m, ms = [m] ∧ partF S N i D = .good m (i + bs.length)) ∧
  (k = 1 → byteAt S (i + bs.length) ≠ 42 → ∃ m, ms = [m] ∧ oneF S N i D = .good m (i + bs.length)) ∧
  (k = 2 → byteAt S (i + bs.length) ≠ 42 → ∃ f, f + ms.length = S.size + 2 ∧ rowF S N i D = rowX S (oneF S N) D f ms (i + bs.length)) ∧
  (k = 3 → byteAt S (i + bs.length) ≠ 42 → beginsF (byteAt S (i + bs.length)) = false → ∃ f, f + ms.length = S.size + 2 ∧ wholeF S (N + 1) i D = eitherL S (rowF S N) D f ms (i + bs.length))
theorem begins_star {c : Nat} (h : beginsF c = true) : c ≠ 42 ∧ c ≠ 43 := by
  constructor <;> (rintro rfl; exact absurd h (by decide))
theorem row_done {S : ByteArray} {O : Nat → Nat → Res} {D f j : Nat} {ms : List Rx} (hf : 0 < f) (hb : beginsF (byteAt S j) = false) : rowX S O D f ms j = .good (rowOf ms) j := by
  obtain ⟨f, rfl⟩ : ∃ g, f = g + 1 := ⟨f - 1, by omega⟩
  unfold rowX
  rw [hb, if_neg (by simp)]
theorem either_done {S : ByteArray} {R : Nat → Nat → Res} {D f j : Nat} {ms : List Rx} (hf : 0 < f) (hb : byteAt S j ≠ 43) : eitherL S R D f ms j = .good (eitherOf ms) j := by
  obtain ⟨f, rfl⟩ : ∃ g, f = g + 1 := ⟨f - 1, by omega⟩
  unfold eitherL
  rw [if_neg hb]
theorem reads_of {k : Nat} {bs : List Nat} {ms : List Rx} {h : Nat} (t : Txt k bs ms h) : ReadsT k bs ms h := by
  induction t with
  | none =>
    intro S i hs N D hN hD
    have h0 := hs.first
    refine ⟨fun _ => ⟨_, rfl, ?_⟩, fun e => by omega, fun e => by omega, fun e => by omega⟩
    unfold partF partS
    rw [h0, if_neg (by decide), if_neg (by decide), if_pos rfl]; rfl
  | empty =>
    intro S i hs N D hN hD
    have h0 := hs.first
    refine ⟨fun _ => ⟨_, rfl, ?_⟩, fun e => by omega, fun e => by omega, fun e => by omega⟩
    unfold partF partS
    rw [h0, if_neg (by decide), if_neg (by decide), if_neg (by decide), if_pos rfl]; rfl
  | letter c h1 h2 =>
    intro S i hs N D hN hD
    have h0 := hs.first
    refine ⟨fun _ => ⟨_, rfl, ?_⟩, fun e => by omega, fun e => by omega, fun e => by omega⟩
    unfold partF partS
    rw [h0, if_neg (by simp [beginsF, h1, h2]), if_neg (by omega), if_neg (by omega), if_neg (by omega)]; rfl
  | br bs ms h t ih =>
    intro S i hs N D hN hD
    have h0 := hs.first
    have h1 := hs.rest
    have h2 : byteAt S (i + 1 + bs.length) = 41 := h1.right.first
    obtain ⟨_, hz, m1, m2⟩ := t.head
    obtain ⟨N, rfl⟩ : ∃ n, N = n + 1 := ⟨N - 1, by omega⟩
    obtain ⟨f, hf, hw⟩ := (ih S (i + 1) h1.left N (D + 1) (by omega) (by omega)).2.2.2 rfl (by rw [h2]; decide) (by rw [h2]; decide)
    have fit := h1.left.fits hz (by omega)
    rw [either_done (by omega) (by rw [h2]; decide)] at hw
    refine ⟨fun _ => ⟨_, rfl, ?_⟩, fun e => by omega, fun e => by omega, fun e => by omega⟩
    unfold partF partS
    rw [h0, if_neg (by decide), if_pos rfl]
    unfold bracketS
    rw [if_neg (by omega), hw]
    simp only
    rw [if_pos h2]
    simp only [List.length_cons, List.length_append, List.length_nil]
    congr 1; omega
  | plain bs m h t ih =>
    intro S i hs N D hN hD
    obtain ⟨m', e, hp⟩ := (ih S i hs N D hN hD).1 rfl
    cases e
    refine ⟨fun e => by omega, fun _ hb => ⟨_, rfl, ?_⟩, fun e => by omega, fun e => by omega⟩
    unfold oneF oneS
    rw [hp]
    simp only
    unfold starL
    rw [if_neg hb]
  | star bs m h t ih =>
    intro S i hs N D hN hD
    obtain ⟨m', e, hp⟩ := (ih S i hs.left N D hN hD).1 rfl
    cases e
    have h2 : byteAt S (i + bs.length) = 42 := hs.right.first
    obtain ⟨_, hz, m1, m2⟩ := t.head
    have fit := hs.left.fits hz (by omega)
    refine ⟨fun e => by omega, fun _ hb => ⟨_, rfl, ?_⟩, fun e => by omega, fun e => by omega⟩
    obtain ⟨z, hz2⟩ : ∃ z, S.size = z + 1 := ⟨S.size - 1, by omega⟩
    rw [List.length_append, List.length_singleton, ← Nat.add_assoc] at hb ⊢
    unfold oneF oneS
    rw [hp, hz2]
    simp only
    rw [starL, if_pos h2, starL, if_neg hb]
  | one bs m h t ih =>
    intro S i hs N D hN hD
    refine ⟨fun e => by omega, fun e => by omega, fun _ hb => ⟨S.size + 1, by simp, ?_⟩, fun e => by omega⟩
    obtain ⟨m', e, hp⟩ := (ih S i hs N D hN hD).2.1 rfl hb
    cases e
    unfold rowF rowS
    rw [hp]
  | next bs cs ms m h h' t t' ih ih' =>
    intro S i hs N D hN hD
    obtain ⟨⟨c, ds, ec, hc⟩, k2, k3, k4⟩ := t'.head
    obtain ⟨_, hz, m1, m2⟩ := t.head
    have hr := hs.right
    have hcb : byteAt S (i + bs.length) = c := by rw [ec] at hr; exact hr.first
    have fit := hr.fits k2 (by omega)
    have fit2 := hs.left.fits hz (by omega)
    obtain ⟨f, hf, hw⟩ := (ih S i hs.left N D (by omega) (by omega)).2.2.1 rfl (by rw [hcb]; exact (begins_star hc).1)
    refine ⟨fun e => by omega, fun e => by omega, fun _ hb => ⟨f - 1, ?_, ?_⟩, fun e => by omega⟩
    · rw [List.length_append, List.length_singleton]; omega
    · rw [List.length_append, ← Nat.add_assoc] at hb ⊢
      obtain ⟨m', e, hp⟩ := (ih' S _ hr N D (by omega) (by omega)).2.1 rfl hb
      cases e
      obtain ⟨f, rfl⟩ : ∃ g, f = g + 1 := ⟨f - 1, by omega⟩
      rw [hw, rowX, hcb, if_pos hc, hp]
      rfl
  | row bs ms h t ih =>
    intro S i hs N D hN hD
    obtain ⟨_, hz, m1, m2⟩ := t.head
    have fit := hs.fits hz (by omega)
    refine ⟨fun e => by omega, fun e => by omega, fun e => by omega, fun _ hb hg => ⟨S.size + 1, by simp, ?_⟩⟩
    obtain ⟨f, hf, hw⟩ := (ih S i hs N D hN hD).2.2.1 rfl hb
    rw [row_done (by omega) hg] at hw
    show eitherS S (rowF S N) i D = _
    unfold eitherS
    rw [hw]
  | or bs cs ms ms' h h' t t' ih ih' =>
    intro S i hs N D hN hD
    obtain ⟨_, k2, k3, k4⟩ := t'.head
    obtain ⟨_, hz, m1, m2⟩ := t.head
    have hr := hs.right
    have h43 := hr.first
    have hr2 := hr.rest
    have fit := hr2.fits k2 (by omega)
    have fit2 := hs.left.fits hz (by omega)
    obtain ⟨f, hf, hw⟩ := (ih S i hs.left N D (by omega) (by omega)).2.2.2 rfl (by rw [h43]; decide) (by rw [h43]; decide)
    refine ⟨fun e => by omega, fun e => by omega, fun e => by omega, fun _ hb hg => ⟨f - 1, ?_, ?_⟩⟩
    · rw [List.length_append, List.length_singleton]; omega
    · have el : i + (bs ++ 43 :: cs).length = i + bs.length + 1 + cs.length := by simp only [List.length_append, List.length_cons]; omega
      rw [el] at hb hg ⊢
      obtain ⟨f', hf', hw'⟩ := (ih' S _ hr2 N D (by omega) (by omega)).2.2.1 rfl hb
      rw [row_done (by omega) hg] at hw'
      obtain ⟨f, rfl⟩ : ∃ g, f = g + 1 := ⟨f - 1, by omega⟩
      rw [hw, eitherL, if_pos h43, hw']
      rfl
/-- A text that is put together so is read, as it was put together. -/
theorem parse_txt {S : ByteArray} {bs : List Nat} {ms : List Rx} {h : Nat} (t : Txt 3 bs ms h) (hs : Stands S 0 bs) (hl : bs.length = S.size) (h4 : S.size ≤ 4000) (hh : h ≤ 40) (hn : h ≤ S.size) : parseR S = .good (eitherOf ms) S.size := by
  obtain ⟨_, hz, m1, m2⟩ := t.head
  have e0 : byteAt S (0 + bs.length) = 0 := byteAt_end (by omega)
  obtain ⟨f, hf, hw⟩ := (reads_of t S 0 hs S.size 0 hn (by omega)).2.2.2 rfl (by rw [e0]; decide) (by rw [e0]; decide)
  rw [either_done (by omega) (by rw [e0]; decide)] at hw
  unfold parseR
  rw [if_neg (by omega), hw]
  simp only
  rw [if_neg (by omega), Nat.zero_add, hl]

end Go.Proofs.Yticmfgclkepgoaa

namespace Go.Proofs.Yticmfgclkepgoaa
open Go.RowKit
set_option linter.unusedVariables false

theorem Txt.deep {k : Nat} {bs : List Nat} {ms : List Rx} {h : Nat} (t : Txt k bs ms h) : h ≤ bs.length := by
  induction t with
  | none => simp
  | empty => simp
  | letter c h1 h2 => simp
  | br bs ms h t ih => simp only [List.length_cons, List.length_append, List.length_nil]; omega
  | plain bs m h t ih => exact ih
  | star bs m h t ih => rw [List.length_append]; omega
  | one bs m h t ih => exact ih
  | next bs cs ms m h h' t t' ih ih' => rw [List.length_append]; omega
  | row bs ms h t ih => exact ih
  | or bs cs ms ms' h h' t t' ih ih' => simp only [List.length_append, List.length_cons]; omega
/-- A part, or one, is one thing. -/
theorem Txt.single {k : Nat} {bs : List Nat} {ms : List Rx} {h : Nat} (t : Txt k bs ms h) (hk : k ≤ 1) : ∃ m, ms = [m] := by
  cases t with
  | none => exact ⟨_, rfl⟩
  | empty => exact ⟨_, rfl⟩
  | letter => exact ⟨_, rfl⟩
  | br => exact ⟨_, rfl⟩
  | plain => exact ⟨_, rfl⟩
  | star => exact ⟨_, rfl⟩
  | one => omega
  | next => omega
  | row => omega
  | or => omega
theorem Txt.kind {k : Nat} {bs : List Nat} {ms : List Rx} {h : Nat} (t : Txt k bs ms h) : k ≤ 3 := by cases t <;> omega
/-- What such bytes mean. -/
def meanT (k : Nat) (ms : List Rx) : Rx := if k = 2 then rowOf ms else eitherOf ms
theorem Txt.up {k : Nat} {bs : List Nat} {ms : List Rx} {h : Nat} (t : Txt k bs ms h) {l : Nat} (hl : k ≤ l) (h3 : l ≤ 3) : ∃ ms', Txt l bs ms' h ∧ meanT l ms' = meanT k ms := by
  have step : ∀ {k : Nat} {ms : List Rx}, Txt k bs ms h → k < 3 → ∃ ms', Txt (k + 1) bs ms' h ∧ meanT (k + 1) ms' = meanT k ms := by
    intro k ms t hk
    obtain h0 | h0 | h0 : k = 0 ∨ k = 1 ∨ k = 2 := by omega
    · subst h0
      obtain ⟨m, rfl⟩ := t.single (by omega)
      exact ⟨_, .plain _ _ _ t, rfl⟩
    · subst h0
      obtain ⟨m, rfl⟩ := t.single (by omega)
      exact ⟨_, .one _ _ _ t, rfl⟩
    · subst h0
      exact ⟨_, .row _ _ _ t, rfl⟩
  have go : ∀ (d k : Nat) (ms : List Rx), Txt k bs ms h → k + d ≤ 3 → ∃ ms', Txt (k + d) bs ms' h ∧ meanT (k + d) ms' = meanT k ms := by
    intro d
    induction d with
    | zero => intro k ms t _; exact ⟨ms, t, rfl⟩
    | succ d ih =>
      intro k ms t hd
      obtain ⟨m1, t1, e1⟩ := step t (by omega)
      obtain ⟨m2, t2, e2⟩ := ih (k + 1) m1 t1 (by omega)
      refine ⟨m2, ?_, ?_⟩
      · rwa [show k + (d + 1) = k + 1 + d by omega]
      · rw [show k + (d + 1) = k + 1 + d by omega, e2, e1]
  obtain ⟨d, rfl⟩ : ∃ d, l = k + d := ⟨l - k, by omega⟩
  exact go d k ms t h3
/-- Rows behind rows; eithers beside eithers. -/
theorem Txt.rows {bs cs : List Nat} {ms ms' : List Rx} {h h' : Nat} (t : Txt 2 bs ms h) (t' : Txt 2 cs ms' h') : Txt 2 (bs ++ cs) (ms ++ ms') (max h h') := by
  have go : ∀ {k : Nat} {cs : List Nat} {ms' : List Rx} {h' : Nat}, Txt k cs ms' h' → k = 2 → Txt 2 (bs ++ cs) (ms ++ ms') (max h h') := by
    intro k cs ms' h' t'
    induction t' with
    | one cs m h1 t1 ih => intro _; exact .next _ _ _ _ _ _ t t1
    | next cs ds ms1 m h1 h2 t1 t2 ih1 ih2 =>
      intro _
      have := ih1 rfl
      rw [← List.append_assoc, ← List.append_assoc, show max h (max h1 h2) = max (max h h1) h2 by omega]
      exact .next _ _ _ _ _ _ this t2
    | _ => intro e; omega
  exact go t' rfl
theorem Txt.ors {bs cs : List Nat} {ms ms' : List Rx} {h h' : Nat} (t : Txt 3 bs ms h) (t' : Txt 3 cs ms' h') : Txt 3 (bs ++ 43 :: cs) (ms ++ ms') (max h h') := by
  have go : ∀ {k : Nat} {cs : List Nat} {ms' : List Rx} {h' : Nat}, Txt k cs ms' h' → k = 3 → Txt 3 (bs ++ 43 :: cs) (ms ++ ms') (max h h') := by
    intro k cs ms' h' t'
    induction t' with
    | row cs ms1 h1 t1 ih => intro _; exact .or _ _ _ _ _ _ t t1
    | or cs ds ms1 ms2 h1 h2 t1 t2 ih1 ih2 =>
      intro _
      have := ih1 rfl
      rw [← List.append_assoc, show max h (max h1 h2) = max (max h h1) h2 by omega, show bs ++ 43 :: (cs ++ 43 :: ds) = (bs ++ 43 :: cs) ++ 43 :: ds by simp]
      exact .or _ _ _ _ _ _ this t2
    | _ => intro e; omega
  exact go t' rfl
theorem either_app {ms : List Rx} (h : 0 < ms.length) : ∀ {ms' : List Rx}, 0 < ms'.length → ∀ z, tells (eitherOf (ms ++ ms')) z ↔ tells (eitherOf ms) z ∨ tells (eitherOf ms') z := by
  have go : ∀ (r : List Rx), 0 < r.length → ∀ z, tells (eitherOf (ms ++ r.reverse)) z ↔ tells (eitherOf ms) z ∨ tells (eitherOf r.reverse) z := by
    intro r
    induction r with
    | nil => intro h; simp at h
    | cons m r ih =>
      intro _ z
      rw [List.reverse_cons, ← List.append_assoc, eitherOf_snoc (by rw [List.length_append]; omega)]
      by_cases h0 : r = []
      · subst h0; simp only [List.reverse_nil, List.append_nil, List.nil_append, eitherOf_one]; exact Iff.rfl
      · have hr : 0 < r.length := List.length_pos_iff.2 h0
        rw [eitherOf_snoc (ms := r.reverse) (by rw [List.length_reverse]; exact hr)]
        show (tells _ z ∨ tells m z) ↔ (_ ∨ (tells _ z ∨ tells m z))
        rw [ih hr z, or_assoc]
  intro ms' h' z
  have := go ms'.reverse (by rw [List.length_reverse]; exact h') z
  rwa [List.reverse_reverse] at this
/-- Words of one set behind words of another. -/
def CatW (L L' : List Nat → Prop) (z : List Nat) : Prop := ∃ u v, z = u ++ v ∧ L u ∧ L' v
theorem row_app {ms : List Rx} (h : 0 < ms.length) : ∀ {ms' : List Rx}, 0 < ms'.length → ∀ z, tells (rowOf (ms ++ ms')) z ↔ CatW (tells (rowOf ms)) (tells (rowOf ms')) z := by
  have go : ∀ (r : List Rx), 0 < r.length → ∀ z, tells (rowOf (ms ++ r.reverse)) z ↔ CatW (tells (rowOf ms)) (tells (rowOf r.reverse)) z := by
    intro r
    induction r with
    | nil => intro h; simp at h
    | cons m r ih =>
      intro _ z
      rw [List.reverse_cons, ← List.append_assoc, rowOf_snoc (by rw [List.length_append]; omega)]
      by_cases h0 : r = []
      · subst h0; simp only [List.reverse_nil, List.append_nil, List.nil_append, rowOf_one]; exact Iff.rfl
      · have hr : 0 < r.length := List.length_pos_iff.2 h0
        rw [rowOf_snoc (ms := r.reverse) (by rw [List.length_reverse]; exact hr)]
        constructor
        · rintro ⟨u, v, rfl, h1, h2⟩
          obtain ⟨a, b, rfl, h3, h4⟩ := (ih hr u).1 h1
          exact ⟨a, b ++ v, by simp, h3, b, v, rfl, h4, h2⟩
        · rintro ⟨a, w, rfl, h3, b, v, rfl, h4, h2⟩
          exact ⟨a ++ b, v, by simp, (ih hr _).2 ⟨a, b, rfl, h3, h4⟩, h2⟩
  intro ms' h' z
  have := go ms'.reverse (by rw [List.length_reverse]; exact h') z
  rwa [List.reverse_reverse] at this

/-- A text, as loose as k says, tells the words of L; its brackets are at most H deep. -/
def SayB (T : ByteArray) (k : Nat) (L : List Nat → Prop) (H : Nat) : Prop :=
  ∃ bs ms h, Stands T 0 bs ∧ bs.length = T.size ∧ h ≤ H ∧ Txt k bs ms h ∧ ∀ z, tells (meanT k ms) z ↔ L z
theorem SayB.parse {T : ByteArray} {k : Nat} {L : List Nat → Prop} {H : Nat} (h : SayB T k L H) (h4 : T.size ≤ 4000) (hH : H ≤ 40) : ∃ m, parseR T = .good m T.size ∧ ∀ z, tells m z ↔ L z := by
  obtain ⟨bs, ms, d, hs, hl, hd, t, ht⟩ := h
  obtain ⟨ms', t', e⟩ := t.up t.kind (Nat.le_refl 3)
  have hp := parse_txt t' hs hl h4 (by omega) (by have := t.deep; omega)
  refine ⟨_, hp, fun z => ?_⟩
  rw [← ht z, ← e]; rfl
/-- One text tells one set of words. -/
theorem SayB.same {T : ByteArray} {k k' : Nat} {L L' : List Nat → Prop} {H H' : Nat} (h : SayB T k L H) (h' : SayB T k' L' H') (h4 : T.size ≤ 4000) (hH : H ≤ 40) (hH' : H' ≤ 40) (z : List Nat) : L z ↔ L' z := by
  obtain ⟨m, p, e⟩ := h.parse h4 hH
  obtain ⟨m', p', e'⟩ := h'.parse h4 hH'
  rw [p] at p'
  cases p'
  rw [← e z, e' z]
theorem stands_app {T U : ByteArray} {bs cs : List Nat} (h : Stands T 0 bs) (hl : bs.length = T.size) (h' : Stands U 0 cs) (hl' : cs.length = U.size) : Stands (T ++ U) 0 (bs ++ cs) ∧ (bs ++ cs).length = (T ++ U).size := by
  refine ⟨fun k hk => ?_, by rw [List.length_append, ByteArray.size_append, hl, hl']⟩
  rw [List.length_append] at hk
  by_cases h0 : k < bs.length
  · have := h k h0
    rw [Nat.zero_add] at this ⊢
    rw [byteAt_left (by omega), this]
    simp [List.getD, List.getElem?_append_left h0]
  · have := h' (k - bs.length) (by omega)
    rw [Nat.zero_add] at this ⊢
    rw [byteAt_right (by omega), ← hl, this]
    simp only [List.getD]
    rw [List.getElem?_append_right (by omega)]

theorem stands_one {c : Nat} (hc : c < 256) : Stands (oneT c) 0 [c] ∧ [c].length = (oneT c).size := by
  refine ⟨fun k hk => ?_, rfl⟩
  have : k = 0 := by simpa using hk
  subst this
  show (if h : 0 < (oneT c).size then (oneT c)[0].toNat else 0) = c
  rw [dif_pos (show 0 < (oneT c).size from Nat.zero_lt_one)]
  show (UInt8.ofNat c).toNat = c
  simp; omega
theorem SayB.within {T : ByteArray} {k : Nat} {L : List Nat → Prop} {H : Nat} (h : SayB T k L H) {l : Nat} (hl : l ≤ 3) : SayB (withinT T k l) l L (H + 1) ∧ (withinT T k l).size ≤ T.size + 2 := by
  obtain ⟨bs, ms, d, hs, hlen, hd, t, ht⟩ := h
  unfold withinT
  by_cases hk : k ≤ l
  · rw [if_pos hk]
    obtain ⟨ms', t', e⟩ := t.up hk hl
    exact ⟨⟨bs, ms', d, hs, hlen, by omega, t', fun z => by rw [e]; exact ht z⟩, by omega⟩
  · rw [if_neg hk]
    obtain ⟨ms', t', e⟩ := t.up t.kind (Nat.le_refl 3)
    obtain ⟨ms2, t2, e2⟩ := (Txt.br _ _ _ t').up (Nat.zero_le l) hl
    obtain ⟨a1, a2⟩ := stands_one (c := 40) (by omega)
    obtain ⟨b1, b2⟩ := stands_one (c := 41) (by omega)
    obtain ⟨c1, c2⟩ := stands_app a1 a2 hs hlen
    obtain ⟨d1, d2⟩ := stands_app c1 c2 b1 b2
    have eb : [40] ++ bs ++ [41] = 40 :: (bs ++ [41]) := by simp
    rw [eb] at d1 d2
    refine ⟨⟨_, ms2, d + 1, d1, d2, by omega, t2, fun z => ?_⟩, by rw [← d2]; simp; omega⟩
    rw [e2, ← ht z, ← e]; rfl
theorem SayB.none (H : Nat) : SayB (oneT 48) 0 (fun _ => False) H := by
  obtain ⟨a1, a2⟩ := stands_one (c := 48) (by omega)
  exact ⟨_, _, 0, a1, a2, Nat.zero_le _, .none, fun z => Iff.rfl⟩
theorem SayB.empty (H : Nat) : SayB (oneT 49) 0 (fun z => z = []) H := by
  obtain ⟨a1, a2⟩ := stands_one (c := 49) (by omega)
  exact ⟨_, _, 0, a1, a2, Nat.zero_le _, .empty, fun z => Iff.rfl⟩
theorem SayB.letter {l : Nat} (hl : l < 4) (H : Nat) : SayB (oneT (97 + l)) 0 (fun z => z = [l]) H := by
  obtain ⟨a1, a2⟩ := stands_one (c := 97 + l) (by omega)
  refine ⟨_, _, 0, a1, a2, Nat.zero_le _, .letter _ (by omega) (by omega), fun z => ?_⟩
  show z = [(Int.ofNat (97 + l - 97)).toNat] ↔ _
  rw [Nat.add_sub_cancel_left]; exact Iff.rfl
theorem SayB.iff {T : ByteArray} {k : Nat} {L L' : List Nat → Prop} {H : Nat} (h : SayB T k L H) (e : ∀ z, L z ↔ L' z) : SayB T k L' H := by
  obtain ⟨bs, ms, d, hs, hlen, hd, t, ht⟩ := h
  exact ⟨bs, ms, d, hs, hlen, hd, t, fun z => (ht z).trans (e z)⟩
theorem SayB.more {T : ByteArray} {k : Nat} {L : List Nat → Prop} {H H' : Nat} (h : SayB T k L H) (hH : H ≤ H') : SayB T k L H' := by
  obtain ⟨bs, ms, d, hs, hlen, hd, t, ht⟩ := h
  exact ⟨bs, ms, d, hs, hlen, by omega, t, ht⟩
theorem SayB.or {T U : ByteArray} {L L' : List Nat → Prop} {H H' : Nat} (h : SayB T 3 L H) (h' : SayB U 3 L' H') : SayB (T ++ oneT 43 ++ U) 3 (fun z => L z ∨ L' z) (max H H') := by
  obtain ⟨bs, ms, d, hs, hlen, hd, t, ht⟩ := h
  obtain ⟨cs, ms', d', hs', hlen', hd', t', ht'⟩ := h'
  obtain ⟨a1, a2⟩ := stands_one (c := 43) (by omega)
  obtain ⟨c1, c2⟩ := stands_app hs hlen a1 a2
  obtain ⟨d1, d2⟩ := stands_app c1 c2 hs' hlen'
  have eb : bs ++ [43] ++ cs = bs ++ 43 :: cs := by simp
  rw [eb] at d1 d2
  refine ⟨_, _, _, d1, d2, by omega, t.ors t', fun z => ?_⟩
  exact (either_app t.head.2.2.1 t'.head.2.2.1 z).trans (or_congr (ht z) (ht' z))
theorem SayB.then {T U : ByteArray} {L L' : List Nat → Prop} {H H' : Nat} (h : SayB T 2 L H) (h' : SayB U 2 L' H') : SayB (T ++ U) 2 (CatW L L') (max H H') := by
  obtain ⟨bs, ms, d, hs, hlen, hd, t, ht⟩ := h
  obtain ⟨cs, ms', d', hs', hlen', hd', t', ht'⟩ := h'
  obtain ⟨d1, d2⟩ := stands_app hs hlen hs' hlen'
  refine ⟨_, _, _, d1, d2, by omega, t.rows t', fun z => (row_app t.head.2.2.1 t'.head.2.2.1 z).trans ?_⟩
  constructor
  · rintro ⟨u, v, rfl, h1, h2⟩; exact ⟨u, v, rfl, (ht u).1 h1, (ht' v).1 h2⟩
  · rintro ⟨u, v, rfl, h1, h2⟩; exact ⟨u, v, rfl, (ht u).2 h1, (ht' v).2 h2⟩
theorem SayB.again {T : ByteArray} {L : List Nat → Prop} {H : Nat} (h : SayB T 0 L H) : SayB (T ++ oneT 42) 1 (StarW L) H := by
  obtain ⟨bs, ms, d, hs, hlen, hd, t, ht⟩ := h
  obtain ⟨a1, a2⟩ := stands_one (c := 42) (by omega)
  obtain ⟨c1, c2⟩ := stands_app hs hlen a1 a2
  obtain ⟨m, rfl⟩ := t.single (by omega)
  refine ⟨_, _, d, c1, c2, hd, .star _ _ _ t, fun z => (tells_star m z).trans ?_⟩
  have e : ∀ z, tells m z ↔ L z := ht
  exact ⟨StarW.mono fun x hx => (e x).1 hx, StarW.mono fun x hx => (e x).2 hx⟩

end Go.Proofs.Yticmfgclkepgoaa

namespace Go.Proofs.Yticmfgclkepgoaa
open Go.RowKit
set_option linter.unusedVariables false

abbrev LW := List Nat → Prop
theorem CatW.mono {A A' B B' : LW} (h : ∀ z, A z → A' z) (h' : ∀ z, B z → B' z) {z : List Nat} (c : CatW A B z) : CatW A' B' z := by
  obtain ⟨u, v, rfl, h1, h2⟩ := c
  exact ⟨u, v, rfl, h u h1, h' v h2⟩
theorem CatW.assoc {A B C : LW} {z : List Nat} : CatW (CatW A B) C z ↔ CatW A (CatW B C) z := by
  constructor
  · rintro ⟨u, v, rfl, ⟨a, b, rfl, h1, h2⟩, h3⟩
    exact ⟨a, b ++ v, by simp, h1, b, v, rfl, h2, h3⟩
  · rintro ⟨a, w, rfl, h1, b, v, rfl, h2, h3⟩
    exact ⟨a ++ b, v, by simp, ⟨a, b, rfl, h1, h2⟩, h3⟩
/-- Arden's rule. -/
theorem arden {A B X : LW} (h : ∀ z, X z ↔ B z ∨ CatW A X z) (h0 : ¬ A []) : ∀ z, X z ↔ CatW (StarW A) B z := by
  have go : ∀ n z, z.length ≤ n → X z → CatW (StarW A) B z := by
    intro n
    induction n with
    | zero =>
      intro z hz hx
      rcases (h z).1 hx with hb | ⟨u, v, rfl, h1, h2⟩
      · exact ⟨[], z, rfl, StarW.nil A, hb⟩
      · have : u = [] := by cases u with
          | nil => rfl
          | cons c u => simp at hz
        subst this; exact absurd h1 h0
    | succ n ih =>
      intro z hz hx
      rcases (h z).1 hx with hb | ⟨u, v, rfl, h1, h2⟩
      · exact ⟨[], z, rfl, StarW.nil A, hb⟩
      · have hu : 0 < u.length := by cases u with
          | nil => exact absurd h1 h0
          | cons c u => simp
        rw [List.length_append] at hz
        obtain ⟨a, b, rfl, h3, h4⟩ := ih v (by omega) h2
        exact ⟨u ++ a, b, by simp, StarW.put h1 h3, h4⟩
  intro z
  refine ⟨go z.length z (Nat.le_refl _), ?_⟩
  rintro ⟨u, v, rfl, ⟨ws, hw, rfl⟩, h2⟩
  induction ws with
  | nil => exact (h _).2 (.inl h2)
  | cons w ws ih =>
    rw [List.flatten_cons, List.append_assoc]
    exact (h _).2 (.inr ⟨w, ws.flatten ++ v, rfl, hw w (by simp), ih fun x hx => hw x (by simp [hx])⟩)

/-- From each state on: what ends there, or what leads to a state and goes on from there. -/
def Solves (n : Nat) (ld : Nat → Nat → LW) (en X : Nat → LW) : Prop := ∀ s, s < n → ∀ z, X s z ↔ en s z ∨ ∃ t, t < n ∧ CatW (ld s t) (X t) z
/-- Nothing leads anywhere by no letter. -/
def NoE (n : Nat) (ld : Nat → Nat → LW) : Prop := ∀ s t, s < n → t < n → ¬ ld s t []
/-- What leads to the state s, and back to it any number of times. -/
def toW (ld : Nat → Nat → LW) (s t : Nat) : LW := CatW (ld t s) (StarW (ld s s))
def ldW (ld : Nat → Nat → LW) (s : Nat) : Nat → Nat → LW := fun t u z => ld t u z ∨ CatW (toW ld s t) (ld s u) z
def enW (ld : Nat → Nat → LW) (en : Nat → LW) (s : Nat) : Nat → LW := fun t z => en t z ∨ CatW (toW ld s t) (en s) z
theorem cat_nil {A B : LW} (h : ¬ A []) : ¬ CatW A B [] := by
  rintro ⟨u, v, e, h1, h2⟩
  obtain ⟨rfl, rfl⟩ := List.append_eq_nil_iff.1 e.symm
  exact h h1
theorem NoE.gone {n : Nat} {ld : Nat → Nat → LW} (h : NoE (n + 1) ld) : NoE n (ldW ld n) := by
  intro s t hs ht hx
  rcases hx with hx | hx
  · exact h s t (by omega) (by omega) hx
  · exact cat_nil (cat_nil (h s n (by omega) (by omega))) hx
theorem Solves.last {n : Nat} {ld : Nat → Nat → LW} {en X : Nat → LW} (h : Solves (n + 1) ld en X) (h0 : NoE (n + 1) ld) : ∀ z, X n z ↔ CatW (StarW (ld n n)) (fun z => en n z ∨ ∃ t, t < n ∧ CatW (ld n t) (X t) z) z := by
  refine arden (fun z => ?_) (h0 n n (by omega) (by omega))
  rw [h n (by omega) z]
  constructor
  · rintro (h1 | ⟨t, ht, h1⟩)
    · exact .inl (.inl h1)
    · by_cases e : t = n
      · subst e; exact .inr h1
      · exact .inl (.inr ⟨t, by omega, h1⟩)
  · rintro ((h1 | ⟨t, ht, h1⟩) | h1)
    · exact .inl h1
    · exact .inr ⟨t, by omega, h1⟩
    · exact .inr ⟨n, by omega, h1⟩
/-- The last state is taken away. -/
theorem Solves.gone {n : Nat} {ld : Nat → Nat → LW} {en X : Nat → LW} (h : Solves (n + 1) ld en X) (h0 : NoE (n + 1) ld) : Solves n (ldW ld n) (enW ld en n) X := by
  intro s hs z
  have hl := h.last h0
  rw [h s (by omega) z]
  constructor
  · rintro (h1 | ⟨t, ht, h1⟩)
    · exact .inl (.inl h1)
    · by_cases e : t = n
      · subst e
        obtain ⟨u, v, rfl, h2, h3⟩ := h1
        obtain ⟨a, b, rfl, h4, h5⟩ := (hl v).1 h3
        rcases h5 with h5 | ⟨q, hq, c, d, rfl, h6, h7⟩
        · exact .inl (.inr ⟨u ++ a, b, by simp, ⟨u, a, rfl, h2, h4⟩, h5⟩)
        · exact .inr ⟨q, hq, u ++ a ++ c, d, by simp, .inr ⟨u ++ a, c, rfl, ⟨u, a, rfl, h2, h4⟩, h6⟩, h7⟩
      · obtain ⟨u, v, rfl, h2, h3⟩ := h1
        exact .inr ⟨t, by omega, u, v, rfl, .inl h2, h3⟩
  · rintro ((h1 | ⟨w, b, rfl, ⟨u, a, rfl, h2, h4⟩, h5⟩) | ⟨q, hq, x, d, rfl, (h2 | ⟨w, c, rfl, ⟨u, a, rfl, h2, h4⟩, h6⟩), h7⟩)
    · exact .inl h1
    · exact .inr ⟨n, by omega, u, a ++ b, by simp, h2, (hl _).2 ⟨a, b, rfl, h4, .inl h5⟩⟩
    · exact .inr ⟨q, by omega, x, d, rfl, h2, h7⟩
    · exact .inr ⟨n, by omega, u, a ++ (c ++ d), by simp, h2, (hl _).2 ⟨a, c ++ d, rfl, h4, .inr ⟨q, hq, c, d, rfl, h6, h7⟩⟩⟩
theorem Solves.first {ld : Nat → Nat → LW} {en X : Nat → LW} (h : Solves 1 ld en X) (h0 : NoE 1 ld) : ∀ z, X 0 z ↔ CatW (StarW (ld 0 0)) (en 0) z := by
  intro z
  rw [Solves.last h h0 z]
  constructor
  · exact fun c => c.mono (fun _ h => h) fun z h => h.elim id fun ⟨t, ht, _⟩ => by omega
  · exact fun c => c.mono (fun _ h => h) fun z h => .inl h

/-! ### sayings -/
/-- It tells the words of L, in at most B bytes, with brackets at most H deep. -/
structure SayY (x : Sy) (L : LW) (B H : Nat) : Prop where
  say : SayB x.1 x.2 L H
  size : x.1.size ≤ B
theorem SayY.iff {x : Sy} {L L' : LW} {B H : Nat} (h : SayY x L B H) (e : ∀ z, L z ↔ L' z) : SayY x L' B H := ⟨h.say.iff e, h.size⟩
theorem SayY.more {x : Sy} {L : LW} {B B' H H' : Nat} (h : SayY x L B H) (hB : B ≤ B') (hH : H ≤ H') : SayY x L B' H' := ⟨h.say.more hH, Nat.le_trans h.size hB⟩
theorem noneY_ok (H : Nat) : SayY noneY (fun _ => False) 1 H := ⟨SayB.none H, Nat.le_refl 1⟩
theorem emptyY_ok (H : Nat) : SayY emptyY (fun z => z = []) 1 H := ⟨SayB.empty H, Nat.le_refl 1⟩
theorem SayY.same {x : Sy} {L L' : LW} {B B' H H' : Nat} (h : SayY x L B H) (h' : SayY x L' B' H') (hB : B ≤ 4000) (hH : H ≤ 40) (hH' : H' ≤ 40) (z : List Nat) : L z ↔ L' z := h.say.same h'.say (Nat.le_trans h.size hB) hH hH' z
theorem or_ok {x y : Sy} {L L' : LW} {B B' H H' : Nat} (h : SayY x L B H) (h' : SayY y L' B' H') (hB : B ≤ 4000) (hB' : B' ≤ 4000) (hH : H ≤ 40) (hH' : H' ≤ 40) : SayY (orY x y) (fun z => L z ∨ L' z) (B + B' + 1) (max H H') := by
  unfold orY
  by_cases h1 : x = noneY ∨ x = y
  · rw [if_pos h1]
    rcases h1 with rfl | rfl
    · have := h.same (noneY_ok 0) hB hH (by omega)
      exact (h'.iff fun z => ⟨.inr, fun e => e.elim (fun e => ((this z).1 e).elim) id⟩).more (by omega) (by omega)
    · have := h.same h' hB hH hH'
      exact (h'.iff fun z => ⟨.inr, fun e => e.elim (this z).1 id⟩).more (by omega) (by omega)
  · rw [if_neg h1]
    by_cases h2 : y = noneY
    · rw [if_pos h2]
      subst h2
      have := h'.same (noneY_ok 0) hB' hH' (by omega)
      exact (h.iff fun z => ⟨.inl, fun e => e.elim id fun e => ((this z).1 e).elim⟩).more (by omega) (by omega)
    · rw [if_neg h2]
      have up : ∀ {x : Sy} {L : LW} {B H : Nat}, SayY x L B H → SayB x.1 3 L H := fun {x L B H} h => by
        obtain ⟨bs, ms, d, hs, hlen, hd, t, ht⟩ := h.say
        obtain ⟨ms', t', e⟩ := t.up t.kind (Nat.le_refl 3)
        exact ⟨bs, ms', d, hs, hlen, hd, t', fun z => by rw [e]; exact ht z⟩
      have w1 : ∀ {x : Sy} {L : LW} {B H : Nat}, SayY x L B H → withinT x.1 x.2 3 = x.1 := fun {x L B H} h => by
        obtain ⟨bs, ms, d, hs, hlen, hd, t, ht⟩ := h.say
        unfold withinT
        rw [if_pos t.kind]
      rw [w1 h, w1 h']
      refine ⟨SayB.or (up h) (up h'), ?_⟩
      have s1 := h.size
      have s2 := h'.size
      have s3 : (oneT 43).size = 1 := rfl
      simp only [ByteArray.size_append]; omega
theorem then_ok {x y : Sy} {L L' : LW} {B B' H H' : Nat} (h : SayY x L B H) (h' : SayY y L' B' H') (hB : B ≤ 4000) (hB' : B' ≤ 4000) (hH : H ≤ 40) (hH' : H' ≤ 40) : SayY (thenY x y) (CatW L L') (B + B' + 4) (max H H' + 1) := by
  unfold thenY
  by_cases h1 : x = noneY ∨ y = emptyY
  · rw [if_pos h1]
    rcases h1 with rfl | rfl
    · have := h.same (noneY_ok 0) hB hH (by omega)
      exact (h.iff fun z => ⟨fun e => ((this z).1 e).elim, fun ⟨u, v, _, e, _⟩ => ((this u).1 e).elim⟩).more (by omega) (by omega)
    · have := h'.same (emptyY_ok 0) hB' hH' (by omega)
      exact (h.iff fun z => ⟨fun e => ⟨z, [], by simp, e, (this []).2 rfl⟩, fun ⟨u, v, e1, e2, e3⟩ => by
        have : v = [] := (this v).1 e3
        subst this; rw [e1]; simpa using e2⟩).more (by omega) (by omega)
  · rw [if_neg h1]
    by_cases h2 : y = noneY ∨ x = emptyY
    · rw [if_pos h2]
      rcases h2 with rfl | rfl
      · have := h'.same (noneY_ok 0) hB' hH' (by omega)
        exact (h'.iff fun z => ⟨fun e => ((this z).1 e).elim, fun ⟨u, v, _, _, e⟩ => ((this v).1 e).elim⟩).more (by omega) (by omega)
      · have := h.same (emptyY_ok 0) hB hH (by omega)
        exact (h'.iff fun z => ⟨fun e => ⟨[], z, by simp, (this []).2 rfl, e⟩, fun ⟨u, v, e1, e2, e3⟩ => by
          have : u = [] := (this u).1 e2
          subst this; rw [e1]; simpa using e3⟩).more (by omega) (by omega)
    · rw [if_neg h2]
      obtain ⟨w1, z1⟩ := h.say.within (l := 2) (by omega)
      obtain ⟨w2, z2⟩ := h'.say.within (l := 2) (by omega)
      refine ⟨(w1.then w2).more (by omega), ?_⟩
      have s1 := h.size
      have s2 := h'.size
      simp only [ByteArray.size_append]; omega
theorem again_ok {x : Sy} {L : LW} {B H : Nat} (h : SayY x L B H) (hB : B ≤ 4000) (hH : H ≤ 40) : SayY (againY x) (StarW L) (B + 3) (H + 1) := by
  unfold againY
  by_cases h1 : x = noneY ∨ x = emptyY
  · rw [if_pos h1]
    have key : ∀ z, StarW L z ↔ z = [] := by
      have hx : ∀ z, L z → z = [] := fun z e => by
        rcases h1 with rfl | rfl
        · exact ((h.same (noneY_ok 0) hB hH (by omega) z).1 e).elim
        · exact (h.same (emptyY_ok 0) hB hH (by omega) z).1 e
      intro z
      constructor
      · rintro ⟨ws, hw, rfl⟩
        exact List.flatten_eq_nil_iff.2 fun w h => hx w (hw w h)
      · rintro rfl; exact StarW.nil L
    exact ((emptyY_ok 0).iff fun z => (key z).symm).more (by omega) (by omega)
  · rw [if_neg h1]
    obtain ⟨w1, z1⟩ := h.say.within (l := 0) (by omega)
    refine ⟨w1.again, ?_⟩
    have s1 := h.size
    have s3 : (oneT 42).size = 1 := rfl
    simp only [ByteArray.size_append]; omega

end Go.Proofs.Yticmfgclkepgoaa

namespace Go.Proofs.Yticmfgclkepgoaa
open Go.RowKit
set_option linter.unusedVariables false

def leadW (nx : Nat → Nat → Nat) (l : Nat) (s t : Nat) : LW := fun z => ∃ a, a < l ∧ nx s a = t ∧ z = [a]
theorem leadY_ok (nx : Nat → Nat → Nat) (s t : Nat) : ∀ l, l ≤ 4 → SayY (leadY nx s t l) (leadW nx l s t) (1 + 2 * l) 0
  | 0, _ => (noneY_ok 0).iff fun z => ⟨fun h => h.elim, fun ⟨a, h, _⟩ => by omega⟩
  | l + 1, hl => by
    have ih := leadY_ok nx s t l (by omega)
    unfold leadY
    by_cases e : nx s l = t
    · rw [if_pos e]
      have hy : SayY (oneT (97 + l), 0) (fun z => z = [l]) 1 0 := ⟨SayB.letter (by omega) 0, Nat.le_refl 1⟩
      refine ((or_ok ih hy (by omega) (by omega) (by omega) (by omega)).iff fun z => ?_).more (by omega) (by omega)
      constructor
      · rintro (⟨a, h1, h2, h3⟩ | h)
        · exact ⟨a, by omega, h2, h3⟩
        · exact ⟨l, by omega, e, h⟩
      · rintro ⟨a, h1, h2, h3⟩
        by_cases ha : a = l
        · subst ha; exact .inr h3
        · exact .inl ⟨a, by omega, h2, h3⟩
    · rw [if_neg e]
      refine (ih.iff fun z => ?_).more (by omega) (by omega)
      constructor
      · rintro ⟨a, h1, h2, h3⟩; exact ⟨a, by omega, h2, h3⟩
      · rintro ⟨a, h1, h2, h3⟩
        have ha : a ≠ l := fun ha => e (ha ▸ h2)
        exact ⟨a, by omega, h2, h3⟩
def endW (mk : Nat → Bool) (s : Nat) : LW := fun z => mk s = true ∧ z = []
theorem endY_ok (mk : Nat → Bool) (s : Nat) : SayY (endY mk s) (endW mk s) 1 0 := by
  unfold endY
  by_cases e : mk s = true
  · rw [if_pos e]; exact (emptyY_ok 0).iff fun z => ⟨fun h => ⟨e, h⟩, fun h => h.2⟩
  · rw [if_neg e]; exact (noneY_ok 0).iff fun z => ⟨fun h => h.elim, fun h => absurd h.1 e⟩

/-- All that is said, and what it tells. -/
structure SayA (n : Nat) (ld : Nat → Nat → Sy) (en : Nat → Sy) (LD : Nat → Nat → LW) (EN : Nat → LW) (B E H : Nat) : Prop where
  ld : ∀ s t, s < n → t < n → SayY (ld s t) (LD s t) B H
  en : ∀ s, s < n → SayY (en s) (EN s) E H
theorem SayA.gone {n : Nat} {ld : Nat → Nat → Sy} {en : Nat → Sy} {LD : Nat → Nat → LW} {EN : Nat → LW} {B E H : Nat} (h : SayA (n + 1) ld en LD EN B E H) (hB : B ≤ 500) (hE : E ≤ 500) (hH : H ≤ 20) :
    SayA n (ldY ld n) (enY ld en n) (ldW LD n) (enW LD EN n) (4 * B + 12) (2 * B + 2 * E + 12) (H + 3) := by
  have ta : ∀ t, t < n → SayY (toY ld n t) (toW LD n t) (2 * B + 7) (H + 2) := fun t ht =>
    (then_ok (h.ld t n (by omega) (by omega)) (again_ok (h.ld n n (by omega) (by omega)) (by omega) (by omega)) (by omega) (by omega) (by omega) (by omega)).more (by omega) (by omega)
  refine ⟨fun s t hs ht => ?_, fun s hs => ?_⟩
  · unfold ldY
    rw [if_pos ⟨hs, ht⟩]
    exact (or_ok (h.ld s t (by omega) (by omega)) (then_ok (ta s hs) (h.ld n t (by omega) (by omega)) (by omega) (by omega) (by omega) (by omega)) (by omega) (by omega) (by omega) (by omega)).more (by omega) (by omega)
  · unfold enY
    rw [if_pos hs]
    exact (or_ok (h.en s (by omega)) (then_ok (ta s hs) (h.en n (by omega)) (by omega) (by omega) (by omega) (by omega)) (by omega) (by omega) (by omega) (by omega)).more (by omega) (by omega)
theorem writ_one {ld : Nat → Nat → Sy} {en : Nat → Sy} {LD : Nat → Nat → LW} {EN X : Nat → LW} {B E H : Nat} (h : SayA 1 ld en LD EN B E H) (hs : Solves 1 LD EN X) (h0 : NoE 1 LD) (hB : B ≤ 3000) (hE : E ≤ 3000) (hH : H ≤ 30) : SayY (writY 0 ld en) (X 0) (B + E + 7) (H + 2) :=
  ((then_ok (again_ok (h.ld 0 0 (by omega) (by omega)) (by omega) (by omega)) (h.en 0 (by omega)) (by omega) (by omega) (by omega) (by omega)).iff fun z => (hs.first h0 z).symm).more (by omega) (by omega)
theorem writ_two {ld : Nat → Nat → Sy} {en : Nat → Sy} {LD : Nat → Nat → LW} {EN X : Nat → LW} {B E H : Nat} (h : SayA 2 ld en LD EN B E H) (hs : Solves 2 LD EN X) (h0 : NoE 2 LD) (hB : B ≤ 300) (hE : E ≤ 300) (hH : H ≤ 20) : SayY (writY 1 ld en) (X 0) (6 * B + 2 * E + 31) (H + 5) :=
  (writ_one (h.gone (by omega) (by omega) (by omega)) (hs.gone h0) h0.gone (by omega) (by omega) (by omega)).more (by omega) (by omega)
theorem writ_three {ld : Nat → Nat → Sy} {en : Nat → Sy} {LD : Nat → Nat → LW} {EN X : Nat → LW} {B E H : Nat} (h : SayA 3 ld en LD EN B E H) (hs : Solves 3 LD EN X) (h0 : NoE 3 LD) (hB : B ≤ 20) (hE : E ≤ 20) (hH : H ≤ 10) : SayY (writY 2 ld en) (X 0) 1000 (H + 8) :=
  (writ_two (h.gone (by omega) (by omega) (by omega)) (hs.gone h0) h0.gone (by omega) (by omega) (by omega)).more (by omega) (by omega)

/-- The words that are accepted from a state on. -/
def fromW (nx : Nat → Nat → Nat) (mk : Nat → Bool) (l s : Nat) : LW := fun z => Lets l z ∧ mk (z.foldl nx s) = true
theorem from_solves {nx : Nat → Nat → Nat} {mk : Nat → Bool} {n l : Nat} (hnx : ∀ s a, s < n → a < l → nx s a < n) : Solves n (leadW nx l) (endW mk) (fromW nx mk l) := by
  intro s hs z
  cases z with
  | nil =>
    constructor
    · rintro ⟨_, h⟩; exact .inl ⟨h, rfl⟩
    · rintro (⟨h, _⟩ | ⟨t, _, u, v, e, ⟨a, _, _, rfl⟩, _⟩)
      · exact ⟨fun b hb => by simp at hb, h⟩
      · simp at e
  | cons c z =>
    constructor
    · rintro ⟨h1, h2⟩
      have hc := h1 c (by simp)
      exact .inr ⟨nx s c, hnx s c hs hc, [c], z, rfl, ⟨c, hc, rfl, rfl⟩, fun b hb => h1 b (by simp [hb]), h2⟩
    · rintro (⟨_, h⟩ | ⟨t, ht, u, v, e, ⟨a, ha, rfl, rfl⟩, h1, h2⟩)
      · simp at h
      · simp only [List.singleton_append, List.cons.injEq] at e
        obtain ⟨rfl, rfl⟩ := e
        exact ⟨fun b hb => by rcases List.mem_cons.1 hb with rfl | hb; exact ha; exact h1 b hb, h2⟩
theorem lead_noE (nx : Nat → Nat → Nat) (n l : Nat) : NoE n (leadW nx l) := by
  rintro s t _ _ ⟨a, _, _, e⟩
  simp at e
theorem written_ok {nx : Nat → Nat → Nat} {mk : Nat → Bool} {n l : Nat} (hn1 : 1 ≤ n) (hn3 : n ≤ 3) (hl : l ≤ 4) (hnx : ∀ s a, s < n → a < l → nx s a < n) : ∃ m, parseR (writtenY nx mk l n).1 = .good m (writtenY nx mk l n).1.size ∧ (writtenY nx mk l n).1.size ≤ 1000 ∧ ∀ z, tells m z ↔ Lets l z ∧ mk (z.foldl nx 0) = true := by
  have hA : SayA n (fun s t => leadY nx s t l) (endY mk) (leadW nx l) (endW mk) 9 1 0 := ⟨fun s t _ _ => (leadY_ok nx s t l hl).more (by omega) (Nat.le_refl _), fun s _ => endY_ok mk s⟩
  have hS : Solves n (leadW nx l) (endW mk) (fromW nx mk l) := from_solves hnx
  have hE := lead_noE nx n l
  have key : SayY (writtenY nx mk l n) (fromW nx mk l 0) 1000 8 := by
    unfold writtenY
    obtain h | h | h : n = 1 ∨ n = 2 ∨ n = 3 := by omega
    · subst h; exact (writ_one hA hS hE (by omega) (by omega) (by omega)).more (by omega) (by omega)
    · subst h; exact (writ_two hA hS hE (by omega) (by omega) (by omega)).more (by omega) (by omega)
    · subst h; exact writ_three hA hS hE (by omega) (by omega) (by omega)
  have hz := key.size
  obtain ⟨m, hp, ht⟩ := key.say.parse (by omega) (by omega)
  exact ⟨m, hp, hz, ht⟩

end Go.Proofs.Yticmfgclkepgoaa
