/- An atom, as the reference reads it. -/
import Derived.Test.YtaommgnlnfhbfaaJName
namespace Go.Proofs.Ytaommgnlnfhbfaa
open Go.RowKit
set_option linter.unusedVariables false
set_option linter.unusedSimpArgs false

/-- What a node of the list means. -/
def MeansJ (ns : List NdJ) : Lf → Nat → Prop
  | .letter c x, k => ns[k]? = some ⟨0, (c : Int), (x : Int), 0, false⟩
  | .lt x y, k => ns[k]? = some ⟨1, 0, (x : Int), (y : Int), false⟩
  | .eq x y, k => ns[k]? = some ⟨2, 0, (x : Int), (y : Int), false⟩
  | .nx x y, k => ns[k]? = some ⟨3, 0, (x : Int), (y : Int), false⟩
  | .inn x y, k => ns[k]? = some ⟨4, 0, (x : Int), (y : Int), false⟩
  | .not a, k => ∃ j : Nat, ns[k]? = some ⟨5, 0, (j : Int), 0, false⟩ ∧ MeansJ ns a j
  | .and a b, k => ∃ i j : Nat, ns[k]? = some ⟨6, 0, (i : Int), (j : Int), false⟩ ∧ MeansJ ns a i ∧ MeansJ ns b j
  | .or a b, k => ∃ i j : Nat, ns[k]? = some ⟨7, 0, (i : Int), (j : Int), false⟩ ∧ MeansJ ns a i ∧ MeansJ ns b j
  | .some se a, k => ∃ j : Nat, ns[k]? = some ⟨8, 0, (j : Int), 0, se⟩ ∧ MeansJ ns a j
  | .every se a, k => ∃ j : Nat, ns[k]? = some ⟨9, 0, (j : Int), 0, se⟩ ∧ MeansJ ns a j
theorem get_ext {ns r : List NdJ} {k : Nat} {x : NdJ} (h : ns[k]? = some x) : (ns ++ r)[k]? = some x := by
  have := (List.getElem?_eq_some_iff.1 h).1
  rw [List.getElem?_append_left this]; exact h
theorem MeansJ.ext {ns : List NdJ} (r : List NdJ) : ∀ {f : Lf} {k : Nat}, MeansJ ns f k → MeansJ (ns ++ r) f k := by
  intro f
  induction f with
  | letter c x => intro k h; exact get_ext h
  | lt x y => intro k h; exact get_ext h
  | eq x y => intro k h; exact get_ext h
  | nx x y => intro k h; exact get_ext h
  | inn x y => intro k h; exact get_ext h
  | not a ih => intro k ⟨j, h1, h2⟩; exact ⟨j, get_ext h1, ih h2⟩
  | and a b iha ihb => intro k ⟨i, j, h1, h2, h3⟩; exact ⟨i, j, get_ext h1, iha h2, ihb h3⟩
  | or a b iha ihb => intro k ⟨i, j, h1, h2, h3⟩; exact ⟨i, j, get_ext h1, iha h2, ihb h3⟩
  | some se a ih => intro k ⟨j, h1, h2⟩; exact ⟨j, get_ext h1, ih h2⟩
  | every se a ih => intro k ⟨j, h1, h2⟩; exact ⟨j, get_ext h1, ih h2⟩
theorem get_last (ns : List NdJ) (x : NdJ) : (ns ++ [x])[ns.length]? = some x := by simp
/-- The last node of the list, the k-th, means this. -/
def TopJ (ns : List NdJ) (k : Int) (f : Lf) : Prop := ∃ j : Nat, k = (j : Int) ∧ j + 1 = ns.length ∧ MeansJ ns f j
/-- What the list has become, and what its last node means where a formula was read. -/
def MngD (R : LRes) (m m' : List NdJ) (k : Int) : Prop := (∃ r, m' = m ++ r) ∧ ∀ f i n, R = .good f i n → TopJ m' k f
theorem MngD.bad (c : Int) (j : Nat) (m r : List NdJ) (k : Int) : MngD (.bad c j) m (m ++ r) k := ⟨⟨r, rfl⟩, fun f i n h => by cases h⟩
theorem MngD.put {R : LRes} {m : List NdJ} {x : NdJ} (h : ∀ f i n, R = .good f i n → MeansJ (m ++ [x]) f m.length) : MngD R m (m ++ [x]) (m.length : Int) := ⟨⟨[x], rfl⟩, fun f i n e => ⟨m.length, rfl, by simp, h f i n e⟩⟩
theorem MngD.off {R : LRes} {m : List NdJ} (r : List NdJ) (k : Int) (h : ∀ f i n, R ≠ .good f i n) : MngD R m (m ++ r) k := ⟨⟨r, rfl⟩, fun f i n e => absurd e (h f i n)⟩
/-- What a function of the reference's reader comes to. -/
def JGives (s : ByteArray) (b d n : Nat) (z : ByteArray) (w : World) (L : Value) (m : List NdJ) (R : LRes) (e : Ending) (w' : World) : Prop :=
  ∃ (L' : Value) (m' : List NdJ) (n' : Nat) (k : Int), e = .returned (.int .i64 k) ∧ FrJ w w' b L L' ∧ NodJ w' b L' m' ∧ n ≤ n' ∧ n' ≤ 31 ∧ m'.length + n ≤ m.length + n' ∧ (match R with
  | .good f i n2 => n' = n2 ∧ JRd w' b s i n2 d z L' 0 0
  | .bad c j => ∃ i' : Nat, i' + d ≤ 5000 ∧ JRd w' b s i' n' d z L' c j) ∧ MngD R m m' k
def JDoes (f : Nat) (s : ByteArray) (S : PL) (k : Nat) : Prop :=
  ∀ (i n d b : Nat) (w : World) (L : Value) (m : List NdJ) (z : ByteArray) (sc : List Nat), i ≤ s.size → s.size - i < k → n ≤ 30 → d ≤ 40 → sc.length ≤ 3 → ScB z sc → m.length ≤ n → JRd w b s i n d z L 0 0 → NodJ w b L m → Calls Try.prog f #[.pointer (some ⟨b, 0, none⟩)] w (JGives s b d n z w L m (S i n d sc))
/-- Behind a fault it stops. -/
def JStop (f : Nat) (s : ByteArray) : Prop :=
  ∀ (i n d b : Nat) (w : World) (L : Value) (z : ByteArray) (c : Int) (a : Nat), c ≠ 0 → i ≤ 5000 → JRd w b s i n d z L c a → Calls Try.prog f #[.pointer (some ⟨b, 0, none⟩)] w fun e w' => e = .returned (.int .i64 0) ∧ w.grownBy w' none
/-- Where the reader is in the end. -/
def EndJ (s : ByteArray) (n1 : Nat) (R : LRes) (i' : Nat) (c' : Int) (a' : Nat) : Prop := match R with
  | .good f i n2 => n1 = n2 ∧ i' = i ∧ c' = 0 ∧ a' = 0
  | .bad c j => i' ≤ s.size + 10 ∧ c' = c ∧ a' = j
theorem EndJ.gives {s : ByteArray} {b d n : Nat} {z : ByteArray} {w w' : World} {L L' : Value} {m m' : List NdJ} {n' i' : Nat} {R : LRes} {c' : Int} {a' : Nat} (k : Int) (hs : s.size ≤ 4000) (hd : d ≤ 40) (h : EndJ s n' R i' c' a') (hf : FrJ w w' b L L') (hp : NodJ w' b L' m') (hn : n ≤ n') (hn2 : n' ≤ 31) (hm : m'.length + n ≤ m.length + n') (hr : JRd w' b s i' n' d z L' c' a') (hg : MngD R m m' k) : JGives s b d n z w L m R (.returned (.int .i64 k)) w' := by
  refine ⟨L', m', n', k, rfl, hf, hp, hn, hn2, hm, ?_, hg⟩
  cases R with
  | good f i n2 => obtain ⟨rfl, rfl, rfl, rfl⟩ := h; exact ⟨rfl, hr⟩
  | bad c j => obtain ⟨h1, rfl, rfl⟩ := h; exact ⟨i', by omega, hr⟩
theorem endA {s : ByteArray} {i n d : Nat} {sc : List Nat} {c1 c2 : Int} {a1 a2 i2 : Nat} (hi : i ≤ s.size) (hx : byT s i = 97 ∨ byT s i = 98) (h1 : CR n 0 0 i c1 a1) (h2 : PR s sc (i + 1) c1 a1 i2 c2 a2) : EndJ s (n + 1) (atomK s i n d sc) i2 c2 a2 := by
  unfold atomK
  rw [if_pos hx]
  obtain ⟨rfl, rfl⟩ := h1
  by_cases hn : 30 < n + 1
  · rw [if_pos hn]
    simp only [hn, true_and, if_true, PR, show ¬ (7 : Int) = 0 by omega, if_false] at h2
    exact ⟨by omega, h2.2⟩
  · rw [if_neg hn]
    simp only [hn, false_and, if_false, PR, if_true] at h2
    unfold placeK
    by_cases hp : isPl (byT s (i + 1)) = true
    · simp only [hp, if_true] at h2 ⊢
      cases ho : idxF sc (byT s (i + 1)) with
      | none => rw [ho] at h2; exact ⟨by omega, h2.2⟩
      | some k => rw [ho] at h2; exact ⟨rfl, h2⟩
    · simp only [hp] at h2 ⊢
      exact ⟨by have := h2.1; omega, h2.2⟩
theorem isSe_not {x : Nat} (h : isSe x = true) : ¬ (x = 97 ∨ x = 98) := by simp [isSe] at h; omega
theorem isPl_not {x : Nat} (h : isPl x = true) : ¬ (x = 97 ∨ x = 98) ∧ ¬ isSe x = true := by simp [isPl] at h; simp [isSe]; omega
theorem endS {s : ByteArray} {i n d : Nat} {sc : List Nat} {c1 c2 c3 : Int} {a1 a2 a3 i1 i3 : Nat} (hi : i ≤ s.size) (hx : isSe (byT s i) = true) (h1 : KR s sc i 0 0 i1 c1 a1) (h2 : CR n c1 a1 i c2 a2) (h3 : PR s sc i1 c2 a2 i3 c3 a3) : EndJ s (n + 1) (atomK s i n d sc) i3 c3 a3 := by
  unfold atomK
  rw [if_neg (isSe_not hx), if_pos hx]
  unfold KR at h1
  cases ho : idxF sc (byT s i) with
  | none =>
    rw [ho] at h1
    obtain ⟨rfl, rfl, rfl⟩ := h1
    obtain ⟨rfl, rfl⟩ := h2
    simp only [if_true, show ¬ (5 : Int) = 0 by omega, and_false, if_false, PR] at h3
    exact ⟨by omega, h3.2⟩
  | some y =>
    rw [ho] at h1
    obtain ⟨rfl, rfl, rfl⟩ := h1
    obtain ⟨rfl, rfl⟩ := h2
    simp only
    by_cases hn : 30 < n + 1
    · rw [if_pos hn]
      simp only [hn, true_and, if_true, PR, show ¬ (7 : Int) = 0 by omega, if_false] at h3
      exact ⟨by omega, h3.2⟩
    · rw [if_neg hn]
      simp only [hn, false_and, if_false, PR, if_true] at h3
      unfold placeK
      by_cases hp : isPl (byT s (i + 1)) = true
      · simp only [hp, if_true] at h3 ⊢
        cases ho : idxF sc (byT s (i + 1)) with
        | none => rw [ho] at h3; exact ⟨by omega, h3.2⟩
        | some k => rw [ho] at h3; exact ⟨rfl, h3⟩
      · simp only [hp] at h3 ⊢
        exact ⟨by have := h3.1; omega, h3.2⟩
/-- The relation's sign, or a fault. -/
def RR (x : Nat) (c : Int) (a i : Nat) (c' : Int) (a' : Nat) : Prop := if x = 60 ∨ x = 61 ∨ x = 126 then c' = c ∧ a' = a else SR c a 4 i c' a'
theorem endP {s : ByteArray} {i n d : Nat} {sc : List Nat} {c1 c2 c3 c4 : Int} {a1 a2 a3 a4 i1 i4 : Nat} (hi : i ≤ s.size) (hx : isPl (byT s i) = true) (h1 : KR s sc i 0 0 i1 c1 a1) (h2 : CR n c1 a1 i c2 a2) (h3 : RR (byT s i1) c2 a2 i1 c3 a3) (h4 : PR s sc (i1 + 1) c3 a3 i4 c4 a4) : EndJ s (n + 1) (atomK s i n d sc) i4 c4 a4 := by
  unfold atomK
  rw [if_neg (isPl_not hx).1, if_neg (isPl_not hx).2, if_pos hx]
  unfold KR at h1
  cases ho : idxF sc (byT s i) with
  | none =>
    rw [ho] at h1
    obtain ⟨rfl, rfl, rfl⟩ := h1
    obtain ⟨rfl, rfl⟩ := h2
    simp only [if_true, show ¬ (5 : Int) = 0 by omega, and_false, if_false, RR, SR, ite_self] at h3
    obtain ⟨rfl, rfl⟩ := h3
    simp only [PR, show ¬ (5 : Int) = 0 by omega, if_false] at h4
    exact ⟨by omega, h4.2⟩
  | some y =>
    rw [ho] at h1
    obtain ⟨rfl, rfl, rfl⟩ := h1
    obtain ⟨rfl, rfl⟩ := h2
    simp only
    by_cases hn : 30 < n + 1
    · rw [if_pos hn]
      simp only [hn, true_and, if_true, show ¬ (7 : Int) = 0 by omega, if_false, RR, SR, ite_self] at h3
      obtain ⟨rfl, rfl⟩ := h3
      simp only [PR, show ¬ (7 : Int) = 0 by omega, if_false] at h4
      exact ⟨by omega, h4.2⟩
    · rw [if_neg hn]
      simp only [hn, false_and, if_false, RR, SR, if_true] at h3
      by_cases hr : byT s (i + 1) = 60 ∨ byT s (i + 1) = 61 ∨ byT s (i + 1) = 126
      · simp only [hr, if_true] at h3
        rw [if_pos hr]
        obtain ⟨rfl, rfl⟩ := h3
        simp only [PR, if_true] at h4
        unfold placeK
        by_cases hp : isPl (byT s (i + 2)) = true
        · simp only [hp, if_true] at h4 ⊢
          cases ho : idxF sc (byT s (i + 2)) with
          | none => rw [ho] at h4; exact ⟨by omega, h4.2⟩
          | some k => rw [ho] at h4; exact ⟨rfl, h4⟩
        · simp only [hp] at h4 ⊢
          exact ⟨by have := h4.1; omega, h4.2⟩
      · simp only [hr, if_false] at h3
        rw [if_neg hr]
        obtain ⟨rfl, rfl⟩ := h3
        simp only [PR, show ¬ (4 : Int) = 0 by omega, if_false] at h4
        exact ⟨by omega, h4.2⟩
theorem CR.zero {n : Nat} {c c' : Int} {a a' t : Nat} (h : CR n c a t c' a') (h0 : c = 0 → a = 0) : c' = 0 → a' = 0 := by
  obtain ⟨rfl, rfl⟩ := h
  intro h1
  by_cases hx : 30 < n + 1 ∧ c = 0
  · rw [if_pos hx] at h1; omega
  · rw [if_neg hx] at h1 ⊢; exact h0 h1
theorem KR.zero {s : ByteArray} {sc : List Nat} {i i' a' : Nat} {c' : Int} (h : KR s sc i 0 0 i' c' a') : c' = 0 → a' = 0 := by
  unfold KR at h
  cases ho : idxF sc (byT s i) with
  | none => rw [ho] at h; obtain ⟨_, rfl, rfl⟩ := h; simp
  | some k => rw [ho] at h; intro _; exact h.2.2
theorem RR.zero {x i : Nat} {c c' : Int} {a a' : Nat} (h : RR x c a i c' a') (h0 : c = 0 → a = 0) : c' = 0 → a' = 0 := by
  unfold RR at h
  by_cases hx : x = 60 ∨ x = 61 ∨ x = 126
  · rw [if_pos hx] at h; obtain ⟨rfl, rfl⟩ := h; exact h0
  · rw [if_neg hx] at h
    obtain ⟨rfl, rfl⟩ := h
    intro h1
    by_cases hc : c = 0
    · simp [hc] at h1
    · rw [if_neg hc] at h1; exact absurd h1 hc

theorem meanA {s : ByteArray} {i n d : Nat} {sc : List Nat} {c1 : Int} {a1 : Nat} {k N : Int} (m : List NdJ) (hx : byT s i = 97 ∨ byT s i = 98) (h1 : CR n 0 0 i c1 a1) (hk : PV s sc (i + 1) c1 k) (hN : N = (byT s i : Int) - 97) {f : Lf} {j n2 : Nat} (h : atomK s i n d sc = .good f j n2) : MeansJ (m ++ [⟨0, N, k, 0, false⟩]) f m.length := by
  unfold atomK at h
  rw [if_pos hx] at h
  obtain ⟨rfl, rfl⟩ := h1
  by_cases hn : 30 < n + 1
  · rw [if_pos hn] at h; cases h
  · rw [if_neg hn] at h
    unfold placeK at h
    by_cases hp : isPl (byT s (i + 1)) = true
    · rw [if_pos hp] at h
      cases ho : idxF sc (byT s (i + 1)) with
      | none => rw [ho] at h; cases h
      | some x =>
        rw [ho] at h
        cases h
        have e1 := hk (by simp [hn]) hp x ho
        show (m ++ [_])[m.length]? = _
        rw [get_last, e1, hN]
        congr 2
        omega
    · rw [if_neg hp] at h; cases h
theorem meanS {s : ByteArray} {i n d i1 : Nat} {sc : List Nat} {c1 c2 : Int} {a1 a2 : Nat} {k1 k2 : Int} (m : List NdJ) (hx : isSe (byT s i) = true) (h1 : KR s sc i 0 0 i1 c1 a1) (hk1 : KV s sc i k1) (h2 : CR n c1 a1 i c2 a2) (hk2 : PV s sc i1 c2 k2) {f : Lf} {j n2 : Nat} (h : atomK s i n d sc = .good f j n2) : MeansJ (m ++ [⟨4, 0, k2, k1, false⟩]) f m.length := by
  unfold atomK at h
  rw [if_neg (isSe_not hx), if_pos hx] at h
  unfold KR at h1
  cases ho : idxF sc (byT s i) with
  | none => rw [ho] at h; cases h
  | some y =>
    rw [ho] at h h1
    obtain ⟨rfl, rfl, rfl⟩ := h1
    obtain ⟨rfl, rfl⟩ := h2
    simp only at h
    by_cases hn : 30 < n + 1
    · rw [if_pos hn] at h; cases h
    · rw [if_neg hn] at h
      unfold placeK at h
      by_cases hp : isPl (byT s (i + 1)) = true
      · rw [if_pos hp] at h
        cases ho2 : idxF sc (byT s (i + 1)) with
        | none => rw [ho2] at h; cases h
        | some x =>
          rw [ho2] at h
          cases h
          show (m ++ [_])[m.length]? = _
          rw [get_last, hk1 y ho, hk2 (by simp [hn]) hp x ho2]
      · rw [if_neg hp] at h; cases h
def relJ (x : Nat) : Int := if x = 60 then 1 else if x = 61 then 2 else 3
theorem meanP {s : ByteArray} {i n d i1 : Nat} {sc : List Nat} {c1 c2 c3 : Int} {a1 a2 a3 : Nat} {k1 k2 K : Int} (m : List NdJ) (hx : isPl (byT s i) = true) (h1 : KR s sc i 0 0 i1 c1 a1) (hk1 : KV s sc i k1) (h2 : CR n c1 a1 i c2 a2) (h3 : RR (byT s i1) c2 a2 i1 c3 a3) (hk2 : PV s sc (i1 + 1) c3 k2) (hK : K = relJ (byT s i1)) {f : Lf} {j n2 : Nat} (h : atomK s i n d sc = .good f j n2) : MeansJ (m ++ [⟨K, 0, k1, k2, false⟩]) f m.length := by
  unfold atomK at h
  rw [if_neg (isPl_not hx).1, if_neg (isPl_not hx).2, if_pos hx] at h
  unfold KR at h1
  cases ho : idxF sc (byT s i) with
  | none => rw [ho] at h; cases h
  | some y =>
    rw [ho] at h h1
    obtain ⟨rfl, rfl, rfl⟩ := h1
    obtain ⟨rfl, rfl⟩ := h2
    simp only at h
    by_cases hn : 30 < n + 1
    · rw [if_pos hn] at h; cases h
    · rw [if_neg hn] at h
      by_cases hr : byT s (i + 1) = 60 ∨ byT s (i + 1) = 61 ∨ byT s (i + 1) = 126
      · rw [if_pos hr] at h
        unfold RR at h3
        rw [if_pos hr] at h3
        obtain ⟨rfl, rfl⟩ := h3
        unfold placeK at h
        by_cases hp : isPl (byT s (i + 2)) = true
        · rw [if_pos hp] at h
          cases ho2 : idxF sc (byT s (i + 2)) with
          | none => rw [ho2] at h; cases h
          | some x =>
            rw [ho2] at h
            cases h
            have e1 := hk1 y ho
            have e2 := hk2 (by simp [hn]) hp x ho2
            subst e1 e2 hK
            unfold relF relJ
            by_cases r1 : byT s (i + 1) = 60
            · rw [if_pos r1, if_pos r1]; exact get_last _ _
            · rw [if_neg r1, if_neg r1]
              by_cases r2 : byT s (i + 1) = 61
              · rw [if_pos r2, if_pos r2]; exact get_last _ _
              · rw [if_neg r2, if_neg r2]; exact get_last _ _
        · rw [if_neg hp] at h; cases h
      · rw [if_neg hr] at h; cases h
theorem meanP0 {s : ByteArray} {i n d i1 : Nat} {sc : List Nat} {c1 : Int} {a1 : Nat} (hx : isPl (byT s i) = true) (h1 : KR s sc i 0 0 i1 c1 a1) (hr : ¬ (byT s i1 = 60 ∨ byT s i1 = 61 ∨ byT s i1 = 126)) {f : Lf} {j n2 : Nat} : atomK s i n d sc ≠ .good f j n2 := by
  intro h
  unfold atomK at h
  rw [if_neg (isPl_not hx).1, if_neg (isPl_not hx).2, if_pos hx] at h
  unfold KR at h1
  cases ho : idxF sc (byT s i) with
  | none => rw [ho] at h; cases h
  | some y =>
    rw [ho] at h h1
    obtain ⟨rfl, rfl, rfl⟩ := h1
    simp only at h
    by_cases hn : 30 < n + 1
    · rw [if_pos hn] at h; cases h
    · rw [if_neg hn, if_neg hr] at h; cases h

/- The walk. -/
set_option maxHeartbeats 1600000 in
theorem atomJ_letter (s z : ByteArray) (sc : List Nat) (b i n d : Nat) (m : List NdJ) (L : Value) (w : World) (hs : s.size ≤ 4000) (hi : i ≤ s.size) (hn : n ≤ 30) (hd : d ≤ 40) (hl : sc.length ≤ 3) (hz : ScB z sc) (hm : m.length ≤ n) (hx : byT s i = 97 ∨ byT s i = 98) (h : JRd w b s i n d z L 0 0) (hp : NodJ w b L m) :
    Calls Try.prog 30 #[.pointer (some ⟨b, 0, none⟩), .int .u8 (byT s i)] w (JGives s b d n z w L m (atomK s i n d sc)) := by
  have H : Hid (JRd w b s i n d z L 0 0) := h
  have HP : Hid (NodJ w b L m) := hp
  have HC : Hid (∀ W i' c a, JRd W b s i' n d z L c a → Calls Try.prog 20 #[.pointer (some ⟨b, 0, none⟩), .int .i64 (i : Int)] W fun e w' => e = .returned (.tuple #[]) ∧ W.grownBy w' (some b) ∧ ∃ (c' : Int) (a' : Nat), JRd w' b s i' (n + 1) d z L c' a' ∧ CR n c a i c' a') := fun W i' c a h => countJ_st s z b i' n d L c a i W (by omega) h
  have HK : Hid (∀ W, JRd W b s i n d z L 0 0 → Calls Try.prog 36 #[.pointer (some ⟨b, 0, none⟩)] W fun e w' => ∃ (k : Int) (i' : Nat) (c' : Int) (a' : Nat), e = .returned (.int .i64 k) ∧ W.grownBy w' (some b) ∧ JRd w' b s i' n d z L c' a' ∧ KR s sc i 0 0 i' c' a' ∧ KV s sc i k) := fun W h => knownJ_st s z sc b i n d L 0 0 W hs (by omega) (by omega) hz h
  have HL : Hid (∀ W i' c a, i' ≤ s.size + 2 → (c = 0 → a = 0) → JRd W b s i' (n + 1) d z L c a → Calls Try.prog 35 #[.pointer (some ⟨b, 0, none⟩)] W fun e w' => ∃ (k : Int) (i2 : Nat) (c' : Int) (a' : Nat), e = .returned (.int .i64 k) ∧ W.grownBy w' (some b) ∧ JRd w' b s i2 (n + 1) d z L c' a' ∧ PR s sc i' c a i2 c' a' ∧ PV s sc i' c k) := fun W i' c a h1 h2 h => placeJ_st s z sc b i' (n + 1) d L c a W hs (by omega) (by omega) hz h2 h
  obtain ⟨P, hP⟩ : ∃ P, P = JGives s b d n z w L m (atomK s i n d sc) := ⟨_, rfl⟩
  rw [← hP]
  have EP : Hid (∀ w' L' i' c' a' nd, EndJ s (n + 1) (atomK s i n d sc) i' c' a' → FrJ w w' b L L' → NodJ w' b L' (m ++ [nd]) → JRd w' b s i' (n + 1) d z L' c' a' → (∀ f j n2, atomK s i n d sc = .good f j n2 → MeansJ (m ++ [nd]) f m.length) → P (.returned (.int .i64 (m.length : Int))) w') := fun w' L' i' c' a' nd h1 h2 h3 h4 h5 => by rw [hP]; exact h1.gives (m.length : Int) hs hd h2 h3 (by omega) (by omega) (by rw [List.length_append, List.length_singleton]; omega) h4 (MngD.put h5)
  have f1 := h.f 1
  have c1 := h.c1
  have HX : Hid (byT s i = 97 ∨ byT s i = 98) := hx
  have EX : Hid (∀ c1 a1 c2 a2 i2, CR n 0 0 i c1 a1 → PR s sc (i + 1) c1 a1 i2 c2 a2 → EndJ s (n + 1) (atomK s i n d sc) i2 c2 a2) := fun c1 a1 c2 a2 i2 h1 h2 => endA hi HX.out h1 h2
  have MX : Hid (∀ c1 a1 k N, CR n 0 0 i c1 a1 → PV s sc (i + 1) c1 k → N = (byT s i : Int) - 97 → ∀ f j n2, atomK s i n d sc = .good f j n2 → MeansJ (m ++ [⟨0, N, k, 0, false⟩]) f m.length) := fun c1 a1 k N h1 h2 h3 f j n2 h => meanA m HX.out h1 h2 h3 h
  clear h hp hP
  generalize atomK s i n d sc = R at *
  generalize byT s i = x at *
  rcases hx with rfl | rfl
  all_goals
    go_enter Try.func30, Try.ntmps30
    go_wp2_with fail
    refine (HC.out _ _ _ _ H.out).mono ?_
    rintro e w2 ⟨rfl, hg2, q1, q2, hr2, hq2⟩
    have G2 : Hid (w.grownBy w2 (some b)) := hg2
    have R2 : Hid (JRd w2 b s i (n + 1) d z L q1 q2) := hr2
    have Q2 : Hid (CR n 0 0 i q1 q2) := hq2
    have d1 := R2.out.c1
    have e1 := R2.out.f 1
    have R3 : Hid (JRd (w2.setCell ⟨b, 1, none⟩ (.int .i64 ((i : Int) + 1))) b s (i + 1) (n + 1) d z L q1 q2) := R2.out.set1 (i + 1) (by omega)
    clear hg2 hr2 hq2
    go_wp2_with fail
    refine (HL.out _ _ _ _ (by omega) (Q2.out.zero fun _ => rfl) R3.out).mono ?_
    rintro e w4 ⟨k, i4, q3, q4, rfl, hg4, hr4, hq4, hv4⟩
    have G4 : Hid (w.grownBy w4 (some b)) := grown_trans (grown_trans G2.out (grown_set _ _ _)) hg4
    have R4 : Hid (JRd w4 b s i4 (n + 1) d z L q3 q4) := hr4
    have Q4 : Hid (PR s sc (i + 1) q1 q2 i4 q3 q4) := hq4
    have V4 : Hid (PV s sc (i + 1) q1 k) := hv4
    clear hg4 hr4 hq4 hv4
    go_wp2_with fail
    refine (putJ_any s z b _ (n + 1) d L _ _ _ m _ _ _ _ _ (by omega) R4.out (nodJ_set HP.out G4.out)).mono ?_
    rintro e w9 ⟨rfl, L9, hr9, hp9, hf9⟩
    have E : Hid (P (.returned (.int .i64 (m.length : Int))) w9) := EP.out _ _ _ _ _ _ (EX.out _ _ _ _ _ Q2.out Q4.out) ((FrJ.grown G4.out).trans hf9) hp9 hr9 (MX.out _ _ _ _ Q2.out V4.out (by omega))
    clear hr9 hp9 hf9
    go_wp2_with fail
    exact E.out

set_option maxHeartbeats 1600000 in
theorem atomJ_set (s z : ByteArray) (sc : List Nat) (b i n d : Nat) (m : List NdJ) (L : Value) (w : World) (hs : s.size ≤ 4000) (hi : i ≤ s.size) (hn : n ≤ 30) (hd : d ≤ 40) (hl : sc.length ≤ 3) (hz : ScB z sc) (hm : m.length ≤ n) (hx : isSe (byT s i) = true) (h : JRd w b s i n d z L 0 0) (hp : NodJ w b L m) :
    Calls Try.prog 30 #[.pointer (some ⟨b, 0, none⟩), .int .u8 (byT s i)] w (JGives s b d n z w L m (atomK s i n d sc)) := by
  have H : Hid (JRd w b s i n d z L 0 0) := h
  have HP : Hid (NodJ w b L m) := hp
  have HC : Hid (∀ W i' c a, JRd W b s i' n d z L c a → Calls Try.prog 20 #[.pointer (some ⟨b, 0, none⟩), .int .i64 (i : Int)] W fun e w' => e = .returned (.tuple #[]) ∧ W.grownBy w' (some b) ∧ ∃ (c' : Int) (a' : Nat), JRd w' b s i' (n + 1) d z L c' a' ∧ CR n c a i c' a') := fun W i' c a h => countJ_st s z b i' n d L c a i W (by omega) h
  have HK : Hid (∀ W, JRd W b s i n d z L 0 0 → Calls Try.prog 36 #[.pointer (some ⟨b, 0, none⟩)] W fun e w' => ∃ (k : Int) (i' : Nat) (c' : Int) (a' : Nat), e = .returned (.int .i64 k) ∧ W.grownBy w' (some b) ∧ JRd w' b s i' n d z L c' a' ∧ KR s sc i 0 0 i' c' a' ∧ KV s sc i k) := fun W h => knownJ_st s z sc b i n d L 0 0 W hs (by omega) (by omega) hz h
  have HL : Hid (∀ W i' c a, i' ≤ s.size + 2 → (c = 0 → a = 0) → JRd W b s i' (n + 1) d z L c a → Calls Try.prog 35 #[.pointer (some ⟨b, 0, none⟩)] W fun e w' => ∃ (k : Int) (i2 : Nat) (c' : Int) (a' : Nat), e = .returned (.int .i64 k) ∧ W.grownBy w' (some b) ∧ JRd w' b s i2 (n + 1) d z L c' a' ∧ PR s sc i' c a i2 c' a' ∧ PV s sc i' c k) := fun W i' c a h1 h2 h => placeJ_st s z sc b i' (n + 1) d L c a W hs (by omega) (by omega) hz h2 h
  obtain ⟨P, hP⟩ : ∃ P, P = JGives s b d n z w L m (atomK s i n d sc) := ⟨_, rfl⟩
  rw [← hP]
  have EP : Hid (∀ w' L' i' c' a' nd, EndJ s (n + 1) (atomK s i n d sc) i' c' a' → FrJ w w' b L L' → NodJ w' b L' (m ++ [nd]) → JRd w' b s i' (n + 1) d z L' c' a' → (∀ f j n2, atomK s i n d sc = .good f j n2 → MeansJ (m ++ [nd]) f m.length) → P (.returned (.int .i64 (m.length : Int))) w') := fun w' L' i' c' a' nd h1 h2 h3 h4 h5 => by rw [hP]; exact h1.gives (m.length : Int) hs hd h2 h3 (by omega) (by omega) (by rw [List.length_append, List.length_singleton]; omega) h4 (MngD.put h5)
  have f1 := h.f 1
  have c1 := h.c1
  have HX : Hid (isSe (byT s i) = true) := hx
  have EX : Hid (∀ c1 a1 i1 c2 a2 c3 a3 i3, KR s sc i 0 0 i1 c1 a1 → CR n c1 a1 i c2 a2 → PR s sc i1 c2 a2 i3 c3 a3 → EndJ s (n + 1) (atomK s i n d sc) i3 c3 a3) := fun c1 a1 i1 c2 a2 c3 a3 i3 h1 h2 h3 => endS hi HX.out h1 h2 h3
  have MX : Hid (∀ c1 a1 i1 c2 a2 k1 k2, KR s sc i 0 0 i1 c1 a1 → KV s sc i k1 → CR n c1 a1 i c2 a2 → PV s sc i1 c2 k2 → ∀ f j n2, atomK s i n d sc = .good f j n2 → MeansJ (m ++ [⟨4, 0, k2, k1, false⟩]) f m.length) := fun c1 a1 i1 c2 a2 k1 k2 h1 h2 h3 h4 f j n2 h => meanS m HX.out h1 h2 h3 h4 h
  clear h hp hP
  generalize atomK s i n d sc = R at *
  generalize byT s i = x at *
  have hx2 := hx
  simp only [isSe, Bool.and_eq_true, decide_eq_true_eq] at hx2
  have k1 : ((x : Int) == 97) = false := by simp; omega
  have k2 : ((x : Int) == 98) = false := by simp; omega
  have k3 : (88 : Int) ≤ x := by omega
  have k4 : (x : Int) ≤ 90 := by omega
  clear hx hx2
  go_enter Try.func30, Try.ntmps30
  go_wp2_with fail
  refine (HK.out _ H.out).mono ?_
  rintro e w2 ⟨k, i2, q1, q2, rfl, hg2, hr2, hq2, hv2⟩
  have V2 : Hid (KV s sc i k) := hv2
  clear hv2
  have G2 : Hid (w.grownBy w2 (some b)) := hg2
  have R2 : Hid (JRd w2 b s i2 n d z L q1 q2) := hr2
  have Q2 : Hid (KR s sc i 0 0 i2 q1 q2) := hq2
  clear hg2 hr2 hq2
  go_wp2_with fail
  refine (HC.out _ _ _ _ R2.out).mono ?_
  rintro e w3 ⟨rfl, hg3, q3, q4, hr3, hq3⟩
  have G3 : Hid (w.grownBy w3 (some b)) := grown_trans G2.out hg3
  have R3 : Hid (JRd w3 b s i2 (n + 1) d z L q3 q4) := hr3
  have Q3 : Hid (CR n q1 q2 i q3 q4) := hq3
  clear hg3 hr3 hq3
  go_wp2_with fail
  refine (HL.out _ _ _ _ (by have := Q2.out.le; omega) (Q3.out.zero Q2.out.zero) R3.out).mono ?_
  rintro e w4 ⟨k4, i4, q5, q6, rfl, hg4, hr4, hq4, hv4⟩
  have V4 : Hid (PV s sc i2 q3 k4) := hv4
  clear hv4
  have G4 : Hid (w.grownBy w4 (some b)) := grown_trans G3.out hg4
  have R4 : Hid (JRd w4 b s i4 (n + 1) d z L q5 q6) := hr4
  have Q4 : Hid (PR s sc i2 q3 q4 i4 q5 q6) := hq4
  clear hg4 hr4 hq4
  go_wp2_with fail
  refine (putJ_any s z b _ (n + 1) d L _ _ _ m _ _ _ _ _ (by omega) R4.out (nodJ_set HP.out G4.out)).mono ?_
  rintro e w9 ⟨rfl, L9, hr9, hp9, hf9⟩
  have E : Hid (P (.returned (.int .i64 (m.length : Int))) w9) := EP.out _ _ _ _ _ _ (EX.out _ _ _ _ _ _ _ _ Q2.out Q3.out Q4.out) ((FrJ.grown G4.out).trans hf9) hp9 hr9 (MX.out _ _ _ _ _ _ _ Q2.out V2.out Q3.out V4.out)
  clear hr9 hp9 hf9
  go_wp2_with fail
  exact E.out

set_option maxHeartbeats 1600000 in
theorem atomJ_place (s z : ByteArray) (sc : List Nat) (b i n d : Nat) (m : List NdJ) (L : Value) (w : World) (hs : s.size ≤ 4000) (hi : i ≤ s.size) (hn : n ≤ 30) (hd : d ≤ 40) (hl : sc.length ≤ 3) (hz : ScB z sc) (hm : m.length ≤ n) (hx : isPl (byT s i) = true) (h : JRd w b s i n d z L 0 0) (hp : NodJ w b L m) :
    Calls Try.prog 30 #[.pointer (some ⟨b, 0, none⟩), .int .u8 (byT s i)] w (JGives s b d n z w L m (atomK s i n d sc)) := by
  have H : Hid (JRd w b s i n d z L 0 0) := h
  have HP : Hid (NodJ w b L m) := hp
  have HC : Hid (∀ W i' c a, JRd W b s i' n d z L c a → Calls Try.prog 20 #[.pointer (some ⟨b, 0, none⟩), .int .i64 (i : Int)] W fun e w' => e = .returned (.tuple #[]) ∧ W.grownBy w' (some b) ∧ ∃ (c' : Int) (a' : Nat), JRd w' b s i' (n + 1) d z L c' a' ∧ CR n c a i c' a') := fun W i' c a h => countJ_st s z b i' n d L c a i W (by omega) h
  have HK : Hid (∀ W, JRd W b s i n d z L 0 0 → Calls Try.prog 36 #[.pointer (some ⟨b, 0, none⟩)] W fun e w' => ∃ (k : Int) (i' : Nat) (c' : Int) (a' : Nat), e = .returned (.int .i64 k) ∧ W.grownBy w' (some b) ∧ JRd w' b s i' n d z L c' a' ∧ KR s sc i 0 0 i' c' a' ∧ KV s sc i k) := fun W h => knownJ_st s z sc b i n d L 0 0 W hs (by omega) (by omega) hz h
  have HL : Hid (∀ W i' c a, i' ≤ s.size + 2 → (c = 0 → a = 0) → JRd W b s i' (n + 1) d z L c a → Calls Try.prog 35 #[.pointer (some ⟨b, 0, none⟩)] W fun e w' => ∃ (k : Int) (i2 : Nat) (c' : Int) (a' : Nat), e = .returned (.int .i64 k) ∧ W.grownBy w' (some b) ∧ JRd w' b s i2 (n + 1) d z L c' a' ∧ PR s sc i' c a i2 c' a' ∧ PV s sc i' c k) := fun W i' c a h1 h2 h => placeJ_st s z sc b i' (n + 1) d L c a W hs (by omega) (by omega) hz h2 h
  obtain ⟨P, hP⟩ : ∃ P, P = JGives s b d n z w L m (atomK s i n d sc) := ⟨_, rfl⟩
  rw [← hP]
  have EP : Hid (∀ w' L' i' c' a' nd, EndJ s (n + 1) (atomK s i n d sc) i' c' a' → FrJ w w' b L L' → NodJ w' b L' (m ++ [nd]) → JRd w' b s i' (n + 1) d z L' c' a' → (∀ f j n2, atomK s i n d sc = .good f j n2 → MeansJ (m ++ [nd]) f m.length) → P (.returned (.int .i64 (m.length : Int))) w') := fun w' L' i' c' a' nd h1 h2 h3 h4 h5 => by rw [hP]; exact h1.gives (m.length : Int) hs hd h2 h3 (by omega) (by omega) (by rw [List.length_append, List.length_singleton]; omega) h4 (MngD.put h5)
  have f1 := h.f 1
  have c1 := h.c1
  have HX : Hid (isPl (byT s i) = true) := hx
  have EX : Hid (∀ c1 a1 i1 c2 a2 c3 a3 c4 a4 i4, KR s sc i 0 0 i1 c1 a1 → CR n c1 a1 i c2 a2 → RR (byT s i1) c2 a2 i1 c3 a3 → PR s sc (i1 + 1) c3 a3 i4 c4 a4 → EndJ s (n + 1) (atomK s i n d sc) i4 c4 a4) := fun c1 a1 i1 c2 a2 c3 a3 c4 a4 i4 h1 h2 h3 h4 => endP hi HX.out h1 h2 h3 h4
  have MX : Hid (∀ c1 a1 i1 c2 a2 c3 a3 k1 k2 K, KR s sc i 0 0 i1 c1 a1 → KV s sc i k1 → CR n c1 a1 i c2 a2 → RR (byT s i1) c2 a2 i1 c3 a3 → PV s sc (i1 + 1) c3 k2 → K = relJ (byT s i1) → ∀ f j n2, atomK s i n d sc = .good f j n2 → MeansJ (m ++ [⟨K, 0, k1, k2, false⟩]) f m.length) := fun c1 a1 i1 c2 a2 c3 a3 k1 k2 K h1 h2 h3 h4 h5 h6 f j n2 h => meanP m HX.out h1 h2 h3 h4 h5 h6 h
  have MX0 : Hid (∀ c1 a1 i1, KR s sc i 0 0 i1 c1 a1 → ¬ (byT s i1 = 60 ∨ byT s i1 = 61 ∨ byT s i1 = 126) → ∀ f j n2, atomK s i n d sc ≠ .good f j n2) := fun c1 a1 i1 h1 h2 f j n2 => meanP0 HX.out h1 h2
  have HN : Hid (∀ W i' c a, i' ≤ s.size + 2 → JRd W b s i' (n + 1) d z L c a → Calls Try.prog 18 #[.pointer (some ⟨b, 0, none⟩)] W fun e w' => e = .returned (.int .u8 (byT s i')) ∧ W.grownBy w' none) := fun W i' c a h1 h2 => nowJ_any s z b i' (n + 1) d L c a W hs (by omega) h2
  have HF : Hid (∀ W i' c a, JRd W b s i' (n + 1) d z L c a → Calls Try.prog 12 #[.pointer (some ⟨b, 0, none⟩), .int .i64 4, .int .i64 (i' : Int)] W fun e w' => e = .returned (.tuple #[]) ∧ W.grownBy w' (some b) ∧ ∃ (c' : Int) (a' : Nat), JRd w' b s i' (n + 1) d z L c' a' ∧ SR c a 4 i' c' a') := fun W i' c a h => failJ_st s z b i' (n + 1) d L c a 4 i' W h
  clear h hp hP
  generalize atomK s i n d sc = R at *
  have hx2 := hx
  simp only [isPl, Bool.and_eq_true, decide_eq_true_eq] at hx2
  clear hx
  obtain ⟨x, hxe⟩ : ∃ x, byT s i = x := ⟨_, rfl⟩
  rw [hxe] at hx2 ⊢
  clear hxe HX
  have k1 : ((x : Int) == 97) = false := by simp; omega
  have k2 : ((x : Int) == 98) = false := by simp; omega
  have k3 : ¬ (x : Int) ≤ 90 := by omega
  have k3' : (88 : Int) ≤ x := by omega
  have k4 : ¬ (x : Int) < 120 := by omega
  have k5 : ¬ (122 : Int) < x := by omega
  clear hx2
  go_enter Try.func30, Try.ntmps30
  go_wp2_with fail
  refine (HK.out _ H.out).mono ?_
  rintro e w2 ⟨k, i2, q1, q2, rfl, hg2, hr2, hq2, hv2⟩
  have V2 : Hid (KV s sc i k) := hv2
  clear hv2
  have G2 : Hid (w.grownBy w2 (some b)) := hg2
  have R2 : Hid (JRd w2 b s i2 n d z L q1 q2) := hr2
  have Q2 : Hid (KR s sc i 0 0 i2 q1 q2) := hq2
  have hi2 : i2 ≤ i + 1 := hq2.le.2
  clear hg2 hr2 hq2
  go_wp2_with fail
  refine (HC.out _ _ _ _ R2.out).mono ?_
  rintro e w3 ⟨rfl, hg3, q3, q4, hr3, hq3⟩
  have G3 : Hid (w.grownBy w3 (some b)) := grown_trans G2.out hg3
  have R3 : Hid (JRd w3 b s i2 (n + 1) d z L q3 q4) := hr3
  have Q3 : Hid (CR n q1 q2 i q3 q4) := hq3
  clear hg3 hr3 hq3
  go_wp2_with fail
  refine (HN.out _ _ _ _ (by omega) R3.out).mono ?_
  rintro e w4 ⟨rfl, hg4⟩
  have G4 : Hid (w.grownBy w4 (some b)) := grown_trans G3.out (grown_some hg4)
  have R4 : Hid (JRd w4 b s i2 (n + 1) d z L q3 q4) := R3.out.kept hg4
  have d1 := R4.out.c1
  have e1 := R4.out.f 1
  clear hg4
  have ER : Hid (∀ c' a', RR (byT s i2) q3 q4 i2 c' a' → ∀ c4 a4 i4, PR s sc (i2 + 1) c' a' i4 c4 a4 → EndJ s (n + 1) R i4 c4 a4) := fun c' a' h1 c4 a4 i4 h2 => EX.out _ _ _ _ _ _ _ _ _ _ Q2.out Q3.out h1 h2
  have HZ : Hid (q3 = 0 → q4 = 0) := Q3.out.zero Q2.out.zero
  have MR : Hid (∀ c' a' k2 K, RR (byT s i2) q3 q4 i2 c' a' → PV s sc (i2 + 1) c' k2 → K = relJ (byT s i2) → ∀ f j n2, R = .good f j n2 → MeansJ (m ++ [⟨K, 0, k, k2, false⟩]) f m.length) := fun c' a' k2 K h1 h2 h3 => MX.out _ _ _ _ _ _ _ _ _ _ Q2.out V2.out Q3.out h1 h2 h3
  have MR0 : Hid (¬ (byT s i2 = 60 ∨ byT s i2 = 61 ∨ byT s i2 = 126) → ∀ f j n2, R ≠ .good f j n2) := fun h => MX0.out _ _ _ Q2.out h
  generalize byT s i2 = y at *
  by_cases hy : y = 60 ∨ y = 61 ∨ y = 126
  · have HR : Hid (RR y q3 q4 i2 q3 q4) := by show RR _ _ _ _ _ _; unfold RR; rw [if_pos hy]; exact ⟨rfl, rfl⟩
    have R5 : Hid (JRd (w4.setCell ⟨b, 1, none⟩ (.int .i64 ((i2 : Int) + 1))) b s (i2 + 1) (n + 1) d z L q3 q4) := R4.out.set1 (i2 + 1) (by omega)
    rcases hy with rfl | rfl | rfl
    all_goals
      go_wp2_with fail
      refine (HL.out _ _ _ _ (by omega) HZ.out R5.out).mono ?_
      rintro e w6 ⟨k6, i6, q5, q6, rfl, hg6, hr6, hq6, hv6⟩
      have V6 : Hid (PV s sc (i2 + 1) q3 k6) := hv6
      clear hv6
      have G6 : Hid (w.grownBy w6 (some b)) := grown_trans (grown_trans G4.out (grown_set _ _ _)) hg6
      have R6 : Hid (JRd w6 b s i6 (n + 1) d z L q5 q6) := hr6
      have Q6 : Hid (PR s sc (i2 + 1) q3 q4 i6 q5 q6) := hq6
      clear hg6 hr6 hq6
      go_wp2_with fail
      refine (putJ_any s z b _ (n + 1) d L _ _ _ m _ _ _ _ _ (by omega) R6.out (nodJ_set HP.out G6.out)).mono ?_
      rintro e w9 ⟨rfl, L9, hr9, hp9, hf9⟩
      have E : Hid (P (.returned (.int .i64 (m.length : Int))) w9) := EP.out _ _ _ _ _ _ (ER.out _ _ HR.out _ _ _ Q6.out) ((FrJ.grown G6.out).trans hf9) hp9 hr9 (MR.out _ _ _ _ HR.out V6.out (by decide))
      clear hr9 hp9 hf9
      go_wp2_with fail
      exact E.out
  · have y1 : ((y : Int) == 60) = false := by simp; omega
    have y2 : ((y : Int) == 61) = false := by simp; omega
    have y3 : ((y : Int) == 126) = false := by simp; omega
    have MN : Hid (∀ f j n2, R ≠ .good f j n2) := MR0.out hy
    have HY : Hid (∀ c' a', SR q3 q4 4 i2 c' a' → RR y q3 q4 i2 c' a') := fun c' a' h1 => by unfold RR; rw [if_neg hy]; exact h1
    clear hy
    go_wp2_with fail
    refine (HF.out _ _ _ _ R4.out).mono ?_
    rintro e w5 ⟨rfl, hg5, q5, q6, hr5, hq5⟩
    have G5 : Hid (w.grownBy w5 (some b)) := grown_trans G4.out hg5
    have R5 : Hid (JRd w5 b s i2 (n + 1) d z L q5 q6) := hr5
    have Q5 : Hid (RR y q3 q4 i2 q5 q6) := HY.out _ _ hq5
    clear hg5 hr5 hq5 d1 e1
    have d1 := R5.out.c1
    have e1 := R5.out.f 1
    have R5' : Hid (JRd (w5.setCell ⟨b, 1, none⟩ (.int .i64 ((i2 : Int) + 1))) b s (i2 + 1) (n + 1) d z L q5 q6) := R5.out.set1 (i2 + 1) (by omega)
    go_wp2_with fail
    refine (HL.out _ _ _ _ (by omega) (Q5.out.zero HZ.out) R5'.out).mono ?_
    rintro e w6 ⟨k6, i6, q7, q8, rfl, hg6, hr6, hq6, hv6⟩
    clear hv6
    have G6 : Hid (w.grownBy w6 (some b)) := grown_trans (grown_trans G5.out (grown_set _ _ _)) hg6
    have R6 : Hid (JRd w6 b s i6 (n + 1) d z L q7 q8) := hr6
    have Q6 : Hid (PR s sc (i2 + 1) q5 q6 i6 q7 q8) := hq6
    clear hg6 hr6 hq6
    go_wp2_with fail
    refine (putJ_any s z b _ (n + 1) d L _ _ _ m _ _ _ _ _ (by omega) R6.out (nodJ_set HP.out G6.out)).mono ?_
    rintro e w9 ⟨rfl, L9, hr9, hp9, hf9⟩
    have E : Hid (P (.returned (.int .i64 (m.length : Int))) w9) := EP.out _ _ _ _ _ _ (ER.out _ _ Q5.out _ _ _ Q6.out) ((FrJ.grown G6.out).trans hf9) hp9 hr9 (fun f j n2 h => absurd h (MN.out f j n2))
    clear hr9 hp9 hf9
    go_wp2_with fail
    exact E.out

set_option maxHeartbeats 1600000 in
theorem atomJ_none (s z : ByteArray) (sc : List Nat) (b i n d : Nat) (m : List NdJ) (L : Value) (w : World) (hs : s.size ≤ 4000) (hi : i ≤ s.size) (hn : n ≤ 30) (hd : d ≤ 40) (hl : sc.length ≤ 3) (hz : ScB z sc) (hm : m.length ≤ n) (hx : ¬ (byT s i = 97 ∨ byT s i = 98) ∧ isSe (byT s i) = false ∧ isPl (byT s i) = false) (h : JRd w b s i n d z L 0 0) (hp : NodJ w b L m) :
    Calls Try.prog 30 #[.pointer (some ⟨b, 0, none⟩), .int .u8 (byT s i)] w (JGives s b d n z w L m (atomK s i n d sc)) := by
  have H : Hid (JRd w b s i n d z L 0 0) := h
  have HP : Hid (NodJ w b L m) := hp
  have HC : Hid (∀ W i' c a, JRd W b s i' n d z L c a → Calls Try.prog 20 #[.pointer (some ⟨b, 0, none⟩), .int .i64 (i : Int)] W fun e w' => e = .returned (.tuple #[]) ∧ W.grownBy w' (some b) ∧ ∃ (c' : Int) (a' : Nat), JRd w' b s i' (n + 1) d z L c' a' ∧ CR n c a i c' a') := fun W i' c a h => countJ_st s z b i' n d L c a i W (by omega) h
  have HK : Hid (∀ W, JRd W b s i n d z L 0 0 → Calls Try.prog 36 #[.pointer (some ⟨b, 0, none⟩)] W fun e w' => ∃ (k : Int) (i' : Nat) (c' : Int) (a' : Nat), e = .returned (.int .i64 k) ∧ W.grownBy w' (some b) ∧ JRd w' b s i' n d z L c' a' ∧ KR s sc i 0 0 i' c' a' ∧ KV s sc i k) := fun W h => knownJ_st s z sc b i n d L 0 0 W hs (by omega) (by omega) hz h
  have HL : Hid (∀ W i' c a, i' ≤ s.size + 2 → (c = 0 → a = 0) → JRd W b s i' (n + 1) d z L c a → Calls Try.prog 35 #[.pointer (some ⟨b, 0, none⟩)] W fun e w' => ∃ (k : Int) (i2 : Nat) (c' : Int) (a' : Nat), e = .returned (.int .i64 k) ∧ W.grownBy w' (some b) ∧ JRd w' b s i2 (n + 1) d z L c' a' ∧ PR s sc i' c a i2 c' a' ∧ PV s sc i' c k) := fun W i' c a h1 h2 h => placeJ_st s z sc b i' (n + 1) d L c a W hs (by omega) (by omega) hz h2 h
  obtain ⟨P, hP⟩ : ∃ P, P = JGives s b d n z w L m (atomK s i n d sc) := ⟨_, rfl⟩
  rw [← hP]
  have EP : Hid (∀ w' L' i' c' a' nd, EndJ s (n + 1) (atomK s i n d sc) i' c' a' → FrJ w w' b L L' → NodJ w' b L' (m ++ [nd]) → JRd w' b s i' (n + 1) d z L' c' a' → (∀ f j n2, atomK s i n d sc = .good f j n2 → MeansJ (m ++ [nd]) f m.length) → P (.returned (.int .i64 (m.length : Int))) w') := fun w' L' i' c' a' nd h1 h2 h3 h4 h5 => by rw [hP]; exact h1.gives (m.length : Int) hs hd h2 h3 (by omega) (by omega) (by rw [List.length_append, List.length_singleton]; omega) h4 (MngD.put h5)
  have f1 := h.f 1
  have c1 := h.c1
  have ER : Hid (∀ w', w.grownBy w' (some b) → JRd w' b s i n d z L 4 i → P (.returned (.int .i64 0)) w') := fun w' h1 h2 => by
    have hA : atomK s i n d sc = .bad 4 i := by unfold atomK; rw [if_neg hx.1, hx.2.1, hx.2.2]; simp
    rw [hP, hA]
    exact ⟨L, m, n, 0, rfl, FrJ.grown h1, nodJ_set HP.out h1, Nat.le_refl _, by omega, by omega, ⟨i, by omega, h2⟩, by have := MngD.bad 4 i m [] 0; rwa [List.append_nil] at this⟩
  have HF : Hid (∀ W, JRd W b s i n d z L 0 0 → Calls Try.prog 12 #[.pointer (some ⟨b, 0, none⟩), .int .i64 4, .int .i64 (i : Int)] W fun e w' => e = .returned (.tuple #[]) ∧ W.grownBy w' (some b) ∧ JRd w' b s i n d z L 4 i) := fun W h => failJ_any s z b i n d L 0 0 4 i W h
  clear h hp hP EP HC HK HL
  obtain ⟨hx1, hx2, hx3⟩ := hx
  have hx4 : byT s i < 88 ∨ 90 < byT s i := by
    by_cases h1 : byT s i < 88
    · exact .inl h1
    · by_cases h2 : 90 < byT s i
      · exact .inr h2
      · exact absurd hx2 (by simp [isSe]; omega)
  have hx5 : byT s i < 120 ∨ 122 < byT s i := by
    by_cases h1 : byT s i < 120
    · exact .inl h1
    · by_cases h2 : 122 < byT s i
      · exact .inr h2
      · exact absurd hx3 (by simp [isPl]; omega)
  clear hx2 hx3
  generalize byT s i = x at *
  have k1 : ((x : Int) == 97) = false := by simp; omega
  have k2 : ((x : Int) == 98) = false := by simp; omega
  clear hx1
  by_cases y1 : x < 88
  · have k3 : ¬ (88 : Int) ≤ x := by omega
    have k4 : (x : Int) < 120 := by omega
    clear hx4 hx5
    go_enter Try.func30, Try.ntmps30
    go_wp2_with fail
    refine (HF.out _ H.out).mono ?_
    rintro e w2 ⟨rfl, hg2, hr2⟩
    have E : Hid (P (.returned (.int .i64 0)) w2) := ER.out _ hg2 hr2
    clear hg2 hr2
    go_wp2_with fail
    exact E.out
  · have k3 : (88 : Int) ≤ x := by omega
    have k3' : ¬ (x : Int) ≤ 90 := by omega
    by_cases y2 : x < 120
    · have k4 : (x : Int) < 120 := by omega
      clear hx4 hx5
      go_enter Try.func30, Try.ntmps30
      go_wp2_with fail
      refine (HF.out _ H.out).mono ?_
      rintro e w2 ⟨rfl, hg2, hr2⟩
      have E : Hid (P (.returned (.int .i64 0)) w2) := ER.out _ hg2 hr2
      clear hg2 hr2
      go_wp2_with fail
      exact E.out
    · have k4 : ¬ (x : Int) < 120 := by omega
      have k5 : (122 : Int) < x := by omega
      clear hx4 hx5
      go_enter Try.func30, Try.ntmps30
      go_wp2_with fail
      refine (HF.out _ H.out).mono ?_
      rintro e w2 ⟨rfl, hg2, hr2⟩
      have E : Hid (P (.returned (.int .i64 0)) w2) := ER.out _ hg2 hr2
      clear hg2 hr2
      go_wp2_with fail
      exact E.out
theorem atomJ_any (s z : ByteArray) (sc : List Nat) (b i n d : Nat) (m : List NdJ) (L : Value) (w : World) (hs : s.size ≤ 4000) (hi : i ≤ s.size) (hn : n ≤ 30) (hd : d ≤ 40) (hl : sc.length ≤ 3) (hz : ScB z sc) (hm : m.length ≤ n) (h : JRd w b s i n d z L 0 0) (hp : NodJ w b L m) :
    Calls Try.prog 30 #[.pointer (some ⟨b, 0, none⟩), .int .u8 (byT s i)] w (JGives s b d n z w L m (atomK s i n d sc)) := by
  by_cases h1 : byT s i = 97 ∨ byT s i = 98
  · exact atomJ_letter s z sc b i n d m L w hs hi hn hd hl hz hm h1 h hp
  · cases h2 : isSe (byT s i) with
    | true => exact atomJ_set s z sc b i n d m L w hs hi hn hd hl hz hm h2 h hp
    | false =>
      cases h3 : isPl (byT s i) with
      | true => exact atomJ_place s z sc b i n d m L w hs hi hn hd hl hz hm h3 h hp
      | false => exact atomJ_none s z sc b i n d m L w hs hi hn hd hl hz hm ⟨h1, h2, h3⟩ h hp

end Go.Proofs.Ytaommgnlnfhbfaa
