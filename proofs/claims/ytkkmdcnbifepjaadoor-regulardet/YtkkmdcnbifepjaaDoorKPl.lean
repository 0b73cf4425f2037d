/- What the least automata of mixed ones say: the laws of sets (no program). -/
/- The automaton of the places, as the reference writes it down, tells what the text tells (no program). -/
import Derived.Test.YtkkmdcnbifepjaaDoorMLl
import Derived.Test.YtkkmdcnbifepjaaDoorBClos
import Derived.Test.YtkkmdcnbifepjaaDoorLMath
import Derived.Test.YtkkmdcnbifepjaaDoorPDE
import Derived.Test.YtkkmdcnbifepjaaDoorUs
namespace Go.Proofs.YtkkmdcnbifepjaaDoor
open Go.RowKit
set_option linter.unusedVariables false

def accD (d : Dfa) (z : List Nat) : Bool := d.mk1 (z.foldl d.nx d.S.toNat)
def Lets (l : Nat) (z : List Nat) : Prop := ∀ b, b ∈ z → b < l

section
variable {δ δ' : Nat → Nat → Nat} {m m' : Nat → Bool} {n n' l S S' : Nat} {R R' : List (List Int)} {M M' : List Int}
theorem foldK_lt (hδ : ∀ s a, s < n → a < l → δ s a < n) : ∀ (z : List Nat) (s : Nat), s < n → Lets l z → z.foldl δ s < n := by
  intro z
  induction z with
  | nil => intro s hs _; exact hs
  | cons a z ih => intro s hs hz; exact ih _ (hδ _ _ hs (hz a (by simp))) (fun b hb => hz b (by simp [hb]))
/-- Two automata that accept the same words have one least automaton. -/
theorem least_lang (h : LeastOf δ m n l S R M) (h' : LeastOf δ' m' n' l S' R' M') (hδ : ∀ s a, s < n → a < l → δ s a < n) (hδ' : ∀ s a, s < n' → a < l → δ' s a < n') (hS : S < n) (hS' : S' < n')
    (he : ∀ z, Lets l z → m (z.foldl δ S) = m' (z.foldl δ' S')) : R = R' ∧ M = M' := by
  obtain ⟨κ, hκ⟩ := ner_key δ m n l
  obtain ⟨κ', hκ'⟩ := ner_key δ' m' n' l
  obtain ⟨k, e, r1, m1⟩ := h κ hκ
  obtain ⟨k', e', r2, m2⟩ := h' κ' hκ'
  have h0 : ∃ z, Lets l z ∧ S = z.foldl δ S ∧ S' = z.foldl δ' S' := ⟨[], fun b hb => by simp at hb, rfl, rfl⟩
  have hs : ∀ x y a, (∃ z, Lets l z ∧ x = z.foldl δ S ∧ y = z.foldl δ' S') → a < l → ∃ z, Lets l z ∧ δ x a = z.foldl δ S ∧ δ' y a = z.foldl δ' S' := by
    rintro x y a ⟨z, hz, rfl, rfl⟩ ha
    refine ⟨z ++ [a], fun b hb => ?_, by simp, by simp⟩
    rcases List.mem_append.1 hb with hb | hb
    · exact hz b hb
    · simp only [List.mem_singleton] at hb; omega
  have key : ∀ z z1 : List Nat, Lets l z → Lets l z1 → (Ner δ m l (z.foldl δ S) (z1.foldl δ S) ↔ Ner δ' m' l (z.foldl δ' S') (z1.foldl δ' S')) := by
    intro z z1 hz hz1
    have app : ∀ y u : List Nat, Lets l y → Lets l u → m (u.foldl δ (y.foldl δ S)) = m' (u.foldl δ' (y.foldl δ' S')) := fun y u hy hu => by
      have := he (y ++ u) (fun b hb => (List.mem_append.1 hb).elim (hy b) (hu b))
      simpa using this
    constructor
    · intro hn u hu
      rw [← app z u hz hu, ← app z1 u hz1 hu]; exact hn u hu
    · intro hn u hu
      rw [app z u hz hu, app z1 u hz1 hu]; exact hn u hu
  have hk : ∀ x y x' y', (∃ z, Lets l z ∧ x = z.foldl δ S ∧ y = z.foldl δ' S') → (∃ z, Lets l z ∧ x' = z.foldl δ S ∧ y' = z.foldl δ' S') → (κ x = κ x' ↔ κ' y = κ' y') := by
    rintro x y x' y' ⟨z, hz, rfl, rfl⟩ ⟨z1, hz1, rfl, rfl⟩
    rw [hκ _ _ (foldK_lt hδ z S hS hz) (foldK_lt hδ z1 S hS hz1), hκ' _ _ (foldK_lt hδ' z S' hS' hz) (foldK_lt hδ' z1 S' hS' hz1)]
    exact key z z1 hz hz1
  obtain ⟨q1, q2⟩ := beside_res (m1 := m) (m2 := m') (ρ := fun x y => ∃ z, Lets l z ∧ x = z.foldl δ S ∧ y = z.foldl δ' S') h0 hs hk (by rintro x y ⟨z, hz, rfl, rfl⟩; exact he z hz) e e'
  exact ⟨r1.trans (q1.trans r2.symm), m1.trans (q2.trans m2.symm)⟩
theorem least_acc (h : LeastOf δ m n l S R M) (hδ : ∀ s a, s < n → a < l → δ s a < n) (hS : S < n) {z : List Nat} (hz : Lets l z) : accD ⟨l, 0, R, M⟩ z = m (z.foldl δ S) := by
  obtain ⟨κ, xs, _, _, _, _, h5⟩ := h.sim hδ hS
  exact (h5 z hz).2.2
end

/-- By a table. -/
def tab (t : Int) (x y : Bool) : Bool := bitOf t (if x = true then 1 else 0) (if y = true then 1 else 0) == 1
theorem tab8 (x y : Bool) : tab 8 x y = (x && y) := by cases x <;> cases y <;> decide +kernel
theorem tab14 (x y : Bool) : tab 14 x y = (x || y) := by cases x <;> cases y <;> decide +kernel
theorem tab1 (x y : Bool) : tab 1 x y = (!x && !y) := by cases x <;> cases y <;> decide +kernel
def MixOf (t : Int) (d e : Dfa) (l : Nat) (R : List (List Int)) (M : List Int) : Prop := LeastOf (nx2 d e e.R.length) (mk2 t d e e.R.length) (d.R.length * e.R.length) l (d.S.toNat * e.R.length + e.S.toNat) R M
section
variable {d e : Dfa} {l : Nat} {t : Int} {R : List (List Int)} {M : List Int}
theorem Good.mark (h : Good d) {i : Nat} (hi : i < d.R.length) : d.M.getD i 0 = if d.mk1 i = true then 1 else 0 := by
  have := h.m i (by rw [h.ml]; exact hi)
  unfold Dfa.mk1
  rcases this with e | e <;> rw [e] <;> rfl
theorem Good.st (h : Good d) : d.S.toNat < d.R.length := by have := h.s; omega
theorem mix_lt (h : Good d) (h2 : Good e) (hl : d.L = l) (hl2 : e.L = l) : (∀ s a, s < d.R.length * e.R.length → a < l → nx2 d e e.R.length s a < d.R.length * e.R.length) ∧ d.S.toNat * e.R.length + e.S.toNat < d.R.length * e.R.length :=
  ⟨fun s a hs ha => cod_lt (h.nx_lt (pxx_lt hs) (by omega)) (h2.nx_lt (pyy_lt hs) (by omega)), cod_lt h.st h2.st⟩
theorem mix_fold (h : Good d) (h2 : Good e) (hl : d.L = l) (hl2 : e.L = l) : ∀ (z : List Nat) (u v : Nat), u < d.R.length → v < e.R.length → Lets l z → z.foldl (nx2 d e e.R.length) (u * e.R.length + v) = z.foldl d.nx u * e.R.length + z.foldl e.nx v ∧ z.foldl d.nx u < d.R.length ∧ z.foldl e.nx v < e.R.length := by
  intro z
  induction z with
  | nil => intro u v hu hv _; exact ⟨rfl, hu, hv⟩
  | cons a z ih =>
    intro u v hu hv hz
    have ha := hz a (by simp)
    simp only [List.foldl_cons]
    have e1 : nx2 d e e.R.length (u * e.R.length + v) a = d.nx u a * e.R.length + e.nx v a := by unfold nx2; rw [pxx_code hv, pyy_code hv]
    rw [e1]
    exact ih _ _ (h.nx_lt hu (by omega)) (h2.nx_lt hv (by omega)) (fun b hb => hz b (by simp [hb]))
theorem mix_acc (h : Good d) (h2 : Good e) (hl : d.L = l) (hl2 : e.L = l) {z : List Nat} (hz : Lets l z) : mk2 t d e e.R.length (z.foldl (nx2 d e e.R.length) (d.S.toNat * e.R.length + e.S.toNat)) = tab t (accD d z) (accD e z) := by
  obtain ⟨e1, e2, e3⟩ := mix_fold h h2 hl hl2 z _ _ h.st h2.st hz
  rw [e1]
  unfold mk2 tab accD
  rw [pxx_code e3, pyy_code e3, h.mark e2, h2.mark e3]
theorem MixOf.acc (hm : MixOf t d e l R M) (h : Good d) (h2 : Good e) (hl : d.L = l) (hl2 : e.L = l) {z : List Nat} (hz : Lets l z) : accD ⟨l, 0, R, M⟩ z = tab t (accD d z) (accD e z) := by
  obtain ⟨k1, k2⟩ := mix_lt h h2 hl hl2
  rw [least_acc hm k1 k2 hz, mix_acc h h2 hl hl2 hz]
theorem MixOf.good (hm : MixOf t d e l R M) (h : Good d) (h2 : Good e) (hl : d.L = l) (hl2 : e.L = l) (hn : d.R.length * e.R.length ≤ 3000) : Good ⟨l, 0, R, M⟩ := by
  obtain ⟨k1, k2⟩ := mix_lt h h2 hl hl2
  have a1 := h.l1
  have a2 := h.l4
  exact LeastOf.good hm k1 k2 (by omega) (by omega) hn
/-- The least one of an automaton. -/
def LstOf (d : Dfa) (l : Nat) (R : List (List Int)) (M : List Int) : Prop := LeastOf d.nx d.mk1 d.R.length l d.S.toNat R M
theorem good_lt (h : Good d) (hl : d.L = l) : ∀ s a, s < d.R.length → a < l → d.nx s a < d.R.length := fun s a hs ha => h.nx_lt hs (by omega)
theorem LstOf.acc (hm : LstOf d l R M) (h : Good d) (hl : d.L = l) {z : List Nat} (hz : Lets l z) : accD ⟨l, 0, R, M⟩ z = accD d z := least_acc hm (good_lt h hl) h.st hz
theorem LstOf.good (hm : LstOf d l R M) (h : Good d) (hl : d.L = l) : Good ⟨l, 0, R, M⟩ := by
  have a1 := h.l1
  have a2 := h.l4
  exact LeastOf.good hm (good_lt h hl) h.st (by omega) (by omega) h.n3
end
section
variable {a b : Dfa} {l : Nat} {Ro Rx' Rn Rl Rb Ra : List (List Int)} {Mo Mx Mn Ml Mb Ma : List Int}
/-- Absorption. -/
theorem law_and_or (ha : Good a) (hb : Good b) (hl : a.L = l) (hl2 : b.L = l) (hn : a.R.length * b.R.length ≤ 3000) (ho : MixOf 14 a b l Ro Mo) (hL : LstOf a l Rl Ml) (hk : MixOf 8 a ⟨l, 0, Ro, Mo⟩ l Rb Mb) : Rb = Rl ∧ Mb = Ml := by
  have hG := ho.good ha hb hl hl2 hn
  obtain ⟨k1, k2⟩ := mix_lt ha hG hl rfl
  refine least_lang hk hL k1 (good_lt ha hl) k2 ha.st fun z hz => ?_
  rw [mix_acc ha hG hl rfl hz, ho.acc ha hb hl hl2 hz, tab8, tab14]
  show (accD a z && (accD a z || accD b z)) = accD a z
  cases accD a z <;> simp
theorem law_or_and (ha : Good a) (hb : Good b) (hl : a.L = l) (hl2 : b.L = l) (hn : a.R.length * b.R.length ≤ 3000) (ho : MixOf 8 a b l Ro Mo) (hL : LstOf a l Rl Ml) (hk : MixOf 14 a ⟨l, 0, Ro, Mo⟩ l Rb Mb) : Rb = Rl ∧ Mb = Ml := by
  have hG := ho.good ha hb hl hl2 hn
  obtain ⟨k1, k2⟩ := mix_lt ha hG hl rfl
  refine least_lang hk hL k1 (good_lt ha hl) k2 ha.st fun z hz => ?_
  rw [mix_acc ha hG hl rfl hz, ho.acc ha hb hl hl2 hz, tab8, tab14]
  show (accD a z || (accD a z && accD b z)) = accD a z
  cases accD a z <;> simp
theorem law_again (ha : Good a) (hl : a.L = l) (hL : LstOf a l Rl Ml) (hk : LstOf ⟨l, 0, Rl, Ml⟩ l Ra Ma) : Ra = Rl ∧ Ma = Ml := by
  have hG := hL.good ha hl
  refine least_lang hk hL (good_lt hG rfl) (good_lt ha hl) hG.st ha.st fun z hz => ?_
  exact hL.acc ha hl hz
theorem law_differ (ha : Good a) (hb : Good b) (hl : a.L = l) (hl2 : b.L = l) (ho : MixOf 14 a b l Ro Mo) (hn : MixOf 1 a b l Rn Mn) {zs : List Nat} {is : Bool} (hF : FirstOf (tell2 (Dfa.nx ⟨l, 0, Ro, Mo⟩) (Dfa.nx ⟨l, 0, Rn, Mn⟩) (Dfa.mk1 ⟨l, 0, Ro, Mo⟩) (Dfa.mk1 ⟨l, 0, Rn, Mn⟩) 0 0) l zs is) : zs = [] ∧ is = true := by
  have h1 := ha.l1
  have e0 : Lets l [] := fun b hb => by simp at hb
  have o0 := ho.acc ha hb hl hl2 e0
  have n0 := hn.acc ha hb hl hl2 e0
  rw [tab14] at o0
  rw [tab1] at n0
  have hT : tell2 (Dfa.nx ⟨l, 0, Ro, Mo⟩) (Dfa.nx ⟨l, 0, Rn, Mn⟩) (Dfa.mk1 ⟨l, 0, Ro, Mo⟩) (Dfa.mk1 ⟨l, 0, Rn, Mn⟩) 0 0 [] = true := by
    unfold tell2
    have e1 : Dfa.mk1 ⟨l, 0, Ro, Mo⟩ (([] : List Nat).foldl (Dfa.nx ⟨l, 0, Ro, Mo⟩) 0) = accD ⟨l, 0, Ro, Mo⟩ [] := rfl
    have e2 : Dfa.mk1 ⟨l, 0, Rn, Mn⟩ (([] : List Nat).foldl (Dfa.nx ⟨l, 0, Rn, Mn⟩) 0) = accD ⟨l, 0, Rn, Mn⟩ [] := rfl
    rw [e1, e2, o0, n0]
    cases accD a [] <;> cases accD b [] <;> decide
  exact FirstOf.one (by omega) hF ⟨fun x hx => by simp at hx, .inl ⟨rfl, hT, fun z _ _ => Nat.zero_le _⟩⟩
end

end Go.Proofs.YtkkmdcnbifepjaaDoor

namespace Go.Proofs.YtkkmdcnbifepjaaDoor
open Go.RowKit
set_option linter.unusedVariables false

/-! ### the letters of the places -/
theorem nn_either {ms : List Rx} (hh : NN (eitherOf ms)) : ∀ i, i < ms.length → NN (ms.getD i noneS) := by
  intro i hi
  cases ms with
  | nil => simp at hi
  | cons a ms =>
    have go : ∀ (ms : List Rx) (a : Rx), NN (ms.foldl .alt a) → NN a ∧ ∀ i, i < ms.length → NN (ms.getD i noneS) := by
      intro ms
      induction ms with
      | nil => intro a h; exact ⟨h, fun i hi => by simp at hi⟩
      | cons b ms ihm =>
        intro a h
        obtain ⟨h1, h2⟩ := ihm _ h
        refine ⟨h1.1, fun i hi => ?_⟩
        cases i with
        | zero => simpa using h1.2
        | succ i => simpa using h2 i (by simpa using hi)
    obtain ⟨h1, h2⟩ := go ms a hh
    cases i with
    | zero => simpa using h1
    | succ i => simpa using h2 i (by simpa using hi)
theorem nn_row {ms : List Rx} (hh : NN (rowOf ms)) : ∀ i, i < ms.length → NN (ms.getD i noneS) := by
  intro i hi
  cases ms with
  | nil => simp at hi
  | cons a ms =>
    have go : ∀ (ms : List Rx) (a : Rx), NN (ms.foldl .cat a) → NN a ∧ ∀ i, i < ms.length → NN (ms.getD i noneS) := by
      intro ms
      induction ms with
      | nil => intro a h; exact ⟨h, fun i hi => by simp at hi⟩
      | cons b ms ihm =>
        intro a h
        obtain ⟨h1, h2⟩ := ihm _ h
        refine ⟨h1.1, fun i hi => ?_⟩
        cases i with
        | zero => simpa using h1.2
        | succ i => simpa using h2 i (by simpa using hi)
    obtain ⟨h1, h2⟩ := go ms a hh
    cases i with
    | zero => simpa using h1
    | succ i => simpa using h2 i (by simpa using hi)
theorem means_nn {ps : List PartR} {st k : Nat} {m : Rx} (h : Means ps st k m) (hn : NN m) : ∀ x, st ≤ x → x ≤ k → ∀ p, ps[x]? = some p → p.kind = 2 → 0 ≤ p.let_ := by
  have lists : ∀ {st : Nat} {qs : List Nat} {ms : List Rx}, (∀ i, i < ms.length → ∀ x, begK st qs i ≤ x → x ≤ qs.getD i 0 → ∀ p, ps[x]? = some p → p.kind = 2 → 0 ≤ p.let_) → ∀ t, t ≤ ms.length → ∀ x, st ≤ x → x < begK st qs t → ∀ p, ps[x]? = some p → p.kind = 2 → 0 ≤ p.let_ := by
    intro st qs ms ih t
    induction t with
    | zero => intro _ x h1 h2; have : begK st qs 0 = st := rfl; omega
    | succ t iht =>
      intro ht x h1 h2
      have eb : begK st qs (t + 1) = qs.getD t 0 + 1 := by unfold begK; rw [if_neg (by omega), Nat.add_sub_cancel]
      by_cases hx : x < begK st qs t
      · exact iht (by omega) x h1 hx
      · exact ih t (by omega) x (by omega) (by omega)
  induction h with
  | none k p h hk => intro x h1 h2 q hq h3; obtain rfl : x = k := (by omega); rw [h] at hq; cases hq; omega
  | empty k p h hk => intro x h1 h2 q hq h3; obtain rfl : x = k := (by omega); rw [h] at hq; cases hq; omega
  | letter k p h hk => intro x h1 h2 q hq h3; obtain rfl : x = k := (by omega); rw [h] at hq; cases hq; exact hn
  | either st k p qs ms h hk h0 hq hl hm he ih =>
    intro x h1 h2 q hq2 h3
    by_cases e : x = k
    · subst e; rw [h] at hq2; cases hq2; omega
    · exact lists (fun i hi => ih i hi (nn_either hn i hi)) ms.length (Nat.le_refl _) x h1 (by omega) q hq2 h3
  | row st k p qs ms h hk h0 hq hl hm he ih =>
    intro x h1 h2 q hq2 h3
    by_cases e : x = k
    · subst e; rw [h] at hq2; cases hq2; omega
    · exact lists (fun i hi => ih i hi (nn_row hn i hi)) ms.length (Nat.le_refl _) x h1 (by omega) q hq2 h3
  | star st k p q m h hk hq hm he ih =>
    intro x h1 h2 q' hq2 h3
    by_cases e : x = k
    · subst e; rw [h] at hq2; cases hq2; omega
    · have hn' : NN m := by cases m <;> exact hn
      exact ih hn' x h1 (by omega) q' hq2 h3
theorem sg_nn (ps : List PartR) (h : ∀ x, x < ps.length → ∀ p, ps[x]? = some p → p.kind = 2 → 0 ≤ p.let_) : ∀ i, i ≤ ps.length → ∀ j, 0 ≤ (runS ps i).sg j
  | 0, _, j => by simp [runS]
  | i + 1, hi, j => by
    have ih := sg_nn ps h i (by omega) j
    show 0 ≤ (stepS _ _).sg j
    have e : ps[i]? = some (ps.getD i p0) := by simp [List.getD, show i < ps.length by omega]
    unfold stepS
    split
    · exact ih
    · split
      · next h2 =>
        simp only
        split
        · exact h i (by omega) _ e h2
        · exact ih
      · split
        · exact ih
        · split
          · exact ih
          · split <;> exact ih
theorem ltP_mxl : ∀ (m : Rx) (k j l : Nat), ltP m k j l → l < mxl m
  | .none, k, j, l, h => h.elim
  | .empty, k, j, l, h => h.elim
  | .letter c, k, j, l, h => by have := h.2; simp only [mxl]; omega
  | .alt a b, k, j, l, h => by
    simp only [mxl]
    rcases h with h | h
    · have := ltP_mxl a k j l h; omega
    · have := ltP_mxl b _ j l h; omega
  | .cat a b, k, j, l, h => by
    simp only [mxl]
    rcases h with h | h
    · have := ltP_mxl a k j l h; omega
    · have := ltP_mxl b _ j l h; omega
  | .star a, k, j, l, h => ltP_mxl a k j l h

/-! ### what is written down -/
/-- The places found are those of a text. -/
structure PlcIs (m : Rx) (n : Nat) (S : PS) (r : Rch) : Prop where
  many : nlet m = n
  fl : ∀ i j, (S.bh i).testBit j = true ↔ flP m 0 i j
  lt : ∀ j l, j < n → (ltP m 0 j l ↔ l = (S.sg j).toNat)
  is : RchIs m 0 r
  nn : ∀ j, 0 ≤ S.sg j
theorem plc_is {ps : List PartR} {k : Nat} {m : Rx} (h : Means ps 0 k m) (hk : k + 1 = ps.length) (hn : NN m) : PlcIs m (runS ps ps.length).at_ (runS ps ps.length) ((runS ps ps.length).es.getD ((runS ps ps.length).es.length - 1) e0) := by
  obtain ⟨_, _, hs, hr⟩ := means_seg h
  rw [hk] at hs hr
  have hl := run_len ps ps.length
  have e : (runS ps ps.length).es.length - 1 = k := by omega
  rw [e]
  have ha := hs.at_
  refine ⟨by rw [ha]; show _ = 0 + _; omega, fun i j => ?_, fun j l hj => hs.lt j l (Nat.zero_le _) hj, hr, sg_nn ps (fun x hx p => means_nn h hn x (Nat.zero_le _) (by omega) p) _ (Nat.le_refl _)⟩
  have := hs.fl i j
  rw [this]
  show ((0 : Nat).testBit j = true ∨ flP m 0 i j) ↔ _
  simp
theorem mem_rowSt {fr : Nat} {sg : Nat → Int} {j : Nat} {t : StepI} : ∀ {k : Nat}, t ∈ rowSt fr sg j k ↔ ∃ i, i < k ∧ fr.testBit i = true ∧ t = ((j : Int), sg i, (i : Int))
  | 0 => by simp [rowSt]
  | k + 1 => by
    show t ∈ rowSt fr sg j k ++ (if fr.testBit k = true then [((j : Int), sg k, (k : Int))] else []) ↔ _
    rw [List.mem_append, mem_rowSt]
    constructor
    · rintro (⟨i, h1, h2⟩ | h)
      · exact ⟨i, by omega, h2⟩
      · split at h
        · next hb => exact ⟨k, by omega, hb, by simpa using h⟩
        · simp at h
    · rintro ⟨i, h1, h2, h3⟩
      by_cases e : i = k
      · subst e; rw [if_pos h2]; exact .inr (by simp [h3])
      · exact .inl ⟨i, by omega, h2, h3⟩
theorem mem_stpP {n : Nat} {S : PS} {r : Rch} {t : StepI} : ∀ {J : Nat}, t ∈ stpP n S r J ↔ ∃ j i, j < J ∧ i < n ∧ (frP n S.bh r.first j).testBit i = true ∧ t = ((j : Int), S.sg i, (i : Int))
  | 0 => by simp [stpP]
  | J + 1 => by
    show t ∈ stpP n S r J ++ rowSt (frP n S.bh r.first J) S.sg J n ↔ _
    rw [List.mem_append, mem_stpP, mem_rowSt]
    constructor
    · rintro (⟨j, i, h1, h2⟩ | ⟨i, h1, h2, h3⟩)
      · exact ⟨j, i, by omega, h2⟩
      · exact ⟨J, i, by omega, h1, h2, h3⟩
    · rintro ⟨j, i, h1, h2, h3, h4⟩
      by_cases e : j = J
      · subst e; exact .inr ⟨i, h2, h3, h4⟩
      · exact .inl ⟨j, i, by omega, h2, h3, h4⟩
theorem mem_finP {n : Nat} {r : Rch} {z : Int} : ∀ {J : Nat}, z ∈ finP n r J ↔ ∃ j, j < J ∧ finB n r j = true ∧ z = (j : Int)
  | 0 => by simp [finP]
  | J + 1 => by
    show z ∈ finP n r J ++ (if finB n r J = true then [(J : Int)] else []) ↔ _
    rw [List.mem_append, mem_finP]
    constructor
    · rintro (⟨i, h1, h2⟩ | h)
      · exact ⟨i, by omega, h2⟩
      · split at h
        · next hb => exact ⟨J, by omega, hb, by simpa using h⟩
        · simp at h
    · rintro ⟨i, h1, h2, h3⟩
      by_cases e : i = J
      · subst e; rw [if_pos h2]; exact .inr (by simp [h3])
      · exact .inl ⟨i, by omega, h2, h3⟩
section
variable {m : Rx} {n : Nat} {S : PS} {r : Rch}
theorem PlcIs.inT (h : PlcIs m n S r) {l : Nat} (hl : mxl m ≤ l) : InT (stpP n S r (n + 1)) l (n + 1 : Nat) := by
  intro x hx
  have hm : (stpP n S r (n + 1)).getD x (0, 0, 0) ∈ stpP n S r (n + 1) := by rw [getT_lt hx]; exact List.getElem_mem hx
  obtain ⟨j, i, h1, h2, h3, h4⟩ := mem_stpP.1 hm
  rw [h4]
  have h5 := ltP_mxl m 0 i _ ((h.lt i _ h2).2 rfl)
  have h6 := h.nn i
  refine ⟨⟨?_, ?_⟩, ⟨?_, ?_⟩, h6, ?_⟩ <;> simp only <;> omega
theorem PlcIs.inF (h : PlcIs m n S r) : InR (finP n r (n + 1)) (n + 1 : Nat) := by
  intro x hx
  have hm : (finP n r (n + 1)).getD x 0 ∈ finP n r (n + 1) := by rw [getD_lt hx]; exact List.getElem_mem hx
  obtain ⟨j, h1, h2, h3⟩ := mem_finP.1 hm
  rw [h3]; omega
theorem nextR_bit (h : PlcIs m n S r) (s l j : Nat) : (dset (stpP n S r (n + 1)) s l).testBit j = true ↔ ∃ i, i < n + 1 ∧ s.testBit i = true ∧ (flP m 0 i j ∨ (i = n ∧ fsP m 0 j)) ∧ ltP m 0 j l := by
  unfold dset
  rw [orIf_bit]
  have hm := h.many
  constructor
  · rintro ⟨t, ht, hp, hj⟩
    obtain ⟨i, q, h1, h2, h3, rfl⟩ := mem_stpP.1 ht
    simp only [setP, Bool.and_eq_true, decide_eq_true_eq, Int.toNat_natCast] at hp hj
    subst hj
    refine ⟨i, h1, hp.2, ?_, (h.lt q l h2).2 hp.1.symm⟩
    unfold frP at h3
    split at h3
    · exact .inl ((h.fl i q).1 h3)
    · exact .inr ⟨by omega, (h.is.fs q).1 h3⟩
  · rintro ⟨i, h1, h2, h3, h4⟩
    have hj := ltP_in m 0 j l h4
    refine ⟨((i : Int), S.sg j, (j : Int)), mem_stpP.2 ⟨i, j, h1, by omega, ?_, rfl⟩, ?_, by simp⟩
    · unfold frP
      rcases h3 with h3 | ⟨e, h3⟩
      · have := flP_in m 0 i j h3
        rw [if_pos (by omega)]; exact (h.fl i j).2 h3
      · rw [if_neg (by omega)]; exact (h.is.fs j).2 h3
    · simp only [setP, Bool.and_eq_true, decide_eq_true_eq, Int.toNat_natCast]
      exact ⟨((h.lt j l (by omega)).1 h4).symm, h2⟩
theorem lastR_bit (h : PlcIs m n S r) (i : Nat) : (setOf (finP n r (n + 1))).testBit i = true ↔ lsP m 0 i ∨ (i = n ∧ emP m = true) := by
  rw [setOf_bit]
  have hm := h.many
  constructor
  · rintro ⟨z, hz, rfl⟩
    obtain ⟨j, h1, h2, rfl⟩ := mem_finP.1 hz
    rw [Int.toNat_natCast]
    unfold finB at h2
    split at h2
    · exact .inl ((h.is.ls j).1 h2)
    · exact .inr ⟨by omega, by rw [← h.is.em]; exact h2⟩
  · intro h1
    refine ⟨(i : Int), mem_finP.2 ⟨i, ?_, ?_, rfl⟩, by simp⟩
    · rcases h1 with h1 | ⟨e, _⟩
      · have := lsP_in m 0 i h1; omega
      · omega
    · unfold finB
      rcases h1 with h1 | ⟨e, h1⟩
      · have := lsP_in m 0 i h1
        rw [if_pos (by omega)]; exact (h.is.ls i).2 h1
      · rw [if_neg (by omega), h.is.em]; exact h1
def leadsR (m : Rx) (n i : Nat) (w : List Nat) : Prop := if i = n then accP m 0 w else runP m 0 i w
theorem setR_leads (h : PlcIs m n S r) : ∀ (w : List Nat) (s : Nat), s < 2 ^ (n + 1) → (mset (finP n r (n + 1)) (w.foldl (dset (stpP n S r (n + 1))) s) = true ↔ ∃ i, i < n + 1 ∧ s.testBit i = true ∧ leadsR m n i w) := by
  have hm := h.many
  have hlt : ∀ s l, dset (stpP n S r (n + 1)) s l < 2 ^ (n + 1) := fun s l => lt_of_bits fun j hj => by
    obtain ⟨i, _, _, _, h4⟩ := (nextR_bit h s l j).1 hj
    have := ltP_in m 0 j l h4; omega
  intro w
  induction w with
  | nil =>
    intro s hs
    have e0 : mset (finP n r (n + 1)) s = true ↔ s &&& setOf (finP n r (n + 1)) ≠ 0 := decide_eq_true_iff
    rw [List.foldl_nil, e0, and_ne]
    constructor
    · rintro ⟨i, h1, h2⟩
      have hi : i < n + 1 := by
        rcases Nat.lt_or_ge i (n + 1) with h | h
        · exact h
        · rw [Nat.testBit_lt_two_pow (Nat.lt_of_lt_of_le hs (Nat.pow_le_pow_right (by omega) h))] at h1
          cases h1
      refine ⟨i, hi, h1, ?_⟩
      unfold leadsR
      rcases (lastR_bit h i).1 h2 with h | ⟨e, h⟩
      · have := lsP_in m 0 i h
        rw [if_neg (by omega)]; exact h
      · rw [if_pos e]; exact h
    · rintro ⟨i, hi, h1, h2⟩
      refine ⟨i, h1, (lastR_bit h i).2 ?_⟩
      unfold leadsR at h2
      split at h2
      · next e => exact .inr ⟨e, h2⟩
      · exact .inl h2
  | cons c w ih =>
    intro s hs
    rw [List.foldl_cons, ih _ (hlt s c)]
    constructor
    · rintro ⟨j, hj, h1, h2⟩
      obtain ⟨i, hi, h3, h4, h5⟩ := (nextR_bit h s c j).1 h1
      have hjl := ltP_in m 0 j c h5
      unfold leadsR at h2
      rw [if_neg (by omega)] at h2
      refine ⟨i, hi, h3, ?_⟩
      unfold leadsR
      rcases h4 with h4 | ⟨e, h4⟩
      · have := flP_in m 0 i j h4
        rw [if_neg (by omega)]
        exact ⟨j, h4, h5, h2⟩
      · rw [if_pos e]
        exact ⟨j, h4, h5, h2⟩
    · rintro ⟨i, hi, h1, h2⟩
      unfold leadsR at h2
      split at h2
      · next e =>
        obtain ⟨j, h3, h4, h5⟩ := h2
        have := ltP_in m 0 j c h4
        refine ⟨j, by omega, (nextR_bit h s c j).2 ⟨i, hi, h1, .inr ⟨e, h3⟩, h4⟩, ?_⟩
        unfold leadsR
        rw [if_neg (by omega)]; exact h5
      · obtain ⟨j, h3, h4, h5⟩ := h2
        have := ltP_in m 0 j c h4
        refine ⟨j, by omega, (nextR_bit h s c j).2 ⟨i, hi, h1, .inl h3, h4⟩, ?_⟩
        unfold leadsR
        rw [if_neg (by omega)]; exact h5
/-- What the reference's automaton accepts is what the text tells. -/
theorem setR_tells (h : PlcIs m n S r) (w : List Nat) : mset (finP n r (n + 1)) (w.foldl (dset (stpP n S r (n + 1))) (2 ^ n)) = true ↔ tells m w := by
  rw [setR_leads h w _ (Nat.pow_lt_pow_right (by omega) (by omega)), ← acc_tells m 0 w]
  constructor
  · rintro ⟨i, hi, h1, h2⟩
    rw [Nat.testBit_two_pow, decide_eq_true_eq] at h1
    subst h1
    unfold leadsR at h2
    rwa [if_pos rfl] at h2
  · intro h1
    refine ⟨n, by omega, by simp, ?_⟩
    unfold leadsR
    rwa [if_pos rfl]
theorem dsetR_lt (h : PlcIs m n S r) (s l : Nat) : dset (stpP n S r (n + 1)) s l < 2 ^ (n + 1) := lt_of_bits fun j hj => by
  have hm := h.many
  obtain ⟨i, _, _, _, h4⟩ := (nextR_bit h s l j).1 hj
  have := ltP_in m 0 j l h4; omega
/-- The program's least automaton and the reference's are one. -/
theorem det_same (h : PlcIs m n S r) (hn : nlet m ≤ 10) {l : Nat} {R R' : List (List Int)} {M M' : List Int} (h1 : LeastOf (setNx m) (setMk m) 2048 l 1024 R M) (h2 : LeastOf (dset (stpP n S r (n + 1))) (mset (finP n r (n + 1))) (2 ^ (n + 1)) l (2 ^ n) R' M') : R = R' ∧ M = M' :=
  least_lang h1 h2 (fun s a _ _ => setNx_lt hn s a) (fun s a _ _ => dsetR_lt h s a) (by omega) (Nat.pow_lt_pow_right (by omega) (by omega)) fun z _ => Bool.eq_iff_iff.2 ((set_tells hn z).trans (setR_tells h z).symm)
end

end Go.Proofs.YtkkmdcnbifepjaaDoor
