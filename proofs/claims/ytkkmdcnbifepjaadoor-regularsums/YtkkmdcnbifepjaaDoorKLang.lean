/- What the least automata of mixed ones say: the laws of sets (no program). -/
import Derived.Test.YtkkmdcnbifepjaaDoorMLl
import Derived.Test.YtkkmdcnbifepjaaDoorBClos
import Derived.Test.YtkkmdcnbifepjaaDoorLMath
namespace Go.Proofs.YtkkmdcnbifepjaaDoor
open Go.RowKit
set_option linter.unusedVariables false

def accD (d : Dfa) (z : List Nat) : Bool := d.mk1 (z.foldl d.nx d.S.toNat)
def Lets (l : Nat) (z : List Nat) : Prop := ∀ b, b ∈ z → b < l

section
variable {δ δ' : Nat → Nat → Nat} {m m' : Nat → Bool} {n n' l S S' : Nat} {R R' : List (List Int)} {M M' : List Int}
theorem foldK_lt (hδ : ∀ s a, s < n → a < l → δ s a < n) : ∀ (z : List Nat) (s : Nat), s < n → Lets l z → z.foldl δ s < n := by
  intro z
  induction z with
  | nil => intro s hs _; exact hs
  | cons a z ih => intro s hs hz; exact ih _ (hδ _ _ hs (hz a (by simp))) (fun b hb => hz b (by simp [hb]))
/-- Two automata that accept the same words have one least automaton. -/
theorem least_lang (h : LeastOf δ m n l S R M) (h' : LeastOf δ' m' n' l S' R' M') (hδ : ∀ s a, s < n → a < l → δ s a < n) (hδ' : ∀ s a, s < n' → a < l → δ' s a < n') (hS : S < n) (hS' : S' < n')
    (he : ∀ z, Lets l z → m (z.foldl δ S) = m' (z.foldl δ' S')) : R = R' ∧ M = M' := by
  obtain ⟨κ, hκ⟩ := ner_key δ m n l
  obtain ⟨κ', hκ'⟩ := ner_key δ' m' n' l
  obtain ⟨k, e, r1, m1⟩ := h κ hκ
  obtain ⟨k', e', r2, m2⟩ := h' κ' hκ'
  have h0 : ∃ z, Lets l z ∧ S = z.foldl δ S ∧ S' = z.foldl δ' S' := ⟨[], fun b hb => by simp at hb, rfl, rfl⟩
  have hs : ∀ x y a, (∃ z, Lets l z ∧ x = z.foldl δ S ∧ y = z.foldl δ' S') → a < l → ∃ z, Lets l z ∧ δ x a = z.foldl δ S ∧ δ' y a = z.foldl δ' S' := by
    rintro x y a ⟨z, hz, rfl, rfl⟩ ha
    refine ⟨z ++ [a], fun b hb => ?_, by simp, by simp⟩
    rcases List.mem_append.1 hb with hb | hb
    · exact hz b hb
    · simp only [List.mem_singleton] at hb; omega
  have key : ∀ z z1 : List Nat, Lets l z → Lets l z1 → (Ner δ m l (z.foldl δ S) (z1.foldl δ S) ↔ Ner δ' m' l (z.foldl δ' S') (z1.foldl δ' S')) := by
    intro z z1 hz hz1
    have app : ∀ y u : List Nat, Lets l y → Lets l u → m (u.foldl δ (y.foldl δ S)) = m' (u.foldl δ' (y.foldl δ' S')) := fun y u hy hu => by
      have := he (y ++ u) (fun b hb => (List.mem_append.1 hb).elim (hy b) (hu b))
      simpa using this
    constructor
    · intro hn u hu
      rw [← app z u hz hu, ← app z1 u hz1 hu]; exact hn u hu
    · intro hn u hu
      rw [app z u hz hu, app z1 u hz1 hu]; exact hn u hu
  have hk : ∀ x y x' y', (∃ z, Lets l z ∧ x = z.foldl δ S ∧ y = z.foldl δ' S') → (∃ z, Lets l z ∧ x' = z.foldl δ S ∧ y' = z.foldl δ' S') → (κ x = κ x' ↔ κ' y = κ' y') := by
    rintro x y x' y' ⟨z, hz, rfl, rfl⟩ ⟨z1, hz1, rfl, rfl⟩
    rw [hκ _ _ (foldK_lt hδ z S hS hz) (foldK_lt hδ z1 S hS hz1), hκ' _ _ (foldK_lt hδ' z S' hS' hz) (foldK_lt hδ' z1 S' hS' hz1)]
    exact key z z1 hz hz1
  obtain ⟨q1, q2⟩ := beside_res (m1 := m) (m2 := m') (ρ := fun x y => ∃ z, Lets l z ∧ x = z.foldl δ S ∧ y = z.foldl δ' S') h0 hs hk (by rintro x y ⟨z, hz, rfl, rfl⟩; exact he z hz) e e'
  exact ⟨r1.trans (q1.trans r2.symm), m1.trans (q2.trans m2.symm)⟩
theorem least_acc (h : LeastOf δ m n l S R M) (hδ : ∀ s a, s < n → a < l → δ s a < n) (hS : S < n) {z : List Nat} (hz : Lets l z) : accD ⟨l, 0, R, M⟩ z = m (z.foldl δ S) := by
  obtain ⟨κ, xs, _, _, _, _, h5⟩ := h.sim hδ hS
  exact (h5 z hz).2.2
end

/-- By a table. -/
def tab (t : Int) (x y : Bool) : Bool := bitOf t (if x = true then 1 else 0) (if y = true then 1 else 0) == 1
theorem tab8 (x y : Bool) : tab 8 x y = (x && y) := by cases x <;> cases y <;> decide +kernel
theorem tab14 (x y : Bool) : tab 14 x y = (x || y) := by cases x <;> cases y <;> decide +kernel
theorem tab1 (x y : Bool) : tab 1 x y = (!x && !y) := by cases x <;> cases y <;> decide +kernel
def MixOf (t : Int) (d e : Dfa) (l : Nat) (R : List (List Int)) (M : List Int) : Prop := LeastOf (nx2 d e e.R.length) (mk2 t d e e.R.length) (d.R.length * e.R.length) l (d.S.toNat * e.R.length + e.S.toNat) R M
section
variable {d e : Dfa} {l : Nat} {t : Int} {R : List (List Int)} {M : List Int}
theorem Good.mark (h : Good d) {i : Nat} (hi : i < d.R.length) : d.M.getD i 0 = if d.mk1 i = true then 1 else 0 := by
  have := h.m i (by rw [h.ml]; exact hi)
  unfold Dfa.mk1
  rcases this with e | e <;> rw [e] <;> rfl
theorem Good.st (h : Good d) : d.S.toNat < d.R.length := by have := h.s; omega
theorem mix_lt (h : Good d) (h2 : Good e) (hl : d.L = l) (hl2 : e.L = l) : (∀ s a, s < d.R.length * e.R.length → a < l → nx2 d e e.R.length s a < d.R.length * e.R.length) ∧ d.S.toNat * e.R.length + e.S.toNat < d.R.length * e.R.length :=
  ⟨fun s a hs ha => cod_lt (h.nx_lt (pxx_lt hs) (by omega)) (h2.nx_lt (pyy_lt hs) (by omega)), cod_lt h.st h2.st⟩
theorem mix_fold (h : Good d) (h2 : Good e) (hl : d.L = l) (hl2 : e.L = l) : ∀ (z : List Nat) (u v : Nat), u < d.R.length → v < e.R.length → Lets l z → z.foldl (nx2 d e e.R.length) (u * e.R.length + v) = z.foldl d.nx u * e.R.length + z.foldl e.nx v ∧ z.foldl d.nx u < d.R.length ∧ z.foldl e.nx v < e.R.length := by
  intro z
  induction z with
  | nil => intro u v hu hv _; exact ⟨rfl, hu, hv⟩
  | cons a z ih =>
    intro u v hu hv hz
    have ha := hz a (by simp)
    simp only [List.foldl_cons]
    have e1 : nx2 d e e.R.length (u * e.R.length + v) a = d.nx u a * e.R.length + e.nx v a := by unfold nx2; rw [pxx_code hv, pyy_code hv]
    rw [e1]
    exact ih _ _ (h.nx_lt hu (by omega)) (h2.nx_lt hv (by omega)) (fun b hb => hz b (by simp [hb]))
theorem mix_acc (h : Good d) (h2 : Good e) (hl : d.L = l) (hl2 : e.L = l) {z : List Nat} (hz : Lets l z) : mk2 t d e e.R.length (z.foldl (nx2 d e e.R.length) (d.S.toNat * e.R.length + e.S.toNat)) = tab t (accD d z) (accD e z) := by
  obtain ⟨e1, e2, e3⟩ := mix_fold h h2 hl hl2 z _ _ h.st h2.st hz
  rw [e1]
  unfold mk2 tab accD
  rw [pxx_code e3, pyy_code e3, h.mark e2, h2.mark e3]
theorem MixOf.acc (hm : MixOf t d e l R M) (h : Good d) (h2 : Good e) (hl : d.L = l) (hl2 : e.L = l) {z : List Nat} (hz : Lets l z) : accD ⟨l, 0, R, M⟩ z = tab t (accD d z) (accD e z) := by
  obtain ⟨k1, k2⟩ := mix_lt h h2 hl hl2
  rw [least_acc hm k1 k2 hz, mix_acc h h2 hl hl2 hz]
theorem MixOf.good (hm : MixOf t d e l R M) (h : Good d) (h2 : Good e) (hl : d.L = l) (hl2 : e.L = l) (hn : d.R.length * e.R.length ≤ 3000) : Good ⟨l, 0, R, M⟩ := by
  obtain ⟨k1, k2⟩ := mix_lt h h2 hl hl2
  have a1 := h.l1
  have a2 := h.l4
  exact LeastOf.good hm k1 k2 (by omega) (by omega) hn
/-- The least one of an automaton. -/
def LstOf (d : Dfa) (l : Nat) (R : List (List Int)) (M : List Int) : Prop := LeastOf d.nx d.mk1 d.R.length l d.S.toNat R M
theorem good_lt (h : Good d) (hl : d.L = l) : ∀ s a, s < d.R.length → a < l → d.nx s a < d.R.length := fun s a hs ha => h.nx_lt hs (by omega)
theorem LstOf.acc (hm : LstOf d l R M) (h : Good d) (hl : d.L = l) {z : List Nat} (hz : Lets l z) : accD ⟨l, 0, R, M⟩ z = accD d z := least_acc hm (good_lt h hl) h.st hz
theorem LstOf.good (hm : LstOf d l R M) (h : Good d) (hl : d.L = l) : Good ⟨l, 0, R, M⟩ := by
  have a1 := h.l1
  have a2 := h.l4
  exact LeastOf.good hm (good_lt h hl) h.st (by omega) (by omega) h.n3
end
section
variable {a b : Dfa} {l : Nat} {Ro Rx' Rn Rl Rb Ra : List (List Int)} {Mo Mx Mn Ml Mb Ma : List Int}
/-- Absorption. -/
theorem law_and_or (ha : Good a) (hb : Good b) (hl : a.L = l) (hl2 : b.L = l) (hn : a.R.length * b.R.length ≤ 3000) (ho : MixOf 14 a b l Ro Mo) (hL : LstOf a l Rl Ml) (hk : MixOf 8 a ⟨l, 0, Ro, Mo⟩ l Rb Mb) : Rb = Rl ∧ Mb = Ml := by
  have hG := ho.good ha hb hl hl2 hn
  obtain ⟨k1, k2⟩ := mix_lt ha hG hl rfl
  refine least_lang hk hL k1 (good_lt ha hl) k2 ha.st fun z hz => ?_
  rw [mix_acc ha hG hl rfl hz, ho.acc ha hb hl hl2 hz, tab8, tab14]
  show (accD a z && (accD a z || accD b z)) = accD a z
  cases accD a z <;> simp
theorem law_or_and (ha : Good a) (hb : Good b) (hl : a.L = l) (hl2 : b.L = l) (hn : a.R.length * b.R.length ≤ 3000) (ho : MixOf 8 a b l Ro Mo) (hL : LstOf a l Rl Ml) (hk : MixOf 14 a ⟨l, 0, Ro, Mo⟩ l Rb Mb) : Rb = Rl ∧ Mb = Ml := by
  have hG := ho.good ha hb hl hl2 hn
  obtain ⟨k1, k2⟩ := mix_lt ha hG hl rfl
  refine least_lang hk hL k1 (good_lt ha hl) k2 ha.st fun z hz => ?_
  rw [mix_acc ha hG hl rfl hz, ho.acc ha hb hl hl2 hz, tab8, tab14]
  show (accD a z || (accD a z && accD b z)) = accD a z
  cases accD a z <;> simp
theorem law_again (ha : Good a) (hl : a.L = l) (hL : LstOf a l Rl Ml) (hk : LstOf ⟨l, 0, Rl, Ml⟩ l Ra Ma) : Ra = Rl ∧ Ma = Ml := by
  have hG := hL.good ha hl
  refine least_lang hk hL (good_lt hG rfl) (good_lt ha hl) hG.st ha.st fun z hz => ?_
  exact hL.acc ha hl hz
theorem law_differ (ha : Good a) (hb : Good b) (hl : a.L = l) (hl2 : b.L = l) (ho : MixOf 14 a b l Ro Mo) (hn : MixOf 1 a b l Rn Mn) {zs : List Nat} {is : Bool} (hF : FirstOf (tell2 (Dfa.nx ⟨l, 0, Ro, Mo⟩) (Dfa.nx ⟨l, 0, Rn, Mn⟩) (Dfa.mk1 ⟨l, 0, Ro, Mo⟩) (Dfa.mk1 ⟨l, 0, Rn, Mn⟩) 0 0) l zs is) : zs = [] ∧ is = true := by
  have h1 := ha.l1
  have e0 : Lets l [] := fun b hb => by simp at hb
  have o0 := ho.acc ha hb hl hl2 e0
  have n0 := hn.acc ha hb hl hl2 e0
  rw [tab14] at o0
  rw [tab1] at n0
  have hT : tell2 (Dfa.nx ⟨l, 0, Ro, Mo⟩) (Dfa.nx ⟨l, 0, Rn, Mn⟩) (Dfa.mk1 ⟨l, 0, Ro, Mo⟩) (Dfa.mk1 ⟨l, 0, Rn, Mn⟩) 0 0 [] = true := by
    unfold tell2
    have e1 : Dfa.mk1 ⟨l, 0, Ro, Mo⟩ (([] : List Nat).foldl (Dfa.nx ⟨l, 0, Ro, Mo⟩) 0) = accD ⟨l, 0, Ro, Mo⟩ [] := rfl
    have e2 : Dfa.mk1 ⟨l, 0, Rn, Mn⟩ (([] : List Nat).foldl (Dfa.nx ⟨l, 0, Rn, Mn⟩) 0) = accD ⟨l, 0, Rn, Mn⟩ [] := rfl
    rw [e1, e2, o0, n0]
    cases accD a [] <;> cases accD b [] <;> decide
  exact FirstOf.one (by omega) hF ⟨fun x hx => by simp at hx, .inl ⟨rfl, hT, fun z _ _ => Nat.zero_le _⟩⟩
end

end Go.Proofs.YtkkmdcnbifepjaaDoor
