/- States of two transducers that say the same for ever; classes; both least ones are one. Without the program. -/
import Derived.Test.YtkcbdfgbmaeodaaTlM
import Derived.Test.YtkcbdfgbmaeodaaLBf
namespace Go.Proofs.Ytkcbdfgbmaeodaa
set_option linter.unusedVariables false

/-- Two states of two transducers say the same for ever. -/
def BisX (x y : TrI) (I p q : Nat) : Prop := ∀ w : List Nat, (∀ l, l ∈ w → l < I) → x.E.getD (goT x p w) [] = y.E.getD (goT y q w) [] ∧ ∀ l, l < I → syT x (goT x p w) l = syT y (goT y q w) l
section
variable {x y z : TrI} {I p q r : Nat}
theorem bis_of (R : Nat → Nat → Prop) (h : ∀ p q, R p q → x.E.getD p [] = y.E.getD q [] ∧ ∀ l, l < I → syT x p l = syT y q l ∧ R (nxT x p l) (nxT y q l)) (hR : R p q) : BisX x y I p q := by
  intro w
  induction w generalizing p q with
  | nil => intro _; exact ⟨(h p q hR).1, fun l hl => ((h p q hR).2 l hl).1⟩
  | cons a w ih =>
    intro hw
    exact ih ((h p q hR).2 a (hw a (by simp))).2 (fun l hl => hw l (by simp [hl]))
theorem BisX.symm (h : BisX x y I p q) : BisX y x I q p := fun w hw => ⟨(h w hw).1.symm, fun l hl => ((h w hw).2 l hl).symm⟩
theorem BisX.trans (h : BisX x y I p q) (h' : BisX y z I q r) : BisX x z I p r := fun w hw => ⟨(h w hw).1.trans (h' w hw).1, fun l hl => ((h w hw).2 l hl).trans ((h' w hw).2 l hl)⟩
theorem BisX.step (h : BisX x y I p q) {l : Nat} (hl : l < I) : BisX x y I (nxT x p l) (nxT y q l) := fun w hw => h (l :: w) (fun j hj => by
  rcases List.mem_cons.1 hj with e | e
  · rw [e]; exact hl
  · exact hw j e)
theorem BisX.now (h : BisX x y I p q) : x.E.getD p [] = y.E.getD q [] ∧ ∀ l, l < I → syT x p l = syT y q l := h [] (by simp)
theorem BisX.ru (h : BisX x y I p q) (w : List Nat) (hw : ∀ l, l ∈ w → l < I) : ruT x p w = ruT y q w := by
  induction w generalizing p q with
  | nil => rfl
  | cons a w ih =>
    have ha := hw a (by simp)
    show syT x p a ++ ruT x (nxT x p a) w = syT y q a ++ ruT y (nxT y q a) w
    rw [h.now.2 a ha, ih (h.step ha) (fun l hl => hw l (by simp [hl]))]
theorem BisX.says (hF : x.F = y.F) (h : BisX x y I x.S.toNat y.S.toNat) (w : List Nat) (hw : ∀ l, l ∈ w → l < I) : saysT x w = saysT y w := by
  unfold saysT
  rw [hF, h.ru w hw, (h w hw).1]
end

/-- What comes out of states that are numbered as they are come to. -/
def ofK (κ : Nat → Nat) (O : Int) (F : List Int) (l : Nat) (δ : Nat → Nat → Nat) (σ : Nat → Nat → List Int) (ε : Nat → List Int) (xs : List Nat) : TrI :=
  ⟨(l : Int), O, 0, F, resR κ δ l xs, xs.map fun x => (List.range l).map (σ x), xs.map ε⟩
section
variable {κ : Nat → Nat} {O : Int} {F : List Int} {l x0 k : Nat} {δ : Nat → Nat → Nat} {σ : Nat → Nat → List Int} {ε : Nat → List Int} {xs : List Nat}
theorem ofK_len : (ofK κ O F l δ σ ε xs).N.length = xs.length ∧ (ofK κ O F l δ σ ε xs).Y.length = xs.length ∧ (ofK κ O F l δ σ ε xs).E.length = xs.length := by simp [ofK, resR]
theorem ofK_sy {i a : Nat} (hi : i < xs.length) (ha : a < l) : syT (ofK κ O F l δ σ ε xs) i a = σ (xs.getD i 0) a := by
  simp [syT, ofK, List.getD, hi, ha]
theorem ofK_e {i : Nat} (hi : i < xs.length) : (ofK κ O F l δ σ ε xs).E.getD i [] = ε (xs.getD i 0) := by
  simp [ofK, List.getD, hi]
theorem ofK_nx {i a : Nat} (hi : i < xs.length) (ha : a < l) : nxT (ofK κ O F l δ σ ε xs) i a = ix κ xs (δ (xs.getD i 0) a) ∧ ((ofK κ O F l δ σ ε xs).N.getD i []).getD a 0 = ((ix κ xs (δ (xs.getD i 0) a) : Nat) : Int) := by
  have : ((ofK κ O F l δ σ ε xs).N.getD i []).getD a 0 = ((ix κ xs (δ (xs.getD i 0) a) : Nat) : Int) := by simp [ofK, resR, rowR, List.getD, hi, ha]
  exact ⟨by unfold nxT; rw [this]; omega, this⟩
theorem ofK_row {i : Nat} (hi : i < xs.length) : ((ofK κ O F l δ σ ε xs).N.getD i []).length = l ∧ ((ofK κ O F l δ σ ε xs).Y.getD i []).length = l := by
  simp [ofK, resR, rowR, List.getD, hi]
theorem end_has (hE : IsEnd (bfsL κ δ l x0) k) {i a : Nat} (hi : i < k) (ha : a < l) : hasK κ (bfsL κ δ l x0 k) (δ ((bfsL κ δ l x0 k).getD i 0) a) := bfsL_has hi (hE.go i hi) ha
theorem ofK_shp {m : Nat} (hE : IsEnd (bfsL κ δ l x0) k) (hk : 1 ≤ k) (hσ : ∀ q, q ∈ bfsL κ δ l x0 k → ∀ a, a < l → (σ q a).length ≤ m) (hε : ∀ q, q ∈ bfsL κ δ l x0 k → (ε q).length ≤ m) :
    1 ≤ (ofK κ O F l δ σ ε (bfsL κ δ l x0 k)).N.length ∧ (∀ s, s < k → ∀ a, a < l → StT k (((ofK κ O F l δ σ ε (bfsL κ δ l x0 k)).N.getD s []).getD a 0)) ∧ (∀ s, s < k → ∀ a, a < l → (syT (ofK κ O F l δ σ ε (bfsL κ δ l x0 k)) s a).length ≤ m) ∧ ∀ s, s < k → ((ofK κ O F l δ σ ε (bfsL κ δ l x0 k)).E.getD s []).length ≤ m := by
  have hl := hE.len
  refine ⟨by rw [ofK_len.1, hl]; exact hk, fun s hs a ha => ?_, fun s hs a ha => ?_, fun s hs => ?_⟩
  · rw [(ofK_nx (by rw [hl]; exact hs) ha).2]
    have := ix_lt (end_has hE hs ha)
    rw [hl] at this
    unfold StT; omega
  · rw [ofK_sy (by rw [hl]; exact hs) ha]
    exact hσ _ (getD_mem (by rw [hl]; exact hs)) a ha
  · rw [ofK_e (by rw [hl]; exact hs)]
    exact hε _ (getD_mem (by rw [hl]; exact hs))
/-- It says what is said from the states that are numbered. -/
theorem ofK_bis (hE : IsEnd (bfsL id δ l x0) k) {y : TrI} (ρ : Nat → Nat → Prop) (hρ : ∀ a b, ρ a b → ε a = y.E.getD b [] ∧ ∀ c, c < l → σ a c = syT y b c ∧ ρ (δ a c) (nxT y b c)) {i b : Nat} (hi : i < k) (h : ρ ((bfsL id δ l x0 k).getD i 0) b) :
    BisX (ofK id O F l δ σ ε (bfsL id δ l x0 k)) y l i b := by
  have hl := hE.len
  refine bis_of (fun i b => i < k ∧ ρ ((bfsL id δ l x0 k).getD i 0) b) (fun i b ⟨hi, hr⟩ => ?_) ⟨hi, h⟩
  have hi' : i < (bfsL id δ l x0 k).length := by rw [hl]; exact hi
  obtain ⟨h1, h2⟩ := hρ _ _ hr
  refine ⟨by rw [ofK_e hi']; exact h1, fun c hc => ⟨by rw [ofK_sy hi' hc]; exact (h2 c hc).1, ?_⟩⟩
  rw [(ofK_nx hi' hc).1]
  have hh := end_has hE hi hc
  have h3 := ix_lt hh
  have h4 := ix_key hh
  simp only [id_eq] at h4
  rw [hl] at h3
  exact ⟨h3, by rw [h4]; exact (h2 c hc).2⟩
end

/-! Classes, by a list of first ones. -/
def alkB (x : TrI) (I : Nat) (f : Nat → Nat) (p q : Nat) : Bool := decide (f p = f q) && (decide (x.E.getD p [] = x.E.getD q []) && (List.range I).all fun l => decide (syT x p l = syT x q l) && decide (f (nxT x p l) = f (nxT x q l)))
theorem alkB_iff (x : TrI) (I : Nat) (f : Nat → Nat) (p q : Nat) : alkB x I f p q = true ↔ f p = f q ∧ x.E.getD p [] = x.E.getD q [] ∧ ∀ l, l < I → syT x p l = syT x q l ∧ f (nxT x p l) = f (nxT x q l) := by simp [alkB]
theorem alkB_eq (x : TrI) (I : Nat) (f : Nat → Nat) : (∀ p, alkB x I f p p = true) ∧ (∀ p q, alkB x I f p q = true → alkB x I f q p = true) ∧ (∀ p q r, alkB x I f p q = true → alkB x I f q r = true → alkB x I f p r = true) := by
  refine ⟨fun p => (alkB_iff _ _ _ _ _).2 ⟨rfl, rfl, fun l _ => ⟨rfl, rfl⟩⟩, fun p q h => ?_, fun p q r h h' => ?_⟩
  · rw [alkB_iff] at h ⊢
    exact ⟨h.1.symm, h.2.1.symm, fun l hl => ⟨(h.2.2 l hl).1.symm, (h.2.2 l hl).2.symm⟩⟩
  · rw [alkB_iff] at h h' ⊢
    exact ⟨h.1.trans h'.1, h.2.1.trans h'.2.1, fun l hl => ⟨(h.2.2 l hl).1.trans (h'.2.2 l hl).1, (h.2.2 l hl).2.trans (h'.2.2 l hl).2⟩⟩
structure MoT (x : TrI) (I n : Nat) (f : Nat → Nat) (cnt : Nat) : Prop where
  coarse : ∀ p q, p < n → q < n → BisT x I p q → f p = f q
  onto : cnt = 0 ∨ ((∀ s, s < n → f s < cnt) ∧ ∀ c, c < cnt → ∃ s, s < n ∧ f s = c)
section
variable {x : TrI} {I n : Nat} {f : Nat → Nat} {cnt : Nat}
theorem MoT.start (x : TrI) (I n : Nat) : MoT x I n (fun _ => 0) 0 := ⟨fun _ _ _ _ _ => rfl, .inl rfl⟩
theorem MoT.next (h : MoT x I n f cnt) (hN : ∀ s, s < n → ∀ l, l < I → nxT x s l < n) : MoT x I n (clE (alkB x I f) n) (fsE (alkB x I f) n).length := by
  obtain ⟨hr, hs, ht⟩ := alkB_eq x I f
  refine ⟨fun p q hp hq e => ?_, .inr ⟨fun s hs2 => clE_lt hr hs2, fun c hc => clE_onto hr hs ht hc⟩⟩
  refine (clE_iff hr hs ht hp hq).2 ((alkB_iff x I f p q).2 ⟨h.coarse p q hp hq e, (e [] (by simp)).1, fun l hl => ⟨(e [] (by simp)).2 l hl, h.coarse _ _ (hN p hp l hl) (hN q hq l hl) (e.step hl)⟩⟩)
theorem MoT.cover (h : MoT x I n f cnt) : ∀ c, c < cnt → c ∈ (fsE (alkB x I f) n).map f := by
  obtain ⟨hr, hs, ht⟩ := alkB_eq x I f
  intro c hc
  rcases h.onto with h0 | ⟨_, h1⟩
  · omega
  · obtain ⟨s, hs1, rfl⟩ := h1 c hc
    exact List.mem_map.2 ⟨_, getD_mem (ixE_lt (fsE_has hr hs1)), ((alkB_iff x I f _ _).1 (ixE_rel (fsE_has hr hs1))).1⟩
theorem MoT.grows (h : MoT x I n f cnt) : cnt ≤ (fsE (alkB x I f) n).length := by
  have := cover_len cnt _ h.cover
  simpa using this
theorem MoT.end (h : MoT x I n f cnt) (hN : ∀ s, s < n → ∀ l, l < I → nxT x s l < n) (he : (fsE (alkB x I f) n).length = cnt) {p q : Nat} (hp : p < n) (hq : q < n) : clE (alkB x I f) n p = clE (alkB x I f) n q ↔ BisT x I p q := by
  obtain ⟨hr, hs, ht⟩ := alkB_eq x I f
  have hstab : ∀ p q, p < n → q < n → f p = f q → alkB x I f p q = true := by
    intro p q hp hq hf
    cases hb : alkB x I f p q with
    | true => rfl
    | false =>
      have l1 := ixE_lt (fsE_has hr hp)
      have l2 := ixE_lt (fsE_has hr hq)
      have r1 := (alkB_iff x I f _ _).1 (ixE_rel (fsE_has hr hp))
      have r2 := (alkB_iff x I f _ _).1 (ixE_rel (fsE_has hr hq))
      have hne : ixE (alkB x I f) (fsE (alkB x I f) n) p ≠ ixE (alkB x I f) (fsE (alkB x I f) n) q := fun e => by
        have := (clE_iff hr hs ht hp hq).1 e
        rw [hb] at this; cases this
      have gm : ∀ i, i < (fsE (alkB x I f) n).length → ((fsE (alkB x I f) n).map f).getD i 0 = f ((fsE (alkB x I f) n).getD i 0) := fun i hi => by simp [List.getD, hi]
      rcases Nat.lt_or_gt_of_ne hne with c | c
      · exact absurd (by rw [gm _ l1, gm _ l2, r1.1, r2.1, hf]) (cover_inj h.cover (by simpa using he) c (by simpa using l2))
      · exact absurd (by rw [gm _ l1, gm _ l2, r1.1, r2.1, hf]) (cover_inj h.cover (by simpa using he) c (by simpa using l1))
  constructor
  · intro e
    have e1 := ((alkB_iff x I f p q).1 ((clE_iff hr hs ht hp hq).1 e)).1
    exact bis_of (x := x) (y := x) (fun a b => a < n ∧ b < n ∧ f a = f b) (fun a b ⟨ha, hb, hf⟩ => by
      obtain ⟨_, h2, h3⟩ := (alkB_iff x I f a b).1 (hstab a b ha hb hf)
      exact ⟨h2, fun l hl => ⟨(h3 l hl).1, hN a ha l hl, hN b hb l hl, (h3 l hl).2⟩⟩) ⟨hp, hq, e1⟩
  · exact fun e => (h.next hN).coarse p q hp hq e
end

/-- Both least ones are one: of states numbered as they are come to, then by kinds; and at once by classes. -/
theorem least_one {p : TrI} {I n s0 k k2 k3 : Nat} {O O1 : Int} {F F1 : List Int} {kd cls : Nat → Nat} (hn : n = p.N.length) (hs0 : s0 < n) (hN : ∀ s, s < n → ∀ l, l < I → nxT p s l < n)
    (e1 : IsEnd (bfsL id (nxT p) I s0) k) {y : TrI} (hy : y = ofK id O1 F1 I (nxT p) (syT p) (fun q => p.E.getD q []) (bfsL id (nxT p) I s0 k)) (hkd : KindIs y I k kd)
    (e2 : IsEnd (bfsL id (fun s l => kd (nxT y s l)) I (kd 0)) k2)
    (hcl : ∀ a b, a < n → b < n → (cls a = cls b ↔ BisT p I a b)) (e3 : IsEnd (bfsL cls (nxT p) I s0) k3) :
    ofK id O F I (fun s l => kd (nxT y s l)) (syT y) (fun q => y.E.getD q []) (bfsL id (fun s l => kd (nxT y s l)) I (kd 0) k2) = ofK cls O F I (nxT p) (syT p) (fun q => p.E.getD q []) (bfsL cls (nxT p) I s0 k3) ∧
    BisX (ofK id O F I (fun s l => kd (nxT y s l)) (syT y) (fun q => y.E.getD q []) (bfsL id (fun s l => kd (nxT y s l)) I (kd 0) k2)) p I 0 s0 ∧ 1 ≤ k2 := by
  have hk1 : 1 ≤ k := by
    rcases Nat.eq_zero_or_pos k with h | h
    · subst h; have := e1.len; simp [bfsL] at this
    · exact h
  have hx0 : (bfsL id (nxT p) I s0 k).getD 0 0 = s0 := by
    obtain ⟨zs, hz⟩ := bfsL_le id (nxT p) I s0 (Nat.zero_le k)
    rw [hz]; rfl
  have hyl : ∀ i, i < k → ∀ l, l < I → nxT y i l < k := fun i hi l hl => by
    rw [hy, (ofK_nx (by rw [e1.len]; exact hi) hl).1]
    have := ix_lt (end_has e1 hi hl)
    rwa [e1.len] at this
  have hyb : ∀ i b, i < k → (bfsL id (nxT p) I s0 k).getD i 0 = b → BisX y p I i b := fun i b hi hb => by
    rw [hy]
    exact ofK_bis e1 (fun a b => a = b) (fun a b e => by subst e; exact ⟨rfl, fun c hc => ⟨rfl, rfl⟩⟩) hi hb
  have hkk : ∀ a, a < k → kd a < k ∧ BisX y y I (kd a) a ∧ kd (kd a) = kd a := fun a ha => by
    obtain ⟨h1, h2, _⟩ := hkd.can a ha
    have h3 : kd a < k := by omega
    exact ⟨h3, (hkd.bis _ _ h3 ha).1 h2, h2⟩
  let ρ : Nat → Nat → Prop := fun a b => a < k ∧ kd a = a ∧ b < n ∧ BisX y p I a b
  have h0 : ρ (kd 0) s0 := by
    obtain ⟨a1, a2, a3⟩ := hkk 0 (by omega)
    exact ⟨a1, a3, hs0, a2.trans (hyb 0 s0 (by omega) hx0)⟩
  have hs : ∀ a b c, ρ a b → c < I → ρ (kd (nxT y a c)) (nxT p b c) := fun a b c ⟨ha, hka, hb, hab⟩ hc => by
    obtain ⟨a1, a2, a3⟩ := hkk _ (hyl a ha c hc)
    exact ⟨a1, a3, hN b hb c hc, a2.trans (hab.step hc)⟩
  have hkey : ∀ a b a' b', ρ a b → ρ a' b' → (id a = id a' ↔ cls b = cls b') := fun a b a' b' ⟨ha, hka, hb, hab⟩ ⟨ha', hka', hb', hab'⟩ => by
    show a = a' ↔ _
    rw [hcl b b' hb hb']
    constructor
    · intro e; subst e; exact hab.symm.trans hab'
    · intro e
      have h1 : BisT y I a a' := hab.trans (BisX.trans e hab'.symm)
      have h2 := (hkd.bis a a' ha ha').2 h1
      rw [hka, hka'] at h2; exact h2
  have hb := beside_bfs (κ1 := id) (κ2 := cls) (δ1 := fun s l => kd (nxT y s l)) (δ2 := nxT p) (l := I) h0 hs hkey
  have hk23 : k2 = k3 := by
    rcases Nat.lt_trichotomy k2 k3 with h | h | h
    · have h1 := e3.go k2 h; have h2 := (hb k2).1; have h3 := e2.len; omega
    · exact h
    · have h1 := e2.go k3 h; have h2 := (hb k3).1; have h3 := e3.len; omega
  have hres := (beside_res (κ1 := id) (κ2 := cls) (δ1 := fun s l => kd (nxT y s l)) (δ2 := nxT p) (l := I) (m1 := fun _ => true) (m2 := fun _ => true) h0 hs hkey (fun _ _ _ => rfl) e2 e3).1
  subst hk23
  obtain ⟨hbl, hbr⟩ := hb k2
  have hk2 : 1 ≤ k2 := by
    rcases Nat.eq_zero_or_pos k2 with h | h
    · subst h; have := e2.len; simp [bfsL] at this
    · exact h
  refine ⟨?_, ?_, hk2⟩
  · unfold ofK
    rw [hres]
    congr 1
    · refine List.ext_getElem (by simp [hbl]) fun i h1 h2 => ?_
      have hi1 : i < (bfsL id (fun s l => kd (nxT y s l)) I (kd 0) k2).length := by simpa using h1
      have hi2 : i < (bfsL cls (nxT p) I s0 k2).length := by rw [← hbl]; exact hi1
      have h3 := (hbr i hi1).2.2.2.now.2
      rw [List.getElem_map, List.getElem_map]
      refine List.map_congr_left fun c hc => ?_
      have h4 := h3 c (List.mem_range.1 hc)
      simpa [List.getD, hi1, hi2] using h4
    · refine List.ext_getElem (by simp [hbl]) fun i h1 h2 => ?_
      have hi1 : i < (bfsL id (fun s l => kd (nxT y s l)) I (kd 0) k2).length := by simpa using h1
      have hi2 : i < (bfsL cls (nxT p) I s0 k2).length := by rw [← hbl]; exact hi1
      have h3 := (hbr i hi1).2.2.2.now.1
      rw [List.getElem_map, List.getElem_map]
      simpa [List.getD, hi1, hi2] using h3
  · refine ofK_bis e2 ρ (fun a b h => ⟨h.2.2.2.now.1, fun c hc => ⟨h.2.2.2.now.2 c hc, hs a b c h hc⟩⟩) (by omega) ?_
    obtain ⟨zs, hz⟩ := bfsL_le id (fun s l => kd (nxT y s l)) I (kd 0) (Nat.zero_le k2)
    rw [hz]
    exact h0

end Go.Proofs.Ytkcbdfgbmaeodaa
