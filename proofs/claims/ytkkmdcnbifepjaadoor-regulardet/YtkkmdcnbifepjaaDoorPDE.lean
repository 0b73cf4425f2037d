/- What holds while the reference finds the places: bounds, boxes, rows (R15.Places). -/
/- The automaton of the places, as the reference writes it down at the end (R15.Places). -/
import Derived.Test.YtkkmdcnbifepjaaDoorPRg
import Derived.Test.YtkkmdcnbifepjaaDoorESm
import Derived.Test.YtkkmdcnbifepjaaDoorPTab
import Derived.Test.YtkkmdcnbifepjaaDoorLOfs
import Derived.Test.YtkkmdcnbifepjaaDoorUs
namespace Go.Proofs.YtkkmdcnbifepjaaDoor
open Go.RowKit
set_option linter.unusedVariables false

/-- Every part lies in the whole. -/
theorem means_all {ps : List PartR} {st k : Nat} {m : Rx} (h : Means ps st k m) : ∀ x, st ≤ x → x ≤ k → ∃ st' m', Means ps st' x m' := by
  have lists : ∀ {st : Nat} {qs : List Nat} {ms : List Rx}, (∀ i, i < ms.length → ∀ x, begK st qs i ≤ x → x ≤ qs.getD i 0 → ∃ st' m', Means ps st' x m') → ∀ t, t ≤ ms.length → ∀ x, st ≤ x → x < begK st qs t → ∃ st' m', Means ps st' x m' := by
    intro st qs ms ih t
    induction t with
    | zero => intro _ x h1 h2; have : begK st qs 0 = st := rfl; omega
    | succ t iht =>
      intro ht x h1 h2
      have eb : begK st qs (t + 1) = qs.getD t 0 + 1 := by unfold begK; rw [if_neg (by omega), Nat.add_sub_cancel]
      by_cases hx : x < begK st qs t
      · exact iht (by omega) x h1 hx
      · exact ih t (by omega) x (by omega) (by omega)
  induction h with
  | none k p h hk => intro x h1 h2; obtain rfl : x = k := (by omega); exact ⟨_, _, .none x p h hk⟩
  | empty k p h hk => intro x h1 h2; obtain rfl : x = k := (by omega); exact ⟨_, _, .empty x p h hk⟩
  | letter k p h hk => intro x h1 h2; obtain rfl : x = k := (by omega); exact ⟨_, _, .letter x p h hk⟩
  | either st k p qs ms h hk h0 hq hl hm he ih =>
    intro x h1 h2
    by_cases e : x = k
    · subst e; exact ⟨_, _, .either st x p qs ms h hk h0 hq hl hm he⟩
    · exact lists ih ms.length (Nat.le_refl _) x h1 (by omega)
  | row st k p qs ms h hk h0 hq hl hm he ih =>
    intro x h1 h2
    by_cases e : x = k
    · subst e; exact ⟨_, _, .row st x p qs ms h hk h0 hq hl hm he⟩
    · exact lists ih ms.length (Nat.le_refl _) x h1 (by omega)
  | star st k p q m h hk hq hm he ih =>
    intro x h1 h2
    by_cases e : x = k
    · subst e; exact ⟨_, _, .star st x p q m h hk hq hm he⟩
    · exact ih x h1 (by omega)
/-- A part of the list: its kind, and its kids lie ahead of it. -/
inductive POk (i : Nat) (p : PartR) : Prop
  | none (h : p.kind = 0)
  | empty (h : p.kind = 1)
  | letter (h : p.kind = 2)
  | either (h : p.kind = 3) (h0 : 0 < p.kids.length) (hl : p.kids.length ≤ 4001) (hk : ∀ t, t < p.kids.length → ∃ q : Nat, p.kids.getD t 0 = (q : Int) ∧ q < i)
  | row (h : p.kind = 4) (h0 : 0 < p.kids.length) (hl : p.kids.length ≤ 4001) (hk : ∀ t, t < p.kids.length → ∃ q : Nat, p.kids.getD t 0 = (q : Int) ∧ q < i)
  | star (h : p.kind = 5) (q : Nat) (hk : p.kids = [Int.ofNat q]) (hq : q < i)
theorem means_ok {ps : List PartR} {st k : Nat} {m : Rx} (h : Means ps st k m) : ∃ p, ps[k]? = some p ∧ POk k p := by
  have lists : ∀ {st k : Nat} {qs : List Nat} {ms : List Rx} {p : PartR}, p.kids = qs.map Int.ofNat → qs.length = ms.length → (∀ i, i < ms.length → Means ps (begK st qs i) (qs.getD i 0) (ms.getD i noneS)) → begK st qs ms.length = k → ∀ t, t < p.kids.length → ∃ q : Nat, p.kids.getD t 0 = (q : Int) ∧ q < k := by
    intro st k qs ms p hq hl hm he t ht
    have htl : t < qs.length := by rw [hq, List.length_map] at ht; exact ht
    refine ⟨qs.getD t 0, by rw [hq]; simp [List.getD, htl], ?_⟩
    have go : ∀ d t, t + d + 1 = ms.length → qs.getD t 0 < k := by
      intro d
      induction d with
      | zero =>
        intro t ht
        have : begK st qs ms.length = qs.getD t 0 + 1 := by unfold begK; rw [if_neg (by omega)]; congr 2; omega
        omega
      | succ d ihd =>
        intro t ht
        have h1 := ihd (t + 1) (by omega)
        have h2 := (means_seg (hm (t + 1) (by omega))).1
        have : begK st qs (t + 1) = qs.getD t 0 + 1 := by unfold begK; rw [if_neg (by omega), Nat.add_sub_cancel]
        omega
    exact go (ms.length - t - 1) t (by omega)
  cases h with
  | none _ p h hk => exact ⟨p, h, .none hk⟩
  | empty _ p h hk => exact ⟨p, h, .empty hk⟩
  | letter _ p h hk => exact ⟨p, h, .letter hk⟩
  | either _ _ p qs ms h hk h0 hq hl hm he => exact ⟨p, h, .either hk (by rw [hq, List.length_map, hl]; exact h0.1) (by rw [hq, List.length_map, hl]; exact h0.2) (lists hq hl hm he)⟩
  | row _ _ p qs ms h hk h0 hq hl hm he => exact ⟨p, h, .row hk (by rw [hq, List.length_map, hl]; exact h0.1) (by rw [hq, List.length_map, hl]; exact h0.2) (lists hq hl hm he)⟩
  | star _ _ p q m h hk hq hm he => exact ⟨p, h, .star hk q hq (by omega)⟩

/-- All sets are small. -/
structure Bnd (S : PS) : Prop where
  fs : ∀ k, (S.es.getD k e0).first < 2048
  ls : ∀ k, (S.es.getD k e0).last < 2048
  bh : ∀ j, S.bh j < 2048
theorem kid_bnd {S : PS} (h : Bnd S) (kids : List Int) (t : Nat) : (kidE S.es kids t).first < 2048 ∧ (kidE S.es kids t).last < 2048 := ⟨h.fs _, h.ls _⟩
theorem alt_bnd {S : PS} (h : Bnd S) (kids : List Int) : ∀ t, (altK S.es kids t).first < 2048 ∧ (altK S.es kids t).last < 2048
  | 0 => ⟨by simp [altK, e0], by simp [altK, e0]⟩
  | t + 1 => by
    obtain ⟨h1, h2⟩ := alt_bnd h kids t
    obtain ⟨h3, h4⟩ := kid_bnd h kids t
    exact ⟨or_2048 h1 h3, or_2048 h2 h4⟩
theorem cat_bnd {S : PS} (h : Bnd S) (kids : List Int) : ∀ t, (catK S.es kids t).first < 2048 ∧ (catK S.es kids t).last < 2048
  | 0 => ⟨by simp [catK], by simp [catK]⟩
  | t + 1 => by
    obtain ⟨h1, h2⟩ := cat_bnd h kids t
    obtain ⟨h3, h4⟩ := kid_bnd h kids t
    refine ⟨?_, ?_⟩
    · show (if _ then _ else _) < 2048
      split
      · exact or_2048 h1 h3
      · exact h1
    · show (if _ then _ else _) < 2048
      split
      · exact or_2048 h2 h4
      · exact h4
theorem folF_bnd {bh : Nat → Nat} (h : ∀ j, bh j < 2048) (s : Nat) {t : Nat} (ht : t < 2048) (j : Nat) : folF bh s t j < 2048 := by
  unfold folF
  split
  · exact or_2048 (h j) ht
  · exact h j
theorem folK_bnd {S : PS} (h : Bnd S) (kids : List Int) : ∀ t j, folK S.bh S.es kids t j < 2048
  | 0, j => h.bh j
  | t + 1, j => folF_bnd (folK_bnd h kids t) _ (kid_bnd h kids t).1 j
theorem bnd_app {es : List Rch} {r : Rch} (k : Nat) : ((es ++ [r]).getD k e0) = es.getD k e0 ∨ (es ++ [r]).getD k e0 = r ∨ (es ++ [r]).getD k e0 = e0 := by
  by_cases h : k < es.length
  · exact .inl (by simp [List.getD, List.getElem?_append_left h])
  · by_cases h2 : k = es.length
    · subst h2; exact .inr (.inl (by simp [List.getD]))
    · exact .inr (.inr (by simp only [List.getD]; rw [List.getElem?_eq_none (by simp; omega)]; rfl))
theorem Bnd.app {S : PS} (h : Bnd S) {bh : Nat → Nat} {sg : Nat → Int} {a : Nat} {r : Rch} (hb : ∀ j, bh j < 2048) (h1 : r.first < 2048) (h2 : r.last < 2048) : Bnd ⟨bh, sg, a, S.es ++ [r]⟩ := by
  refine ⟨fun k => ?_, fun k => ?_, hb⟩
  · rcases bnd_app (es := S.es) (r := r) k with e | e | e <;> simp only [e]
    · exact h.fs k
    · exact h1
    · simp [e0]
  · rcases bnd_app (es := S.es) (r := r) k with e | e | e <;> simp only [e]
    · exact h.ls k
    · exact h2
    · simp [e0]
theorem run_bnd (ps : List PartR) : ∀ i, (runS ps i).at_ ≤ 10 → Bnd (runS ps i)
  | 0, _ => ⟨fun k => by simp [runS, e0], fun k => by simp [runS, e0], fun j => by simp [runS]⟩
  | i + 1, h => by
    have hle : (runS ps i).at_ ≤ (runS ps (i + 1)).at_ := by
      show _ ≤ (stepS _ _).at_
      unfold stepS
      split
      · exact Nat.le_refl _
      · split
        · exact Nat.le_succ _
        · split
          · exact Nat.le_refl _
          · split
            · exact Nat.le_refl _
            · split <;> exact Nat.le_refl _
    have ih := run_bnd ps i (by omega)
    have hp : 2 ^ (runS ps i).at_ < 2048 := by
      have : 2 ^ (runS ps i).at_ < 2 ^ 11 := Nat.pow_lt_pow_right (by decide) (by omega)
      simpa using this
    show Bnd (stepS _ _)
    unfold stepS
    split
    · exact ih.app ih.bh (Nat.zero_lt_succ _) (Nat.zero_lt_succ _)
    · split
      · exact ih.app ih.bh hp hp
      · split
        · exact ih.app ih.bh (alt_bnd ih _ _).1 (alt_bnd ih _ _).2
        · split
          · exact ih.app (folK_bnd ih _ _) (cat_bnd ih _ _).1 (cat_bnd ih _ _).2
          · split
            · exact ih.app (folF_bnd ih.bh _ (kid_bnd ih _ _).1) (kid_bnd ih _ _).1 (kid_bnd ih _ _).2
            · exact ih.app ih.bh (by simp [e0]) (by simp [e0])
theorem at_mono (ps : List PartR) : ∀ d i, (runS ps i).at_ ≤ (runS ps (i + d)).at_
  | 0, i => Nat.le_refl _
  | d + 1, i => by
    refine Nat.le_trans (at_mono ps d i) ?_
    show _ ≤ (stepS _ _).at_
    unfold stepS
    split
    · exact Nat.le_refl _
    · split
      · exact Nat.le_succ _
      · split
        · exact Nat.le_refl _
        · split
          · exact Nat.le_refl _
          · split <;> exact Nat.le_refl _
theorem at_le (ps : List PartR) {i j : Nat} (h : i ≤ j) : (runS ps i).at_ ≤ (runS ps j).at_ := by
  have := at_mono ps (j - i) i
  rwa [show i + (j - i) = j by omega] at this

/-- What was found, flat: three cells each. -/
def flatE (es : List Rch) : List Value := es.flatMap fun r => [.bool r.empty, .int .i64 (r.first : Int), .int .i64 (r.last : Int)]
theorem flatE_app (es : List Rch) (r : Rch) : flatE (es ++ [r]) = flatE es ++ [.bool r.empty, .int .i64 (r.first : Int), .int .i64 (r.last : Int)] := by simp [flatE]
theorem flatE_len (es : List Rch) : (flatE es).length = es.length * 3 := by
  induction es with
  | nil => rfl
  | cons p es ih => simp [flatE] at ih ⊢; omega
theorem flatE_get : ∀ (es : List Rch) {k : Nat}, k < es.length → (flatE es)[k * 3]? = some (.bool (es.getD k e0).empty) ∧ (flatE es)[k * 3 + 1]? = some (.int .i64 ((es.getD k e0).first : Int)) ∧ (flatE es)[k * 3 + 2]? = some (.int .i64 ((es.getD k e0).last : Int))
  | [], k, h => by simp at h
  | r :: es, 0, h => ⟨rfl, rfl, rfl⟩
  | r :: es, k + 1, h => by
    have ih := flatE_get es (k := k) (by simpa using h)
    have e : ∀ x, (flatE (r :: es))[(k + 1) * 3 + x]? = (flatE es)[k * 3 + x]? := fun x => by
      show (([Value.bool r.empty, .int .i64 (r.first : Int), .int .i64 (r.last : Int)] : List Value) ++ flatE es)[(k + 1) * 3 + x]? = _
      rw [List.getElem?_append_right (by simp; omega)]
      congr 1
      simp; omega
    have e0' := e 0
    simp only [Nat.add_zero] at e0'
    exact ⟨e0'.trans ih.1, (e 1).trans ih.2.1, (e 2).trans ih.2.2⟩

/-- A box of what is being found. -/
def C3 (W : World) (b : Nat) (r : Rch) : Prop := W.heap[b]? = some (.cells #[.bool r.empty, .int .i64 (r.first : Int), .int .i64 (r.last : Int)] 100 (0, 0))
section
variable {W W' : World} {b : Nat} {r : Rch}
theorem C3.lt (h : C3 W b r) : b < W.heap.size := (Array.getElem?_eq_some_iff.1 h).1
theorem C3.get (h : C3 W b r) : W.cell? ⟨b, 0, none⟩ = some (.bool r.empty) ∧ W.cell? ⟨b, 1, none⟩ = some (.int .i64 (r.first : Int)) ∧ W.cell? ⟨b, 2, none⟩ = some (.int .i64 (r.last : Int)) :=
  ⟨by rw [cell_of_row _ _ _ _ _ (0, 0) h]; rfl, by rw [cell_of_row _ _ _ _ _ (0, 0) h]; rfl, by rw [cell_of_row _ _ _ _ _ (0, 0) h]; rfl⟩
theorem C3.fz (h : C3 W b r) (k : Nat) : W.frozen? ⟨b, k, none⟩ = false := frozen_of_row _ _ k _ _ h
theorem C3.turn {S : Nat → Prop} (h : C3 W b r) (ht : Turn S W W') (hS : ¬ S b) : C3 W' b r := (ht.block b h.lt hS).trans h
theorem C3.kept (h : C3 W b r) (hg : W.grownBy W' none) : C3 W' b r := (hg.block b h.lt (by simp)).trans h
theorem C3.set0 (h : C3 W b r) (e : Bool) : C3 (W.setCell ⟨b, 0, none⟩ (.bool e)) b ⟨r.first, r.last, e⟩ := by
  unfold C3 at h ⊢; rw [heap_setCell_same W b 0 _ _ _ h]; rfl
theorem C3.set1 (h : C3 W b r) {x : Int} (f : Nat) (hx : x = (f : Int)) : C3 (W.setCell ⟨b, 1, none⟩ (.int .i64 x)) b ⟨f, r.last, r.empty⟩ := by
  subst hx; unfold C3 at h ⊢; rw [heap_setCell_same W b 1 _ _ _ h]; rfl
theorem C3.set2 (h : C3 W b r) {x : Int} (f : Nat) (hx : x = (f : Int)) : C3 (W.setCell ⟨b, 2, none⟩ (.int .i64 x)) b ⟨r.first, f, r.empty⟩ := by
  subst hx; unfold C3 at h ⊢; rw [heap_setCell_same W b 2 _ _ _ h]; rfl
end
theorem c3_new (w : World) (r : Rch) : C3 (w.alloc (.cells #[.bool r.empty, .int .i64 (r.first : Int), .int .i64 (r.last : Int)] 100)) w.heap.size r := heap_alloc_new w _
/-- What is found of the parts lies at v, of one's own. -/
theorem ends_get {B : Nat} {w : World} {a : Option Addr} {n c : Nat} {es : List Rch} (h : w.ownsRow B 100 3 (.slice a n c) n (flatE es)) {k : Nat} (hk : k < es.length) (hn : es.length = n) :
    ∃ g, a = some ⟨g, 0, none⟩ ∧ B ≤ g ∧ g < w.heap.size ∧ w.cell? ⟨g, k * 3, none⟩ = some (.bool (es.getD k e0).empty) ∧ w.cell? ⟨g, k * 3 + 1, none⟩ = some (.int .i64 ((es.getD k e0).first : Int)) ∧ w.cell? ⟨g, k * 3 + 2, none⟩ = some (.int .i64 ((es.getD k e0).last : Int)) := by
  obtain ⟨g, cap, e, hg, hlt⟩ := h.form (by omega)
  cases e
  have hc : ∀ j u, (flatE es)[j]? = some u → w.cell? ⟨g, j, none⟩ = some u := by
    intro j u hu
    have := h.cells (g := g) rfl j u hu
    have hadd : (⟨g, 0, none⟩ : Addr).add j = ⟨g, j, none⟩ := by
      by_cases h0 : j = 0
      · subst h0; simp [Addr.add]
      · simp [Addr.add, h0]
    rwa [hadd] at this
  obtain ⟨f1, f2, f3⟩ := flatE_get es hk
  exact ⟨g, rfl, hg, hlt, hc _ _ f1, hc _ _ f2, hc _ _ f3⟩

/-- Numbers as the machine has them. -/
theorem wraps_P (n : Int) (h0 : 0 ≤ n) (h1 : n < 2 ^ 62) : IntKind.i64.wrap n = n := by rw [IntKind.wrap_i64]; omega
theorem orP {s t : Nat} (hs : s < 4096) (ht : t < 4096) : bits .or .i64 (s : Int) (t : Int) = ((s ||| t : Nat) : Int) := (bits_nat .i64 62 (by decide) wraps_P s t (by omega) (by omega)).2
theorem andP {s t : Nat} (hs : s < 4096) (ht : t < 4096) : bits .and .i64 (s : Int) (t : Int) = ((s &&& t : Nat) : Int) := (bits_nat .i64 62 (by decide) wraps_P s t (by omega) (by omega)).1
theorem pow_ltP {x : Nat} (hx : x < 12) : 2 ^ x < 4096 := by
  have : 2 ^ x < 2 ^ 12 := Nat.pow_lt_pow_right (by decide) hx
  simpa using this
theorem pow_wrapP {x : Nat} (hx : x < 12) : IntKind.i64.wrap ((2 : Int) ^ x) = ((2 ^ x : Nat) : Int) := by
  have h1 := pow_ltP hx
  have h2 : ((2 : Int) ^ x) = ((2 ^ x : Nat) : Int) := by simp
  rw [h2, IntKind.wrap_i64]
  generalize 2 ^ x = y at *
  omega
theorem shr_bitP {s x : Nat} (hs : s < 4096) : bits .and .i64 ((s : Int) / 2 ^ x) 1 = (if s.testBit x = true then 1 else 0) := by
  have h1 : (s : Int) / 2 ^ x = ((s / 2 ^ x : Nat) : Int) := by simp
  have h2 : s / 2 ^ x < 4096 := Nat.lt_of_le_of_lt (Nat.div_le_self _ _) hs
  rw [h1, show (1 : Int) = ((1 : Nat) : Int) from rfl, andP h2 (by omega), Nat.and_one_is_mod]
  rw [Nat.testBit_eq_decide_div_mod_eq]
  by_cases e : s / 2 ^ x % 2 = 1
  · simp [e]
  · have : s / 2 ^ x % 2 = 0 := by omega
    simp [this]

end Go.Proofs.YtkkmdcnbifepjaaDoor

namespace Go.Proofs.YtkkmdcnbifepjaaDoor
open Go.RowKit
set_option linter.unusedVariables false

/-- The steps from one place, to the places below k. -/
def rowSt (fr : Nat) (sg : Nat → Int) (j : Nat) : Nat → List StepI
  | 0 => []
  | k + 1 => rowSt fr sg j k ++ (if fr.testBit k = true then [((j : Int), sg k, (k : Int))] else [])
def frP (n : Nat) (bh : Nat → Nat) (first j : Nat) : Nat := if j < n then bh j else first
def stpP (n : Nat) (S : PS) (r : Rch) : Nat → List StepI
  | 0 => []
  | j + 1 => stpP n S r j ++ rowSt (frP n S.bh r.first j) S.sg j n
def finB (n : Nat) (r : Rch) (j : Nat) : Bool := if j < n then r.last.testBit j else r.empty
def finP (n : Nat) (r : Rch) : Nat → List Int
  | 0 => []
  | j + 1 => finP n r j ++ (if finB n r j = true then [(j : Int)] else [])
theorem rowSt_len (fr : Nat) (sg : Nat → Int) (j : Nat) : ∀ k, (rowSt fr sg j k).length ≤ k
  | 0 => Nat.le_refl _
  | k + 1 => by
    have := rowSt_len fr sg j k
    unfold rowSt
    split <;> simp <;> omega
theorem stpP_len (n : Nat) (S : PS) (r : Rch) : ∀ j, (stpP n S r j).length ≤ j * n
  | 0 => Nat.zero_le _
  | j + 1 => by
    have h1 := stpP_len n S r j
    have h2 := rowSt_len (frP n S.bh r.first j) S.sg j n
    show (stpP n S r j ++ rowSt (frP n S.bh r.first j) S.sg j n).length ≤ _
    rw [List.length_append, Nat.succ_mul]; omega
theorem finP_len (n : Nat) (r : Rch) : ∀ j, (finP n r j).length ≤ j
  | 0 => Nat.le_refl _
  | j + 1 => by
    have := finP_len n r j
    unfold finP
    split <;> simp <;> omega
def flatS (T : List StepI) : List Value := T.flatMap fun x => [.int .i64 x.1, .int .i64 x.2.1, .int .i64 x.2.2]
theorem flatS_app (T : List StepI) (x : StepI) : flatS (T ++ [x]) = flatS T ++ [.int .i64 x.1, .int .i64 x.2.1, .int .i64 x.2.2] := by simp [flatS]
theorem flatS_get : ∀ (T : List StepI) {k : Nat}, k < T.length → (flatS T)[k * 3]? = some (.int .i64 (T.getD k (0, 0, 0)).1) ∧ (flatS T)[k * 3 + 1]? = some (.int .i64 (T.getD k (0, 0, 0)).2.1) ∧ (flatS T)[k * 3 + 2]? = some (.int .i64 (T.getD k (0, 0, 0)).2.2)
  | [], k, h => by simp at h
  | x :: T, 0, h => ⟨rfl, rfl, rfl⟩
  | x :: T, k + 1, h => by
    have ih := flatS_get T (k := k) (by simpa using h)
    have e : ∀ y, (flatS (x :: T))[(k + 1) * 3 + y]? = (flatS T)[k * 3 + y]? := fun y => by
      show (([Value.int .i64 x.1, .int .i64 x.2.1, .int .i64 x.2.2] : List Value) ++ flatS T)[(k + 1) * 3 + y]? = _
      rw [List.getElem?_append_right (by simp; omega)]
      congr 1
      simp; omega
    have e0' := e 0
    simp only [Nat.add_zero] at e0'
    exact ⟨e0'.trans ih.1, (e 1).trans ih.2.1, (e 2).trans ih.2.2⟩
theorem own_cells {B : Nat} {w : World} {e : TypeId} {size n c : Nat} {a : Option Addr} {xs : List Value} (h : w.ownsRow B e size (.slice a n c) n xs) (h0 : 0 < n) : ∃ g, a = some ⟨g, 0, none⟩ ∧ ∀ j u, xs[j]? = some u → w.cell? ⟨g, j, none⟩ = some u := by
  obtain ⟨g, cap, e, hg, hlt⟩ := h.form h0
  cases e
  refine ⟨g, rfl, fun j u hu => ?_⟩
  have := h.cells (g := g) rfl j u hu
  have hadd : (⟨g, 0, none⟩ : Addr).add j = ⟨g, j, none⟩ := by
    by_cases h0 : j = 0
    · subst h0; simp [Addr.add]
    · simp [Addr.add, h0]
  rwa [hadd] at this
theorem steps_of_own {B : Nat} {w : World} {e : TypeId} {n c : Nat} {a : Option Addr} {T : List StepI} (h : w.ownsRow B e 3 (.slice a n c) n (flatS T)) (hn : T.length = n) : StepsAt w a T := by
  by_cases h0 : T.length = 0
  · exact .inl (List.length_eq_zero_iff.1 h0)
  · obtain ⟨g, rfl, hc⟩ := own_cells h (by omega)
    refine .inr ⟨g, 0, rfl, fun i hi => ?_⟩
    obtain ⟨f1, f2, f3⟩ := flatS_get T hi
    exact ⟨by rw [Nat.zero_add]; exact hc _ _ f1, by rw [Nat.zero_add]; exact hc _ _ f2, by rw [Nat.zero_add]; exact hc _ _ f3⟩
theorem ints_of_own {B : Nat} {w : World} {e : TypeId} {n c : Nat} {a : Option Addr} {F : List Int} (h : w.ownsRow B e 1 (.slice a n c) n (vals F)) (hn : F.length = n) : Ints w a F := by
  by_cases h0 : F.length = 0
  · exact .inl (List.length_eq_zero_iff.1 h0)
  · obtain ⟨g, rfl, hc⟩ := own_cells h (by omega)
    exact .inr ⟨g, 0, rfl, fun i hi => by rw [Nat.zero_add]; exact hc _ _ (by simp [vals, List.getD, hi])⟩

/-- While the steps and the final states are written down. -/
structure PEn (w wr : World) (letters : Int) (n : Nat) (S : PS) (r : Rch) (aT : Option Addr) (cT : Nat) (aF : Option Addr) (cF : Nat) (T : List StepI) (F : List Int) (wz : World) : Prop where
  bh : RowB wz (w.heap.size + 1) 3 n n (fun j => .int .i64 (S.bh j : Int))
  sg : RowB wz (w.heap.size + 2) 3 n n (fun j => .int .i64 (S.sg j))
  gr : w.grownBy wz none
  rb : wz.heap[w.heap.size]? = some (.cells #[.int .i64 0, .int .i64 0, .slice none 0 0, .slice none 0 0, .slice none 0 0] 65 (0, 0))
  wb : C3 wz wr.heap.size r
  sb : wz.heap[wr.heap.size + 1]? = some (.cells #[.int .i64 (n : Int)] 3 (0, 0))
  ob : wz.heap[wr.heap.size + 2]? = some (.cells #[.int .i64 letters, .int .i64 ((n : Int) + 1), .slice (some ⟨wr.heap.size + 1, 0, none⟩) 1 1, .slice aT T.length cT, .slice aF F.length cF] 65 (0, 0))
  ts : wz.ownsRow (wr.heap.size + 3) 102 3 (.slice aT T.length cT) T.length (flatS T)
  fs : wz.ownsRow (wr.heap.size + 3) 3 1 (.slice aF F.length cF) F.length (vals F)
  ap : ∀ g, (Value.slice aT T.length cT).ownBlock = some g → (Value.slice aF F.length cF).ownBlock ≠ some g
  le : w.heap.size + 3 ≤ wr.heap.size
section
variable {w wr : World} {letters : Int} {n : Nat} {S : PS} {r : Rch} {aT aF : Option Addr} {cT cF : Nat} {T : List StepI} {F : List Int} {wz wz' : World}
theorem PEn.kept (h : PEn w wr letters n S r aT cT aF cF T F wz) (hg : wz.grownBy wz' none) : PEn w wr letters n S r aT cT aF cF T F wz' :=
  ⟨h.bh.kept hg, h.sg.kept hg, grown_trans h.gr hg, (hg.block _ (Array.getElem?_eq_some_iff.1 h.rb).1 (by simp)).trans h.rb, h.wb.kept hg, (hg.block _ (Array.getElem?_eq_some_iff.1 h.sb).1 (by simp)).trans h.sb, (hg.block _ (Array.getElem?_eq_some_iff.1 h.ob).1 (by simp)).trans h.ob, h.ts.kept hg (by cases aT <;> simp [Value.ownBlock]), h.fs.kept hg (by cases aF <;> simp [Value.ownBlock]), h.ap, h.le⟩
theorem PEn.box (h : PEn w wr letters n S r aT cT aF cF T F wz) : wz.cell? ⟨wr.heap.size + 2, 3, none⟩ = some (.slice aT T.length cT) ∧ wz.cell? ⟨wr.heap.size + 2, 4, none⟩ = some (.slice aF F.length cF) ∧ wz.frozen? ⟨wr.heap.size + 2, 3, none⟩ = false ∧ wz.frozen? ⟨wr.heap.size + 2, 4, none⟩ = false :=
  ⟨by rw [cell_of_row _ _ _ _ _ (0, 0) h.ob]; rfl, by rw [cell_of_row _ _ _ _ _ (0, 0) h.ob]; rfl, frozen_of_row _ _ _ _ _ h.ob, frozen_of_row _ _ _ _ _ h.ob⟩
theorem heap_old {o : Option Nat} {b : Nat} {x : Obj} (h : wz.heap[b]? = some x) (hg : wz.grownBy wz' o) (hb : ∀ g, o = some g → b ≠ g) : wz'.heap[b]? = some x := (hg.block _ (Array.getElem?_eq_some_iff.1 h).1 (fun e => hb b e.symm rfl)).trans h
/-- One step more. -/
theorem PEn.pushT {g cap H : Nat} {x : StepI} (h : PEn w wr letters n S r aT cT aF cF T F wz) (ho : wz'.ownsRow (wr.heap.size + 3) 102 3 (.slice (some ⟨g, 0, none⟩) (T.length + 1) cap) (T.length + 1) (flatS T ++ [.int .i64 x.1, .int .i64 x.2.1, .int .i64 x.2.2])) (hg : wz.grownBy wz' (Value.slice aT T.length cT).ownBlock) (hat : (Value.slice aT T.length cT).ownBlock = some g ∨ g = H) (hH : wz.heap.size ≤ H) :
    PEn w wr letters n S r (some ⟨g, 0, none⟩) cap aF cF (T ++ [x]) F (wz'.setCell ⟨wr.heap.size + 2, 3, none⟩ (.slice (some ⟨g, 0, none⟩) (T.length + 1) cap)) := by
  have hle := h.le
  have hlt : ∀ b, (Value.slice aT T.length cT).ownBlock = some b → wr.heap.size + 3 ≤ b := fun b hb => (h.ts.lt b hb).1
  have hs := grown_set wz' ⟨wr.heap.size + 2, 3, none⟩ (.slice (some ⟨g, 0, none⟩) (T.length + 1) cap)
  have hlen : (T ++ [x]).length = T.length + 1 := by simp
  have gr1 : w.grownBy wz' none := by
    cases hv : (Value.slice aT T.length cT).ownBlock with
    | none => rw [hv] at hg; exact grown_trans h.gr hg
    | some b => rw [hv] at hg; have := hlt b hv; exact grown_new h.gr hg (by omega)
  have obk : wz'.heap[wr.heap.size + 2]? = _ := heap_old h.ob hg fun b e => by have := hlt b e; omega
  refine ⟨(h.bh.grownO hg fun b e => by have := hlt b e; omega).other (by omega) _, (h.sg.grownO hg fun b e => by have := hlt b e; omega).other (by omega) _, grown_new gr1 hs (by show _ ≤ wr.heap.size + 2; omega), heap_old (heap_old h.rb hg fun b e => by have := hlt b e; omega) hs (fun b e => by simp at e; omega), ?_, heap_old (heap_old h.sb hg fun b e => by have := hlt b e; omega) hs (fun b e => by simp at e; omega), ?_, ?_, ?_, ?_, hle⟩
  · exact heap_old (heap_old h.wb hg fun b e => by have := hlt b e; omega) hs (fun b e => by simp at e; omega)
  · rw [heap_setCell_same _ _ 3 _ _ _ obk, hlen]; rfl
  · rw [hlen, flatS_app]; exact ownsRow_setCell_below ho (by show wr.heap.size + 2 < _; omega) _
  · refine ownsRow_setCell_below (h.fs.kept hg ?_) (by show wr.heap.size + 2 < _; omega) _
    cases hv : (Value.slice aF F.length cF).ownBlock with
    | none => exact .inl rfl
    | some b => exact .inr fun e => h.ap b e.symm hv
  · intro b hb hF
    simp only [Value.ownBlock, Option.some.injEq] at hb
    have hFb := (h.fs.lt b hF).2
    rcases hat with e | e
    · exact h.ap b (by rw [e, ← hb]) hF
    · have : g = b := by simpa using hb
      omega
/-- One final state more. -/
theorem PEn.pushF {g cap H : Nat} {x : Int} (h : PEn w wr letters n S r aT cT aF cF T F wz) (ho : wz'.ownsRow (wr.heap.size + 3) 3 1 (.slice (some ⟨g, 0, none⟩) (F.length + 1) cap) (F.length + 1) (vals F ++ [.int .i64 x])) (hg : wz.grownBy wz' (Value.slice aF F.length cF).ownBlock) (hat : (Value.slice aF F.length cF).ownBlock = some g ∨ g = H) (hH : wz.heap.size ≤ H) :
    PEn w wr letters n S r aT cT (some ⟨g, 0, none⟩) cap T (F ++ [x]) (wz'.setCell ⟨wr.heap.size + 2, 4, none⟩ (.slice (some ⟨g, 0, none⟩) (F.length + 1) cap)) := by
  have hle := h.le
  have hlt : ∀ b, (Value.slice aF F.length cF).ownBlock = some b → wr.heap.size + 3 ≤ b := fun b hb => (h.fs.lt b hb).1
  have hs := grown_set wz' ⟨wr.heap.size + 2, 4, none⟩ (.slice (some ⟨g, 0, none⟩) (F.length + 1) cap)
  have hlen : (F ++ [x]).length = F.length + 1 := by simp
  have gr1 : w.grownBy wz' none := by
    cases hv : (Value.slice aF F.length cF).ownBlock with
    | none => rw [hv] at hg; exact grown_trans h.gr hg
    | some b => rw [hv] at hg; have := hlt b hv; exact grown_new h.gr hg (by omega)
  have obk : wz'.heap[wr.heap.size + 2]? = _ := heap_old h.ob hg fun b e => by have := hlt b e; omega
  refine ⟨(h.bh.grownO hg fun b e => by have := hlt b e; omega).other (by omega) _, (h.sg.grownO hg fun b e => by have := hlt b e; omega).other (by omega) _, grown_new gr1 hs (by show _ ≤ wr.heap.size + 2; omega), heap_old (heap_old h.rb hg fun b e => by have := hlt b e; omega) hs (fun b e => by simp at e; omega), ?_, heap_old (heap_old h.sb hg fun b e => by have := hlt b e; omega) hs (fun b e => by simp at e; omega), ?_, ?_, ?_, ?_, hle⟩
  · exact heap_old (heap_old h.wb hg fun b e => by have := hlt b e; omega) hs (fun b e => by simp at e; omega)
  · rw [heap_setCell_same _ _ 4 _ _ _ obk, hlen]; rfl
  · refine ownsRow_setCell_below (h.ts.kept hg ?_) (by show wr.heap.size + 2 < _; omega) _
    cases hv : (Value.slice aT T.length cT).ownBlock with
    | none => exact .inl rfl
    | some b => exact .inr fun e => h.ap b hv e.symm
  · have e1 : vals (F ++ [x]) = vals F ++ [.int .i64 x] := by simp [vals]
    rw [hlen, e1]; exact ownsRow_setCell_below ho (by show wr.heap.size + 2 < _; omega) _
  · intro b hb hF
    simp only [Value.ownBlock, Option.some.injEq] at hF
    have hTb := (h.ts.lt b hb).2
    rcases hat with e | e
    · exact h.ap b hb (by rw [e, ← hF])
    · have : g = b := by simpa using hF
      omega
theorem PEn.done (h : PEn w wr letters n S r aT cT aF cF T F wz) (hg : wz.grownBy wz' (some w.heap.size)) (hT : T.length ≤ 1000) (hF : F.length ≤ 1000) : AutAt wz' ⟨letters, (n : Int) + 1, [(n : Int)], T, F⟩ (some ⟨wr.heap.size + 1, 0, none⟩) aT aF ∧ w.grownBy wz' none := by
  have hle := h.le
  have sb := heap_old h.sb hg (fun b e => by simp at e; omega)
  have ts := h.ts.kept hg (by
    cases hv : (Value.slice aT T.length cT).ownBlock with
    | none => exact .inl rfl
    | some b => exact .inr fun e => by have := (h.ts.lt b hv).1; simp at e; omega)
  have fs := h.fs.kept hg (by
    cases hv : (Value.slice aF F.length cF).ownBlock with
    | none => exact .inl rfl
    | some b => exact .inr fun e => by have := (h.fs.lt b hv).1; simp at e; omega)
  refine ⟨⟨.inr ⟨_, _, rfl, fun i hi => ?_⟩, steps_of_own ts rfl, ints_of_own fs rfl, by simp [maxLen], by unfold maxLen; simp only; omega, by unfold maxLen; simp only; omega⟩, grown_new h.gr hg (Nat.le_refl _)⟩
  have : i = 0 := by simpa using hi
  subst this
  rw [Nat.zero_add, cell_of_row _ _ 0 _ _ (0, 0) sb]; rfl
end
/-- Five cells are written. -/
theorem aut_store {W : World} {B : Nat} {T : TypeId} {a0 a1 a2 a3 a4 : Value} (hb : W.heap[B]? = some (.cells #[a0, a1, a2, a3, a4] T (0, 0))) (v0 v1 v2 v3 v4 : Value) :
    ∃ W', W' = ((((W.setCell ⟨B, 0, none⟩ v0).setCell ⟨B, 1, none⟩ v1).setCell ⟨B, 2, none⟩ v2).setCell ⟨B, 3, none⟩ v3).setCell ⟨B, 4, none⟩ v4 ∧ W.grownBy W' (some B) ∧ W'.cell? ⟨B, 0, none⟩ = some v0 ∧ W'.cell? ⟨B, 1, none⟩ = some v1 ∧ W'.cell? ⟨B, 2, none⟩ = some v2 ∧ W'.cell? ⟨B, 3, none⟩ = some v3 ∧ W'.cell? ⟨B, 4, none⟩ = some v4 := by
  have h0 : (W.setCell ⟨B, 0, none⟩ v0).heap[B]? = some (.cells #[v0, a1, a2, a3, a4] T (0, 0)) := by rw [heap_setCell_same W B 0 _ _ _ hb]; rfl
  have h1 : ((W.setCell ⟨B, 0, none⟩ v0).setCell ⟨B, 1, none⟩ v1).heap[B]? = some (.cells #[v0, v1, a2, a3, a4] T (0, 0)) := by rw [heap_setCell_same _ B 1 _ _ _ h0]; rfl
  have h2 : (((W.setCell ⟨B, 0, none⟩ v0).setCell ⟨B, 1, none⟩ v1).setCell ⟨B, 2, none⟩ v2).heap[B]? = some (.cells #[v0, v1, v2, a3, a4] T (0, 0)) := by rw [heap_setCell_same _ B 2 _ _ _ h1]; rfl
  have h3 : ((((W.setCell ⟨B, 0, none⟩ v0).setCell ⟨B, 1, none⟩ v1).setCell ⟨B, 2, none⟩ v2).setCell ⟨B, 3, none⟩ v3).heap[B]? = some (.cells #[v0, v1, v2, v3, a4] T (0, 0)) := by rw [heap_setCell_same _ B 3 _ _ _ h2]; rfl
  have h4 : (((((W.setCell ⟨B, 0, none⟩ v0).setCell ⟨B, 1, none⟩ v1).setCell ⟨B, 2, none⟩ v2).setCell ⟨B, 3, none⟩ v3).setCell ⟨B, 4, none⟩ v4).heap[B]? = some (.cells #[v0, v1, v2, v3, v4] T (0, 0)) := by rw [heap_setCell_same _ B 4 _ _ _ h3]; rfl
  have gs : ∀ {a b : World} (o : Nat) (v : Value), a.grownBy b (some B) → a.grownBy (b.setCell ⟨B, o, none⟩ v) (some B) := fun o v h => grown_trans h (grown_set _ ⟨B, o, none⟩ v)
  exact ⟨_, rfl, gs 4 v4 (gs 3 v3 (gs 2 v2 (gs 1 v1 (grown_set W ⟨B, 0, none⟩ v0)))), by rw [cell_of_row _ _ _ _ _ (0, 0) h4]; rfl, by rw [cell_of_row _ _ _ _ _ (0, 0) h4]; rfl, by rw [cell_of_row _ _ _ _ _ (0, 0) h4]; rfl, by rw [cell_of_row _ _ _ _ _ (0, 0) h4]; rfl, by rw [cell_of_row _ _ _ _ _ (0, 0) h4]; rfl⟩
/-- What Places answers: the automaton of the places. -/
def PlcPost (letters : Int) (n : Nat) (S : PS) (w : World) (E : Ending) (w' : World) : Prop :=
  ∃ a c b d e f, E = .returned (autV letters ((n : Int) + 1) a 1 c b (stpP n S (S.es.getD (S.es.length - 1) e0) (n + 1)).length d e (finP n (S.es.getD (S.es.length - 1) e0) (n + 1)).length f) ∧
    AutAt w' ⟨letters, (n : Int) + 1, [(n : Int)], stpP n S (S.es.getD (S.es.length - 1) e0) (n + 1), finP n (S.es.getD (S.es.length - 1) e0) (n + 1)⟩ a b e ∧ w.grownBy w' none

end Go.Proofs.YtkkmdcnbifepjaaDoor
