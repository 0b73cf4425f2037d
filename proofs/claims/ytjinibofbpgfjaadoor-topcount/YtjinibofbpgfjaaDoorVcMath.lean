/- How many words an automaton accepts, as what a word weighs: no program. -/
import Derived.Test.YtjinibofbpgfjaaDoorDSpec
import Derived.Test.YtjinibofbpgfjaaDoorWeSpec
namespace Go.Proofs.YtjinibofbpgfjaaDoor
set_option linter.unusedVariables false

theorem dot_add (m : Nat) : ∀ (f g : Nat → Int) (c : List Int), dotW ((List.range m).map fun k => f k + g k) c = dotW ((List.range m).map f) c + dotW ((List.range m).map g) c := by
  induction m with
  | zero => intro f g c; rfl
  | succ m ih =>
    intro f g c
    rw [List.range_succ_eq_map]
    cases c with
    | nil => simp [dotW_nil]
    | cons y c =>
      simp only [List.map_cons, List.map_map]
      show (f 0 + g 0) * y + dotW ((List.range m).map fun k => f (k + 1) + g (k + 1)) c = f 0 * y + dotW ((List.range m).map fun k => f (k + 1)) c + (g 0 * y + dotW ((List.range m).map fun k => g (k + 1)) c)
      rw [ih, Int.add_mul]
      omega
theorem dot_scale (x : Int) : ∀ (t c : List Int) (m : Nat), t.length = m → dotW ((List.range m).map fun k => x * t.getD k 0) c = x * dotW t c := by
  intro t
  induction t with
  | nil => intro c m h; subst h; show (0 : Int) = x * 0; rw [Int.mul_zero]
  | cons u t ih =>
    intro c m h
    subst h
    rw [List.length_cons, List.range_succ_eq_map]
    cases c with
    | nil => simp [dotW_nil]
    | cons y c =>
      simp only [List.map_cons, List.map_map]
      show x * u * y + dotW ((List.range t.length).map fun k => x * t.getD k 0) c = x * (u * y + dotW t c)
      rw [ih c t.length rfl, Int.mul_add, Int.mul_assoc]
def byM (m : Nat) (r : List Int) (T : List (List Int)) : List Int := (List.range m).map fun k => dotW r (colW T k)
theorem dot_zeros (m : Nat) (c : List Int) : dotW ((List.range m).map fun _ => 0) c = 0 := by
  have h := dot_scale 0 (List.replicate m 0) c m (by simp)
  rw [Int.zero_mul] at h
  have e : ((List.range m).map fun k => (0 : Int) * (List.replicate m (0 : Int)).getD k 0) = (List.range m).map fun _ => 0 := List.map_congr_left fun k _ => by rw [Int.zero_mul]
  rw [e] at h
  exact h
theorem dot_by (m : Nat) (c : List Int) : ∀ (r : List Int) (T : List (List Int)), r.length = T.length → (∀ t, t ∈ T → t.length = m) → dotW (byM m r T) c = dotW r (T.map fun t => dotW t c) := by
  intro r
  induction r with
  | nil =>
    intro T h _
    cases T with
    | nil => exact dot_zeros m c
    | cons => simp at h
  | cons x r ih =>
    intro T h ht
    cases T with
    | nil => simp at h
    | cons t T =>
      have e : byM m (x :: r) (t :: T) = (List.range m).map fun k => x * t.getD k 0 + dotW r (colW T k) := rfl
      rw [e, dot_add, dot_scale x t c m (ht t List.mem_cons_self)]
      show x * dotW t c + dotW (byM m r T) c = x * dotW t c + dotW r (T.map fun t => dotW t c)
      rw [ih T (by simpa using h) fun t ht2 => ht t (List.mem_cons_of_mem _ ht2)]
/-- The numbers of accepted words, from each state on. -/
def cvN (d : Dfa) (N : Nat) : List Int := (List.range d.R.length).map fun q => ((d.cnt N q : Nat) : Int)
theorem ind_dot (j : Nat) : ∀ (m : Nat) (c : List Int), j < m → c.length = m → dotW ((List.range m).map fun k => if k = j then 1 else 0) c = c.getD j 0 := by
  induction j with
  | zero =>
    intro m c hj hc
    obtain ⟨m, rfl⟩ : ∃ k, m = k + 1 := ⟨m - 1, by omega⟩
    rw [List.range_succ_eq_map]
    cases c with
    | nil => simp at hc
    | cons y c =>
      simp only [List.map_cons, List.map_map]
      show (1 : Int) * y + dotW ((List.range m).map fun k => if k + 1 = 0 then 1 else 0) c = y
      have e : ((List.range m).map fun k => if k + 1 = 0 then (1 : Int) else 0) = (List.range m).map fun _ => 0 := List.map_congr_left fun k _ => by rw [if_neg (by omega)]
      rw [e, dot_zeros]
      omega
  | succ j ih =>
    intro m c hj hc
    obtain ⟨m, rfl⟩ : ∃ k, m = k + 1 := ⟨m - 1, by omega⟩
    rw [List.range_succ_eq_map]
    cases c with
    | nil => simp at hc
    | cons y c =>
      simp only [List.map_cons, List.map_map]
      show (if 0 = j + 1 then (1 : Int) else 0) * y + dotW ((List.range m).map fun k => if k + 1 = j + 1 then 1 else 0) c = c.getD j 0
      have e : ((List.range m).map fun k => if k + 1 = j + 1 then (1 : Int) else 0) = (List.range m).map fun k => if k = j then 1 else 0 := List.map_congr_left fun k _ => by
        by_cases h : k = j
        · rw [if_pos h, if_pos (by omega)]
        · rw [if_neg h, if_neg (by omega)]
      rw [e, ih m c (by omega) (by simpa using hc), if_neg (by omega)]
      omega
/-- How many of the first l letters lead from a state to each. -/
def cntl (d : Dfa) (q l j : Nat) : Nat := sumTo l fun a => if d.nx q a = j then 1 else 0
def rowC (d : Dfa) (q l : Nat) : List Int := (List.range d.R.length).map fun j => ((cntl d q l j : Nat) : Int)
theorem cntl_succ (d : Dfa) (q l j : Nat) : cntl d q (l + 1) j = cntl d q l j + if d.nx q l = j then 1 else 0 := by unfold cntl; simp [sumTo]
theorem cntl_le (d : Dfa) (q l j : Nat) : cntl d q l j ≤ l := by
  induction l with
  | zero => exact Nat.le_refl _
  | succ l ih => rw [cntl_succ]; split <;> omega
theorem rowC_len (d : Dfa) (q l : Nat) : (rowC d q l).length = d.R.length := by unfold rowC; simp
theorem rowC_zero (d : Dfa) (q : Nat) : rowC d q 0 = List.replicate d.R.length 0 := by
  unfold rowC
  rw [List.eq_replicate_iff]
  refine ⟨by simp, fun x hx => ?_⟩
  obtain ⟨j, _, rfl⟩ := List.mem_map.1 hx
  rfl
theorem rowC_get (d : Dfa) (q l : Nat) {j : Nat} (hj : j < d.R.length) : (rowC d q l).getD j 0 = ((cntl d q l j : Nat) : Int) := by unfold rowC; simp [List.getD, hj]
theorem rowC_set (d : Dfa) (q l : Nat) : (rowC d q l).set (d.nx q l) ((rowC d q l).getD (d.nx q l) 0 + 1) = rowC d q (l + 1) := by
  apply List.ext_getElem
  · simp [rowC_len]
  · intro j h1 h2
    have hj : j < d.R.length := by rw [rowC_len] at h2; exact h2
    rw [List.getElem_set]
    have e : ∀ l, (rowC d q l)[j]? = some ((cntl d q l j : Nat) : Int) := fun l => by unfold rowC; simp [hj]
    have e2 : (rowC d q (l + 1))[j] = ((cntl d q (l + 1) j : Nat) : Int) := by
      have := e (l + 1); rw [List.getElem?_eq_getElem h2] at this; exact Option.some.inj this
    rw [e2, cntl_succ]
    by_cases h : d.nx q l = j
    · rw [if_pos h, if_pos h, h, rowC_get d q l hj]
      push_cast
      rfl
    · rw [if_neg h, if_neg h]
      have := e l
      rw [List.getElem?_eq_getElem (by rw [rowC_len]; exact hj)] at this
      rw [Option.some.inj this]
      rfl
theorem rowC_dot {d : Dfa} (q : Nat) (f : Nat → Nat) : ∀ l, (∀ a, a < l → d.nx q a < d.R.length) → dotW (rowC d q l) ((List.range d.R.length).map fun j => ((f j : Nat) : Int)) = ((sumTo l fun a => f (d.nx q a) : Nat) : Int) := by
  intro l
  induction l with
  | zero =>
    intro _
    have e : rowC d q 0 = (List.range d.R.length).map fun _ => 0 := rfl
    rw [e, dot_zeros]
    rfl
  | succ l ih =>
    intro h
    have e : rowC d q (l + 1) = (List.range d.R.length).map fun j => ((cntl d q l j : Nat) : Int) + (if j = d.nx q l then 1 else 0) := by
      unfold rowC
      refine List.map_congr_left fun j _ => ?_
      rw [cntl_succ]
      by_cases h2 : d.nx q l = j
      · rw [if_pos h2, if_pos h2.symm]; rfl
      · rw [if_neg h2, if_neg (fun e => h2 e.symm)]; rfl
    rw [e, dot_add]
    have h3 := ih fun a ha => h a (by omega)
    have e2 : ((List.range d.R.length).map fun j => ((cntl d q l j : Nat) : Int)) = rowC d q l := rfl
    rw [e2, h3, ind_dot (d.nx q l) d.R.length _ (h l (by omega)) (by simp)]
    have h4 := h l (by omega)
    have e3 : ((List.range d.R.length).map fun j => ((f j : Nat) : Int)).getD (d.nx q l) 0 = ((f (d.nx q l) : Nat) : Int) := by simp [List.getD, h4]
    rw [e3]
    simp only [sumTo]
    push_cast
    rfl
def tabC (d : Dfa) : List (List Int) := (List.range d.R.length).map fun q => rowC d q d.L.toNat
def wOf (d : Dfa) : WgI := ⟨1, (List.replicate d.R.length (0 : Int)).set d.S.toNat 1, [tabC d], d.M⟩
theorem tabC_len (d : Dfa) : (tabC d).length = d.R.length := by unfold tabC; simp
theorem first_ind (n s : Nat) : (List.replicate n (0 : Int)).set s 1 = (List.range n).map fun k => if k = s then 1 else 0 := by
  apply List.ext_getElem
  · simp
  · intro j h1 h2
    rw [List.getElem_set]
    by_cases h : s = j
    · rw [if_pos h]; simp [h]
    · rw [if_neg h]; simp; intro e; exact absurd e.symm h
theorem wOf_good {d : Dfa} (h : Good d) (h8 : d.R.length ≤ 8) : GoodWg (wOf d) := by
  have hF : (wOf d).F.length = d.R.length := by unfold wOf; simp
  have h1 := h.s
  have hl4 := h.l4
  have hl1 := h.l1
  refine ⟨⟨by show (1 : Int) ≤ 1; omega, by show (1 : Int) ≤ 4; omega⟩, ⟨by rw [hF]; omega, by rw [hF]; exact h8⟩, ⟨by rw [hF]; exact h.ml, rfl, fun t ht => ?_⟩, ⟨fun x hx => ?_, fun x hx => ?_, fun t ht => ?_⟩⟩
  · have e : t = tabC d := List.mem_singleton.1 ht
    rw [e, hF]
    refine ⟨tabC_len d, fun r hr => ?_⟩
    obtain ⟨q, _, rfl⟩ := List.mem_map.1 hr
    exact rowC_len d q _
  · have e : (wOf d).F = (List.range d.R.length).map fun k => if k = d.S.toNat then 1 else 0 := first_ind _ _
    rw [e] at hx
    obtain ⟨k, _, rfl⟩ := List.mem_map.1 hx
    split <;> omega
  · obtain ⟨k, hk, rfl⟩ := List.mem_iff_getElem.1 hx
    have := h.m k hk
    have e : (d.M)[k] = d.M.getD k 0 := by rw [List.getD_eq_getElem?_getD, List.getElem?_eq_getElem (show k < d.M.length from hk)]; rfl
    show -9 ≤ d.M[k] ∧ d.M[k] ≤ 9
    rw [e]
    omega
  · have e : t = tabC d := List.mem_singleton.1 ht
    rw [e]
    intro r hr x hx
    obtain ⟨q, _, rfl⟩ := List.mem_map.1 hr
    obtain ⟨j, _, rfl⟩ := List.mem_map.1 hx
    have := cntl_le d q d.L.toNat j
    omega
theorem wOf_row {d : Dfa} (h : Good d) : ∀ N (r : List Int), r.length = d.R.length → dotW (rowF (wOf d) r (List.replicate N 0)) d.M = dotW r (cvN d N) := by
  intro N
  induction N with
  | zero =>
    intro r _
    show dotW r d.M = dotW r (cvN d 0)
    congr 1
    apply List.ext_getElem
    · unfold cvN; simp [h.ml]
    · intro j h1 h2
      have hj : j < d.R.length := by have := h.ml; omega
      have e : (cvN d 0)[j]? = some ((d.cnt 0 j : Nat) : Int) := by unfold cvN; simp [hj]
      rw [List.getElem?_eq_getElem h2] at e
      rw [Option.some.inj e]
      have hm := h.m j h1
      have e2 : d.M[j] = d.M.getD j 0 := by simp [List.getD, h1]
      rw [e2]
      show d.M.getD j 0 = ((if d.mk1 j then 1 else 0 : Nat) : Int)
      unfold Dfa.mk1
      by_cases h3 : d.M.getD j 0 = 1
      · rw [h3]; simp
      · have h4 : d.M.getD j 0 = 0 := by omega
        rw [h4]; simp
  | succ N ih =>
    intro r hr
    rw [List.replicate_succ, rowF_cons]
    have et : tabW (wOf d) 0 = tabC d := rfl
    rw [et, ih _ (by rw [byW_len, tabC_len])]
    have eb : byW r (tabC d) = byM d.R.length r (tabC d) := by unfold byW byM; rw [tabC_len]
    rw [eb, dot_by d.R.length (cvN d N) r (tabC d) (by rw [hr, tabC_len]) fun t ht => by
      obtain ⟨q, _, rfl⟩ := List.mem_map.1 ht
      exact rowC_len d q _]
    congr 1
    unfold tabC cvN
    rw [List.map_map]
    refine List.map_congr_left fun q hq => ?_
    show dotW (rowC d q d.L.toNat) _ = _
    rw [rowC_dot q (fun j => d.cnt N j) d.L.toNat fun a ha => h.nx_lt (List.mem_range.1 hq) ha]
    rfl
theorem wOf_val {d : Dfa} (h : Good d) (N : Nat) : valW (wOf d) (List.replicate N 0) = ((d.cnt N d.S.toNat : Nat) : Int) := by
  show dotW (rowF (wOf d) (wOf d).F (List.replicate N 0)) d.M = _
  have hs := h.s
  rw [wOf_row h N _ (by unfold wOf; simp)]
  have e : (wOf d).F = (List.range d.R.length).map fun k => if k = d.S.toNat then 1 else 0 := first_ind _ _
  rw [e, ind_dot d.S.toNat d.R.length _ (by omega) (by unfold cvN; simp)]
  have h4 : d.S.toNat < d.R.length := by omega
  unfold cvN
  simp [List.getD, h4]
end Go.Proofs.YtjinibofbpgfjaaDoor
