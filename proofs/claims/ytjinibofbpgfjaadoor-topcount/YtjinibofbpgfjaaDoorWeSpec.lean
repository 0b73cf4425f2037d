/- Weighing automata: no program. -/
import Derived.Test.YtjinibofbpgfjaaDoorNuSpec
namespace Go.Proofs.YtjinibofbpgfjaaDoor
set_option linter.unusedVariables false

structure WgI where
  L : Int
  F : List Int
  S : List (List (List Int))
  E : List Int
/-- A row times a column. -/
def dotW : List Int → List Int → Int
  | x :: xs, y :: ys => x * y + dotW xs ys
  | _, _ => 0
def colW (t : List (List Int)) (k : Nat) : List Int := t.map fun r => r.getD k 0
def byW (r : List Int) (t : List (List Int)) : List Int := (List.range t.length).map fun k => dotW r (colW t k)
def tabW (x : WgI) (l : Nat) : List (List Int) := x.S.getD l []
def rowW (x : WgI) (w : List Nat) : List Int := w.foldl (fun r l => byW r (tabW x l)) x.F
def valW (x : WgI) (w : List Nat) : Int := dotW (rowW x w) x.E
/-- No number is above most in size. -/
def InW (l : List Int) (most : Int) : Prop := ∀ x, x ∈ l → -most ≤ x ∧ x ≤ most
def InA (x : WgI) (most : Int) : Prop := InW x.F most ∧ InW x.E most ∧ ∀ t, t ∈ x.S → ∀ r, r ∈ t → InW r most
def ShapeW (x : WgI) : Prop := x.E.length = x.F.length ∧ (x.S.length : Int) = x.L ∧ ∀ t, t ∈ x.S → t.length = x.F.length ∧ ∀ r, r ∈ t → r.length = x.F.length
def LetW (x : WgI) : Prop := 1 ≤ x.L ∧ x.L ≤ 4
def SizeW (x : WgI) : Prop := 1 ≤ x.F.length ∧ x.F.length ≤ 8
open Classical in
noncomputable def checkW (x : WgI) : Int :=
  if ¬ LetW x then 2 else if ¬ SizeW x then 1 else if ¬ ShapeW x then 3 else if ¬ InA x 9 then 2 else 0
structure GoodWg (x : WgI) : Prop where
  let_ : LetW x
  size : SizeW x
  shape : ShapeW x
  within : InA x 9
theorem check_good {x : WgI} : checkW x = 0 ↔ GoodWg x := by
  unfold checkW
  constructor
  · intro h
    by_cases h1 : LetW x
    · by_cases h2 : SizeW x
      · by_cases h3 : ShapeW x
        · by_cases h4 : InA x 9
          · exact ⟨h1, h2, h3, h4⟩
          · simp [h1, h2, h3, h4] at h
        · simp [h1, h2, h3] at h
      · simp [h1, h2] at h
    · simp [h1] at h
  · intro h
    simp [h.let_, h.size, h.shape, h.within]

theorem dotW_nil (r : List Int) : dotW r [] = 0 := by cases r <;> rfl
theorem dotW_app {a b c d : List Int} (h : a.length = c.length) : dotW (a ++ b) (c ++ d) = dotW a c + dotW b d := by
  induction a generalizing c with
  | nil => cases c with
    | nil => show dotW b d = 0 + dotW b d; omega
    | cons => simp at h
  | cons x a ih => cases c with
    | nil => simp at h
    | cons y c =>
      show x * y + dotW (a ++ b) (c ++ d) = x * y + dotW a c + dotW b d
      rw [ih (by simpa using h)]
      omega
theorem dotW_zero (a : List Int) (n : Nat) : dotW a (List.replicate n 0) = 0 := by
  induction a generalizing n with
  | nil => rfl
  | cons x a ih => cases n with
    | zero => rfl
    | succ n => rw [List.replicate_succ]; show x * 0 + dotW a (List.replicate n 0) = 0; rw [ih, Int.mul_zero]; rfl
theorem byW_len (r : List Int) (t : List (List Int)) : (byW r t).length = t.length := by unfold byW; simp
theorem colW_len (t : List (List Int)) (k : Nat) : (colW t k).length = t.length := by unfold colW; simp

/-- One behind the other: the sum. -/
def besT (s t : List (List Int)) : List (List Int) := (s.map fun r => r ++ List.replicate t.length 0) ++ t.map fun r => List.replicate s.length 0 ++ r
def besA (x y : WgI) : WgI := ⟨x.L, x.F ++ y.F, (List.range x.S.length).map (fun l => besT (tabW x l) (tabW y l)), x.E ++ y.E⟩
theorem getD_app1 {a b : List Int} {k : Nat} (h : k < a.length) : (a ++ b).getD k 0 = a.getD k 0 := by simp only [List.getD]; rw [List.getElem?_append_left h]
theorem getD_app2 {a b : List Int} {k : Nat} : (a ++ b).getD (a.length + k) 0 = b.getD k 0 := by simp only [List.getD]; rw [List.getElem?_append_right (by omega)]; congr 2; omega
theorem getD_rep (n k : Nat) : (List.replicate n (0 : Int)).getD k 0 = 0 := by simp only [List.getD, List.getElem?_replicate]; split <;> rfl
theorem map_zeroW {t : List (List Int)} {f : List Int → Int} (h : ∀ r, r ∈ t → f r = 0) : t.map f = List.replicate t.length 0 := by
  induction t with
  | nil => rfl
  | cons x t ih => rw [List.map_cons, List.length_cons, List.replicate_succ, h x List.mem_cons_self, ih fun r hr => h r (List.mem_cons_of_mem _ hr)]
theorem colW_bes1 {s t : List (List Int)} {n k : Nat} (hs : ∀ r, r ∈ s → r.length = n) (hn : s.length = n) (hk : k < n) : colW (besT s t) k = colW s k ++ List.replicate t.length 0 := by
  unfold colW besT
  rw [List.map_append, List.map_map, List.map_map]
  congr 1
  · exact List.map_congr_left fun r hr => getD_app1 (by rw [hs r hr]; exact hk)
  · exact map_zeroW fun r hr => by
      show (List.replicate s.length 0 ++ r).getD k 0 = 0
      rw [getD_app1 (by rw [List.length_replicate, hn]; exact hk), getD_rep]
theorem colW_bes2 {s t : List (List Int)} {n k : Nat} (hs : ∀ r, r ∈ s → r.length = n) (hn : s.length = n) : colW (besT s t) (n + k) = List.replicate n 0 ++ colW t k := by
  unfold colW besT
  rw [List.map_append, List.map_map, List.map_map]
  congr 1
  · rw [← hn]
    exact map_zeroW fun r hr => by
      show (r ++ List.replicate t.length 0).getD (s.length + k) 0 = 0
      have e : s.length = r.length := by rw [hs r hr, hn]
      rw [e, getD_app2, getD_rep]
  · exact List.map_congr_left fun r hr => by
      show (List.replicate s.length 0 ++ r).getD (n + k) 0 = r.getD k 0
      have e : n = (List.replicate s.length (0 : Int)).length := by rw [List.length_replicate, hn]
      conv => lhs; rw [e]
      rw [getD_app2]
theorem byW_bes {a b : List Int} {s t : List (List Int)} {n : Nat} (hs : ∀ r, r ∈ s → r.length = n) (hn : s.length = n) (ha : a.length = n) : byW (a ++ b) (besT s t) = byW a s ++ byW b t := by
  have hl : (besT s t).length = n + t.length := by unfold besT; simp [hn]
  unfold byW
  rw [hl, List.range_add, List.map_append, List.map_map, hn]
  congr 1
  · refine List.map_congr_left fun k hk => ?_
    rw [colW_bes1 hs hn (List.mem_range.1 hk), dotW_app (by rw [colW_len, ha, hn]), dotW_zero]
    omega
  · refine List.map_congr_left fun k hk => ?_
    show dotW (a ++ b) (colW (besT s t) (n + k)) = _
    rw [colW_bes2 hs hn, dotW_app (by rw [List.length_replicate, ha]), dotW_zero]
    omega
/-- What a word makes of a row. -/
def rowF (x : WgI) (r : List Int) (w : List Nat) : List Int := w.foldl (fun r l => byW r (tabW x l)) r
theorem rowF_cons (x : WgI) (r : List Int) (l : Nat) (w : List Nat) : rowF x r (l :: w) = rowF x (byW r (tabW x l)) w := rfl
theorem rowF_snoc (x : WgI) (r : List Int) (w : List Nat) (l : Nat) : rowF x r (w ++ [l]) = byW (rowF x r w) (tabW x l) := by unfold rowF; rw [List.foldl_append]; rfl
theorem tabW_mem {x : WgI} {l : Nat} (hl : l < x.S.length) : tabW x l ∈ x.S := by
  unfold tabW
  rw [List.getD_eq_getElem?_getD, List.getElem?_eq_getElem hl]
  exact List.getElem_mem hl
theorem rowF_len {x : WgI} (h : ShapeW x) {w : List Nat} (hw : ∀ l, l ∈ w → l < x.S.length) : ∀ {r : List Int}, r.length = x.F.length → (rowF x r w).length = x.F.length := by
  induction w with
  | nil => intro r hr; exact hr
  | cons l w ih =>
    intro r hr
    rw [rowF_cons]
    exact ih (fun l' hl' => hw l' (List.mem_cons_of_mem _ hl')) (by rw [byW_len]; exact (h.2.2 _ (tabW_mem (hw l List.mem_cons_self))).1)
theorem tab_map {n l : Nat} {f : Nat → List (List Int)} (hl : l < n) : ((List.range n).map f).getD l [] = f l := by
  simp only [List.getD, List.getElem?_map, List.getElem?_range hl, Option.map_some, Option.getD_some]
theorem row_bes {x y : WgI} (hx : ShapeW x) (hy : ShapeW y) (hS : x.S.length = y.S.length) {w : List Nat} (hw : ∀ l, l ∈ w → l < x.S.length) : ∀ {a b : List Int}, a.length = x.F.length → b.length = y.F.length → rowF (besA x y) (a ++ b) w = rowF x a w ++ rowF y b w := by
  induction w with
  | nil => intro a b _ _; rfl
  | cons l w ih =>
    intro a b ha hb
    have hl := hw l List.mem_cons_self
    have sx := hx.2.2 _ (tabW_mem hl)
    have sy := hy.2.2 _ (tabW_mem (hS ▸ hl))
    rw [rowF_cons, rowF_cons, rowF_cons]
    have e : tabW (besA x y) l = besT (tabW x l) (tabW y l) := tab_map hl
    rw [e, byW_bes sx.2 sx.1 ha]
    exact ih (fun l' hl' => hw l' (List.mem_cons_of_mem _ hl')) (by rw [byW_len]; exact sx.1) (by rw [byW_len]; exact sy.1)
theorem val_bes {x y : WgI} (hx : ShapeW x) (hy : ShapeW y) (hS : x.S.length = y.S.length) {w : List Nat} (hw : ∀ l, l ∈ w → l < x.S.length) : valW (besA x y) w = valW x w + valW y w := by
  show dotW (rowF (besA x y) (x.F ++ y.F) w) (x.E ++ y.E) = dotW (rowF x x.F w) x.E + dotW (rowF y y.F w) y.E
  rw [row_bes hx hy hS hw rfl rfl, dotW_app (by rw [rowF_len hx hw rfl, hx.1])]

/-- Both at once: the product. -/
def kroR (v w : List Int) : List Int := v.flatMap fun x => w.map fun y => x * y
def kroT (s t : List (List Int)) : List (List Int) := s.flatMap fun r => t.map fun o => kroR r o
def kroA (x y : WgI) : WgI := ⟨x.L, kroR x.F y.F, (List.range x.S.length).map (fun l => kroT (tabW x l) (tabW y l)), kroR x.E y.E⟩
theorem kroR_len (v w : List Int) : (kroR v w).length = v.length * w.length := by
  unfold kroR
  induction v with
  | nil => simp
  | cons x v ih => rw [List.flatMap_cons, List.length_append, ih, List.length_map, List.length_cons, Nat.succ_mul, Nat.add_comm]
theorem kroT_len (s t : List (List Int)) : (kroT s t).length = s.length * t.length := by
  unfold kroT
  induction s with
  | nil => simp
  | cons x v ih => rw [List.flatMap_cons, List.length_append, ih, List.length_map, List.length_cons, Nat.succ_mul, Nat.add_comm]
theorem dot_map (x y : Int) (b d : List Int) : dotW (b.map fun u => x * u) (d.map fun u => y * u) = x * y * dotW b d := by
  induction b generalizing d with
  | nil => show 0 = x * y * 0; rw [Int.mul_zero]
  | cons u b ih => cases d with
    | nil => rw [dotW_nil]; show 0 = x * y * 0; rw [Int.mul_zero]
    | cons v d =>
      show x * u * (y * v) + dotW _ _ = x * y * (u * v + dotW b d)
      rw [ih, Int.mul_add]
      congr 1
      ac_rfl
theorem dot_kro {a c : List Int} (b d : List Int) (h : b.length = d.length) (h2 : a.length = c.length) : dotW (kroR a b) (kroR c d) = dotW a c * dotW b d := by
  induction a generalizing c with
  | nil => cases c with
    | nil => show 0 = 0 * _; rw [Int.zero_mul]
    | cons => simp at h2
  | cons x a ih => cases c with
    | nil => simp at h2
    | cons y c =>
      show dotW ((b.map fun u => x * u) ++ kroR a b) ((d.map fun u => y * u) ++ kroR c d) = (x * y + dotW a c) * dotW b d
      rw [dotW_app (by simp [h]), dot_map, ih (by simpa using h2), Int.add_mul]
theorem kroR_get {v w : List Int} {i j : Nat} (hj : j < w.length) : (kroR v w).getD (i * w.length + j) 0 = v.getD i 0 * w.getD j 0 := by
  induction v generalizing i with
  | nil => simp [kroR]
  | cons x v ih =>
    have e : kroR (x :: v) w = (w.map fun y => x * y) ++ kroR v w := rfl
    rw [e]
    cases i with
    | zero =>
      rw [Nat.zero_mul, Nat.zero_add, getD_app1 (by simpa using hj)]
      simp [List.getD, hj]
    | succ i =>
      have e2 : (i + 1) * w.length + j = (w.map fun y => x * y).length + (i * w.length + j) := by rw [List.length_map, Nat.succ_mul]; omega
      rw [e2, getD_app2, ih]
      rfl
theorem colW_kro {s t : List (List Int)} {m i j : Nat} (ht : ∀ r, r ∈ t → r.length = m) (hj : j < m) : colW (kroT s t) (i * m + j) = kroR (colW s i) (colW t j) := by
  unfold colW kroT kroR
  rw [List.map_flatMap, List.flatMap_map]
  congr 1
  funext r
  rw [List.map_map, List.map_map]
  refine List.map_congr_left fun o ho => ?_
  have e := ht o ho
  subst e
  exact kroR_get hj
theorem kroR_map (f g : Nat → Int) (n m : Nat) (hm : 0 < m) : kroR ((List.range n).map f) ((List.range m).map g) = (List.range (n * m)).map fun k => f (k / m) * g (k % m) := by
  induction n with
  | zero => simp [kroR]
  | succ n ih =>
    rw [List.range_succ, List.map_append]
    have e : ∀ a b c : List Int, kroR (a ++ b) c = kroR a c ++ kroR b c := fun a b c => by unfold kroR; rw [List.flatMap_append]
    rw [e, ih, Nat.succ_mul, List.range_add, List.map_append, List.map_map]
    congr 1
    have e2 : kroR ([n].map f) ((List.range m).map g) = (List.range m).map fun j => f n * g j := by simp [kroR]
    rw [e2]
    refine List.map_congr_left fun j hj => ?_
    have hj' := List.mem_range.1 hj
    have e3 : (n * m + j) / m = n := by rw [Nat.mul_comm, Nat.mul_add_div hm, Nat.div_eq_of_lt hj', Nat.add_zero]
    have e4 : (n * m + j) % m = j := by rw [Nat.mul_comm, Nat.mul_add_mod, Nat.mod_eq_of_lt hj']
    show f n * g j = f ((n * m + j) / m) * g ((n * m + j) % m)
    rw [e3, e4]
theorem byW_kro {a b : List Int} {s t : List (List Int)} {m : Nat} (ht : ∀ r, r ∈ t → r.length = m) (hm : t.length = m) (h0 : 0 < m) (ha : a.length = s.length) (hb : b.length = m) : byW (kroR a b) (kroT s t) = kroR (byW a s) (byW b t) := by
  unfold byW
  rw [hm, kroR_map _ _ _ _ h0, kroT_len, hm]
  refine List.map_congr_left fun k _ => ?_
  have e : k = k / m * m + k % m := by rw [Nat.mul_comm]; exact (Nat.div_add_mod k m).symm
  conv => lhs; rw [e]
  rw [colW_kro ht (Nat.mod_lt _ h0)]
  exact dot_kro _ _ (by rw [colW_len, hb, hm]) (by rw [colW_len, ha])
theorem row_kro {x y : WgI} (hx : ShapeW x) (hy : ShapeW y) (hy0 : 0 < y.F.length) (hS : x.S.length = y.S.length) {w : List Nat} (hw : ∀ l, l ∈ w → l < x.S.length) : ∀ {a b : List Int}, a.length = x.F.length → b.length = y.F.length → rowF (kroA x y) (kroR a b) w = kroR (rowF x a w) (rowF y b w) := by
  induction w with
  | nil => intro a b _ _; rfl
  | cons l w ih =>
    intro a b ha hb
    have hl := hw l List.mem_cons_self
    have sx := hx.2.2 _ (tabW_mem hl)
    have sy := hy.2.2 _ (tabW_mem (hS ▸ hl))
    rw [rowF_cons, rowF_cons, rowF_cons]
    have e : tabW (kroA x y) l = kroT (tabW x l) (tabW y l) := tab_map hl
    rw [e, byW_kro sy.2 sy.1 hy0 (by rw [ha, sx.1]) hb]
    exact ih (fun l' hl' => hw l' (List.mem_cons_of_mem _ hl')) (by rw [byW_len]; exact sx.1) (by rw [byW_len]; exact sy.1)
theorem val_kro {x y : WgI} (hx : ShapeW x) (hy : ShapeW y) (hy0 : 0 < y.F.length) (hS : x.S.length = y.S.length) {w : List Nat} (hw : ∀ l, l ∈ w → l < x.S.length) : valW (kroA x y) w = valW x w * valW y w := by
  show dotW (rowF (kroA x y) (kroR x.F y.F) w) (kroR x.E y.E) = dotW (rowF x x.F w) x.E * dotW (rowF y y.F w) y.E
  rw [row_kro hx hy hy0 hS hw rfl rfl, dot_kro _ _ (by rw [rowF_len hy (fun l hl => hS ▸ hw l hl) rfl, hy.1]) (by rw [rowF_len hx hw rfl, hx.1])]

/-- How large the numbers are. -/
def BdW (r : List Int) (k : Nat) : Prop := ∀ x, x ∈ r → (x.natAbs : Int) < pwN k
theorem abs_dot {r c : List Int} {P : Int} (hr : ∀ x, x ∈ r → (x.natAbs : Int) ≤ P) (hP : 0 ≤ P) (hc : InW c 9) : ((dotW r c).natAbs : Int) ≤ 9 * P * c.length := by
  induction r generalizing c with
  | nil => show ((0 : Int).natAbs : Int) ≤ _; have : 0 ≤ 9 * P * (c.length : Int) := Int.mul_nonneg (by omega) (by omega); simpa using this
  | cons x r ih => cases c with
    | nil => show ((0 : Int).natAbs : Int) ≤ _; simp
    | cons y c =>
      have h1 := ih (c := c) (fun z hz => hr z (List.mem_cons_of_mem _ hz)) (fun z hz => hc z (List.mem_cons_of_mem _ hz))
      have h2 := hr x List.mem_cons_self
      have h3 := hc y List.mem_cons_self
      show ((x * y + dotW r c).natAbs : Int) ≤ 9 * P * ((c.length + 1 : Nat) : Int)
      have e1 : ((x * y).natAbs : Int) = (x.natAbs : Int) * (y.natAbs : Int) := by rw [Int.natAbs_mul]; simp
      have e2 : (x.natAbs : Int) * (y.natAbs : Int) ≤ P * 9 := Int.mul_le_mul h2 (by omega) (by omega) hP
      have e3 : ((x * y + dotW r c).natAbs : Int) ≤ ((x * y).natAbs : Int) + ((dotW r c).natAbs : Int) := by omega
      have e4 : 9 * P * ((c.length + 1 : Nat) : Int) = 9 * P * (c.length : Int) + 9 * P := by rw [Int.natCast_add, Int.mul_add]; simp
      omega
theorem bd_dot {r c : List Int} {k : Nat} (hr : BdW r k) (hc : InW c 9) (hl : c.length ≤ 8) : ((dotW r c).natAbs : Int) < pwN (k + 1) := by
  have hp := pwN_pos k
  have h := abs_dot (P := pwN k) (fun x hx => by have := hr x hx; omega) (by omega) hc
  have e : 9 * pwN k * (c.length : Int) ≤ 9 * pwN k * 8 := Int.mul_le_mul_of_nonneg_left (by omega) (by omega)
  rw [pwN_succ]
  omega
theorem colW_in {t : List (List Int)} {k n : Nat} (h : ∀ r, r ∈ t → InW r 9) (hk : ∀ r, r ∈ t → k < r.length) : InW (colW t k) 9 := fun x hx => by
  unfold colW at hx
  obtain ⟨r, hr, rfl⟩ := List.mem_map.1 hx
  refine h r hr _ ?_
  rw [List.getD_eq_getElem?_getD, List.getElem?_eq_getElem (hk r hr)]
  exact List.getElem_mem _
theorem bd_by {x : WgI} (h : GoodWg x) {r : List Int} {l k : Nat} (hl : l < x.S.length) (hr : BdW r k) : BdW (byW r (tabW x l)) (k + 1) := fun z hz => by
  unfold byW at hz
  obtain ⟨i, hi, rfl⟩ := List.mem_map.1 hz
  have s := h.shape.2.2 _ (tabW_mem hl)
  refine bd_dot hr (colW_in (n := 0) (h.within.2.2 _ (tabW_mem hl)) (fun r hr => by rw [s.2 r hr, ← s.1]; exact List.mem_range.1 hi)) (by rw [colW_len, s.1]; exact h.size.2)
theorem bd_row {x : WgI} (h : GoodWg x) {w : List Nat} (hw : ∀ l, l ∈ w → l < x.S.length) : ∀ {r : List Int} {k : Nat}, BdW r k → BdW (rowF x r w) (k + w.length) := by
  induction w with
  | nil => intro r k hr; exact hr
  | cons l w ih =>
    intro r k hr
    rw [rowF_cons]
    have e : k + (l :: w).length = k + 1 + w.length := by rw [List.length_cons]; omega
    rw [e]
    exact ih (fun l' hl' => hw l' (List.mem_cons_of_mem _ hl')) (bd_by h (hw l List.mem_cons_self) hr)
theorem bd_first {l : List Int} (h : InW l 9) : BdW l 1 := fun x hx => by
  have := h x hx
  have e : pwN 1 = 10000 := by decide
  rw [e]; omega
end Go.Proofs.YtjinibofbpgfjaaDoor
