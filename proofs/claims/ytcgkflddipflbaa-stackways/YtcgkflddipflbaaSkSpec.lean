/- Rules of stacks and configs: what may be one, in memory, and among the arguments. -/
import Derived.Test.YtcgkflddipflbaaTls
import Derived.Deep.Slices
namespace Go.Proofs.Ytcgkflddipflbaa
open Go.ChangeShapes Go.WideShapes Go.ChangeAt Go.RowKit Go.Joins
set_option linter.unusedVariables false

structure Psh where
  F : Int
  T : Int
  O : Int
  P : List Int
def pu0 : Psh := ⟨0, 0, 0, []⟩
abbrev Cfg := Int × List Int
def cf0 : Cfg := (0, [])
def oneSk (x : Int) : Bool := decide (0 ≤ x ∧ x < 3)
theorem oneSk_iff (x : Int) : oneSk x = true ↔ 0 ≤ x ∧ x < 3 := decide_eq_true_iff
def OnesSk (zs : List Int) : Prop := ∀ i, i < zs.length → oneSk (zs.getD i 0) = true
def PutsSk (L : List Psh) : Prop := ∀ i, i < L.length → (L.getD i pu0).P.length ≤ 2
def PshSk (r : Psh) : Prop := oneSk r.F = true ∧ oneSk r.T = true ∧ oneSk r.O = true ∧ OnesSk r.P
def NumsSk (L : List Psh) : Prop := ∀ i, i < L.length → PshSk (L.getD i pu0)
def onesSkB (zs : List Int) : Bool := decide (∀ i, i < zs.length → oneSk (zs.getD i 0) = true)
def putsSkB (L : List Psh) : Bool := decide (∀ i, i < L.length → (L.getD i pu0).P.length ≤ 2)
def numsSkB (L : List Psh) : Bool := decide (∀ i, i < L.length → (oneSk (L.getD i pu0).F && oneSk (L.getD i pu0).T && oneSk (L.getD i pu0).O && onesSkB (L.getD i pu0).P) = true)
theorem onesSkB_iff (zs : List Int) : onesSkB zs = true ↔ OnesSk zs := decide_eq_true_iff
theorem putsSkB_iff (L : List Psh) : putsSkB L = true ↔ PutsSk L := decide_eq_true_iff
theorem pshSk_iff (r : Psh) : (oneSk r.F && oneSk r.T && oneSk r.O && onesSkB r.P) = true ↔ PshSk r := by
  simp only [Bool.and_eq_true, onesSkB_iff, PshSk, and_assoc]
theorem numsSkB_iff (L : List Psh) : numsSkB L = true ↔ NumsSk L := by
  unfold numsSkB NumsSk
  rw [decide_eq_true_iff]
  exact ⟨fun h i hi => (pshSk_iff _).1 (h i hi), fun h i hi => (pshSk_iff _).2 (h i hi)⟩
/-- What is wrong with rules. -/
def checkSk (L : List Psh) : Int := if 8 < L.length then 1 else if putsSkB L = true then (if numsSkB L = true then 0 else 2) else 1
/-- With a config. -/
def cfgSk (c : Cfg) : Int := if 20 < c.2.length then 1 else if (oneSk c.1 && onesSkB c.2) = true then 0 else 2
theorem checkSk_long {L : List Psh} (h : 8 < L.length) : checkSk L = 1 := by unfold checkSk; rw [if_pos h]
theorem checkSk_put {L : List Psh} (h : ¬ 8 < L.length) (h2 : ¬ PutsSk L) : checkSk L = 1 := by unfold checkSk; rw [if_neg h, if_neg (fun e => h2 ((putsSkB_iff _).1 e))]
theorem checkSk_num {L : List Psh} (h : ¬ 8 < L.length) (h2 : PutsSk L) (h3 : ¬ NumsSk L) : checkSk L = 2 := by unfold checkSk; rw [if_neg h, if_pos ((putsSkB_iff _).2 h2), if_neg (fun e => h3 ((numsSkB_iff _).1 e))]
theorem checkSk_ok {L : List Psh} (h : ¬ 8 < L.length) (h2 : PutsSk L) (h3 : NumsSk L) : checkSk L = 0 := by unfold checkSk; rw [if_neg h, if_pos ((putsSkB_iff _).2 h2), if_pos ((numsSkB_iff _).2 h3)]
theorem cfgSk_long {c : Cfg} (h : 20 < c.2.length) : cfgSk c = 1 := by unfold cfgSk; rw [if_pos h]
theorem cfgSk_one {c : Cfg} (h : ¬ 20 < c.2.length) (h2 : oneSk c.1 = false) : cfgSk c = 2 := by unfold cfgSk; rw [if_neg h, if_neg]; simp [h2]
theorem cfgSk_num {c : Cfg} (h : ¬ 20 < c.2.length) (h2 : ¬ OnesSk c.2) : cfgSk c = 2 := by unfold cfgSk; rw [if_neg h, if_neg]; intro e; simp only [Bool.and_eq_true, onesSkB_iff] at e; exact h2 e.2
theorem cfgSk_ok {c : Cfg} (h : ¬ 20 < c.2.length) (h1 : oneSk c.1 = true) (h2 : OnesSk c.2) : cfgSk c = 0 := by unfold cfgSk; rw [if_neg h, if_pos]; simp only [Bool.and_eq_true, onesSkB_iff]; exact ⟨h1, h2⟩
structure GoodSk (L : List Psh) : Prop where
  len : L.length ≤ 8
  put : PutsSk L
  num : NumsSk L
theorem goodSk_of {L : List Psh} (h : checkSk L = 0) : GoodSk L := by
  have h1 : ¬ 8 < L.length := fun e => by rw [checkSk_long e] at h; cases h
  have h2 : PutsSk L := Classical.byContradiction fun e => by rw [checkSk_put h1 e] at h; cases h
  exact ⟨by omega, h2, Classical.byContradiction fun e => by rw [checkSk_num h1 h2 e] at h; cases h⟩
structure GoodCf (c : Cfg) : Prop where
  len : c.2.length ≤ 20
  one : oneSk c.1 = true
  num : OnesSk c.2
theorem goodCf_of {c : Cfg} (h : cfgSk c = 0) : GoodCf c := by
  have h1 : ¬ 20 < c.2.length := fun e => by rw [cfgSk_long e] at h; cases h
  have h2 : oneSk c.1 = true := by
    cases e : oneSk c.1 with
    | true => rfl
    | false => rw [cfgSk_one h1 e] at h; cases h
  exact ⟨by omega, h2, Classical.byContradiction fun e => by rw [cfgSk_num h1 e] at h; cases h⟩
/-- Of configs the first that is wrong. -/
def cfgsSk : List Cfg → Int
  | [] => 0
  | c :: r => if cfgSk c = 0 then cfgsSk r else cfgSk c
theorem cfgsSk_bad : ∀ (cs : List Cfg) (k : Nat), k < cs.length → (∀ j, j < k → cfgSk (cs.getD j cf0) = 0) → cfgSk (cs.getD k cf0) ≠ 0 → cfgsSk cs = cfgSk (cs.getD k cf0)
  | [], k, hk, _, _ => by simp at hk
  | c :: r, 0, _, _, h => by
    have h' : cfgSk c ≠ 0 := h
    show (if cfgSk c = 0 then cfgsSk r else cfgSk c) = cfgSk c
    rw [if_neg h']
  | c :: r, k + 1, hk, ha, h => by
    have h0 : cfgSk c = 0 := ha 0 (by omega)
    show (if cfgSk c = 0 then cfgsSk r else cfgSk c) = cfgSk (r.getD k cf0)
    rw [if_pos h0]
    exact cfgsSk_bad r k (by simpa using hk) (fun j hj => ha (j + 1) (by omega)) h
theorem cfgsSk_ok : ∀ (cs : List Cfg), (∀ j, j < cs.length → cfgSk (cs.getD j cf0) = 0) → cfgsSk cs = 0
  | [], _ => rfl
  | c :: r, h => by
    have h0 : cfgSk c = 0 := h 0 (by simp)
    show (if cfgSk c = 0 then cfgsSk r else cfgSk c) = 0
    rw [if_pos h0]
    exact cfgsSk_ok r (fun j hj => h (j + 1) (by simpa using hj))
/-- Can a rule be done, and what is behind it? -/
def CanSk (r : Psh) (c : Cfg) : Prop := c.1 = r.F ∧ 0 < c.2.length ∧ c.2.getD 0 0 = r.T
def behSk (r : Psh) (c : Cfg) : Cfg := (r.O, r.P ++ c.2.drop 1)

/-! In memory. -/
def Push4 (w : World) (b o : Nat) (r : Psh) : Prop := w.cell? ⟨b, o, none⟩ = some (.int .i64 r.F) ∧ w.cell? ⟨b, o + 1, none⟩ = some (.int .i64 r.T) ∧ w.cell? ⟨b, o + 2, none⟩ = some (.int .i64 r.O) ∧ ∃ a c, w.cell? ⟨b, o + 3, none⟩ = some (.slice a r.P.length c) ∧ Ints w a r.P ∧ r.P.length ≤ maxLen
theorem Push4.grown {w w' : World} {b o : Nat} {r : Psh} (h : Push4 w b o r) (hg : w.grownBy w' none) : Push4 w' b o r := by
  obtain ⟨h1, h2, h3, a, c, h4, h5, h6⟩ := h
  exact ⟨hg.cell h1 (by simp), hg.cell h2 (by simp), hg.cell h3 (by simp), a, c, hg.cell h4 (by simp), h5.grown hg, h6⟩
def PushAt (w : World) (a : Option Addr) (L : List Psh) : Prop :=
  L = [] ∨ ∃ b off, a = some ⟨b, off, none⟩ ∧ ∀ i, i < L.length → Push4 w b (off + i * 4) (L.getD i pu0)
theorem PushAt.grown {w w' : World} {a : Option Addr} {L : List Psh} (h : PushAt w a L) (hg : w.grownBy w' none) : PushAt w' a L := by
  rcases h with h | ⟨b, off, ha, hc⟩
  · exact .inl h
  · exact .inr ⟨b, off, ha, fun i hi => (hc i hi).grown hg⟩
theorem PushAt.at {w : World} {a : Option Addr} {L : List Psh} (h : PushAt w a L) {k : Nat} (hk : k < L.length) : ∃ b off, a = some ⟨b, off, none⟩ ∧ ∀ i, i < L.length → Push4 w b (off + i * 4) (L.getD i pu0) := by
  rcases h with rfl | h
  · simp at hk
  · exact h
abbrev pshV (F T O : Int) (a : Option Addr) (n c : Nat) : Value := .agg #[.int .i64 F, .int .i64 T, .int .i64 O, .slice a n c]
abbrev cfgV (c : Int) (a : Option Addr) (n k : Nat) : Value := .agg #[.int .i64 c, .slice a n k]
def Cfg2 (w : World) (b o : Nat) (c : Cfg) : Prop := w.cell? ⟨b, o, none⟩ = some (.int .i64 c.1) ∧ ∃ a k, w.cell? ⟨b, o + 1, none⟩ = some (.slice a c.2.length k) ∧ Ints w a c.2 ∧ c.2.length ≤ maxLen
theorem Cfg2.grown {w w' : World} {b o : Nat} {c : Cfg} (h : Cfg2 w b o c) (hg : w.grownBy w' none) : Cfg2 w' b o c := by
  obtain ⟨h1, a, k, h4, h5, h6⟩ := h
  exact ⟨hg.cell h1 (by simp), a, k, hg.cell h4 (by simp), h5.grown hg, h6⟩
def CfgsAt (w : World) (g : Nat) (cs : List Cfg) : Prop := ∀ i, i < cs.length → Cfg2 w g (i * 2) (cs.getD i cf0)
theorem CfgsAt.grown {w w' : World} {g : Nat} {cs : List Cfg} (h : CfgsAt w g cs) (hg : w.grownBy w' none) : CfgsAt w' g cs := fun i hi => (h i hi).grown hg

theorem box2_new (w : World) (v0 v1 : Value) (t : TypeId) : ∃ W, W = w.alloc (.cells #[v0, v1] t) ∧ w.grownBy W none ∧ W.heap.size = w.heap.size + 1 ∧ ∀ W', W.grownBy W' none → W'.cell? ⟨w.heap.size, 0, none⟩ = some v0 ∧ W'.cell? ⟨w.heap.size, 1, none⟩ = some v1 := by
  refine ⟨_, rfl, grown_alloc _ _, by simp, fun W' h => ?_⟩
  have hb := heap_alloc_new w (.cells #[v0, v1] t)
  have hc : ∀ k v, #[v0, v1][k]? = some v → W'.cell? ⟨w.heap.size, k, none⟩ = some v := fun k v hv => h.cell (by rw [cell_of_row _ _ k _ _ (0, 0) hb]; exact hv) (by simp)
  exact ⟨hc 0 _ rfl, hc 1 _ rfl⟩
theorem box4s_new (w : World) (v0 v1 v2 v3 : Value) (t : TypeId) : ∃ W, W = w.alloc (.cells #[v0, v1, v2, v3] t) ∧ w.grownBy W none ∧ W.heap.size = w.heap.size + 1 ∧ ∀ W', W.grownBy W' none → W'.cell? ⟨w.heap.size, 0, none⟩ = some v0 ∧ W'.cell? ⟨w.heap.size, 1, none⟩ = some v1 ∧ W'.cell? ⟨w.heap.size, 2, none⟩ = some v2 ∧ W'.cell? ⟨w.heap.size, 3, none⟩ = some v3 := by
  refine ⟨_, rfl, grown_alloc _ _, by simp, fun W' h => ?_⟩
  have hb := heap_alloc_new w (.cells #[v0, v1, v2, v3] t)
  have hc : ∀ k v, #[v0, v1, v2, v3][k]? = some v → W'.cell? ⟨w.heap.size, k, none⟩ = some v := fun k v hv => h.cell (by rw [cell_of_row _ _ k _ _ (0, 0) hb]; exact hv) (by simp)
  exact ⟨hc 0 _ rfl, hc 1 _ rfl, hc 2 _ rfl, hc 3 _ rfl⟩

/-! Among the arguments. -/
theorem Try.cells22 : Try.prog.cellsOf 22 = 1 := by kernel_rfl
theorem Try.cells43 : Try.prog.cellsOf 43 = 4 := by kernel_rfl
theorem Try.cells25 : Try.prog.cellsOf 25 = 2 := by kernel_rfl
theorem choose_ltS {α : Type} (d : α) {P : Nat → α → Prop} {m : Nat} (h : ∀ i, i < m → ∃ q, P i q) : ∃ f : Nat → α, ∀ i, i < m → P i (f i) := by
  classical
  exact ⟨fun i => if hi : i < m then (h i hi).choose else d, fun i hi => by simp only [hi, dif_pos]; exact (h i hi).choose_spec⟩

set_option maxRecDepth 100000 in
theorem push_of_trod {H : Type} {enc : TypeId × Value → H} {W : World} {fuel : Nat} {cs : List Value} {x : DataW H × List MemPlace} (h : DataW.trod enc Try.prog W 0 (fun _ => true) true fuel 22 cs = some x) :
    ∃ a c L, cs = [.slice a (List.length L) c] ∧ PushAt W a L ∧ L.length ≤ maxLen := by
  rcases Deep.open_slice Try.underlying22 h with ⟨hcs, _⟩ | ⟨y, len, cap, m, n, D, Pl, hcs, _, hl, hm, hmm, _, hx⟩
  · exact ⟨none, 0, [], hcs, .inl rfl, Nat.zero_le _⟩
  · simp only [if_true] at hmm
    have each : ∀ i, i < m → ∃ q : Psh, W.cell? (y.add (i * 4)) = some (.int .i64 q.F) ∧ W.cell? (y.add (i * 4 + 1)) = some (.int .i64 q.T) ∧ W.cell? (y.add (i * 4 + 2)) = some (.int .i64 q.O) ∧ ∃ a c, W.cell? (y.add (i * 4 + 3)) = some (.slice a q.P.length c) ∧ Ints W a q.P ∧ q.P.length ≤ maxLen := by
      intro i hi
      obtain ⟨cs', h1, h2⟩ := hx i hi
      rw [Try.cells43] at h1
      obtain ⟨_, hlen, hcell⟩ := World.cells?_some h1
      obtain ⟨xs, k, hk, hxy, _, hxl, hf⟩ := DataW.trod_struct Try.underlying43 h2
      match xs, hxl, cs', hlen with
      | [y0, y1, y2, y3], _, [v0, v1, v2, v3], _ =>
        have g0 := hf 0 _ rfl
        have g1 := hf 1 _ rfl
        have g2 := hf 2 _ rfl
        have g3 := hf 3 _ rfl
        simp [Try.cells3, Try.cells23] at g0 g1 g2 g3
        have e0 := hcell 0 (by omega)
        have e1 := hcell 1 (by omega)
        have e2 := hcell 2 (by omega)
        have e3 := hcell 3 (by omega)
        rw [Deep.add_add] at e0 e1 e2 e3
        obtain ⟨n0, z0, _, _⟩ := DataW.trod_int Try.underlying3 g0
        obtain ⟨n1, z1, _, _⟩ := DataW.trod_int Try.underlying3 g1
        obtain ⟨n2, z2, _, _⟩ := DataW.trod_int Try.underlying3 g2
        obtain ⟨a3, c3, zs, z3, i3, m3⟩ := ints_of_trod g3
        simp only [List.cons.injEq, and_true] at z0 z1 z2 z3
        subst z0 z1 z2 z3
        exact ⟨⟨n0, n1, n2, zs⟩, by simpa using e0, by simpa using e1, by simpa using e2, a3, c3, by simpa using e3, i3, m3⟩
    obtain ⟨q, hq⟩ := choose_ltS pu0 each
    have hlen : ((List.range len).map q).length = len := by simp
    refine ⟨some y, cap, (List.range len).map q, by rw [hlen]; exact hcs, ?_, by rw [hlen]; omega⟩
    by_cases h0 : len = 0
    · left; rw [h0]; rfl
    · right
      obtain ⟨b, off, spot⟩ := y
      have hc := (hq 0 (by omega)).1
      have hspot : spot = none := by simpa [Addr.add] using World.cell?_spot hc
      subst hspot
      refine ⟨b, off, rfl, fun i hi => ?_⟩
      rw [hlen] at hi
      obtain ⟨h1, h2, h3, a, c, h4, h5, h6⟩ := hq i (by omega)
      rw [add_off] at h1 h2 h3 h4
      have hg : ((List.range len).map q).getD i pu0 = q i := by simp [List.getD, hi]
      rw [hg]
      exact ⟨h1, h2, h3, a, c, h4, h5, h6⟩

set_option maxRecDepth 100000 in
theorem pushes_of_trod {H : Type} {enc : TypeId × Value → H} {W : World} {base : Nat} {v : Value} {d : DataW H} {p : List MemPlace} (hv : Value.okWide Try.prog W .any base 22 v) (h : DataW.Trod enc Try.prog W 0 (fun _ => true) true 22 v d p) :
    ∃ a c L, v = .slice a (List.length L) c ∧ PushAt W a L ∧ L.length ≤ maxLen := by
  obtain ⟨a0, len, cap, rfl⟩ := okWide_slice Try.underlying22 hv
  obtain ⟨fuel, hf⟩ := h
  obtain ⟨a, c, zs, hcs, hi, hm⟩ := push_of_trod hf
  simp only [Value.cells, List.cons.injEq, and_true] at hcs
  exact ⟨a, c, zs, by simpa using hcs, hi, hm⟩

theorem ints_of_trodC {H : Type} {enc : TypeId × Value → H} {W : World} {fuel : Nat} {cs : List Value} {x : DataW H × List MemPlace} (h : DataW.trod enc Try.prog W 0 (fun _ => true) true fuel 23 cs = some x) :
    ∃ a c zs, cs = [.slice a (List.length zs) c] ∧ Ints W a zs ∧ zs.length ≤ maxLen ∧ zs.length ≤ c := by
  rcases open_ints Try.underlying23 Try.underlying3 Try.cells3 h with ⟨hcs, _⟩ | ⟨x, len, cap, zs, hcs, _, hl, hm, hz, _, hcell, hwz⟩
  · exact ⟨none, 0, [], hcs, .inl rfl, Nat.zero_le _, Nat.zero_le _⟩
  · obtain ⟨a, c, zs', h1, h2, h3⟩ := ints_of_trod h
    refine ⟨a, c, zs', h1, h2, h3, ?_⟩
    rw [h1] at hcs
    simp only [List.cons.injEq, Value.slice.injEq, and_true] at hcs
    omega

set_option maxRecDepth 100000 in
theorem cfg_of_trod {H : Type} {enc : TypeId × Value → H} {W : World} {base : Nat} {v : Value} {d : DataW H} {p : List MemPlace} (hv : Value.okWide Try.prog W .any base 25 v) (h : DataW.Trod enc Try.prog W 0 (fun _ => true) true 25 v d p) :
    ∃ (c : Cfg) (a : Option Addr) (k : Nat), v = cfgV c.1 a c.2.length k ∧ Ints W a c.2 ∧ c.2.length ≤ maxLen ∧ c.2.length ≤ k := by
  obtain ⟨cs, rfl, hsz⟩ := okWide_struct Try.underlying25 hv
  obtain ⟨fuel, hf⟩ := h
  obtain ⟨xs, k, hk, hxy, _, hxl, hf⟩ := DataW.trod_struct Try.underlying25 hf
  rw [Try.cells25] at hsz
  obtain ⟨cs⟩ := cs
  simp only [List.size_toArray] at hsz
  match xs, hxl, cs, hsz with
  | [y0, y1], _, [v0, v1], _ =>
    have g0 := hf 0 _ rfl
    have g1 := hf 1 _ rfl
    simp [Try.cells3, Try.cells23, Value.cells] at g0 g1
    obtain ⟨n0, e0, _, w0⟩ := DataW.trod_int Try.underlying3 g0
    obtain ⟨a, c, S, e1, i1, m1, l1⟩ := ints_of_trodC g1
    simp only [List.cons.injEq, and_true] at e0 e1
    subst e0 e1
    exact ⟨(n0, S), a, c, rfl, i1, m1, l1⟩

set_option maxRecDepth 100000 in
/-- What is left of a word behind its first letter. -/
theorem tail_run (a : Option Addr) (n k : Nat) (h1 : 1 ≤ n) (h2 : n ≤ k) : ∃ at' kt, (∀ W : World, (Instr.slice 23 (.slice a n k) (some (.int .i64 1)) none none).run Try.prog W = .ok (.slice at' (n - 1) kt) W) ∧ n - 1 ≤ kt ∧ ∀ (W : World) (zs : List Int), zs.length = n → Ints W a zs → Ints W at' (zs.drop 1) := by
  obtain ⟨i0, hi⟩ : ∃ i, Try.prog.info? 3 = some i ∧ i.size = 1 := by
    have h : (Try.prog.info? 3).map (fun i => i.size) = some 1 := by kernel_rfl
    cases hi : Try.prog.info? 3 with
    | none => rw [hi] at h; cases h
    | some i => rw [hi] at h; simp only [Option.map_some, Option.some.injEq] at h; exact ⟨i, rfl, h⟩
  refine ⟨if k = 1 then a else a.map (·.add 1), k - 1, fun W => ?_, by omega, fun W zs hz hI => ?_⟩
  · rw [run_slice_l (w := W) (t := 23) (a := a) (len := n) (cap := k) (ht := Try.underlying23) (kl := .i64) (l := 1) (by decide) (by omega)]
    have e : Try.prog.elem 23 = 3 := by kernel_rfl
    simp [e, sizeOf, typeInfo, hi.1, hi.2, sliced, Result.andThen]
  · by_cases hk : k = 1
    · left
      have : zs.length = 1 := by omega
      match zs, this with
      | [z], _ => rfl
    · rw [if_neg hk]
      rcases hI with rfl | ⟨b, off, rfl, hc⟩
      · left; rfl
      · right
        refine ⟨b, off + 1, by simp [Addr.add], fun i hi => ?_⟩
        have hl : (zs.drop 1).length = zs.length - 1 := by simp
        have := hc (i + 1) (by omega)
        rw [show off + 1 + i = off + (i + 1) by omega, this]
        congr 2
        simp [List.getD]

end Go.Proofs.Ytcgkflddipflbaa
