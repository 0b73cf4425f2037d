/- Transducers: which may be, what they say to a word. Without the program. -/
import Derived.Test.YtkcbdfgbmaeodaaGrow
namespace Go.Proofs.Ytkcbdfgbmaeodaa
set_option linter.unusedVariables false

structure TrI where
  I : Int
  O : Int
  S : Int
  F : List Int
  N : List (List Int)
  Y : List (List (List Int))
  E : List (List Int)

def ManyT (z : Int) : Prop := 1 ≤ z ∧ z ≤ 4
def SizeT (x : TrI) : Prop := 1 ≤ x.N.length ∧ x.N.length ≤ 6
def ShapeT (x : TrI) : Prop := x.Y.length = x.N.length ∧ x.E.length = x.N.length ∧ ∀ s, s < x.N.length → ((x.N.getD s []).length : Int) = x.I ∧ ((x.Y.getD s []).length : Int) = x.I
def StT (n : Nat) (z : Int) : Prop := 0 ≤ z ∧ z < (n : Int)
def RowsT (n : Nat) (N : List (List Int)) : Prop := ∀ s, s < N.length → ∀ l, l < (N.getD s []).length → StT n ((N.getD s []).getD l 0)
def WithT (x : TrI) : Prop := RowsT x.N.length x.N ∧ StT x.N.length x.S
/-- All that is said at once, as the program goes through it; and as the reference does. -/
def sayTo (x : TrI) (k : Nat) : List (List Int) := x.F :: (List.range k).flatMap fun s => x.Y.getD s [] ++ [x.E.getD s []]
def sayT (x : TrI) : List (List Int) := sayTo x x.Y.length
def sayR (x : TrI) : List (List Int) := x.F :: (x.E ++ x.Y.flatten)
def LetT (O : Int) (u : List Int) : Prop := ∀ j, j < u.length → 0 ≤ u.getD j 0 ∧ u.getD j 0 < O
def LittleT (x : TrI) : Prop := ∀ u, u ∈ sayT x → u.length ≤ 8
def LetsT (x : TrI) : Prop := ∀ u, u ∈ sayT x → LetT x.O u

theorem sayTo_succ (x : TrI) (k : Nat) : sayTo x (k + 1) = sayTo x k ++ (x.Y.getD k [] ++ [x.E.getD k []]) := by simp [sayTo, List.range_succ]
theorem sayR_mem {x : TrI} (h : ShapeT x) (u : List Int) : u ∈ sayR x ↔ u ∈ sayT x := by
  obtain ⟨h1, h2, _⟩ := h
  have hY : ∀ s, s < x.Y.length → x.Y.getD s [] ∈ x.Y := fun s hs => by
    rw [List.getD, List.getElem?_eq_getElem hs, Option.getD_some]; exact List.getElem_mem hs
  have hE : ∀ s, s < x.Y.length → x.E.getD s [] ∈ x.E := fun s hs => by
    have hs' : s < x.E.length := by omega
    rw [List.getD, List.getElem?_eq_getElem hs', Option.getD_some]; exact List.getElem_mem hs'
  unfold sayR sayT sayTo
  constructor
  · intro hm
    rcases List.mem_cons.1 hm with rfl | hm
    · exact List.mem_cons.2 (.inl rfl)
    · refine List.mem_cons.2 (.inr (List.mem_flatMap.2 ?_))
      rcases List.mem_append.1 hm with hm | hm
      · obtain ⟨s, hs, rfl⟩ := List.getElem_of_mem hm
        refine ⟨s, by simp; omega, List.mem_append.2 (.inr ?_)⟩
        simp [List.getD, hs]
      · obtain ⟨r, hr, hu⟩ := List.mem_flatten.1 hm
        obtain ⟨s, hs, rfl⟩ := List.getElem_of_mem hr
        refine ⟨s, by simpa using hs, List.mem_append.2 (.inl ?_)⟩
        simpa [List.getD, hs] using hu
  · intro hm
    rcases List.mem_cons.1 hm with rfl | hm
    · exact List.mem_cons.2 (.inl rfl)
    · obtain ⟨s, hs, hu⟩ := List.mem_flatMap.1 hm
      have hs' : s < x.Y.length := by simpa using hs
      refine List.mem_cons.2 (.inr (List.mem_append.2 ?_))
      rcases List.mem_append.1 hu with hu | hu
      · exact .inr (List.mem_flatten.2 ⟨_, hY s hs', hu⟩)
      · refine .inl ?_
        rw [List.mem_singleton.1 hu]
        exact hE s hs'

/-- What Check answers. -/
structure ChkIs (x : TrI) (z : Int) : Prop where
  many : ¬ (ManyT x.I ∧ ManyT x.O) → z = 2
  size : ManyT x.I ∧ ManyT x.O → ¬ SizeT x → z = 1
  shape : ManyT x.I ∧ ManyT x.O → SizeT x → ¬ ShapeT x → z = 3
  within : ManyT x.I ∧ ManyT x.O → SizeT x → ShapeT x → ¬ WithT x → z = 2
  little : ManyT x.I ∧ ManyT x.O → SizeT x → ShapeT x → WithT x → ¬ LittleT x → z = 1
  lets : ManyT x.I ∧ ManyT x.O → SizeT x → ShapeT x → WithT x → LittleT x → ¬ LetsT x → z = 2
  good : ManyT x.I ∧ ManyT x.O → SizeT x → ShapeT x → WithT x → LittleT x → LetsT x → z = 0
structure GoodT (x : TrI) : Prop where
  many : ManyT x.I ∧ ManyT x.O
  size : SizeT x
  shape : ShapeT x
  within : WithT x
  little : LittleT x
  lets : LetsT x
theorem ChkIs.all {x : TrI} {z y : Int} (h : ChkIs x z) (k : ChkIs x y) : z = y ∧ (z = 0 ↔ GoodT x) := by
  by_cases h1 : ManyT x.I ∧ ManyT x.O
  · by_cases h2 : SizeT x
    · by_cases h3 : ShapeT x
      · by_cases h4 : WithT x
        · by_cases h5 : LittleT x
          · by_cases h6 : LetsT x
            · have := h.good h1 h2 h3 h4 h5 h6
              have := k.good h1 h2 h3 h4 h5 h6
              exact ⟨by omega, fun _ => ⟨h1, h2, h3, h4, h5, h6⟩, fun _ => by omega⟩
            · have := h.lets h1 h2 h3 h4 h5 h6
              have := k.lets h1 h2 h3 h4 h5 h6
              exact ⟨by omega, fun e => by omega, fun g => absurd g.lets h6⟩
          · have := h.little h1 h2 h3 h4 h5
            have := k.little h1 h2 h3 h4 h5
            exact ⟨by omega, fun e => by omega, fun g => absurd g.little h5⟩
        · have := h.within h1 h2 h3 h4
          have := k.within h1 h2 h3 h4
          exact ⟨by omega, fun e => by omega, fun g => absurd g.within h4⟩
      · have := h.shape h1 h2 h3
        have := k.shape h1 h2 h3
        exact ⟨by omega, fun e => by omega, fun g => absurd g.shape h3⟩
    · have := h.size h1 h2
      have := k.size h1 h2
      exact ⟨by omega, fun e => by omega, fun g => absurd g.size h2⟩
  · have := h.many h1
    have := k.many h1
    exact ⟨by omega, fun e => by omega, fun g => absurd g.many h1⟩

/-! What is said to a word. -/

def nxT (x : TrI) (q l : Nat) : Nat := ((x.N.getD q []).getD l 0).toNat
def syT (x : TrI) (q l : Nat) : List Int := (x.Y.getD q []).getD l []
def goT (x : TrI) : Nat → List Nat → Nat
  | q, [] => q
  | q, l :: us => goT x (nxT x q l) us
def ruT (x : TrI) : Nat → List Nat → List Int
  | _, [] => []
  | q, l :: us => syT x q l ++ ruT x (nxT x q l) us
theorem goT_snoc (x : TrI) (q : Nat) (us : List Nat) (l : Nat) : goT x q (us ++ [l]) = nxT x (goT x q us) l := by
  induction us generalizing q with
  | nil => rfl
  | cons u us ih => exact ih _
theorem ruT_snoc (x : TrI) (q : Nat) (us : List Nat) (l : Nat) : ruT x q (us ++ [l]) = ruT x q us ++ syT x (goT x q us) l := by
  induction us generalizing q with
  | nil => simp [ruT, goT]
  | cons u us ih => simp only [List.cons_append, ruT, goT]; rw [ih, List.append_assoc]
def saysT (x : TrI) (us : List Nat) : List Int := x.F ++ ruT x x.S.toNat us ++ x.E.getD (goT x x.S.toNat us) []

/-- What a transducer needs to be read: its shape, where it leads, and that little is said at once. -/
structure ReadT (x : TrI) (I : Nat) : Prop where
  n1 : 1 ≤ x.N.length
  hy : x.Y.length = x.N.length
  he : x.E.length = x.N.length
  rn : ∀ s, s < x.N.length → (x.N.getD s []).length = I
  ry : ∀ s, s < x.N.length → (x.Y.getD s []).length = I
  nx : ∀ s, s < x.N.length → ∀ l, l < I → StT x.N.length ((x.N.getD s []).getD l 0)
  st : StT x.N.length x.S
  f8 : x.F.length ≤ 8
  y8 : ∀ s, s < x.N.length → ∀ l, l < I → (syT x s l).length ≤ 8
  e8 : ∀ s, s < x.N.length → (x.E.getD s []).length ≤ 8
theorem ReadT.lt {x : TrI} {I : Nat} (h : ReadT x I) {q l : Nat} (hq : q < x.N.length) (hl : l < I) : nxT x q l < x.N.length ∧ ((nxT x q l : Nat) : Int) = (x.N.getD q []).getD l 0 := by
  have := h.nx q hq l hl
  unfold StT at this
  unfold nxT
  constructor <;> omega
theorem ReadT.go {x : TrI} {I : Nat} (h : ReadT x I) (us : List Nat) (hu : ∀ l ∈ us, l < I) {q : Nat} (hq : q < x.N.length) : goT x q us < x.N.length := by
  induction us generalizing q with
  | nil => exact hq
  | cons u us ih => exact ih (fun l hl => hu l (List.mem_cons.2 (.inr hl))) (h.lt hq (hu u (List.mem_cons.2 (.inl rfl)))).1
theorem ReadT.len {x : TrI} {I : Nat} (h : ReadT x I) (us : List Nat) (hu : ∀ l ∈ us, l < I) {q : Nat} (hq : q < x.N.length) : (ruT x q us).length ≤ 8 * us.length := by
  induction us generalizing q with
  | nil => simp [ruT]
  | cons u us ih =>
    have h1 := ih (fun l hl => hu l (List.mem_cons.2 (.inr hl))) (h.lt hq (hu u (List.mem_cons.2 (.inl rfl)))).1
    have h2 := h.y8 q hq u (hu u (List.mem_cons.2 (.inl rfl)))
    simp only [ruT, List.length_append, List.length_cons]
    omega
theorem GoodT.read {x : TrI} (h : GoodT x) : ReadT x x.I.toNat := by
  obtain ⟨⟨hi1, hi2⟩, ho⟩ := h.many
  obtain ⟨hn1, hn2⟩ := h.size
  obtain ⟨hy, he, hr⟩ := h.shape
  obtain ⟨hw, hs⟩ := h.within
  have hl := h.little
  have e1 : ∀ s, s < x.N.length → (x.N.getD s []).length = x.I.toNat := fun s h => by have := (hr s h).1; omega
  have e2 : ∀ s, s < x.N.length → (x.Y.getD s []).length = x.I.toNat := fun s h => by have := (hr s h).2; omega
  refine ⟨hn1, hy, he, e1, e2, fun s h l hl => hw s h l (by rw [e1 s h]; exact hl), hs, hl _ (List.mem_cons.2 (.inl rfl)), fun s h l hl' => ?_, fun s h => ?_⟩
  · refine hl _ (List.mem_cons.2 (.inr (List.mem_flatMap.2 ⟨s, by simp; omega, List.mem_append.2 (.inl ?_)⟩)))
    have hlt : l < (x.Y.getD s []).length := by rw [e2 s h]; exact hl'
    show (x.Y.getD s []).getD l [] ∈ x.Y.getD s []
    revert hlt
    generalize x.Y.getD s [] = r
    intro hlt
    rw [List.getD, List.getElem?_eq_getElem hlt, Option.getD_some]
    exact List.getElem_mem hlt
  · exact hl _ (List.mem_cons.2 (.inr (List.mem_flatMap.2 ⟨s, by simp; omega, List.mem_append.2 (.inr (List.mem_cons.2 (.inl rfl)))⟩)))

end Go.Proofs.Ytkcbdfgbmaeodaa
