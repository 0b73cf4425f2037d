/- What a step reads of a transducer; a word that is written piece by piece. -/
import Derived.Test.YtkcbdfgbmaeodaaTnBase
import Derived.Test.YtkcbdfgbmaeodaaSkRow
namespace Go.Proofs.Ytkcbdfgbmaeodaa
open Go.RowKit
set_option linter.unusedVariables false

def nsT (us : List Nat) : List Int := us.map fun (u : Nat) => (u : Int)
theorem nsT_len (us : List Nat) : (nsT us).length = us.length := by simp [nsT]
theorem nsT_getD {us : List Nat} {k : Nat} (h : k < us.length) : (nsT us).getD k 0 = ((us.getD k 0 : Nat) : Int) := by simp [nsT, List.getD, h]
theorem mem_getD {us : List Nat} {k : Nat} (h : k < us.length) : us.getD k 0 ∈ us := by
  rw [List.getD, List.getElem?_eq_getElem h, Option.getD_some]; exact List.getElem_mem h
theorem take_snocN {us : List Nat} {k : Nat} (h : k < us.length) : us.take (k + 1) = us.take k ++ [us.getD k 0] := by
  rw [List.getD, List.getElem?_eq_getElem h, Option.getD_some]; simp
theorem goT_take (x : TrI) (q : Nat) {us : List Nat} {k : Nat} (h : k < us.length) : goT x q (us.take (k + 1)) = nxT x (goT x q (us.take k)) (us.getD k 0) := by rw [take_snocN h, goT_snoc]
theorem ruT_take (x : TrI) (q : Nat) {us : List Nat} {k : Nat} (h : k < us.length) : ruT x q (us.take (k + 1)) = ruT x q (us.take k) ++ syT x (goT x q (us.take k)) (us.getD k 0) := by rw [take_snocN h, ruT_snoc]

section
variable {W : World} {x : TrI} {a3 a4 a5 a6 : Option Addr} {I : Nat}
theorem read_say (h : TnAt W x a3 a4 a5 a6) (hr : ReadT x I) {p u : Nat} (hp : p < x.N.length) (hu : u < I) :
    ∃ b5 o5 k5 b6 o6 k6 r6, a5 = some ⟨b5, o5, none⟩ ∧ (syT x p u).length ≤ 8 ∧ ∀ W', W.grownBy W' none → W'.cell? ⟨b5, o5 + p, none⟩ = some (.slice (some ⟨b6, o6, none⟩) I k5) ∧ W'.cell? ⟨b6, o6 + u, none⟩ = some (.slice r6 (syT x p u).length k6) ∧ Ints W' r6 (syT x p u) := by
  have hp5 : p < x.Y.length := by rw [hr.hy]; exact hp
  obtain ⟨b5, o5, ha, hc⟩ := h.says.at hp5
  obtain ⟨r5, k5, c5, hr5, _⟩ := hc p hp5
  rw [hr.ry p hp] at c5
  have hu5 : u < (x.Y.getD p []).length := by rw [hr.ry p hp]; exact hu
  obtain ⟨b6, o6, rfl, hc6⟩ := hr5.at hu5
  obtain ⟨r6, k6, c6, hi, _⟩ := hc6 u hu5
  exact ⟨b5, o5, k5, b6, o6, k6, r6, ha, hr.y8 p hp u hu, fun W' g => ⟨g.cell c5 (by simp), g.cell c6 (by simp), hi.grown g⟩⟩
theorem read_next (h : TnAt W x a3 a4 a5 a6) (hr : ReadT x I) {p u : Nat} (hp : p < x.N.length) (hu : u < I) :
    ∃ b4 o4 k4 b o, a4 = some ⟨b4, o4, none⟩ ∧ ∀ W', W.grownBy W' none → W'.cell? ⟨b4, o4 + p, none⟩ = some (.slice (some ⟨b, o, none⟩) I k4) ∧ W'.cell? ⟨b, o + u, none⟩ = some (.int .i64 ((nxT x p u : Nat) : Int)) := by
  obtain ⟨b4, o4, ha, hc⟩ := h.next.at hp
  obtain ⟨r4, k4, c4, hr4, _⟩ := hc p hp
  rw [hr.rn p hp] at c4
  have hu4 : u < (x.N.getD p []).length := by rw [hr.rn p hp]; exact hu
  obtain ⟨b, o, rfl, hcr⟩ := hr4.at hu4
  have := hcr u hu4
  rw [← (hr.lt hp hu).2] at this
  exact ⟨b4, o4, k4, b, o, ha, fun W' g => ⟨g.cell c4 (by simp), g.cell this (by simp)⟩⟩
theorem read_last (h : TnAt W x a3 a4 a5 a6) (hr : ReadT x I) {p : Nat} (hp : p < x.N.length) :
    ∃ b6 o6 k6 r6, a6 = some ⟨b6, o6, none⟩ ∧ (x.E.getD p []).length ≤ 8 ∧ ∀ W', W.grownBy W' none → W'.cell? ⟨b6, o6 + p, none⟩ = some (.slice r6 (x.E.getD p []).length k6) ∧ Ints W' r6 (x.E.getD p []) := by
  have hp6 : p < x.E.length := by rw [hr.he]; exact hp
  obtain ⟨b6, o6, ha, hc⟩ := h.last.at hp6
  obtain ⟨r6, k6, c6, hi, _⟩ := hc p hp6
  exact ⟨b6, o6, k6, r6, ha, hr.e8 p hp, fun W' g => ⟨g.cell c6 (by simp), hi.grown g⟩⟩
end

/-- A word of one's own. -/
structure OwnW (W1 W : World) (a : Option Addr) (c : Nat) (zs : List Int) : Prop where
  own : W.ownsRow W1.heap.size 3 1 (.slice a zs.length c) zs.length (numsI zs)
  gr : W1.grownBy W none
theorem OwnW.nil {W1 W : World} (g : W1.grownBy W none) : OwnW W1 W none 0 [] := ⟨World.ownsRow_nil W _ _ _, g⟩
theorem OwnW.put {W1 W : World} {a : Option Addr} {c : Nat} {zs us : List Int} {b : Option Addr} {d : Nat} (h : OwnW W1 W a c zs) (hu : Ints W b us) (hl : zs.length + us.length ≤ 1000) :
    ∃ a1 c1 W', (AppY #[22, 22] 22 #[.slice a zs.length c, .slice b us.length d]).run Try.prog W = .ok (.slice a1 (zs ++ us).length c1) W' ∧ OwnW W1 W' a1 c1 (zs ++ us) := by
  obtain ⟨a1, c1, w', hr, ho, hg⟩ := app_anyY (c := d) h.own h.gr.size hu hl
  refine ⟨a1, c1, w', ?_, ⟨ho, grown_of_below ((below_of_grown h.gr).grown hg h.gr.size (fun k hk => (h.own.lt k hk).1))⟩⟩
  rw [List.length_append]; exact hr
theorem OwnW.ints {W1 W : World} {a : Option Addr} {c : Nat} {zs : List Int} (h : OwnW W1 W a c zs) : Ints W a zs := ints_of_row h.own
theorem OwnW.new {W1 W : World} {a : Option Addr} {c : Nat} {zs : List Int} (h : OwnW W1 W a c zs) : ∀ y, a = some y → W1.heap.size ≤ y.block := new_of_row h.own
theorem OwnW.grown {W1 W W' : World} {a : Option Addr} {c : Nat} {zs : List Int} (h : OwnW W1 W a c zs) (g : W.grownBy W' none) : OwnW W1 W' a c zs := ⟨h.own.kept g (by cases (Value.slice a zs.length c).ownBlock <;> simp), grown_trans h.gr g⟩

end Go.Proofs.Ytkcbdfgbmaeodaa
