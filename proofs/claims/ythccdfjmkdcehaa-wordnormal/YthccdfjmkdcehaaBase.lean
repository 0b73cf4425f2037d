/- The words that the contracts of this seat are said in: which numbers lie at a slice's address, and how they stay there. -/
import Derived.Test.YthccdfjmkdcehaaRows
import Derived.WalkKit
import Derived.WalkSpells
import Derived.WalkLawsBesides
import Derived.BigQuiet
import Derived.Deep.QuietTactic
namespace Go.Proofs.Ythccdfjmkdcehaa
open Go.RowKit
set_option linter.unusedVariables false

/-- The numbers zs lie at the address a (of an empty list nothing is said). -/
def Ints (w : World) (a : Option Addr) (zs : List Int) : Prop :=
  zs = [] ∨ ∃ b off, a = some ⟨b, off, none⟩ ∧ ∀ i, i < zs.length → w.cell? ⟨b, off + i, none⟩ = some (.int .i64 (zs.getD i 0))

theorem Ints.later {w w' : World} {a : Option Addr} {zs : List Int} (h : Ints w a zs) (hb : Below w.heap.size w w') : Ints w' a zs := by
  rcases h with h | ⟨b, off, ha, hc⟩
  · exact .inl h
  · exact .inr ⟨b, off, ha, fun i hi => cell_later hb (hc i hi)⟩

/-- Where there is a number, there is an address. -/
theorem Ints.at {w : World} {a : Option Addr} {zs : List Int} (h : Ints w a zs) {k : Nat} (hk : k < zs.length) :
    ∃ b off, a = some ⟨b, off, none⟩ ∧ ∀ i, i < zs.length → w.cell? ⟨b, off + i, none⟩ = some (.int .i64 (zs.getD i 0)) := by
  rcases h with rfl | h
  · simp at hk
  · exact h

theorem getD_lt {zs : List Int} {k : Nat} (h : k < zs.length) : zs.getD k 0 = zs[k] := by simp [List.getD, h]

/-- What a function on words answers of one: 0, 1 (too long), 2 (a letter, or how many there are). -/
def mayF (n : Int) (zs : List Int) : Int :=
  if n < 1 ∨ 4 < n then 2 else if 60 < zs.length then 1 else if zs.all (fun x => decide (0 ≤ x) && decide (x < n)) then 0 else 2

theorem mayF_bad {n : Int} {zs : List Int} {k : Nat} (h1 : 1 ≤ n) (h2 : n ≤ 4) (h3 : zs.length ≤ 60) (hk : k < zs.length) (h : zs.getD k 0 < 0 ∨ n ≤ zs.getD k 0) : mayF n zs = 2 := by
  unfold mayF
  rw [if_neg (by omega), if_neg (by omega), if_neg]
  intro ha
  have := List.all_eq_true.1 ha (zs.getD k 0) (by rw [getD_lt hk]; exact List.getElem_mem hk)
  simp at this
  simp at h
  omega

theorem mayF_good {n : Int} {zs : List Int} (h1 : 1 ≤ n) (h2 : n ≤ 4) (h3 : zs.length ≤ 60) (h : ∀ k, k < zs.length → 0 ≤ zs.getD k 0 ∧ zs.getD k 0 < n) : mayF n zs = 0 := by
  unfold mayF
  rw [if_neg (by omega), if_neg (by omega), if_pos]
  refine List.all_eq_true.2 fun x hx => ?_
  obtain ⟨k, hk, rfl⟩ := List.getElem_of_mem hx
  have := h k hk
  rw [getD_lt hk] at this
  simp [this]

theorem ret_int {k : IntKind} {a b : Int} (h : a = b) : Ending.returned (.int k a) = .returned (.int k b) := by rw [h]
theorem ret_bool {a b : Bool} (h : a = b) : Ending.returned (.bool a) = .returned (.bool b) := by rw [h]

theorem bcell {W w1 : World} (hb : Below W.heap.size W w1) : (∀ b o, b < W.heap.size → w1.cell? ⟨b, o, none⟩ = W.cell? ⟨b, o, none⟩) ∧ (∀ b o, b < W.heap.size → w1.frozen? ⟨b, o, none⟩ = W.frozen? ⟨b, o, none⟩) :=
  ⟨fun b o h => hb.cell (p := ⟨b, o, none⟩) h, fun b o h => hb.frozen (p := ⟨b, o, none⟩) h⟩

end Go.Proofs.Ythccdfjmkdcehaa
