/- One that repeats what it hears. -/
import Derived.Test.YtodcmlcpicabaaaTpOne
namespace Go.Proofs.Ytodcmlcpicabaaa
open Go.RowKit
set_option linter.unusedVariables false
set_option linter.unusedSimpArgs false

def idT (O : Nat) : TrI := ⟨(O : Int), (O : Int), 0, [], [List.replicate O 0], [(List.range O).map fun a => [((a : Nat) : Int)]], [[]]⟩
section
variable {O : Nat}
theorem id_nx (l : Nat) : nxT (idT O) 0 l = 0 := by
  unfold nxT idT
  by_cases h : l < O
  · simp [List.getD, h]
  · simp [List.getD, h]
theorem id_sy {l : Nat} (h : l < O) : syT (idT O) 0 l = [(l : Int)] := by
  unfold syT idT
  simp [List.getD, h]
theorem id_read (hO : 1 ≤ O) : ReadT (idT O) O := by
  have e0 : ∀ s, s < (idT O).N.length → s = 0 := fun s hs => by have : s < 1 := hs; omega
  refine ⟨by show (1 : Nat) ≤ 1; omega, rfl, rfl, fun s hs => ?_, fun s hs => ?_, fun s hs l hl => ?_, by show (0 : Int) ≤ 0 ∧ (0 : Int) < 1; omega, by show (0 : Nat) ≤ 8; omega, fun s hs l hl => ?_, fun s hs => ?_⟩
  · rw [e0 s hs]; show (List.replicate O (0 : Int)).length = O; simp
  · rw [e0 s hs]; show ((List.range O).map fun a => [((a : Nat) : Int)]).length = O; simp
  · rw [e0 s hs]
    have : ((idT O).N.getD 0 []).getD l 0 = 0 := by
      show (List.replicate O (0 : Int)).getD l 0 = 0
      simp [List.getD, hl]
    rw [this]
    show (0 : Int) ≤ 0 ∧ (0 : Int) < 1
    omega
  · rw [e0 s hs, id_sy hl]; show (1 : Nat) ≤ 8; omega
  · rw [e0 s hs]; show (0 : Nat) ≤ 8; omega
theorem id_go (us : List Nat) : goT (idT O) 0 us = 0 := by
  induction us with
  | nil => rfl
  | cons u us ih => show goT (idT O) (nxT (idT O) 0 u) us = 0; rw [id_nx, ih]
theorem id_ru (us : List Nat) : (∀ l, l ∈ us → l < O) → ruT (idT O) 0 us = nsT us := by
  induction us with
  | nil => intro _; rfl
  | cons u us ih =>
    intro h
    show syT (idT O) 0 u ++ ruT (idT O) (nxT (idT O) 0 u) us = nsT (u :: us)
    rw [id_nx, id_sy (h u (List.mem_cons_self)), ih (fun l hl => h l (List.mem_cons_of_mem _ hl))]
    rfl
theorem id_says {v : List Int} (h : InO (O : Int) v) : saysT (idT O) (tnsT v) = v := by
  have hl : ∀ l, l ∈ tnsT v → l < O := fun l hl => by
    obtain ⟨j, hj, rfl⟩ := List.mem_map.1 hl
    have := h j hj
    omega
  unfold saysT
  show [] ++ ruT (idT O) 0 (tnsT v) ++ (idT O).E.getD (goT (idT O) 0 (tnsT v)) [] = v
  rw [id_go, id_ru _ hl, nsT_tns (fun j hj => (h j hj).1)]
  show [] ++ v ++ [] = v
  simp
theorem id_good (h1 : 1 ≤ O) (h4 : O ≤ 4) : GoodT (idT O) := by
  have hs : ∀ u, u ∈ sayT (idT O) → u = [] ∨ ∃ a, a < O ∧ u = [((a : Nat) : Int)] := fun u hu => by
    have hu' : u = [] ∨ u ∈ (List.range O).map (fun a => [((a : Nat) : Int)]) ∨ u = [] := by simpa [sayT, sayTo, idT] using hu
    rcases hu' with h | h | h
    · exact .inl h
    · obtain ⟨a, ha, e⟩ := List.mem_map.1 h
      exact .inr ⟨a, List.mem_range.1 ha, e.symm⟩
    · exact .inl h
  have hr := id_read h1
  refine ⟨⟨by show (1 : Int) ≤ (O : Int) ∧ (O : Int) ≤ 4; omega, by show (1 : Int) ≤ (O : Int) ∧ (O : Int) ≤ 4; omega⟩, ⟨hr.n1, by show (1 : Nat) ≤ 6; omega⟩, ⟨rfl, rfl, fun s hs => ⟨by rw [hr.rn s hs]; rfl, by rw [hr.ry s hs]; rfl⟩⟩, ⟨fun s hs l hl => hr.nx s hs l (by rw [← hr.rn s hs]; exact hl), hr.st⟩, fun u hu => ?_, fun u hu j hj => ?_⟩
  · rcases hs u hu with rfl | ⟨a, _, rfl⟩ <;> simp
  · rcases hs u hu with rfl | ⟨a, ha, rfl⟩
    · simp at hj
    · have : j = 0 := by have : j < 1 := hj; omega
      subst this
      show (0 : Int) ≤ (a : Int) ∧ (a : Int) < (O : Int)
      omega
end
/-- With it behind, nothing is added. -/
theorem top_same {x R L : TrI} {O : Nat} (gx : GoodT x) (hO : x.O = (O : Int)) (hR : LeastIs x x.I.toNat R) (hL : Canon L x.I.toNat) (hLO : L.O = (O : Int)) (h : ∀ us : List Nat, (∀ l, l ∈ us → l < x.I.toNat) → saysT L us = saysT (idT O) (tnsT (saysT x us))) : L = R := by
  have hxI : x.I = ((x.I.toNat : Nat) : Int) := by have := gx.many.1; unfold ManyT at this; omega
  refine canon_one hL ⟨x, 8, gx.read, hR⟩ (by rw [hLO, (least_io hR).2, hO]) fun us hu => ?_
  have hv := (gx.letp hxI).says gx.read us hu
  rw [hO] at hv
  rw [h us hu, id_says hv, (least_k gx.read hR).1.says us hu]

end Go.Proofs.Ytodcmlcpicabaaa
