/- A transducer with one state: its least form; and how it is written down. -/
import Derived.Test.YtodcmlcpicabaaaTpAny
namespace Go.Proofs.Ytodcmlcpicabaaa
open Go.RowKit
set_option linter.unusedVariables false
set_option linter.unusedSimpArgs false

def oneT (e : List Int) : TrI := ⟨1, 1, 0, [], [[0]], [[[0]]], [e]⟩
def oneL (e : List Int) : TrI := ⟨1, 1, 0, e, [[0]], [[[0]]], [[]]⟩
theorem one_mem {e u : List Int} (he : e = [0] ∨ e = []) (h : u = [] ∨ u = [0] ∨ u = e) : u = [] ∨ u = [0] := by
  rcases h with h | h | h
  · exact .inl h
  · exact .inr h
  · rcases he with h2 | h2
    · exact .inr (h.trans h2)
    · exact .inl (h.trans h2)
section
variable {e : List Int}
theorem one_good (he : e = [0] ∨ e = []) : GoodT (oneT e) := by
  have hs : sayT (oneT e) = [[], [0], e] := by simp [sayT, sayTo, oneT]
  refine ⟨⟨by show (1 : Int) ≤ 1 ∧ (1 : Int) ≤ 4; omega, by show (1 : Int) ≤ 1 ∧ (1 : Int) ≤ 4; omega⟩, ⟨by show (1 : Nat) ≤ 1; omega, by show (1 : Nat) ≤ 6; omega⟩, ⟨rfl, rfl, fun s hs => ?_⟩, ⟨fun s hs l hl => ?_, by show (0 : Int) ≤ 0 ∧ (0 : Int) < 1; omega⟩, fun u hu => ?_, fun u hu j hj => ?_⟩
  · have : s = 0 := by have : s < 1 := hs; omega
    subst this
    exact ⟨rfl, rfl⟩
  · have : s = 0 := by have : s < 1 := hs; omega
    subst this
    have : l = 0 := by have : l < 1 := hl; omega
    subst this
    show (0 : Int) ≤ 0 ∧ (0 : Int) < 1
    omega
  · rw [hs] at hu
    rcases one_mem he (by simpa using hu) with rfl | rfl <;> simp
  · rw [hs] at hu
    have hu2 : u = [] ∨ u = [0] := one_mem he (by simpa using hu)
    rcases hu2 with rfl | rfl
    · simp at hj
    · have : j = 0 := by have : j < 1 := hj; omega
      subst this
      show (0 : Int) ≤ 0 ∧ (0 : Int) < 1
      omega
theorem one_least (he : e = [0] ∨ e = []) {L : TrI} (h : LeastIs (oneT e) 1 L) : L = oneL e := by
  have hg := (one_good he).read
  have hr : ReadT (oneT e) 1 := hg
  obtain ⟨_, hR⟩ := least_k hr h
  obtain ⟨B, cls, k3, ⟨⟨i, hB⟩, _⟩, hcl, hend, rfl⟩ := hR
  have hcut : cutA (oneT e) 1 1 [e] = [e] := by
    rcases he with rfl | rfl <;> rfl
  have hB1 : B = [e] := by
    rw [hB]
    exact rndT_rest hcut i
  subst hB1
  have hlt : ∀ q, q ∈ bfsL cls (nxT (oneT e)) 1 0 k3 → q < 1 := bfsL_lt cls (n := 1) (fun s a hs ha => (hr.lt hs ha).1) (by omega) k3
  have hnd := bfsL_nodup cls (nxT (oneT e)) 1 0 k3
  have hend' : IsEnd (bfsL cls (nxT (oneT e)) 1 0) k3 := hend
  have hlen := hend'.len
  obtain ⟨xs, hxs⟩ : ∃ xs, bfsL cls (nxT (oneT e)) 1 0 k3 = xs := ⟨_, rfl⟩
  have hx0 : xs = [0] := by
    rw [hxs] at hlt hnd hlen
    obtain ⟨zs, hz⟩ := bfsL_le cls (nxT (oneT e)) 1 0 (Nat.zero_le k3)
    rw [hxs] at hz
    have hz' : xs = 0 :: zs := hz
    cases zs with
    | nil => exact hz'
    | cons z zs =>
      exfalso
      have hz0 : z = 0 := by have := hlt z (by rw [hz']; simp); omega
      rw [hz', hz0] at hnd
      simp at hnd
  show ofK cls 1 ([] ++ [e].getD 0 []) 1 (nxT (oneT e)) (syT (pushT (oneT e) 1 [e])) (fun q => (pushT (oneT e) 1 [e]).E.getD q []) (bfsL cls (nxT (oneT e)) 1 0 k3) = oneL e
  rw [hxs, hx0]
  rcases he with rfl | rfl <;> simp [ofK, oneL, resR, rowR, ix, nxT, oneT, pushT, syT]
theorem oneL_little (he : e = [0] ∨ e = []) : LittleT (oneL e) := by
  have hs : sayT (oneL e) = [e, [0], []] := by simp [sayT, sayTo, oneL]
  intro u hu
  rw [hs] at hu
  have h : u = e ∨ u = [0] ∨ u = [] := by simpa using hu
  have h2 : u = [] ∨ u = [0] ∨ u = e := by
    rcases h with h | h | h
    · exact .inr (.inr h)
    · exact .inr (.inl h)
    · exact .inl h
  rcases one_mem he h2 with rfl | rfl <;> simp
end

/-! Literals. -/
theorem lit_int (w : World) (z : Int) : Ints (w.alloc (.cells #[.int .i64 z] 3)) (some ⟨w.heap.size, 0, none⟩) [z] := by
  refine .inr ⟨w.heap.size, 0, rfl, fun i hi => ?_⟩
  have : i = 0 := by have : i < 1 := hi; omega
  subst this
  have hb := heap_alloc_new w (.cells #[.int .i64 z] 3)
  rw [cell_of_row _ _ _ _ _ (0, 0) hb]
  rfl
theorem lit_row {W : World} {a : Option Addr} {u : List Int} (h : Ints W a u) (n c : Nat) (hn : u.length = n) (hm : n ≤ maxLen) : RowsAt (W.alloc (.cells #[.slice a n c] 22)) (some ⟨W.heap.size, 0, none⟩) [u] := by
  refine .inr ⟨W.heap.size, 0, rfl, fun i hi => ?_⟩
  have : i = 0 := by have : i < 1 := hi; omega
  subst this hn
  have hb := heap_alloc_new W (.cells #[.slice a u.length c] 22)
  refine ⟨a, c, ?_, h.grown (grown_alloc _ _), hm⟩
  rw [cell_of_row _ _ _ _ _ (0, 0) hb]
  rfl
theorem lit_tab {W : World} {a : Option Addr} {R : List (List Int)} (h : RowsAt W a R) (n c : Nat) (hn : R.length = n) (hm : n ≤ maxLen) : TabAt (W.alloc (.cells #[.slice a n c] 23)) (some ⟨W.heap.size, 0, none⟩) [R] := by
  refine .inr ⟨W.heap.size, 0, rfl, fun i hi => ?_⟩
  have : i = 0 := by have : i < 1 := hi; omega
  subst this hn
  have hb := heap_alloc_new W (.cells #[.slice a R.length c] 23)
  refine ⟨a, c, ?_, h.grown (grown_alloc _ _), hm⟩
  rw [cell_of_row _ _ _ _ _ (0, 0) hb]
  rfl
theorem lit_caps {W : World} {a : Option Addr} {u : List Int} (n c : Nat) (hn : u.length = n) (hc : n ≤ c) : CapsAt (W.alloc (.cells #[.slice a n c] 22)) (some ⟨W.heap.size, 0, none⟩) [u] := by
  refine .inr ⟨W.heap.size, 0, rfl, fun i hi => ?_⟩
  have : i = 0 := by have : i < 1 := hi; omega
  subst this hn
  have hb := heap_alloc_new W (.cells #[.slice a u.length c] 22)
  refine ⟨a, c, ?_, hc⟩
  rw [cell_of_row _ _ _ _ _ (0, 0) hb]
  rfl

end Go.Proofs.Ytodcmlcpicabaaa
