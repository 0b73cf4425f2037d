/- A piece of a lasso's word in new memory, as the program makes it. -/
import Derived.Test.YthccdfjmkdcehaaPeriod
import Derived.Deep.RegionWith
namespace Go.Proofs.Ythccdfjmkdcehaa
open Go.RowKit
set_option linter.unusedVariables false

theorem Try.info3 : (Try.prog.info? 3).map (fun i => (i.zero, i.size, i.bytes)) = some (some (.int .i64 0), 1, 8) := by kernel_rfl

/-- The letters from a place on. -/
def pieceF (h l : List Int) (f n : Nat) : List Int := (List.range n).map fun i => letF h l (f + i)

theorem length_pieceF (h l : List Int) (f n : Nat) : (pieceF h l f n).length = n := by simp [pieceF]
theorem getD_pieceF (h l : List Int) (f n i : Nat) (hi : i < n) : (pieceF h l f n).getD i 0 = letF h l (f + i) := by simp [pieceF, hi]

/-- A slice of numbers in memory of the call's own. -/
def Own (base : Nat) (w : World) (v : Value) (zs : List Int) : Prop := w.ownsRow base 3 1 v zs.length (zs.map (Value.int .i64))

theorem below_grown {w w' : World} (h : Below w.heap.size w w') : w.grownBy w' none := ⟨h.os, h.tape, h.output, h.size, fun k hk _ => h.block k hk⟩

theorem own_later {w w' : World} {base : Nat} {e : TypeId} {size : Nat} {v : Value} {n : Nat} {xs : List Value} (h : w.ownsRow base e size v n xs) (hb : Below w.heap.size w w') : w'.ownsRow base e size v n xs :=
  h.kept (below_grown hb) (by cases v.ownBlock <;> simp)

/-- What is written so far. -/
def soFar (h l : List Int) (f n k : Nat) : List Value := (List.range n).map fun i => if i < k then Value.int .i64 (letF h l (f + i)) else Value.int .i64 0

theorem soFar_zero (h l : List Int) (f n : Nat) : soFar h l f n 0 = List.replicate n (.int .i64 0) := by
  refine List.ext_getElem (by simp [soFar]) fun i h1 h2 => by simp [soFar]

theorem soFar_all (h l : List Int) (f n : Nat) : soFar h l f n n = (pieceF h l f n).map (Value.int .i64) := by
  refine List.ext_getElem (by simp [soFar, pieceF]) fun i h1 h2 => ?_
  simp [soFar] at h1
  simp [soFar, pieceF, h1]

theorem soFar_set (h l : List Int) (f n k : Nat) : (soFar h l f n k).set k (.int .i64 (letF h l (f + k))) = soFar h l f n (k + 1) := by
  refine List.ext_getElem (by simp [soFar]) fun i h1 h2 => ?_
  simp [soFar] at h1
  simp only [soFar, List.getElem_set, List.getElem_map, List.getElem_range]
  by_cases hik : k = i
  · subst hik; simp
  · rw [if_neg hik]
    by_cases h3 : i < k
    · rw [if_pos h3, if_pos (by omega)]
    · rw [if_neg h3, if_neg (by omega)]

theorem soFar_get (h l : List Int) (f n k i : Nat) (hi : i < n) : ∃ v, (soFar h l f n k)[i]? = some v := by simp [soFar, hi]

set_option maxHeartbeats 400000 in
theorem piece_any (f n : Nat) (a a' : Option Addr) (c c' : Nat) (h l : List Int) (w : World) (hh : Ints w a h) (hl : Ints w a' l) (hm : h.length ≤ 60) (hm' : l.length ≤ 60) (hl0 : 0 < l.length) (hf : f ≤ 200) (hn : n ≤ 200) :
    Calls Try.prog 34 #[.agg #[.slice a h.length c, .slice a' l.length c'], .int .i64 f, .int .i64 n] w fun e w' => ∃ g : Nat, e = .returned (.slice (some ⟨g, 0, none⟩) n n) ∧ Own w.heap.size w' (.slice (some ⟨g, 0, none⟩) n n) (pieceF h l f n) ∧ Below w.heap.size w w' := by
  have HC : Hid (∀ (W : World) (x : Int) (n : Nat), Below w.heap.size w W → x = n → n ≤ 400 → Calls Try.prog 26 #[.agg #[.slice a h.length c, .slice a' l.length c'], .int .i64 x] W fun e w' => e = .returned (.int .i64 (letF h l n)) ∧ Below W.heap.size W w') :=
    fun W x n hW hx hn => hx ▸ letter_any n a a' c c' h l W (hh.later hW) (hl.later hW) hm hm' (by omega) hl0
  clear hh hl
  have hb0 : ∀ o, Below w.heap.size w (w.alloc o) := fun o => (Below.refl _ _).alloc (Nat.le_refl _) o
  obtain ⟨i0, hi, hz0, hz1, hz2⟩ := info_parts Try.info3
  go_enter Try.func34, Try.ntmps34
  go_wp2_with (first | (at_make; refine wpList_make_full _ rfl _ _ 26 rfl (w.heap.size + 1) 3 i0 (.int .i64 0) 1 Try.underlying26 hi hz0 hz1 .i64 .i64 n n n rfl rfl rfl rfl (by rw [hz2]; omega) (by unfold maxLen; omega) (by simp) ?_; intro w1 hown hgrow))
  have hsz1 : (w.alloc (Obj.cells #[.slice a h.length c, .slice a' l.length c'] 30)).heap.size = w.heap.size + 1 := by simp
  rw [hsz1] at hown
  have hown0 : w1.ownsRow (w.heap.size + 1) 3 1 (.slice (some ⟨w.heap.size + 1, 0, none⟩) n n) n (soFar h l f n 0) := by
    rw [soFar_zero]; simpa [Value.cells, toList_madeCells_one] using hown
  have hbel0 : Below (w.heap.size + 1) (w.alloc (Obj.cells #[.slice a h.length c, .slice a' l.length c'] 30)) w1 := (Below.refl _ _).grown hgrow (by simp) (fun k hk => by cases hk)
  clear hown hgrow
  go_loopw [12] (fun i wr => ∃ k : Nat, k ≤ n ∧ i = .int .i64 k ∧ wr.ownsRow (w.heap.size + 1) 3 1 (.slice (some ⟨w.heap.size + 1, 0, none⟩) n n) n (soFar h l f n k) ∧ Below (w.heap.size + 1) (w.alloc (.cells #[.slice a h.length c, .slice a' l.length c'] 30)) wr) (fun i _ => n - (intOf i).toNat)
  case atStart => exact ⟨0, by omega, rfl, hown0, hbel0⟩
  case round =>
    clear hown0 hbel0
    obtain ⟨k, hk, rfl, hown, hbel⟩ := hrel
    have HB : Hid (Below w.heap.size w wr) := (hb0 _).trans (hbel.mono (by omega))
    have c0 : wr.cell? ⟨w.heap.size, 0, none⟩ = some (.slice a h.length c) := by rw [hbel.cell (by simp)]; simp
    have c1 : wr.cell? ⟨w.heap.size, 1, none⟩ = some (.slice a' l.length c') := by rw [hbel.cell (by simp)]; simp
    have hsz : w.heap.size + 1 < wr.heap.size := (hown.lt _ rfl).2
    have HB1 : Hid (Below (w.heap.size + 1) (w.alloc (.cells #[.slice a h.length c, .slice a' l.length c'] 30)) wr) := hbel
    clear hbel
    by_cases hlt : k < n
    · have HO : Hid (wr.ownsRow (w.heap.size + 1) 3 1 (.slice (some ⟨w.heap.size + 1, 0, none⟩) n n) n (soFar h l f n k)) := hown
      clear hown
      go_wp2_with fail
      refine (HC.out _ _ (f + k) HB.out (by omega) (by omega)).mono ?_
      rintro e w2 ⟨rfl, hb2⟩
      have HO2 : Hid (w2.ownsRow (w.heap.size + 1) 3 1 (.slice (some ⟨w.heap.size + 1, 0, none⟩) n n) n (soFar h l f n k)) := own_later HO.out hb2
      obtain ⟨v, hv⟩ := soFar_get h l f n k k hlt
      have d0 : w2.cell? ⟨w.heap.size + 1, k, none⟩ = some v := (HO2.out.cellAt k (by omega)).trans hv
      have d1 : w2.frozen? ⟨w.heap.size + 1, k, none⟩ = false := HO2.out.frozenAt k
      clear hv
      have HB2 : Hid (Below (w.heap.size + 1) (w.alloc (.cells #[.slice a h.length c, .slice a' l.length c'] 30)) w2) := HB1.out.trans (hb2.mono (by omega))
      clear hb2
      go_wp2
      go_roundw
      case rel =>
        have st := (HO2.out.stored k (.int .i64 (letF h l (f + k)))).1
        rw [soFar_set] at st
        exact ⟨k + 1, by omega, by go_num, st, HB2.out.setCell (Nat.le_refl _) _⟩
      case measure => simp [intOf]; omega
    · have hkn : k = n := by omega
      have HO : Hid (Own w.heap.size wr (.slice (some ⟨w.heap.size + 1, 0, none⟩) n n) (pieceF h l f n)) := by
        subst hkn
        unfold Own
        rw [length_pieceF, ← soFar_all]
        obtain ⟨g1, g2⟩ := hown
        refine ⟨g1, ?_⟩
        rcases g2 with g2 | ⟨g, cap, cur, hv, hg, hr⟩
        · exact .inl g2
        · exact .inr ⟨g, cap, cur, hv, by omega, hr⟩
      clear hown hkn
      go_wp2
      go_ret
      exact ⟨_, rfl, HO.out, HB.out⟩

end Go.Proofs.Ythccdfjmkdcehaa
