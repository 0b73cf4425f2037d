/- A tally in digits: strconv.FormatUint at base 10, strings.Repeat, and the program's 'digits'. -/
import Derived.Test.YtjinibofbpgfjaaDoorShelf
import Derived.Test.YtjinibofbpgfjaaDoorDCount
import Derived.Test.YtjinibofbpgfjaaDoorVaDig
import Derived.Lib.ItoaMem
import Derived.Lib.SmallJoins
namespace Go.Proofs.YtjinibofbpgfjaaDoor
open Go.Shelf Go.RowKit Go.Sort Go.Lib
set_option linter.unusedVariables false

theorem small_any (i : Nat) (h : i < 100) (w : World) : Calls Tryd.prog 59 #[.int .i64 i] w fun e w' => e = .returned (.string ⟨(Lib.decDigits i).toArray⟩) ∧ w' = w :=
  Any.internal_strconv_small Tryd.lays283 i h w
theorem numDigits_any (u : Nat) (h1 : 1 ≤ u) (h2 : u < 18446744073709551616) (w : World) (hT : Pow10 w) : Calls Tryd.prog 60 #[.int .u64 u] w fun e w' => e = .returned (.int .i64 (Lib.nDigits u)) ∧ w' = w :=
  Any.internal_strconv_numDigits Tryd.laysM284 u h1 h2 w hT

theorem holds_zero0 (w : World) (T : TypeId) (nd : Nat) (hs : nd ≤ 24) : Holds (fun (b : UInt8) => Value.int .u8 (b.toNat : Int)) (w.alloc (.cells zeros24 T)) w.heap.size 0 (Array.replicate nd (0 : UInt8)) := fun j hj => by
  have hj' : j < nd := by simpa using hj
  refine ⟨?_, World.frozen?_alloc_new _ _ _ _⟩
  rw [World.cell?_alloc_new, zeros24_at _ (by omega), getElem!_pos _ j hj]
  simp

theorem grown_grow (w : World) (os : Array Obj) : w.grownBy (grow w os) none := ⟨rfl, rfl, rfl, by simp [grow], fun k hk _ => by simp [grow, Array.getElem?_append_left hk]⟩

/-- The digits that are laid into new memory. -/
theorem fmt_any (u : Nat) (hu1 : 1 ≤ u) (hu64 : u < 18446744073709551616) (w : World) :
    Calls Tryd.prog 61 #[.slice (some ⟨w.heap.size, 0, none⟩) (Lib.nDigits u) 24, .int .u64 u] (w.alloc (.cells Lib.zeros24 99)) fun e w' =>
      e = .returned (.tuple #[]) ∧ w.grownBy w' none ∧ ∀ j (hj : j < (Lib.decDigits u).length), w'.cell? ⟨w.heap.size, j, none⟩ = some (.int .u8 ((Lib.decDigits u)[j].toNat : Int)) := by
  have hnd20 : Lib.nDigits u ≤ 20 := by have := Lib.numDigits_eq u hu1 hu64; split at this <;> omega
  have hH0 := holds_zero0 w 99 (Lib.nDigits u) (by omega)
  have hfmt := Any.internal_strconv_formatBase10 Tryd.lays285 w.heap.size 0 24 u (Array.replicate (Lib.nDigits u) 0) (w.alloc (.cells Lib.zeros24 99)) hH0 (by rw [Array.size_replicate]; exact Lib.lt_pow_nDigits u) hu64 (by rw [Array.size_replicate]; omega)
  rw [Array.size_replicate] at hfmt
  refine hfmt.mono ?_
  rintro e w' ⟨rfl, k, v', dk, rfl, hF⟩
  refine ⟨rfl, ?_, fun j hj => ?_⟩
  · rw [alloc_eq_grow]
    obtain ⟨os', _, e⟩ := putRow_grow_new (fun (b : UInt8) => Value.int .u8 (b.toNat : Int)) w #[.cells Lib.zeros24 99] w.heap.size 0 dk (Nat.le_refl _)
    rw [e]
    exact grown_drewN (grown_grow _ _) _
  · rw [Lib.row_is_numeral hF j hj, World.cell?_drewN]
    have := cell?_putRow (fun (b : UInt8) => Value.int .u8 (b.toNat : Int)) _ w.heap.size 0 _ dk hH0 (by rw [hF.size, Array.size_replicate]) j (by rw [hF.size]; rw [Lib.decDigits_length] at hj; exact hj)
    rw [Nat.zero_add] at this
    exact this

set_option maxHeartbeats 3200000 in
set_option maxRecDepth 100000 in
theorem formatUint_in (u : Nat) (hu64 : u < 18446744073709551616) (w : World) (hT : Pow10 w) :
    Calls Tryd.prog 58 #[.int .u64 u, .int .i64 10] w fun e w' => e = .returned (.string ⟨(Lib.decDigits u).toArray⟩) ∧ w.grownBy w' none := by
  by_cases hs : u < 100
  · have hs' : (u : Int) < 100 := by omega
    have HS : Hid (∀ W, Calls Tryd.prog 59 #[.int .i64 u] W fun e w' => e = .returned (.string ⟨(Lib.decDigits u).toArray⟩) ∧ w' = W) := fun W => small_any u hs W
    generalize Lib.decDigits u = dd at *
    go_enter Tryd.func58, Tryd.ntmps58
    go_wp2_with fail
    refine (HS.out _).mono ?_
    rintro e w' ⟨rfl, rfl⟩
    go_wp2_with fail
    go_ret
    exact ⟨rfl, grown_refl _ _⟩
  · have hu1 : 1 ≤ u := by omega
    have hs' : ¬ (u : Int) < 100 := by omega
    have hnd20 : Lib.nDigits u ≤ 20 := by have := Lib.numDigits_eq u hu1 hu64; split at this <;> omega
    have HN : Hid (∀ o, Calls Tryd.prog 60 #[.int .u64 u] (w.alloc o) fun e w' => e = .returned (.int .i64 (Lib.nDigits u)) ∧ w' = w.alloc o) := fun o => numDigits_any u hu1 hu64 _ (hT.grown (grown_alloc _ _))
    have HF : Hid (Calls Tryd.prog 61 #[.slice (some ⟨w.heap.size, 0, none⟩) (Lib.nDigits u) 24, .int .u64 u] (w.alloc (.cells Lib.zeros24 99)) fun e w' =>
      e = .returned (.tuple #[]) ∧ w.grownBy w' none ∧ ∀ j (hj : j < (Lib.decDigits u).length), w'.cell? ⟨w.heap.size, j, none⟩ = some (.int .u8 ((Lib.decDigits u)[j].toNat : Int))) := fmt_any u hu1 hu64 w
    have hal : Tryd.prog.arrayLen 99 = 24 := by kernel_rfl
    have hsl : ∀ W, (Instr.sliceAt 99 (.pointer (some ⟨w.heap.size, 0, none⟩)) none (some (.int .i64 (Lib.nDigits u : Int))) none).run Tryd.prog W = .ok (.slice (some ⟨w.heap.size, 0, none⟩) (Lib.nDigits u) 24) W := fun W => by
      rw [run_sliceAt_array_h W 99 ⟨w.heap.size, 0, none⟩ (by simp [Program.arrayLen, Program.elem, Tryd.underlying99]) .i64 (Lib.nDigits u : Int) (by omega) (by rw [hal]; omega)]
      go_simp
    have hdl : Hid ((Lib.decDigits u).length = Lib.nDigits u) := Lib.decDigits_length u
    clear hal hT
    generalize Lib.decDigits u = dd at *
    generalize Lib.nDigits u = nd at *
    go_enter Tryd.func58, Tryd.ntmps58
    go_wp2_with fail
    refine (HN.out _).mono ?_
    rintro e w' ⟨rfl, rfl⟩
    go_wp2_with fail
    refine HF.out.mono ?_
    rintro e w5 ⟨rfl, hg5, hc5⟩
    have hcv : (convert 53 9 (.slice (some ⟨w.heap.size, 0, none⟩) nd 24)).run Tryd.prog w5 = .ok (.string ⟨dd.toArray⟩) w5 := by
      have h := run_convert_bytes_back (P := Tryd.prog) w5 53 9 5 ⟨w.heap.size, 0, none⟩ 24 dd Tryd.underlying53 Tryd.underlying5 Tryd.underlying9 (fun j hj => by
        rw [add_off, Nat.zero_add]; exact hc5 j hj)
      rw [hdl.out] at h
      exact h
    have G5 : Hid (w.grownBy w5 none) := hg5
    clear hg5 hc5
    go_wp2_with fail
    go_ret
    exact ⟨rfl, G5.out⟩

set_option maxRecDepth 100000 in
theorem formatUint_any (u : Nat) (hu64 : u < 18446744073709551616) (w : World) (hT : Pow10 w) :
    Calls Tryd.prog 39 #[.int .u64 u, .int .i64 10] w fun e w' => e = .returned (.string ⟨(Lib.decDigits u).toArray⟩) ∧ w.grownBy w' none := by
  have HI : Hid (Calls Tryd.prog 58 #[.int .u64 u, .int .i64 10] w fun e w' => e = .returned (.string ⟨(Lib.decDigits u).toArray⟩) ∧ w.grownBy w' none) := formatUint_in u hu64 w hT
  generalize Lib.decDigits u = dd at *
  clear hT
  go_enter Tryd.func39, Tryd.ntmps39
  go_wp2_with fail
  refine HI.out.mono ?_
  rintro e w5 ⟨rfl, hg5⟩
  go_wp2_with fail
  go_ret
  exact ⟨rfl, hg5⟩

theorem repeat_any (c : Nat) (hc : c ≤ 18) (w : World) : Calls Tryd.prog 31 #[.string ⟨#[48]⟩, .int .i64 c] w fun e w' => e = .returned (.string ⟨(Lib.repeatL [48] c).toArray⟩) ∧ w.grownBy w' none :=
  (Any.strings_Repeat Tryd.lays105 Tryd.Builder_Extra_105 ⟨#[48]⟩ c w (by omega) (by have : ByteArray.size ⟨#[48]⟩ = 1 := rfl; rw [this]; omega)).mono fun e w' h => ⟨h.1, grown_of_below h.2⟩

end Go.Proofs.YtjinibofbpgfjaaDoor
