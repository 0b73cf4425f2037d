/- Copies with memory of their own, as the law makes them: lists. -/
import Derived.Test.YtaangdomdeklhaaJoin1
namespace Go.Proofs.Ytaangdomdeklhaa
open Go.RowKit
set_option linter.unusedVariables false

set_option maxHeartbeats 1000000 in
theorem list_any (a : Option Addr) (c : Nat) (zs : List Int) (w : World) (hz : Ints w a zs) (hm : zs.length ≤ 17592186044416) :
    Calls Try.prog 20 #[.slice a zs.length c] w fun e w' => e = .returned (.slice (some ⟨w.heap.size, 0, none⟩) zs.length (zs.length + 3)) ∧ Owns w.heap.size w' [(3, .slice (some ⟨w.heap.size, 0, none⟩) zs.length (zs.length + 3), vals zs)] ∧ w.grownBy w' none := by
  obtain ⟨i0, hi, hz0, hz1, hz2⟩ := info_parts Try.info3i
  have hmk := run_make (P := Try.prog) w 22 3 i0 (.int .i64 0) Try.underlying22 hi hz0 .i64 .i64 (zs.length : Int) ((zs.length : Int) + 3) (by omega) (by omega) (by rw [hz2]; omega) (by omega)
  have e : madeCells (Value.cells (.int .i64 0)) (zs.length + 3) = Array.replicate (zs.length + 3) (Value.int .i64 0) := by
    apply Array.ext'
    simpa [Value.cells] using toList_madeCells_one (.int .i64 0) (zs.length + 3)
  rw [hz1, Nat.mul_one, show ((zs.length : Int) + 3).toNat = zs.length + 3 by omega, Int.toNat_natCast, e] at hmk
  obtain ⟨W', hcp, HO, HB⟩ := copy_fact a c zs w hz hm
  clear hz
  go_enter Try.func20, Try.ntmps20
  go_wp2
  go_ret
  exact ⟨rfl, HO.out, HB.out⟩

end Go.Proofs.Ytaangdomdeklhaa
