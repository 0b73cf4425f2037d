/- slices.Concat of three words. -/
import Derived.Test.YtmbedmhdijbjgaaSkCat
namespace Go.Proofs.Ytmbedmhdijbjgaa
open Go.RowKit
set_option linter.unusedVariables false
set_option linter.unusedSimpArgs false

def Cat3P (us vs xs : List Int) (w : World) (e : Ending) (w' : World) : Prop := ∃ a k, e = .returned (.slice a (us ++ vs ++ xs).length k) ∧ Ints w' a (us ++ vs ++ xs) ∧ w.grownBy w' none ∧ ∀ y, a = some y → w.heap.size ≤ y.block

attribute [local go_sem ↓] appY_fold in
set_option maxHeartbeats 3200000 in
theorem cat3_any (us vs xs : List Int) (ah al ax : Option Addr) (ch cl cx g2 : Nat) (w : World) (hu : Ints w ah us) (hv : Ints w al vs) (hx : Ints w ax xs) (hl : us.length + vs.length + xs.length ≤ 1000) (c0 : w.cell? ⟨g2, 0, none⟩ = some (.slice ah us.length ch)) (c1 : w.cell? ⟨g2, 1, none⟩ = some (.slice al vs.length cl)) (c2 : w.cell? ⟨g2, 2, none⟩ = some (.slice ax xs.length cx)) :
    Calls Try.prog 20 #[.slice (some ⟨g2, 0, none⟩) 3 3] w (Cat3P us vs xs w) := by
  have q1 : ¬ ((us.length : Int) < 0) := by omega
  have q2 : ¬ ((us.length : Int) + (vs.length : Int) < 0) := by omega
  have q3 : ¬ ((us.length : Int) + (vs.length : Int) + (xs.length : Int) < 0) := by omega
  have r3 : (us.length : Int) + (vs.length : Int) + (xs.length : Int) ≤ 1000 := by omega
  have HG : Hid (Calls Try.prog 23 #[.slice none 0 0, .int .i64 ((us.length : Int) + (vs.length : Int) + (xs.length : Int))] w (GrowZ w)) := by
    have := growZ_any (us.length + vs.length + xs.length) (by omega) w
    rwa [Int.natCast_add, Int.natCast_add] at this
  have HC : Hid (∀ W, w.grownBy W none → W.cell? ⟨g2, 0, none⟩ = some (.slice ah us.length ch) ∧ W.cell? ⟨g2, 1, none⟩ = some (.slice al vs.length cl) ∧ W.cell? ⟨g2, 2, none⟩ = some (.slice ax xs.length cx)) := fun W h => ⟨h.cell c0 (by simp), h.cell c1 (by simp), h.cell c2 (by simp)⟩
  have HU : Hid (Ints w ah us) := hu
  have HV : Hid (Ints w al vs) := hv
  have HX : Hid (Ints w ax xs) := hx
  obtain ⟨Po, hPo⟩ : ∃ P, P = Cat3P us vs xs w := ⟨_, rfl⟩
  have HP : Hid (∀ a k W, Ints W a (us ++ vs ++ xs) → w.grownBy W none → (∀ y, a = some y → w.heap.size ≤ y.block) → Po (.returned (.slice a (us.length + vs.length + xs.length) k)) W) := fun a k W h1 h2 h3 => by rw [hPo]; exact ⟨a, k, by rw [List.length_append, List.length_append], h1, h2, h3⟩
  rw [← hPo]
  clear hu hv hx hPo
  go_enter Try.func20, Try.ntmps20
  go_wp2_with fail
  refine wp_loop_rounds 4 ?_
  rw [rounds_succ]
  go_wp2_with fail
  rw [rounds_succ]
  go_wp2_with fail
  rw [rounds_succ]
  go_wp2_with fail
  rw [rounds_succ]
  go_wp2_with fail
  refine HG.out.mono ?_
  rintro e w1 ⟨a0, cap, rfl, ho, hg⟩
  have ho' : w1.ownsRow w.heap.size 3 1 (.slice a0 ([] : List Int).length cap) ([] : List Int).length (numsI []) := by simpa [numsI] using ho
  obtain ⟨aA, cA, wA, hrA, hoA, hgA⟩ := app_anyY (xs := []) (c := ch) ho' hg.size (HU.out.grown hg) (by simp; omega)
  simp only [List.length_nil, List.nil_append, Nat.zero_add] at hrA hoA
  have hgA2 : w.grownBy wA none := by
    refine grown_of_below ((below_of_grown hg).grown hgA hg.size (fun k hk => ?_))
    exact (ho'.lt k hk).1
  obtain ⟨aB, cB, wB, hrB, hoB, hgB⟩ := app_anyY (c := cl) hoA hgA2.size (HV.out.grown hgA2) (by omega)
  have hgB2 : w.grownBy wB none := by
    refine grown_of_below ((below_of_grown hgA2).grown hgB hgA2.size (fun k hk => ?_))
    exact (hoA.lt k hk).1
  obtain ⟨aD, cD, wD, hrD, hoD, hgD⟩ := app_anyY (c := cx) hoB hgB2.size (HX.out.grown hgB2) (by rw [List.length_append]; omega)
  have hgD2 : w.grownBy wD none := by
    refine grown_of_below ((below_of_grown hgB2).grown hgD hgB2.size (fun k hk => ?_))
    exact (hoB.lt k hk).1
  rw [List.length_append] at hrD
  have d0 := (HC.out w1 hg).1
  have d1 := (HC.out wA hgA2).2.1
  have d4 := (HC.out wB hgB2).2.2
  have Fin : Hid (Po (.returned (.slice aD (us.length + vs.length + xs.length) cD)) wD) := HP.out aD cD wD (ints_of_row hoD) hgD2 (new_of_row hoD)
  clear ho ho' hg hoA hgA hgA2 hoB hgB hgB2 hoD hgD hgD2 HP c0 c1 c2
  go_wp2_with fail
  refine wp_loop_rounds 4 ?_
  rw [rounds_succ]
  go_wp2_with fail
  rw [rounds_succ]
  go_wp2_with fail
  rw [rounds_succ]
  go_wp2_with fail
  rw [rounds_succ]
  go_wp2_with fail
  first | exact Fin.out | (go_ret; exact Fin.out)

end Go.Proofs.Ytmbedmhdijbjgaa
