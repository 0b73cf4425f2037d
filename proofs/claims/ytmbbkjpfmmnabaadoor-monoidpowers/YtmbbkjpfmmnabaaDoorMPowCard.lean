/- MonoidPowers holds as a card: the law's row, with the library's table tied to the program's text. The repository of this seat is a pruned copy: the card says nothing of packages that were left out. -/
import Derived.Test.YtmbbkjpfmmnabaaDoorMPowProof
import Derived.Test.YtmbbkjpfmmnabaaDoorCards
import Derived.Test.YtmbbkjpfmmnabaaDoorTie
import Derived.SevenTiedAt
namespace Go.Proofs.YtmbbkjpfmmnabaaDoor
open Go
set_option linter.unusedVariables false

theorem monoidPowers_card_holds : Rows.MonoidPowersCardSaid :=
  Claim7.holds_tied_plain_at .later [] [.data] true (true, "5eba064b708e6ac19099b0b7f568f8fe782bec24c32f4f15318a81a74aeabe4c") true
    monoidPowers_holds (fun _ h => by cases h) (by kernel_rfl) (fun _ h => by cases h) monoidPowers_row_tie rfl ⟨rfl, rfl⟩ (by kernel_rfl) rfl
    (fun f fn hf hfn => by
      obtain rfl : f = 5 := Option.some.inj ((show Tryd.prog.funcNamed "evermore/evermorekeep.MonoidPowers" = some 5 by kernel_rfl).symm.trans hf) |>.symm
      obtain rfl : fn = Tryd.f5 := (Option.some.inj (Tryd.func5.symm.trans hfn)).symm
      exact ⟨by kernel_rfl, fun j t ht => by
        rw [Tryd.params5] at ht
        have hm : t ∈ [25, 22] := by simpa using Array.mem_of_getElem? ht
        have hall : ([25, 22].all fun u => !Tryd.prog.wantsStandIn u) = true := by kernel_rfl
        exact (show Tryd.prog.wantsStandIn t = false by simpa using List.all_eq_true.1 hall t hm)⟩)
    (by kernel_rfl)
#print axioms monoidPowers_card_holds
end Go.Proofs.YtmbbkjpfmmnabaaDoor
