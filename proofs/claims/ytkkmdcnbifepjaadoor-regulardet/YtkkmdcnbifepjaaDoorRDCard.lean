/- RegularDet holds as a card: the law's row, with the library's table tied to the program's text. The repository of this seat is a pruned copy: the card says nothing of packages that were left out. -/
import Derived.Test.YtkkmdcnbifepjaaDoorRDProof
import Derived.Test.YtkkmdcnbifepjaaDoorCards
import Derived.Test.YtkkmdcnbifepjaaDoorTie
import Derived.SevenTiedAt
namespace Go.Proofs.YtkkmdcnbifepjaaDoor
open Go
set_option linter.unusedVariables false

theorem regularDet_card_holds : Rows.RegularDetCardSaid :=
  Claim7.holds_tied_plain_at .later [] [.data] true (true, "36cdf6bba356856429cfaddd6c86e6abbaaa4e9cb054db7d744994ad9126ddc1") true
    regularDet_holds (fun _ h => by cases h) (by kernel_rfl) (fun _ h => by cases h) regularDet_row_tie rfl ⟨rfl, rfl⟩ (by kernel_rfl) rfl
    (fun f fn hf hfn => by
      obtain rfl : f = 3 := Option.some.inj ((show Tryd.prog.funcNamed "evermore/evermorelaw.RegularDet" = some 3 by kernel_rfl).symm.trans hf) |>.symm
      obtain rfl : fn = Tryd.f3 := (Option.some.inj (Tryd.func3.symm.trans hfn)).symm
      exact ⟨by kernel_rfl, fun j t ht => by
        rw [Tryd.params3] at ht
        have hm : t ∈ [3, 9, 22] := by simpa using Array.mem_of_getElem? ht
        have hall : ([3, 9, 22].all fun u => !Tryd.prog.wantsStandIn u) = true := by kernel_rfl
        exact (show Tryd.prog.wantsStandIn t = false by simpa using List.all_eq_true.1 hall t hm)⟩)
    (by kernel_rfl)
#print axioms regularDet_card_holds
end Go.Proofs.YtkkmdcnbifepjaaDoor
