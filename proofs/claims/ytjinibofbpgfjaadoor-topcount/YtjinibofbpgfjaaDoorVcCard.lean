/- TopCount holds as a card: the law's row, with the library's tables tied to the program's text. The repository of this seat is a pruned copy: the card says nothing of packages that were left out. -/
import Derived.Test.YtjinibofbpgfjaaDoorVcProof
import Derived.Test.YtjinibofbpgfjaaDoorCards
import Derived.Test.YtjinibofbpgfjaaDoorTie
import Derived.SevenTiedAt
namespace Go.Proofs.YtjinibofbpgfjaaDoor
open Go
set_option linter.unusedVariables false

theorem topCount_card_holds : Rows.TopCountCardSaid :=
  Claim7.holds_tied_plain_at .later [] [.data, .data, .data, .data, .pinned] true (true, "e78f5012406bfda079adf2a961ec1d045167803435a6feb979a9b0f312808b62") false
    topCount_holds (fun _ h => by cases h) (by kernel_rfl) (fun _ h => by cases h) topCount_row_tie rfl ⟨rfl, rfl⟩ (by kernel_rfl) rfl
    (fun f fn hf hfn => by
      obtain rfl : f = 4 := Option.some.inj ((show Tryd.prog.funcNamed "evermore/evermoretop.TopCount" = some 4 by kernel_rfl).symm.trans hf) |>.symm
      obtain rfl : fn = Tryd.f4 := (Option.some.inj (Tryd.func4.symm.trans hfn)).symm
      exact ⟨by kernel_rfl, fun j t ht => by
        rw [Tryd.params4] at ht
        have hm : t ∈ [38, 3] := by simpa using Array.mem_of_getElem? ht
        have hall : ([38, 3].all fun u => !Tryd.prog.wantsStandIn u) = true := by kernel_rfl
        exact (show Tryd.prog.wantsStandIn t = false by simpa using List.all_eq_true.1 hall t hm)⟩)
    (by kernel_rfl)
#print axioms topCount_card_holds
end Go.Proofs.YtjinibofbpgfjaaDoor
