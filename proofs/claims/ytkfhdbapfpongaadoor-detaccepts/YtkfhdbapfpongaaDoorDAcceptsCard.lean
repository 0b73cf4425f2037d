/- DetAccepts holds as a card: the law's row, with the library's tables tied to the program's text. The repository of this seat is a pruned copy: the card says nothing of packages that were left out. -/
import Derived.Test.YtkfhdbapfpongaaDoorDAcceptsProof
import Derived.Test.YtkfhdbapfpongaaDoorCards
import Derived.Test.YtkfhdbapfpongaaDoorTie
import Derived.SevenTiedAt
namespace Go.Proofs.YtkfhdbapfpongaaDoor
open Go
set_option linter.unusedVariables false

theorem detAccepts_card_holds : Rows.DetAcceptsCardSaid :=
  Claim7.holds_tied_plain_at .later [] [.data, .data, .data] true (true, "10921eff73c6db6b92510bc2fc1b97ec319041ccf3fda605f8a3cf0f2ef066ea") false
    detAccepts_holds (fun _ h => by cases h) (by kernel_rfl) (fun _ h => by cases h) detAccepts_row_tie rfl ⟨rfl, rfl⟩ (by kernel_rfl) rfl
    (fun f fn hf hfn => by
      obtain rfl : f = 3 := Option.some.inj ((show Tryd.prog.funcNamed "evermore/evermorelaw.DetAccepts" = some 3 by kernel_rfl).symm.trans hf) |>.symm
      obtain rfl : fn = Tryd.f3 := (Option.some.inj (Tryd.func3.symm.trans hfn)).symm
      exact ⟨by kernel_rfl, fun j t ht => by
        rw [Tryd.params3] at ht
        have hm : t ∈ [25, 23, 3] := by simpa using Array.mem_of_getElem? ht
        have hall : ([25, 23, 3].all fun u => !Tryd.prog.wantsStandIn u) = true := by kernel_rfl
        exact (show Tryd.prog.wantsStandIn t = false by simpa using List.all_eq_true.1 hall t hm)⟩)
    (by kernel_rfl)
#print axioms detAccepts_card_holds
end Go.Proofs.YtkfhdbapfpongaaDoor
