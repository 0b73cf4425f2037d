/- DetAccepts holds as a card: the law's row, with the library's tables tied to the program's text. The repository of this seat is a pruned copy: the card says nothing of packages that were left out. -/
import Derived.Test.YthicninnchbieaaDoorDAcceptsProof
import Derived.Test.YthicninnchbieaaDoorCards
import Derived.Test.YthicninnchbieaaDoorTie
import Derived.SevenTiedAt
namespace Go.Proofs.YthicninnchbieaaDoor
open Go
set_option linter.unusedVariables false

theorem detAccepts_card_holds : Rows.DetAcceptsCardSaid :=
  Claim7.holds_tied_plain_at .later [] [.data, .data, .data] true (true, "abfee4dfac495cab9bf8c61a36b8cb8eeab1e0124c1f0d2522be9c726da01147") true
    detAccepts_holds (fun _ h => by cases h) (by kernel_rfl) (fun _ h => by cases h) detAccepts_row_tie rfl ⟨rfl, rfl⟩ (by kernel_rfl) rfl
    (fun f fn hf hfn => by
      obtain rfl : f = 5 := Option.some.inj ((show Tryd.prog.funcNamed "evermore/evermorelaw.DetAccepts" = some 5 by kernel_rfl).symm.trans hf) |>.symm
      obtain rfl : fn = Tryd.f5 := (Option.some.inj (Tryd.func5.symm.trans hfn)).symm
      exact ⟨by kernel_rfl, fun j t ht => by
        rw [Tryd.params5] at ht
        have hm : t ∈ [25, 22, 3] := by simpa using Array.mem_of_getElem? ht
        have hall : ([25, 22, 3].all fun u => !Tryd.prog.wantsStandIn u) = true := by kernel_rfl
        exact (show Tryd.prog.wantsStandIn t = false by simpa using List.all_eq_true.1 hall t hm)⟩)
    (by kernel_rfl)
#print axioms detAccepts_card_holds
end Go.Proofs.YthicninnchbieaaDoor
