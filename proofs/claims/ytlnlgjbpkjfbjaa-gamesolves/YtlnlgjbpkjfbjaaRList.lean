/- Copies with memory of their own, as the law makes them: lists, lists of lists, automata. -/
import Derived.Test.YtlnlgjbpkjfbjaaRList1
namespace Go.Proofs.Ytlnlgjbpkjfbjaa
open Go.RowKit
set_option linter.unusedVariables false

/-- What a copy of rows leaves behind. -/
def ListsPost (R : List (List Int)) (w : World) (e : Ending) (w' : World) : Prop :=
  ∃ (v : Value) (rs : List (Value × List Int)), e = .returned v ∧ rs.map (·.2) = R ∧ Owns w.heap.size w' ((25, v, rs.map (·.1)) :: rowItems rs) ∧ w.grownBy w' none

set_option maxHeartbeats 2000000 in
set_option maxRecDepth 100000 in
theorem lists_any (a : Option Addr) (c : Nat) (R : List (List Int)) (w : World) (hR : RowsAt w a R) (hn : R.length * 24 ≤ 140737488355328) (hm : ∀ i, i < R.length → (R.getD i []).length ≤ 17592186044416) :
    Calls Try.prog 9 #[.slice a R.length c] w (ListsPost R w) := by
  have HR : Hid (RowsAt w a R) := hR
  have HM : Hid (∀ i, i < R.length → (R.getD i []).length ≤ 17592186044416) := hm
  obtain ⟨i0, hi, hz0, hz1, hz2⟩ := info_parts Try.infoS
  clear hR hm
  go_enter Try.func9, Try.ntmps9
  go_wp2_with fail
  go_loopw [3, 4] (fun v i wr => ∃ (k : Nat) (a0 : Option Addr) (d0 : Nat) (rs : List (Value × List Int)), v = .slice a0 k d0 ∧ i = .int .i64 k ∧ k ≤ R.length ∧ rs.length = k ∧ rs.map (·.2) = R.take k ∧ Owns w.heap.size wr ((25, .slice a0 k d0, rs.map (·.1)) :: rowItems rs) ∧ w.grownBy wr none) (fun _ i _ => R.length - (intOf i).toNat)
  case atStart => exact ⟨0, none, 0, [], rfl, rfl, by omega, rfl, by simp, (Owns.no _ _).empty _, grown_refl _ _⟩
  case round =>
    obtain ⟨k, a0, d0, rs, rfl, rfl, hk, hrl, hrs, ho, hg⟩ := hrel
    have O : Hid (Owns w.heap.size wr ((25, .slice a0 k d0, rs.map (·.1)) :: rowItems rs)) := ho
    have G : Hid (w.grownBy wr none) := hg
    have HRL : Hid (rs.length = k) := hrl
    have HRS : Hid (rs.map (·.2) = R.take k) := hrs
    clear hrl hrs ho hg
    by_cases hlt : k < R.length
    · obtain ⟨b, off, rfl, hc⟩ := HR.out.at hlt
      obtain ⟨x, cx, hx1, hx2, hx3⟩ := hc k hlt
      have hcw : wr.cell? ⟨b, off + k, none⟩ = some (.slice x (R.getD k []).length cx) := G.out.cell hx1 (by simp)
      have hl44 := HM.out k hlt
      have HL : Hid (Calls Try.prog 8 #[.slice x (R.getD k []).length cx] wr fun e w' => e = .returned (.slice (some ⟨wr.heap.size, 0, none⟩) (R.getD k []).length ((R.getD k []).length + 3)) ∧ Owns wr.heap.size w' [(3, .slice (some ⟨wr.heap.size, 0, none⟩) (R.getD k []).length ((R.getD k []).length + 3), vals (R.getD k []))] ∧ wr.grownBy w' none) := list_any x cx _ wr (hx2.grown G.out) hl44
      have HT : Hid (R.take (k + 1) = R.take k ++ [R.getD k []]) := by
        show _ = _
        rw [List.take_add_one]
        simp [List.getD, hlt]
      clear hc hx1 hx2 hx3
      generalize R.getD k [] = zs at *
      have hki : (k : Int) < (R.length : Int) := by omega
      go_wp2_with fail
      refine HL.out.mono ?_
      rintro e w2 ⟨rfl, ho2, hg2⟩
      have O2 : Hid (Owns w.heap.size w2 ((3, .slice (some ⟨wr.heap.size, 0, none⟩) zs.length (zs.length + 3), vals zs) :: (25, .slice a0 k d0, rs.map (·.1)) :: rowItems rs)) := O.out.join hg2 ho2 G.out.size
      have G2 : Hid (w.grownBy w2 none) := grown_trans G.out hg2
      have hO2 : Hid (∀ o, (w2.alloc o).ownsRow w.heap.size 25 1 (.slice a0 k d0) k (rs.map (·.1))) := fun o => by
        have h2 := ((O2.out.kept (grown_alloc w2 o)).perm (List.Perm.swap _ _ _)).row
        simpa [HRL.out] using h2
      have HS2 : Hid (w.heap.size ≤ w2.heap.size) := G2.out.size
      clear ho2 hg2 hcw
      go_wp2_with (at_builtin; refine wpList_append_lies _ rfl (.tmp 17) (.tmp 19) 31 rfl w.heap.size 25 i0 (.slice none 0 0) 1 24 Try.underlying31 hi hz0 hz1 hz2 rfl (by decide) (.slice a0 k d0) k _ rfl (hO2.out _) ⟨w2.heap.size, 0, none⟩ 1 1 [.slice (some ⟨wr.heap.size, 0, none⟩) zs.length (zs.length + 3)] rfl rfl (cell_one_new _ _ _) (by intro u hu; simp at hu; subst hu; rfl) (by omega) (by unfold maxLen; omega) (by omega) (by have := HS2.out; simp; omega) (w2.heap.size + 1) (by simp) ?_; intro g cap w3 ho3 hg3 hat3 _; have O3 : Hid (Owns w.heap.size w3 ((25, .slice (some ⟨g, 0, none⟩) (k + 1) cap, rs.map (·.1) ++ [.slice (some ⟨wr.heap.size, 0, none⟩) zs.length (zs.length + 3)]) :: (3, .slice (some ⟨wr.heap.size, 0, none⟩) zs.length (zs.length + 3), vals zs) :: rowItems rs)) := (((O2.out.kept (grown_alloc w2 _)).perm (List.Perm.swap _ _ _)).append ho3 (by simp [HRL.out]) hg3 hat3 (by simp)); have G3 : Hid (w.grownBy w3 none) := (Owns.frame ((O2.out.kept (grown_alloc w2 _)).perm (List.Perm.swap _ _ _)) (Nat.le_refl _) (grown_trans G2.out (grown_alloc w2 _)) hg3); clear ho3 hg3 hat3)
      go_roundw
      case rel =>
        refine ⟨k + 1, some ⟨g, 0, none⟩, cap, rs ++ [(.slice (some ⟨wr.heap.size, 0, none⟩) zs.length (zs.length + 3), zs)], rfl, by go_num, by omega, by simp [HRL.out], by rw [List.map_append, HRS.out, HT.out]; rfl, ?_, G3.out⟩
        refine O3.out.perm ?_
        simp only [List.map_append, List.map_cons, List.map_nil]
        exact List.Perm.cons _ (List.perm_append_comm (l₁ := [(3, _, vals zs)]) (l₂ := rowItems rs))
      case measure => simp [intOf]; omega
    · have hki : ¬ (k : Int) < (R.length : Int) := by omega
      have HE : Hid (R.take k = R) := List.take_of_length_le (by omega)
      go_wp2_with fail
      go_ret
      exact ⟨_, rs, rfl, by rw [HRS.out, HE.out], O.out, G.out⟩

end Go.Proofs.Ytlnlgjbpkjfbjaa
