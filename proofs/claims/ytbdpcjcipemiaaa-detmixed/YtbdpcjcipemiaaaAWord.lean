/- The word that leads to a meeting. -/
import Derived.Test.YtbdpcjcipemiaaaAKin
import Derived.Test.YtbdpcjcipemiaaaRList
namespace Go.Proofs.Ytbdpcjcipemiaaa
open Go.RowKit
set_option linter.unusedVariables false

/-- Meetings, read. -/
def MetR (w : World) (gm N : Nat) (X Y : Nat → Nat) (F : Nat → Int) (Lt : Nat → Nat) : Prop :=
  ∀ i, i < N → w.cell? ⟨gm, i * 4, none⟩ = some (.int .i64 ((X i : Nat) : Int)) ∧ w.cell? ⟨gm, i * 4 + 1, none⟩ = some (.int .i64 ((Y i : Nat) : Int)) ∧ w.cell? ⟨gm, i * 4 + 2, none⟩ = some (.int .i64 (F i)) ∧ w.cell? ⟨gm, i * 4 + 3, none⟩ = some (.int .i64 ((Lt i : Nat) : Int))
theorem MetR.grown {w w' : World} {gm N : Nat} {X Y : Nat → Nat} {F : Nat → Int} {Lt : Nat → Nat} (h : MetR w gm N X Y F Lt) (hg : w.grownBy w' none) : MetR w' gm N X Y F Lt := fun i hi => by
  obtain ⟨h1, h2, h3, h4⟩ := h i hi
  exact ⟨hg.cell h1 (by simp), hg.cell h2 (by simp), hg.cell h3 (by simp), hg.cell h4 (by simp)⟩

theorem node_len {ws : List (List Nat)} {F : Nat → Int} {Lt : Nat → Nat} (h : Node ws F Lt) : ∀ i, i < ws.length → (ws.getD i []).length ≤ i := by
  intro i
  induction i using Nat.strongRecOn with
  | _ i ih =>
    intro hi
    rcases h i hi with ⟨_, _, h1⟩ | ⟨j, hj, _, h1⟩
    · rw [h1]; simp
    · have := ih j hj (by omega)
      rw [h1, List.length_append, List.length_singleton]; omega
theorem fvals_list (z : List Nat) : fvals z.length (fun i => z.getD i 0) = vals (natInts z) := by
  apply List.ext_getElem (by simp [fvals])
  intro i h1 h2
  have hi : i < z.length := by simpa [vals] using h2
  simp [fvals, vals, List.getD, hi]

def WordPost (zs : List Nat) (w : World) (E : Ending) (w' : World) : Prop :=
  ∃ a c, E = .returned (.slice a zs.length c) ∧ Owns w.heap.size w' [(3, .slice a zs.length c, vals (natInts zs))] ∧ w.grownBy w' none

set_option maxHeartbeats 1600000 in
set_option maxRecDepth 100000 in
theorem wordTo_any (gm N cm at_ : Nat) (X Y : Nat → Nat) (F : Nat → Int) (Lt : Nat → Nat) (ws : List (List Nat)) (w : World) (h : MetR w gm N X Y F Lt) (hN : N ≤ 6000) (hl : ws.length = N) (hnode : Node ws F Lt) (hat : at_ < N) :
    Calls Try.prog 49 #[.slice (some ⟨gm, 0, none⟩) N cm, .int .i64 (at_ : Int)] w (WordPost (ws.getD at_ []) w) := by
  have M0 : Hid (MetR w gm N X Y F Lt) := h
  have ND : Hid (Node ws F Lt) := hnode
  have HL : Hid (ws.length = N) := hl
  obtain ⟨c0, c1, c2, c3⟩ := h at_ hat
  clear h hnode hl
  go_enter Try.func49, Try.ntmps49
  go_wp2_with fail
  obtain ⟨z, hz⟩ : ∃ z, ws.getD at_ [] = z := ⟨_, rfl⟩
  have HZ : Hid (ws.getD at_ [] = z) := hz
  have hzl : z.length ≤ at_ := by rw [← hz]; exact node_len ND.out at_ (by rw [HL.out]; exact hat)
  clear hz c0 c1 c2 c3
  go_loopw [5, 6] (fun v5 v6 wr => ∃ (t L : Nat), v5 = .int .i64 L ∧ v6 = .int .i64 t ∧ t < N ∧ L + (ws.getD t []).length = z.length ∧ w.grownBy wr none) (fun _ v6 _ => (intOf v6).toNat)
  case atStart => exact ⟨at_, 0, rfl, rfl, hat, by rw [HZ.out]; simp, grown_refl _ _⟩
  case round =>
    obtain ⟨t, L, rfl, rfl, ht, hLt, hg⟩ := hrel
    have G : Hid (w.grownBy wr none) := hg
    obtain ⟨c0, c1, c2, c3⟩ := (M0.out.grown hg) t ht
    have hti : (t : Int) < (N : Int) := by omega
    clear hg
    rcases ND.out t (by rw [HL.out]; exact ht) with ⟨ht0, hf, hw⟩ | ⟨j, hj, hf, hw⟩
    · clear ht0
      rw [hf] at c2
      have hLz : L = z.length := by rw [hw] at hLt; simpa using hLt
      subst hLz
      have hmk := make_ints wr z.length (by omega)
      obtain ⟨W1, hW1⟩ : ∃ W1, W1 = wr.alloc (.cells (Array.replicate z.length (Value.int .i64 0)) 3) := ⟨_, rfl⟩
      have O1 : Hid (Owns wr.heap.size W1 [(3, .slice (some ⟨wr.heap.size, 0, none⟩) z.length z.length, fvals z.length fun i => if i < z.length then 0 else z.getD i 0)]) := by
        have h1 := (Owns.no wr.heap.size wr).made (arr := Array.replicate z.length (Value.int .i64 0)) (n := z.length) (Nat.le_refl _) 3 (by simp) (by unfold maxLen; omega)
        rw [← hW1] at h1
        have e : (Array.replicate z.length (Value.int .i64 0)).toList = fvals z.length fun i => if i < z.length then 0 else z.getD i 0 := by
          apply List.ext_getElem (by simp [fvals])
          intro i h1 h2
          have : i < z.length := by simpa [fvals] using h2
          simp [fvals, this]
        rw [e] at h1
        exact h1
      have G1 : Hid (wr.grownBy W1 none) := by rw [hW1]; exact grown_alloc _ _
      rw [← hW1] at hmk
      clear hW1 hf hw
      go_wp2_with fail
      clear hmk c0 c1 c2 c3
      obtain ⟨wo, hwo⟩ : ∃ wo, wo = wr := ⟨_, rfl⟩
      obtain ⟨gw, hgw⟩ : ∃ gw, wr.heap.size = gw := ⟨_, rfl⟩
      rw [hgw] at O1
      rw [hgw]
      rw [← hwo] at hgw G G1
      have HGW : Hid (wo.heap.size = gw) := hgw
      clear hgw hwo
      go_loopw [5, 8] (fun v5 v8 wq => ∃ (t L : Nat), v5 = .int .i64 L ∧ v8 = .int .i64 t ∧ t < N ∧ L ≤ z.length ∧ ws.getD t [] = z.take L ∧ Owns gw wq [(3, .slice (some ⟨gw, 0, none⟩) z.length z.length, fvals z.length fun i => if i < L then 0 else z.getD i 0)] ∧ wo.grownBy wq none) (fun _ v8 _ => (intOf v8).toNat)
      case atStart => exact ⟨at_, z.length, rfl, rfl, hat, by omega, by rw [HZ.out, List.take_length], O1.out, G1.out⟩
      case round =>
        clear O1 G1 hLt ht hti
        obtain ⟨t, L, rfl, rfl, ht, hL, hwt, ho, hg⟩ := hrel
        have O : Hid (Owns gw wr [(3, .slice (some ⟨gw, 0, none⟩) z.length z.length, fvals z.length fun i => if i < L then 0 else z.getD i 0)]) := ho
        have G2 : Hid (wo.grownBy wr none) := hg
        have HW : Hid (ws.getD t [] = z.take L) := hwt
        obtain ⟨c0, c1, c2, c3⟩ := (M0.out.grown (grown_trans G.out hg)) t ht
        have hti : (t : Int) < (N : Int) := by omega
        clear ho hg hwt
        rcases ND.out t (by rw [HL.out]; exact ht) with ⟨ht0, hf, hw⟩ | ⟨j, hj, hf, hw⟩
        · clear ht0
          rw [hf] at c2
          have hL0 : 0 = L := by
            have := congrArg List.length (hw.symm.trans HW.out)
            rw [List.length_nil, List.length_take] at this
            omega
          subst hL0
          have HI : Hid (Owns w.heap.size wr [(3, .slice (some ⟨gw, 0, none⟩) z.length z.length, vals (natInts z))]) := by
            have h1 := O.out
            rw [fvals_congr (g := fun i => z.getD i 0) (fun i hi => by rw [if_neg (by omega)]), fvals_list] at h1
            exact h1.base (by rw [← HGW.out]; exact G.out.size)
          have Gw : Hid (w.grownBy wr none) := grown_trans G.out G2.out
          clear hf hw
          go_wp2_with fail
          go_ret
          exact ⟨_, _, by rw [HZ.out]; rfl, by rw [HZ.out]; exact HI.out, Gw.out⟩
        · rw [hf] at c2
          have hlen := congrArg List.length (hw.symm.trans HW.out)
          simp only [List.length_append, List.length_singleton, List.length_take] at hlen
          have hL1 : 1 ≤ L := by omega
          obtain ⟨L', hLe⟩ : ∃ L', L = L' + 1 := ⟨L - 1, by omega⟩
          subst hLe
          have htk : z.take (L' + 1) = z.take L' ++ [z.getD L' 0] := by
            rw [List.take_add_one]; simp [List.getD, show L' < z.length by omega]
          have happ := hw.symm.trans (HW.out.trans htk)
          obtain ⟨e1, e2⟩ := List.append_inj' happ rfl
          have e3 : Lt t = z.getD L' 0 := by simpa using e2
          have HW2 : Hid (ws.getD j [] = z.take L') := e1
          have xw := O.out.cell (fvals_get (f := fun i => if i < L' + 1 then 0 else z.getD i 0) (show L' < z.length by omega))
          have fw := O.out.fz L'
          have O2 : Hid (Owns gw (wr.setCell ⟨gw, L', none⟩ (.int .i64 ((Lt t : Nat) : Int))) [(3, .slice (some ⟨gw, 0, none⟩) z.length z.length, fvals z.length fun i => if i < L' then 0 else z.getD i 0)]) := by
            have h1 := O.out.set (i := L') (by omega) (.int .i64 ((Lt t : Nat) : Int))
            rw [fvals_upd (by omega), fvals_congr (g := fun i => if i < L' then 0 else z.getD i 0) (fun i hi => by
              by_cases e : i = L'
              · subst e; rw [upd_same, if_neg (by omega), e3]
              · rw [upd_ne e]
                by_cases e4 : i < L'
                · rw [if_pos e4, if_pos (by omega)]
                · rw [if_neg e4, if_neg (by omega)])] at h1
            exact h1
          have G3 : Hid (wo.grownBy (wr.setCell ⟨gw, L', none⟩ (.int .i64 ((Lt t : Nat) : Int))) none) := grown_new G2.out (grown_set _ _ _) (by rw [HGW.out]; exact Nat.le_refl _)
          obtain ⟨d0, d1, d2, d3⟩ := (M0.out.grown (grown_trans G.out G3.out)) t ht
          rw [hf] at d2
          have hji : (0 : Int) ≤ (j : Int) := by omega
          have hLi : (L' : Int) < (z.length : Int) := by omega
          rw [if_pos (by omega)] at xw
          clear hf hw happ e1 e2 e3 htk hlen O
          generalize Lt t = lt at *
          go_wp2_with fail
          go_roundw
          case rel => exact ⟨j, L', by go_num, rfl, by omega, by omega, HW2.out, O2.out, G3.out⟩
          case measure => simp [intOf]; omega
    · rw [hf] at c2
      have hLt2 : L + 1 + (ws.getD j []).length = z.length := by rw [hw, List.length_append, List.length_singleton] at hLt; omega
      clear hf hw hLt
      have hji : (0 : Int) ≤ (j : Int) := by omega
      go_wp2_with fail
      go_roundw
      case rel => exact ⟨j, L + 1, by go_num, rfl, by omega, hLt2, G.out⟩
      case measure => simp [intOf]; omega

end Go.Proofs.Ytbdpcjcipemiaaa
