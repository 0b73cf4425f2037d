/- buchi.find and buchi.wordTo. -/
import Derived.Test.YteodlmgaemfiiaaUTr
import Derived.Test.YteodlmgaemfiiaaHMem
import Derived.Test.YteodlmgaemfiiaaJoin
namespace Go.Proofs.Yteodlmgaemfiiaa
open Go.RowKit
set_option linter.unusedVariables false

/-- The word of a trail. -/
def wordF (tr : List Trl) : Nat → Nat → List Nat
  | 0, _ => []
  | f + 1, i => match tr[i]? with
    | none => []
    | some t => if t.fr < 0 then [] else wordF tr f t.fr.toNat ++ [t.lt]
def wd (tr : List Trl) (i : Nat) : List Nat := wordF tr (i + 1) i
section
variable {T : List StepI} {bs : List Nat} {tr : List Trl}
theorem wordF_nil {f i : Nat} {t : Trl} (ht : tr[i]? = some t) (hf : t.fr < 0) : wordF tr (f + 1) i = [] := by
  simp only [wordF, ht, if_pos hf]
theorem wordF_cons {f i j : Nat} {t : Trl} (ht : tr[i]? = some t) (hf : t.fr = j) : wordF tr (f + 1) i = wordF tr f j ++ [t.lt] := by
  simp only [wordF, ht, hf, Int.toNat_natCast, if_neg (show ¬ ((j : Nat) : Int) < 0 by omega)]
theorem wordF_fuel (h : TrAt T bs tr) : ∀ (i f : Nat) (t : Trl), tr[i]? = some t → i < f → wordF tr f i = wd tr i := by
  intro i
  induction i using Nat.strongRecOn with
  | _ i ih =>
    intro f t ht hf
    obtain ⟨f', rfl⟩ : ∃ f', f = f' + 1 := ⟨f - 1, by omega⟩
    unfold wd
    rcases Nat.lt_or_ge i bs.length with hi | hi
    · have h1 := h.begin_ i hi
      have e : t.fr < 0 := by rw [h1] at ht; cases ht; exact (by decide : (-1 : Int) < 0)
      rw [wordF_nil ht e, wordF_nil ht e]
    · obtain ⟨k, u, h1, h2, h3, h4⟩ := h.later i t hi ht
      rw [wordF_cons ht h1, wordF_cons ht h1, ih k h2 f' u h3 (by omega), ih k h2 i u h3 h2]
theorem wd_node (h : TrAt T bs tr) {i : Nat} {t : Trl} (ht : tr[i]? = some t) : (t.fr = -1 ∧ wd tr i = []) ∨ ∃ j : Nat, j < i ∧ t.fr = j ∧ wd tr i = wd tr j ++ [t.lt] := by
  rcases Nat.lt_or_ge i bs.length with hi | hi
  · have h1 := h.begin_ i hi
    have e : t.fr = -1 := by rw [h1] at ht; cases ht; rfl
    exact .inl ⟨e, wordF_nil ht (by omega)⟩
  · obtain ⟨k, u, h1, h2, h3, h4⟩ := h.later i t hi ht
    refine .inr ⟨k, h2, h1, ?_⟩
    rw [wd, wordF_cons ht h1, wordF_fuel h k i u h3 h2]
theorem wd_word (h : TrAt T bs tr) : ∀ (i : Nat) (t : Trl), tr[i]? = some t → ∃ b : Nat, b ∈ bs ∧ plainP T (wd tr i) b t.st ∧ (wd tr i).length ≤ i - bs.length + 1 ∧ (bs.length ≤ i → 1 ≤ (wd tr i).length) ∧ (i < bs.length → wd tr i = []) := by
  intro i
  induction i using Nat.strongRecOn with
  | _ i ih =>
    intro t ht
    rcases Nat.lt_or_ge i bs.length with hi | hi
    · have h1 := h.begin_ i hi
      rw [h1] at ht
      cases ht
      have e : wd tr i = [] := wordF_nil h1 (show (-1 : Int) < 0 by decide)
      refine ⟨bs.getD i 0, ?_, by rw [e]; rfl, by rw [e]; simp, (fun h2 => by omega), fun _ => e⟩
      rw [List.getD, List.getElem?_eq_getElem hi]
      exact List.getElem_mem _
    · obtain ⟨k, u, h1, h2, h3, h4⟩ := h.later i t hi ht
      obtain ⟨b, h5, h6, h7, h8, h9⟩ := ih k h2 u h3
      have e : wd tr i = wd tr k ++ [t.lt] := by rw [wd, wordF_cons ht h1, wordF_fuel h k i u h3 h2]
      refine ⟨b, h5, by rw [e]; exact plainP_append.2 ⟨u.st, h6, t.st, h4, rfl⟩, ?_, (fun _ => by rw [e]; simp), fun h10 => by omega⟩
      rw [e, List.length_append, List.length_singleton]
      rcases Nat.lt_or_ge k bs.length with hk | hk
      · rw [h9 hk]; simp
      · omega
end
/-- Trails, read. -/
def TrR (w : World) (gm off N : Nat) (F : Nat → Int) (Lt : Nat → Nat) : Prop :=
  ∀ i, i < N → w.cell? ⟨gm, off + i * 3 + 1, none⟩ = some (.int .i64 (F i)) ∧ w.cell? ⟨gm, off + i * 3 + 2, none⟩ = some (.int .i64 ((Lt i : Nat) : Int))
theorem TrR.grown {w w' : World} {gm off N : Nat} {F : Nat → Int} {Lt : Nat → Nat} (h : TrR w gm off N F Lt) (hg : w.grownBy w' none) : TrR w' gm off N F Lt := fun i hi => by
  obtain ⟨h3, h4⟩ := h i hi
  exact ⟨hg.cell h3 (by simp), hg.cell h4 (by simp)⟩
def NodeU (ws : Nat → List Nat) (N : Nat) (F : Nat → Int) (Lt : Nat → Nat) : Prop := ∀ i, i < N → (F i = -1 ∧ ws i = []) ∨ ∃ j : Nat, j < i ∧ F i = j ∧ ws i = ws j ++ [Lt i]
theorem nodeU_len {ws : Nat → List Nat} {N : Nat} {F : Nat → Int} {Lt : Nat → Nat} (h : NodeU ws N F Lt) : ∀ i, i < N → (ws i).length ≤ i := by
  intro i
  induction i using Nat.strongRecOn with
  | _ i ih =>
    intro hi
    rcases h i hi with ⟨_, h1⟩ | ⟨j, hj, _, h1⟩
    · rw [h1]; simp
    · have := ih j hj (by omega)
      rw [h1, List.length_append, List.length_singleton]; omega
theorem fvals_listU (z : List Nat) : fvals z.length (fun i => z.getD i 0) = vals (natInts z) := by
  apply List.ext_getElem (by simp [fvals])
  intro i h1 h2
  have hi : i < z.length := by simpa [vals] using h2
  simp [fvals, vals, List.getD, hi]

def WordU (zs : List Nat) (w : World) (E : Ending) (w' : World) : Prop :=
  ∃ a c, E = .returned (.slice a zs.length c) ∧ Owns w.heap.size w' [(3, .slice a zs.length c, vals (natInts zs))] ∧ w.grownBy w' none

set_option maxHeartbeats 1600000 in
set_option maxRecDepth 100000 in
theorem wordU_any (gm off N cm at_ : Nat) (F : Nat → Int) (Lt : Nat → Nat) (ws : Nat → List Nat) (w : World) (h : TrR w gm off N F Lt) (hN : N ≤ 500000) (hnode : NodeU ws N F Lt) (hat : at_ < N) :
    Calls Try.prog 70 #[.slice (some ⟨gm, off, none⟩) N cm, .int .i64 (at_ : Int)] w (WordU (ws at_) w) := by
  have M0 : Hid (TrR w gm off N F Lt) := h
  have ND : Hid (NodeU ws N F Lt) := hnode
  obtain ⟨c2, c3⟩ := h at_ hat
  clear h hnode
  go_enter Try.func70, Try.ntmps70
  go_wp2_with fail
  obtain ⟨z, hz⟩ : ∃ z, ws at_ = z := ⟨_, rfl⟩
  have HZ : Hid (ws at_ = z) := hz
  have hzl : z.length ≤ at_ := by rw [← hz]; exact nodeU_len ND.out at_ hat
  clear hz c2 c3
  go_loopw [5, 6] (fun v5 v6 wr => ∃ (t L : Nat), v5 = .int .i64 L ∧ v6 = .int .i64 t ∧ t < N ∧ L + (ws t).length = z.length ∧ w.grownBy wr none) (fun _ v6 _ => (intOf v6).toNat)
  case atStart => exact ⟨at_, 0, rfl, rfl, hat, by rw [HZ.out]; simp, grown_refl _ _⟩
  case round =>
    obtain ⟨t, L, rfl, rfl, ht, hLt, hg⟩ := hrel
    have G : Hid (w.grownBy wr none) := hg
    obtain ⟨c2, c3⟩ := (M0.out.grown hg) t ht
    have hti : (t : Int) < (N : Int) := by omega
    clear hg
    rcases ND.out t ht with ⟨hf, hw⟩ | ⟨j, hj, hf, hw⟩
    · rw [hf] at c2
      have hLz : L = z.length := by rw [hw] at hLt; simpa using hLt
      subst hLz
      have hmk := make_ints wr z.length (by omega)
      obtain ⟨W1, hW1⟩ : ∃ W1, W1 = wr.alloc (.cells (Array.replicate z.length (Value.int .i64 0)) 3) := ⟨_, rfl⟩
      have O1 : Hid (Owns wr.heap.size W1 [(3, .slice (some ⟨wr.heap.size, 0, none⟩) z.length z.length, fvals z.length fun i => if i < z.length then 0 else z.getD i 0)]) := by
        have h1 := (Owns.no wr.heap.size wr).made (arr := Array.replicate z.length (Value.int .i64 0)) (n := z.length) (Nat.le_refl _) 3 (by simp) (by unfold maxLen; omega)
        rw [← hW1] at h1
        have e : (Array.replicate z.length (Value.int .i64 0)).toList = fvals z.length fun i => if i < z.length then 0 else z.getD i 0 := by
          apply List.ext_getElem (by simp [fvals])
          intro i h1 h2
          have : i < z.length := by simpa [fvals] using h2
          simp [fvals, this]
        rw [e] at h1
        exact h1
      have G1 : Hid (wr.grownBy W1 none) := by rw [hW1]; exact grown_alloc _ _
      rw [← hW1] at hmk
      clear hW1 hf hw
      go_wp2_with fail
      clear hmk c2 c3
      obtain ⟨wo, hwo⟩ : ∃ wo, wo = wr := ⟨_, rfl⟩
      obtain ⟨gw, hgw⟩ : ∃ gw, wr.heap.size = gw := ⟨_, rfl⟩
      rw [hgw] at O1
      rw [hgw]
      rw [← hwo] at hgw G G1
      have HGW : Hid (wo.heap.size = gw) := hgw
      clear hgw hwo
      go_loopw [5, 8] (fun v5 v8 wq => ∃ (t L : Nat), v5 = .int .i64 L ∧ v8 = .int .i64 t ∧ t < N ∧ L ≤ z.length ∧ ws t = z.take L ∧ Owns gw wq [(3, .slice (some ⟨gw, 0, none⟩) z.length z.length, fvals z.length fun i => if i < L then 0 else z.getD i 0)] ∧ wo.grownBy wq none) (fun _ v8 _ => (intOf v8).toNat)
      case atStart => exact ⟨at_, z.length, rfl, rfl, hat, by omega, by rw [HZ.out, List.take_length], O1.out, G1.out⟩
      case round =>
        clear O1 G1 hLt ht hti
        obtain ⟨t, L, rfl, rfl, ht, hL, hwt, ho, hg⟩ := hrel
        have O : Hid (Owns gw wr [(3, .slice (some ⟨gw, 0, none⟩) z.length z.length, fvals z.length fun i => if i < L then 0 else z.getD i 0)]) := ho
        have G2 : Hid (wo.grownBy wr none) := hg
        have HW : Hid (ws t = z.take L) := hwt
        obtain ⟨c2, c3⟩ := (M0.out.grown (grown_trans G.out hg)) t ht
        have hti : (t : Int) < (N : Int) := by omega
        clear ho hg hwt
        rcases ND.out t ht with ⟨hf, hw⟩ | ⟨j, hj, hf, hw⟩
        · rw [hf] at c2
          have hL0 : 0 = L := by
            have := congrArg List.length (hw.symm.trans HW.out)
            rw [List.length_nil, List.length_take] at this
            omega
          subst hL0
          have HI : Hid (Owns w.heap.size wr [(3, .slice (some ⟨gw, 0, none⟩) z.length z.length, vals (natInts z))]) := by
            have h1 := O.out
            rw [fvals_congr (g := fun i => z.getD i 0) (fun i hi => by rw [if_neg (by omega)]), fvals_listU] at h1
            exact h1.base (by rw [← HGW.out]; exact G.out.size)
          have Gw : Hid (w.grownBy wr none) := grown_trans G.out G2.out
          clear hf hw
          go_wp2_with fail
          go_ret
          exact ⟨_, _, by rw [HZ.out]; rfl, by rw [HZ.out]; exact HI.out, Gw.out⟩
        · rw [hf] at c2
          have hlen := congrArg List.length (hw.symm.trans HW.out)
          simp only [List.length_append, List.length_singleton, List.length_take] at hlen
          have hL1 : 1 ≤ L := by omega
          obtain ⟨L', hLe⟩ : ∃ L', L = L' + 1 := ⟨L - 1, by omega⟩
          subst hLe
          have htk : z.take (L' + 1) = z.take L' ++ [z.getD L' 0] := by
            rw [List.take_add_one]; simp [List.getD, show L' < z.length by omega]
          have happ := hw.symm.trans (HW.out.trans htk)
          obtain ⟨e1, e2⟩ := List.append_inj' happ rfl
          have e3 : Lt t = z.getD L' 0 := by simpa using e2
          have HW2 : Hid (ws j = z.take L') := e1
          have xw := O.out.cell (fvals_get (f := fun i => if i < L' + 1 then 0 else z.getD i 0) (show L' < z.length by omega))
          have fw := O.out.fz L'
          have O2 : Hid (Owns gw (wr.setCell ⟨gw, L', none⟩ (.int .i64 ((Lt t : Nat) : Int))) [(3, .slice (some ⟨gw, 0, none⟩) z.length z.length, fvals z.length fun i => if i < L' then 0 else z.getD i 0)]) := by
            have h1 := O.out.set (i := L') (by omega) (.int .i64 ((Lt t : Nat) : Int))
            rw [fvals_upd (by omega), fvals_congr (g := fun i => if i < L' then 0 else z.getD i 0) (fun i hi => by
              by_cases e : i = L'
              · subst e; rw [upd_same, if_neg (by omega), e3]
              · rw [upd_ne e]
                by_cases e4 : i < L'
                · rw [if_pos e4, if_pos (by omega)]
                · rw [if_neg e4, if_neg (by omega)])] at h1
            exact h1
          have G3 : Hid (wo.grownBy (wr.setCell ⟨gw, L', none⟩ (.int .i64 ((Lt t : Nat) : Int))) none) := grown_new G2.out (grown_set _ _ _) (by rw [HGW.out]; exact Nat.le_refl _)
          obtain ⟨d2, d3⟩ := (M0.out.grown (grown_trans G.out G3.out)) t ht
          rw [hf] at d2
          have hji : (0 : Int) ≤ (j : Int) := by omega
          have hLi : (L' : Int) < (z.length : Int) := by omega
          rw [if_pos (by omega)] at xw
          clear hf hw happ e1 e2 e3 htk hlen O
          generalize Lt t = lt at *
          go_wp2_with fail
          go_roundw
          case rel => exact ⟨j, L', by go_num, rfl, by omega, by omega, HW2.out, O2.out, G3.out⟩
          case measure => simp [intOf]; omega
    · rw [hf] at c2
      have hLt2 : L + 1 + (ws j).length = z.length := by rw [hw, List.length_append, List.length_singleton] at hLt; omega
      clear hf hw hLt
      have hji : (0 : Int) ≤ (j : Int) := by omega
      go_wp2_with fail
      go_roundw
      case rel => exact ⟨j, L + 1, by go_num, rfl, by omega, hLt2, G.out⟩
      case measure => simp [intOf]; omega

theorem wordTr_any {T : List StepI} {bs : List Nat} {tr : List Trl} (ht : TrAt T bs tr) (hN : tr.length ≤ 500000) (a : Option Addr) (c at_ : Nat) (hat : at_ < tr.length) (w : World) (h : StepsAt w a (tr.map tri)) :
    Calls Try.prog 70 #[.slice a tr.length c, .int .i64 (at_ : Int)] w (WordU (wd tr at_) w) := by
  obtain ⟨b, off, rfl, hc⟩ := h.at (k := at_) (by simpa using hat)
  refine wordU_any b off tr.length c at_ (fun i => (tr.getD i ⟨0, 0, 0⟩).fr) (fun i => (tr.getD i ⟨0, 0, 0⟩).lt) (wd tr) w (fun i hi => ?_) hN (fun i hi => ?_) hat
  · obtain ⟨_, h2, h3⟩ := hc i (by simpa using hi)
    have e : (tr.map tri).getD i (0, 0, 0) = tri (tr.getD i ⟨0, 0, 0⟩) := by simp [List.getD, hi]
    rw [e] at h2 h3
    exact ⟨h2, h3⟩
  · have e : tr[i]? = some (tr.getD i ⟨0, 0, 0⟩) := by simp [List.getD, hi]
    exact wd_node ht e

/-- What find answers. -/
def FindPost (tr : List Trl) (q at_ : Nat) (w : World) (E : Ending) (w' : World) : Prop :=
  w' = w ∧ ((∃ (j : Nat) (t : Trl), E = .returned (.int .i64 (j : Int)) ∧ at_ ≤ j ∧ tr[j]? = some t ∧ t.st = q) ∨ (E = .returned (.int .i64 (-1)) ∧ ∀ (j : Nat) (t : Trl), at_ ≤ j → tr[j]? = some t → t.st ≠ q))
set_option maxHeartbeats 1600000 in
set_option maxRecDepth 100000 in
theorem find_any (tr : List Trl) (hN : tr.length ≤ 500000) (a : Option Addr) (c q at_ : Nat) (hat : at_ ≤ 1) (w : World) (h : StepsAt w a (tr.map tri)) :
    Calls Try.prog 69 #[.slice a tr.length c, .int .i64 (q : Int), .int .i64 (at_ : Int)] w (FindPost tr q at_ w) := by
  have H0 : Hid (StepsAt w a (tr.map tri)) := h
  clear h
  go_enter Try.func69, Try.ntmps69
  go_wp2_with fail
  go_loop [7] (fun v => ∃ k : Nat, v = .int .i64 k ∧ at_ ≤ k ∧ k ≤ tr.length + 1 ∧ ∀ (j : Nat) (t : Trl), at_ ≤ j → j < k → tr[j]? = some t → t.st ≠ q) (fun v => tr.length + 1 - (intOf v).toNat)
  case atStart => exact ⟨at_, rfl, Nat.le_refl _, by omega, fun j t h1 h2 => absurd h2 (by omega)⟩
  case round =>
    obtain ⟨k, rfl, hk, hkl, hno⟩ := hrel
    have NO : Hid (∀ (j : Nat) (t : Trl), at_ ≤ j → j < k → tr[j]? = some t → t.st ≠ q) := hno
    clear hno
    by_cases hlt : k < tr.length
    · have hki : (k : Int) < (tr.length : Int) := by omega
      obtain ⟨b, off, rfl, hc⟩ := H0.out.at (k := k) (by simpa using hlt)
      obtain ⟨y0, _, _⟩ := hc k (by simpa using hlt)
      have e : (tr.map tri).getD k (0, 0, 0) = tri (tr.getD k ⟨0, 0, 0⟩) := by simp [List.getD, hlt]
      have e2 : tr[k]? = some (tr.getD k ⟨0, 0, 0⟩) := by simp [List.getD, hlt]
      rw [e] at y0
      obtain ⟨u, hu⟩ : ∃ u, tr.getD k ⟨0, 0, 0⟩ = u := ⟨_, rfl⟩
      rw [hu] at y0 e2
      have HU : Hid (tr[k]? = some u) := e2
      have y1 : w.cell? ⟨b, off + k * 3, none⟩ = some (.int .i64 (u.st : Int)) := y0
      clear hc e e2 hu y0
      by_cases hq : u.st = q
      · rw [hq] at y1
        go_wp2_with fail
        go_ret
        exact ⟨rfl, .inl ⟨k, u, rfl, hk, HU.out, hq⟩⟩
      · have hqi : ¬ ((u.st : Int) = (q : Int)) := by omega
        go_wp2_with fail
        go_round
        case rel =>
          refine ⟨k + 1, by go_num, by omega, by omega, fun j t h1 h2 h3 => ?_⟩
          by_cases e : j = k
          · subst e; rw [HU.out] at h3; cases h3; exact hq
          · exact NO.out j t h1 (by omega) h3
        case measure => simp [intOf]; omega
    · have hki : ¬ (k : Int) < (tr.length : Int) := by omega
      go_wp2_with fail
      go_ret
      exact ⟨rfl, .inr ⟨rfl, fun j t h1 h2 => NO.out j t h1 (by have := (List.getElem?_eq_some_iff.1 h2).1; omega) h2⟩⟩

end Go.Proofs.Yteodlmgaemfiiaa
