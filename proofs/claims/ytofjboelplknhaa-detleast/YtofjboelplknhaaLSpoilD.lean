/- The law's spoilDet: it writes over an automaton that is one's own, and over nothing else. -/
import Derived.Test.YtofjboelplknhaaLSpoil
import Derived.Test.YtofjboelplknhaaLOfR
namespace Go.Proofs.Ytofjboelplknhaa
open Go.RowKit
set_option linter.unusedVariables false

/-- Rows, with whatever is in them. -/
def zipIts (vs : List Value) (cs : List (List Value)) : List Item := List.zipWith (fun v c => ((3, v, c) : Item)) vs cs
theorem zip_rows (rs : List (Value × List Int)) : rowItems rs = zipIts (rs.map (·.1)) (rs.map fun x => vals x.2) := by
  unfold zipIts rowItems
  induction rs with
  | nil => rfl
  | cons x rs ih => simp only [List.map_cons, List.zipWith_cons_cons, ih]
theorem zip_at {vs : List Value} {cs : List (List Value)} (hl : cs.length = vs.length) {i : Nat} (hi : i < vs.length) (c' : List Value) :
    zipIts vs (cs.set i c') = zipIts (vs.take i) (cs.take i) ++ (3, vs[i], c') :: zipIts (vs.drop (i + 1)) (cs.drop (i + 1)) := by
  have e1 : cs.set i c' = cs.take i ++ c' :: cs.drop (i + 1) := by rw [List.set_eq_take_append_cons_drop, if_pos (by omega)]
  have e2 : vs = vs.take i ++ vs[i] :: vs.drop (i + 1) := by rw [List.getElem_cons_drop, List.take_append_drop]
  unfold zipIts
  rw [e1]
  conv => lhs; rw [e2]
  rw [List.zipWith_append (by simp [hl])]
  rfl
theorem rows_at {B : Nat} {w : World} {H r : List Item} {vs : List Value} {cs : List (List Value)} (hl : cs.length = vs.length) {i : Nat} (hi : i < vs.length) (h : Owns B w (H ++ (zipIts vs cs ++ r))) :
    ∃ rest, Owns B w ((3, vs[i], cs[i]) :: rest) ∧ ∀ w' c', Owns B w' ((3, vs[i], c') :: rest) → Owns B w' (H ++ (zipIts vs (cs.set i c') ++ r)) := by
  have hp : ∀ c', (H ++ (zipIts vs (cs.set i c') ++ r)).Perm ((3, vs[i], c') :: (H ++ (zipIts (vs.take i) (cs.take i) ++ (zipIts (vs.drop (i + 1)) (cs.drop (i + 1)) ++ r)))) := fun c' => by
    rw [zip_at hl hi, List.append_assoc, List.cons_append, ← List.append_assoc, ← List.append_assoc H]
    exact List.perm_middle
  refine ⟨_, h.perm ?_, fun w' c' h' => h'.perm (hp c').symm⟩
  have := hp cs[i]
  rwa [List.set_getElem_self] at this

def SpoilDPost (B : Nat) (r : List Item) (w : World) (E : Ending) (w' : World) : Prop :=
  E = .returned (.tuple #[]) ∧ Owns B w' r ∧ Keeps B w w'

set_option maxHeartbeats 1600000 in
set_option maxRecDepth 100000 in
theorem spoilDet_any (B : Nat) (L S : Int) (aR aM : Option Addr) (cR cM : Nat) (rs : List (Value × List Int)) (M : List Int) (r : List Item) (w : World) (hB : B ≤ w.heap.size) (hn : rs.length ≤ 100000)
    (h : Owns B w ((23, .slice aR rs.length cR, rs.map (·.1)) :: (3, .slice aM M.length cM, vals M) :: (rowItems rs ++ r))) :
    Calls Try.prog 16 #[.agg #[.int .i64 L, .int .i64 S, .slice aR rs.length cR, .slice aM M.length cM]] w (SpoilDPost B r w) := by
  obtain ⟨vs, hvs⟩ : ∃ vs, rs.map (·.1) = vs := ⟨_, rfl⟩
  have hvl : rs.length = vs.length := by rw [← hvs]; simp
  obtain ⟨Bx, hBx⟩ : ∃ Bx : Item, Bx = (25, .slice (some ⟨w.heap.size, 0, none⟩) 4 4, [.int .i64 L, .int .i64 S, .slice aR vs.length cR, .slice aM M.length cM]) := ⟨_, rfl⟩
  obtain ⟨IR, hIR⟩ : ∃ IR : Item, IR = (23, .slice aR vs.length cR, vs) := ⟨_, rfl⟩
  obtain ⟨IM, hIM⟩ : ∃ IM : Item, IM = (3, .slice aM M.length cM, vals M) := ⟨_, rfl⟩
  obtain ⟨W1, hW1⟩ : ∃ W1, W1 = w.alloc (.cells #[.int .i64 L, .int .i64 S, .slice aR vs.length cR, .slice aM M.length cM] 25) := ⟨_, rfl⟩
  have h1 := h.made (arr := #[.int .i64 L, .int .i64 S, .slice aR vs.length cR, .slice aM M.length cM]) (n := 4) hB 25 rfl (by unfold maxLen; omega)
  rw [← hW1, zip_rows, hvs, hvl, ← hBx, ← hIR, ← hIM] at h1
  have O1 : Hid (∃ cs, cs.length = vs.length ∧ Owns B W1 ([Bx, IR, IM] ++ (zipIts vs cs ++ r))) := ⟨_, by simp [hvl], h1⟩
  have K1 : Hid (Keeps B w W1) := by show Keeps _ _ _; rw [hW1]; exact (Keeps.refl _ _).alloc _
  have HSp : Hid (∀ v xs r W, Owns B W ((3, v, xs) :: r) → Calls Try.prog 45 #[v] W (SpoilPost B v r W)) := fun v xs r W h => spoil_any B v xs r W h
  rw [hvl] at hn ⊢
  have HBx : Hid (Bx = _) := hBx
  have HIR : Hid (IR = _) := hIR
  have HIM : Hid (IM = _) := hIM
  have hW1' : Hid (W1 = _) := hW1
  clear hvs hvl h h1 hBx hIR hIM hW1
  have Rd : Hid (∀ W cs, Owns B W ([Bx, IR, IM] ++ (zipIts vs cs ++ r)) → W.cell? ⟨w.heap.size, 2, none⟩ = some (.slice aR vs.length cR) ∧ W.cell? ⟨w.heap.size, 3, none⟩ = some (.slice aM M.length cM)) := fun W cs hO =>
    ⟨hO.cellM (i := 2) (by rw [HBx.out]; exact List.mem_cons_self) rfl, hO.cellM (i := 3) (by rw [HBx.out]; exact List.mem_cons_self) rfl⟩
  go_enter Try.func16, Try.ntmps16
  go_wp2_with fail
  rw [← hW1'.out]
  clear hW1'
  go_loopw [2] (fun v2 wr => ∃ (i : Nat) (cs : List (List Value)), v2 = .int .i64 i ∧ i ≤ vs.length ∧ cs.length = vs.length ∧ Owns B wr ([Bx, IR, IM] ++ (zipIts vs cs ++ r)) ∧ Keeps B w wr) (fun v2 _ => vs.length - (intOf v2).toNat)
  case atStart =>
    obtain ⟨cs, hc, ho⟩ := O1.out
    exact ⟨0, cs, rfl, by omega, hc, ho, K1.out⟩
  case round =>
    clear O1 K1
    obtain ⟨i, cs, rfl, hi, hcl, ho, hkp⟩ := hrel
    have O : Hid (Owns B wr ([Bx, IR, IM] ++ (zipIts vs cs ++ r))) := ho
    have KP : Hid (Keeps B w wr) := hkp
    have HCL : Hid (cs.length = vs.length) := hcl
    obtain ⟨b2, b3⟩ := Rd.out wr cs ho
    clear ho hkp hcl
    by_cases hlt : i < vs.length
    · have hii : (i : Int) < (vs.length : Int) := by omega
      obtain ⟨gR, hgR⟩ := O.out.formM (e := 23) (a := aR) (n := vs.length) (cap := cR) (xs := vs) (by rw [HIR.out]; simp) (by omega)
      subst hgR
      have r1 := O.out.cellM (e := 23) (g := gR) (n := vs.length) (cap := cR) (xs := vs) (i := i) (u := vs[i]) (by rw [HIR.out]; simp) (by simp [hlt])
      obtain ⟨rest, hr1, hr2⟩ := rows_at HCL.out hlt O.out
      have R1 : Hid _ := hr1
      have R2 : Hid (∀ w' c', Owns B w' ((3, vs[i], c') :: rest) → Owns B w' ([Bx, IR, IM] ++ (zipIts vs (cs.set i c') ++ r))) := hr2
      obtain ⟨v, hv⟩ : ∃ v, vs[i] = v := ⟨_, rfl⟩
      rw [hv] at r1 R1 R2
      clear hr1 hr2 hv O
      go_wp2_with fail
      refine (HSp.out _ _ _ _ R1.out).mono ?_
      rintro E w2 ⟨xs', rfl, ho2, hk2⟩
      have O2 : Hid (Owns B w2 ([Bx, IR, IM] ++ (zipIts vs (cs.set i xs') ++ r))) := R2.out _ _ ho2
      have K2 : Hid (Keeps B w w2) := KP.out.trans hk2
      clear ho2 hk2 b2 b3 r1
      go_wp2_with fail
      go_roundw
      case rel => exact ⟨i + 1, cs.set i xs', by go_num, by omega, by rw [List.length_set]; exact HCL.out, O2.out, K2.out⟩
      case measure => simp [intOf]; omega
    · have hii : ¬ (i : Int) < (vs.length : Int) := by omega
      have OM : Hid (Owns B wr ((3, .slice aM M.length cM, vals M) :: (Bx :: IR :: (zipIts vs cs ++ r)))) := by
        have := O.out
        rw [HIM.out] at this
        exact this.perm (by
          show List.Perm (Bx :: IR :: _ :: _) _
          exact ((List.Perm.swap _ _ _).cons Bx).trans (List.Perm.swap _ _ _))
      clear O
      go_wp2_with fail
      refine (HSp.out _ _ _ _ OM.out).mono ?_
      rintro E w2 ⟨xs', rfl, ho2, hk2⟩
      have OR : Hid (Owns B w2 r) := by
        have h3 := ho2.tail
        exact ⟨fun it hm => h3.1 it (by simp [hm]), (List.pairwise_append.1 (List.pairwise_cons.1 (List.pairwise_cons.1 h3.2).2).2).2.1⟩
      have K2 : Hid (Keeps B w w2) := KP.out.trans hk2
      clear ho2 hk2 b2 b3
      go_wp2_with fail
      go_end0
      exact ⟨rfl, OR.out, K2.out⟩

end Go.Proofs.Ytofjboelplknhaa
