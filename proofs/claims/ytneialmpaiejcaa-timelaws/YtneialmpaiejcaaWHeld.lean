/- A region that draws its order, in a round of a range over a function: it goes there as it goes elsewhere. -/
import Derived.Test.YtneialmpaiejcaaWInv
import Derived.Deep.RegionHeld3
namespace Go.Proofs.Ytneialmpaiejcaa
open Go.RowKit Go.Shelf
set_option linter.unusedVariables false
set_option linter.unusedSimpArgs false

/-- No operation is a defer. -/
def noDefer (ops : Array Oper) : Bool := ops.toList.all fun o => match o.op with | .defer _ => false | _ => true
theorem noDefer_spec {ops : Array Oper} (h : noDefer ops = true) {i : Nat} {o : Oper} (hi : ops[i]? = some o) : ∀ c, o.op ≠ .defer c := by
  intro c hc
  have hm : o ∈ ops.toList := by
    obtain ⟨h1, h2⟩ := Array.getElem?_eq_some_iff.1 hi
    rw [← h2]; exact Array.getElem_mem_toList h1
  have := List.all_eq_true.1 h o hm
  rw [hc] at this
  cases this
theorem upon_in {l n : Nat} {P : Program} {o : Oper} {a : Act} {K K' : Act → World → Prop} {Q : Exit → Act → World → Prop} (hK : ∀ a w, K a w → K' a w) {r : Result Next} (h : o.upon P a K Q r) : o.uponIn (Fence.wide.inRound l) n P a K' Q r := by
  unfold Oper.upon at h
  split at h
  · exact hK _ _ h
  · exact hK _ _ h
  · exact hK _ _ h
  · rw [Oper.uponIn_enter]
    refine ⟨(fun e => by cases e), ?_⟩
    refine CallsIn.inRound l (callsIn_wide.2 (h.mono ?_))
    intro e w'' h2
    cases e with
    | returned v => exact hK _ _ h2
    | panicked ch => exact h2
    | outgrown => exact h2
  · rw [Oper.uponIn_row]
    refine ⟨(fun e => by cases e), fun c cs _ => ?_⟩
    obtain ⟨v, w', h1, h2⟩ := h c cs
    exact ⟨v, w', hK _ _ h1, stepsIn_wide.2 h2⟩
  · exact h
  · exact h.elim
theorem op_in {l n : Nat} {P : Program} {ops : Array Oper} {Q : Exit → Act → World → Prop} (hd : noDefer ops = true) (hq : ¬ LetsOut Q) {i : Nat} {K K' : Act → World → Prop} (hK : ∀ a w, K a w → K' a w) {a : Act} {w : World} (h : wpOp P ops Q i K a w) : wpOpIn (Fence.wide.inRound l) n P ops Q i K' a w := by
  unfold wpOp at h
  unfold wpOpIn
  cases ho : ops[i]? with
  | none => rw [ho] at h; exact hK _ _ h
  | some o =>
    rw [ho] at h
    simp only at h ⊢
    by_cases hw : Region.wanted o (yielded ops a.tmps) = true
    · rw [if_pos hw] at h ⊢
      rcases h with h | ⟨_, h⟩
      · refine ⟨fun _ _ => trivial, ?_⟩
        have e : Oper.semAt (Fence.wide.inRound l).round a.eval o = execOp a.eval o := Oper.semAt_some l _ _ (noDefer_spec hd ho)
        rw [e]
        exact upon_in hK h
      · exact absurd h hq
    · rw [if_neg hw] at h ⊢
      exact ⟨fun _ _ => trivial, hK _ _ h⟩
theorem any_in {l n : Nat} {P : Program} {md : Region.Mode} {ops : Array Oper} {Q : Exit → Act → World → Prop} (hd : noDefer ops = true) (hq : ¬ LetsOut Q) : ∀ (fuel : Nat) (listed : Array Bool) (a : Act) (w : World), wpAny P md ops Q fuel listed a w → wpAnyIn (Fence.wide.inRound l) n P md ops Q fuel listed a w
  | 0, _, _, _, h => h
  | fuel + 1, _, _, _, h => ⟨h.1, fun i hi => op_in hd hq (fun a' w' h' => any_in hd hq fuel _ a' w' h') (h.2 i hi)⟩
/-- The region, in a round. -/
theorem region_in {l n id : Nat} {P : Program} {ops : Array Oper} {Q : Exit → Act → World → Prop} {S : World → Prop} {a : Act} {w : World} (hm : P.follows .mixedOrders = true) (hd : noDefer ops = true) (hq : ¬ LetsOut Q) (hS : S w.drew)
    (h : S w.drew → wpAnyH P .any ops Q S ops.size (Array.replicate ops.size false) a w.drew) : (Code.region id ops true).wpIn (Fence.wide.inRound l) n P Q a w :=
  wpIn_region_any hm (any_in hd hq _ _ _ _ (wpAny_of_held _ _ _ _ (h hS)))

/-- What every order of the round's operations reads. -/
structure SC (h gk gg n t c ck cg : Nat) (a : Option Addr) (kp gl : Nat → Bool) (W : World) : Prop where
  b0 : W.cell? ⟨h, 0, none⟩ = some (.slice a n c)
  b1 : W.cell? ⟨h, 1, none⟩ = some (.int .i64 (t : Int))
  b2 : W.cell? ⟨h + 1, 0, none⟩ = some (.slice (some ⟨gk, 0, none⟩) n ck)
  b3 : W.cell? ⟨h + 1 + 1, 0, none⟩ = some (.slice (some ⟨gg, 0, none⟩) n cg)
  b4 : W.cell? ⟨h + 1 + 1 + 1 + 1, 0, none⟩ = some (.slice (some ⟨h + 1 + 1 + 1, 0, none⟩) n n)
  kr : BRow W gk n kp
  gr : BRow W gg n gl
theorem InvC.sc {w W : World} {h gk gg n t c ck cg : Nat} {a : Option Addr} {kp gl o : Nat → Bool} (H : InvC w h gk gg n t c ck cg a kp gl o W) : SC h gk gg n t c ck cg a kp gl W := ⟨H.b0, H.b1, H.b2, H.b3, H.b4, H.kr, H.gr⟩

end Go.Proofs.Ytneialmpaiejcaa
