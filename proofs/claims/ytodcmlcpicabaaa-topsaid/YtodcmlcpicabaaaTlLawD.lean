/- What both least ones come to. -/
import Derived.Test.YtodcmlcpicabaaaTlRefL
import Derived.Test.YtodcmlcpicabaaaTlLeastE
import Derived.Test.YtodcmlcpicabaaaTnRefA
namespace Go.Proofs.Ytodcmlcpicabaaa
open Go.RowKit
set_option linter.unusedVariables false

/-- The least one, as the program makes it; and as the reference does. -/
def LeastIs (x : TrI) (I : Nat) (L : TrI) : Prop := ∃ B k kd k2, SureIs x I B ∧ IsEnd (bfsL id (nxT x) I x.S.toNat) k ∧ k ≤ x.N.length ∧ KindIs (pshY x I B k) I k kd ∧ IsEnd (bfsL id (fun s l => kd (nxT (pshY x I B k) s l)) I (kd 0)) k2 ∧ k2 ≤ k ∧ L = lstL x I B k kd k2
def RefIs (x : TrI) (I : Nat) (L : TrI) : Prop := ∃ B cls k3, SureIs x I B ∧ (∀ a b, a < x.N.length → b < x.N.length → (cls a = cls b ↔ BisT (pushT x I B) I a b)) ∧ IsEnd (bfsL cls (nxT x) I x.S.toNat) k3 ∧ L = refL x I B cls k3
def LeastE2 (x : TrI) (I : Nat) (w : World) (e : Ending) (w' : World) : Prop := ∃ L, LeastIs x I L ∧ w.grownBy w' none ∧
  ((¬ LittleT L ∧ e = .returned (.tuple #[tnZ, .int .i64 7])) ∨ (LittleT L ∧ ∃ a3 a4 a5 a6 c3 c4 c5 c6, e = .returned (.tuple #[tnV L.I L.O L.S a3 L.F.length c3 a4 L.N.length c4 a5 L.Y.length c5 a6 L.E.length c6, .int .i64 0]) ∧ TnAt w' L a3 a4 a5 a6))
theorem LeastEP.two {x : TrI} {I : Nat} {w w' : World} {e : Ending} (h : LeastEP x I w e w') : LeastE2 x I w e w' := by
  obtain ⟨B, k, kd, k2, h1, h2, h3, h4, h5, h6, h7, h8⟩ := h
  obtain ⟨l1, l2, l3⟩ := lstL_len h5
  refine ⟨lstL x I B k kd k2, ⟨B, k, kd, k2, h1, h2, h3, h4, h5, h6, rfl⟩, h7, ?_⟩
  rcases h8 with h8 | ⟨h8, a3, a4, a5, a6, c3, c4, c5, c6, h9, h10, _, _⟩
  · exact .inl h8
  · refine .inr ⟨h8, a3, a4, a5, a6, c3, c4, c5, c6, ?_, h10⟩
    rw [h9, l1, l2, l3]
    rfl
def RLeastE2 (x : TrI) (I : Nat) (w : World) (e : Ending) (w' : World) : Prop := ∃ L a3 a4 a5 a6 c3 c4 c5 c6, RefIs x I L ∧ w.grownBy w' none ∧ e = .returned (tnV L.I L.O L.S a3 L.F.length c3 a4 L.N.length c4 a5 L.Y.length c5 a6 L.E.length c6) ∧ TnAt w' L a3 a4 a5 a6
theorem RLeastP.two {x : TrI} {I : Nat} {D : Nat → Prop} {w w' : World} {e : Ending} (h : RLeastP x I D w e w') : RLeastE2 x I w e w' := by
  obtain ⟨B, cls, k3, a3, a4, a5, a6, c3, c4, c5, c6, h1, h2, h3, h4, h5, h6, h7, _⟩ := h
  have hlen := ofK_len (κ := cls) (O := x.O) (F := (pushT x I B).F) (l := I) (δ := nxT x) (σ := syT (pushT x I B)) (ε := fun q => (pushT x I B).E.getD q []) (xs := bfsL cls (nxT x) I x.S.toNat k3)
  rw [h3.len] at hlen
  refine ⟨refL x I B cls k3, a3, a4, a5, a6, c3, c4, c5, c6, ⟨B, cls, k3, h1, h2, h3, rfl⟩, h7, ?_, h6⟩
  rw [h5, show (refL x I B cls k3).N.length = k3 from hlen.1, show (refL x I B cls k3).Y.length = k3 from hlen.2.1, show (refL x I B cls k3).E.length = k3 from hlen.2.2]
  rfl

structure LeastK (x : TrI) (I : Nat) (L : TrI) (mb : Nat := 8) : Prop where
  I' : L.I = (I : Int)
  S' : L.S = 0
  shp : ShpT L I (2 * mb)
  n6 : L.N.length ≤ x.N.length
  says : ∀ us : List Nat, (∀ l, l ∈ us → l < I) → saysT L us = saysT x us
theorem least_is {x : TrI} {I mb : Nat} (hr : ReadT x I mb) {L L' : TrI} (h : LeastIs x I L) (h' : RefIs x I L') : L' = L ∧ LeastK x I L mb := by
  obtain ⟨B, k, kd, k2, hsi, he1, hkn, hkd, he2, hk2, rfl⟩ := h
  obtain ⟨B', cls, k3, hsi', hcl, he3, rfl⟩ := h'
  have eB : B' = B := hsi'.one hsi
  subst eB
  have hst := hr.st
  unfold StT at hst
  have hS : x.S.toNat < x.N.length := by omega
  have hN : ∀ s, s < x.N.length → ∀ l, l < I → nxT x s l < x.N.length := fun s hs l hl => (hr.lt hs hl).1
  obtain ⟨hps, hpl, _, hk1⟩ := psh_shp hr hsi' he1
  have h1 := least_one (p := pushT x I B') (I := I) (n := x.N.length) (s0 := x.S.toNat) (O := x.O) (F := (pushT x I B').F) (O1 := 0) (F1 := (pushT x I B').F) (kd := kd) (cls := cls) rfl hS hN he1 (y := pshY x I B' k) rfl hkd he2 hcl he3
  refine ⟨h1.1.symm, rfl, rfl, ?_, by rw [(lstL_len he2).1]; omega, fun us hu => ?_⟩
  · have hk2' := h1.2.2
    have hlt : ∀ q, q ∈ bfsL id (fun s l => kd (nxT (pshY x I B' k) s l)) I (kd 0) k2 → q < k := bfsL_lt id (fun s a hs ha => by
      have h2 := (hps.lt (by rw [hpl]; exact hs) ha).1
      rw [hpl] at h2
      have := (hkd.can _ h2).1
      omega) (by have := (hkd.can 0 (by omega)).1; omega) k2
    obtain ⟨q1, q2, q3, q4⟩ := ofK_shp (κ := id) (O := x.O) (F := (pushT x I B').F) (σ := syT (pshY x I B' k)) (ε := fun q => (pshY x I B' k).E.getD q []) (m := 2 * mb) he2 hk2' (fun q hq a ha => hps.ym q (by rw [hpl]; exact hlt q hq) a ha) (fun q hq => hps.em q (by rw [hpl]; exact hlt q hq))
    obtain ⟨l1, l2, l3⟩ := lstL_len (x := x) he2
    refine ⟨q1, l2.trans l1.symm, l3.trans l1.symm, fun s hs => (ofK_row (by rw [he2.len]; rw [l1] at hs; exact hs)).1, fun s hs => (ofK_row (by rw [he2.len]; rw [l1] at hs; exact hs)).2, ?_, ?_, ?_⟩
    · intro s hs a ha; rw [l1]; rw [l1] at hs; exact q2 s hs a ha
    · intro s hs a ha; rw [l1] at hs; exact q3 s hs a ha
    · intro s hs; rw [l1] at hs; exact q4 s hs
  · rw [BisX.says (x := lstL x I B' k kd k2) (y := pushT x I B') (I := I) rfl h1.2.1 us hu]
    exact pushT_says (hsi'.sure hr.he) hr us hu
theorem LeastK.read {x : TrI} {I mb : Nat} {L : TrI} (h : LeastK x I L mb) (hl : LittleT L) : ReadT L I := by
  have hs := h.shp
  refine ⟨hs.n1, hs.hy, hs.he, hs.rn, hs.ry, hs.nx, ?_, hl _ (List.mem_cons.2 (.inl rfl)), fun s h' l hl' => ?_, fun s h' => ?_⟩
  · rw [h.S']; have := hs.n1; unfold StT; omega
  · refine hl _ (List.mem_cons.2 (.inr (List.mem_flatMap.2 ⟨s, by rw [List.mem_range, hs.hy]; exact h', List.mem_append.2 (.inl ?_)⟩)))
    have hlt : l < (L.Y.getD s []).length := by rw [hs.ry s h']; exact hl'
    show (L.Y.getD s []).getD l [] ∈ L.Y.getD s []
    revert hlt
    generalize L.Y.getD s [] = r
    intro hlt
    rw [List.getD, List.getElem?_eq_getElem hlt, Option.getD_some]
    exact List.getElem_mem hlt
  · exact hl _ (List.mem_cons.2 (.inr (List.mem_flatMap.2 ⟨s, by rw [List.mem_range, hs.hy]; exact h', List.mem_append.2 (.inr (List.mem_cons.2 (.inl rfl)))⟩)))
theorem LeastK.short {x : TrI} {I mb : Nat} {L : TrI} (h : LeastK x I L mb) : LittleT L ↔ ShortW (sayR L) := by
  have hsh : ShapeT L := ⟨h.shp.hy, h.shp.he, fun s hs => ⟨by rw [h.shp.rn s hs]; exact h.I'.symm, by rw [h.shp.ry s hs]; exact h.I'.symm⟩⟩
  exact ⟨fun hl u hu => hl u ((sayR_mem hsh u).1 hu), fun hs u hu => hs u ((sayR_mem hsh u).2 hu)⟩
theorem LeastK.many {x : TrI} {I mb : Nat} {L : TrI} (h : LeastK x I L mb) (hI : I ≤ 4) (hN : x.N.length ≤ 6) : (sayR L).length ≤ 1000 := by
  have hs := h.shp
  have hn := h.n6
  have h1 : ∀ R : List (List (List Int)), (∀ r, r ∈ R → r.length ≤ 4) → R.flatten.length ≤ 4 * R.length := fun R hR => by
    induction R with
    | nil => simp
    | cons r R ih =>
      have h2 := ih (fun q hq => hR q (by simp [hq]))
      have h3 := hR r (by simp)
      simp only [List.flatten_cons, List.length_append, List.length_cons]
      omega
  have h2 := h1 L.Y (fun r hr => by
    obtain ⟨i, hi, rfl⟩ := List.getElem_of_mem hr
    have := hs.ry i (by rw [← hs.hy]; exact hi)
    have e : L.Y.getD i [] = L.Y[i] := by simp [List.getD, hi]
    rw [e] at this
    omega)
  have h3 := hs.hy
  have h4 := hs.he
  unfold sayR
  simp only [List.length_cons, List.length_append]
  omega

end Go.Proofs.Ytodcmlcpicabaaa
