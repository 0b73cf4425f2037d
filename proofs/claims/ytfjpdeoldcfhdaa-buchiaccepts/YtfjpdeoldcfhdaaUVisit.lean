/- The first look: visit. -/
import Derived.Test.YtfjpdeoldcfhdaaULeads
namespace Go.Proofs.Ytfjpdeoldcfhdaa
open Go.RowKit
set_option linter.unusedVariables false

section
variable {B : Nat} {w : World} {ps n l : Nat} {wd : List Nat} {turn gt : Nat} {T : List StepI} {aw : Option Addr} {cw : Nat} {as_ : Option Addr} {cs : Nat} {S : List Int} {gf gs gm N fs Sn M : Nat}
theorem SeAt.markS (h : SeAt B w ps n l wd turn gt T aw cw as_ cs S gf gs gm N fs Sn M) {q : Nat} (hq : q < N) : w.cell? ⟨gs, q, none⟩ = some (.bool (Sn.testBit q)) ∧ w.frozen? ⟨gs, q, none⟩ = false ∧ SeAt B (w.setCell ⟨gs, q, none⟩ (.bool true)) ps n l wd turn gt T aw cw as_ cs S gf gs gm N fs (Sn ||| 2 ^ q) M ∧ Keeps B w (w.setCell ⟨gs, q, none⟩ (.bool true)) ∧ ∀ {a : Option Addr} {zs : List Int}, Ints w a zs → Ints (w.setCell ⟨gs, q, none⟩ (.bool true)) a zs := by
  have ho : Owns B w [bIt gs N N Sn, bIt gm N N M, bIt gf n n fs] := h.own.perm (List.Perm.swap _ _ _)
  have hg := grown_set w ⟨gs, q, none⟩ (.bool true)
  have h2 := ho.set (i := q) hq (.bool true)
  rw [bset_set hq] at h2
  exact ⟨ho.cell (bset_get hq), ho.fz q, ⟨h.sta.far ho hg, h2.perm (List.Perm.swap _ _ _)⟩, (Keeps.refl B w).set ho.ge.1 _ _, fun hi => ints_far ho hg hi⟩
theorem SeAt.fin (h : SeAt B w ps n l wd turn gt T aw cw as_ cs S gf gs gm N fs Sn M) {q : Nat} (hq : q < n) : w.cell? ⟨gf, q, none⟩ = some (.bool (fs.testBit q)) := by
  have ho : Owns B w [bIt gf n n fs, bIt gm N N M, bIt gs N N Sn] := h.own.perm ((List.Perm.cons _ (List.Perm.swap _ _ _)).trans (List.Perm.swap _ _ _))
  exact ho.cell (bset_get hq)
end
def accP (n fs x : Nat) : Bool := fs.testBit (x % n)
/-- What visit answers. -/
def VisitPost (B : Nat) (ps n l : Nat) (wd : List Nat) (turn gt : Nat) (T : List StepI) (aw : Option Addr) (cw : Nat) (as_ : Option Addr) (cs : Nat) (S : List Int) (gf gs gm N fs Sn : Nat) (G : Nat → Prop) (v : Nat) (w : World) (E : Ending) (w' : World) : Prop :=
  ∃ (r : Bool) (S' M' : Nat), E = .returned (.bool r) ∧ SeAt B w' ps n l wd turn gt T aw cw as_ cs S gf gs gm N fs S' M' ∧ Keeps B w w' ∧ (∀ {a : Option Addr} {zs : List Int}, Ints w a zs → Ints w' a zs) ∧ Sn ≤ S' ∧ (r = true → ∃ x k j, goN (nxP T wd n turn) k v x ∧ accP n fs x = true ∧ goN (nxP T wd n turn) (j + 1) x x) ∧ (r = false → VInv (nxP T wd n turn) (accP n fs) N G S' M' ∧ (∀ x, InS Sn x → InS S' x) ∧ InS S' v)
/-- While visit goes over the places that follow. -/
structure VLoop (nx : Nat → List Nat) (acc : Nat → Bool) (N : Nat) (G : Nat → Prop) (Sn v k S' M' : Nat) : Prop where
  inv : VInv nx acc N (fun x => G x ∨ x = v) S' M'
  sub : ∀ x, InS (Sn ||| 2 ^ v) x → InS S' x
  done : ∀ i q, i < k → (nx v)[i]? = some q → InS S' q
  le : Sn ||| 2 ^ v ≤ S'
section
variable {nx : Nat → List Nat} {acc : Nat → Bool} {N : Nat} {G : Nat → Prop} {Sn v k S' M' M : Nat}
theorem VLoop.start (h : VInv nx acc N G Sn M) (hv : ¬ InS Sn v) (hN : v < N) : VLoop nx acc N G Sn v 0 (Sn ||| 2 ^ v) M := ⟨h.enter hv hN, fun _ h => h, fun i q hi => absurd hi (by omega), Nat.le_refl _⟩
theorem VLoop.skip (h : VLoop nx acc N G Sn v k S' M') {q : Nat} (hq : (nx v)[k]? = some q) (hs : InS S' q) : VLoop nx acc N G Sn v (k + 1) S' M' :=
  ⟨h.inv, h.sub, fun i r hi hr => by
    by_cases e : i = k
    · subst e; rw [hq] at hr; cases hr; exact hs
    · exact h.done i r (by omega) hr, h.le⟩
theorem VLoop.go (h : VLoop nx acc N G Sn v k S' M') {q S2 M2 : Nat} (hq : (nx v)[k]? = some q) (hi : VInv nx acc N (fun x => G x ∨ x = v) S2 M2) (hs : ∀ x, InS S' x → InS S2 x) (hl : S' ≤ S2) (hq2 : InS S2 q) : VLoop nx acc N G Sn v (k + 1) S2 M2 :=
  ⟨hi, fun x hx => hs x (h.sub x hx), fun i r hi hr => by
    by_cases e : i = k
    · subst e; rw [hq] at hr; cases hr; exact hq2
    · exact hs r (h.done i r (by omega) hr), Nat.le_trans h.le hl⟩
theorem VLoop.all (h : VLoop nx acc N G Sn v (nx v).length S' M') : ∀ q, q ∈ nx v → InS S' q := fun q hq => by
  obtain ⟨i, hi, e⟩ := List.getElem_of_mem hq
  exact h.done i q hi (by rw [← e]; exact List.getElem?_eq_getElem hi)
theorem VLoop.inv_v (h : VLoop nx acc N G Sn v k S' M') : InS S' v := h.sub v (inS_add.2 (.inr rfl))
theorem VLoop.old (h : VLoop nx acc N G Sn v k S' M') : ∀ x, InS Sn x → InS S' x := fun x hx => h.sub x (inS_add.2 (.inl hx))
end

end Go.Proofs.Ytfjpdeoldcfhdaa
