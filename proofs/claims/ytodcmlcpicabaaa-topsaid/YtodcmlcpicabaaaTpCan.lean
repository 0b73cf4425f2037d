/- What is said tells the least form, whoever makes it; letters of the least form; one behind another, pair by pair. Without the program. -/
import Derived.Test.YtodcmlcpicabaaaTlLawD
import Derived.Test.YtodcmlcpicabaaaTlM
namespace Go.Proofs.Ytodcmlcpicabaaa
set_option linter.unusedVariables false

theorem bfs_ends {κ : Nat → Nat} {δ : Nat → Nat → Nat} {l n x0 : Nat} (hδ : ∀ s a, s < n → a < l → δ s a < n) (h0 : x0 < n) (hκ : ∀ s, s < n → κ s < n) : ∃ k, k ≤ n ∧ IsEnd (bfsL κ δ l x0) k := by
  have hlen : ∀ j, (bfsL κ δ l x0 j).length ≤ n := fun j => by
    have h1 := bfsL_nodup κ δ l x0 j
    have := nodup_le n _ h1 (fun c hc => by
      obtain ⟨q, hq, rfl⟩ := List.mem_map.1 hc
      exact hκ q (bfsL_lt κ hδ h0 j q hq))
    simpa using this
  have step : ∀ m, (∃ k, k ≤ m ∧ IsEnd (bfsL κ δ l x0) k) ∨ ∀ j, j ≤ m → j < (bfsL κ δ l x0 j).length := fun m => by
    induction m with
    | zero =>
      right
      intro j hj
      obtain rfl : j = 0 := by omega
      simp [bfsL]
    | succ m ih =>
      rcases ih with ⟨k, hk, he⟩ | ih
      · exact .inl ⟨k, by omega, he⟩
      · by_cases hm : m + 1 < (bfsL κ δ l x0 (m + 1)).length
        · right
          intro j hj
          by_cases e : j = m + 1
          · subst e; exact hm
          · exact ih j (by omega)
        · left
          obtain ⟨zs, hz⟩ := bfsL_le κ δ l x0 (Nat.le_succ m)
          have h1 := ih m (Nat.le_refl _)
          have h2 : (bfsL κ δ l x0 (m + 1)).length = m + 1 := by
            have h3 := congrArg List.length hz
            simp only [List.length_append] at h3
            have h4 : (bfsL κ δ l x0 m.succ).length = (bfsL κ δ l x0 (m + 1)).length := rfl
            omega
          exact ⟨m + 1, Nat.le_refl _, h2, fun i hi => ih i (by omega)⟩
  rcases step n with h | h
  · exact h
  · have h1 := h n (Nat.le_refl _)
    have h2 := hlen n
    omega

theorem ref_exists {x : TrI} {I mb : Nat} (hr : ReadT x I mb) {B : List (List Int)} (hB : SureIs x I B) : ∃ L, RefIs x I L := by
  have hst := hr.st
  unfold StT at hst
  have hS : x.S.toNat < x.N.length := by omega
  let R : Nat → Nat → Prop := fun a b => b < x.N.length ∧ BisX (pushT x I B) (pushT x I B) I a b
  have hne : ∀ a, a < x.N.length → ∃ b, R a b := fun a ha => ⟨a, ha, fun w hw => ⟨rfl, fun _ _ => rfl⟩⟩
  have hc : ∀ a, a < x.N.length → R a (Classical.epsilon (R a)) := fun a ha => Classical.epsilon_spec (hne a ha)
  have hcl : ∀ a b, a < x.N.length → b < x.N.length → (Classical.epsilon (R a) = Classical.epsilon (R b) ↔ BisX (pushT x I B) (pushT x I B) I a b) := fun a b ha hb => by
    constructor
    · intro e
      have h1 := (hc a ha).2
      rw [e] at h1
      exact h1.trans (BisX.symm (hc b hb).2)
    · intro e
      have h1 : R a = R b := funext fun c => propext ⟨fun h => ⟨h.1, (BisX.symm e).trans h.2⟩, fun h => ⟨h.1, e.trans h.2⟩⟩
      rw [h1]
  obtain ⟨k3, _, he⟩ := bfs_ends (κ := fun a => Classical.epsilon (R a)) (δ := nxT x) (l := I) (n := x.N.length) (x0 := x.S.toNat) (fun s a hs ha => (hr.lt hs ha).1) hS (fun s hs => (hc s hs).1)
  exact ⟨_, B, fun a => Classical.epsilon (R a), k3, hB, hcl, he, rfl⟩

section
variable {x y : TrI} {I mx my : Nat} {L L' : TrI}
/-- Two that say the same have one least form: as the program makes it of the one, and the reference of the other. -/
theorem can_one (hx : ReadT x I mx) (hy : ReadT y I my) (hO : x.O = y.O) (h : ∀ us : List Nat, (∀ l, l ∈ us → l < I) → saysT x us = saysT y us) (hL : LeastIs x I L) (hR : RefIs y I L') : L = L' := by
  obtain ⟨B, k, kd, k2, hsi, he1, hkn, hkd, he2, hk2, rfl⟩ := hL
  obtain ⟨C, cls, k3, hsi', hcl, he3, rfl⟩ := hR
  have hst := hx.st
  have hst' := hy.st
  unfold StT at hst hst'
  obtain ⟨hF, hb⟩ := push_fun hx hy hsi hsi' h
  have h1 := least_one2 (p1 := pushT x I B) (p2 := pushT y I C) (I := I) (n1 := x.N.length) (n2 := y.N.length) (s1 := x.S.toNat) (s2 := y.S.toNat) (O := x.O) (F := (pushT x I B).F) (O1 := 0) (F1 := (pushT x I B).F) (kd := kd) (cls := cls) (by omega) (by omega)
    (fun s hs l hl => (hx.lt hs hl).1) (fun s hs l hl => (hy.lt hs hl).1) hb he1 (y := pshY x I B k) rfl hkd he2 hcl he3
  refine h1.trans ?_
  rw [hO, hF]
  rfl
theorem can_two (hx : ReadT x I mx) (hy : ReadT y I my) (hO : x.O = y.O) (h : ∀ us : List Nat, (∀ l, l ∈ us → l < I) → saysT x us = saysT y us) (hL : LeastIs x I L) (hR : LeastIs y I L') : L = L' := by
  have hR' := hR
  obtain ⟨C, _, _, _, hsi, _⟩ := hR
  obtain ⟨L2, h2⟩ := ref_exists hy hsi
  exact (can_one hx hy hO h hL h2).trans (can_one hy hy rfl (fun _ _ => rfl) hR' h2).symm
theorem least_k (hx : ReadT x I mx) (hL : LeastIs x I L) : LeastK x I L mx ∧ RefIs x I L := by
  have hL' := hL
  obtain ⟨C, _, _, _, hsi, _⟩ := hL
  obtain ⟨L2, h2⟩ := ref_exists hx hsi
  obtain ⟨e, hk⟩ := least_is hx hL' h2
  exact ⟨hk, e ▸ h2⟩
end

/-! Letters. -/
def InO (O : Int) (u : List Int) : Prop := ∀ j, j ∈ u → 0 ≤ j ∧ j < O
theorem InO.app {O : Int} {u v : List Int} (h : InO O u) (k : InO O v) : InO O (u ++ v) := fun j hj => by
  rcases List.mem_append.1 hj with e | e
  · exact h j e
  · exact k j e
theorem InO.drop {O : Int} {u : List Int} (h : InO O u) (n : Nat) : InO O (u.drop n) := fun j hj => h j (List.mem_of_mem_drop hj)
structure LetP (x : TrI) (I : Nat) (O : Int) : Prop where
  f : InO O x.F
  s : ∀ s, s < x.N.length → ∀ l, l < I → InO O (syT x s l)
  e : ∀ s, s < x.N.length → InO O (x.E.getD s [])
section
variable {x y : TrI} {I M mx k : Nat} {L : TrI} {O : Int}
theorem LetP.ru (h : LetP x I O) (hr : ReadT x I mx) (us : List Nat) : (∀ l, l ∈ us → l < I) → ∀ q, q < x.N.length → InO O (ruT x q us) := by
  induction us with
  | nil => intro _ q _ j hj; simp [ruT] at hj
  | cons a us ih =>
    intro hu q hq
    have ha := hu a (List.mem_cons_self)
    exact (h.s q hq a ha).app (ih (fun l hl => hu l (List.mem_cons_of_mem _ hl)) _ (hr.lt hq ha).1)
theorem LetP.says (h : LetP x I O) (hr : ReadT x I mx) (us : List Nat) (hu : ∀ l, l ∈ us → l < I) : InO O (saysT x us) := by
  have hst := hr.st
  unfold StT at hst
  have hS : x.S.toNat < x.N.length := by omega
  exact (h.f.app (h.ru hr us hu _ hS)).app (h.e _ (hr.go us hu hS))
theorem LetP.least (h : LetP x I O) (hr : ReadT x I mx) (hR : RefIs x I L) : LetP L I O := by
  obtain ⟨B, cls, k3, hsi, hcl, he3, rfl⟩ := hR
  have hst := hr.st
  unfold StT at hst
  have hS : x.S.toNat < x.N.length := by omega
  have hsu := hsi.sure hr.he
  have hb : ∀ s, s < x.N.length → InO O (B.getD s []) := fun s hs j hj => by
    obtain ⟨r, hr'⟩ := hsu.last s hs
    exact h.e s hs j (by rw [hr']; exact List.mem_append.2 (.inl hj))
  have hlt : ∀ i, i < k3 → (bfsL cls (nxT x) I x.S.toNat k3).getD i 0 < x.N.length := fun i hi => bfsL_lt cls (fun s a hs ha => (hr.lt hs ha).1) hS k3 _ (getD_mem (by rw [he3.len]; exact hi))
  have hl : (refL x I B cls k3).N.length = k3 := ofK_len.1.trans he3.len
  refine ⟨h.f.app (hb _ hS), fun s hs l hl' => ?_, fun s hs => ?_⟩
  · rw [hl] at hs
    rw [ofK_sy (by rw [he3.len]; exact hs) hl', pushT_sy (hlt s hs) hl']
    exact ((h.s _ (hlt s hs) l hl').app (hb _ (hr.lt (hlt s hs) hl').1)).drop _
  · rw [hl] at hs
    rw [ofK_e (by rw [he3.len]; exact hs)]
    show InO O ((pushT x I B).E.getD _ [])
    rw [pushT_last (hlt s hs)]
    exact (h.e _ (hlt s hs)).drop _
theorem LetP.lets (h : LetP L I O) (hO : L.O = O) (hy : L.Y.length = L.N.length) (hry : ∀ s, s < L.N.length → (L.Y.getD s []).length = I) : LetsT L := by
  have key : ∀ u, InO O u → LetT L.O u := fun u hu j hj => by
    rw [hO]
    have e : u.getD j 0 = u[j] := by simp [List.getD, hj]
    rw [e]
    exact hu _ (List.getElem_mem hj)
  intro u hu
  refine key u ?_
  rcases List.mem_cons.1 hu with rfl | hu
  · exact h.f
  · obtain ⟨s, hs, hu⟩ := List.mem_flatMap.1 hu
    have hs' : s < L.N.length := by rw [← hy]; exact List.mem_range.1 hs
    rcases List.mem_append.1 hu with hu | hu
    · obtain ⟨l, hl, e⟩ := List.getElem_of_mem hu
      have h1 := h.s s hs' l (by rw [← hry s hs']; exact hl)
      have e2 : syT L s l = (L.Y.getD s [])[l] := by
        unfold syT
        revert hl
        generalize L.Y.getD s [] = r
        intro hl
        simp [List.getD, hl]
      rw [e2] at h1
      rw [← e]; exact h1
    · rw [List.mem_singleton.1 hu]
      exact h.e s hs'
theorem GoodT.letp (h : GoodT x) (hI : x.I = (I : Int)) : LetP x I x.O := by
  have rx := h.read
  rw [hI, Int.toNat_natCast] at rx
  have hl := h.lets
  have hL : ∀ u, u ∈ sayT x → InO x.O u := fun u hu j hj => by
    obtain ⟨i, hi, e⟩ := List.getElem_of_mem hj
    have h1 := hl u hu i hi
    rw [List.getD, List.getElem?_eq_getElem hi, Option.getD_some, e] at h1
    exact h1
  refine ⟨hL _ (List.mem_cons.2 (.inl rfl)), fun s hs l hl => ?_, fun s hs => ?_⟩
  · refine hL _ (List.mem_cons.2 (.inr (List.mem_flatMap.2 ⟨s, by simp; have := rx.hy; omega, List.mem_append.2 (.inl ?_)⟩)))
    have hlt : l < (x.Y.getD s []).length := by rw [rx.ry s hs]; exact hl
    show (x.Y.getD s []).getD l [] ∈ x.Y.getD s []
    revert hlt
    generalize x.Y.getD s [] = r
    intro hlt
    rw [List.getD, List.getElem?_eq_getElem hlt, Option.getD_some]
    exact List.getElem_mem hlt
  · exact hL _ (List.mem_cons.2 (.inr (List.mem_flatMap.2 ⟨s, by simp; have := rx.hy; omega, List.mem_append.2 (.inr (List.mem_cons.2 (.inl rfl)))⟩)))
/-- A least one that says little may be. -/
theorem LeastK.good (h : LeastK x I L mx) (h1 : 1 ≤ I) (h4 : I ≤ 4) (hO : ManyT L.O) (hn : L.N.length ≤ 6) (hl : LittleT L) (hp : LetP L I L.O) : GoodT L := by
  have hs := h.shp
  refine ⟨⟨by rw [h.I']; unfold ManyT; omega, hO⟩, ⟨hs.n1, hn⟩, ⟨hs.hy, hs.he, fun s h' => ⟨by rw [hs.rn s h']; exact h.I'.symm, by rw [hs.ry s h']; exact h.I'.symm⟩⟩, ⟨fun s h' l hl' => hs.nx s h' l (by rw [← hs.rn s h']; exact hl'), ?_⟩, hl, hp.lets rfl hs.hy hs.ry⟩
  rw [h.S']
  have := hs.n1
  unfold StT
  omega
theorem beh_let (h : BehG x y I M) (hy : LetP y M O) (hE : IsEnd (bfsL id (bD x y) I (bX x y)) k) : LetP (behY x y I k) I O := by
  have hin : ∀ i, i < k → (bfsL id (bD x y) I (bX x y) k).getD i 0 < x.N.length * y.N.length := fun i hi => bfsL_lt id (fun s a hs ha => h.d hs ha) h.x0 k _ (getD_mem (by rw [hE.len]; exact hi))
  have hl : (behY x y I k).N.length = k := ofK_len.1.trans hE.len
  refine ⟨hy.f.app (hy.ru h.ry _ (tns_lt h.f) _ h.st.1), fun s hs l hl' => ?_, fun s hs => ?_⟩
  · rw [hl] at hs
    rw [ofK_sy (by rw [hE.len]; exact hs) hl']
    exact hy.ru h.ry _ (tns_lt (h.s _ (div_lt' (hin s hs)) l hl')) _ (Nat.mod_lt _ h.kk)
  · rw [hl] at hs
    rw [ofK_e (by rw [hE.len]; exact hs)]
    exact (hy.ru h.ry _ (tns_lt (h.e _ (div_lt' (hin s hs)))) _ (Nat.mod_lt _ h.kk)).app (hy.e _ (h.ry.go _ (tns_lt (h.e _ (div_lt' (hin s hs)))) (Nat.mod_lt _ h.kk)))
end

/-! All pairs, as the reference writes them down. -/
def refB (x y : TrI) (I : Nat) : TrI := ⟨(I : Int), y.O, (bX x y : Nat), bF x y, (List.range (x.N.length * y.N.length)).map fun s => (List.range I).map fun a => ((bD x y s a : Nat) : Int), (List.range (x.N.length * y.N.length)).map fun s => (List.range I).map (bS x y s), (List.range (x.N.length * y.N.length)).map (bE x y)⟩
section
variable {x y : TrI} {I M k s a : Nat}
theorem refB_len : (refB x y I).N.length = x.N.length * y.N.length ∧ (refB x y I).Y.length = x.N.length * y.N.length ∧ (refB x y I).E.length = x.N.length * y.N.length := by simp [refB]
theorem refB_row (hs : s < x.N.length * y.N.length) : (refB x y I).N.getD s [] = (List.range I).map (fun a => ((bD x y s a : Nat) : Int)) ∧ (refB x y I).Y.getD s [] = (List.range I).map (bS x y s) := by
  simp [refB, List.getD, hs]
theorem refB_nx (hs : s < x.N.length * y.N.length) (ha : a < I) : nxT (refB x y I) s a = bD x y s a := by
  unfold nxT
  rw [(refB_row hs).1]
  simp [List.getD, ha]
theorem refB_sy (hs : s < x.N.length * y.N.length) (ha : a < I) : syT (refB x y I) s a = bS x y s a := by
  unfold syT
  rw [(refB_row hs).2]
  simp [List.getD, ha]
theorem refB_e (hs : s < x.N.length * y.N.length) : (refB x y I).E.getD s [] = bE x y s := by simp [refB, List.getD, hs]
theorem refB_read (h : BehG x y I M) : ReadT (refB x y I) I 72 := by
  obtain ⟨l1, l2, l3⟩ := refB_len (x := x) (y := y) (I := I)
  refine ⟨by rw [l1]; have := h.x0; omega, by rw [l1, l2], by rw [l1, l3], fun s hs => ?_, fun s hs => ?_, fun s hs l hl => ?_, ?_, h.f72, fun s hs l hl => ?_, fun s hs => ?_⟩
  · rw [l1] at hs; rw [(refB_row hs).1]; simp
  · rw [l1] at hs; rw [(refB_row hs).2]; simp
  · rw [l1] at hs ⊢
    have h1 := h.d hs hl
    rw [(refB_row hs).1]
    have e : ((List.range I).map (fun a => ((bD x y s a : Nat) : Int))).getD l 0 = ((bD x y s l : Nat) : Int) := by simp [List.getD, hl]
    rw [e]
    unfold StT
    omega
  · rw [l1]
    have h1 := h.x0
    show StT _ ((bX x y : Nat) : Int)
    unfold StT
    omega
  · rw [l1] at hs; rw [refB_sy hs hl]; exact Nat.le_trans (h.s64 hs hl) (by omega)
  · rw [l1] at hs; rw [refB_e hs]; exact h.e72 hs
theorem refB_says (h : BehG x y I M) (hE : IsEnd (bfsL id (bD x y) I (bX x y)) k) (us : List Nat) (hu : ∀ l, l ∈ us → l < I) : saysT (behY x y I k) us = saysT (refB x y I) us := by
  have hk : 0 < k := by
    rcases Nat.eq_zero_or_pos k with h0 | h0
    · subst h0; have := hE.len; simp [bfsL] at this
    · exact h0
  obtain ⟨zz, hz⟩ := bfsL_le id (bD x y) I (bX x y) (Nat.zero_le k)
  refine BisX.says (x := behY x y I k) (y := refB x y I) (I := I) rfl ?_ us hu
  show BisX _ _ I 0 (bX x y)
  refine ofK_bis hE (fun a b => a = b ∧ b < x.N.length * y.N.length) (fun a b ⟨e, hb⟩ => ?_) hk ?_
  · subst e
    exact ⟨(refB_e hb).symm, fun c hc => ⟨(refB_sy hb hc).symm, (refB_nx hb hc).symm, by rw [refB_nx hb hc]; exact h.d hb hc⟩⟩
  · rw [hz]
    exact ⟨rfl, h.x0⟩
end

end Go.Proofs.Ytodcmlcpicabaaa
