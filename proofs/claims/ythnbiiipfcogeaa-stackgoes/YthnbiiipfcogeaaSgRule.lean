/- A rule by which an edge came to its cost: the program's ruleOf. (Written by wip/tools/sgrule.py.) -/
import Derived.Test.YthnbiiipfcogeaaSgCheap
namespace Go.Proofs.Ythnbiiipfcogeaa
open Go.RowKit Go.Maps
set_option linter.unusedVariables false
set_option linter.unusedSimpArgs false

def SRul (B be b : Nat) (F T O : Int) (a : Option Addr) (n c f s t : Nat) (E : Edg) (W : World) : Prop := BoxP W B F T O a n c ∧ BoxE W be f s t ∧ EdgesAt W b E
theorem SRul.kept {B be b : Nat} {F T O : Int} {a : Option Addr} {n c f s t : Nat} {E : Edg} {W W' : World} (h : SRul B be b F T O a n c f s t E W) (hg : W.grownBy W' none) : SRul B be b F T O a n c f s t E W' := ⟨h.1.kept hg (by simp), h.2.1.kept hg, h.2.2.kept hg (by simp)⟩
/-- The rule makes the edge at its cost. -/
def MatchC (L : List Psh) (E : Edg) (f s t i : Nat) : Prop := i < L.length ∧ (L.getD i pu0).F.toNat = f ∧ (L.getD i pu0).T.toNat = s ∧ sumC (readC E (L.getD i pu0).O.toNat (L.getD i pu0).P t) 1 = E f s t
def RulePost (L : List Psh) (E : Edg) (f s t : Nat) (w : World) (e : Ending) (w' : World) : Prop := ∃ i : Nat, e = .returned (.int .i64 (i : Int)) ∧ MatchC L E f s t i ∧ w.grownBy w' none

set_option maxHeartbeats 12800000 in
set_option maxRecDepth 100000 in
theorem ruleOf_any (L : List Psh) (b f s t : Nat) (a : Option Addr) (c : Nat) (E : Edg) (w : World) (h : EdgesAt w b E) (hG : GoodSk L) (hP : PushAt w a L) (hf : f < 6) (hs : s < 3) (ht : t < 6) (hfin : E f s t < 2002) (hex : ∃ i, MatchC L E f s t i) :
    Calls Try.prog 19 #[.map (some b), .slice a L.length c, vE f s t] w (RulePost L E f s t w) := by
  have HE : Hid (∀ V, w.grownBy V none → EdgesAt V b E) := fun V hV => h.kept hV (by simp)
  have HP : Hid (PushAt w a L) := hP
  have HG : Hid (GoodSk L) := hG
  have HX : Hid (∃ i, MatchC L E f s t i) := hex
  have hL := hG.len
  obtain ⟨W1, hW1⟩ : ∃ W1, W1 = w.alloc (.cells #[.int .i64 (f : Int), .int .i64 (s : Int), .int .i64 (t : Int)] 50) := ⟨_, rfl⟩
  have HW1 : Hid (W1 = _) := hW1
  obtain ⟨be, hbe⟩ : ∃ be, w.heap.size = be := ⟨_, rfl⟩
  have X1 : Hid (w.grownBy W1 none ∧ BoxE W1 be f s t) := by rw [hW1, ← hbe]; exact ⟨grown_alloc _ _, boxE_new w f s t⟩
  have hti : (t : Int) < 6 := by omega
  clear h hG hP hex hW1
  go_enter Try.func19, Try.ntmps19
  go_wp2_with fail
  rw [← HW1.out]
  clear HW1 hbe
  go_loopw [11] (fun u wr => ∃ k : Nat, k ≤ L.length ∧ u = .int .i64 k ∧ (∀ j, j < k → ¬ MatchC L E f s t j) ∧ (w.grownBy wr none ∧ BoxE wr be f s t)) (fun u _ => L.length - (intOf u).toNat)
  case atStart => exact ⟨0, by omega, rfl, fun j hj => by omega, X1.out⟩
  case round =>
    clear X1
    obtain ⟨k, hk, rfl, hno, hg⟩ := hrel
    have G : Hid (w.grownBy wr none ∧ BoxE wr be f s t) := hg
    by_cases hlt : k < L.length
    · have hki : (k : Int) < (L.length : Int) := by omega
      obtain ⟨bb, off, rfl, hc⟩ := (HP.out.grown hg.1).at hlt
      obtain ⟨y0, y1, y2, ap, cp, y3, y4, y5⟩ := hc k hlt
      have hpl := HG.out.put k hlt
      obtain ⟨n1, n2, n3, n4⟩ := HG.out.num k hlt
      rw [oneSk_iff] at n1 n2 n3
      obtain ⟨r, hr⟩ : ∃ r, L.getD k pu0 = r := ⟨_, rfl⟩
      rw [hr] at y0 y1 y2 y3 y4 hpl n1 n2 n3 n4
      obtain ⟨fN, hfN⟩ : ∃ fN : Nat, r.F = (fN : Int) := ⟨r.F.toNat, by omega⟩
      obtain ⟨tN, htN⟩ : ∃ tN : Nat, r.T = (tN : Int) := ⟨r.T.toNat, by omega⟩
      obtain ⟨oN, hoN⟩ : ∃ oN : Nat, r.O = (oN : Int) := ⟨r.O.toNat, by omega⟩
      have e1 : r.F.toNat = fN := by omega
      have e2 : r.T.toNat = tN := by omega
      have e3 : r.O.toNat = oN := by omega
      rw [hfN] at y0
      rw [htN] at y1
      rw [hoN] at y2
      obtain ⟨rj, hrj⟩ : ∃ rj, readC E oN r.P t = rj := ⟨_, rfl⟩
      obtain ⟨sm, hsm⟩ : ∃ sm, sumC rj 1 = sm := ⟨_, rfl⟩
      obtain ⟨row, hrow⟩ : ∃ row, readC E oN r.P = row := ⟨_, rfl⟩
      have HM : Hid (MatchC L E f s t k ↔ fN = f ∧ tN = s ∧ sm = E f s t) := by
        unfold MatchC
        rw [hr, e1, e2, e3, hrj, hsm]
        exact ⟨fun h => h.2, fun h => ⟨hlt, h⟩⟩
      have hrt : rj ≤ 2002 := by rw [← hrj]; exact readC_top _ _ _ _
      have HNoN : Hid (¬ MatchC L E f s t k → ∀ j, j < k + 1 → ¬ MatchC L E f s t j) := fun hx j hj => by
        by_cases e : j = k
        · subst e; exact hx
        · exact hno j (by omega)
      obtain ⟨W4, hW4⟩ : ∃ W4, W4 = wr.alloc (.cells #[.int .i64 (fN : Int), .int .i64 (tN : Int), .int .i64 (oN : Int), .slice ap r.P.length cp] 27) := ⟨_, rfl⟩
      have HW4 : Hid (W4 = _) := hW4
      have g4 : wr.grownBy W4 none := by rw [hW4]; exact grown_alloc _ _
      have G4 : Hid (wr.grownBy W4 none) := g4
      obtain ⟨B, hB⟩ : ∃ B, wr.heap.size = B := ⟨_, rfl⟩
      have S0 : Hid (SRul B be b fN tN oN ap r.P.length cp f s t E W4) := ⟨by rw [hW4, ← hB]; exact heap_alloc_new wr _, hg.2.kept g4, HE.out _ (grown_trans hg.1 g4)⟩
      have CR : Hid (∀ V, W4.grownBy V none → Calls Try.prog 8 #[.map (some b), .int .i64 (oN : Int), .slice ap r.P.length cp] V (Says (rV row) V)) := fun V hV => by
        have := read_any b oN E ap cp r.P V (HE.out V (grown_trans hg.1 (grown_trans g4 hV))) (by omega) (y4.grown (grown_trans g4 hV)) (by omega) n4
        rwa [hrow] at this
      have hrt2 : row t = rj := by rw [← hrow]; exact hrj
      have hix := fun V => index_six row ht V
      rw [hrt2] at hix
      have CS : Hid (∀ V, Calls Try.prog 23 #[.int .i64 (rj : Int), .int .i64 1] V fun e w' => e = .returned (.int .i64 (sm : Int)) ∧ w' = V) := fun V => by
        have := sum_any rj 1 V hrt (by omega)
        rw [hsm] at this
        exact this
      clear hc y4 y5 hr hfN htN hoN n1 n2 n3 n4 e1 e2 e3 hW4 g4 hg hno hrj hsm hrow hrt2 hrt
      go_wp2_with fail
      rw [← HW4.out]
      clear HW4 hB y0 y1 y2 y3
      by_cases hF : fN = f
      · have bF : ((fN : Int) == (f : Int)) = true := by simp [hF]
        by_cases hT : tN = s
        · have bT : ((tN : Int) == (s : Int)) = true := by simp [hT]
          by_cases hV : sm = E f s t
          · have bV : ((sm : Int) == (E f s t : Int)) = true := by simp [hV]
            have HY : Hid (MatchC L E f s t k) := HM.out.2 ⟨hF, hT, hV⟩
            clear hF hT hV HNoN HM
            refine wp_region_held_drew (S := SRul B be b fN tN oN ap r.P.length cp f s t E) (by kernel_rfl) (S0.out.kept (grown_drew (grown_refl _ _))) (fun hHeld => ?_)
            refine wpAnyH_take (i := 0) (v := ?_) rfl (by kernel_rfl) (by kernel_rfl) (by kernel_rfl) (fun _ _ _ h => h) (Or.inl ⟨by rfl, ?_⟩) (by assumption) ?_
            rotate_left
            · intro W hSw
              obtain ⟨hp, he, hm⟩ := hSw
              obtain ⟨t1, t2, t3, t4⟩ := hp.get
              obtain ⟨t5, t6, t7⟩ := he.get
              have t8 := hm.get hf hs ht hfin
              clear hp he hm
              go_simp
              with_reducible rfl
            try simp only [Act.put, List.getElem_toArray, List.getElem_cons_succ, List.getElem_cons_zero, List.setIfInBounds_toArray, List.set_cons_zero, List.set_cons_succ]
            refine wpAnyH_take (i := 1) (v := ?_) rfl (by kernel_rfl) (by kernel_rfl) (by kernel_rfl) (fun _ _ _ h => h) (Or.inl ⟨by rfl, ?_⟩) (by assumption) ?_
            rotate_left
            · intro W hSw
              obtain ⟨hp, he, hm⟩ := hSw
              obtain ⟨t1, t2, t3, t4⟩ := hp.get
              obtain ⟨t5, t6, t7⟩ := he.get
              have t8 := hm.get hf hs ht hfin
              clear hp he hm
              go_simp
              with_reducible rfl
            try simp only [Act.put, List.getElem_toArray, List.getElem_cons_succ, List.getElem_cons_zero, List.setIfInBounds_toArray, List.set_cons_zero, List.set_cons_succ]
            refine wpAnyH_take (i := 2) (v := ?_) rfl (by kernel_rfl) (by kernel_rfl) (by kernel_rfl) (fun _ _ _ h => h) (Or.inl ⟨by rfl, ?_⟩) (by assumption) ?_
            rotate_left
            · intro W hSw
              obtain ⟨hp, he, hm⟩ := hSw
              obtain ⟨t1, t2, t3, t4⟩ := hp.get
              obtain ⟨t5, t6, t7⟩ := he.get
              have t8 := hm.get hf hs ht hfin
              clear hp he hm
              go_simp
              with_reducible rfl
            try simp only [Act.put, List.getElem_toArray, List.getElem_cons_succ, List.getElem_cons_zero, List.setIfInBounds_toArray, List.set_cons_zero, List.set_cons_succ]
            refine wpAnyH_take (i := 3) (v := ?_) rfl (by kernel_rfl) (by kernel_rfl) (by kernel_rfl) (fun _ _ _ h => h) (Or.inl ⟨by rfl, ?_⟩) (by assumption) ?_
            rotate_left
            · intro W hSw
              obtain ⟨hp, he, hm⟩ := hSw
              obtain ⟨t1, t2, t3, t4⟩ := hp.get
              obtain ⟨t5, t6, t7⟩ := he.get
              have t8 := hm.get hf hs ht hfin
              clear hp he hm
              go_simp
              with_reducible rfl
            try simp only [Act.put, List.getElem_toArray, List.getElem_cons_succ, List.getElem_cons_zero, List.setIfInBounds_toArray, List.set_cons_zero, List.set_cons_succ]
            refine wpAnyH_take (i := 4) (v := ?_) rfl (by kernel_rfl) (by kernel_rfl) (by kernel_rfl) (fun _ _ _ h => h) (Or.inl ⟨by rfl, ?_⟩) (by assumption) ?_
            rotate_left
            · intro W hSw
              obtain ⟨hp, he, hm⟩ := hSw
              obtain ⟨t1, t2, t3, t4⟩ := hp.get
              obtain ⟨t5, t6, t7⟩ := he.get
              have t8 := hm.get hf hs ht hfin
              clear hp he hm
              go_simp
              with_reducible rfl
            try simp only [Act.put, List.getElem_toArray, List.getElem_cons_succ, List.getElem_cons_zero, List.setIfInBounds_toArray, List.set_cons_zero, List.set_cons_succ]
            refine wpAnyH_take (i := 5) (v := ?_) rfl (by kernel_rfl) (by kernel_rfl) (by kernel_rfl) (fun _ _ _ h => h) (Or.inl ⟨by rfl, ?_⟩) (by assumption) ?_
            rotate_left
            · intro W hSw
              obtain ⟨hp, he, hm⟩ := hSw
              obtain ⟨t1, t2, t3, t4⟩ := hp.get
              obtain ⟨t5, t6, t7⟩ := he.get
              have t8 := hm.get hf hs ht hfin
              clear hp he hm
              go_simp
              with_reducible rfl
            try simp only [Act.put, List.getElem_toArray, List.getElem_cons_succ, List.getElem_cons_zero, List.setIfInBounds_toArray, List.set_cons_zero, List.set_cons_succ]
            refine wpAnyH_take (i := 6) (v := ?_) rfl (by kernel_rfl) (by kernel_rfl) (by kernel_rfl) (fun _ _ _ h => h) (Or.inl ⟨by rfl, ?_⟩) (by assumption) ?_
            rotate_left
            · intro W hSw
              obtain ⟨hp, he, hm⟩ := hSw
              obtain ⟨t1, t2, t3, t4⟩ := hp.get
              obtain ⟨t5, t6, t7⟩ := he.get
              have t8 := hm.get hf hs ht hfin
              clear hp he hm
              go_simp
              with_reducible rfl
            try simp only [Act.put, List.getElem_toArray, List.getElem_cons_succ, List.getElem_cons_zero, List.setIfInBounds_toArray, List.set_cons_zero, List.set_cons_succ]
            refine wpAnyH_take (i := 7) (v := ?_) rfl (by kernel_rfl) (by kernel_rfl) (by kernel_rfl) (fun _ _ _ h => h) (Or.inl ⟨by rfl, ?_⟩) (by assumption) ?_
            rotate_left
            · intro W hSw
              obtain ⟨hp, he, hm⟩ := hSw
              obtain ⟨t1, t2, t3, t4⟩ := hp.get
              obtain ⟨t5, t6, t7⟩ := he.get
              have t8 := hm.get hf hs ht hfin
              clear hp he hm
              go_simp
              with_reducible rfl
            try simp only [Act.put, List.getElem_toArray, List.getElem_cons_succ, List.getElem_cons_zero, List.setIfInBounds_toArray, List.set_cons_zero, List.set_cons_succ]
            refine wpAnyH_take (i := 8) (v := ?_) rfl (by kernel_rfl) (by kernel_rfl) (by kernel_rfl) (fun _ _ _ h => h) (Or.inl ⟨by rfl, ?_⟩) (by assumption) ?_
            rotate_left
            · intro W hSw
              obtain ⟨hp, he, hm⟩ := hSw
              obtain ⟨t1, t2, t3, t4⟩ := hp.get
              obtain ⟨t5, t6, t7⟩ := he.get
              have t8 := hm.get hf hs ht hfin
              clear hp he hm
              go_simp
              with_reducible rfl
            try simp only [Act.put, List.getElem_toArray, List.getElem_cons_succ, List.getElem_cons_zero, List.setIfInBounds_toArray, List.set_cons_zero, List.set_cons_succ]
            refine wpAnyH_take (i := 9) (v := ?_) rfl (by kernel_rfl) (by kernel_rfl) (by kernel_rfl) (fun _ _ _ h => h) (Or.inl ⟨by rfl, ?_⟩) (by assumption) ?_
            rotate_left
            · intro W hSw
              obtain ⟨hp, he, hm⟩ := hSw
              obtain ⟨t1, t2, t3, t4⟩ := hp.get
              obtain ⟨t5, t6, t7⟩ := he.get
              have t8 := hm.get hf hs ht hfin
              clear hp he hm
              go_simp
              with_reducible rfl
            try simp only [Act.put, List.getElem_toArray, List.getElem_cons_succ, List.getElem_cons_zero, List.setIfInBounds_toArray, List.set_cons_zero, List.set_cons_succ]
            refine wpAnyH_take (i := 10) (v := ?_) rfl (by kernel_rfl) (by kernel_rfl) (by kernel_rfl) (fun _ _ _ h => h) (Or.inl ⟨by rfl, ?_⟩) (by assumption) ?_
            rotate_left
            · intro W hSw
              obtain ⟨hp, he, hm⟩ := hSw
              obtain ⟨t1, t2, t3, t4⟩ := hp.get
              obtain ⟨t5, t6, t7⟩ := he.get
              have t8 := hm.get hf hs ht hfin
              clear hp he hm
              go_simp
              with_reducible rfl
            try simp only [Act.put, List.getElem_toArray, List.getElem_cons_succ, List.getElem_cons_zero, List.setIfInBounds_toArray, List.set_cons_zero, List.set_cons_succ]
            refine wpAnyH_take (i := 11) (v := ?_) rfl (by kernel_rfl) (by kernel_rfl) (by kernel_rfl) (fun _ _ _ h => h) (Or.inl ⟨by rfl, ?_⟩) (by assumption) ?_
            rotate_left
            · intro W hSw
              obtain ⟨hp, he, hm⟩ := hSw
              obtain ⟨t1, t2, t3, t4⟩ := hp.get
              obtain ⟨t5, t6, t7⟩ := he.get
              have t8 := hm.get hf hs ht hfin
              clear hp he hm
              go_simp
              with_reducible rfl
            try simp only [Act.put, List.getElem_toArray, List.getElem_cons_succ, List.getElem_cons_zero, List.setIfInBounds_toArray, List.set_cons_zero, List.set_cons_succ]
            refine wpAnyH_take (i := 12) (v := ?_) rfl (by kernel_rfl) (by kernel_rfl) (by kernel_rfl) (fun _ _ _ h => h) (Or.inl ⟨by rfl, ?_⟩) (by assumption) ?_
            rotate_left
            · intro W hSw
              obtain ⟨hp, he, hm⟩ := hSw
              obtain ⟨t1, t2, t3, t4⟩ := hp.get
              obtain ⟨t5, t6, t7⟩ := he.get
              have t8 := hm.get hf hs ht hfin
              clear hp he hm
              go_simp
              with_reducible rfl
            try simp only [Act.put, List.getElem_toArray, List.getElem_cons_succ, List.getElem_cons_zero, List.setIfInBounds_toArray, List.set_cons_zero, List.set_cons_succ]
            refine wpAnyH_take (i := 13) (v := ?_) rfl (by kernel_rfl) (by kernel_rfl) (by kernel_rfl) (fun _ _ _ h => h) (Or.inl ⟨by rfl, ?_⟩) (by assumption) ?_
            rotate_left
            · intro W hSw
              obtain ⟨hp, he, hm⟩ := hSw
              obtain ⟨t1, t2, t3, t4⟩ := hp.get
              obtain ⟨t5, t6, t7⟩ := he.get
              have t8 := hm.get hf hs ht hfin
              clear hp he hm
              go_simp
              with_reducible rfl
            try simp only [Act.put, List.getElem_toArray, List.getElem_cons_succ, List.getElem_cons_zero, List.setIfInBounds_toArray, List.set_cons_zero, List.set_cons_succ]
            refine wpAnyH_take (i := 14) (v := ?_) rfl (by kernel_rfl) (by kernel_rfl) (by kernel_rfl) (fun _ _ _ h => h) (Or.inl ⟨by rfl, ?_⟩) (by assumption) ?_
            rotate_left
            · intro W hSw
              obtain ⟨hp, he, hm⟩ := hSw
              obtain ⟨t1, t2, t3, t4⟩ := hp.get
              obtain ⟨t5, t6, t7⟩ := he.get
              have t8 := hm.get hf hs ht hfin
              clear hp he hm
              go_simp
              with_reducible rfl
            try simp only [Act.put, List.getElem_toArray, List.getElem_cons_succ, List.getElem_cons_zero, List.setIfInBounds_toArray, List.set_cons_zero, List.set_cons_succ]
            refine wpAnyH_take (i := 15) (v := ?_) rfl (by kernel_rfl) (by kernel_rfl) (by kernel_rfl) (fun _ _ _ h => h) (Or.inl ⟨by rfl, ?_⟩) (by assumption) ?_
            rotate_left
            · intro W hSw
              obtain ⟨hp, he, hm⟩ := hSw
              obtain ⟨t1, t2, t3, t4⟩ := hp.get
              obtain ⟨t5, t6, t7⟩ := he.get
              have t8 := hm.get hf hs ht hfin
              clear hp he hm
              go_simp
              with_reducible rfl
            try simp only [Act.put, List.getElem_toArray, List.getElem_cons_succ, List.getElem_cons_zero, List.setIfInBounds_toArray, List.set_cons_zero, List.set_cons_succ]
            refine wpAnyH_take (i := 16) (v := ?_) rfl (by kernel_rfl) (by kernel_rfl) (by kernel_rfl) (fun _ _ _ h => h) (Or.inl ⟨by rfl, ?_⟩) (by assumption) ?_
            rotate_left
            · intro W hSw
              obtain ⟨hp, he, hm⟩ := hSw
              obtain ⟨t1, t2, t3, t4⟩ := hp.get
              obtain ⟨t5, t6, t7⟩ := he.get
              have t8 := hm.get hf hs ht hfin
              clear hp he hm
              go_simp
              with_reducible rfl
            try simp only [Act.put, List.getElem_toArray, List.getElem_cons_succ, List.getElem_cons_zero, List.setIfInBounds_toArray, List.set_cons_zero, List.set_cons_succ]
            refine wpAnyH_take (i := 17) (v := ?_) rfl (by kernel_rfl) (by kernel_rfl) (by kernel_rfl) (fun _ _ _ h => h) (Or.inl ⟨by rfl, ?_⟩) (by assumption) ?_
            rotate_left
            · intro W hSw
              obtain ⟨hp, he, hm⟩ := hSw
              obtain ⟨t1, t2, t3, t4⟩ := hp.get
              obtain ⟨t5, t6, t7⟩ := he.get
              have t8 := hm.get hf hs ht hfin
              clear hp he hm
              go_simp
              with_reducible rfl
            try simp only [Act.put, List.getElem_toArray, List.getElem_cons_succ, List.getElem_cons_zero, List.setIfInBounds_toArray, List.set_cons_zero, List.set_cons_succ]
            refine wpAnyH_take (i := 19) (v := ?_) rfl (by kernel_rfl) (by kernel_rfl) (by kernel_rfl) (fun _ _ _ h => h) (Or.inl ⟨by rfl, ?_⟩) (by assumption) ?_
            rotate_left
            · intro W hSw
              obtain ⟨hp, he, hm⟩ := hSw
              obtain ⟨t1, t2, t3, t4⟩ := hp.get
              obtain ⟨t5, t6, t7⟩ := he.get
              have t8 := hm.get hf hs ht hfin
              clear hp he hm
              go_simp
              with_reducible rfl
            try simp only [Act.put, List.getElem_toArray, List.getElem_cons_succ, List.getElem_cons_zero, List.setIfInBounds_toArray, List.set_cons_zero, List.set_cons_succ]
            refine wpAnyH_take (i := 20) (v := ?_) rfl (by kernel_rfl) (by kernel_rfl) (by kernel_rfl) (fun _ _ _ h => h) (Or.inl ⟨by rfl, ?_⟩) (by assumption) ?_
            rotate_left
            · intro W hSw
              obtain ⟨hp, he, hm⟩ := hSw
              obtain ⟨t1, t2, t3, t4⟩ := hp.get
              obtain ⟨t5, t6, t7⟩ := he.get
              have t8 := hm.get hf hs ht hfin
              clear hp he hm
              go_simp
              with_reducible rfl
            try simp only [Act.put, List.getElem_toArray, List.getElem_cons_succ, List.getElem_cons_zero, List.setIfInBounds_toArray, List.set_cons_zero, List.set_cons_succ]
            refine wpAnyH_take (i := 23) (v := ?_) rfl (by kernel_rfl) (by kernel_rfl) (by kernel_rfl) (fun _ _ _ h => h) (Or.inl ⟨by rfl, ?_⟩) (by assumption) ?_
            rotate_left
            · intro W hSw
              obtain ⟨hp, he, hm⟩ := hSw
              obtain ⟨t1, t2, t3, t4⟩ := hp.get
              obtain ⟨t5, t6, t7⟩ := he.get
              have t8 := hm.get hf hs ht hfin
              clear hp he hm
              go_simp
              with_reducible rfl
            try simp only [Act.put, List.getElem_toArray, List.getElem_cons_succ, List.getElem_cons_zero, List.setIfInBounds_toArray, List.set_cons_zero, List.set_cons_succ]
            refine wpAnyH_take (i := 24) (v := ?_) rfl (by kernel_rfl) (by kernel_rfl) (by kernel_rfl) (fun _ _ _ h => h) (Or.inl ⟨by rfl, ?_⟩) (by assumption) ?_
            rotate_left
            · intro W hSw
              obtain ⟨hp, he, hm⟩ := hSw
              obtain ⟨t1, t2, t3, t4⟩ := hp.get
              obtain ⟨t5, t6, t7⟩ := he.get
              have t8 := hm.get hf hs ht hfin
              clear hp he hm
              go_simp
              with_reducible rfl
            try simp only [Act.put, List.getElem_toArray, List.getElem_cons_succ, List.getElem_cons_zero, List.setIfInBounds_toArray, List.set_cons_zero, List.set_cons_succ]
            refine wpAnyH_take (i := 25) (v := ?_) rfl (by kernel_rfl) (by kernel_rfl) (by kernel_rfl) (fun _ _ _ h => h) (Or.inl ⟨by rfl, ?_⟩) (by assumption) ?_
            rotate_left
            · intro W hSw
              obtain ⟨hp, he, hm⟩ := hSw
              obtain ⟨t1, t2, t3, t4⟩ := hp.get
              obtain ⟨t5, t6, t7⟩ := he.get
              have t8 := hm.get hf hs ht hfin
              clear hp he hm
              go_simp
              with_reducible rfl
            try simp only [Act.put, List.getElem_toArray, List.getElem_cons_succ, List.getElem_cons_zero, List.setIfInBounds_toArray, List.set_cons_zero, List.set_cons_succ]
            refine wpAnyH_ready (rs := [18]) (by kernel_rfl) (by simp) ?_
            refine AllReadyH.cons (o := _) rfl (fun K' hK => ?_) ?_
            · go_simp
              refine (CR.out _ (grown_drew (grown_refl _ _))).mono ?_
              rintro e w7 ⟨rfl, hg7⟩
              go_wp2_with fail
              refine hK.out _ _ (hHeld.kept hg7) (fun hHeld => ?_)
              clear hK K'
              try simp only [Act.put, List.getElem_toArray, List.getElem_cons_succ, List.getElem_cons_zero, List.setIfInBounds_toArray, List.set_cons_zero, List.set_cons_succ]
              refine wpAnyH_take (i := 21) (v := ?_) rfl (by kernel_rfl) (by kernel_rfl) (by kernel_rfl) (fun _ _ _ h => h) (Or.inl ⟨by rfl, ?_⟩) (by assumption) ?_
              rotate_left
              · intro W hSw
                obtain ⟨hp, he, hm⟩ := hSw
                obtain ⟨t1, t2, t3, t4⟩ := hp.get
                obtain ⟨t5, t6, t7⟩ := he.get
                have t8 := hm.get hf hs ht hfin
                clear hp he hm
                go_simp
                with_reducible rfl
              try simp only [Act.put, List.getElem_toArray, List.getElem_cons_succ, List.getElem_cons_zero, List.setIfInBounds_toArray, List.set_cons_zero, List.set_cons_succ]
              refine wpAnyH_ready (rs := [22]) (by kernel_rfl) (by simp) ?_
              refine AllReadyH.cons (o := _) rfl (fun K' hK => ?_) ?_
              · go_simp
                refine (CS.out _).mono ?_
                rintro e w8 ⟨rfl, hw8⟩
                rw [hw8]
                clear hw8
                go_wp2_with fail
                refine hK.out _ _ (hHeld) (fun hHeld => ?_)
                clear hK K'
                try simp only [Act.put, List.getElem_toArray, List.getElem_cons_succ, List.getElem_cons_zero, List.setIfInBounds_toArray, List.set_cons_zero, List.set_cons_succ]
                refine wpAnyH_take (i := 26) (v := ?_) rfl (by kernel_rfl) (by kernel_rfl) (by kernel_rfl) (fun _ _ _ h => h) (Or.inl ⟨by rfl, ?_⟩) (by assumption) ?_
                rotate_left
                · intro W hSw
                  obtain ⟨hp, he, hm⟩ := hSw
                  obtain ⟨t1, t2, t3, t4⟩ := hp.get
                  obtain ⟨t5, t6, t7⟩ := he.get
                  have t8 := hm.get hf hs ht hfin
                  clear hp he hm
                  go_simp
                  with_reducible rfl
                try simp only [Act.put, List.getElem_toArray, List.getElem_cons_succ, List.getElem_cons_zero, List.setIfInBounds_toArray, List.set_cons_zero, List.set_cons_succ]
                refine wpAnyH_take (i := 27) (v := ?_) rfl (by kernel_rfl) (by kernel_rfl) (by kernel_rfl) (fun _ _ _ h => h) (Or.inl ⟨by rfl, ?_⟩) (by assumption) ?_
                rotate_left
                · intro W hSw
                  obtain ⟨hp, he, hm⟩ := hSw
                  obtain ⟨t1, t2, t3, t4⟩ := hp.get
                  obtain ⟨t5, t6, t7⟩ := he.get
                  have t8 := hm.get hf hs ht hfin
                  clear hp he hm
                  go_simp
                  with_reducible rfl
                try simp only [Act.put, List.getElem_toArray, List.getElem_cons_succ, List.getElem_cons_zero, List.setIfInBounds_toArray, List.set_cons_zero, List.set_cons_succ]
                refine wpAnyH_done (by kernel_rfl) ?_ _
                go_wp2_with fail
                go_ret
                exact ⟨k, rfl, HY.out, grown_trans G.out.1 (grown_trans G4.out (grown_trans (grown_drew (grown_refl _ _)) hg7))⟩
              exact AllReadyH.nil
            exact AllReadyH.nil
          · have bV : ((sm : Int) == (E f s t : Int)) = false := by simp; omega
            have HNo : Hid (∀ j, j < k + 1 → ¬ MatchC L E f s t j) := HNoN.out (fun h => hV (HM.out.1 h).2.2)
            clear hF hT hV HNoN HM
            refine wp_region_held_drew (S := SRul B be b fN tN oN ap r.P.length cp f s t E) (by kernel_rfl) (S0.out.kept (grown_drew (grown_refl _ _))) (fun hHeld => ?_)
            refine wpAnyH_take (i := 0) (v := ?_) rfl (by kernel_rfl) (by kernel_rfl) (by kernel_rfl) (fun _ _ _ h => h) (Or.inl ⟨by rfl, ?_⟩) (by assumption) ?_
            rotate_left
            · intro W hSw
              obtain ⟨hp, he, hm⟩ := hSw
              obtain ⟨t1, t2, t3, t4⟩ := hp.get
              obtain ⟨t5, t6, t7⟩ := he.get
              have t8 := hm.get hf hs ht hfin
              clear hp he hm
              go_simp
              with_reducible rfl
            try simp only [Act.put, List.getElem_toArray, List.getElem_cons_succ, List.getElem_cons_zero, List.setIfInBounds_toArray, List.set_cons_zero, List.set_cons_succ]
            refine wpAnyH_take (i := 1) (v := ?_) rfl (by kernel_rfl) (by kernel_rfl) (by kernel_rfl) (fun _ _ _ h => h) (Or.inl ⟨by rfl, ?_⟩) (by assumption) ?_
            rotate_left
            · intro W hSw
              obtain ⟨hp, he, hm⟩ := hSw
              obtain ⟨t1, t2, t3, t4⟩ := hp.get
              obtain ⟨t5, t6, t7⟩ := he.get
              have t8 := hm.get hf hs ht hfin
              clear hp he hm
              go_simp
              with_reducible rfl
            try simp only [Act.put, List.getElem_toArray, List.getElem_cons_succ, List.getElem_cons_zero, List.setIfInBounds_toArray, List.set_cons_zero, List.set_cons_succ]
            refine wpAnyH_take (i := 2) (v := ?_) rfl (by kernel_rfl) (by kernel_rfl) (by kernel_rfl) (fun _ _ _ h => h) (Or.inl ⟨by rfl, ?_⟩) (by assumption) ?_
            rotate_left
            · intro W hSw
              obtain ⟨hp, he, hm⟩ := hSw
              obtain ⟨t1, t2, t3, t4⟩ := hp.get
              obtain ⟨t5, t6, t7⟩ := he.get
              have t8 := hm.get hf hs ht hfin
              clear hp he hm
              go_simp
              with_reducible rfl
            try simp only [Act.put, List.getElem_toArray, List.getElem_cons_succ, List.getElem_cons_zero, List.setIfInBounds_toArray, List.set_cons_zero, List.set_cons_succ]
            refine wpAnyH_take (i := 3) (v := ?_) rfl (by kernel_rfl) (by kernel_rfl) (by kernel_rfl) (fun _ _ _ h => h) (Or.inl ⟨by rfl, ?_⟩) (by assumption) ?_
            rotate_left
            · intro W hSw
              obtain ⟨hp, he, hm⟩ := hSw
              obtain ⟨t1, t2, t3, t4⟩ := hp.get
              obtain ⟨t5, t6, t7⟩ := he.get
              have t8 := hm.get hf hs ht hfin
              clear hp he hm
              go_simp
              with_reducible rfl
            try simp only [Act.put, List.getElem_toArray, List.getElem_cons_succ, List.getElem_cons_zero, List.setIfInBounds_toArray, List.set_cons_zero, List.set_cons_succ]
            refine wpAnyH_take (i := 4) (v := ?_) rfl (by kernel_rfl) (by kernel_rfl) (by kernel_rfl) (fun _ _ _ h => h) (Or.inl ⟨by rfl, ?_⟩) (by assumption) ?_
            rotate_left
            · intro W hSw
              obtain ⟨hp, he, hm⟩ := hSw
              obtain ⟨t1, t2, t3, t4⟩ := hp.get
              obtain ⟨t5, t6, t7⟩ := he.get
              have t8 := hm.get hf hs ht hfin
              clear hp he hm
              go_simp
              with_reducible rfl
            try simp only [Act.put, List.getElem_toArray, List.getElem_cons_succ, List.getElem_cons_zero, List.setIfInBounds_toArray, List.set_cons_zero, List.set_cons_succ]
            refine wpAnyH_take (i := 5) (v := ?_) rfl (by kernel_rfl) (by kernel_rfl) (by kernel_rfl) (fun _ _ _ h => h) (Or.inl ⟨by rfl, ?_⟩) (by assumption) ?_
            rotate_left
            · intro W hSw
              obtain ⟨hp, he, hm⟩ := hSw
              obtain ⟨t1, t2, t3, t4⟩ := hp.get
              obtain ⟨t5, t6, t7⟩ := he.get
              have t8 := hm.get hf hs ht hfin
              clear hp he hm
              go_simp
              with_reducible rfl
            try simp only [Act.put, List.getElem_toArray, List.getElem_cons_succ, List.getElem_cons_zero, List.setIfInBounds_toArray, List.set_cons_zero, List.set_cons_succ]
            refine wpAnyH_take (i := 6) (v := ?_) rfl (by kernel_rfl) (by kernel_rfl) (by kernel_rfl) (fun _ _ _ h => h) (Or.inl ⟨by rfl, ?_⟩) (by assumption) ?_
            rotate_left
            · intro W hSw
              obtain ⟨hp, he, hm⟩ := hSw
              obtain ⟨t1, t2, t3, t4⟩ := hp.get
              obtain ⟨t5, t6, t7⟩ := he.get
              have t8 := hm.get hf hs ht hfin
              clear hp he hm
              go_simp
              with_reducible rfl
            try simp only [Act.put, List.getElem_toArray, List.getElem_cons_succ, List.getElem_cons_zero, List.setIfInBounds_toArray, List.set_cons_zero, List.set_cons_succ]
            refine wpAnyH_take (i := 7) (v := ?_) rfl (by kernel_rfl) (by kernel_rfl) (by kernel_rfl) (fun _ _ _ h => h) (Or.inl ⟨by rfl, ?_⟩) (by assumption) ?_
            rotate_left
            · intro W hSw
              obtain ⟨hp, he, hm⟩ := hSw
              obtain ⟨t1, t2, t3, t4⟩ := hp.get
              obtain ⟨t5, t6, t7⟩ := he.get
              have t8 := hm.get hf hs ht hfin
              clear hp he hm
              go_simp
              with_reducible rfl
            try simp only [Act.put, List.getElem_toArray, List.getElem_cons_succ, List.getElem_cons_zero, List.setIfInBounds_toArray, List.set_cons_zero, List.set_cons_succ]
            refine wpAnyH_take (i := 8) (v := ?_) rfl (by kernel_rfl) (by kernel_rfl) (by kernel_rfl) (fun _ _ _ h => h) (Or.inl ⟨by rfl, ?_⟩) (by assumption) ?_
            rotate_left
            · intro W hSw
              obtain ⟨hp, he, hm⟩ := hSw
              obtain ⟨t1, t2, t3, t4⟩ := hp.get
              obtain ⟨t5, t6, t7⟩ := he.get
              have t8 := hm.get hf hs ht hfin
              clear hp he hm
              go_simp
              with_reducible rfl
            try simp only [Act.put, List.getElem_toArray, List.getElem_cons_succ, List.getElem_cons_zero, List.setIfInBounds_toArray, List.set_cons_zero, List.set_cons_succ]
            refine wpAnyH_take (i := 9) (v := ?_) rfl (by kernel_rfl) (by kernel_rfl) (by kernel_rfl) (fun _ _ _ h => h) (Or.inl ⟨by rfl, ?_⟩) (by assumption) ?_
            rotate_left
            · intro W hSw
              obtain ⟨hp, he, hm⟩ := hSw
              obtain ⟨t1, t2, t3, t4⟩ := hp.get
              obtain ⟨t5, t6, t7⟩ := he.get
              have t8 := hm.get hf hs ht hfin
              clear hp he hm
              go_simp
              with_reducible rfl
            try simp only [Act.put, List.getElem_toArray, List.getElem_cons_succ, List.getElem_cons_zero, List.setIfInBounds_toArray, List.set_cons_zero, List.set_cons_succ]
            refine wpAnyH_take (i := 10) (v := ?_) rfl (by kernel_rfl) (by kernel_rfl) (by kernel_rfl) (fun _ _ _ h => h) (Or.inl ⟨by rfl, ?_⟩) (by assumption) ?_
            rotate_left
            · intro W hSw
              obtain ⟨hp, he, hm⟩ := hSw
              obtain ⟨t1, t2, t3, t4⟩ := hp.get
              obtain ⟨t5, t6, t7⟩ := he.get
              have t8 := hm.get hf hs ht hfin
              clear hp he hm
              go_simp
              with_reducible rfl
            try simp only [Act.put, List.getElem_toArray, List.getElem_cons_succ, List.getElem_cons_zero, List.setIfInBounds_toArray, List.set_cons_zero, List.set_cons_succ]
            refine wpAnyH_take (i := 11) (v := ?_) rfl (by kernel_rfl) (by kernel_rfl) (by kernel_rfl) (fun _ _ _ h => h) (Or.inl ⟨by rfl, ?_⟩) (by assumption) ?_
            rotate_left
            · intro W hSw
              obtain ⟨hp, he, hm⟩ := hSw
              obtain ⟨t1, t2, t3, t4⟩ := hp.get
              obtain ⟨t5, t6, t7⟩ := he.get
              have t8 := hm.get hf hs ht hfin
              clear hp he hm
              go_simp
              with_reducible rfl
            try simp only [Act.put, List.getElem_toArray, List.getElem_cons_succ, List.getElem_cons_zero, List.setIfInBounds_toArray, List.set_cons_zero, List.set_cons_succ]
            refine wpAnyH_take (i := 12) (v := ?_) rfl (by kernel_rfl) (by kernel_rfl) (by kernel_rfl) (fun _ _ _ h => h) (Or.inl ⟨by rfl, ?_⟩) (by assumption) ?_
            rotate_left
            · intro W hSw
              obtain ⟨hp, he, hm⟩ := hSw
              obtain ⟨t1, t2, t3, t4⟩ := hp.get
              obtain ⟨t5, t6, t7⟩ := he.get
              have t8 := hm.get hf hs ht hfin
              clear hp he hm
              go_simp
              with_reducible rfl
            try simp only [Act.put, List.getElem_toArray, List.getElem_cons_succ, List.getElem_cons_zero, List.setIfInBounds_toArray, List.set_cons_zero, List.set_cons_succ]
            refine wpAnyH_take (i := 13) (v := ?_) rfl (by kernel_rfl) (by kernel_rfl) (by kernel_rfl) (fun _ _ _ h => h) (Or.inl ⟨by rfl, ?_⟩) (by assumption) ?_
            rotate_left
            · intro W hSw
              obtain ⟨hp, he, hm⟩ := hSw
              obtain ⟨t1, t2, t3, t4⟩ := hp.get
              obtain ⟨t5, t6, t7⟩ := he.get
              have t8 := hm.get hf hs ht hfin
              clear hp he hm
              go_simp
              with_reducible rfl
            try simp only [Act.put, List.getElem_toArray, List.getElem_cons_succ, List.getElem_cons_zero, List.setIfInBounds_toArray, List.set_cons_zero, List.set_cons_succ]
            refine wpAnyH_take (i := 14) (v := ?_) rfl (by kernel_rfl) (by kernel_rfl) (by kernel_rfl) (fun _ _ _ h => h) (Or.inl ⟨by rfl, ?_⟩) (by assumption) ?_
            rotate_left
            · intro W hSw
              obtain ⟨hp, he, hm⟩ := hSw
              obtain ⟨t1, t2, t3, t4⟩ := hp.get
              obtain ⟨t5, t6, t7⟩ := he.get
              have t8 := hm.get hf hs ht hfin
              clear hp he hm
              go_simp
              with_reducible rfl
            try simp only [Act.put, List.getElem_toArray, List.getElem_cons_succ, List.getElem_cons_zero, List.setIfInBounds_toArray, List.set_cons_zero, List.set_cons_succ]
            refine wpAnyH_take (i := 15) (v := ?_) rfl (by kernel_rfl) (by kernel_rfl) (by kernel_rfl) (fun _ _ _ h => h) (Or.inl ⟨by rfl, ?_⟩) (by assumption) ?_
            rotate_left
            · intro W hSw
              obtain ⟨hp, he, hm⟩ := hSw
              obtain ⟨t1, t2, t3, t4⟩ := hp.get
              obtain ⟨t5, t6, t7⟩ := he.get
              have t8 := hm.get hf hs ht hfin
              clear hp he hm
              go_simp
              with_reducible rfl
            try simp only [Act.put, List.getElem_toArray, List.getElem_cons_succ, List.getElem_cons_zero, List.setIfInBounds_toArray, List.set_cons_zero, List.set_cons_succ]
            refine wpAnyH_take (i := 16) (v := ?_) rfl (by kernel_rfl) (by kernel_rfl) (by kernel_rfl) (fun _ _ _ h => h) (Or.inl ⟨by rfl, ?_⟩) (by assumption) ?_
            rotate_left
            · intro W hSw
              obtain ⟨hp, he, hm⟩ := hSw
              obtain ⟨t1, t2, t3, t4⟩ := hp.get
              obtain ⟨t5, t6, t7⟩ := he.get
              have t8 := hm.get hf hs ht hfin
              clear hp he hm
              go_simp
              with_reducible rfl
            try simp only [Act.put, List.getElem_toArray, List.getElem_cons_succ, List.getElem_cons_zero, List.setIfInBounds_toArray, List.set_cons_zero, List.set_cons_succ]
            refine wpAnyH_take (i := 17) (v := ?_) rfl (by kernel_rfl) (by kernel_rfl) (by kernel_rfl) (fun _ _ _ h => h) (Or.inl ⟨by rfl, ?_⟩) (by assumption) ?_
            rotate_left
            · intro W hSw
              obtain ⟨hp, he, hm⟩ := hSw
              obtain ⟨t1, t2, t3, t4⟩ := hp.get
              obtain ⟨t5, t6, t7⟩ := he.get
              have t8 := hm.get hf hs ht hfin
              clear hp he hm
              go_simp
              with_reducible rfl
            try simp only [Act.put, List.getElem_toArray, List.getElem_cons_succ, List.getElem_cons_zero, List.setIfInBounds_toArray, List.set_cons_zero, List.set_cons_succ]
            refine wpAnyH_take (i := 19) (v := ?_) rfl (by kernel_rfl) (by kernel_rfl) (by kernel_rfl) (fun _ _ _ h => h) (Or.inl ⟨by rfl, ?_⟩) (by assumption) ?_
            rotate_left
            · intro W hSw
              obtain ⟨hp, he, hm⟩ := hSw
              obtain ⟨t1, t2, t3, t4⟩ := hp.get
              obtain ⟨t5, t6, t7⟩ := he.get
              have t8 := hm.get hf hs ht hfin
              clear hp he hm
              go_simp
              with_reducible rfl
            try simp only [Act.put, List.getElem_toArray, List.getElem_cons_succ, List.getElem_cons_zero, List.setIfInBounds_toArray, List.set_cons_zero, List.set_cons_succ]
            refine wpAnyH_take (i := 20) (v := ?_) rfl (by kernel_rfl) (by kernel_rfl) (by kernel_rfl) (fun _ _ _ h => h) (Or.inl ⟨by rfl, ?_⟩) (by assumption) ?_
            rotate_left
            · intro W hSw
              obtain ⟨hp, he, hm⟩ := hSw
              obtain ⟨t1, t2, t3, t4⟩ := hp.get
              obtain ⟨t5, t6, t7⟩ := he.get
              have t8 := hm.get hf hs ht hfin
              clear hp he hm
              go_simp
              with_reducible rfl
            try simp only [Act.put, List.getElem_toArray, List.getElem_cons_succ, List.getElem_cons_zero, List.setIfInBounds_toArray, List.set_cons_zero, List.set_cons_succ]
            refine wpAnyH_take (i := 23) (v := ?_) rfl (by kernel_rfl) (by kernel_rfl) (by kernel_rfl) (fun _ _ _ h => h) (Or.inl ⟨by rfl, ?_⟩) (by assumption) ?_
            rotate_left
            · intro W hSw
              obtain ⟨hp, he, hm⟩ := hSw
              obtain ⟨t1, t2, t3, t4⟩ := hp.get
              obtain ⟨t5, t6, t7⟩ := he.get
              have t8 := hm.get hf hs ht hfin
              clear hp he hm
              go_simp
              with_reducible rfl
            try simp only [Act.put, List.getElem_toArray, List.getElem_cons_succ, List.getElem_cons_zero, List.setIfInBounds_toArray, List.set_cons_zero, List.set_cons_succ]
            refine wpAnyH_take (i := 24) (v := ?_) rfl (by kernel_rfl) (by kernel_rfl) (by kernel_rfl) (fun _ _ _ h => h) (Or.inl ⟨by rfl, ?_⟩) (by assumption) ?_
            rotate_left
            · intro W hSw
              obtain ⟨hp, he, hm⟩ := hSw
              obtain ⟨t1, t2, t3, t4⟩ := hp.get
              obtain ⟨t5, t6, t7⟩ := he.get
              have t8 := hm.get hf hs ht hfin
              clear hp he hm
              go_simp
              with_reducible rfl
            try simp only [Act.put, List.getElem_toArray, List.getElem_cons_succ, List.getElem_cons_zero, List.setIfInBounds_toArray, List.set_cons_zero, List.set_cons_succ]
            refine wpAnyH_take (i := 25) (v := ?_) rfl (by kernel_rfl) (by kernel_rfl) (by kernel_rfl) (fun _ _ _ h => h) (Or.inl ⟨by rfl, ?_⟩) (by assumption) ?_
            rotate_left
            · intro W hSw
              obtain ⟨hp, he, hm⟩ := hSw
              obtain ⟨t1, t2, t3, t4⟩ := hp.get
              obtain ⟨t5, t6, t7⟩ := he.get
              have t8 := hm.get hf hs ht hfin
              clear hp he hm
              go_simp
              with_reducible rfl
            try simp only [Act.put, List.getElem_toArray, List.getElem_cons_succ, List.getElem_cons_zero, List.setIfInBounds_toArray, List.set_cons_zero, List.set_cons_succ]
            refine wpAnyH_ready (rs := [18]) (by kernel_rfl) (by simp) ?_
            refine AllReadyH.cons (o := _) rfl (fun K' hK => ?_) ?_
            · go_simp
              refine (CR.out _ (grown_drew (grown_refl _ _))).mono ?_
              rintro e w7 ⟨rfl, hg7⟩
              go_wp2_with fail
              refine hK.out _ _ (hHeld.kept hg7) (fun hHeld => ?_)
              clear hK K'
              try simp only [Act.put, List.getElem_toArray, List.getElem_cons_succ, List.getElem_cons_zero, List.setIfInBounds_toArray, List.set_cons_zero, List.set_cons_succ]
              refine wpAnyH_take (i := 21) (v := ?_) rfl (by kernel_rfl) (by kernel_rfl) (by kernel_rfl) (fun _ _ _ h => h) (Or.inl ⟨by rfl, ?_⟩) (by assumption) ?_
              rotate_left
              · intro W hSw
                obtain ⟨hp, he, hm⟩ := hSw
                obtain ⟨t1, t2, t3, t4⟩ := hp.get
                obtain ⟨t5, t6, t7⟩ := he.get
                have t8 := hm.get hf hs ht hfin
                clear hp he hm
                go_simp
                with_reducible rfl
              try simp only [Act.put, List.getElem_toArray, List.getElem_cons_succ, List.getElem_cons_zero, List.setIfInBounds_toArray, List.set_cons_zero, List.set_cons_succ]
              refine wpAnyH_ready (rs := [22]) (by kernel_rfl) (by simp) ?_
              refine AllReadyH.cons (o := _) rfl (fun K' hK => ?_) ?_
              · go_simp
                refine (CS.out _).mono ?_
                rintro e w8 ⟨rfl, hw8⟩
                rw [hw8]
                clear hw8
                go_wp2_with fail
                refine hK.out _ _ (hHeld) (fun hHeld => ?_)
                clear hK K'
                try simp only [Act.put, List.getElem_toArray, List.getElem_cons_succ, List.getElem_cons_zero, List.setIfInBounds_toArray, List.set_cons_zero, List.set_cons_succ]
                refine wpAnyH_take (i := 26) (v := ?_) rfl (by kernel_rfl) (by kernel_rfl) (by kernel_rfl) (fun _ _ _ h => h) (Or.inl ⟨by rfl, ?_⟩) (by assumption) ?_
                rotate_left
                · intro W hSw
                  obtain ⟨hp, he, hm⟩ := hSw
                  obtain ⟨t1, t2, t3, t4⟩ := hp.get
                  obtain ⟨t5, t6, t7⟩ := he.get
                  have t8 := hm.get hf hs ht hfin
                  clear hp he hm
                  go_simp
                  with_reducible rfl
                try simp only [Act.put, List.getElem_toArray, List.getElem_cons_succ, List.getElem_cons_zero, List.setIfInBounds_toArray, List.set_cons_zero, List.set_cons_succ]
                refine wpAnyH_take (i := 27) (v := ?_) rfl (by kernel_rfl) (by kernel_rfl) (by kernel_rfl) (fun _ _ _ h => h) (Or.inl ⟨by rfl, ?_⟩) (by assumption) ?_
                rotate_left
                · intro W hSw
                  obtain ⟨hp, he, hm⟩ := hSw
                  obtain ⟨t1, t2, t3, t4⟩ := hp.get
                  obtain ⟨t5, t6, t7⟩ := he.get
                  have t8 := hm.get hf hs ht hfin
                  clear hp he hm
                  go_simp
                  with_reducible rfl
                try simp only [Act.put, List.getElem_toArray, List.getElem_cons_succ, List.getElem_cons_zero, List.setIfInBounds_toArray, List.set_cons_zero, List.set_cons_succ]
                refine wpAnyH_done (by kernel_rfl) ?_ _
                go_wp2_with fail
                go_roundw
                case rel => exact ⟨k + 1, by omega, by simp, HNo.out, ⟨grown_trans G.out.1 (grown_trans G4.out (grown_trans (grown_drew (grown_refl _ _)) hg7)), G.out.2.kept (grown_trans G4.out (grown_trans (grown_drew (grown_refl _ _)) hg7))⟩⟩
                case measure => simp [intOf]; omega
              exact AllReadyH.nil
            exact AllReadyH.nil
        · have bT : ((tN : Int) == (s : Int)) = false := by simp; omega
          have HNo : Hid (∀ j, j < k + 1 → ¬ MatchC L E f s t j) := HNoN.out (fun h => hT (HM.out.1 h).2.1)
          clear hF hT HNoN HM
          refine wp_region_held_drew (S := SRul B be b fN tN oN ap r.P.length cp f s t E) (by kernel_rfl) (S0.out.kept (grown_drew (grown_refl _ _))) (fun hHeld => ?_)
          refine wpAnyH_take (i := 0) (v := ?_) rfl (by kernel_rfl) (by kernel_rfl) (by kernel_rfl) (fun _ _ _ h => h) (Or.inl ⟨by rfl, ?_⟩) (by assumption) ?_
          rotate_left
          · intro W hSw
            obtain ⟨hp, he, hm⟩ := hSw
            obtain ⟨t1, t2, t3, t4⟩ := hp.get
            obtain ⟨t5, t6, t7⟩ := he.get
            have t8 := hm.get hf hs ht hfin
            clear hp he hm
            go_simp
            with_reducible rfl
          try simp only [Act.put, List.getElem_toArray, List.getElem_cons_succ, List.getElem_cons_zero, List.setIfInBounds_toArray, List.set_cons_zero, List.set_cons_succ]
          refine wpAnyH_take (i := 1) (v := ?_) rfl (by kernel_rfl) (by kernel_rfl) (by kernel_rfl) (fun _ _ _ h => h) (Or.inl ⟨by rfl, ?_⟩) (by assumption) ?_
          rotate_left
          · intro W hSw
            obtain ⟨hp, he, hm⟩ := hSw
            obtain ⟨t1, t2, t3, t4⟩ := hp.get
            obtain ⟨t5, t6, t7⟩ := he.get
            have t8 := hm.get hf hs ht hfin
            clear hp he hm
            go_simp
            with_reducible rfl
          try simp only [Act.put, List.getElem_toArray, List.getElem_cons_succ, List.getElem_cons_zero, List.setIfInBounds_toArray, List.set_cons_zero, List.set_cons_succ]
          refine wpAnyH_take (i := 2) (v := ?_) rfl (by kernel_rfl) (by kernel_rfl) (by kernel_rfl) (fun _ _ _ h => h) (Or.inl ⟨by rfl, ?_⟩) (by assumption) ?_
          rotate_left
          · intro W hSw
            obtain ⟨hp, he, hm⟩ := hSw
            obtain ⟨t1, t2, t3, t4⟩ := hp.get
            obtain ⟨t5, t6, t7⟩ := he.get
            have t8 := hm.get hf hs ht hfin
            clear hp he hm
            go_simp
            with_reducible rfl
          try simp only [Act.put, List.getElem_toArray, List.getElem_cons_succ, List.getElem_cons_zero, List.setIfInBounds_toArray, List.set_cons_zero, List.set_cons_succ]
          refine wpAnyH_take (i := 3) (v := ?_) rfl (by kernel_rfl) (by kernel_rfl) (by kernel_rfl) (fun _ _ _ h => h) (Or.inl ⟨by rfl, ?_⟩) (by assumption) ?_
          rotate_left
          · intro W hSw
            obtain ⟨hp, he, hm⟩ := hSw
            obtain ⟨t1, t2, t3, t4⟩ := hp.get
            obtain ⟨t5, t6, t7⟩ := he.get
            have t8 := hm.get hf hs ht hfin
            clear hp he hm
            go_simp
            with_reducible rfl
          try simp only [Act.put, List.getElem_toArray, List.getElem_cons_succ, List.getElem_cons_zero, List.setIfInBounds_toArray, List.set_cons_zero, List.set_cons_succ]
          refine wpAnyH_take (i := 4) (v := ?_) rfl (by kernel_rfl) (by kernel_rfl) (by kernel_rfl) (fun _ _ _ h => h) (Or.inl ⟨by rfl, ?_⟩) (by assumption) ?_
          rotate_left
          · intro W hSw
            obtain ⟨hp, he, hm⟩ := hSw
            obtain ⟨t1, t2, t3, t4⟩ := hp.get
            obtain ⟨t5, t6, t7⟩ := he.get
            have t8 := hm.get hf hs ht hfin
            clear hp he hm
            go_simp
            with_reducible rfl
          try simp only [Act.put, List.getElem_toArray, List.getElem_cons_succ, List.getElem_cons_zero, List.setIfInBounds_toArray, List.set_cons_zero, List.set_cons_succ]
          refine wpAnyH_take (i := 5) (v := ?_) rfl (by kernel_rfl) (by kernel_rfl) (by kernel_rfl) (fun _ _ _ h => h) (Or.inl ⟨by rfl, ?_⟩) (by assumption) ?_
          rotate_left
          · intro W hSw
            obtain ⟨hp, he, hm⟩ := hSw
            obtain ⟨t1, t2, t3, t4⟩ := hp.get
            obtain ⟨t5, t6, t7⟩ := he.get
            have t8 := hm.get hf hs ht hfin
            clear hp he hm
            go_simp
            with_reducible rfl
          try simp only [Act.put, List.getElem_toArray, List.getElem_cons_succ, List.getElem_cons_zero, List.setIfInBounds_toArray, List.set_cons_zero, List.set_cons_succ]
          refine wpAnyH_take (i := 6) (v := ?_) rfl (by kernel_rfl) (by kernel_rfl) (by kernel_rfl) (fun _ _ _ h => h) (Or.inl ⟨by rfl, ?_⟩) (by assumption) ?_
          rotate_left
          · intro W hSw
            obtain ⟨hp, he, hm⟩ := hSw
            obtain ⟨t1, t2, t3, t4⟩ := hp.get
            obtain ⟨t5, t6, t7⟩ := he.get
            have t8 := hm.get hf hs ht hfin
            clear hp he hm
            go_simp
            with_reducible rfl
          try simp only [Act.put, List.getElem_toArray, List.getElem_cons_succ, List.getElem_cons_zero, List.setIfInBounds_toArray, List.set_cons_zero, List.set_cons_succ]
          refine wpAnyH_take (i := 7) (v := ?_) rfl (by kernel_rfl) (by kernel_rfl) (by kernel_rfl) (fun _ _ _ h => h) (Or.inl ⟨by rfl, ?_⟩) (by assumption) ?_
          rotate_left
          · intro W hSw
            obtain ⟨hp, he, hm⟩ := hSw
            obtain ⟨t1, t2, t3, t4⟩ := hp.get
            obtain ⟨t5, t6, t7⟩ := he.get
            have t8 := hm.get hf hs ht hfin
            clear hp he hm
            go_simp
            with_reducible rfl
          try simp only [Act.put, List.getElem_toArray, List.getElem_cons_succ, List.getElem_cons_zero, List.setIfInBounds_toArray, List.set_cons_zero, List.set_cons_succ]
          refine wpAnyH_take (i := 8) (v := ?_) rfl (by kernel_rfl) (by kernel_rfl) (by kernel_rfl) (fun _ _ _ h => h) (Or.inl ⟨by rfl, ?_⟩) (by assumption) ?_
          rotate_left
          · intro W hSw
            obtain ⟨hp, he, hm⟩ := hSw
            obtain ⟨t1, t2, t3, t4⟩ := hp.get
            obtain ⟨t5, t6, t7⟩ := he.get
            have t8 := hm.get hf hs ht hfin
            clear hp he hm
            go_simp
            with_reducible rfl
          try simp only [Act.put, List.getElem_toArray, List.getElem_cons_succ, List.getElem_cons_zero, List.setIfInBounds_toArray, List.set_cons_zero, List.set_cons_succ]
          refine wpAnyH_take (i := 9) (v := ?_) rfl (by kernel_rfl) (by kernel_rfl) (by kernel_rfl) (fun _ _ _ h => h) (Or.inl ⟨by rfl, ?_⟩) (by assumption) ?_
          rotate_left
          · intro W hSw
            obtain ⟨hp, he, hm⟩ := hSw
            obtain ⟨t1, t2, t3, t4⟩ := hp.get
            obtain ⟨t5, t6, t7⟩ := he.get
            have t8 := hm.get hf hs ht hfin
            clear hp he hm
            go_simp
            with_reducible rfl
          try simp only [Act.put, List.getElem_toArray, List.getElem_cons_succ, List.getElem_cons_zero, List.setIfInBounds_toArray, List.set_cons_zero, List.set_cons_succ]
          refine wpAnyH_take (i := 10) (v := ?_) rfl (by kernel_rfl) (by kernel_rfl) (by kernel_rfl) (fun _ _ _ h => h) (Or.inl ⟨by rfl, ?_⟩) (by assumption) ?_
          rotate_left
          · intro W hSw
            obtain ⟨hp, he, hm⟩ := hSw
            obtain ⟨t1, t2, t3, t4⟩ := hp.get
            obtain ⟨t5, t6, t7⟩ := he.get
            have t8 := hm.get hf hs ht hfin
            clear hp he hm
            go_simp
            with_reducible rfl
          try simp only [Act.put, List.getElem_toArray, List.getElem_cons_succ, List.getElem_cons_zero, List.setIfInBounds_toArray, List.set_cons_zero, List.set_cons_succ]
          refine wpAnyH_take (i := 11) (v := ?_) rfl (by kernel_rfl) (by kernel_rfl) (by kernel_rfl) (fun _ _ _ h => h) (Or.inl ⟨by rfl, ?_⟩) (by assumption) ?_
          rotate_left
          · intro W hSw
            obtain ⟨hp, he, hm⟩ := hSw
            obtain ⟨t1, t2, t3, t4⟩ := hp.get
            obtain ⟨t5, t6, t7⟩ := he.get
            have t8 := hm.get hf hs ht hfin
            clear hp he hm
            go_simp
            with_reducible rfl
          try simp only [Act.put, List.getElem_toArray, List.getElem_cons_succ, List.getElem_cons_zero, List.setIfInBounds_toArray, List.set_cons_zero, List.set_cons_succ]
          refine wpAnyH_take (i := 12) (v := ?_) rfl (by kernel_rfl) (by kernel_rfl) (by kernel_rfl) (fun _ _ _ h => h) (Or.inl ⟨by rfl, ?_⟩) (by assumption) ?_
          rotate_left
          · intro W hSw
            obtain ⟨hp, he, hm⟩ := hSw
            obtain ⟨t1, t2, t3, t4⟩ := hp.get
            obtain ⟨t5, t6, t7⟩ := he.get
            have t8 := hm.get hf hs ht hfin
            clear hp he hm
            go_simp
            with_reducible rfl
          try simp only [Act.put, List.getElem_toArray, List.getElem_cons_succ, List.getElem_cons_zero, List.setIfInBounds_toArray, List.set_cons_zero, List.set_cons_succ]
          refine wpAnyH_take (i := 13) (v := undef) rfl (by kernel_rfl) (by kernel_rfl) (by kernel_rfl) (fun _ _ _ h => h) (Or.inr ⟨by rfl, rfl⟩) (by assumption) ?_
          try simp only [Act.put, List.getElem_toArray, List.getElem_cons_succ, List.getElem_cons_zero, List.setIfInBounds_toArray, List.set_cons_zero, List.set_cons_succ]
          refine wpAnyH_take (i := 14) (v := undef) rfl (by kernel_rfl) (by kernel_rfl) (by kernel_rfl) (fun _ _ _ h => h) (Or.inr ⟨by rfl, rfl⟩) (by assumption) ?_
          try simp only [Act.put, List.getElem_toArray, List.getElem_cons_succ, List.getElem_cons_zero, List.setIfInBounds_toArray, List.set_cons_zero, List.set_cons_succ]
          refine wpAnyH_take (i := 15) (v := undef) rfl (by kernel_rfl) (by kernel_rfl) (by kernel_rfl) (fun _ _ _ h => h) (Or.inr ⟨by rfl, rfl⟩) (by assumption) ?_
          try simp only [Act.put, List.getElem_toArray, List.getElem_cons_succ, List.getElem_cons_zero, List.setIfInBounds_toArray, List.set_cons_zero, List.set_cons_succ]
          refine wpAnyH_take (i := 16) (v := undef) rfl (by kernel_rfl) (by kernel_rfl) (by kernel_rfl) (fun _ _ _ h => h) (Or.inr ⟨by rfl, rfl⟩) (by assumption) ?_
          try simp only [Act.put, List.getElem_toArray, List.getElem_cons_succ, List.getElem_cons_zero, List.setIfInBounds_toArray, List.set_cons_zero, List.set_cons_succ]
          refine wpAnyH_take (i := 17) (v := undef) rfl (by kernel_rfl) (by kernel_rfl) (by kernel_rfl) (fun _ _ _ h => h) (Or.inr ⟨by rfl, rfl⟩) (by assumption) ?_
          try simp only [Act.put, List.getElem_toArray, List.getElem_cons_succ, List.getElem_cons_zero, List.setIfInBounds_toArray, List.set_cons_zero, List.set_cons_succ]
          refine wpAnyH_take (i := 18) (v := undef) rfl (by kernel_rfl) (by kernel_rfl) (by kernel_rfl) (fun _ _ _ h => h) (Or.inr ⟨by rfl, rfl⟩) (by assumption) ?_
          try simp only [Act.put, List.getElem_toArray, List.getElem_cons_succ, List.getElem_cons_zero, List.setIfInBounds_toArray, List.set_cons_zero, List.set_cons_succ]
          refine wpAnyH_take (i := 19) (v := undef) rfl (by kernel_rfl) (by kernel_rfl) (by kernel_rfl) (fun _ _ _ h => h) (Or.inr ⟨by rfl, rfl⟩) (by assumption) ?_
          try simp only [Act.put, List.getElem_toArray, List.getElem_cons_succ, List.getElem_cons_zero, List.setIfInBounds_toArray, List.set_cons_zero, List.set_cons_succ]
          refine wpAnyH_take (i := 20) (v := undef) rfl (by kernel_rfl) (by kernel_rfl) (by kernel_rfl) (fun _ _ _ h => h) (Or.inr ⟨by rfl, rfl⟩) (by assumption) ?_
          try simp only [Act.put, List.getElem_toArray, List.getElem_cons_succ, List.getElem_cons_zero, List.setIfInBounds_toArray, List.set_cons_zero, List.set_cons_succ]
          refine wpAnyH_take (i := 21) (v := undef) rfl (by kernel_rfl) (by kernel_rfl) (by kernel_rfl) (fun _ _ _ h => h) (Or.inr ⟨by rfl, rfl⟩) (by assumption) ?_
          try simp only [Act.put, List.getElem_toArray, List.getElem_cons_succ, List.getElem_cons_zero, List.setIfInBounds_toArray, List.set_cons_zero, List.set_cons_succ]
          refine wpAnyH_take (i := 22) (v := undef) rfl (by kernel_rfl) (by kernel_rfl) (by kernel_rfl) (fun _ _ _ h => h) (Or.inr ⟨by rfl, rfl⟩) (by assumption) ?_
          try simp only [Act.put, List.getElem_toArray, List.getElem_cons_succ, List.getElem_cons_zero, List.setIfInBounds_toArray, List.set_cons_zero, List.set_cons_succ]
          refine wpAnyH_take (i := 23) (v := undef) rfl (by kernel_rfl) (by kernel_rfl) (by kernel_rfl) (fun _ _ _ h => h) (Or.inr ⟨by rfl, rfl⟩) (by assumption) ?_
          try simp only [Act.put, List.getElem_toArray, List.getElem_cons_succ, List.getElem_cons_zero, List.setIfInBounds_toArray, List.set_cons_zero, List.set_cons_succ]
          refine wpAnyH_take (i := 24) (v := undef) rfl (by kernel_rfl) (by kernel_rfl) (by kernel_rfl) (fun _ _ _ h => h) (Or.inr ⟨by rfl, rfl⟩) (by assumption) ?_
          try simp only [Act.put, List.getElem_toArray, List.getElem_cons_succ, List.getElem_cons_zero, List.setIfInBounds_toArray, List.set_cons_zero, List.set_cons_succ]
          refine wpAnyH_take (i := 25) (v := undef) rfl (by kernel_rfl) (by kernel_rfl) (by kernel_rfl) (fun _ _ _ h => h) (Or.inr ⟨by rfl, rfl⟩) (by assumption) ?_
          try simp only [Act.put, List.getElem_toArray, List.getElem_cons_succ, List.getElem_cons_zero, List.setIfInBounds_toArray, List.set_cons_zero, List.set_cons_succ]
          refine wpAnyH_take (i := 26) (v := undef) rfl (by kernel_rfl) (by kernel_rfl) (by kernel_rfl) (fun _ _ _ h => h) (Or.inr ⟨by rfl, rfl⟩) (by assumption) ?_
          try simp only [Act.put, List.getElem_toArray, List.getElem_cons_succ, List.getElem_cons_zero, List.setIfInBounds_toArray, List.set_cons_zero, List.set_cons_succ]
          refine wpAnyH_take (i := 27) (v := ?_) rfl (by kernel_rfl) (by kernel_rfl) (by kernel_rfl) (fun _ _ _ h => h) (Or.inl ⟨by rfl, ?_⟩) (by assumption) ?_
          rotate_left
          · intro W hSw
            obtain ⟨hp, he, hm⟩ := hSw
            obtain ⟨t1, t2, t3, t4⟩ := hp.get
            obtain ⟨t5, t6, t7⟩ := he.get
            have t8 := hm.get hf hs ht hfin
            clear hp he hm
            go_simp
            with_reducible rfl
          try simp only [Act.put, List.getElem_toArray, List.getElem_cons_succ, List.getElem_cons_zero, List.setIfInBounds_toArray, List.set_cons_zero, List.set_cons_succ]
          refine wpAnyH_done (by kernel_rfl) ?_ _
          go_wp2_with fail
          go_roundw
          case rel => exact ⟨k + 1, by omega, by simp, HNo.out, ⟨grown_trans G.out.1 (grown_trans G4.out (grown_drew (grown_refl _ _))), G.out.2.kept (grown_trans G4.out (grown_drew (grown_refl _ _)))⟩⟩
          case measure => simp [intOf]; omega
      · have bF : ((fN : Int) == (f : Int)) = false := by simp; omega
        have HNo : Hid (∀ j, j < k + 1 → ¬ MatchC L E f s t j) := HNoN.out (fun h => hF (HM.out.1 h).1)
        clear hF HNoN HM
        refine wp_region_held_drew (S := SRul B be b fN tN oN ap r.P.length cp f s t E) (by kernel_rfl) (S0.out.kept (grown_drew (grown_refl _ _))) (fun hHeld => ?_)
        refine wpAnyH_take (i := 0) (v := ?_) rfl (by kernel_rfl) (by kernel_rfl) (by kernel_rfl) (fun _ _ _ h => h) (Or.inl ⟨by rfl, ?_⟩) (by assumption) ?_
        rotate_left
        · intro W hSw
          obtain ⟨hp, he, hm⟩ := hSw
          obtain ⟨t1, t2, t3, t4⟩ := hp.get
          obtain ⟨t5, t6, t7⟩ := he.get
          have t8 := hm.get hf hs ht hfin
          clear hp he hm
          go_simp
          with_reducible rfl
        try simp only [Act.put, List.getElem_toArray, List.getElem_cons_succ, List.getElem_cons_zero, List.setIfInBounds_toArray, List.set_cons_zero, List.set_cons_succ]
        refine wpAnyH_take (i := 1) (v := ?_) rfl (by kernel_rfl) (by kernel_rfl) (by kernel_rfl) (fun _ _ _ h => h) (Or.inl ⟨by rfl, ?_⟩) (by assumption) ?_
        rotate_left
        · intro W hSw
          obtain ⟨hp, he, hm⟩ := hSw
          obtain ⟨t1, t2, t3, t4⟩ := hp.get
          obtain ⟨t5, t6, t7⟩ := he.get
          have t8 := hm.get hf hs ht hfin
          clear hp he hm
          go_simp
          with_reducible rfl
        try simp only [Act.put, List.getElem_toArray, List.getElem_cons_succ, List.getElem_cons_zero, List.setIfInBounds_toArray, List.set_cons_zero, List.set_cons_succ]
        refine wpAnyH_take (i := 2) (v := ?_) rfl (by kernel_rfl) (by kernel_rfl) (by kernel_rfl) (fun _ _ _ h => h) (Or.inl ⟨by rfl, ?_⟩) (by assumption) ?_
        rotate_left
        · intro W hSw
          obtain ⟨hp, he, hm⟩ := hSw
          obtain ⟨t1, t2, t3, t4⟩ := hp.get
          obtain ⟨t5, t6, t7⟩ := he.get
          have t8 := hm.get hf hs ht hfin
          clear hp he hm
          go_simp
          with_reducible rfl
        try simp only [Act.put, List.getElem_toArray, List.getElem_cons_succ, List.getElem_cons_zero, List.setIfInBounds_toArray, List.set_cons_zero, List.set_cons_succ]
        refine wpAnyH_take (i := 3) (v := ?_) rfl (by kernel_rfl) (by kernel_rfl) (by kernel_rfl) (fun _ _ _ h => h) (Or.inl ⟨by rfl, ?_⟩) (by assumption) ?_
        rotate_left
        · intro W hSw
          obtain ⟨hp, he, hm⟩ := hSw
          obtain ⟨t1, t2, t3, t4⟩ := hp.get
          obtain ⟨t5, t6, t7⟩ := he.get
          have t8 := hm.get hf hs ht hfin
          clear hp he hm
          go_simp
          with_reducible rfl
        try simp only [Act.put, List.getElem_toArray, List.getElem_cons_succ, List.getElem_cons_zero, List.setIfInBounds_toArray, List.set_cons_zero, List.set_cons_succ]
        refine wpAnyH_take (i := 4) (v := ?_) rfl (by kernel_rfl) (by kernel_rfl) (by kernel_rfl) (fun _ _ _ h => h) (Or.inl ⟨by rfl, ?_⟩) (by assumption) ?_
        rotate_left
        · intro W hSw
          obtain ⟨hp, he, hm⟩ := hSw
          obtain ⟨t1, t2, t3, t4⟩ := hp.get
          obtain ⟨t5, t6, t7⟩ := he.get
          have t8 := hm.get hf hs ht hfin
          clear hp he hm
          go_simp
          with_reducible rfl
        try simp only [Act.put, List.getElem_toArray, List.getElem_cons_succ, List.getElem_cons_zero, List.setIfInBounds_toArray, List.set_cons_zero, List.set_cons_succ]
        refine wpAnyH_take (i := 5) (v := ?_) rfl (by kernel_rfl) (by kernel_rfl) (by kernel_rfl) (fun _ _ _ h => h) (Or.inl ⟨by rfl, ?_⟩) (by assumption) ?_
        rotate_left
        · intro W hSw
          obtain ⟨hp, he, hm⟩ := hSw
          obtain ⟨t1, t2, t3, t4⟩ := hp.get
          obtain ⟨t5, t6, t7⟩ := he.get
          have t8 := hm.get hf hs ht hfin
          clear hp he hm
          go_simp
          with_reducible rfl
        try simp only [Act.put, List.getElem_toArray, List.getElem_cons_succ, List.getElem_cons_zero, List.setIfInBounds_toArray, List.set_cons_zero, List.set_cons_succ]
        refine wpAnyH_take (i := 6) (v := undef) rfl (by kernel_rfl) (by kernel_rfl) (by kernel_rfl) (fun _ _ _ h => h) (Or.inr ⟨by rfl, rfl⟩) (by assumption) ?_
        try simp only [Act.put, List.getElem_toArray, List.getElem_cons_succ, List.getElem_cons_zero, List.setIfInBounds_toArray, List.set_cons_zero, List.set_cons_succ]
        refine wpAnyH_take (i := 7) (v := undef) rfl (by kernel_rfl) (by kernel_rfl) (by kernel_rfl) (fun _ _ _ h => h) (Or.inr ⟨by rfl, rfl⟩) (by assumption) ?_
        try simp only [Act.put, List.getElem_toArray, List.getElem_cons_succ, List.getElem_cons_zero, List.setIfInBounds_toArray, List.set_cons_zero, List.set_cons_succ]
        refine wpAnyH_take (i := 8) (v := undef) rfl (by kernel_rfl) (by kernel_rfl) (by kernel_rfl) (fun _ _ _ h => h) (Or.inr ⟨by rfl, rfl⟩) (by assumption) ?_
        try simp only [Act.put, List.getElem_toArray, List.getElem_cons_succ, List.getElem_cons_zero, List.setIfInBounds_toArray, List.set_cons_zero, List.set_cons_succ]
        refine wpAnyH_take (i := 9) (v := undef) rfl (by kernel_rfl) (by kernel_rfl) (by kernel_rfl) (fun _ _ _ h => h) (Or.inr ⟨by rfl, rfl⟩) (by assumption) ?_
        try simp only [Act.put, List.getElem_toArray, List.getElem_cons_succ, List.getElem_cons_zero, List.setIfInBounds_toArray, List.set_cons_zero, List.set_cons_succ]
        refine wpAnyH_take (i := 10) (v := undef) rfl (by kernel_rfl) (by kernel_rfl) (by kernel_rfl) (fun _ _ _ h => h) (Or.inr ⟨by rfl, rfl⟩) (by assumption) ?_
        try simp only [Act.put, List.getElem_toArray, List.getElem_cons_succ, List.getElem_cons_zero, List.setIfInBounds_toArray, List.set_cons_zero, List.set_cons_succ]
        refine wpAnyH_take (i := 11) (v := ?_) rfl (by kernel_rfl) (by kernel_rfl) (by kernel_rfl) (fun _ _ _ h => h) (Or.inl ⟨by rfl, ?_⟩) (by assumption) ?_
        rotate_left
        · intro W hSw
          obtain ⟨hp, he, hm⟩ := hSw
          obtain ⟨t1, t2, t3, t4⟩ := hp.get
          obtain ⟨t5, t6, t7⟩ := he.get
          have t8 := hm.get hf hs ht hfin
          clear hp he hm
          go_simp
          with_reducible rfl
        try simp only [Act.put, List.getElem_toArray, List.getElem_cons_succ, List.getElem_cons_zero, List.setIfInBounds_toArray, List.set_cons_zero, List.set_cons_succ]
        refine wpAnyH_take (i := 12) (v := ?_) rfl (by kernel_rfl) (by kernel_rfl) (by kernel_rfl) (fun _ _ _ h => h) (Or.inl ⟨by rfl, ?_⟩) (by assumption) ?_
        rotate_left
        · intro W hSw
          obtain ⟨hp, he, hm⟩ := hSw
          obtain ⟨t1, t2, t3, t4⟩ := hp.get
          obtain ⟨t5, t6, t7⟩ := he.get
          have t8 := hm.get hf hs ht hfin
          clear hp he hm
          go_simp
          with_reducible rfl
        try simp only [Act.put, List.getElem_toArray, List.getElem_cons_succ, List.getElem_cons_zero, List.setIfInBounds_toArray, List.set_cons_zero, List.set_cons_succ]
        refine wpAnyH_take (i := 13) (v := undef) rfl (by kernel_rfl) (by kernel_rfl) (by kernel_rfl) (fun _ _ _ h => h) (Or.inr ⟨by rfl, rfl⟩) (by assumption) ?_
        try simp only [Act.put, List.getElem_toArray, List.getElem_cons_succ, List.getElem_cons_zero, List.setIfInBounds_toArray, List.set_cons_zero, List.set_cons_succ]
        refine wpAnyH_take (i := 14) (v := undef) rfl (by kernel_rfl) (by kernel_rfl) (by kernel_rfl) (fun _ _ _ h => h) (Or.inr ⟨by rfl, rfl⟩) (by assumption) ?_
        try simp only [Act.put, List.getElem_toArray, List.getElem_cons_succ, List.getElem_cons_zero, List.setIfInBounds_toArray, List.set_cons_zero, List.set_cons_succ]
        refine wpAnyH_take (i := 15) (v := undef) rfl (by kernel_rfl) (by kernel_rfl) (by kernel_rfl) (fun _ _ _ h => h) (Or.inr ⟨by rfl, rfl⟩) (by assumption) ?_
        try simp only [Act.put, List.getElem_toArray, List.getElem_cons_succ, List.getElem_cons_zero, List.setIfInBounds_toArray, List.set_cons_zero, List.set_cons_succ]
        refine wpAnyH_take (i := 16) (v := undef) rfl (by kernel_rfl) (by kernel_rfl) (by kernel_rfl) (fun _ _ _ h => h) (Or.inr ⟨by rfl, rfl⟩) (by assumption) ?_
        try simp only [Act.put, List.getElem_toArray, List.getElem_cons_succ, List.getElem_cons_zero, List.setIfInBounds_toArray, List.set_cons_zero, List.set_cons_succ]
        refine wpAnyH_take (i := 17) (v := undef) rfl (by kernel_rfl) (by kernel_rfl) (by kernel_rfl) (fun _ _ _ h => h) (Or.inr ⟨by rfl, rfl⟩) (by assumption) ?_
        try simp only [Act.put, List.getElem_toArray, List.getElem_cons_succ, List.getElem_cons_zero, List.setIfInBounds_toArray, List.set_cons_zero, List.set_cons_succ]
        refine wpAnyH_take (i := 18) (v := undef) rfl (by kernel_rfl) (by kernel_rfl) (by kernel_rfl) (fun _ _ _ h => h) (Or.inr ⟨by rfl, rfl⟩) (by assumption) ?_
        try simp only [Act.put, List.getElem_toArray, List.getElem_cons_succ, List.getElem_cons_zero, List.setIfInBounds_toArray, List.set_cons_zero, List.set_cons_succ]
        refine wpAnyH_take (i := 19) (v := undef) rfl (by kernel_rfl) (by kernel_rfl) (by kernel_rfl) (fun _ _ _ h => h) (Or.inr ⟨by rfl, rfl⟩) (by assumption) ?_
        try simp only [Act.put, List.getElem_toArray, List.getElem_cons_succ, List.getElem_cons_zero, List.setIfInBounds_toArray, List.set_cons_zero, List.set_cons_succ]
        refine wpAnyH_take (i := 20) (v := undef) rfl (by kernel_rfl) (by kernel_rfl) (by kernel_rfl) (fun _ _ _ h => h) (Or.inr ⟨by rfl, rfl⟩) (by assumption) ?_
        try simp only [Act.put, List.getElem_toArray, List.getElem_cons_succ, List.getElem_cons_zero, List.setIfInBounds_toArray, List.set_cons_zero, List.set_cons_succ]
        refine wpAnyH_take (i := 21) (v := undef) rfl (by kernel_rfl) (by kernel_rfl) (by kernel_rfl) (fun _ _ _ h => h) (Or.inr ⟨by rfl, rfl⟩) (by assumption) ?_
        try simp only [Act.put, List.getElem_toArray, List.getElem_cons_succ, List.getElem_cons_zero, List.setIfInBounds_toArray, List.set_cons_zero, List.set_cons_succ]
        refine wpAnyH_take (i := 22) (v := undef) rfl (by kernel_rfl) (by kernel_rfl) (by kernel_rfl) (fun _ _ _ h => h) (Or.inr ⟨by rfl, rfl⟩) (by assumption) ?_
        try simp only [Act.put, List.getElem_toArray, List.getElem_cons_succ, List.getElem_cons_zero, List.setIfInBounds_toArray, List.set_cons_zero, List.set_cons_succ]
        refine wpAnyH_take (i := 23) (v := undef) rfl (by kernel_rfl) (by kernel_rfl) (by kernel_rfl) (fun _ _ _ h => h) (Or.inr ⟨by rfl, rfl⟩) (by assumption) ?_
        try simp only [Act.put, List.getElem_toArray, List.getElem_cons_succ, List.getElem_cons_zero, List.setIfInBounds_toArray, List.set_cons_zero, List.set_cons_succ]
        refine wpAnyH_take (i := 24) (v := undef) rfl (by kernel_rfl) (by kernel_rfl) (by kernel_rfl) (fun _ _ _ h => h) (Or.inr ⟨by rfl, rfl⟩) (by assumption) ?_
        try simp only [Act.put, List.getElem_toArray, List.getElem_cons_succ, List.getElem_cons_zero, List.setIfInBounds_toArray, List.set_cons_zero, List.set_cons_succ]
        refine wpAnyH_take (i := 25) (v := undef) rfl (by kernel_rfl) (by kernel_rfl) (by kernel_rfl) (fun _ _ _ h => h) (Or.inr ⟨by rfl, rfl⟩) (by assumption) ?_
        try simp only [Act.put, List.getElem_toArray, List.getElem_cons_succ, List.getElem_cons_zero, List.setIfInBounds_toArray, List.set_cons_zero, List.set_cons_succ]
        refine wpAnyH_take (i := 26) (v := undef) rfl (by kernel_rfl) (by kernel_rfl) (by kernel_rfl) (fun _ _ _ h => h) (Or.inr ⟨by rfl, rfl⟩) (by assumption) ?_
        try simp only [Act.put, List.getElem_toArray, List.getElem_cons_succ, List.getElem_cons_zero, List.setIfInBounds_toArray, List.set_cons_zero, List.set_cons_succ]
        refine wpAnyH_take (i := 27) (v := ?_) rfl (by kernel_rfl) (by kernel_rfl) (by kernel_rfl) (fun _ _ _ h => h) (Or.inl ⟨by rfl, ?_⟩) (by assumption) ?_
        rotate_left
        · intro W hSw
          obtain ⟨hp, he, hm⟩ := hSw
          obtain ⟨t1, t2, t3, t4⟩ := hp.get
          obtain ⟨t5, t6, t7⟩ := he.get
          have t8 := hm.get hf hs ht hfin
          clear hp he hm
          go_simp
          with_reducible rfl
        try simp only [Act.put, List.getElem_toArray, List.getElem_cons_succ, List.getElem_cons_zero, List.setIfInBounds_toArray, List.set_cons_zero, List.set_cons_succ]
        refine wpAnyH_done (by kernel_rfl) ?_ _
        go_wp2_with fail
        go_roundw
        case rel => exact ⟨k + 1, by omega, by simp, HNo.out, ⟨grown_trans G.out.1 (grown_trans G4.out (grown_drew (grown_refl _ _))), G.out.2.kept (grown_trans G4.out (grown_drew (grown_refl _ _)))⟩⟩
        case measure => simp [intOf]; omega
    · exfalso
      obtain ⟨i, hi⟩ := HX.out
      exact hno i (by have := hi.1; omega) hi

end Go.Proofs.Ythnbiiipfcogeaa
