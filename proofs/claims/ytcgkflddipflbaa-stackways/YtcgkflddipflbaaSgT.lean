/- Edges towards a goal: the program's behind, end, towards. (Written by wip/tools/sgtow.py.) -/
/- An edge by which a state was come to at a cost: the program's lastOf. -/
import Derived.Test.YtcgkflddipflbaaSgG
import Derived.Test.YtcgkflddipflbaaSgM
namespace Go.Proofs.Ytcgkflddipflbaa
open Go.RowKit Go.Maps
set_option linter.unusedVariables false
set_option linter.unusedSimpArgs false

/-- A config in a box. -/
def CfgB (W : World) (B c : Nat) (v : Value) : Prop := W.heap[B]? = some (.cells #[.int .i64 (c : Int), v] 25 (0, 0))
theorem CfgB.lt {W : World} {B c : Nat} {v : Value} (h : CfgB W B c v) : B < W.heap.size := (Array.getElem?_eq_some_iff.1 h).1
theorem CfgB.kept {W W' : World} {B c : Nat} {v : Value} {row : Option Nat} (h : CfgB W B c v) (hg : W.grownBy W' row) (hne : some B ≠ row) : CfgB W' B c v := (hg.block B h.lt hne).trans h
theorem CfgB.get {W : World} {B c : Nat} {v : Value} (h : CfgB W B c v) : W.cell? ⟨B, 0, none⟩ = some (.int .i64 (c : Int)) ∧ W.cell? ⟨B, 1, none⟩ = some v :=
  ⟨by rw [cell_of_row _ _ 0 _ _ (0, 0) h]; rfl, by rw [cell_of_row _ _ 1 _ _ (0, 0) h]; rfl⟩
theorem cfgB_new (W : World) (c : Nat) (v : Value) : CfgB (W.alloc (.cells #[.int .i64 (c : Int), v] 25)) W.heap.size c v := heap_alloc_new W _

set_option maxHeartbeats 1600000 in
set_option maxRecDepth 100000 in
theorem behind_any (c k : Nat) (v : Value) (w : World) (hk : k ≤ 10) : Calls Try.prog 28 #[.agg #[.int .i64 (c : Int), v], .int .i64 (k : Int)] w (Says (.int .i64 (behC c k : Int)) w) := by
  obtain ⟨q0, q1⟩ := (cfgB_new w c v).get
  have G : Hid (w.grownBy (w.alloc (.cells #[.int .i64 (c : Int), v] 25)) none) := grown_alloc _ _
  by_cases h : k = 0
  · subst h
    have e : behC c 0 = c := rfl
    rw [e]
    go_enter Try.func28, Try.ntmps28
    go_wp2_with fail
    go_ret
    exact ⟨rfl, G.out⟩
  · have e : behC c k = k + 2 := by unfold behC; rw [if_neg h]
    have f1 : ((k : Int) == 0) = false := by simp; omega
    have f2 : IntKind.i64.wrap (3 + (k : Int)) = 3 + (k : Int) := by rw [IntKind.wrap_i64]; omega
    have f3 : IntKind.i64.wrap (3 + (k : Int) - 1) = ((k + 2 : Nat) : Int) := by rw [IntKind.wrap_i64]; omega
    rw [e]
    go_enter Try.func28, Try.ntmps28
    go_wp2_with fail
    go_ret
    exact ⟨rfl, G.out⟩

set_option maxHeartbeats 1600000 in
set_option maxRecDepth 100000 in
theorem end_any (c n k : Nat) (a : Option Addr) (w : World) (hn : n ≤ 10) : Calls Try.prog 18 #[.agg #[.int .i64 (c : Int), .slice a n k]] w (Says (.int .i64 (behC c n : Int)) w) := by
  obtain ⟨q0, q1⟩ := (cfgB_new w c (.slice a n k)).get
  have HC : Hid (∀ W, Calls Try.prog 28 #[.agg #[.int .i64 (c : Int), .slice a n k], .int .i64 (n : Int)] W (Says (.int .i64 (behC c n : Int)) W)) := fun W => behind_any c n _ W hn
  have G : Hid (w.grownBy (w.alloc (.cells #[.int .i64 (c : Int), .slice a n k] 25)) none) := grown_alloc _ _
  go_enter Try.func18, Try.ntmps18
  go_wp2_with fail
  refine (HC.out _).mono ?_
  rintro e w2 ⟨rfl, hg2⟩
  go_wp2_with fail
  go_ret
  exact ⟨rfl, grown_trans G.out hg2⟩

/-- While the goal's edges are laid. -/
structure TowSt (L : List Psh) (c : Nat) (zs : List Int) (E : Edg) (k : Nat) : Prop where
  two : ∀ f s t, E f s t = 0 ∨ E f s t = 2002
  snd : ∀ f s t, E f s t < 2002 → LeastD L c zs f s t
  new : ∀ j, k ≤ j → j ≤ 3 → ∀ s t, E (behC c j) s t = 2002
  goal : ∀ j, j < k → E (behC c j) (zs.getD j 0).toNat (behC c (j + 1)) = 0
  zro : ZeroC c zs E
theorem TowSt.put {L : List Psh} {c : Nat} {zs : List Int} {E : Edg} {k : Nat} (h : TowSt L c zs E k) (hk : k < zs.length) (hz : zs.length ≤ 3) (hc : c < 3) : TowSt L c zs (updE E (behC c k) (zs.getD k 0).toNat (behC c (k + 1)) 0) (k + 1) := by
  have hne : ∀ i j, i < j → j ≤ 3 → behC c i ≠ behC c j := fun i j hij hj => by
    unfold behC
    rw [if_neg (show ¬ j = 0 by omega)]
    split <;> omega
  refine ⟨fun f s t => ?_, fun f s t hf => ?_, fun j h1 h2 s t => ?_, fun j hj => ?_, fun f s t hz => ?_⟩
  · unfold updE; split
    · exact .inl rfl
    · exact h.two f s t
  · unfold updE at hf
    split at hf
    · next e => obtain ⟨rfl, rfl, rfl⟩ := e; exact least_goal L c zs k hk
    · exact h.snd f s t hf
  · unfold updE
    rw [if_neg (fun e => hne k j (by omega) h2 e.1.symm)]
    exact h.new j (by omega) h2 s t
  · by_cases e : j = k
    · subst e; exact updE_same _ _ _ _ _
    · unfold updE
      rw [if_neg (fun e2 => hne j k (by omega) (by omega) e2.1)]
      exact h.goal j (by omega)
  · unfold updE at hz
    split at hz
    · next e => obtain ⟨rfl, rfl, rfl⟩ := e; exact ⟨k, hk, rfl, rfl, rfl⟩
    · exact h.zro f s t hz
theorem TowSt.made {L : List Psh} {c : Nat} {zs : List Int} {E : Edg} {k : Nat} (h : TowSt L c zs E k) : MadeC L E := fun f s t h0 h1 => by rcases h.two f s t with e | e <;> omega
/-- What towards leaves behind. -/
def TowP (L : List Psh) (c : Nat) (zs : List Int) (E : Edg) : Prop := MadeC L E ∧ ClosedC L E ∧ (∀ f s t, E f s t < 2002 → LeastD L c zs f s t) ∧ (∀ j, j < zs.length → E (behC c j) (zs.getD j 0).toNat (behC c (j + 1)) = 0) ∧ ZeroC c zs E
def TowPost (L : List Psh) (c : Nat) (zs : List Int) (w : World) (e : Ending) (w' : World) : Prop := ∃ b E, e = .returned (.map (some b)) ∧ EdgesAt w' b E ∧ TowP L c zs E ∧ w.heap.size ≤ b ∧ w.grownBy w' none

set_option maxHeartbeats 6400000 in
set_option maxRecDepth 100000 in
theorem towards_any (L : List Psh) (a : Option Addr) (d cN : Nat) (ag : Option Addr) (kg : Nat) (zs : List Int) (w : World) (hP : PushAt w a L) (hG : GoodSk L) (hz : Ints w ag zs) (hzl : zs.length ≤ 3) (hzs : OnesSk zs) (hc : cN < 3) :
    Calls Try.prog 16 #[.slice a L.length d, .agg #[.int .i64 (cN : Int), .slice ag zs.length kg]] w (TowPost L cN zs w) := by
  have HP : Hid (PushAt w a L) := hP
  have HG : Hid (GoodSk L) := hG
  have HZ : Hid (Ints w ag zs) := hz
  have HS : Hid (OnesSk zs) := hzs
  obtain ⟨W1, hW1⟩ : ∃ W1, W1 = (w.alloc (.cells #[.int .i64 (cN : Int), .slice ag zs.length kg] 25)).alloc (.map #[] 0) := ⟨_, rfl⟩
  have HW1 : Hid (W1 = _) := hW1
  obtain ⟨bg, hbg⟩ : ∃ bg, w.heap.size = bg := ⟨_, rfl⟩
  have X1 : Hid (CfgB W1 bg cN (.slice ag zs.length kg) ∧ EdgesAt W1 (w.heap.size + 1) (fun _ _ _ => 2002) ∧ w.grownBy W1 none) := by
    have h1 := (cfgB_new w cN (.slice ag zs.length kg)).kept (grown_alloc _ (.map #[] 0)) (by simp)
    have h2 := edges_made (w.alloc (.cells #[.int .i64 (cN : Int), .slice ag zs.length kg] 25))
    rw [show (w.alloc (.cells #[.int .i64 (cN : Int), .slice ag zs.length kg] 25)).heap.size = w.heap.size + 1 by simp] at h2
    rw [hW1, ← hbg]
    exact ⟨h1, h2, grown_trans (grown_alloc _ _) (grown_alloc _ _)⟩
  have X2 : Hid (TowSt L cN zs (fun _ _ _ => 2002) 0) := ⟨fun _ _ _ => .inr rfl, fun f s t h => by omega, fun _ _ _ _ _ => rfl, (fun j hj => by omega), (fun f s t h => by omega)⟩
  obtain ⟨q0, q1⟩ := X1.out.1.get
  rw [hW1, ← hbg] at q0 q1
  obtain ⟨b, hb⟩ : ∃ b, bg + 1 = b := ⟨_, rfl⟩
  have HB : Hid (w.heap.size ≤ b ∧ bg ≠ b ∧ w.heap.size ≤ bg) := ⟨by omega, by omega, by omega⟩
  rw [hbg, hb] at X1
  clear hP hG hz hzs hW1
  rw [hbg] at q0 q1
  have hmm := @run_makeMap Try.prog
  go_enter Try.func16, Try.ntmps16
  go_wp2_with fail
  rw [← HW1.out]
  clear HW1 q0 q1 hbg hb hmm
  go_loopw [12] (fun u wr => ∃ (k : Nat) (E : Edg), k ≤ zs.length ∧ u = .int .i64 k ∧ TowSt L cN zs E k ∧ EdgesAt wr b E ∧ CfgB wr bg cN (.slice ag zs.length kg) ∧ w.grownBy wr none) (fun u _ => zs.length - (intOf u).toNat)
  case atStart => exact ⟨0, _, by omega, rfl, X2.out, X1.out.2.1, X1.out.1, X1.out.2.2⟩
  case round =>
    clear X1 X2
    obtain ⟨k, E, hk, rfl, hT, hE, hB, hg⟩ := hrel
    by_cases hlt : k < zs.length
    · have hki : (k : Int) < (zs.length : Int) := by omega
      obtain ⟨bz, oz, rfl, hcz⟩ := HZ.out.at hlt
      have hzc := hg.cell (hcz k hlt) (by simp)
      obtain ⟨s1, s2⟩ := (oneSk_iff _).1 (HS.out k hlt)
      obtain ⟨s, hs⟩ : ∃ s : Nat, zs.getD k 0 = (s : Int) := ⟨(zs.getD k 0).toNat, by omega⟩
      rw [hs] at hzc
      have B0 : Hid (CfgB wr bg cN (.slice (some ⟨bz, oz, none⟩) zs.length kg)) := hB
      have CB0 : Hid (∀ V, Calls Try.prog 28 #[.agg #[.int .i64 (cN : Int), (.slice (some ⟨bz, oz, none⟩) zs.length kg)], .int .i64 (k : Int)] V (Says (.int .i64 (behC cN k : Int)) V)) := fun V => behind_any cN k _ V (by omega)
      have CB1 : Hid (∀ V, Calls Try.prog 28 #[.agg #[.int .i64 (cN : Int), (.slice (some ⟨bz, oz, none⟩) zs.length kg)], .int .i64 ((k : Int) + 1)] V (Says (.int .i64 (behC cN (k + 1) : Int)) V)) := fun V => behind_any cN (k + 1) _ V (by omega)
      have hwk : IntKind.i64.wrap ((k : Int) + 1) = (k : Int) + 1 := by rw [IntKind.wrap_i64]; omega
      have P5 : Hid (∀ V, wr.grownBy V none → ∃ w', (Instr.mapUpdate 49 (.map (some b)) (vE (behC cN k) s (behC cN (k + 1))) (.int .i64 0)).run Try.prog V = .ok () w' ∧ EdgesAt w' b (updE E (behC cN k) s (behC cN (k + 1)) 0) ∧ CfgB w' bg cN (.slice (some ⟨bz, oz, none⟩) zs.length kg) ∧ TowSt L cN zs (updE E (behC cN k) s (behC cN (k + 1)) 0) (k + 1) ∧ w.grownBy w' none) := fun V hV => by
        have hbk : behC cN k < 6 := by unfold behC; split <;> omega
        have hbk1 : behC cN (k + 1) < 6 := by unfold behC; split <;> omega
        obtain ⟨w', h1, h2, h3⟩ := (hE.kept hV (by simp)).put (f := behC cN k) (s := s) (t := behC cN (k + 1)) (c := 0) hbk (by omega) hbk1 (by rw [hT.new k (Nat.le_refl _) (by omega)]; omega)
        refine ⟨w', h1, h2, (B0.out.kept hV (by simp)).kept h3 (by simpa using HB.out.2.1), ?_, grown_new (grown_trans hg hV) h3 HB.out.1⟩
        have := hT.put hlt hzl hc
        rw [hs, Int.toNat_natCast] at this
        exact this
      obtain ⟨x0, hx0⟩ : ∃ x0, behC cN k = x0 := ⟨_, rfl⟩
      obtain ⟨x1', hx1⟩ : ∃ x1', behC cN (k + 1) = x1' := ⟨_, rfl⟩
      rw [hx0] at CB0 P5
      rw [hx1] at CB1 P5
      clear hT hE hB hg hcz s1 s2 hs hx0 hx1
      go_wp2_with fail
      refine wp_region_held_drew (S := fun W => CfgB W bg cN (.slice (some ⟨bz, oz, none⟩) zs.length kg)) (by kernel_rfl) (B0.out.kept (row := none) (grown_drew (grown_refl _ _)) (by simp)) (fun hHeld => ?_)
      refine wpAnyH_take (i := 0) (v := ?_) rfl (by kernel_rfl) (by kernel_rfl) (by kernel_rfl) (fun _ _ _ h => h) (Or.inl ⟨by rfl, ?_⟩) (by assumption) ?_
      rotate_left
      · intro W hSw
        obtain ⟨t1, t2⟩ := hSw.get
        go_simp
        with_reducible rfl
      try simp only [Act.put, List.getElem_toArray, List.getElem_cons_succ, List.getElem_cons_zero, List.setIfInBounds_toArray, List.set_cons_zero, List.set_cons_succ]
      refine wpAnyH_take (i := 1) (v := ?_) rfl (by kernel_rfl) (by kernel_rfl) (by kernel_rfl) (fun _ _ _ h => h) (Or.inl ⟨by rfl, ?_⟩) (by assumption) ?_
      rotate_left
      · intro W hSw
        obtain ⟨t1, t2⟩ := hSw.get
        go_simp
        with_reducible rfl
      try simp only [Act.put, List.getElem_toArray, List.getElem_cons_succ, List.getElem_cons_zero, List.setIfInBounds_toArray, List.set_cons_zero, List.set_cons_succ]
      refine wpAnyH_take (i := 2) (v := ?_) rfl (by kernel_rfl) (by kernel_rfl) (by kernel_rfl) (fun _ _ _ h => h) (Or.inl ⟨by rfl, ?_⟩) (by assumption) ?_
      rotate_left
      · intro W hSw
        obtain ⟨t1, t2⟩ := hSw.get
        go_simp
        with_reducible rfl
      try simp only [Act.put, List.getElem_toArray, List.getElem_cons_succ, List.getElem_cons_zero, List.setIfInBounds_toArray, List.set_cons_zero, List.set_cons_succ]
      refine wpAnyH_take (i := 4) (v := ?_) rfl (by kernel_rfl) (by kernel_rfl) (by kernel_rfl) (fun _ _ _ h => h) (Or.inl ⟨by rfl, ?_⟩) (by assumption) ?_
      rotate_left
      · intro W hSw
        obtain ⟨t1, t2⟩ := hSw.get
        go_simp
        with_reducible rfl
      try simp only [Act.put, List.getElem_toArray, List.getElem_cons_succ, List.getElem_cons_zero, List.setIfInBounds_toArray, List.set_cons_zero, List.set_cons_succ]
      refine wpAnyH_take (i := 5) (v := ?_) rfl (by kernel_rfl) (by kernel_rfl) (by kernel_rfl) (fun _ _ _ h => h) (Or.inl ⟨by rfl, ?_⟩) (by assumption) ?_
      rotate_left
      · intro W hSw
        obtain ⟨t1, t2⟩ := hSw.get
        go_simp
        with_reducible rfl
      try simp only [Act.put, List.getElem_toArray, List.getElem_cons_succ, List.getElem_cons_zero, List.setIfInBounds_toArray, List.set_cons_zero, List.set_cons_succ]
      refine wpAnyH_take (i := 6) (v := ?_) rfl (by kernel_rfl) (by kernel_rfl) (by kernel_rfl) (fun _ _ _ h => h) (Or.inl ⟨by rfl, ?_⟩) (by assumption) ?_
      rotate_left
      · intro W hSw
        obtain ⟨t1, t2⟩ := hSw.get
        go_simp
        with_reducible rfl
      try simp only [Act.put, List.getElem_toArray, List.getElem_cons_succ, List.getElem_cons_zero, List.setIfInBounds_toArray, List.set_cons_zero, List.set_cons_succ]
      refine wpAnyH_take (i := 7) (v := ?_) rfl (by kernel_rfl) (by kernel_rfl) (by kernel_rfl) (fun _ _ _ h => h) (Or.inl ⟨by rfl, ?_⟩) (by assumption) ?_
      rotate_left
      · intro W hSw
        obtain ⟨t1, t2⟩ := hSw.get
        go_simp
        with_reducible rfl
      try simp only [Act.put, List.getElem_toArray, List.getElem_cons_succ, List.getElem_cons_zero, List.setIfInBounds_toArray, List.set_cons_zero, List.set_cons_succ]
      refine wpAnyH_ready (rs := [3]) (by kernel_rfl) (by simp) ?_
      refine AllReadyH.cons (o := _) rfl (fun K' hK => ?_) ?_
      · go_simp
        refine (CB0.out _).mono ?_
        rintro e w7 ⟨rfl, hw7⟩
        go_wp2_with fail
        refine hK.out _ _ (hHeld.kept (row := none) hw7 (by simp)) (fun hHeld => ?_)
        clear hK K'
        try simp only [Act.put, List.getElem_toArray, List.getElem_cons_succ, List.getElem_cons_zero, List.setIfInBounds_toArray, List.set_cons_zero, List.set_cons_succ]
        refine wpAnyH_ready (rs := [8]) (by kernel_rfl) (by simp) ?_
        refine AllReadyH.cons (o := _) rfl (fun K' hK => ?_) ?_
        · go_simp
          refine (CB1.out _).mono ?_
          rintro e w8 ⟨rfl, hw8⟩
          go_wp2_with fail
          refine hK.out _ _ (hHeld.kept (row := none) hw8 (by simp)) (fun hHeld => ?_)
          clear hK K'
          try simp only [Act.put, List.getElem_toArray, List.getElem_cons_succ, List.getElem_cons_zero, List.setIfInBounds_toArray, List.set_cons_zero, List.set_cons_succ]
          refine wpAnyH_take (i := 9) (v := ?_) rfl (by kernel_rfl) (by kernel_rfl) (by kernel_rfl) (fun _ _ _ h => h) (Or.inl ⟨by rfl, ?_⟩) (by assumption) ?_
          rotate_left
          · intro W hSw
            obtain ⟨t1, t2⟩ := hSw.get
            go_simp
            with_reducible rfl
          try simp only [Act.put, List.getElem_toArray, List.getElem_cons_succ, List.getElem_cons_zero, List.setIfInBounds_toArray, List.set_cons_zero, List.set_cons_succ]
          refine wpAnyH_ready (rs := [10]) (by kernel_rfl) (by simp) ?_
          refine AllReadyH.cons (o := _) rfl (fun K' hK => ?_) ?_
          · have gA := grown_trans (grown_trans (grown_drew (grown_refl _ _)) hw7) hw8
            obtain ⟨w9, hrun, x1, x2, x3, x4⟩ := P5.out _ gA
            go_simp
            refine hK.out _ _ (x2) (fun hHeld => ?_)
            clear hK K'
            try simp only [Act.put, List.getElem_toArray, List.getElem_cons_succ, List.getElem_cons_zero, List.setIfInBounds_toArray, List.set_cons_zero, List.set_cons_succ]
            refine wpAnyH_done (by kernel_rfl) ?_ _
            go_wp2_with fail
            go_roundw
            case rel => exact ⟨k + 1, _, by omega, by simp, x3, x1, x2, x4⟩
            case measure => simp [intOf]; omega
          exact AllReadyH.nil
        exact AllReadyH.nil
      exact AllReadyH.nil
    · have hki : ¬ (k : Int) < (zs.length : Int) := by omega
      have hke : k = zs.length := by omega
      have X3 : Hid (∃ E, EdgesAt wr b E ∧ MadeC L E ∧ (∀ f s t, E f s t < 2002 → LeastD L cN zs f s t) ∧ (∀ j, j < zs.length → E (behC cN j) (zs.getD j 0).toNat (behC cN (j + 1)) = 0) ∧ ZeroC cN zs E ∧ w.grownBy wr none) := ⟨E, hE, hT.made, hT.snd, by rw [← hke]; exact hT.goal, hT.zro, hg⟩
      clear hT hE hB hg hke
      obtain ⟨mu, hmu⟩ : ∃ mu : World → Nat, ∀ W E, EdgesAt W b E → mu W = muE E := ⟨fun W => muE (costW W b), fun W E h => h.mu⟩
      have HMU : Hid (∀ W E, EdgesAt W b E → mu W = muE E) := hmu
      clear hmu
      go_wp2_with fail
      go_loopw [30] (fun _ wr => ∃ E, EdgesAt wr b E ∧ MadeC L E ∧ (∀ f s t, E f s t < 2002 → LeastD L cN zs f s t) ∧ (∀ j, j < zs.length → E (behC cN j) (zs.getD j 0).toNat (behC cN (j + 1)) = 0) ∧ ZeroC cN zs E ∧ w.grownBy wr none) (fun _ wr => mu wr)
      case atStart => exact X3.out
      case round =>
        clear X3
        obtain ⟨E, hE, hM, hS, hgo, hzro, hg⟩ := hrel
        have HZr : Hid (ZeroC cN zs E) := hzro
        clear hzro
        have CG : Hid (Calls Try.prog 29 #[.map (some b), .slice a L.length d] wr (GrowPost (LeastD L cN zs) L b E w)) := grow_edges (LeastD L cN zs) L b a d E w wr hE hM hS (least_clos L cN zs) HG.out HP.out hg HB.out.1
        have HMu : Hid (mu wr = muE E) := HMU.out _ _ hE
        have HGo : Hid (∀ j, j < zs.length → E (behC cN j) (zs.getD j 0).toNat (behC cN (j + 1)) = 0) := hgo
        clear hE hM hS hgo hg
        go_wp2_with fail
        refine CG.out.mono ?_
        rintro e w5 ⟨E', gr, rfl, hE', hS', hzr, hle, hM', hmu, hcl, hg'⟩
        cases gr with
        | true =>
          have X5 : Hid ((∃ E, EdgesAt w5 b E ∧ MadeC L E ∧ (∀ f s t, E f s t < 2002 → LeastD L cN zs f s t) ∧ (∀ j, j < zs.length → E (behC cN j) (zs.getD j 0).toNat (behC cN (j + 1)) = 0) ∧ ZeroC cN zs E ∧ w.grownBy w5 none) ∧ mu w5 < mu wr) := by
            refine ⟨⟨E', hE', hM', hS', fun j hj => ?_, fun f s t h0 => HZr.out f s t (hzr f s t h0), hg'⟩, ?_⟩
            · have := hle (behC cN j) (zs.getD j 0).toNat (behC cN (j + 1))
              rw [HGo.out j hj] at this
              omega
            · rw [HMU.out _ _ hE', HMu.out]; exact hmu rfl
          clear hE' hS' hzr hle hM' hmu hcl hg'
          go_wp2_with fail
          go_roundw
          case rel => exact X5.out.1
          case measure => exact X5.out.2
        | false =>
          have X5 : Hid (TowPost L cN zs w (.returned (.map (some b))) w5) := by
            refine ⟨b, E', rfl, hE', ⟨hM', hcl rfl, hS', fun j hj => ?_, fun f s t h0 => HZr.out f s t (hzr f s t h0)⟩, HB.out.1, hg'⟩
            have := hle (behC cN j) (zs.getD j 0).toNat (behC cN (j + 1))
            rw [HGo.out j hj] at this
            omega
          clear hE' hS' hzr hle hM' hmu hcl hg'
          go_wp2_with fail
          go_ret
          exact X5.out

end Go.Proofs.Ytcgkflddipflbaa

namespace Go.Proofs.Ytcgkflddipflbaa
open Go.RowKit Go.Maps
set_option linter.unusedVariables false
set_option linter.unusedSimpArgs false

theorem BoxE.fz {W : World} {B f s t : Nat} (h : BoxE W B f s t) (i : Nat) : W.frozen? ⟨B, i, none⟩ = false := frozen_of_row _ _ i _ _ h
theorem BoxE.far {W W' : World} {B C f s t : Nat} (h : BoxE W B f s t) (hg : W.grownBy W' (some C)) (hne : B ≠ C) : BoxE W' B f s t := (hg.block B h.lt (by simpa using hne)).trans h
theorem BoxE.set0 {W : World} {B f s t : Nat} (h : BoxE W B f s t) (f' : Nat) : BoxE (W.setCell ⟨B, 0, none⟩ (.int .i64 (f' : Int))) B f' s t := by
  have := heap_setCell_same W B 0 _ _ (.int .i64 (f' : Int)) h
  unfold BoxE
  rw [this]; rfl
theorem boxE_store {W : World} {B f s t : Nat} (h : BoxE W B f s t) (f' s' t' : Nat) : ∃ V, V = ((W.setCell ⟨B, 0, none⟩ (.int .i64 (f' : Int))).setCell ⟨B, 1, none⟩ (.int .i64 (s' : Int))).setCell ⟨B, 2, none⟩ (.int .i64 (t' : Int)) ∧ BoxE V B f' s' t' ∧ W.grownBy V (some B) := by
  have h1 := heap_setCell_same W B 0 _ _ (.int .i64 (f' : Int)) h
  have h2 := heap_setCell_same _ B 1 _ _ (.int .i64 (s' : Int)) h1
  have h3 := heap_setCell_same _ B 2 _ _ (.int .i64 (t' : Int)) h2
  exact ⟨_, rfl, by unfold BoxE; rw [h3]; rfl, grown_trans (grown_trans (grown_set _ _ _) (grown_set _ _ _)) (grown_set _ _ _)⟩
theorem boxE_new (W : World) (f s t : Nat) : BoxE (W.alloc (.cells #[.int .i64 (f : Int), .int .i64 (s : Int), .int .i64 (t : Int)] 66)) W.heap.size f s t := heap_alloc_new W _
/-- What lastOf leaves behind. -/
def LastPost (E : Edg) (row : Nat → Nat) (s t c : Nat) (w : World) (e : Ending) (w' : World) : Prop := ∃ f, f < 6 ∧ e = .returned (vE f s t) ∧ ((∃ k, k < 6 ∧ sumC (row k) (E k s t) = c) → sumC (row f) (E f s t) = c) ∧ w.grownBy w' none

set_option maxHeartbeats 6400000 in
set_option maxRecDepth 100000 in
theorem lastOf_any (b s t c : Nat) (E : Edg) (row : Nat → Nat) (w : World) (h : EdgesAt w b E) (hr : ∀ f, row f ≤ 2002) (hs : s < 3) (ht : t < 6) (hc : c ≤ 2002) :
    Calls Try.prog 40 #[.map (some b), rV row, .int .i64 (s : Int), .int .i64 (t : Int), .int .i64 (c : Int)] w (LastPost E row s t c w) := by
  obtain ⟨W1, hW1⟩ : ∃ W1, W1 = ((w.alloc (.cells (rArr row) 52)).alloc (.cells #[.int .i64 0, .int .i64 0, .int .i64 0] 66)).alloc (.cells #[.int .i64 0, .int .i64 (s : Int), .int .i64 (t : Int)] 66) := ⟨_, rfl⟩
  have HW1 : Hid (W1 = _) := hW1
  have X1 : Hid (Box6 W1 w.heap.size row ∧ BoxE W1 (w.heap.size + 1) 0 0 0 ∧ BoxE W1 (w.heap.size + 2) 0 s t ∧ w.grownBy W1 none) := by
    have b0 := box6_new w row
    have b1 := boxE_new (w.alloc (.cells (rArr row) 52)) 0 0 0
    have b2 := boxE_new ((w.alloc (.cells (rArr row) 52)).alloc (.cells #[.int .i64 ((0 : Nat) : Int), .int .i64 ((0 : Nat) : Int), .int .i64 ((0 : Nat) : Int)] 66)) 0 s t
    rw [show (w.alloc (.cells (rArr row) 52)).heap.size = w.heap.size + 1 by simp] at b1
    rw [show ((w.alloc (.cells (rArr row) 52)).alloc (.cells #[.int .i64 ((0 : Nat) : Int), .int .i64 ((0 : Nat) : Int), .int .i64 ((0 : Nat) : Int)] 66)).heap.size = w.heap.size + 2 by simp] at b2
    rw [hW1]
    exact ⟨(b0.kept (grown_alloc _ _)).kept (grown_alloc _ _), b1.kept (grown_alloc _ _), b2, grown_trans (grown_trans (grown_alloc _ _) (grown_alloc _ _)) (grown_alloc _ _)⟩
  have HE : Hid (∀ V, w.grownBy V none → EdgesAt V b E) := fun V hV => h.kept hV (by simp)
  have HR : Hid (∀ f, row f ≤ 2002) := hr
  have HT : Hid (Top E) := h.top
  obtain ⟨q0, q1, q2, q3, q4, q5⟩ := X1.out.1.get
  rw [hW1] at q0 q1 q2 q3 q4 q5
  clear h hr hW1
  go_enter Try.func40, Try.ntmps40
  go_wp2_with fail
  rw [← HW1.out]
  clear HW1 q0 q1 q2 q3 q4 q5
  obtain ⟨br, hbr⟩ : ∃ br, w.heap.size + 1 = br := ⟨_, rfl⟩
  obtain ⟨be, hbe⟩ : ∃ be, w.heap.size + 2 = be := ⟨_, rfl⟩
  have HB : Hid (w.heap.size < br ∧ br < be) := ⟨by omega, by omega⟩
  have X2 : Hid (BoxE W1 br 0 0 0 ∧ BoxE W1 be 0 s t ∧ w.grownBy W1 none) := by rw [← hbr, ← hbe]; exact ⟨X1.out.2.1, X1.out.2.2.1, X1.out.2.2.2⟩
  all_goals (try rw [show w.heap.size + 1 + 1 = be by omega])
  all_goals (try rw [hbr])
  all_goals (try rw [hbe])
  clear hbr hbe X1
  go_loopw [18] (fun u wr => ∃ k f : Nat, k ≤ 6 ∧ u = .int .i64 k ∧ f < 6 ∧ (k = 6 → f = 5) ∧ BoxE wr br 0 0 0 ∧ BoxE wr be f s t ∧ (∀ j, j < k → sumC (row j) (E j s t) ≠ c) ∧ w.grownBy wr none) (fun u _ => 6 - (intOf u).toNat)
  case atStart => exact ⟨0, 0, by omega, rfl, by omega, by omega, X2.out.1, X2.out.2.1, fun j hj => by omega, X2.out.2.2⟩
  case round =>
    clear X2
    obtain ⟨k, f, hk, rfl, hf, hf5, h0, h1, hno, hg⟩ := hrel
    by_cases hlt : k < 6
    · have hki : (k : Int) < 6 := by omega
      have hix := index_six row hlt wr
      obtain ⟨p0, p1, p2⟩ := h1.get
      have z0 := h1.fz 0
      obtain ⟨W5, hW5⟩ : ∃ W5, W5 = wr.setCell ⟨be, 0, none⟩ (.int .i64 (k : Int)) := ⟨_, rfl⟩
      have HW5 : Hid (W5 = _) := hW5
      have g5 : wr.grownBy W5 (some be) := by rw [hW5]; exact grown_set _ _ _
      have X5 : Hid (BoxE W5 br 0 0 0 ∧ BoxE W5 be k s t ∧ w.grownBy W5 none) := ⟨h0.far g5 (by have := HB.out; omega), by rw [hW5]; exact h1.set0 k, grown_new hg g5 (by have := HB.out; omega)⟩
      obtain ⟨y0, y1, y2⟩ := X5.out.2.1.get
      rw [hW5] at y0 y1 y2
      have hrk := HR.out k
      have hek := HT.out k s t
      obtain ⟨ec, hec⟩ : ∃ ec, E k s t = ec := ⟨_, rfl⟩
      obtain ⟨rk, hrkk⟩ : ∃ rk, row k = rk := ⟨_, rfl⟩
      obtain ⟨sm, hsm⟩ : ∃ sm, sumC rk ec = sm := ⟨_, rfl⟩
      have HSm : Hid (sumC (row k) (E k s t) = sm) := by rw [hec, hrkk]; exact hsm
      rw [hrkk] at hix hrk
      rw [hec] at hek
      have CC : Hid (∀ V, w.grownBy V none → Calls Try.prog 33 #[.map (some b), vE k s t] V (Says (.int .i64 (ec : Int)) V)) := fun V hV => by
        have := cost_any b E k s t V (HE.out V hV) hlt hs ht
        rwa [hec] at this
      have CS : Hid (∀ V, Calls Try.prog 37 #[.int .i64 (rk : Int), .int .i64 (ec : Int)] V fun e w' => e = .returned (.int .i64 (sm : Int)) ∧ w' = V) := fun V => by
        have := sum_any rk ec V hrk hek
        rwa [hsm] at this
      have HNo : Hid (∀ j, j < k → sumC (row j) (E j s t) ≠ c) := hno
      clear h0 h1 hg hW5 g5 hec hrkk hsm hno
      go_wp2_with fail
      rw [← HW5.out]
      refine (CC.out W5 X5.out.2.2).mono ?_
      rintro e w6 ⟨rfl, hg6⟩
      have X6 : Hid (BoxE w6 br 0 0 0 ∧ BoxE w6 be k s t ∧ w.grownBy w6 none) := ⟨X5.out.1.kept hg6, X5.out.2.1.kept hg6, grown_trans X5.out.2.2 hg6⟩
      clear hg6 HW5 y0 y1 y2 p0 p1 p2 z0 hix X5
      go_wp2_with fail
      refine (CS.out w6).mono ?_
      rintro e w7 ⟨rfl, hw7⟩
      rw [hw7]
      clear hw7
      by_cases hm : sm = c
      · have hmi : ((sm : Int) == (c : Int)) = true := by simp [hm]
        obtain ⟨y0, y1, y2⟩ := X6.out.2.1.get
        obtain ⟨r0, r1, r2⟩ := X6.out.1.get
        have rz0 := X6.out.1.fz 0
        have rz1 := X6.out.1.fz 1
        have rz2 := X6.out.1.fz 2
        obtain ⟨W9, hW9, hb9, hg9⟩ := boxE_store X6.out.1 k s t
        obtain ⟨x0, x1, x2⟩ := hb9.get
        have F : Hid (LastPost E row s t c w (.returned (vE k s t)) W9) := ⟨k, hlt, rfl, fun _ => by rw [HSm.out]; exact hm, grown_new X6.out.2.2 hg9 (by have := HB.out; omega)⟩
        clear hb9 hg9 hm
        go_wp2_with fail
        rw [← hW9]
        exact bodyPost_ret (v := vE k s t) (by simp [results, Try.results40, go_sem, x0, x1, x2]) rfl F.out
      · have hmi : ((sm : Int) == (c : Int)) = false := by simp; omega
        have HNo2 : Hid (∀ j, j < k + 1 → sumC (row j) (E j s t) ≠ c) := fun j hj => by
          by_cases e : j = k
          · subst e; rw [HSm.out]; exact hm
          · exact HNo.out j (by omega)
        clear hm
        go_wp2_with fail
        go_roundw
        case rel => exact ⟨k + 1, k, by omega, by simp, hlt, by omega, X6.out.1, X6.out.2.1, HNo2.out, X6.out.2.2⟩
        case measure => simp [intOf]; omega
    · have hki : ¬ (k : Int) < 6 := by omega
      obtain rfl : k = 6 := by omega
      obtain ⟨y0, y1, y2⟩ := h1.get
      obtain ⟨r0, r1, r2⟩ := h0.get
      have rz0 := h0.fz 0
      have rz1 := h0.fz 1
      have rz2 := h0.fz 2
      obtain ⟨W9, hW9, hb9, hg9⟩ := boxE_store h0 f s t
      obtain ⟨x0, x1, x2⟩ := hb9.get
      have F : Hid (LastPost E row s t c w (.returned (vE f s t)) W9) := ⟨f, hf, rfl, fun ⟨j, hj, e⟩ => absurd e (hno j hj), grown_new hg hg9 (by have := HB.out; omega)⟩
      clear hb9 hg9 h0 h1 hno hg hf5
      go_wp2_with fail
      rw [← hW9]
      exact bodyPost_ret (v := vE f s t) (by simp [results, Try.results40, go_sem, x0, x1, x2]) rfl F.out

end Go.Proofs.Ytcgkflddipflbaa
