/- The reference's Covers and Done. -/
import Derived.Test.YtbkfcfhkjnfbmaaHpState
import Derived.Test.YtbkfcfhkjnfbmaaSkRow
namespace Go.Proofs.Ytbkfcfhkjnfbmaa
open Go.RowKit
set_option linter.unusedVariables false
set_option linter.unusedSimpArgs false
attribute [local go_sem ↓] appY_fold

set_option maxHeartbeats 1600000 in
set_option maxRecDepth 100000 in
theorem covers_any (s t : List Int) (a b : Option Addr) (c d : Nat) (w : World) (hs : Ints w a s) (ht : Ints w b t) (hl : t.length = s.length) (hm : s.length ≤ 100) :
    Calls Try.prog 8 #[.slice a s.length c, .slice b t.length d] w (TellsB (CanH s t) w) := by
  have HS : Hid (Ints w a s) := hs
  have HT : Hid (Ints w b t) := ht
  have HL : Hid (t.length = s.length) := hl
  clear hs ht
  rw [hl]
  clear hl
  go_enter Try.func8, Try.ntmps8
  go_wp2_with fail
  go_loopw [5] (fun v wr => ∃ i : Nat, v = .int .i64 i ∧ i ≤ s.length ∧ w.grownBy wr none ∧ ∀ j, j < i → t.getD j 0 ≤ s.getD j 0) (fun v _ => s.length - (intOf v).toNat)
  case atStart => exact ⟨0, rfl, Nat.zero_le _, grown_refl _ _, fun j hj => by omega⟩
  case round =>
    obtain ⟨i, rfl, hi, hg, hl⟩ := hrel
    have G : Hid (w.grownBy wr none) := hg
    have HJ : Hid (∀ j, j < i → t.getD j 0 ≤ s.getD j 0) := hl
    clear hg hl
    by_cases hin : i < s.length
    · have hin1 : (i : Int) < (s.length : Int) := by omega
      obtain ⟨bs, os, rfl, cs⟩ := (HS.out.grown G.out).at hin
      have y1 := cs i hin
      obtain ⟨bt, ot, rfl, ct⟩ := (HT.out.grown G.out).at (k := i) (by have := HL.out; omega)
      have y2 := ct i (by have := HL.out; omega)
      clear cs ct
      by_cases e : t.getD i 0 ≤ s.getD i 0
      · have HJ2 : Hid (∀ j, j < i + 1 → t.getD j 0 ≤ s.getD j 0) := fun j hj => by
          by_cases e2 : j = i
          · subst e2; exact e
          · exact HJ.out j (by omega)
        have d1 : decide (s.getD i 0 < t.getD i 0) = false := decide_eq_false (by omega)
        clear e
        generalize s.getD i 0 = vs at *
        generalize t.getD i 0 = vt at *
        go_wp2_with fail
        go_quiet (fail)
        go_wp2_with fail
        go_roundw
        case rel => exact ⟨i + 1, by go_num, by omega, grown_drewN G.out _, HJ2.out⟩
        case measure => simp [intOf]; omega
      · have HN : Hid (¬ CanH s t) := fun q => e (q i hin)
        have d1 : decide (s.getD i 0 < t.getD i 0) = true := decide_eq_true (by omega)
        clear e
        generalize s.getD i 0 = vs at *
        generalize t.getD i 0 = vt at *
        go_wp2_with fail
        go_quiet (fail)
        go_wp2_with fail
        go_ret
        exact tellsB false rfl ⟨(fun e => by cases e), fun e => absurd e HN.out⟩ (grown_drewN G.out _)
    · have hin1 : ¬ (i : Int) < (s.length : Int) := by omega
      go_wp2_with fail
      go_ret
      exact tellsB true rfl ⟨fun _ j hj => HJ.out j (by omega), fun _ => rfl⟩ G.out

/-- A row of numbers that the call has made. -/
theorem doneH_take (s t g : List Int) {i : Nat} (h : i < s.length) : (doneH s t g).take (i + 1) = (doneH s t g).take i ++ [s.getD i 0 + g.getD i 0 - t.getD i 0] := by
  rw [List.take_add_one]
  have : (doneH s t g)[i]? = some (s.getD i 0 + g.getD i 0 - t.getD i 0) := by
    rw [← doneH_get s t g h]
    simp [List.getD, doneH_len, h]
  rw [this]
  rfl

/-- A row of numbers is answered. -/
def RowD (zs : List Int) (w : World) (e : Ending) (w' : World) : Prop := ∃ a c, e = .returned (.slice a zs.length c) ∧ Ints w' a zs ∧ w.grownBy w' none
/-- What the round reads. -/
def SDn (b0 ba oa bb ob bs os bt ot bg og k i nT nG n c d ct cg : Nat) (vs vt vg : Int) (W : World) : Prop :=
  W.cell? ⟨b0, 1, none⟩ = some (.slice (some ⟨ba, oa, none⟩) nT c) ∧ W.cell? ⟨b0, 2, none⟩ = some (.slice (some ⟨bb, ob, none⟩) nG d) ∧ W.cell? ⟨ba, oa + k, none⟩ = some (.slice (some ⟨bt, ot, none⟩) n ct) ∧ W.cell? ⟨bb, ob + k, none⟩ = some (.slice (some ⟨bg, og, none⟩) n cg) ∧
    W.cell? ⟨bs, os + i, none⟩ = some (.int .i64 vs) ∧ W.cell? ⟨bt, ot + i, none⟩ = some (.int .i64 vt) ∧ W.cell? ⟨bg, og + i, none⟩ = some (.int .i64 vg)
theorem own_frame {w0 w w' : World} {e : TypeId} {v : Value} {n : Nat} {xs : List Value} (h : w.ownsRow w0.heap.size e 1 v n xs) (h1 : w0.grownBy w none) (h2 : w.grownBy w' v.ownBlock) : w0.grownBy w' none :=
  grown_of_below ((below_of_grown h1).grown h2 h1.size (fun k hk => (h.lt k hk).1))
theorem ints_at {W : World} {b o : Nat} {zs : List Int} (h : Ints W (some ⟨b, o, none⟩) zs) {i : Nat} (hi : i < zs.length) : W.cell? ⟨b, o + i, none⟩ = some (.int .i64 (zs.getD i 0)) := by
  obtain ⟨b', o', e, c⟩ := h.at hi
  cases e
  exact c i hi

set_option maxHeartbeats 3200000 in
set_option maxRecDepth 100000 in
theorem done_any (x : Hp) (s : List Int) (k : Nat) (a b ya : Option Addr) (c d ca : Nat) (w : World) (h : HpAt w x a b) (hG : GoodH x) (hk : k < x.T.length) (hs : Ints w ya s) (hl : (s.length : Int) = x.P) (ho : OneW s 10) :
    Calls Try.prog 9 #[hpV x.P a x.T.length c b x.G.length d, .slice ya s.length ca, .int .i64 k] w (RowD (doneH s (x.T.getD k []) (x.G.getD k [])) w) := by
  have hk' : k < x.G.length := by rw [hG.g]; exact hk
  have p4 := hG.p4
  have htl := hG.ts k hk
  have hgl := hG.gs k hk'
  have htw := hG.tw k hk
  have hgw := hG.gw k hk'
  obtain ⟨ba, oa, rfl, hca⟩ := h.t.at hk
  obtain ⟨yt, ct, q1, hz1, _⟩ := hca k hk
  obtain ⟨bb, ob, rfl, hcb⟩ := h.g.at hk'
  obtain ⟨yg, cg, q2, hz2, _⟩ := hcb k hk'
  clear hca hcb h
  obtain ⟨W1, hW1, g1, s1, bx1⟩ := boxH_new w x.P (some ⟨ba, oa, none⟩) x.T.length c (some ⟨bb, ob, none⟩) x.G.length d
  have HW1 : Hid (W1 = _) := hW1
  have G1 : Hid (w.grownBy W1 none) := g1
  generalize x.T.getD k [] = t at *
  generalize x.G.getD k [] = g at *
  have htn : t.length = s.length := by omega
  have hgn : g.length = s.length := by omega
  have hn4 : s.length ≤ 4 := by omega
  have HI : Hid (∀ W, W1.grownBy W none → BoxH w.heap.size x.P (some ⟨ba, oa, none⟩) x.T.length c (some ⟨bb, ob, none⟩) x.G.length d W ∧ W.cell? ⟨ba, oa + k, none⟩ = some (.slice yt s.length ct) ∧ W.cell? ⟨bb, ob + k, none⟩ = some (.slice yg s.length cg) ∧ Ints W yt t ∧ Ints W yg g ∧ Ints W ya s) := fun W hW => ⟨bx1.kept hW, htn ▸ (grown_trans g1 hW).cell q1 (by simp), hgn ▸ (grown_trans g1 hW).cell q2 (by simp), hz1.grown (grown_trans g1 hW), hz2.grown (grown_trans g1 hW), hs.grown (grown_trans g1 hW)⟩
  have HV : Hid (∀ i, i < s.length → (0 ≤ t.getD i 0 ∧ t.getD i 0 ≤ 2) ∧ (0 ≤ g.getD i 0 ∧ g.getD i 0 ≤ 2) ∧ 0 ≤ s.getD i 0 ∧ s.getD i 0 ≤ 10) := fun i hi => ⟨htw i (by omega), hgw i (by omega), ho i hi⟩
  have HL : Hid (t.length = s.length ∧ g.length = s.length) := ⟨htn, hgn⟩
  have mT : (k : Int) < (x.T.length : Int) := by omega
  have mG : (k : Int) < (x.G.length : Int) := by omega
  have S1 : Hid (W1.heap.size = w.heap.size + 1) := s1
  obtain ⟨x0, x1, x2⟩ := bx1
  rw [hW1] at x0 x1 x2
  clear hs hG htw hgw q1 q2 hz1 hz2 htn hgn htl hgl hk hk' hl ho hW1 s1
  generalize x.T.length = nT at *
  generalize x.G.length = nG at *
  go_enter Try.func9, Try.ntmps9
  go_wp2_with fail
  rw [← HW1.out]
  clear x0 x1 x2 HW1
  go_loopw [7, 8] (fun v7 v8 wr => ∃ (i : Nat) (ar : Option Addr) (cr : Nat), v7 = .slice ar ((doneH s t g).take i).length cr ∧ v8 = .int .i64 i ∧ i ≤ s.length ∧ W1.grownBy wr none ∧ wr.ownsRow W1.heap.size 3 1 (.slice ar ((doneH s t g).take i).length cr) ((doneH s t g).take i).length (numsI ((doneH s t g).take i))) (fun _ v8 _ => s.length - (intOf v8).toNat)
  case atStart => exact ⟨0, none, 0, rfl, rfl, Nat.zero_le _, grown_refl _ _, World.ownsRow_nil _ _ _ _⟩
  case round =>
    obtain ⟨i, ar, cr, rfl, rfl, hi, hg, hown⟩ := hrel
    have G : Hid (W1.grownBy wr none) := hg
    have OW : Hid (wr.ownsRow W1.heap.size 3 1 (.slice ar ((doneH s t g).take i).length cr) ((doneH s t g).take i).length (numsI ((doneH s t g).take i))) := hown
    clear hg hown
    obtain ⟨⟨x0, x1, x2⟩, x3, x4, hyt, hyg, hys⟩ := HI.out wr G.out
    by_cases hin : i < s.length
    · have hin1 : (i : Int) < (s.length : Int) := by omega
      obtain ⟨bs, os, rfl, cs⟩ := hys.at hin
      have y1 := cs i hin
      obtain ⟨bt, ot, rfl, ct'⟩ := hyt.at (k := i) (by have := HL.out; omega)
      have y2 := ct' i (by have := HL.out; omega)
      obtain ⟨bg, og, rfl, cg'⟩ := hyg.at (k := i) (by have := HL.out; omega)
      have y3 := cg' i (by have := HL.out; omega)
      have hv := HV.out i hin
      have HTk := doneH_take s t g hin
      have SY : ∀ W, W1.grownBy W none → SDn w.heap.size ba oa bb ob bs os bt ot bg og k i nT nG s.length c d ct cg (s.getD i 0) (t.getD i 0) (g.getD i 0) W := fun W hW => by
        obtain ⟨⟨z0, z1, z2⟩, z3, z4, z5, z6, z7⟩ := HI.out W hW
        exact ⟨z1, z2, z3, z4, ints_at z7 hin, ints_at z5 (by have := HL.out; omega), ints_at z6 (by have := HL.out; omega)⟩
      clear cs ct' cg' hyt hyg hys x0 x1 x2 x3 x4 y1 y2 y3
      generalize s.getD i 0 = vs at *
      generalize t.getD i 0 = vt at *
      generalize g.getD i 0 = vg at *
      have w1 : IntKind.i64.wrap (vs + vg) = vs + vg := by rw [IntKind.wrap_i64]; omega
      have w2 : IntKind.i64.wrap (vs + vg - vt) = vs + vg - vt := by rw [IntKind.wrap_i64]; omega
      have g9 : wr.grownBy ((wr.alloc (.cells #[.int .i64 (vs + vg - vt)] 3)).drew) none := grown_drew (grown_alloc _ _)
      have ow9 : ((wr.alloc (.cells #[.int .i64 (vs + vg - vt)] 3)).drew).ownsRow W1.heap.size 3 1 (.slice ar ((doneH s t g).take i).length cr) ((doneH s t g).take i).length (numsI ((doneH s t g).take i)) := OW.out.kept g9 (by cases (Value.slice ar ((doneH s t g).take i).length cr).ownBlock <;> simp)
      have hi9 : Ints ((wr.alloc (.cells #[.int .i64 (vs + vg - vt)] 3)).drew) (some ⟨wr.heap.size, 0, none⟩) [vs + vg - vt] := by
        refine .inr ⟨wr.heap.size, 0, rfl, fun j hj => ?_⟩
        have e : j = 0 := by simp at hj; omega
        subst e
        have hb : ((wr.alloc (.cells #[.int .i64 (vs + vg - vt)] 3)).drew).heap[wr.heap.size]? = _ := heap_alloc_new wr (.cells #[.int .i64 (vs + vg - vt)] 3)
        exact (show ((wr.alloc (.cells #[.int .i64 (vs + vg - vt)] 3)).drew).cell? ⟨wr.heap.size, 0, none⟩ = some (.int .i64 (vs + vg - vt)) from by rw [cell_of_row _ _ 0 _ _ (0, 0) hb]; rfl)
      obtain ⟨a1, c1, w', hr, ho, hgr⟩ := app_anyY (c := 1) ow9 (Nat.le_trans G.out.size g9.size) hi9 (by simp [List.length_take, doneH_len]; omega)
      have GN : Hid (W1.grownBy w' none) := own_frame ow9 (grown_trans G.out g9) hgr
      rw [← HTk] at ho
      have ON : Hid (w'.ownsRow W1.heap.size 3 1 (.slice a1 ((doneH s t g).take (i + 1)).length c1) ((doneH s t g).take (i + 1)).length (numsI ((doneH s t g).take (i + 1)))) := ho
      have HTl : Hid (((doneH s t g).take (i + 1)).length = ((doneH s t g).take i).length + 1) := by show _ = _; rw [HTk]; simp
      have hrun : (AppY #[25, 25] 25 #[.slice ar ((doneH s t g).take i).length cr, .slice (some ⟨wr.heap.size, 0, none⟩) 1 1]).run Try.prog ((wr.alloc (.cells #[.int .i64 (vs + vg - vt)] 3)).drew) = .ok (.slice a1 (((doneH s t g).take i).length + 1) c1) w' := hr
      have SD : Hid (SDn w.heap.size ba oa bb ob bs os bt ot bg og k i nT nG s.length c d ct cg vs vt vg wr.drew) := SY _ (grown_trans G.out (grown_drew (grown_refl _ _)))
      have SA : Hid (SDn w.heap.size ba oa bb ob bs os bt ot bg og k i nT nG s.length c d ct cg vs vt vg ((wr.alloc (.cells #[.int .i64 (vs + vg - vt)] 3)).drew)) := SY _ (grown_trans G.out g9)
      have SB : Hid (SDn w.heap.size ba oa bb ob bs os bt ot bg og k i nT nG s.length c d ct cg vs vt vg w') := SY _ GN.out
      clear SY hr ho hgr ow9 hi9 g9 HTk hv
      generalize ((doneH s t g).take i).length = nn at *
      go_wp2_with fail
      refine wp_region_held_drew (S := SDn w.heap.size ba oa bb ob bs os bt ot bg og k i nT nG s.length c d ct cg vs vt vg) (by kernel_rfl) (SD.out) (fun hHeld => ?_)
      refine wpAnyH_take (i := 0) (v := ?_) rfl (by kernel_rfl) (by kernel_rfl) (by kernel_rfl) (fun _ _ _ h => h) (Or.inl ⟨by rfl, ?_⟩) (by assumption) ?_
      rotate_left
      · intro W hSw
        obtain ⟨q0, q1, q2, q3, q4, q5, q6⟩ := hSw
        go_simp
        with_reducible rfl
      try simp only [Act.put, List.setIfInBounds_toArray, List.set_cons_zero, List.set_cons_succ]
      refine wpAnyH_take (i := 1) (v := ?_) rfl (by kernel_rfl) (by kernel_rfl) (by kernel_rfl) (fun _ _ _ h => h) (Or.inl ⟨by rfl, ?_⟩) (by assumption) ?_
      rotate_left
      · intro W hSw
        obtain ⟨q0, q1, q2, q3, q4, q5, q6⟩ := hSw
        go_simp
        with_reducible rfl
      try simp only [Act.put, List.setIfInBounds_toArray, List.set_cons_zero, List.set_cons_succ]
      refine wpAnyH_take (i := 2) (v := ?_) rfl (by kernel_rfl) (by kernel_rfl) (by kernel_rfl) (fun _ _ _ h => h) (Or.inl ⟨by rfl, ?_⟩) (by assumption) ?_
      rotate_left
      · intro W hSw
        obtain ⟨q0, q1, q2, q3, q4, q5, q6⟩ := hSw
        go_simp
        with_reducible rfl
      try simp only [Act.put, List.setIfInBounds_toArray, List.set_cons_zero, List.set_cons_succ]
      refine wpAnyH_take (i := 3) (v := ?_) rfl (by kernel_rfl) (by kernel_rfl) (by kernel_rfl) (fun _ _ _ h => h) (Or.inl ⟨by rfl, ?_⟩) (by assumption) ?_
      rotate_left
      · intro W hSw
        obtain ⟨q0, q1, q2, q3, q4, q5, q6⟩ := hSw
        go_simp
        with_reducible rfl
      try simp only [Act.put, List.setIfInBounds_toArray, List.set_cons_zero, List.set_cons_succ]
      refine wpAnyH_take (i := 4) (v := ?_) rfl (by kernel_rfl) (by kernel_rfl) (by kernel_rfl) (fun _ _ _ h => h) (Or.inl ⟨by rfl, ?_⟩) (by assumption) ?_
      rotate_left
      · intro W hSw
        obtain ⟨q0, q1, q2, q3, q4, q5, q6⟩ := hSw
        go_simp
        with_reducible rfl
      try simp only [Act.put, List.setIfInBounds_toArray, List.set_cons_zero, List.set_cons_succ]
      refine wpAnyH_take (i := 5) (v := ?_) rfl (by kernel_rfl) (by kernel_rfl) (by kernel_rfl) (fun _ _ _ h => h) (Or.inl ⟨by rfl, ?_⟩) (by assumption) ?_
      rotate_left
      · intro W hSw
        obtain ⟨q0, q1, q2, q3, q4, q5, q6⟩ := hSw
        go_simp
        with_reducible rfl
      try simp only [Act.put, List.setIfInBounds_toArray, List.set_cons_zero, List.set_cons_succ]
      refine wpAnyH_take (i := 6) (v := ?_) rfl (by kernel_rfl) (by kernel_rfl) (by kernel_rfl) (fun _ _ _ h => h) (Or.inl ⟨by rfl, ?_⟩) (by assumption) ?_
      rotate_left
      · intro W hSw
        obtain ⟨q0, q1, q2, q3, q4, q5, q6⟩ := hSw
        go_simp
        with_reducible rfl
      try simp only [Act.put, List.setIfInBounds_toArray, List.set_cons_zero, List.set_cons_succ]
      refine wpAnyH_take (i := 7) (v := ?_) rfl (by kernel_rfl) (by kernel_rfl) (by kernel_rfl) (fun _ _ _ h => h) (Or.inl ⟨by rfl, ?_⟩) (by assumption) ?_
      rotate_left
      · intro W hSw
        obtain ⟨q0, q1, q2, q3, q4, q5, q6⟩ := hSw
        go_simp
        with_reducible rfl
      try simp only [Act.put, List.setIfInBounds_toArray, List.set_cons_zero, List.set_cons_succ]
      refine wpAnyH_take (i := 8) (v := ?_) rfl (by kernel_rfl) (by kernel_rfl) (by kernel_rfl) (fun _ _ _ h => h) (Or.inl ⟨by rfl, ?_⟩) (by assumption) ?_
      rotate_left
      · intro W hSw
        obtain ⟨q0, q1, q2, q3, q4, q5, q6⟩ := hSw
        go_simp
        with_reducible rfl
      try simp only [Act.put, List.setIfInBounds_toArray, List.set_cons_zero, List.set_cons_succ]
      refine wpAnyH_take (i := 9) (v := ?_) rfl (by kernel_rfl) (by kernel_rfl) (by kernel_rfl) (fun _ _ _ h => h) (Or.inl ⟨by rfl, ?_⟩) (by assumption) ?_
      rotate_left
      · intro W hSw
        obtain ⟨q0, q1, q2, q3, q4, q5, q6⟩ := hSw
        go_simp
        with_reducible rfl
      try simp only [Act.put, List.setIfInBounds_toArray, List.set_cons_zero, List.set_cons_succ]
      refine wpAnyH_take (i := 10) (v := ?_) rfl (by kernel_rfl) (by kernel_rfl) (by kernel_rfl) (fun _ _ _ h => h) (Or.inl ⟨by rfl, ?_⟩) (by assumption) ?_
      rotate_left
      · intro W hSw
        obtain ⟨q0, q1, q2, q3, q4, q5, q6⟩ := hSw
        go_simp
        with_reducible rfl
      try simp only [Act.put, List.setIfInBounds_toArray, List.set_cons_zero, List.set_cons_succ]
      refine wpAnyH_take (i := 11) (v := ?_) rfl (by kernel_rfl) (by kernel_rfl) (by kernel_rfl) (fun _ _ _ h => h) (Or.inl ⟨by rfl, ?_⟩) (by assumption) ?_
      rotate_left
      · intro W hSw
        obtain ⟨q0, q1, q2, q3, q4, q5, q6⟩ := hSw
        go_simp
        with_reducible rfl
      try simp only [Act.put, List.setIfInBounds_toArray, List.set_cons_zero, List.set_cons_succ]
      refine wpAnyH_take (i := 12) (v := ?_) rfl (by kernel_rfl) (by kernel_rfl) (by kernel_rfl) (fun _ _ _ h => h) (Or.inl ⟨by rfl, ?_⟩) (by assumption) ?_
      rotate_left
      · intro W hSw
        obtain ⟨q0, q1, q2, q3, q4, q5, q6⟩ := hSw
        go_simp
        with_reducible rfl
      try simp only [Act.put, List.setIfInBounds_toArray, List.set_cons_zero, List.set_cons_succ]
      refine wpAnyH_take (i := 13) (v := ?_) rfl (by kernel_rfl) (by kernel_rfl) (by kernel_rfl) (fun _ _ _ h => h) (Or.inl ⟨by rfl, ?_⟩) (by assumption) ?_
      rotate_left
      · intro W hSw
        obtain ⟨q0, q1, q2, q3, q4, q5, q6⟩ := hSw
        go_simp
        with_reducible rfl
      try simp only [Act.put, List.setIfInBounds_toArray, List.set_cons_zero, List.set_cons_succ]
      refine wpAnyH_take (i := 14) (v := ?_) rfl (by kernel_rfl) (by kernel_rfl) (by kernel_rfl) (fun _ _ _ h => h) (Or.inl ⟨by rfl, ?_⟩) (by assumption) ?_
      rotate_left
      · intro W hSw
        obtain ⟨q0, q1, q2, q3, q4, q5, q6⟩ := hSw
        go_simp
        with_reducible rfl
      try simp only [Act.put, List.setIfInBounds_toArray, List.set_cons_zero, List.set_cons_succ]
      refine wpAnyH_take (i := 15) (v := ?_) rfl (by kernel_rfl) (by kernel_rfl) (by kernel_rfl) (fun _ _ _ h => h) (Or.inl ⟨by rfl, ?_⟩) (by assumption) ?_
      rotate_left
      · intro W hSw
        obtain ⟨q0, q1, q2, q3, q4, q5, q6⟩ := hSw
        go_simp
        with_reducible rfl
      try simp only [Act.put, List.setIfInBounds_toArray, List.set_cons_zero, List.set_cons_succ]
      refine wpAnyH_take (i := 16) (v := ?_) rfl (by kernel_rfl) (by kernel_rfl) (by kernel_rfl) (fun _ _ _ h => h) (Or.inl ⟨by rfl, ?_⟩) (by assumption) ?_
      rotate_left
      · intro W hSw
        obtain ⟨q0, q1, q2, q3, q4, q5, q6⟩ := hSw
        go_simp
        with_reducible rfl
      try simp only [Act.put, List.setIfInBounds_toArray, List.set_cons_zero, List.set_cons_succ]
      refine wpAnyH_take (i := 17) (v := ?_) rfl (by kernel_rfl) (by kernel_rfl) (by kernel_rfl) (fun _ _ _ h => h) (Or.inl ⟨by rfl, ?_⟩) (by assumption) ?_
      rotate_left
      · intro W hSw
        obtain ⟨q0, q1, q2, q3, q4, q5, q6⟩ := hSw
        go_simp
        with_reducible rfl
      try simp only [Act.put, List.setIfInBounds_toArray, List.set_cons_zero, List.set_cons_succ]
      refine wpAnyH_take (i := 18) (v := ?_) rfl (by kernel_rfl) (by kernel_rfl) (by kernel_rfl) (fun _ _ _ h => h) (Or.inl ⟨by rfl, ?_⟩) (by assumption) ?_
      rotate_left
      · intro W hSw
        obtain ⟨q0, q1, q2, q3, q4, q5, q6⟩ := hSw
        go_simp
        with_reducible rfl
      try simp only [Act.put, List.setIfInBounds_toArray, List.set_cons_zero, List.set_cons_succ]
      refine wpAnyH_take (i := 19) (v := ?_) rfl (by kernel_rfl) (by kernel_rfl) (by kernel_rfl) (fun _ _ _ h => h) (Or.inl ⟨by rfl, ?_⟩) (by assumption) ?_
      rotate_left
      · intro W hSw
        obtain ⟨q0, q1, q2, q3, q4, q5, q6⟩ := hSw
        go_simp
        with_reducible rfl
      try simp only [Act.put, List.setIfInBounds_toArray, List.set_cons_zero, List.set_cons_succ]
      refine wpAnyH_take (i := 20) (v := ?_) rfl (by kernel_rfl) (by kernel_rfl) (by kernel_rfl) (fun _ _ _ h => h) (Or.inl ⟨by rfl, ?_⟩) (by assumption) ?_
      rotate_left
      · intro W hSw
        obtain ⟨q0, q1, q2, q3, q4, q5, q6⟩ := hSw
        go_simp
        with_reducible rfl
      try simp only [Act.put, List.setIfInBounds_toArray, List.set_cons_zero, List.set_cons_succ]
      refine wpAnyH_take (i := 21) (v := ?_) rfl (by kernel_rfl) (by kernel_rfl) (by kernel_rfl) (fun _ _ _ h => h) (Or.inl ⟨by rfl, ?_⟩) (by assumption) ?_
      rotate_left
      · intro W hSw
        obtain ⟨q0, q1, q2, q3, q4, q5, q6⟩ := hSw
        go_simp
        with_reducible rfl
      try simp only [Act.put, List.setIfInBounds_toArray, List.set_cons_zero, List.set_cons_succ]
      refine wpAnyH_take (i := 22) (v := ?_) rfl (by kernel_rfl) (by kernel_rfl) (by kernel_rfl) (fun _ _ _ h => h) (Or.inl ⟨by rfl, ?_⟩) (by assumption) ?_
      rotate_left
      · intro W hSw
        obtain ⟨q0, q1, q2, q3, q4, q5, q6⟩ := hSw
        go_simp
        with_reducible rfl
      try simp only [Act.put, List.setIfInBounds_toArray, List.set_cons_zero, List.set_cons_succ]
      refine wpAnyH_ready (rs := [23]) (by kernel_rfl) (by simp) ?_
      refine AllReadyH.cons (o := _) rfl (fun K' hK => ?_) ?_
      · go_simp
        refine hK.out _ _ (SA.out) (fun hHeld => ?_)
        clear hK K'
        try simp only [Act.put, List.setIfInBounds_toArray, List.set_cons_zero, List.set_cons_succ]
        refine wpAnyH_ready (rs := [24]) (by kernel_rfl) (by simp) ?_
        refine AllReadyH.cons (o := _) rfl (fun K' hK => ?_) ?_
        · go_simp
          refine hK.out _ _ (SB.out) (fun hHeld => ?_)
          clear hK K'
          try simp only [Act.put, List.setIfInBounds_toArray, List.set_cons_zero, List.set_cons_succ]
          refine wpAnyH_take (i := 25) (v := ?_) rfl (by kernel_rfl) (by kernel_rfl) (by kernel_rfl) (fun _ _ _ h => h) (Or.inl ⟨by rfl, ?_⟩) (by assumption) ?_
          rotate_left
          · intro W hSw
            obtain ⟨q0, q1, q2, q3, q4, q5, q6⟩ := hSw
            go_simp
            with_reducible rfl
          try simp only [Act.put, List.setIfInBounds_toArray, List.set_cons_zero, List.set_cons_succ]
          refine wpAnyH_done (by kernel_rfl) ?_ _
          go_wp2_with fail
          go_roundw
          case rel => exact ⟨i + 1, a1, c1, by rw [HTl.out], by go_num, by omega, GN.out, ON.out⟩
          case measure => simp [intOf]; omega
        exact AllReadyH.nil
      exact AllReadyH.nil
    · have hin1 : ¬ (i : Int) < (s.length : Int) := by omega
      have e : (doneH s t g).take i = doneH s t g := List.take_of_length_le (by rw [doneH_len]; omega)
      have Fin : Hid (RowD (doneH s t g) w (.returned (.slice ar (doneH s t g).length cr)) wr) := ⟨ar, cr, rfl, ints_of_row (by have := OW.out; rw [e] at this; exact this), grown_trans G1.out G.out⟩
      rw [e]
      generalize doneH s t g = zs at *
      clear OW
      go_wp2_with fail
      go_ret
      exact Fin.out

end Go.Proofs.Ytbkfcfhkjnfbmaa
