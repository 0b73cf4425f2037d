/- A saying any number of times, two one behind the other, either of two: the program's again, then, or. -/
import Derived.Test.YticmfgclkepgoaaRSayW
import Derived.Test.YticmfgclkepgoaaRYs
import Derived.Deep.RegionHeld3
import Derived.Deep.CutRange
import Derived.Deep.DeepCutAuto
namespace Go.Proofs.Yticmfgclkepgoaa
open Go.RowKit
set_option linter.unusedVariables false
set_option linter.unusedSimpArgs false

abbrev yV (x : Sy) : Value := .agg #[.string x.1, .int .i64 (x.2 : Int)]
theorem within_y (x : Sy) (l : Nat) (w : World) (hT : x.1.size ≤ 100000) : Calls Try.prog 40 #[yV x, .int .i64 (l : Int)] w (Says (.string (withinT x.1 x.2 l)) w) := within_any x.1 x.2 l w hT
theorem none_y (w : World) : Calls Try.prog 38 #[] w (Says (yV noneY) w) := noneP_any w
theorem empty_y (w : World) : Calls Try.prog 39 #[] w (Says (yV emptyY) w) := emptyP_any w
theorem eqY (x y : Sy) (w : World) : (Op.equalIn 10000 57 (yV x) (yV y)).run Try.prog w = .ok (decide (x = y)) w := by
  obtain ⟨T, k⟩ := x
  obtain ⟨T', k'⟩ := y
  simp [go_sem]
  rw [ByteArray.toList_eq, ByteArray.toList_eq]
  have e1 : T.data.toList = T'.data.toList ↔ T = T' := ⟨fun h => ByteArray.ext (Array.toList_inj.mp h), fun h => by rw [h]⟩
  have e2 : (k : Int) = (k' : Int) ↔ k = k' := by omega
  by_cases h1 : T = T'
  · by_cases h2 : k = k'
    · simp [h1, h2]
    · simp [h1, h2, e2]
  · simp [h1, e1]
theorem skip_opY {o : Oper} {y : Nat → Option Bool} {A E : Prop} (hw : Region.wanted o y = false) (h : E) : if Region.wanted o y = true then A else E := by rw [hw]; simpa using h
def YMid (W1 : World) (b : Bool) (v : Value) (wc : World) : Prop := v = .bool b ∧ W1.grownBy wc none
/-- The boxes of one saying, of two, as they are read. -/
def SY1 (s : Nat) (T : ByteArray) (k : Nat) (W : World) : Prop := W.cell? ⟨s, 0, none⟩ = some (.string T) ∧ W.cell? ⟨s, 1, none⟩ = some (.int .i64 (k : Int))
theorem SY1.kept {s k : Nat} {T : ByteArray} {W W' : World} (h : SY1 s T k W) (hg : W.grownBy W' none) : SY1 s T k W' := ⟨hg.cell h.1 (by simp), hg.cell h.2 (by simp)⟩
def SY (s : Nat) (T : ByteArray) (k : Nat) (U : ByteArray) (m : Nat) (W : World) : Prop := W.cell? ⟨s, 0, none⟩ = some (.string T) ∧ W.cell? ⟨s, 1, none⟩ = some (.int .i64 (k : Int)) ∧ W.cell? ⟨s + 1, 0, none⟩ = some (.string U) ∧ W.cell? ⟨s + 1, 1, none⟩ = some (.int .i64 (m : Int))
theorem SY.kept {s k m : Nat} {T U : ByteArray} {W W' : World} (h : SY s T k U m W) (hg : W.grownBy W' none) : SY s T k U m W' := ⟨hg.cell h.1 (by simp), hg.cell h.2.1 (by simp), hg.cell h.2.2.1 (by simp), hg.cell h.2.2.2 (by simp)⟩
theorem SY.far {s k m : Nat} {T U : ByteArray} {W W' : World} {v0 v1 : Value} (h : SY s T k U m W) (e : W' = (W.setCell ⟨s + 2, 0, none⟩ v0).setCell ⟨s + 2, 1, none⟩ v1) : SY s T k U m W' := by
  have hg : W.grownBy W' (some (s + 2)) := by rw [e]; exact grown_trans (grown_set _ _ _) (grown_set _ _ _)
  exact ⟨hg.cell h.1 (by simp), hg.cell h.2.1 (by simp), hg.cell h.2.2.1 (by simp), hg.cell h.2.2.2 (by simp)⟩
/-- Boxes: a saying or two, and a result. -/
theorem say_boxes1 (w : World) (x : Sy) : ∃ W, W = (w.alloc (.cells #[.string x.1, .int .i64 (x.2 : Int)] 57)).alloc (.cells #[.string ⟨#[]⟩, .int .i64 0] 57) ∧ w.grownBy W none ∧ W.heap.size = w.heap.size + 2 ∧ C2 W w.heap.size x.1 x.2 ∧ True ∧ C2 W (w.heap.size + 1) ⟨#[]⟩ 0 := by
  obtain ⟨W0, h0, g0, s0, c0⟩ := c2_new w x.1 x.2
  obtain ⟨W1, h1, g1, s1, c1⟩ := c2_new W0 ⟨#[]⟩ 0
  rw [s0] at c1
  exact ⟨W1, by rw [h1, h0], grown_trans g0 g1, by omega, c0.kept g1, trivial, c1⟩
theorem say_boxes2 (w : World) (x y : Sy) : ∃ W, W = ((w.alloc (.cells #[.string x.1, .int .i64 (x.2 : Int)] 57)).alloc (.cells #[.string y.1, .int .i64 (y.2 : Int)] 57)).alloc (.cells #[.string ⟨#[]⟩, .int .i64 0] 57) ∧ w.grownBy W none ∧ W.heap.size = w.heap.size + 3 ∧ C2 W w.heap.size x.1 x.2 ∧ C2 W (w.heap.size + 1) y.1 y.2 ∧ C2 W (w.heap.size + 2) ⟨#[]⟩ 0 := by
  obtain ⟨W0, h0, g0, s0, c0⟩ := c2_new w x.1 x.2
  obtain ⟨W1, h1, g1, s1, c1⟩ := c2_new W0 y.1 y.2
  obtain ⟨W2, h2, g2, s2, c2⟩ := c2_new W1 ⟨#[]⟩ 0
  rw [s0] at c1
  have e : W1.heap.size = w.heap.size + 2 := by omega
  rw [e] at c2
  exact ⟨W2, by rw [h2, h1, h0], grown_trans g0 (grown_trans g1 g2), by omega, (c0.kept g1).kept g2, c1.kept g2, c2⟩
theorem C2.put {W : World} {b : Nat} {T : ByteArray} {k : Int} (h : C2 W b T k) (T' : ByteArray) (k' : Int) :
    W.cell? ⟨b, 0, none⟩ = some (.string T) ∧ W.cell? ⟨b, 1, none⟩ = some (.int .i64 k) ∧ (∀ j, W.frozen? ⟨b, j, none⟩ = false) ∧ ∃ W', W' = (W.setCell ⟨b, 0, none⟩ (.string T')).setCell ⟨b, 1, none⟩ (.int .i64 k') ∧ W.grownBy W' (some b) ∧ C2 W' b T' k' := by
  have h1 := heap_setCell_same W b 0 _ _ (.string T') h
  have h2 := heap_setCell_same _ b 1 _ _ (.int .i64 k') h1
  exact ⟨h.get.1, h.get.2, h.fz, _, rfl, grown_trans (grown_set _ _ _) (grown_set _ _ _), by show _ = _; simpa using h2⟩

theorem within_size (T : ByteArray) (k l : Nat) : (withinT T k l).size ≤ T.size + 2 := by
  unfold withinT
  split
  · omega
  · rw [ByteArray.size_append, ByteArray.size_append]
    have e1 : (oneT 40).size = 1 := rfl
    have e2 : (oneT 41).size = 1 := rfl
    omega

set_option maxHeartbeats 12800000 in
set_option maxRecDepth 100000 in
theorem again_any (x : Sy) (w : World) (hT : x.1.size ≤ 50000) : Calls Try.prog 24 #[yV x] w (Says (yV (againY x)) w) := by
  obtain ⟨W1, hW1, g1, s1, c1, cy, c2⟩ := say_boxes1 w x
  have HW1 : Hid (W1 = _) := hW1
  have G1 : Hid (w.grownBy W1 none) := g1
  have CX : Hid (∀ V, W1.grownBy V none → SY1 w.heap.size x.1 x.2 V) := fun V hV => ⟨(c1.kept hV).get.1, (c1.kept hV).get.2⟩
  have CR : Hid (∀ V, W1.grownBy V none → C2 V (w.heap.size + 1) ⟨#[]⟩ 0) := fun V hV => c2.kept hV
  have CN : Hid (∀ V, Calls Try.prog 38 #[] V (Says (yV noneY) V)) := none_y
  have CE : Hid (∀ V, Calls Try.prog 39 #[] V (Says (yV emptyY) V)) := empty_y
  have CW : Hid (∀ (l : Nat) V, Calls Try.prog 40 #[yV x, .int .i64 (l : Int)] V (Says (.string (withinT x.1 x.2 l)) V)) := fun l V => within_y x l V (by omega)
  have hsz := fun l => within_size x.1 x.2 l
  have En := fun V => eqY x noneY V
  have Ee := fun V => eqY x emptyY V
  have HB : Hid (∀ (r1 : ByteArray) (r2 : Nat) V, W1.grownBy V none → ∃ W', W' = (V.setCell ⟨w.heap.size + 1, 0, none⟩ (.string r1)).setCell ⟨w.heap.size + 1, 1, none⟩ (.int .i64 (r2 : Int)) ∧ Hid (w.grownBy W' none) ∧ W'.cell? ⟨w.heap.size + 1, 0, none⟩ = some (.string r1) ∧ W'.cell? ⟨w.heap.size + 1, 1, none⟩ = some (.int .i64 (r2 : Int))) := fun r1 r2 V hV => by
    obtain ⟨_, _, _, W', hW', g', c'⟩ := (c2.kept hV).put r1 r2
    exact ⟨W', hW', grown_new (grown_trans g1 hV) g' (by omega), c'.get.1, c'.get.2⟩
  have HA : Hid (againY x = againY x) := rfl
  have HA2 := HA.out
  conv at HA2 => rhs; unfold againY
  obtain ⟨r, hr⟩ : ∃ r, againY x = r := ⟨_, rfl⟩
  rw [hr] at HA2 ⊢
  have HR : Hid (r = _) := HA2
  clear hW1 g1 s1 c1 cy c2 hr HA HA2
  obtain ⟨ny, hny⟩ : ∃ y, noneY = y := ⟨_, rfl⟩
  obtain ⟨ey, hey⟩ : ∃ y, emptyY = y := ⟨_, rfl⟩
  rw [hny] at En CN HR
  rw [hey] at Ee CE HR
  clear hny hey
  obtain ⟨T, k⟩ := x
  skip
  obtain ⟨nT, nk⟩ := ny
  obtain ⟨eT, ek⟩ := ey
  simp only at *
  by_cases h1 : ((T, k) : Sy) = (nT, nk)
  case pos =>
    have Qxn : ∀ V, (Op.equalIn 10000 57 (.agg #[.string T, .int .i64 (k : Int)]) (.agg #[.string nT, .int .i64 (nk : Int)])).run Try.prog V = .ok true V := fun V => by rw [En V, decide_eq_true h1]
    have Hres : Hid (∀ V, w.grownBy V none → Says (yV r) w (.returned (.agg #[.string (eT), .int .i64 ((ek : Nat) : Int)])) V) := fun V hV => ⟨by have e := HR.out; rw [if_pos (.inl h1)] at e; rw [e], hV⟩
    clear En Ee HR
    clear h1
    go_enter Try.func24, Try.ntmps24
    go_wp2_with fail
    rw [← HW1.out]
    have gD : W1.grownBy (W1).drew none := grown_drew (grown_refl _ _)
    have SS := CX.out _ gD
    refine wp_region_held_drew (S := SY1 w.heap.size T k) (by kernel_rfl) (SS) (fun hHeld => ?_)
    refine wpAnyH_take (i := 0) (v := ?_) rfl (by kernel_rfl) (by kernel_rfl) (by kernel_rfl) (fun _ _ _ h => h) (Or.inl ⟨by rfl, ?_⟩) (by assumption) ?_
    rotate_left
    · intro W hSw
      obtain ⟨t1, t2⟩ := hSw
      go_simp
      with_reducible rfl
    try simp only [Act.put, List.getElem_toArray, List.getElem_cons_succ, List.getElem_cons_zero, List.setIfInBounds_toArray, List.set_cons_zero, List.set_cons_succ]
    refine wpAnyH_ready (rs := [1]) (by kernel_rfl) (by simp) ?_
    refine AllReadyH.cons (o := _) rfl (fun K' hK => ?_) ?_
    · go_simp
      refine (CN.out _).mono ?_
      rintro e w9 ⟨rfl, hg9⟩
      have gD := grown_trans gD hg9
      go_wp2_with fail
      refine hK.out _ _ (hHeld.kept hg9) (fun hHeld => ?_)
      clear hK K'
      try simp only [Act.put, List.getElem_toArray, List.getElem_cons_succ, List.getElem_cons_zero, List.setIfInBounds_toArray, List.set_cons_zero, List.set_cons_succ]
      refine wpAnyH_take (i := 2) (v := ?_) rfl (by kernel_rfl) (by kernel_rfl) (by kernel_rfl) (fun _ _ _ h => h) (Or.inl ⟨by rfl, ?_⟩) (by assumption) ?_
      rotate_left
      · intro W hSw
        obtain ⟨t1, t2⟩ := hSw
        go_simp
        with_reducible rfl
      try simp only [Act.put, List.getElem_toArray, List.getElem_cons_succ, List.getElem_cons_zero, List.setIfInBounds_toArray, List.set_cons_zero, List.set_cons_succ]
      refine wpAnyH_take (i := 3) (v := ?_) rfl (by kernel_rfl) (by kernel_rfl) (by kernel_rfl) (fun _ _ _ h => h) (Or.inl ⟨by rfl, ?_⟩) (by assumption) ?_
      rotate_left
      · intro W hSw
        obtain ⟨t1, t2⟩ := hSw
        go_simp
        with_reducible rfl
      try simp only [Act.put, List.getElem_toArray, List.getElem_cons_succ, List.getElem_cons_zero, List.setIfInBounds_toArray, List.set_cons_zero, List.set_cons_succ]
      refine wpAnyH_take (i := 4) (v := undef) rfl (by kernel_rfl) (by kernel_rfl) (by kernel_rfl) (fun _ _ _ h => h) (Or.inr ⟨by rfl, rfl⟩) (by assumption) ?_
      try simp only [Act.put, List.getElem_toArray, List.getElem_cons_succ, List.getElem_cons_zero, List.setIfInBounds_toArray, List.set_cons_zero, List.set_cons_succ]
      refine wpAnyH_take (i := 5) (v := undef) rfl (by kernel_rfl) (by kernel_rfl) (by kernel_rfl) (fun _ _ _ h => h) (Or.inr ⟨by rfl, rfl⟩) (by assumption) ?_
      try simp only [Act.put, List.getElem_toArray, List.getElem_cons_succ, List.getElem_cons_zero, List.setIfInBounds_toArray, List.set_cons_zero, List.set_cons_succ]
      refine wpAnyH_take (i := 6) (v := undef) rfl (by kernel_rfl) (by kernel_rfl) (by kernel_rfl) (fun _ _ _ h => h) (Or.inr ⟨by rfl, rfl⟩) (by assumption) ?_
      try simp only [Act.put, List.getElem_toArray, List.getElem_cons_succ, List.getElem_cons_zero, List.setIfInBounds_toArray, List.set_cons_zero, List.set_cons_succ]
      refine wpAnyH_take (i := 7) (v := ?_) rfl (by kernel_rfl) (by kernel_rfl) (by kernel_rfl) (fun _ _ _ h => h) (Or.inl ⟨by rfl, ?_⟩) (by assumption) ?_
      rotate_left
      · intro W hSw
        obtain ⟨t1, t2⟩ := hSw
        go_simp
        with_reducible rfl
      try simp only [Act.put, List.getElem_toArray, List.getElem_cons_succ, List.getElem_cons_zero, List.setIfInBounds_toArray, List.set_cons_zero, List.set_cons_succ]
      refine wpAnyH_done (by kernel_rfl) ?_ _
      go_wp2_with fail
      refine (CE.out _).mono ?_
      rintro e w5 ⟨rfl, hg5⟩
      have G5 := grown_trans gD hg5
      obtain ⟨W5, hW5, GF, q0, q1⟩ := HB.out (eT) (ek) w5 G5
      obtain ⟨z0, z1, zf, _⟩ := (CR.out w5 G5).put (eT) (ek : Nat)
      have HW5 : Hid (W5 = _) := hW5
      clear hW5
      go_wp2_with fail
      rw [← HW5.out]
      exact bodyPost_ret (v := .agg #[.string (eT), .int .i64 (ek : Int)]) (by simp [results, Try.results24, go_sem, q0, q1]) rfl (Hres.out _ GF.out)
    exact AllReadyH.nil
  have Qxn : ∀ V, (Op.equalIn 10000 57 (.agg #[.string T, .int .i64 (k : Int)]) (.agg #[.string nT, .int .i64 (nk : Int)])).run Try.prog V = .ok false V := fun V => by rw [En V, decide_eq_false h1]
  by_cases h2 : ((T, k) : Sy) = (eT, ek)
  case pos =>
    have Qxe : ∀ V, (Op.equalIn 10000 57 (.agg #[.string T, .int .i64 (k : Int)]) (.agg #[.string eT, .int .i64 (ek : Int)])).run Try.prog V = .ok true V := fun V => by rw [Ee V, decide_eq_true h2]
    have Hres : Hid (∀ V, w.grownBy V none → Says (yV r) w (.returned (.agg #[.string (eT), .int .i64 ((ek : Nat) : Int)])) V) := fun V hV => ⟨by have e := HR.out; rw [if_pos (.inr h2)] at e; rw [e], hV⟩
    clear En Ee HR
    clear h1 h2
    go_enter Try.func24, Try.ntmps24
    go_wp2_with fail
    rw [← HW1.out]
    have gD : W1.grownBy (W1).drew none := grown_drew (grown_refl _ _)
    have SS := CX.out _ gD
    refine wp_region_held_drew (S := SY1 w.heap.size T k) (by kernel_rfl) (SS) (fun hHeld => ?_)
    refine wpAnyH_take (i := 0) (v := ?_) rfl (by kernel_rfl) (by kernel_rfl) (by kernel_rfl) (fun _ _ _ h => h) (Or.inl ⟨by rfl, ?_⟩) (by assumption) ?_
    rotate_left
    · intro W hSw
      obtain ⟨t1, t2⟩ := hSw
      go_simp
      with_reducible rfl
    try simp only [Act.put, List.getElem_toArray, List.getElem_cons_succ, List.getElem_cons_zero, List.setIfInBounds_toArray, List.set_cons_zero, List.set_cons_succ]
    refine wpAnyH_ready (rs := [1]) (by kernel_rfl) (by simp) ?_
    refine AllReadyH.cons (o := _) rfl (fun K' hK => ?_) ?_
    · go_simp
      refine (CN.out _).mono ?_
      rintro e w9 ⟨rfl, hg9⟩
      have gD := grown_trans gD hg9
      go_wp2_with fail
      refine hK.out _ _ (hHeld.kept hg9) (fun hHeld => ?_)
      clear hK K'
      try simp only [Act.put, List.getElem_toArray, List.getElem_cons_succ, List.getElem_cons_zero, List.setIfInBounds_toArray, List.set_cons_zero, List.set_cons_succ]
      refine wpAnyH_take (i := 2) (v := ?_) rfl (by kernel_rfl) (by kernel_rfl) (by kernel_rfl) (fun _ _ _ h => h) (Or.inl ⟨by rfl, ?_⟩) (by assumption) ?_
      rotate_left
      · intro W hSw
        obtain ⟨t1, t2⟩ := hSw
        go_simp
        with_reducible rfl
      try simp only [Act.put, List.getElem_toArray, List.getElem_cons_succ, List.getElem_cons_zero, List.setIfInBounds_toArray, List.set_cons_zero, List.set_cons_succ]
      refine wpAnyH_take (i := 3) (v := ?_) rfl (by kernel_rfl) (by kernel_rfl) (by kernel_rfl) (fun _ _ _ h => h) (Or.inl ⟨by rfl, ?_⟩) (by assumption) ?_
      rotate_left
      · intro W hSw
        obtain ⟨t1, t2⟩ := hSw
        go_simp
        with_reducible rfl
      try simp only [Act.put, List.getElem_toArray, List.getElem_cons_succ, List.getElem_cons_zero, List.setIfInBounds_toArray, List.set_cons_zero, List.set_cons_succ]
      refine wpAnyH_take (i := 4) (v := ?_) rfl (by kernel_rfl) (by kernel_rfl) (by kernel_rfl) (fun _ _ _ h => h) (Or.inl ⟨by rfl, ?_⟩) (by assumption) ?_
      rotate_left
      · intro W hSw
        obtain ⟨t1, t2⟩ := hSw
        go_simp
        with_reducible rfl
      try simp only [Act.put, List.getElem_toArray, List.getElem_cons_succ, List.getElem_cons_zero, List.setIfInBounds_toArray, List.set_cons_zero, List.set_cons_succ]
      refine wpAnyH_ready (rs := [5]) (by kernel_rfl) (by simp) ?_
      refine AllReadyH.cons (o := _) rfl (fun K' hK => ?_) ?_
      · go_simp
        refine (CE.out _).mono ?_
        rintro e w9 ⟨rfl, hg9⟩
        have gD := grown_trans gD hg9
        go_wp2_with fail
        refine hK.out _ _ (hHeld.kept hg9) (fun hHeld => ?_)
        clear hK K'
        try simp only [Act.put, List.getElem_toArray, List.getElem_cons_succ, List.getElem_cons_zero, List.setIfInBounds_toArray, List.set_cons_zero, List.set_cons_succ]
        refine wpAnyH_take (i := 6) (v := ?_) rfl (by kernel_rfl) (by kernel_rfl) (by kernel_rfl) (fun _ _ _ h => h) (Or.inl ⟨by rfl, ?_⟩) (by assumption) ?_
        rotate_left
        · intro W hSw
          obtain ⟨t1, t2⟩ := hSw
          go_simp
          with_reducible rfl
        try simp only [Act.put, List.getElem_toArray, List.getElem_cons_succ, List.getElem_cons_zero, List.setIfInBounds_toArray, List.set_cons_zero, List.set_cons_succ]
        refine wpAnyH_take (i := 7) (v := ?_) rfl (by kernel_rfl) (by kernel_rfl) (by kernel_rfl) (fun _ _ _ h => h) (Or.inl ⟨by rfl, ?_⟩) (by assumption) ?_
        rotate_left
        · intro W hSw
          obtain ⟨t1, t2⟩ := hSw
          go_simp
          with_reducible rfl
        try simp only [Act.put, List.getElem_toArray, List.getElem_cons_succ, List.getElem_cons_zero, List.setIfInBounds_toArray, List.set_cons_zero, List.set_cons_succ]
        refine wpAnyH_done (by kernel_rfl) ?_ _
        go_wp2_with fail
        refine (CE.out _).mono ?_
        rintro e w5 ⟨rfl, hg5⟩
        have G5 := grown_trans gD hg5
        obtain ⟨W5, hW5, GF, q0, q1⟩ := HB.out (eT) (ek) w5 G5
        obtain ⟨z0, z1, zf, _⟩ := (CR.out w5 G5).put (eT) (ek : Nat)
        have HW5 : Hid (W5 = _) := hW5
        clear hW5
        go_wp2_with fail
        rw [← HW5.out]
        exact bodyPost_ret (v := .agg #[.string (eT), .int .i64 (ek : Int)]) (by simp [results, Try.results24, go_sem, q0, q1]) rfl (Hres.out _ GF.out)
      exact AllReadyH.nil
    exact AllReadyH.nil
  have Qxe : ∀ V, (Op.equalIn 10000 57 (.agg #[.string T, .int .i64 (k : Int)]) (.agg #[.string eT, .int .i64 (ek : Int)])).run Try.prog V = .ok false V := fun V => by rw [Ee V, decide_eq_false h2]
  have Hres : Hid (∀ V, w.grownBy V none → Says (yV r) w (.returned (.agg #[.string (withinT T k 0 ++ ⟨#[42]⟩), .int .i64 ((1 : Nat) : Int)])) V) := fun V hV => ⟨by have e := HR.out; rw [if_neg (fun e => e.elim h1 h2)] at e; rw [e]; try rfl, hV⟩
  clear En Ee HR
  clear h1 h2
  have C0 : Hid (∀ V, Calls Try.prog 40 #[yV (T, k), .int .i64 0] V (Says (.string (withinT T k 0)) V)) := fun V => CW.out 0 V
  have hz0 := hsz 0
  clear CW hsz
  generalize withinT T k 0 = TW at *
  have hns : ¬ 9223372036854775807 < TW.size + 1 := by omega
  go_enter Try.func24, Try.ntmps24
  go_wp2_with fail
  rw [← HW1.out]
  have gD : W1.grownBy (W1).drew none := grown_drew (grown_refl _ _)
  have SS := CX.out _ gD
  refine wp_region_held_drew (S := SY1 w.heap.size T k) (by kernel_rfl) (SS) (fun hHeld => ?_)
  refine wpAnyH_take (i := 0) (v := ?_) rfl (by kernel_rfl) (by kernel_rfl) (by kernel_rfl) (fun _ _ _ h => h) (Or.inl ⟨by rfl, ?_⟩) (by assumption) ?_
  rotate_left
  · intro W hSw
    obtain ⟨t1, t2⟩ := hSw
    go_simp
    with_reducible rfl
  try simp only [Act.put, List.getElem_toArray, List.getElem_cons_succ, List.getElem_cons_zero, List.setIfInBounds_toArray, List.set_cons_zero, List.set_cons_succ]
  refine wpAnyH_ready (rs := [1]) (by kernel_rfl) (by simp) ?_
  refine AllReadyH.cons (o := _) rfl (fun K' hK => ?_) ?_
  · go_simp
    refine (CN.out _).mono ?_
    rintro e w9 ⟨rfl, hg9⟩
    have gD := grown_trans gD hg9
    go_wp2_with fail
    refine hK.out _ _ (hHeld.kept hg9) (fun hHeld => ?_)
    clear hK K'
    try simp only [Act.put, List.getElem_toArray, List.getElem_cons_succ, List.getElem_cons_zero, List.setIfInBounds_toArray, List.set_cons_zero, List.set_cons_succ]
    refine wpAnyH_take (i := 2) (v := ?_) rfl (by kernel_rfl) (by kernel_rfl) (by kernel_rfl) (fun _ _ _ h => h) (Or.inl ⟨by rfl, ?_⟩) (by assumption) ?_
    rotate_left
    · intro W hSw
      obtain ⟨t1, t2⟩ := hSw
      go_simp
      with_reducible rfl
    try simp only [Act.put, List.getElem_toArray, List.getElem_cons_succ, List.getElem_cons_zero, List.setIfInBounds_toArray, List.set_cons_zero, List.set_cons_succ]
    refine wpAnyH_take (i := 3) (v := ?_) rfl (by kernel_rfl) (by kernel_rfl) (by kernel_rfl) (fun _ _ _ h => h) (Or.inl ⟨by rfl, ?_⟩) (by assumption) ?_
    rotate_left
    · intro W hSw
      obtain ⟨t1, t2⟩ := hSw
      go_simp
      with_reducible rfl
    try simp only [Act.put, List.getElem_toArray, List.getElem_cons_succ, List.getElem_cons_zero, List.setIfInBounds_toArray, List.set_cons_zero, List.set_cons_succ]
    refine wpAnyH_take (i := 4) (v := ?_) rfl (by kernel_rfl) (by kernel_rfl) (by kernel_rfl) (fun _ _ _ h => h) (Or.inl ⟨by rfl, ?_⟩) (by assumption) ?_
    rotate_left
    · intro W hSw
      obtain ⟨t1, t2⟩ := hSw
      go_simp
      with_reducible rfl
    try simp only [Act.put, List.getElem_toArray, List.getElem_cons_succ, List.getElem_cons_zero, List.setIfInBounds_toArray, List.set_cons_zero, List.set_cons_succ]
    refine wpAnyH_ready (rs := [5]) (by kernel_rfl) (by simp) ?_
    refine AllReadyH.cons (o := _) rfl (fun K' hK => ?_) ?_
    · go_simp
      refine (CE.out _).mono ?_
      rintro e w9 ⟨rfl, hg9⟩
      have gD := grown_trans gD hg9
      go_wp2_with fail
      refine hK.out _ _ (hHeld.kept hg9) (fun hHeld => ?_)
      clear hK K'
      try simp only [Act.put, List.getElem_toArray, List.getElem_cons_succ, List.getElem_cons_zero, List.setIfInBounds_toArray, List.set_cons_zero, List.set_cons_succ]
      refine wpAnyH_take (i := 6) (v := ?_) rfl (by kernel_rfl) (by kernel_rfl) (by kernel_rfl) (fun _ _ _ h => h) (Or.inl ⟨by rfl, ?_⟩) (by assumption) ?_
      rotate_left
      · intro W hSw
        obtain ⟨t1, t2⟩ := hSw
        go_simp
        with_reducible rfl
      try simp only [Act.put, List.getElem_toArray, List.getElem_cons_succ, List.getElem_cons_zero, List.setIfInBounds_toArray, List.set_cons_zero, List.set_cons_succ]
      refine wpAnyH_take (i := 7) (v := ?_) rfl (by kernel_rfl) (by kernel_rfl) (by kernel_rfl) (fun _ _ _ h => h) (Or.inl ⟨by rfl, ?_⟩) (by assumption) ?_
      rotate_left
      · intro W hSw
        obtain ⟨t1, t2⟩ := hSw
        go_simp
        with_reducible rfl
      try simp only [Act.put, List.getElem_toArray, List.getElem_cons_succ, List.getElem_cons_zero, List.setIfInBounds_toArray, List.set_cons_zero, List.set_cons_succ]
      refine wpAnyH_done (by kernel_rfl) ?_ _
      obtain ⟨u1, u2⟩ := CX.out w9 gD
      go_wp2_with fail
      refine (C0.out _).mono ?_
      rintro e w5 ⟨rfl, hg5⟩
      have G5 := grown_trans gD hg5
      obtain ⟨W5, hW5, GF, q0, q1⟩ := HB.out (TW ++ ⟨#[42]⟩) (1) w5 G5
      obtain ⟨z0, z1, zf, _⟩ := (CR.out w5 G5).put (TW ++ ⟨#[42]⟩) (1 : Nat)
      have ec : ((1 : Nat) : Int) = 1 := rfl
      rw [ec] at hW5 q1
      have HW5 : Hid (W5 = _) := hW5
      clear hW5
      go_wp2_with fail
      rw [← HW5.out]
      exact bodyPost_ret (v := .agg #[.string (TW ++ ⟨#[42]⟩), .int .i64 1]) (by simp [results, Try.results24, go_sem, q0, q1]) rfl (Hres.out _ GF.out)
    exact AllReadyH.nil
  exact AllReadyH.nil

set_option maxHeartbeats 12800000 in
set_option maxRecDepth 100000 in
theorem or_any (x : Sy) (y : Sy) (w : World) (hT : x.1.size ≤ 50000) (hU : y.1.size ≤ 50000) : Calls Try.prog 26 #[yV x, yV y] w (Says (yV (orY x y)) w) := by
  obtain ⟨W1, hW1, g1, s1, c1, cy, c2⟩ := say_boxes2 w x y
  have HW1 : Hid (W1 = _) := hW1
  have G1 : Hid (w.grownBy W1 none) := g1
  have CX : Hid (∀ V, W1.grownBy V none → SY w.heap.size x.1 x.2 y.1 y.2 V) := fun V hV => ⟨(c1.kept hV).get.1, (c1.kept hV).get.2, (cy.kept hV).get.1, (cy.kept hV).get.2⟩
  have CR : Hid (∀ V, W1.grownBy V none → C2 V (w.heap.size + 2) ⟨#[]⟩ 0) := fun V hV => c2.kept hV
  have CN : Hid (∀ V, Calls Try.prog 38 #[] V (Says (yV noneY) V)) := none_y
  have CE : Hid (∀ V, Calls Try.prog 39 #[] V (Says (yV emptyY) V)) := empty_y
  have CW : Hid (∀ (l : Nat) V, Calls Try.prog 40 #[yV x, .int .i64 (l : Int)] V (Says (.string (withinT x.1 x.2 l)) V)) := fun l V => within_y x l V (by omega)
  have hsz := fun l => within_size x.1 x.2 l
  have CY : Hid (∀ (l : Nat) V, Calls Try.prog 40 #[yV y, .int .i64 (l : Int)] V (Says (.string (withinT y.1 y.2 l)) V)) := fun l V => within_y y l V (by omega)
  have hsy := fun l => within_size y.1 y.2 l
  have Fn := fun V => eqY y noneY V
  have Fe := fun V => eqY y emptyY V
  have Exy := fun V => eqY x y V
  have En := fun V => eqY x noneY V
  have Ee := fun V => eqY x emptyY V
  have HB : Hid (∀ (r1 : ByteArray) (r2 : Nat) V, W1.grownBy V none → ∃ W', W' = (V.setCell ⟨w.heap.size + 2, 0, none⟩ (.string r1)).setCell ⟨w.heap.size + 2, 1, none⟩ (.int .i64 (r2 : Int)) ∧ Hid (w.grownBy W' none) ∧ W'.cell? ⟨w.heap.size + 2, 0, none⟩ = some (.string r1) ∧ W'.cell? ⟨w.heap.size + 2, 1, none⟩ = some (.int .i64 (r2 : Int))) := fun r1 r2 V hV => by
    obtain ⟨_, _, _, W', hW', g', c'⟩ := (c2.kept hV).put r1 r2
    exact ⟨W', hW', grown_new (grown_trans g1 hV) g' (by omega), c'.get.1, c'.get.2⟩
  have HA : Hid (orY x y = orY x y) := rfl
  have HA2 := HA.out
  conv at HA2 => rhs; unfold orY
  obtain ⟨r, hr⟩ : ∃ r, orY x y = r := ⟨_, rfl⟩
  rw [hr] at HA2 ⊢
  have HR : Hid (r = _) := HA2
  clear hW1 g1 s1 c1 cy c2 hr HA HA2
  obtain ⟨ny, hny⟩ : ∃ y, noneY = y := ⟨_, rfl⟩
  obtain ⟨ey, hey⟩ : ∃ y, emptyY = y := ⟨_, rfl⟩
  rw [hny] at En Fn CN HR
  rw [hey] at Ee Fe CE 
  clear hny hey
  obtain ⟨T, k⟩ := x
  obtain ⟨U, m⟩ := y
  obtain ⟨nT, nk⟩ := ny
  obtain ⟨eT, ek⟩ := ey
  simp only at *
  by_cases h1 : ((T, k) : Sy) = (nT, nk)
  case pos =>
    have Qxn : ∀ V, (Op.equalIn 10000 57 (.agg #[.string T, .int .i64 (k : Int)]) (.agg #[.string nT, .int .i64 (nk : Int)])).run Try.prog V = .ok true V := fun V => by rw [En V, decide_eq_true h1]
    have Hres : Hid (∀ V, w.grownBy V none → Says (yV r) w (.returned (.agg #[.string (U), .int .i64 ((m : Nat) : Int)])) V) := fun V hV => ⟨by have e := HR.out; rw [if_pos (.inl h1)] at e; rw [e], hV⟩
    clear En Ee Fn Fe Exy HR
    clear h1
    go_enter Try.func26, Try.ntmps26
    go_wp2_with fail
    rw [← HW1.out]
    have gD : W1.grownBy (W1).drew none := grown_drew (grown_refl _ _)
    have SS := CX.out _ gD
    refine wp_region_held_drew (S := SY w.heap.size T k U m) (by kernel_rfl) (SS) (fun hHeld => ?_)
    refine wpAnyH_take (i := 0) (v := ?_) rfl (by kernel_rfl) (by kernel_rfl) (by kernel_rfl) (fun _ _ _ h => h) (Or.inl ⟨by rfl, ?_⟩) (by assumption) ?_
    rotate_left
    · intro W hSw
      obtain ⟨t1, t2, t3, t4⟩ := hSw
      go_simp
      with_reducible rfl
    try simp only [Act.put, List.getElem_toArray, List.getElem_cons_succ, List.getElem_cons_zero, List.setIfInBounds_toArray, List.set_cons_zero, List.set_cons_succ]
    refine wpAnyH_ready (rs := [1]) (by kernel_rfl) (by simp) ?_
    refine AllReadyH.cons (o := _) rfl (fun K' hK => ?_) ?_
    · go_simp
      refine (CN.out _).mono ?_
      rintro e w9 ⟨rfl, hg9⟩
      have gD := grown_trans gD hg9
      go_wp2_with fail
      refine hK.out _ _ (hHeld.kept hg9) (fun hHeld => ?_)
      clear hK K'
      try simp only [Act.put, List.getElem_toArray, List.getElem_cons_succ, List.getElem_cons_zero, List.setIfInBounds_toArray, List.set_cons_zero, List.set_cons_succ]
      refine wpAnyH_take (i := 2) (v := ?_) rfl (by kernel_rfl) (by kernel_rfl) (by kernel_rfl) (fun _ _ _ h => h) (Or.inl ⟨by rfl, ?_⟩) (by assumption) ?_
      rotate_left
      · intro W hSw
        obtain ⟨t1, t2, t3, t4⟩ := hSw
        go_simp
        with_reducible rfl
      try simp only [Act.put, List.getElem_toArray, List.getElem_cons_succ, List.getElem_cons_zero, List.setIfInBounds_toArray, List.set_cons_zero, List.set_cons_succ]
      refine wpAnyH_take (i := 3) (v := ?_) rfl (by kernel_rfl) (by kernel_rfl) (by kernel_rfl) (fun _ _ _ h => h) (Or.inl ⟨by rfl, ?_⟩) (by assumption) ?_
      rotate_left
      · intro W hSw
        obtain ⟨t1, t2, t3, t4⟩ := hSw
        go_simp
        with_reducible rfl
      try simp only [Act.put, List.getElem_toArray, List.getElem_cons_succ, List.getElem_cons_zero, List.setIfInBounds_toArray, List.set_cons_zero, List.set_cons_succ]
      refine wpAnyH_take (i := 4) (v := undef) rfl (by kernel_rfl) (by kernel_rfl) (by kernel_rfl) (fun _ _ _ h => h) (Or.inr ⟨by rfl, rfl⟩) (by assumption) ?_
      try simp only [Act.put, List.getElem_toArray, List.getElem_cons_succ, List.getElem_cons_zero, List.setIfInBounds_toArray, List.set_cons_zero, List.set_cons_succ]
      refine wpAnyH_take (i := 5) (v := undef) rfl (by kernel_rfl) (by kernel_rfl) (by kernel_rfl) (fun _ _ _ h => h) (Or.inr ⟨by rfl, rfl⟩) (by assumption) ?_
      try simp only [Act.put, List.getElem_toArray, List.getElem_cons_succ, List.getElem_cons_zero, List.setIfInBounds_toArray, List.set_cons_zero, List.set_cons_succ]
      refine wpAnyH_take (i := 6) (v := undef) rfl (by kernel_rfl) (by kernel_rfl) (by kernel_rfl) (fun _ _ _ h => h) (Or.inr ⟨by rfl, rfl⟩) (by assumption) ?_
      try simp only [Act.put, List.getElem_toArray, List.getElem_cons_succ, List.getElem_cons_zero, List.setIfInBounds_toArray, List.set_cons_zero, List.set_cons_succ]
      refine wpAnyH_take (i := 7) (v := ?_) rfl (by kernel_rfl) (by kernel_rfl) (by kernel_rfl) (fun _ _ _ h => h) (Or.inl ⟨by rfl, ?_⟩) (by assumption) ?_
      rotate_left
      · intro W hSw
        obtain ⟨t1, t2, t3, t4⟩ := hSw
        go_simp
        with_reducible rfl
      try simp only [Act.put, List.getElem_toArray, List.getElem_cons_succ, List.getElem_cons_zero, List.setIfInBounds_toArray, List.set_cons_zero, List.set_cons_succ]
      refine wpAnyH_take (i := 8) (v := ?_) rfl (by kernel_rfl) (by kernel_rfl) (by kernel_rfl) (fun _ _ _ h => h) (Or.inl ⟨by rfl, ?_⟩) (by assumption) ?_
      rotate_left
      · intro W hSw
        obtain ⟨t1, t2, t3, t4⟩ := hSw
        go_simp
        with_reducible rfl
      try simp only [Act.put, List.getElem_toArray, List.getElem_cons_succ, List.getElem_cons_zero, List.setIfInBounds_toArray, List.set_cons_zero, List.set_cons_succ]
      refine wpAnyH_done (by kernel_rfl) ?_ _
      obtain ⟨u1, u2, u3, u4⟩ := CX.out w9 gD
      obtain ⟨W5, hW5, GF, q0, q1⟩ := HB.out (U) (m) w9 gD
      obtain ⟨z0, z1, zf, _⟩ := (CR.out w9 gD).put (U) (m : Nat)
      have HW5 : Hid (W5 = _) := hW5
      clear hW5
      go_wp2_with fail
      rw [← HW5.out]
      exact bodyPost_ret (v := .agg #[.string (U), .int .i64 (m : Int)]) (by simp [results, Try.results26, go_sem, q0, q1]) rfl (Hres.out _ GF.out)
    exact AllReadyH.nil
  have Qxn : ∀ V, (Op.equalIn 10000 57 (.agg #[.string T, .int .i64 (k : Int)]) (.agg #[.string nT, .int .i64 (nk : Int)])).run Try.prog V = .ok false V := fun V => by rw [En V, decide_eq_false h1]
  by_cases h2 : ((T, k) : Sy) = (U, m)
  case pos =>
    have Qxy : ∀ V, (Op.equalIn 10000 57 (.agg #[.string T, .int .i64 (k : Int)]) (.agg #[.string U, .int .i64 (m : Int)])).run Try.prog V = .ok true V := fun V => by rw [Exy V, decide_eq_true h2]
    have Hres : Hid (∀ V, w.grownBy V none → Says (yV r) w (.returned (.agg #[.string (U), .int .i64 ((m : Nat) : Int)])) V) := fun V hV => ⟨by have e := HR.out; rw [if_pos (.inr h2)] at e; rw [e], hV⟩
    clear En Ee Fn Fe Exy HR
    clear h1 h2
    go_enter Try.func26, Try.ntmps26
    go_wp2_with fail
    rw [← HW1.out]
    have gD : W1.grownBy (W1).drew none := grown_drew (grown_refl _ _)
    have SS := CX.out _ gD
    refine wp_region_held_drew (S := SY w.heap.size T k U m) (by kernel_rfl) (SS) (fun hHeld => ?_)
    refine wpAnyH_take (i := 0) (v := ?_) rfl (by kernel_rfl) (by kernel_rfl) (by kernel_rfl) (fun _ _ _ h => h) (Or.inl ⟨by rfl, ?_⟩) (by assumption) ?_
    rotate_left
    · intro W hSw
      obtain ⟨t1, t2, t3, t4⟩ := hSw
      go_simp
      with_reducible rfl
    try simp only [Act.put, List.getElem_toArray, List.getElem_cons_succ, List.getElem_cons_zero, List.setIfInBounds_toArray, List.set_cons_zero, List.set_cons_succ]
    refine wpAnyH_ready (rs := [1]) (by kernel_rfl) (by simp) ?_
    refine AllReadyH.cons (o := _) rfl (fun K' hK => ?_) ?_
    · go_simp
      refine (CN.out _).mono ?_
      rintro e w9 ⟨rfl, hg9⟩
      have gD := grown_trans gD hg9
      go_wp2_with fail
      refine hK.out _ _ (hHeld.kept hg9) (fun hHeld => ?_)
      clear hK K'
      try simp only [Act.put, List.getElem_toArray, List.getElem_cons_succ, List.getElem_cons_zero, List.setIfInBounds_toArray, List.set_cons_zero, List.set_cons_succ]
      refine wpAnyH_take (i := 2) (v := ?_) rfl (by kernel_rfl) (by kernel_rfl) (by kernel_rfl) (fun _ _ _ h => h) (Or.inl ⟨by rfl, ?_⟩) (by assumption) ?_
      rotate_left
      · intro W hSw
        obtain ⟨t1, t2, t3, t4⟩ := hSw
        go_simp
        with_reducible rfl
      try simp only [Act.put, List.getElem_toArray, List.getElem_cons_succ, List.getElem_cons_zero, List.setIfInBounds_toArray, List.set_cons_zero, List.set_cons_succ]
      refine wpAnyH_take (i := 3) (v := ?_) rfl (by kernel_rfl) (by kernel_rfl) (by kernel_rfl) (fun _ _ _ h => h) (Or.inl ⟨by rfl, ?_⟩) (by assumption) ?_
      rotate_left
      · intro W hSw
        obtain ⟨t1, t2, t3, t4⟩ := hSw
        go_simp
        with_reducible rfl
      try simp only [Act.put, List.getElem_toArray, List.getElem_cons_succ, List.getElem_cons_zero, List.setIfInBounds_toArray, List.set_cons_zero, List.set_cons_succ]
      refine wpAnyH_take (i := 4) (v := ?_) rfl (by kernel_rfl) (by kernel_rfl) (by kernel_rfl) (fun _ _ _ h => h) (Or.inl ⟨by rfl, ?_⟩) (by assumption) ?_
      rotate_left
      · intro W hSw
        obtain ⟨t1, t2, t3, t4⟩ := hSw
        go_simp
        with_reducible rfl
      try simp only [Act.put, List.getElem_toArray, List.getElem_cons_succ, List.getElem_cons_zero, List.setIfInBounds_toArray, List.set_cons_zero, List.set_cons_succ]
      refine wpAnyH_take (i := 5) (v := ?_) rfl (by kernel_rfl) (by kernel_rfl) (by kernel_rfl) (fun _ _ _ h => h) (Or.inl ⟨by rfl, ?_⟩) (by assumption) ?_
      rotate_left
      · intro W hSw
        obtain ⟨t1, t2, t3, t4⟩ := hSw
        go_simp
        with_reducible rfl
      try simp only [Act.put, List.getElem_toArray, List.getElem_cons_succ, List.getElem_cons_zero, List.setIfInBounds_toArray, List.set_cons_zero, List.set_cons_succ]
      refine wpAnyH_take (i := 6) (v := ?_) rfl (by kernel_rfl) (by kernel_rfl) (by kernel_rfl) (fun _ _ _ h => h) (Or.inl ⟨by rfl, ?_⟩) (by assumption) ?_
      rotate_left
      · intro W hSw
        obtain ⟨t1, t2, t3, t4⟩ := hSw
        go_simp
        with_reducible rfl
      try simp only [Act.put, List.getElem_toArray, List.getElem_cons_succ, List.getElem_cons_zero, List.setIfInBounds_toArray, List.set_cons_zero, List.set_cons_succ]
      refine wpAnyH_take (i := 7) (v := ?_) rfl (by kernel_rfl) (by kernel_rfl) (by kernel_rfl) (fun _ _ _ h => h) (Or.inl ⟨by rfl, ?_⟩) (by assumption) ?_
      rotate_left
      · intro W hSw
        obtain ⟨t1, t2, t3, t4⟩ := hSw
        go_simp
        with_reducible rfl
      try simp only [Act.put, List.getElem_toArray, List.getElem_cons_succ, List.getElem_cons_zero, List.setIfInBounds_toArray, List.set_cons_zero, List.set_cons_succ]
      refine wpAnyH_take (i := 8) (v := ?_) rfl (by kernel_rfl) (by kernel_rfl) (by kernel_rfl) (fun _ _ _ h => h) (Or.inl ⟨by rfl, ?_⟩) (by assumption) ?_
      rotate_left
      · intro W hSw
        obtain ⟨t1, t2, t3, t4⟩ := hSw
        go_simp
        with_reducible rfl
      try simp only [Act.put, List.getElem_toArray, List.getElem_cons_succ, List.getElem_cons_zero, List.setIfInBounds_toArray, List.set_cons_zero, List.set_cons_succ]
      refine wpAnyH_done (by kernel_rfl) ?_ _
      obtain ⟨u1, u2, u3, u4⟩ := CX.out w9 gD
      obtain ⟨W5, hW5, GF, q0, q1⟩ := HB.out (U) (m) w9 gD
      obtain ⟨z0, z1, zf, _⟩ := (CR.out w9 gD).put (U) (m : Nat)
      have HW5 : Hid (W5 = _) := hW5
      clear hW5
      go_wp2_with fail
      rw [← HW5.out]
      exact bodyPost_ret (v := .agg #[.string (U), .int .i64 (m : Int)]) (by simp [results, Try.results26, go_sem, q0, q1]) rfl (Hres.out _ GF.out)
    exact AllReadyH.nil
  have Qxy : ∀ V, (Op.equalIn 10000 57 (.agg #[.string T, .int .i64 (k : Int)]) (.agg #[.string U, .int .i64 (m : Int)])).run Try.prog V = .ok false V := fun V => by rw [Exy V, decide_eq_false h2]
  by_cases h3 : ((U, m) : Sy) = (nT, nk)
  case pos =>
    have Qyn : ∀ V, (Op.equalIn 10000 57 (.agg #[.string U, .int .i64 (m : Int)]) (.agg #[.string nT, .int .i64 (nk : Int)])).run Try.prog V = .ok true V := fun V => by rw [Fn V, decide_eq_true h3]
    have Hres : Hid (∀ V, w.grownBy V none → Says (yV r) w (.returned (.agg #[.string (T), .int .i64 ((k : Nat) : Int)])) V) := fun V hV => ⟨by have e := HR.out; rw [if_neg (fun e => e.elim h1 h2), if_pos h3] at e; rw [e], hV⟩
    clear En Ee Fn Fe Exy HR
    clear h1 h2 h3
    go_enter Try.func26, Try.ntmps26
    go_wp2_with fail
    rw [← HW1.out]
    have gD : W1.grownBy (W1).drew none := grown_drew (grown_refl _ _)
    have SS := CX.out _ gD
    refine wp_region_held_drew (S := SY w.heap.size T k U m) (by kernel_rfl) (SS) (fun hHeld => ?_)
    refine wpAnyH_take (i := 0) (v := ?_) rfl (by kernel_rfl) (by kernel_rfl) (by kernel_rfl) (fun _ _ _ h => h) (Or.inl ⟨by rfl, ?_⟩) (by assumption) ?_
    rotate_left
    · intro W hSw
      obtain ⟨t1, t2, t3, t4⟩ := hSw
      go_simp
      with_reducible rfl
    try simp only [Act.put, List.getElem_toArray, List.getElem_cons_succ, List.getElem_cons_zero, List.setIfInBounds_toArray, List.set_cons_zero, List.set_cons_succ]
    refine wpAnyH_ready (rs := [1]) (by kernel_rfl) (by simp) ?_
    refine AllReadyH.cons (o := _) rfl (fun K' hK => ?_) ?_
    · go_simp
      refine (CN.out _).mono ?_
      rintro e w9 ⟨rfl, hg9⟩
      have gD := grown_trans gD hg9
      go_wp2_with fail
      refine hK.out _ _ (hHeld.kept hg9) (fun hHeld => ?_)
      clear hK K'
      try simp only [Act.put, List.getElem_toArray, List.getElem_cons_succ, List.getElem_cons_zero, List.setIfInBounds_toArray, List.set_cons_zero, List.set_cons_succ]
      refine wpAnyH_take (i := 2) (v := ?_) rfl (by kernel_rfl) (by kernel_rfl) (by kernel_rfl) (fun _ _ _ h => h) (Or.inl ⟨by rfl, ?_⟩) (by assumption) ?_
      rotate_left
      · intro W hSw
        obtain ⟨t1, t2, t3, t4⟩ := hSw
        go_simp
        with_reducible rfl
      try simp only [Act.put, List.getElem_toArray, List.getElem_cons_succ, List.getElem_cons_zero, List.setIfInBounds_toArray, List.set_cons_zero, List.set_cons_succ]
      refine wpAnyH_take (i := 3) (v := ?_) rfl (by kernel_rfl) (by kernel_rfl) (by kernel_rfl) (fun _ _ _ h => h) (Or.inl ⟨by rfl, ?_⟩) (by assumption) ?_
      rotate_left
      · intro W hSw
        obtain ⟨t1, t2, t3, t4⟩ := hSw
        go_simp
        with_reducible rfl
      try simp only [Act.put, List.getElem_toArray, List.getElem_cons_succ, List.getElem_cons_zero, List.setIfInBounds_toArray, List.set_cons_zero, List.set_cons_succ]
      refine wpAnyH_take (i := 4) (v := ?_) rfl (by kernel_rfl) (by kernel_rfl) (by kernel_rfl) (fun _ _ _ h => h) (Or.inl ⟨by rfl, ?_⟩) (by assumption) ?_
      rotate_left
      · intro W hSw
        obtain ⟨t1, t2, t3, t4⟩ := hSw
        go_simp
        with_reducible rfl
      try simp only [Act.put, List.getElem_toArray, List.getElem_cons_succ, List.getElem_cons_zero, List.setIfInBounds_toArray, List.set_cons_zero, List.set_cons_succ]
      refine wpAnyH_take (i := 5) (v := ?_) rfl (by kernel_rfl) (by kernel_rfl) (by kernel_rfl) (fun _ _ _ h => h) (Or.inl ⟨by rfl, ?_⟩) (by assumption) ?_
      rotate_left
      · intro W hSw
        obtain ⟨t1, t2, t3, t4⟩ := hSw
        go_simp
        with_reducible rfl
      try simp only [Act.put, List.getElem_toArray, List.getElem_cons_succ, List.getElem_cons_zero, List.setIfInBounds_toArray, List.set_cons_zero, List.set_cons_succ]
      refine wpAnyH_take (i := 6) (v := ?_) rfl (by kernel_rfl) (by kernel_rfl) (by kernel_rfl) (fun _ _ _ h => h) (Or.inl ⟨by rfl, ?_⟩) (by assumption) ?_
      rotate_left
      · intro W hSw
        obtain ⟨t1, t2, t3, t4⟩ := hSw
        go_simp
        with_reducible rfl
      try simp only [Act.put, List.getElem_toArray, List.getElem_cons_succ, List.getElem_cons_zero, List.setIfInBounds_toArray, List.set_cons_zero, List.set_cons_succ]
      refine wpAnyH_take (i := 7) (v := ?_) rfl (by kernel_rfl) (by kernel_rfl) (by kernel_rfl) (fun _ _ _ h => h) (Or.inl ⟨by rfl, ?_⟩) (by assumption) ?_
      rotate_left
      · intro W hSw
        obtain ⟨t1, t2, t3, t4⟩ := hSw
        go_simp
        with_reducible rfl
      try simp only [Act.put, List.getElem_toArray, List.getElem_cons_succ, List.getElem_cons_zero, List.setIfInBounds_toArray, List.set_cons_zero, List.set_cons_succ]
      refine wpAnyH_take (i := 8) (v := ?_) rfl (by kernel_rfl) (by kernel_rfl) (by kernel_rfl) (fun _ _ _ h => h) (Or.inl ⟨by rfl, ?_⟩) (by assumption) ?_
      rotate_left
      · intro W hSw
        obtain ⟨t1, t2, t3, t4⟩ := hSw
        go_simp
        with_reducible rfl
      try simp only [Act.put, List.getElem_toArray, List.getElem_cons_succ, List.getElem_cons_zero, List.setIfInBounds_toArray, List.set_cons_zero, List.set_cons_succ]
      refine wpAnyH_done (by kernel_rfl) ?_ _
      go_wp2_with fail
      have gE := gD
      have gD : W1.grownBy (w9).drew none := grown_drew gE
      have SS := CX.out _ gD
      refine wp_region_held_drew (S := SY w.heap.size T k U m) (by kernel_rfl) (SS) (fun hHeld => ?_)
      refine wpAnyH_take (i := 0) (v := ?_) rfl (by kernel_rfl) (by kernel_rfl) (by kernel_rfl) (fun _ _ _ h => h) (Or.inl ⟨by rfl, ?_⟩) (by assumption) ?_
      rotate_left
      · intro W hSw
        obtain ⟨t1, t2, t3, t4⟩ := hSw
        go_simp
        with_reducible rfl
      try simp only [Act.put, List.getElem_toArray, List.getElem_cons_succ, List.getElem_cons_zero, List.setIfInBounds_toArray, List.set_cons_zero, List.set_cons_succ]
      refine wpAnyH_ready (rs := [1]) (by kernel_rfl) (by simp) ?_
      refine AllReadyH.cons (o := _) rfl (fun K' hK => ?_) ?_
      · go_simp
        refine (CN.out _).mono ?_
        rintro e w9 ⟨rfl, hg9⟩
        have gD := grown_trans gD hg9
        go_wp2_with fail
        refine hK.out _ _ (hHeld.kept hg9) (fun hHeld => ?_)
        clear hK K'
        try simp only [Act.put, List.getElem_toArray, List.getElem_cons_succ, List.getElem_cons_zero, List.setIfInBounds_toArray, List.set_cons_zero, List.set_cons_succ]
        refine wpAnyH_take (i := 2) (v := ?_) rfl (by kernel_rfl) (by kernel_rfl) (by kernel_rfl) (fun _ _ _ h => h) (Or.inl ⟨by rfl, ?_⟩) (by assumption) ?_
        rotate_left
        · intro W hSw
          obtain ⟨t1, t2, t3, t4⟩ := hSw
          go_simp
          with_reducible rfl
        try simp only [Act.put, List.getElem_toArray, List.getElem_cons_succ, List.getElem_cons_zero, List.setIfInBounds_toArray, List.set_cons_zero, List.set_cons_succ]
        refine wpAnyH_take (i := 3) (v := ?_) rfl (by kernel_rfl) (by kernel_rfl) (by kernel_rfl) (fun _ _ _ h => h) (Or.inl ⟨by rfl, ?_⟩) (by assumption) ?_
        rotate_left
        · intro W hSw
          obtain ⟨t1, t2, t3, t4⟩ := hSw
          go_simp
          with_reducible rfl
        try simp only [Act.put, List.getElem_toArray, List.getElem_cons_succ, List.getElem_cons_zero, List.setIfInBounds_toArray, List.set_cons_zero, List.set_cons_succ]
        refine wpAnyH_done (by kernel_rfl) ?_ _
        obtain ⟨u1, u2, u3, u4⟩ := CX.out w9 gD
        obtain ⟨W5, hW5, GF, q0, q1⟩ := HB.out (T) (k) w9 gD
        obtain ⟨z0, z1, zf, _⟩ := (CR.out w9 gD).put (T) (k : Nat)
        have HW5 : Hid (W5 = _) := hW5
        clear hW5
        go_wp2_with fail
        rw [← HW5.out]
        exact bodyPost_ret (v := .agg #[.string (T), .int .i64 (k : Int)]) (by simp [results, Try.results26, go_sem, q0, q1]) rfl (Hres.out _ GF.out)
      exact AllReadyH.nil
    exact AllReadyH.nil
  have Qyn : ∀ V, (Op.equalIn 10000 57 (.agg #[.string U, .int .i64 (m : Int)]) (.agg #[.string nT, .int .i64 (nk : Int)])).run Try.prog V = .ok false V := fun V => by rw [Fn V, decide_eq_false h3]
  have Hres : Hid (∀ V, w.grownBy V none → Says (yV r) w (.returned (.agg #[.string (withinT T k 3 ++ ⟨#[43]⟩ ++ withinT U m 3), .int .i64 ((3 : Nat) : Int)])) V) := fun V hV => ⟨by have e := HR.out; rw [if_neg (fun e => e.elim h1 h2), if_neg h3] at e; rw [e]; try rfl, hV⟩
  clear En Ee Fn Fe Exy HR
  have C0 : Hid (∀ V, Calls Try.prog 40 #[yV (T, k), .int .i64 3] V (Says (.string (withinT T k 3)) V)) := fun V => CW.out 3 V
  have C1 : Hid (∀ V, Calls Try.prog 40 #[yV (U, m), .int .i64 3] V (Says (.string (withinT U m 3)) V)) := fun V => CY.out 3 V
  have hz0 := hsz 3
  have hz1 := hsy 3
  clear CW CY hsz hsy h1 h2 h3
  generalize withinT T k 3 = TW at *
  generalize withinT U m 3 = UW at *
  have hns : ¬ 9223372036854775807 < TW.size + 1 := by omega
  have hns3 : ¬ 9223372036854775807 < TW.size + UW.size := by omega
  have hns2 : ¬ 9223372036854775807 < TW.size + 1 + UW.size := by omega
  go_enter Try.func26, Try.ntmps26
  go_wp2_with fail
  rw [← HW1.out]
  have gD : W1.grownBy (W1).drew none := grown_drew (grown_refl _ _)
  have SS := CX.out _ gD
  refine wp_region_held_drew (S := SY w.heap.size T k U m) (by kernel_rfl) (SS) (fun hHeld => ?_)
  refine wpAnyH_take (i := 0) (v := ?_) rfl (by kernel_rfl) (by kernel_rfl) (by kernel_rfl) (fun _ _ _ h => h) (Or.inl ⟨by rfl, ?_⟩) (by assumption) ?_
  rotate_left
  · intro W hSw
    obtain ⟨t1, t2, t3, t4⟩ := hSw
    go_simp
    with_reducible rfl
  try simp only [Act.put, List.getElem_toArray, List.getElem_cons_succ, List.getElem_cons_zero, List.setIfInBounds_toArray, List.set_cons_zero, List.set_cons_succ]
  refine wpAnyH_ready (rs := [1]) (by kernel_rfl) (by simp) ?_
  refine AllReadyH.cons (o := _) rfl (fun K' hK => ?_) ?_
  · go_simp
    refine (CN.out _).mono ?_
    rintro e w9 ⟨rfl, hg9⟩
    have gD := grown_trans gD hg9
    go_wp2_with fail
    refine hK.out _ _ (hHeld.kept hg9) (fun hHeld => ?_)
    clear hK K'
    try simp only [Act.put, List.getElem_toArray, List.getElem_cons_succ, List.getElem_cons_zero, List.setIfInBounds_toArray, List.set_cons_zero, List.set_cons_succ]
    refine wpAnyH_take (i := 2) (v := ?_) rfl (by kernel_rfl) (by kernel_rfl) (by kernel_rfl) (fun _ _ _ h => h) (Or.inl ⟨by rfl, ?_⟩) (by assumption) ?_
    rotate_left
    · intro W hSw
      obtain ⟨t1, t2, t3, t4⟩ := hSw
      go_simp
      with_reducible rfl
    try simp only [Act.put, List.getElem_toArray, List.getElem_cons_succ, List.getElem_cons_zero, List.setIfInBounds_toArray, List.set_cons_zero, List.set_cons_succ]
    refine wpAnyH_take (i := 3) (v := ?_) rfl (by kernel_rfl) (by kernel_rfl) (by kernel_rfl) (fun _ _ _ h => h) (Or.inl ⟨by rfl, ?_⟩) (by assumption) ?_
    rotate_left
    · intro W hSw
      obtain ⟨t1, t2, t3, t4⟩ := hSw
      go_simp
      with_reducible rfl
    try simp only [Act.put, List.getElem_toArray, List.getElem_cons_succ, List.getElem_cons_zero, List.setIfInBounds_toArray, List.set_cons_zero, List.set_cons_succ]
    refine wpAnyH_take (i := 4) (v := ?_) rfl (by kernel_rfl) (by kernel_rfl) (by kernel_rfl) (fun _ _ _ h => h) (Or.inl ⟨by rfl, ?_⟩) (by assumption) ?_
    rotate_left
    · intro W hSw
      obtain ⟨t1, t2, t3, t4⟩ := hSw
      go_simp
      with_reducible rfl
    try simp only [Act.put, List.getElem_toArray, List.getElem_cons_succ, List.getElem_cons_zero, List.setIfInBounds_toArray, List.set_cons_zero, List.set_cons_succ]
    refine wpAnyH_take (i := 5) (v := ?_) rfl (by kernel_rfl) (by kernel_rfl) (by kernel_rfl) (fun _ _ _ h => h) (Or.inl ⟨by rfl, ?_⟩) (by assumption) ?_
    rotate_left
    · intro W hSw
      obtain ⟨t1, t2, t3, t4⟩ := hSw
      go_simp
      with_reducible rfl
    try simp only [Act.put, List.getElem_toArray, List.getElem_cons_succ, List.getElem_cons_zero, List.setIfInBounds_toArray, List.set_cons_zero, List.set_cons_succ]
    refine wpAnyH_take (i := 6) (v := ?_) rfl (by kernel_rfl) (by kernel_rfl) (by kernel_rfl) (fun _ _ _ h => h) (Or.inl ⟨by rfl, ?_⟩) (by assumption) ?_
    rotate_left
    · intro W hSw
      obtain ⟨t1, t2, t3, t4⟩ := hSw
      go_simp
      with_reducible rfl
    try simp only [Act.put, List.getElem_toArray, List.getElem_cons_succ, List.getElem_cons_zero, List.setIfInBounds_toArray, List.set_cons_zero, List.set_cons_succ]
    refine wpAnyH_take (i := 7) (v := ?_) rfl (by kernel_rfl) (by kernel_rfl) (by kernel_rfl) (fun _ _ _ h => h) (Or.inl ⟨by rfl, ?_⟩) (by assumption) ?_
    rotate_left
    · intro W hSw
      obtain ⟨t1, t2, t3, t4⟩ := hSw
      go_simp
      with_reducible rfl
    try simp only [Act.put, List.getElem_toArray, List.getElem_cons_succ, List.getElem_cons_zero, List.setIfInBounds_toArray, List.set_cons_zero, List.set_cons_succ]
    refine wpAnyH_take (i := 8) (v := ?_) rfl (by kernel_rfl) (by kernel_rfl) (by kernel_rfl) (fun _ _ _ h => h) (Or.inl ⟨by rfl, ?_⟩) (by assumption) ?_
    rotate_left
    · intro W hSw
      obtain ⟨t1, t2, t3, t4⟩ := hSw
      go_simp
      with_reducible rfl
    try simp only [Act.put, List.getElem_toArray, List.getElem_cons_succ, List.getElem_cons_zero, List.setIfInBounds_toArray, List.set_cons_zero, List.set_cons_succ]
    refine wpAnyH_done (by kernel_rfl) ?_ _
    go_wp2_with fail
    have gE := gD
    have gD : W1.grownBy (w9).drew none := grown_drew gE
    have SS := CX.out _ gD
    refine wp_region_held_drew (S := SY w.heap.size T k U m) (by kernel_rfl) (SS) (fun hHeld => ?_)
    refine wpAnyH_take (i := 0) (v := ?_) rfl (by kernel_rfl) (by kernel_rfl) (by kernel_rfl) (fun _ _ _ h => h) (Or.inl ⟨by rfl, ?_⟩) (by assumption) ?_
    rotate_left
    · intro W hSw
      obtain ⟨t1, t2, t3, t4⟩ := hSw
      go_simp
      with_reducible rfl
    try simp only [Act.put, List.getElem_toArray, List.getElem_cons_succ, List.getElem_cons_zero, List.setIfInBounds_toArray, List.set_cons_zero, List.set_cons_succ]
    refine wpAnyH_ready (rs := [1]) (by kernel_rfl) (by simp) ?_
    refine AllReadyH.cons (o := _) rfl (fun K' hK => ?_) ?_
    · go_simp
      refine (CN.out _).mono ?_
      rintro e w9 ⟨rfl, hg9⟩
      have gD := grown_trans gD hg9
      go_wp2_with fail
      refine hK.out _ _ (hHeld.kept hg9) (fun hHeld => ?_)
      clear hK K'
      try simp only [Act.put, List.getElem_toArray, List.getElem_cons_succ, List.getElem_cons_zero, List.setIfInBounds_toArray, List.set_cons_zero, List.set_cons_succ]
      refine wpAnyH_take (i := 2) (v := ?_) rfl (by kernel_rfl) (by kernel_rfl) (by kernel_rfl) (fun _ _ _ h => h) (Or.inl ⟨by rfl, ?_⟩) (by assumption) ?_
      rotate_left
      · intro W hSw
        obtain ⟨t1, t2, t3, t4⟩ := hSw
        go_simp
        with_reducible rfl
      try simp only [Act.put, List.getElem_toArray, List.getElem_cons_succ, List.getElem_cons_zero, List.setIfInBounds_toArray, List.set_cons_zero, List.set_cons_succ]
      refine wpAnyH_take (i := 3) (v := ?_) rfl (by kernel_rfl) (by kernel_rfl) (by kernel_rfl) (fun _ _ _ h => h) (Or.inl ⟨by rfl, ?_⟩) (by assumption) ?_
      rotate_left
      · intro W hSw
        obtain ⟨t1, t2, t3, t4⟩ := hSw
        go_simp
        with_reducible rfl
      try simp only [Act.put, List.getElem_toArray, List.getElem_cons_succ, List.getElem_cons_zero, List.setIfInBounds_toArray, List.set_cons_zero, List.set_cons_succ]
      refine wpAnyH_done (by kernel_rfl) ?_ _
      go_wp2_with fail
      have gE := gD
      have gD : W1.grownBy (w9).drew none := grown_drew gE
      have SS := CX.out _ gD
      refine wp_region_held_drew (S := SY w.heap.size T k U m) (by kernel_rfl) (SS) (fun hHeld => ?_)
      refine wpAnyH_take (i := 0) (v := ?_) rfl (by kernel_rfl) (by kernel_rfl) (by kernel_rfl) (fun _ _ _ h => h) (Or.inl ⟨by rfl, ?_⟩) (by assumption) ?_
      rotate_left
      · intro W hSw
        obtain ⟨t1, t2, t3, t4⟩ := hSw
        go_simp
        with_reducible rfl
      try simp only [Act.put, List.getElem_toArray, List.getElem_cons_succ, List.getElem_cons_zero, List.setIfInBounds_toArray, List.set_cons_zero, List.set_cons_succ]
      refine wpAnyH_take (i := 3) (v := ?_) rfl (by kernel_rfl) (by kernel_rfl) (by kernel_rfl) (fun _ _ _ h => h) (Or.inl ⟨by rfl, ?_⟩) (by assumption) ?_
      rotate_left
      · intro W hSw
        obtain ⟨t1, t2, t3, t4⟩ := hSw
        go_simp
        with_reducible rfl
      try simp only [Act.put, List.getElem_toArray, List.getElem_cons_succ, List.getElem_cons_zero, List.setIfInBounds_toArray, List.set_cons_zero, List.set_cons_succ]
      refine wpAnyH_ready (rs := [1]) (by kernel_rfl) (by simp) ?_
      refine AllReadyH.cons (o := _) rfl (fun K' hK => ?_) ?_
      · go_simp
        refine (C0.out _).mono ?_
        rintro e w9 ⟨rfl, hg9⟩
        have gD := grown_trans gD hg9
        go_wp2_with fail
        refine hK.out _ _ (hHeld.kept hg9) (fun hHeld => ?_)
        clear hK K'
        try simp only [Act.put, List.getElem_toArray, List.getElem_cons_succ, List.getElem_cons_zero, List.setIfInBounds_toArray, List.set_cons_zero, List.set_cons_succ]
        refine wpAnyH_take (i := 2) (v := ?_) rfl (by kernel_rfl) (by kernel_rfl) (by kernel_rfl) (fun _ _ _ h => h) (Or.inl ⟨by rfl, ?_⟩) (by assumption) ?_
        rotate_left
        · intro W hSw
          obtain ⟨t1, t2, t3, t4⟩ := hSw
          go_simp
          with_reducible rfl
        try simp only [Act.put, List.getElem_toArray, List.getElem_cons_succ, List.getElem_cons_zero, List.setIfInBounds_toArray, List.set_cons_zero, List.set_cons_succ]
        refine wpAnyH_ready (rs := [4]) (by kernel_rfl) (by simp) ?_
        refine AllReadyH.cons (o := _) rfl (fun K' hK => ?_) ?_
        · go_simp
          refine (C1.out _).mono ?_
          rintro e w9 ⟨rfl, hg9⟩
          have gD := grown_trans gD hg9
          go_wp2_with fail
          refine hK.out _ _ (hHeld.kept hg9) (fun hHeld => ?_)
          clear hK K'
          try simp only [Act.put, List.getElem_toArray, List.getElem_cons_succ, List.getElem_cons_zero, List.setIfInBounds_toArray, List.set_cons_zero, List.set_cons_succ]
          refine wpAnyH_take (i := 5) (v := ?_) rfl (by kernel_rfl) (by kernel_rfl) (by kernel_rfl) (fun _ _ _ h => h) (Or.inl ⟨by rfl, ?_⟩) (by assumption) ?_
          rotate_left
          · intro W hSw
            obtain ⟨t1, t2, t3, t4⟩ := hSw
            go_simp
            with_reducible rfl
          try simp only [Act.put, List.getElem_toArray, List.getElem_cons_succ, List.getElem_cons_zero, List.setIfInBounds_toArray, List.set_cons_zero, List.set_cons_succ]
          refine wpAnyH_take (i := 6) (v := ?_) rfl (by kernel_rfl) (by kernel_rfl) (by kernel_rfl) (fun _ _ _ h => h) (Or.inl ⟨by rfl, ?_⟩) (by assumption) ?_
          rotate_left
          · intro W hSw
            obtain ⟨t1, t2, t3, t4⟩ := hSw
            go_simp
            with_reducible rfl
          try simp only [Act.put, List.getElem_toArray, List.getElem_cons_succ, List.getElem_cons_zero, List.setIfInBounds_toArray, List.set_cons_zero, List.set_cons_succ]
          refine wpAnyH_ready (rs := [7]) (by kernel_rfl) (by simp) ?_
          refine AllReadyH.cons (o := _) rfl (fun K' hK => ?_) ?_
          · obtain ⟨W5, hW5, GF, q0, q1⟩ := HB.out (TW ++ ⟨#[43]⟩ ++ UW) 3 w9 gD
            obtain ⟨z0, z1, zf, _⟩ := (CR.out w9 gD).put (TW ++ ⟨#[43]⟩ ++ UW) (3 : Nat)
            have ec : ((3 : Nat) : Int) = 3 := rfl
            rw [ec] at hW5 q1
            have HW5 : Hid (W5 = _) := hW5
            have S5 : Hid (SY w.heap.size T k U m W5) := SY.far (CX.out w9 gD) hW5
            clear hW5
            go_simp
            rw [← HW5.out]
            refine hK.out _ _ (S5.out) (fun hHeld => ?_)
            clear hK K'
            try simp only [Act.put, List.getElem_toArray, List.getElem_cons_succ, List.getElem_cons_zero, List.setIfInBounds_toArray, List.set_cons_zero, List.set_cons_succ]
            refine wpAnyH_done (by kernel_rfl) ?_ _
            go_wp2_with fail
            exact bodyPost_ret (v := .agg #[.string (TW ++ ⟨#[43]⟩ ++ UW), .int .i64 3]) (by simp [results, Try.results26, go_sem, q0, q1]) rfl (Hres.out _ GF.out)
          exact AllReadyH.nil
        exact AllReadyH.nil
      exact AllReadyH.nil
    exact AllReadyH.nil
  exact AllReadyH.nil

set_option maxHeartbeats 12800000 in
set_option maxRecDepth 100000 in
theorem then_any (x : Sy) (y : Sy) (w : World) (hT : x.1.size ≤ 50000) (hU : y.1.size ≤ 50000) : Calls Try.prog 25 #[yV x, yV y] w (Says (yV (thenY x y)) w) := by
  obtain ⟨W1, hW1, g1, s1, c1, cy, c2⟩ := say_boxes2 w x y
  have HW1 : Hid (W1 = _) := hW1
  have G1 : Hid (w.grownBy W1 none) := g1
  have CX : Hid (∀ V, W1.grownBy V none → SY w.heap.size x.1 x.2 y.1 y.2 V) := fun V hV => ⟨(c1.kept hV).get.1, (c1.kept hV).get.2, (cy.kept hV).get.1, (cy.kept hV).get.2⟩
  have CR : Hid (∀ V, W1.grownBy V none → C2 V (w.heap.size + 2) ⟨#[]⟩ 0) := fun V hV => c2.kept hV
  have CN : Hid (∀ V, Calls Try.prog 38 #[] V (Says (yV noneY) V)) := none_y
  have CE : Hid (∀ V, Calls Try.prog 39 #[] V (Says (yV emptyY) V)) := empty_y
  have CW : Hid (∀ (l : Nat) V, Calls Try.prog 40 #[yV x, .int .i64 (l : Int)] V (Says (.string (withinT x.1 x.2 l)) V)) := fun l V => within_y x l V (by omega)
  have hsz := fun l => within_size x.1 x.2 l
  have CY : Hid (∀ (l : Nat) V, Calls Try.prog 40 #[yV y, .int .i64 (l : Int)] V (Says (.string (withinT y.1 y.2 l)) V)) := fun l V => within_y y l V (by omega)
  have hsy := fun l => within_size y.1 y.2 l
  have Fn := fun V => eqY y noneY V
  have Fe := fun V => eqY y emptyY V
  have Exy := fun V => eqY x y V
  have En := fun V => eqY x noneY V
  have Ee := fun V => eqY x emptyY V
  have HB : Hid (∀ (r1 : ByteArray) (r2 : Nat) V, W1.grownBy V none → ∃ W', W' = (V.setCell ⟨w.heap.size + 2, 0, none⟩ (.string r1)).setCell ⟨w.heap.size + 2, 1, none⟩ (.int .i64 (r2 : Int)) ∧ Hid (w.grownBy W' none) ∧ W'.cell? ⟨w.heap.size + 2, 0, none⟩ = some (.string r1) ∧ W'.cell? ⟨w.heap.size + 2, 1, none⟩ = some (.int .i64 (r2 : Int))) := fun r1 r2 V hV => by
    obtain ⟨_, _, _, W', hW', g', c'⟩ := (c2.kept hV).put r1 r2
    exact ⟨W', hW', grown_new (grown_trans g1 hV) g' (by omega), c'.get.1, c'.get.2⟩
  have HA : Hid (thenY x y = thenY x y) := rfl
  have HA2 := HA.out
  conv at HA2 => rhs; unfold thenY
  obtain ⟨r, hr⟩ : ∃ r, thenY x y = r := ⟨_, rfl⟩
  rw [hr] at HA2 ⊢
  have HR : Hid (r = _) := HA2
  clear hW1 g1 s1 c1 cy c2 hr HA HA2
  obtain ⟨ny, hny⟩ : ∃ y, noneY = y := ⟨_, rfl⟩
  obtain ⟨ey, hey⟩ : ∃ y, emptyY = y := ⟨_, rfl⟩
  rw [hny] at En Fn CN HR
  rw [hey] at Ee Fe CE HR
  clear hny hey
  obtain ⟨T, k⟩ := x
  obtain ⟨U, m⟩ := y
  obtain ⟨nT, nk⟩ := ny
  obtain ⟨eT, ek⟩ := ey
  simp only at *
  by_cases h1 : ((T, k) : Sy) = (nT, nk)
  case pos =>
    have Qxn : ∀ V, (Op.equalIn 10000 57 (.agg #[.string T, .int .i64 (k : Int)]) (.agg #[.string nT, .int .i64 (nk : Int)])).run Try.prog V = .ok true V := fun V => by rw [En V, decide_eq_true h1]
    have Hres : Hid (∀ V, w.grownBy V none → Says (yV r) w (.returned (.agg #[.string (T), .int .i64 ((k : Nat) : Int)])) V) := fun V hV => ⟨by have e := HR.out; rw [if_pos (.inl h1)] at e; rw [e], hV⟩
    clear En Ee Fn Fe Exy HR
    clear h1
    go_enter Try.func25, Try.ntmps25
    go_wp2_with fail
    rw [← HW1.out]
    have gD : W1.grownBy (W1).drew none := grown_drew (grown_refl _ _)
    have SS := CX.out _ gD
    refine wp_region_held_drew (S := SY w.heap.size T k U m) (by kernel_rfl) (SS) (fun hHeld => ?_)
    refine wpAnyH_take (i := 0) (v := ?_) rfl (by kernel_rfl) (by kernel_rfl) (by kernel_rfl) (fun _ _ _ h => h) (Or.inl ⟨by rfl, ?_⟩) (by assumption) ?_
    rotate_left
    · intro W hSw
      obtain ⟨t1, t2, t3, t4⟩ := hSw
      go_simp
      with_reducible rfl
    try simp only [Act.put, List.getElem_toArray, List.getElem_cons_succ, List.getElem_cons_zero, List.setIfInBounds_toArray, List.set_cons_zero, List.set_cons_succ]
    refine wpAnyH_ready (rs := [1]) (by kernel_rfl) (by simp) ?_
    refine AllReadyH.cons (o := _) rfl (fun K' hK => ?_) ?_
    · go_simp
      refine (CN.out _).mono ?_
      rintro e w9 ⟨rfl, hg9⟩
      have gD := grown_trans gD hg9
      go_wp2_with fail
      refine hK.out _ _ (hHeld.kept hg9) (fun hHeld => ?_)
      clear hK K'
      try simp only [Act.put, List.getElem_toArray, List.getElem_cons_succ, List.getElem_cons_zero, List.setIfInBounds_toArray, List.set_cons_zero, List.set_cons_succ]
      refine wpAnyH_take (i := 2) (v := ?_) rfl (by kernel_rfl) (by kernel_rfl) (by kernel_rfl) (fun _ _ _ h => h) (Or.inl ⟨by rfl, ?_⟩) (by assumption) ?_
      rotate_left
      · intro W hSw
        obtain ⟨t1, t2, t3, t4⟩ := hSw
        go_simp
        with_reducible rfl
      try simp only [Act.put, List.getElem_toArray, List.getElem_cons_succ, List.getElem_cons_zero, List.setIfInBounds_toArray, List.set_cons_zero, List.set_cons_succ]
      refine wpAnyH_take (i := 3) (v := ?_) rfl (by kernel_rfl) (by kernel_rfl) (by kernel_rfl) (fun _ _ _ h => h) (Or.inl ⟨by rfl, ?_⟩) (by assumption) ?_
      rotate_left
      · intro W hSw
        obtain ⟨t1, t2, t3, t4⟩ := hSw
        go_simp
        with_reducible rfl
      try simp only [Act.put, List.getElem_toArray, List.getElem_cons_succ, List.getElem_cons_zero, List.setIfInBounds_toArray, List.set_cons_zero, List.set_cons_succ]
      refine wpAnyH_take (i := 4) (v := undef) rfl (by kernel_rfl) (by kernel_rfl) (by kernel_rfl) (fun _ _ _ h => h) (Or.inr ⟨by rfl, rfl⟩) (by assumption) ?_
      try simp only [Act.put, List.getElem_toArray, List.getElem_cons_succ, List.getElem_cons_zero, List.setIfInBounds_toArray, List.set_cons_zero, List.set_cons_succ]
      refine wpAnyH_take (i := 5) (v := undef) rfl (by kernel_rfl) (by kernel_rfl) (by kernel_rfl) (fun _ _ _ h => h) (Or.inr ⟨by rfl, rfl⟩) (by assumption) ?_
      try simp only [Act.put, List.getElem_toArray, List.getElem_cons_succ, List.getElem_cons_zero, List.setIfInBounds_toArray, List.set_cons_zero, List.set_cons_succ]
      refine wpAnyH_take (i := 6) (v := undef) rfl (by kernel_rfl) (by kernel_rfl) (by kernel_rfl) (fun _ _ _ h => h) (Or.inr ⟨by rfl, rfl⟩) (by assumption) ?_
      try simp only [Act.put, List.getElem_toArray, List.getElem_cons_succ, List.getElem_cons_zero, List.setIfInBounds_toArray, List.set_cons_zero, List.set_cons_succ]
      refine wpAnyH_take (i := 7) (v := ?_) rfl (by kernel_rfl) (by kernel_rfl) (by kernel_rfl) (fun _ _ _ h => h) (Or.inl ⟨by rfl, ?_⟩) (by assumption) ?_
      rotate_left
      · intro W hSw
        obtain ⟨t1, t2, t3, t4⟩ := hSw
        go_simp
        with_reducible rfl
      try simp only [Act.put, List.getElem_toArray, List.getElem_cons_succ, List.getElem_cons_zero, List.setIfInBounds_toArray, List.set_cons_zero, List.set_cons_succ]
      refine wpAnyH_take (i := 8) (v := ?_) rfl (by kernel_rfl) (by kernel_rfl) (by kernel_rfl) (fun _ _ _ h => h) (Or.inl ⟨by rfl, ?_⟩) (by assumption) ?_
      rotate_left
      · intro W hSw
        obtain ⟨t1, t2, t3, t4⟩ := hSw
        go_simp
        with_reducible rfl
      try simp only [Act.put, List.getElem_toArray, List.getElem_cons_succ, List.getElem_cons_zero, List.setIfInBounds_toArray, List.set_cons_zero, List.set_cons_succ]
      refine wpAnyH_done (by kernel_rfl) ?_ _
      obtain ⟨u1, u2, u3, u4⟩ := CX.out w9 gD
      obtain ⟨W5, hW5, GF, q0, q1⟩ := HB.out (T) (k) w9 gD
      obtain ⟨z0, z1, zf, _⟩ := (CR.out w9 gD).put (T) (k : Nat)
      have HW5 : Hid (W5 = _) := hW5
      clear hW5
      go_wp2_with fail
      rw [← HW5.out]
      exact bodyPost_ret (v := .agg #[.string (T), .int .i64 (k : Int)]) (by simp [results, Try.results25, go_sem, q0, q1]) rfl (Hres.out _ GF.out)
    exact AllReadyH.nil
  have Qxn : ∀ V, (Op.equalIn 10000 57 (.agg #[.string T, .int .i64 (k : Int)]) (.agg #[.string nT, .int .i64 (nk : Int)])).run Try.prog V = .ok false V := fun V => by rw [En V, decide_eq_false h1]
  by_cases h2 : ((U, m) : Sy) = (eT, ek)
  case pos =>
    have Qye : ∀ V, (Op.equalIn 10000 57 (.agg #[.string U, .int .i64 (m : Int)]) (.agg #[.string eT, .int .i64 (ek : Int)])).run Try.prog V = .ok true V := fun V => by rw [Fe V, decide_eq_true h2]
    have Hres : Hid (∀ V, w.grownBy V none → Says (yV r) w (.returned (.agg #[.string (T), .int .i64 ((k : Nat) : Int)])) V) := fun V hV => ⟨by have e := HR.out; rw [if_pos (.inr h2)] at e; rw [e], hV⟩
    clear En Ee Fn Fe Exy HR
    clear h1 h2
    go_enter Try.func25, Try.ntmps25
    go_wp2_with fail
    rw [← HW1.out]
    have gD : W1.grownBy (W1).drew none := grown_drew (grown_refl _ _)
    have SS := CX.out _ gD
    refine wp_region_held_drew (S := SY w.heap.size T k U m) (by kernel_rfl) (SS) (fun hHeld => ?_)
    refine wpAnyH_take (i := 0) (v := ?_) rfl (by kernel_rfl) (by kernel_rfl) (by kernel_rfl) (fun _ _ _ h => h) (Or.inl ⟨by rfl, ?_⟩) (by assumption) ?_
    rotate_left
    · intro W hSw
      obtain ⟨t1, t2, t3, t4⟩ := hSw
      go_simp
      with_reducible rfl
    try simp only [Act.put, List.getElem_toArray, List.getElem_cons_succ, List.getElem_cons_zero, List.setIfInBounds_toArray, List.set_cons_zero, List.set_cons_succ]
    refine wpAnyH_ready (rs := [1]) (by kernel_rfl) (by simp) ?_
    refine AllReadyH.cons (o := _) rfl (fun K' hK => ?_) ?_
    · go_simp
      refine (CN.out _).mono ?_
      rintro e w9 ⟨rfl, hg9⟩
      have gD := grown_trans gD hg9
      go_wp2_with fail
      refine hK.out _ _ (hHeld.kept hg9) (fun hHeld => ?_)
      clear hK K'
      try simp only [Act.put, List.getElem_toArray, List.getElem_cons_succ, List.getElem_cons_zero, List.setIfInBounds_toArray, List.set_cons_zero, List.set_cons_succ]
      refine wpAnyH_take (i := 2) (v := ?_) rfl (by kernel_rfl) (by kernel_rfl) (by kernel_rfl) (fun _ _ _ h => h) (Or.inl ⟨by rfl, ?_⟩) (by assumption) ?_
      rotate_left
      · intro W hSw
        obtain ⟨t1, t2, t3, t4⟩ := hSw
        go_simp
        with_reducible rfl
      try simp only [Act.put, List.getElem_toArray, List.getElem_cons_succ, List.getElem_cons_zero, List.setIfInBounds_toArray, List.set_cons_zero, List.set_cons_succ]
      refine wpAnyH_take (i := 3) (v := ?_) rfl (by kernel_rfl) (by kernel_rfl) (by kernel_rfl) (fun _ _ _ h => h) (Or.inl ⟨by rfl, ?_⟩) (by assumption) ?_
      rotate_left
      · intro W hSw
        obtain ⟨t1, t2, t3, t4⟩ := hSw
        go_simp
        with_reducible rfl
      try simp only [Act.put, List.getElem_toArray, List.getElem_cons_succ, List.getElem_cons_zero, List.setIfInBounds_toArray, List.set_cons_zero, List.set_cons_succ]
      refine wpAnyH_take (i := 4) (v := ?_) rfl (by kernel_rfl) (by kernel_rfl) (by kernel_rfl) (fun _ _ _ h => h) (Or.inl ⟨by rfl, ?_⟩) (by assumption) ?_
      rotate_left
      · intro W hSw
        obtain ⟨t1, t2, t3, t4⟩ := hSw
        go_simp
        with_reducible rfl
      try simp only [Act.put, List.getElem_toArray, List.getElem_cons_succ, List.getElem_cons_zero, List.setIfInBounds_toArray, List.set_cons_zero, List.set_cons_succ]
      refine wpAnyH_ready (rs := [5]) (by kernel_rfl) (by simp) ?_
      refine AllReadyH.cons (o := _) rfl (fun K' hK => ?_) ?_
      · go_simp
        refine (CE.out _).mono ?_
        rintro e w9 ⟨rfl, hg9⟩
        have gD := grown_trans gD hg9
        go_wp2_with fail
        refine hK.out _ _ (hHeld.kept hg9) (fun hHeld => ?_)
        clear hK K'
        try simp only [Act.put, List.getElem_toArray, List.getElem_cons_succ, List.getElem_cons_zero, List.setIfInBounds_toArray, List.set_cons_zero, List.set_cons_succ]
        refine wpAnyH_take (i := 6) (v := ?_) rfl (by kernel_rfl) (by kernel_rfl) (by kernel_rfl) (fun _ _ _ h => h) (Or.inl ⟨by rfl, ?_⟩) (by assumption) ?_
        rotate_left
        · intro W hSw
          obtain ⟨t1, t2, t3, t4⟩ := hSw
          go_simp
          with_reducible rfl
        try simp only [Act.put, List.getElem_toArray, List.getElem_cons_succ, List.getElem_cons_zero, List.setIfInBounds_toArray, List.set_cons_zero, List.set_cons_succ]
        refine wpAnyH_take (i := 7) (v := ?_) rfl (by kernel_rfl) (by kernel_rfl) (by kernel_rfl) (fun _ _ _ h => h) (Or.inl ⟨by rfl, ?_⟩) (by assumption) ?_
        rotate_left
        · intro W hSw
          obtain ⟨t1, t2, t3, t4⟩ := hSw
          go_simp
          with_reducible rfl
        try simp only [Act.put, List.getElem_toArray, List.getElem_cons_succ, List.getElem_cons_zero, List.setIfInBounds_toArray, List.set_cons_zero, List.set_cons_succ]
        refine wpAnyH_take (i := 8) (v := ?_) rfl (by kernel_rfl) (by kernel_rfl) (by kernel_rfl) (fun _ _ _ h => h) (Or.inl ⟨by rfl, ?_⟩) (by assumption) ?_
        rotate_left
        · intro W hSw
          obtain ⟨t1, t2, t3, t4⟩ := hSw
          go_simp
          with_reducible rfl
        try simp only [Act.put, List.getElem_toArray, List.getElem_cons_succ, List.getElem_cons_zero, List.setIfInBounds_toArray, List.set_cons_zero, List.set_cons_succ]
        refine wpAnyH_done (by kernel_rfl) ?_ _
        obtain ⟨u1, u2, u3, u4⟩ := CX.out w9 gD
        obtain ⟨W5, hW5, GF, q0, q1⟩ := HB.out (T) (k) w9 gD
        obtain ⟨z0, z1, zf, _⟩ := (CR.out w9 gD).put (T) (k : Nat)
        have HW5 : Hid (W5 = _) := hW5
        clear hW5
        go_wp2_with fail
        rw [← HW5.out]
        exact bodyPost_ret (v := .agg #[.string (T), .int .i64 (k : Int)]) (by simp [results, Try.results25, go_sem, q0, q1]) rfl (Hres.out _ GF.out)
      exact AllReadyH.nil
    exact AllReadyH.nil
  have Qye : ∀ V, (Op.equalIn 10000 57 (.agg #[.string U, .int .i64 (m : Int)]) (.agg #[.string eT, .int .i64 (ek : Int)])).run Try.prog V = .ok false V := fun V => by rw [Fe V, decide_eq_false h2]
  by_cases h3 : ((U, m) : Sy) = (nT, nk)
  case pos =>
    have Qyn : ∀ V, (Op.equalIn 10000 57 (.agg #[.string U, .int .i64 (m : Int)]) (.agg #[.string nT, .int .i64 (nk : Int)])).run Try.prog V = .ok true V := fun V => by rw [Fn V, decide_eq_true h3]
    have Hres : Hid (∀ V, w.grownBy V none → Says (yV r) w (.returned (.agg #[.string (U), .int .i64 ((m : Nat) : Int)])) V) := fun V hV => ⟨by have e := HR.out; rw [if_neg (fun e => e.elim h1 h2), if_pos (.inl h3)] at e; rw [e], hV⟩
    clear En Ee Fn Fe Exy HR
    clear h1 h2 h3
    go_enter Try.func25, Try.ntmps25
    go_wp2_with fail
    rw [← HW1.out]
    have gD : W1.grownBy (W1).drew none := grown_drew (grown_refl _ _)
    have SS := CX.out _ gD
    refine wp_region_held_drew (S := SY w.heap.size T k U m) (by kernel_rfl) (SS) (fun hHeld => ?_)
    refine wpAnyH_take (i := 0) (v := ?_) rfl (by kernel_rfl) (by kernel_rfl) (by kernel_rfl) (fun _ _ _ h => h) (Or.inl ⟨by rfl, ?_⟩) (by assumption) ?_
    rotate_left
    · intro W hSw
      obtain ⟨t1, t2, t3, t4⟩ := hSw
      go_simp
      with_reducible rfl
    try simp only [Act.put, List.getElem_toArray, List.getElem_cons_succ, List.getElem_cons_zero, List.setIfInBounds_toArray, List.set_cons_zero, List.set_cons_succ]
    refine wpAnyH_ready (rs := [1]) (by kernel_rfl) (by simp) ?_
    refine AllReadyH.cons (o := _) rfl (fun K' hK => ?_) ?_
    · go_simp
      refine (CN.out _).mono ?_
      rintro e w9 ⟨rfl, hg9⟩
      have gD := grown_trans gD hg9
      go_wp2_with fail
      refine hK.out _ _ (hHeld.kept hg9) (fun hHeld => ?_)
      clear hK K'
      try simp only [Act.put, List.getElem_toArray, List.getElem_cons_succ, List.getElem_cons_zero, List.setIfInBounds_toArray, List.set_cons_zero, List.set_cons_succ]
      refine wpAnyH_take (i := 2) (v := ?_) rfl (by kernel_rfl) (by kernel_rfl) (by kernel_rfl) (fun _ _ _ h => h) (Or.inl ⟨by rfl, ?_⟩) (by assumption) ?_
      rotate_left
      · intro W hSw
        obtain ⟨t1, t2, t3, t4⟩ := hSw
        go_simp
        with_reducible rfl
      try simp only [Act.put, List.getElem_toArray, List.getElem_cons_succ, List.getElem_cons_zero, List.setIfInBounds_toArray, List.set_cons_zero, List.set_cons_succ]
      refine wpAnyH_take (i := 3) (v := ?_) rfl (by kernel_rfl) (by kernel_rfl) (by kernel_rfl) (fun _ _ _ h => h) (Or.inl ⟨by rfl, ?_⟩) (by assumption) ?_
      rotate_left
      · intro W hSw
        obtain ⟨t1, t2, t3, t4⟩ := hSw
        go_simp
        with_reducible rfl
      try simp only [Act.put, List.getElem_toArray, List.getElem_cons_succ, List.getElem_cons_zero, List.setIfInBounds_toArray, List.set_cons_zero, List.set_cons_succ]
      refine wpAnyH_take (i := 4) (v := ?_) rfl (by kernel_rfl) (by kernel_rfl) (by kernel_rfl) (fun _ _ _ h => h) (Or.inl ⟨by rfl, ?_⟩) (by assumption) ?_
      rotate_left
      · intro W hSw
        obtain ⟨t1, t2, t3, t4⟩ := hSw
        go_simp
        with_reducible rfl
      try simp only [Act.put, List.getElem_toArray, List.getElem_cons_succ, List.getElem_cons_zero, List.setIfInBounds_toArray, List.set_cons_zero, List.set_cons_succ]
      refine wpAnyH_ready (rs := [5]) (by kernel_rfl) (by simp) ?_
      refine AllReadyH.cons (o := _) rfl (fun K' hK => ?_) ?_
      · go_simp
        refine (CE.out _).mono ?_
        rintro e w9 ⟨rfl, hg9⟩
        have gD := grown_trans gD hg9
        go_wp2_with fail
        refine hK.out _ _ (hHeld.kept hg9) (fun hHeld => ?_)
        clear hK K'
        try simp only [Act.put, List.getElem_toArray, List.getElem_cons_succ, List.getElem_cons_zero, List.setIfInBounds_toArray, List.set_cons_zero, List.set_cons_succ]
        refine wpAnyH_take (i := 6) (v := ?_) rfl (by kernel_rfl) (by kernel_rfl) (by kernel_rfl) (fun _ _ _ h => h) (Or.inl ⟨by rfl, ?_⟩) (by assumption) ?_
        rotate_left
        · intro W hSw
          obtain ⟨t1, t2, t3, t4⟩ := hSw
          go_simp
          with_reducible rfl
        try simp only [Act.put, List.getElem_toArray, List.getElem_cons_succ, List.getElem_cons_zero, List.setIfInBounds_toArray, List.set_cons_zero, List.set_cons_succ]
        refine wpAnyH_take (i := 7) (v := ?_) rfl (by kernel_rfl) (by kernel_rfl) (by kernel_rfl) (fun _ _ _ h => h) (Or.inl ⟨by rfl, ?_⟩) (by assumption) ?_
        rotate_left
        · intro W hSw
          obtain ⟨t1, t2, t3, t4⟩ := hSw
          go_simp
          with_reducible rfl
        try simp only [Act.put, List.getElem_toArray, List.getElem_cons_succ, List.getElem_cons_zero, List.setIfInBounds_toArray, List.set_cons_zero, List.set_cons_succ]
        refine wpAnyH_take (i := 8) (v := ?_) rfl (by kernel_rfl) (by kernel_rfl) (by kernel_rfl) (fun _ _ _ h => h) (Or.inl ⟨by rfl, ?_⟩) (by assumption) ?_
        rotate_left
        · intro W hSw
          obtain ⟨t1, t2, t3, t4⟩ := hSw
          go_simp
          with_reducible rfl
        try simp only [Act.put, List.getElem_toArray, List.getElem_cons_succ, List.getElem_cons_zero, List.setIfInBounds_toArray, List.set_cons_zero, List.set_cons_succ]
        refine wpAnyH_done (by kernel_rfl) ?_ _
        go_wp2_with fail
        have gE := gD
        have gD : W1.grownBy (w9).drew none := grown_drew gE
        have SS := CX.out _ gD
        refine wp_region_held_drew (S := SY w.heap.size T k U m) (by kernel_rfl) (SS) (fun hHeld => ?_)
        refine wpAnyH_take (i := 0) (v := ?_) rfl (by kernel_rfl) (by kernel_rfl) (by kernel_rfl) (fun _ _ _ h => h) (Or.inl ⟨by rfl, ?_⟩) (by assumption) ?_
        rotate_left
        · intro W hSw
          obtain ⟨t1, t2, t3, t4⟩ := hSw
          go_simp
          with_reducible rfl
        try simp only [Act.put, List.getElem_toArray, List.getElem_cons_succ, List.getElem_cons_zero, List.setIfInBounds_toArray, List.set_cons_zero, List.set_cons_succ]
        refine wpAnyH_ready (rs := [1]) (by kernel_rfl) (by simp) ?_
        refine AllReadyH.cons (o := _) rfl (fun K' hK => ?_) ?_
        · go_simp
          refine (CN.out _).mono ?_
          rintro e w9 ⟨rfl, hg9⟩
          have gD := grown_trans gD hg9
          go_wp2_with fail
          refine hK.out _ _ (hHeld.kept hg9) (fun hHeld => ?_)
          clear hK K'
          try simp only [Act.put, List.getElem_toArray, List.getElem_cons_succ, List.getElem_cons_zero, List.setIfInBounds_toArray, List.set_cons_zero, List.set_cons_succ]
          refine wpAnyH_take (i := 2) (v := ?_) rfl (by kernel_rfl) (by kernel_rfl) (by kernel_rfl) (fun _ _ _ h => h) (Or.inl ⟨by rfl, ?_⟩) (by assumption) ?_
          rotate_left
          · intro W hSw
            obtain ⟨t1, t2, t3, t4⟩ := hSw
            go_simp
            with_reducible rfl
          try simp only [Act.put, List.getElem_toArray, List.getElem_cons_succ, List.getElem_cons_zero, List.setIfInBounds_toArray, List.set_cons_zero, List.set_cons_succ]
          refine wpAnyH_take (i := 3) (v := ?_) rfl (by kernel_rfl) (by kernel_rfl) (by kernel_rfl) (fun _ _ _ h => h) (Or.inl ⟨by rfl, ?_⟩) (by assumption) ?_
          rotate_left
          · intro W hSw
            obtain ⟨t1, t2, t3, t4⟩ := hSw
            go_simp
            with_reducible rfl
          try simp only [Act.put, List.getElem_toArray, List.getElem_cons_succ, List.getElem_cons_zero, List.setIfInBounds_toArray, List.set_cons_zero, List.set_cons_succ]
          refine wpAnyH_take (i := 4) (v := undef) rfl (by kernel_rfl) (by kernel_rfl) (by kernel_rfl) (fun _ _ _ h => h) (Or.inr ⟨by rfl, rfl⟩) (by assumption) ?_
          try simp only [Act.put, List.getElem_toArray, List.getElem_cons_succ, List.getElem_cons_zero, List.setIfInBounds_toArray, List.set_cons_zero, List.set_cons_succ]
          refine wpAnyH_take (i := 5) (v := undef) rfl (by kernel_rfl) (by kernel_rfl) (by kernel_rfl) (fun _ _ _ h => h) (Or.inr ⟨by rfl, rfl⟩) (by assumption) ?_
          try simp only [Act.put, List.getElem_toArray, List.getElem_cons_succ, List.getElem_cons_zero, List.setIfInBounds_toArray, List.set_cons_zero, List.set_cons_succ]
          refine wpAnyH_take (i := 6) (v := undef) rfl (by kernel_rfl) (by kernel_rfl) (by kernel_rfl) (fun _ _ _ h => h) (Or.inr ⟨by rfl, rfl⟩) (by assumption) ?_
          try simp only [Act.put, List.getElem_toArray, List.getElem_cons_succ, List.getElem_cons_zero, List.setIfInBounds_toArray, List.set_cons_zero, List.set_cons_succ]
          refine wpAnyH_take (i := 7) (v := ?_) rfl (by kernel_rfl) (by kernel_rfl) (by kernel_rfl) (fun _ _ _ h => h) (Or.inl ⟨by rfl, ?_⟩) (by assumption) ?_
          rotate_left
          · intro W hSw
            obtain ⟨t1, t2, t3, t4⟩ := hSw
            go_simp
            with_reducible rfl
          try simp only [Act.put, List.getElem_toArray, List.getElem_cons_succ, List.getElem_cons_zero, List.setIfInBounds_toArray, List.set_cons_zero, List.set_cons_succ]
          refine wpAnyH_take (i := 8) (v := ?_) rfl (by kernel_rfl) (by kernel_rfl) (by kernel_rfl) (fun _ _ _ h => h) (Or.inl ⟨by rfl, ?_⟩) (by assumption) ?_
          rotate_left
          · intro W hSw
            obtain ⟨t1, t2, t3, t4⟩ := hSw
            go_simp
            with_reducible rfl
          try simp only [Act.put, List.getElem_toArray, List.getElem_cons_succ, List.getElem_cons_zero, List.setIfInBounds_toArray, List.set_cons_zero, List.set_cons_succ]
          refine wpAnyH_done (by kernel_rfl) ?_ _
          obtain ⟨u1, u2, u3, u4⟩ := CX.out w9 gD
          obtain ⟨W5, hW5, GF, q0, q1⟩ := HB.out (U) (m) w9 gD
          obtain ⟨z0, z1, zf, _⟩ := (CR.out w9 gD).put (U) (m : Nat)
          have HW5 : Hid (W5 = _) := hW5
          clear hW5
          go_wp2_with fail
          rw [← HW5.out]
          exact bodyPost_ret (v := .agg #[.string (U), .int .i64 (m : Int)]) (by simp [results, Try.results25, go_sem, q0, q1]) rfl (Hres.out _ GF.out)
        exact AllReadyH.nil
      exact AllReadyH.nil
    exact AllReadyH.nil
  have Qyn : ∀ V, (Op.equalIn 10000 57 (.agg #[.string U, .int .i64 (m : Int)]) (.agg #[.string nT, .int .i64 (nk : Int)])).run Try.prog V = .ok false V := fun V => by rw [Fn V, decide_eq_false h3]
  by_cases h4 : ((T, k) : Sy) = (eT, ek)
  case pos =>
    have Qxe : ∀ V, (Op.equalIn 10000 57 (.agg #[.string T, .int .i64 (k : Int)]) (.agg #[.string eT, .int .i64 (ek : Int)])).run Try.prog V = .ok true V := fun V => by rw [Ee V, decide_eq_true h4]
    have Hres : Hid (∀ V, w.grownBy V none → Says (yV r) w (.returned (.agg #[.string (U), .int .i64 ((m : Nat) : Int)])) V) := fun V hV => ⟨by have e := HR.out; rw [if_neg (fun e => e.elim h1 h2), if_pos (.inr h4)] at e; rw [e], hV⟩
    clear En Ee Fn Fe Exy HR
    clear h1 h2 h3 h4
    go_enter Try.func25, Try.ntmps25
    go_wp2_with fail
    rw [← HW1.out]
    have gD : W1.grownBy (W1).drew none := grown_drew (grown_refl _ _)
    have SS := CX.out _ gD
    refine wp_region_held_drew (S := SY w.heap.size T k U m) (by kernel_rfl) (SS) (fun hHeld => ?_)
    refine wpAnyH_take (i := 0) (v := ?_) rfl (by kernel_rfl) (by kernel_rfl) (by kernel_rfl) (fun _ _ _ h => h) (Or.inl ⟨by rfl, ?_⟩) (by assumption) ?_
    rotate_left
    · intro W hSw
      obtain ⟨t1, t2, t3, t4⟩ := hSw
      go_simp
      with_reducible rfl
    try simp only [Act.put, List.getElem_toArray, List.getElem_cons_succ, List.getElem_cons_zero, List.setIfInBounds_toArray, List.set_cons_zero, List.set_cons_succ]
    refine wpAnyH_ready (rs := [1]) (by kernel_rfl) (by simp) ?_
    refine AllReadyH.cons (o := _) rfl (fun K' hK => ?_) ?_
    · go_simp
      refine (CN.out _).mono ?_
      rintro e w9 ⟨rfl, hg9⟩
      have gD := grown_trans gD hg9
      go_wp2_with fail
      refine hK.out _ _ (hHeld.kept hg9) (fun hHeld => ?_)
      clear hK K'
      try simp only [Act.put, List.getElem_toArray, List.getElem_cons_succ, List.getElem_cons_zero, List.setIfInBounds_toArray, List.set_cons_zero, List.set_cons_succ]
      refine wpAnyH_take (i := 2) (v := ?_) rfl (by kernel_rfl) (by kernel_rfl) (by kernel_rfl) (fun _ _ _ h => h) (Or.inl ⟨by rfl, ?_⟩) (by assumption) ?_
      rotate_left
      · intro W hSw
        obtain ⟨t1, t2, t3, t4⟩ := hSw
        go_simp
        with_reducible rfl
      try simp only [Act.put, List.getElem_toArray, List.getElem_cons_succ, List.getElem_cons_zero, List.setIfInBounds_toArray, List.set_cons_zero, List.set_cons_succ]
      refine wpAnyH_take (i := 3) (v := ?_) rfl (by kernel_rfl) (by kernel_rfl) (by kernel_rfl) (fun _ _ _ h => h) (Or.inl ⟨by rfl, ?_⟩) (by assumption) ?_
      rotate_left
      · intro W hSw
        obtain ⟨t1, t2, t3, t4⟩ := hSw
        go_simp
        with_reducible rfl
      try simp only [Act.put, List.getElem_toArray, List.getElem_cons_succ, List.getElem_cons_zero, List.setIfInBounds_toArray, List.set_cons_zero, List.set_cons_succ]
      refine wpAnyH_take (i := 4) (v := ?_) rfl (by kernel_rfl) (by kernel_rfl) (by kernel_rfl) (fun _ _ _ h => h) (Or.inl ⟨by rfl, ?_⟩) (by assumption) ?_
      rotate_left
      · intro W hSw
        obtain ⟨t1, t2, t3, t4⟩ := hSw
        go_simp
        with_reducible rfl
      try simp only [Act.put, List.getElem_toArray, List.getElem_cons_succ, List.getElem_cons_zero, List.setIfInBounds_toArray, List.set_cons_zero, List.set_cons_succ]
      refine wpAnyH_ready (rs := [5]) (by kernel_rfl) (by simp) ?_
      refine AllReadyH.cons (o := _) rfl (fun K' hK => ?_) ?_
      · go_simp
        refine (CE.out _).mono ?_
        rintro e w9 ⟨rfl, hg9⟩
        have gD := grown_trans gD hg9
        go_wp2_with fail
        refine hK.out _ _ (hHeld.kept hg9) (fun hHeld => ?_)
        clear hK K'
        try simp only [Act.put, List.getElem_toArray, List.getElem_cons_succ, List.getElem_cons_zero, List.setIfInBounds_toArray, List.set_cons_zero, List.set_cons_succ]
        refine wpAnyH_take (i := 6) (v := ?_) rfl (by kernel_rfl) (by kernel_rfl) (by kernel_rfl) (fun _ _ _ h => h) (Or.inl ⟨by rfl, ?_⟩) (by assumption) ?_
        rotate_left
        · intro W hSw
          obtain ⟨t1, t2, t3, t4⟩ := hSw
          go_simp
          with_reducible rfl
        try simp only [Act.put, List.getElem_toArray, List.getElem_cons_succ, List.getElem_cons_zero, List.setIfInBounds_toArray, List.set_cons_zero, List.set_cons_succ]
        refine wpAnyH_take (i := 7) (v := ?_) rfl (by kernel_rfl) (by kernel_rfl) (by kernel_rfl) (fun _ _ _ h => h) (Or.inl ⟨by rfl, ?_⟩) (by assumption) ?_
        rotate_left
        · intro W hSw
          obtain ⟨t1, t2, t3, t4⟩ := hSw
          go_simp
          with_reducible rfl
        try simp only [Act.put, List.getElem_toArray, List.getElem_cons_succ, List.getElem_cons_zero, List.setIfInBounds_toArray, List.set_cons_zero, List.set_cons_succ]
        refine wpAnyH_take (i := 8) (v := ?_) rfl (by kernel_rfl) (by kernel_rfl) (by kernel_rfl) (fun _ _ _ h => h) (Or.inl ⟨by rfl, ?_⟩) (by assumption) ?_
        rotate_left
        · intro W hSw
          obtain ⟨t1, t2, t3, t4⟩ := hSw
          go_simp
          with_reducible rfl
        try simp only [Act.put, List.getElem_toArray, List.getElem_cons_succ, List.getElem_cons_zero, List.setIfInBounds_toArray, List.set_cons_zero, List.set_cons_succ]
        refine wpAnyH_done (by kernel_rfl) ?_ _
        go_wp2_with fail
        have gE := gD
        have gD : W1.grownBy (w9).drew none := grown_drew gE
        have SS := CX.out _ gD
        refine wp_region_held_drew (S := SY w.heap.size T k U m) (by kernel_rfl) (SS) (fun hHeld => ?_)
        refine wpAnyH_take (i := 0) (v := ?_) rfl (by kernel_rfl) (by kernel_rfl) (by kernel_rfl) (fun _ _ _ h => h) (Or.inl ⟨by rfl, ?_⟩) (by assumption) ?_
        rotate_left
        · intro W hSw
          obtain ⟨t1, t2, t3, t4⟩ := hSw
          go_simp
          with_reducible rfl
        try simp only [Act.put, List.getElem_toArray, List.getElem_cons_succ, List.getElem_cons_zero, List.setIfInBounds_toArray, List.set_cons_zero, List.set_cons_succ]
        refine wpAnyH_ready (rs := [1]) (by kernel_rfl) (by simp) ?_
        refine AllReadyH.cons (o := _) rfl (fun K' hK => ?_) ?_
        · go_simp
          refine (CN.out _).mono ?_
          rintro e w9 ⟨rfl, hg9⟩
          have gD := grown_trans gD hg9
          go_wp2_with fail
          refine hK.out _ _ (hHeld.kept hg9) (fun hHeld => ?_)
          clear hK K'
          try simp only [Act.put, List.getElem_toArray, List.getElem_cons_succ, List.getElem_cons_zero, List.setIfInBounds_toArray, List.set_cons_zero, List.set_cons_succ]
          refine wpAnyH_take (i := 2) (v := ?_) rfl (by kernel_rfl) (by kernel_rfl) (by kernel_rfl) (fun _ _ _ h => h) (Or.inl ⟨by rfl, ?_⟩) (by assumption) ?_
          rotate_left
          · intro W hSw
            obtain ⟨t1, t2, t3, t4⟩ := hSw
            go_simp
            with_reducible rfl
          try simp only [Act.put, List.getElem_toArray, List.getElem_cons_succ, List.getElem_cons_zero, List.setIfInBounds_toArray, List.set_cons_zero, List.set_cons_succ]
          refine wpAnyH_take (i := 3) (v := ?_) rfl (by kernel_rfl) (by kernel_rfl) (by kernel_rfl) (fun _ _ _ h => h) (Or.inl ⟨by rfl, ?_⟩) (by assumption) ?_
          rotate_left
          · intro W hSw
            obtain ⟨t1, t2, t3, t4⟩ := hSw
            go_simp
            with_reducible rfl
          try simp only [Act.put, List.getElem_toArray, List.getElem_cons_succ, List.getElem_cons_zero, List.setIfInBounds_toArray, List.set_cons_zero, List.set_cons_succ]
          refine wpAnyH_take (i := 4) (v := ?_) rfl (by kernel_rfl) (by kernel_rfl) (by kernel_rfl) (fun _ _ _ h => h) (Or.inl ⟨by rfl, ?_⟩) (by assumption) ?_
          rotate_left
          · intro W hSw
            obtain ⟨t1, t2, t3, t4⟩ := hSw
            go_simp
            with_reducible rfl
          try simp only [Act.put, List.getElem_toArray, List.getElem_cons_succ, List.getElem_cons_zero, List.setIfInBounds_toArray, List.set_cons_zero, List.set_cons_succ]
          refine wpAnyH_ready (rs := [5]) (by kernel_rfl) (by simp) ?_
          refine AllReadyH.cons (o := _) rfl (fun K' hK => ?_) ?_
          · go_simp
            refine (CE.out _).mono ?_
            rintro e w9 ⟨rfl, hg9⟩
            have gD := grown_trans gD hg9
            go_wp2_with fail
            refine hK.out _ _ (hHeld.kept hg9) (fun hHeld => ?_)
            clear hK K'
            try simp only [Act.put, List.getElem_toArray, List.getElem_cons_succ, List.getElem_cons_zero, List.setIfInBounds_toArray, List.set_cons_zero, List.set_cons_succ]
            refine wpAnyH_take (i := 6) (v := ?_) rfl (by kernel_rfl) (by kernel_rfl) (by kernel_rfl) (fun _ _ _ h => h) (Or.inl ⟨by rfl, ?_⟩) (by assumption) ?_
            rotate_left
            · intro W hSw
              obtain ⟨t1, t2, t3, t4⟩ := hSw
              go_simp
              with_reducible rfl
            try simp only [Act.put, List.getElem_toArray, List.getElem_cons_succ, List.getElem_cons_zero, List.setIfInBounds_toArray, List.set_cons_zero, List.set_cons_succ]
            refine wpAnyH_take (i := 7) (v := ?_) rfl (by kernel_rfl) (by kernel_rfl) (by kernel_rfl) (fun _ _ _ h => h) (Or.inl ⟨by rfl, ?_⟩) (by assumption) ?_
            rotate_left
            · intro W hSw
              obtain ⟨t1, t2, t3, t4⟩ := hSw
              go_simp
              with_reducible rfl
            try simp only [Act.put, List.getElem_toArray, List.getElem_cons_succ, List.getElem_cons_zero, List.setIfInBounds_toArray, List.set_cons_zero, List.set_cons_succ]
            refine wpAnyH_take (i := 8) (v := ?_) rfl (by kernel_rfl) (by kernel_rfl) (by kernel_rfl) (fun _ _ _ h => h) (Or.inl ⟨by rfl, ?_⟩) (by assumption) ?_
            rotate_left
            · intro W hSw
              obtain ⟨t1, t2, t3, t4⟩ := hSw
              go_simp
              with_reducible rfl
            try simp only [Act.put, List.getElem_toArray, List.getElem_cons_succ, List.getElem_cons_zero, List.setIfInBounds_toArray, List.set_cons_zero, List.set_cons_succ]
            refine wpAnyH_done (by kernel_rfl) ?_ _
            obtain ⟨u1, u2, u3, u4⟩ := CX.out w9 gD
            obtain ⟨W5, hW5, GF, q0, q1⟩ := HB.out (U) (m) w9 gD
            obtain ⟨z0, z1, zf, _⟩ := (CR.out w9 gD).put (U) (m : Nat)
            have HW5 : Hid (W5 = _) := hW5
            clear hW5
            go_wp2_with fail
            rw [← HW5.out]
            exact bodyPost_ret (v := .agg #[.string (U), .int .i64 (m : Int)]) (by simp [results, Try.results25, go_sem, q0, q1]) rfl (Hres.out _ GF.out)
          exact AllReadyH.nil
        exact AllReadyH.nil
      exact AllReadyH.nil
    exact AllReadyH.nil
  have Qxe : ∀ V, (Op.equalIn 10000 57 (.agg #[.string T, .int .i64 (k : Int)]) (.agg #[.string eT, .int .i64 (ek : Int)])).run Try.prog V = .ok false V := fun V => by rw [Ee V, decide_eq_false h4]
  have Hres : Hid (∀ V, w.grownBy V none → Says (yV r) w (.returned (.agg #[.string (withinT T k 2 ++ withinT U m 2), .int .i64 ((2 : Nat) : Int)])) V) := fun V hV => ⟨by have e := HR.out; rw [if_neg (fun e => e.elim h1 h2), if_neg (fun e => e.elim h3 h4)] at e; rw [e]; try rfl, hV⟩
  clear En Ee Fn Fe Exy HR
  have C0 : Hid (∀ V, Calls Try.prog 40 #[yV (T, k), .int .i64 2] V (Says (.string (withinT T k 2)) V)) := fun V => CW.out 2 V
  have C1 : Hid (∀ V, Calls Try.prog 40 #[yV (U, m), .int .i64 2] V (Says (.string (withinT U m 2)) V)) := fun V => CY.out 2 V
  have hz0 := hsz 2
  have hz1 := hsy 2
  clear CW CY hsz hsy h1 h2 h3 h4
  generalize withinT T k 2 = TW at *
  generalize withinT U m 2 = UW at *
  have hns : ¬ 9223372036854775807 < TW.size + 1 := by omega
  have hns3 : ¬ 9223372036854775807 < TW.size + UW.size := by omega
  have hns2 : ¬ 9223372036854775807 < TW.size + 1 + UW.size := by omega
  go_enter Try.func25, Try.ntmps25
  go_wp2_with fail
  rw [← HW1.out]
  have gD : W1.grownBy (W1).drew none := grown_drew (grown_refl _ _)
  have SS := CX.out _ gD
  refine wp_region_held_drew (S := SY w.heap.size T k U m) (by kernel_rfl) (SS) (fun hHeld => ?_)
  refine wpAnyH_take (i := 0) (v := ?_) rfl (by kernel_rfl) (by kernel_rfl) (by kernel_rfl) (fun _ _ _ h => h) (Or.inl ⟨by rfl, ?_⟩) (by assumption) ?_
  rotate_left
  · intro W hSw
    obtain ⟨t1, t2, t3, t4⟩ := hSw
    go_simp
    with_reducible rfl
  try simp only [Act.put, List.getElem_toArray, List.getElem_cons_succ, List.getElem_cons_zero, List.setIfInBounds_toArray, List.set_cons_zero, List.set_cons_succ]
  refine wpAnyH_ready (rs := [1]) (by kernel_rfl) (by simp) ?_
  refine AllReadyH.cons (o := _) rfl (fun K' hK => ?_) ?_
  · go_simp
    refine (CN.out _).mono ?_
    rintro e w9 ⟨rfl, hg9⟩
    have gD := grown_trans gD hg9
    go_wp2_with fail
    refine hK.out _ _ (hHeld.kept hg9) (fun hHeld => ?_)
    clear hK K'
    try simp only [Act.put, List.getElem_toArray, List.getElem_cons_succ, List.getElem_cons_zero, List.setIfInBounds_toArray, List.set_cons_zero, List.set_cons_succ]
    refine wpAnyH_take (i := 2) (v := ?_) rfl (by kernel_rfl) (by kernel_rfl) (by kernel_rfl) (fun _ _ _ h => h) (Or.inl ⟨by rfl, ?_⟩) (by assumption) ?_
    rotate_left
    · intro W hSw
      obtain ⟨t1, t2, t3, t4⟩ := hSw
      go_simp
      with_reducible rfl
    try simp only [Act.put, List.getElem_toArray, List.getElem_cons_succ, List.getElem_cons_zero, List.setIfInBounds_toArray, List.set_cons_zero, List.set_cons_succ]
    refine wpAnyH_take (i := 3) (v := ?_) rfl (by kernel_rfl) (by kernel_rfl) (by kernel_rfl) (fun _ _ _ h => h) (Or.inl ⟨by rfl, ?_⟩) (by assumption) ?_
    rotate_left
    · intro W hSw
      obtain ⟨t1, t2, t3, t4⟩ := hSw
      go_simp
      with_reducible rfl
    try simp only [Act.put, List.getElem_toArray, List.getElem_cons_succ, List.getElem_cons_zero, List.setIfInBounds_toArray, List.set_cons_zero, List.set_cons_succ]
    refine wpAnyH_take (i := 4) (v := ?_) rfl (by kernel_rfl) (by kernel_rfl) (by kernel_rfl) (fun _ _ _ h => h) (Or.inl ⟨by rfl, ?_⟩) (by assumption) ?_
    rotate_left
    · intro W hSw
      obtain ⟨t1, t2, t3, t4⟩ := hSw
      go_simp
      with_reducible rfl
    try simp only [Act.put, List.getElem_toArray, List.getElem_cons_succ, List.getElem_cons_zero, List.setIfInBounds_toArray, List.set_cons_zero, List.set_cons_succ]
    refine wpAnyH_ready (rs := [5]) (by kernel_rfl) (by simp) ?_
    refine AllReadyH.cons (o := _) rfl (fun K' hK => ?_) ?_
    · go_simp
      refine (CE.out _).mono ?_
      rintro e w9 ⟨rfl, hg9⟩
      have gD := grown_trans gD hg9
      go_wp2_with fail
      refine hK.out _ _ (hHeld.kept hg9) (fun hHeld => ?_)
      clear hK K'
      try simp only [Act.put, List.getElem_toArray, List.getElem_cons_succ, List.getElem_cons_zero, List.setIfInBounds_toArray, List.set_cons_zero, List.set_cons_succ]
      refine wpAnyH_take (i := 6) (v := ?_) rfl (by kernel_rfl) (by kernel_rfl) (by kernel_rfl) (fun _ _ _ h => h) (Or.inl ⟨by rfl, ?_⟩) (by assumption) ?_
      rotate_left
      · intro W hSw
        obtain ⟨t1, t2, t3, t4⟩ := hSw
        go_simp
        with_reducible rfl
      try simp only [Act.put, List.getElem_toArray, List.getElem_cons_succ, List.getElem_cons_zero, List.setIfInBounds_toArray, List.set_cons_zero, List.set_cons_succ]
      refine wpAnyH_take (i := 7) (v := ?_) rfl (by kernel_rfl) (by kernel_rfl) (by kernel_rfl) (fun _ _ _ h => h) (Or.inl ⟨by rfl, ?_⟩) (by assumption) ?_
      rotate_left
      · intro W hSw
        obtain ⟨t1, t2, t3, t4⟩ := hSw
        go_simp
        with_reducible rfl
      try simp only [Act.put, List.getElem_toArray, List.getElem_cons_succ, List.getElem_cons_zero, List.setIfInBounds_toArray, List.set_cons_zero, List.set_cons_succ]
      refine wpAnyH_take (i := 8) (v := ?_) rfl (by kernel_rfl) (by kernel_rfl) (by kernel_rfl) (fun _ _ _ h => h) (Or.inl ⟨by rfl, ?_⟩) (by assumption) ?_
      rotate_left
      · intro W hSw
        obtain ⟨t1, t2, t3, t4⟩ := hSw
        go_simp
        with_reducible rfl
      try simp only [Act.put, List.getElem_toArray, List.getElem_cons_succ, List.getElem_cons_zero, List.setIfInBounds_toArray, List.set_cons_zero, List.set_cons_succ]
      refine wpAnyH_done (by kernel_rfl) ?_ _
      go_wp2_with fail
      have gE := gD
      have gD : W1.grownBy (w9).drew none := grown_drew gE
      have SS := CX.out _ gD
      refine wp_region_held_drew (S := SY w.heap.size T k U m) (by kernel_rfl) (SS) (fun hHeld => ?_)
      refine wpAnyH_take (i := 0) (v := ?_) rfl (by kernel_rfl) (by kernel_rfl) (by kernel_rfl) (fun _ _ _ h => h) (Or.inl ⟨by rfl, ?_⟩) (by assumption) ?_
      rotate_left
      · intro W hSw
        obtain ⟨t1, t2, t3, t4⟩ := hSw
        go_simp
        with_reducible rfl
      try simp only [Act.put, List.getElem_toArray, List.getElem_cons_succ, List.getElem_cons_zero, List.setIfInBounds_toArray, List.set_cons_zero, List.set_cons_succ]
      refine wpAnyH_ready (rs := [1]) (by kernel_rfl) (by simp) ?_
      refine AllReadyH.cons (o := _) rfl (fun K' hK => ?_) ?_
      · go_simp
        refine (CN.out _).mono ?_
        rintro e w9 ⟨rfl, hg9⟩
        have gD := grown_trans gD hg9
        go_wp2_with fail
        refine hK.out _ _ (hHeld.kept hg9) (fun hHeld => ?_)
        clear hK K'
        try simp only [Act.put, List.getElem_toArray, List.getElem_cons_succ, List.getElem_cons_zero, List.setIfInBounds_toArray, List.set_cons_zero, List.set_cons_succ]
        refine wpAnyH_take (i := 2) (v := ?_) rfl (by kernel_rfl) (by kernel_rfl) (by kernel_rfl) (fun _ _ _ h => h) (Or.inl ⟨by rfl, ?_⟩) (by assumption) ?_
        rotate_left
        · intro W hSw
          obtain ⟨t1, t2, t3, t4⟩ := hSw
          go_simp
          with_reducible rfl
        try simp only [Act.put, List.getElem_toArray, List.getElem_cons_succ, List.getElem_cons_zero, List.setIfInBounds_toArray, List.set_cons_zero, List.set_cons_succ]
        refine wpAnyH_take (i := 3) (v := ?_) rfl (by kernel_rfl) (by kernel_rfl) (by kernel_rfl) (fun _ _ _ h => h) (Or.inl ⟨by rfl, ?_⟩) (by assumption) ?_
        rotate_left
        · intro W hSw
          obtain ⟨t1, t2, t3, t4⟩ := hSw
          go_simp
          with_reducible rfl
        try simp only [Act.put, List.getElem_toArray, List.getElem_cons_succ, List.getElem_cons_zero, List.setIfInBounds_toArray, List.set_cons_zero, List.set_cons_succ]
        refine wpAnyH_take (i := 4) (v := ?_) rfl (by kernel_rfl) (by kernel_rfl) (by kernel_rfl) (fun _ _ _ h => h) (Or.inl ⟨by rfl, ?_⟩) (by assumption) ?_
        rotate_left
        · intro W hSw
          obtain ⟨t1, t2, t3, t4⟩ := hSw
          go_simp
          with_reducible rfl
        try simp only [Act.put, List.getElem_toArray, List.getElem_cons_succ, List.getElem_cons_zero, List.setIfInBounds_toArray, List.set_cons_zero, List.set_cons_succ]
        refine wpAnyH_ready (rs := [5]) (by kernel_rfl) (by simp) ?_
        refine AllReadyH.cons (o := _) rfl (fun K' hK => ?_) ?_
        · go_simp
          refine (CE.out _).mono ?_
          rintro e w9 ⟨rfl, hg9⟩
          have gD := grown_trans gD hg9
          go_wp2_with fail
          refine hK.out _ _ (hHeld.kept hg9) (fun hHeld => ?_)
          clear hK K'
          try simp only [Act.put, List.getElem_toArray, List.getElem_cons_succ, List.getElem_cons_zero, List.setIfInBounds_toArray, List.set_cons_zero, List.set_cons_succ]
          refine wpAnyH_take (i := 6) (v := ?_) rfl (by kernel_rfl) (by kernel_rfl) (by kernel_rfl) (fun _ _ _ h => h) (Or.inl ⟨by rfl, ?_⟩) (by assumption) ?_
          rotate_left
          · intro W hSw
            obtain ⟨t1, t2, t3, t4⟩ := hSw
            go_simp
            with_reducible rfl
          try simp only [Act.put, List.getElem_toArray, List.getElem_cons_succ, List.getElem_cons_zero, List.setIfInBounds_toArray, List.set_cons_zero, List.set_cons_succ]
          refine wpAnyH_take (i := 7) (v := ?_) rfl (by kernel_rfl) (by kernel_rfl) (by kernel_rfl) (fun _ _ _ h => h) (Or.inl ⟨by rfl, ?_⟩) (by assumption) ?_
          rotate_left
          · intro W hSw
            obtain ⟨t1, t2, t3, t4⟩ := hSw
            go_simp
            with_reducible rfl
          try simp only [Act.put, List.getElem_toArray, List.getElem_cons_succ, List.getElem_cons_zero, List.setIfInBounds_toArray, List.set_cons_zero, List.set_cons_succ]
          refine wpAnyH_take (i := 8) (v := ?_) rfl (by kernel_rfl) (by kernel_rfl) (by kernel_rfl) (fun _ _ _ h => h) (Or.inl ⟨by rfl, ?_⟩) (by assumption) ?_
          rotate_left
          · intro W hSw
            obtain ⟨t1, t2, t3, t4⟩ := hSw
            go_simp
            with_reducible rfl
          try simp only [Act.put, List.getElem_toArray, List.getElem_cons_succ, List.getElem_cons_zero, List.setIfInBounds_toArray, List.set_cons_zero, List.set_cons_succ]
          refine wpAnyH_done (by kernel_rfl) ?_ _
          go_wp2_with fail
          have gE := gD
          have gD : W1.grownBy (w9).drew none := grown_drew gE
          have SS := CX.out _ gD
          refine wp_region_held_drew (S := SY w.heap.size T k U m) (by kernel_rfl) (SS) (fun hHeld => ?_)
          refine wpAnyH_take (i := 0) (v := ?_) rfl (by kernel_rfl) (by kernel_rfl) (by kernel_rfl) (fun _ _ _ h => h) (Or.inl ⟨by rfl, ?_⟩) (by assumption) ?_
          rotate_left
          · intro W hSw
            obtain ⟨t1, t2, t3, t4⟩ := hSw
            go_simp
            with_reducible rfl
          try simp only [Act.put, List.getElem_toArray, List.getElem_cons_succ, List.getElem_cons_zero, List.setIfInBounds_toArray, List.set_cons_zero, List.set_cons_succ]
          refine wpAnyH_take (i := 2) (v := ?_) rfl (by kernel_rfl) (by kernel_rfl) (by kernel_rfl) (fun _ _ _ h => h) (Or.inl ⟨by rfl, ?_⟩) (by assumption) ?_
          rotate_left
          · intro W hSw
            obtain ⟨t1, t2, t3, t4⟩ := hSw
            go_simp
            with_reducible rfl
          try simp only [Act.put, List.getElem_toArray, List.getElem_cons_succ, List.getElem_cons_zero, List.setIfInBounds_toArray, List.set_cons_zero, List.set_cons_succ]
          refine wpAnyH_ready (rs := [1]) (by kernel_rfl) (by simp) ?_
          refine AllReadyH.cons (o := _) rfl (fun K' hK => ?_) ?_
          · go_simp
            refine (C0.out _).mono ?_
            rintro e w9 ⟨rfl, hg9⟩
            have gD := grown_trans gD hg9
            go_wp2_with fail
            refine hK.out _ _ (hHeld.kept hg9) (fun hHeld => ?_)
            clear hK K'
            try simp only [Act.put, List.getElem_toArray, List.getElem_cons_succ, List.getElem_cons_zero, List.setIfInBounds_toArray, List.set_cons_zero, List.set_cons_succ]
            refine wpAnyH_ready (rs := [3]) (by kernel_rfl) (by simp) ?_
            refine AllReadyH.cons (o := _) rfl (fun K' hK => ?_) ?_
            · go_simp
              refine (C1.out _).mono ?_
              rintro e w9 ⟨rfl, hg9⟩
              have gD := grown_trans gD hg9
              go_wp2_with fail
              refine hK.out _ _ (hHeld.kept hg9) (fun hHeld => ?_)
              clear hK K'
              try simp only [Act.put, List.getElem_toArray, List.getElem_cons_succ, List.getElem_cons_zero, List.setIfInBounds_toArray, List.set_cons_zero, List.set_cons_succ]
              refine wpAnyH_take (i := 4) (v := ?_) rfl (by kernel_rfl) (by kernel_rfl) (by kernel_rfl) (fun _ _ _ h => h) (Or.inl ⟨by rfl, ?_⟩) (by assumption) ?_
              rotate_left
              · intro W hSw
                obtain ⟨t1, t2, t3, t4⟩ := hSw
                go_simp
                with_reducible rfl
              try simp only [Act.put, List.getElem_toArray, List.getElem_cons_succ, List.getElem_cons_zero, List.setIfInBounds_toArray, List.set_cons_zero, List.set_cons_succ]
              refine wpAnyH_take (i := 5) (v := ?_) rfl (by kernel_rfl) (by kernel_rfl) (by kernel_rfl) (fun _ _ _ h => h) (Or.inl ⟨by rfl, ?_⟩) (by assumption) ?_
              rotate_left
              · intro W hSw
                obtain ⟨t1, t2, t3, t4⟩ := hSw
                go_simp
                with_reducible rfl
              try simp only [Act.put, List.getElem_toArray, List.getElem_cons_succ, List.getElem_cons_zero, List.setIfInBounds_toArray, List.set_cons_zero, List.set_cons_succ]
              refine wpAnyH_ready (rs := [6]) (by kernel_rfl) (by simp) ?_
              refine AllReadyH.cons (o := _) rfl (fun K' hK => ?_) ?_
              · obtain ⟨W5, hW5, GF, q0, q1⟩ := HB.out (TW ++ UW) 2 w9 gD
                obtain ⟨z0, z1, zf, _⟩ := (CR.out w9 gD).put (TW ++ UW) (2 : Nat)
                have ec : ((2 : Nat) : Int) = 2 := rfl
                rw [ec] at hW5 q1
                have HW5 : Hid (W5 = _) := hW5
                have S5 : Hid (SY w.heap.size T k U m W5) := SY.far (CX.out w9 gD) hW5
                clear hW5
                go_simp
                rw [← HW5.out]
                refine hK.out _ _ (S5.out) (fun hHeld => ?_)
                clear hK K'
                try simp only [Act.put, List.getElem_toArray, List.getElem_cons_succ, List.getElem_cons_zero, List.setIfInBounds_toArray, List.set_cons_zero, List.set_cons_succ]
                refine wpAnyH_done (by kernel_rfl) ?_ _
                go_wp2_with fail
                exact bodyPost_ret (v := .agg #[.string (TW ++ UW), .int .i64 2]) (by simp [results, Try.results25, go_sem, q0, q1]) rfl (Hres.out _ GF.out)
              exact AllReadyH.nil
            exact AllReadyH.nil
          exact AllReadyH.nil
        exact AllReadyH.nil
      exact AllReadyH.nil
    exact AllReadyH.nil
  exact AllReadyH.nil

end Go.Proofs.Yticmfgclkepgoaa
