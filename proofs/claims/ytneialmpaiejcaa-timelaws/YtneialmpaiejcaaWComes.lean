/- The program's comes: two passes backward. -/
import Derived.Test.YtneialmpaiejcaaWHeld
namespace Go.Proofs.Ytneialmpaiejcaa
open Go.RowKit Go.Shelf
set_option linter.unusedVariables false
set_option linter.unusedSimpArgs false
attribute [local go_sem] Oper.semAt_some

theorem skip_opW {o : Oper} {y : Nat → Option Bool} {A E : Prop} (hw : Region.wanted o y = false) (h : E) : if Region.wanted o y = true then A else E := by rw [hw]; simpa using h
def idxs {n : Nat} (pre : List (BkT n)) : List Nat := pre.map fun x => (x.1 : Nat)
theorem passL_map {nx : Nat → Nat} {kp gl o : Nat → Bool} {n : Nat} (pre : List (BkT n)) (x : BkT n) : passL nx kp gl o (idxs (pre ++ [x])) = pstep nx kp gl (passL nx kp gl o (idxs pre)) x.1 := by
  unfold idxs
  rw [List.map_append, List.map_cons, List.map_nil, passL_snoc]

set_option maxRecDepth 100000 in
set_option maxHeartbeats 16000000 in
theorem comes_any (n t c ck cg gk gg : Nat) (a : Option Addr) (kp gl : Nat → Bool) (w : World) (hn : n ≤ 1000) (ht : t < n) (hk : BRow w gk n kp) (hg : BRow w gg n gl) :
    Calls Try.prog 14 #[.agg #[.slice a n c, .int .i64 (t : Int)], .slice (some ⟨gk, 0, none⟩) n ck, .slice (some ⟨gg, 0, none⟩) n cg] w fun e w' => ∃ g, e = .returned (.slice (some ⟨g, 0, none⟩) n n) ∧ BRow w' g n (passL (aft n t) kp gl (passL (aft n t) kp gl (fun _ => false) (endsT n n)) (endsT n n)) ∧ w.grownBy w' none := by
  have hkl := hk.lt
  have hgl := hg.lt
  obtain ⟨W1, hW1⟩ : ∃ W1, W1 = (((w.alloc (.cells #[.slice a n c, .int .i64 (t : Int)] 39)).alloc (.cells #[.slice (some ⟨gk, 0, none⟩) n ck] 36)).alloc (.cells #[.slice (some ⟨gg, 0, none⟩) n cg] 36)) := ⟨_, rfl⟩
  obtain ⟨W2, hmk, hrow, g2, s2⟩ := bools_make W1 n hn
  have s1 : W1.heap.size = w.heap.size + 1 + 1 + 1 := by rw [hW1]; simp
  have g1 : w.grownBy W1 none := by rw [hW1]; exact grown_trans (grown_alloc _ _) (grown_trans (grown_alloc _ _) (grown_alloc _ _))
  rw [s1] at hmk hrow s2
  have hmk' := hmk
  rw [hW1] at hmk'
  have bb0 : W1.cell? ⟨w.heap.size, 0, none⟩ = some (.slice a n c) := by rw [hW1]; go_simp
  have bb1 : W1.cell? ⟨w.heap.size, 1, none⟩ = some (.int .i64 (t : Int)) := by rw [hW1]; go_simp
  have bb2 : W1.cell? ⟨w.heap.size + 1, 0, none⟩ = some (.slice (some ⟨gk, 0, none⟩) n ck) := by rw [hW1]; go_simp
  have bb3 : W1.cell? ⟨w.heap.size + 1 + 1, 0, none⟩ = some (.slice (some ⟨gg, 0, none⟩) n cg) := by rw [hW1]; go_simp
  have bb3' := bb3
  rw [hW1] at bb3'
  obtain ⟨W3, hW3⟩ : ∃ W3, W3 = W2.alloc (.cells #[.slice (some ⟨w.heap.size + 1 + 1 + 1, 0, none⟩) n n] 36) := ⟨_, rfl⟩
  have g3 : W2.grownBy W3 none := by rw [hW3]; exact grown_alloc _ _
  have g23 : W1.grownBy W3 none := grown_trans g2 g3
  have s3 : W3.heap.size = w.heap.size + 1 + 1 + 1 + 1 + 1 := by rw [hW3, World.size_alloc, s2]
  have bb4 : W3.cell? ⟨w.heap.size + 1 + 1 + 1 + 1, 0, none⟩ = some (.slice (some ⟨w.heap.size + 1 + 1 + 1, 0, none⟩) n n) := by
    have hb := heap_alloc_new W2 (.cells #[.slice (some ⟨w.heap.size + 1 + 1 + 1, 0, none⟩) n n] 36)
    rw [← hW3, s2] at hb
    rw [cell_of_row _ _ 0 _ _ (0, 0) hb]; rfl
  have INV : InvC w w.heap.size gk gg n t c ck cg a kp gl (fun _ => false) W3 := ⟨g23.cell bb0 (by simp), g23.cell bb1 (by simp), g23.cell bb2 (by simp), g23.cell bb3 (by simp), bb4, (hk.kept g1).kept g23, (hg.kept g1).kept g23, hrow.kept g3, Nat.le_refl _, below_of_grown (grown_trans g1 g23)⟩
  have HW3 : Hid (W3 = W2.alloc (.cells #[.slice (some ⟨w.heap.size + 1 + 1 + 1, 0, none⟩) n n] 36)) := hW3
  have HIN : Hid (InvC w w.heap.size gk gg n t c ck cg a kp gl (fun _ => false) W3) := INV
  have HBR : Hid (InvC w w.heap.size gk gg n t c ck cg a kp gl (fun _ => false) W3) := INV
  have S3 : Hid (W3.heap.size = w.heap.size + 1 + 1 + 1 + 1 + 1) := s3
  have HCL : Hid (∀ W, Calls Try.prog 22 #[.slice (some ⟨w.heap.size + 1 + 1 + 1, 0, none⟩) n n] W fun e w' => e = .returned (.func (.func 26) #[] #[.pointer (some ⟨W.heap.size, 0, none⟩)]) ∧ w' = W.alloc (.cells #[.slice (some ⟨w.heap.size + 1 + 1 + 1, 0, none⟩) n n] 36)) := fun W => backward_any _ _ _ W
  clear hW1 hW3 hmk hrow g2 g1 bb0 bb1 bb2 bb3 bb4 g3 g23 s1 INV s3 hk hg
  refine (callsIn_wide (n := 9)).1 ?_
  refine callsIn_of_wp_marks Try.func14 rfl trivial ?_ rfl
  simp only [Try.ntmps14, List.size_toArray, List.length_cons, List.length_nil, Nat.reduceAdd, Nat.reduceSub, Array.replicate_succ, Array.replicate_zero, List.push_toArray, List.append_toArray, List.nil_append, List.cons_append]
  gi_wp2
  refine wpIn_loop_rounds 3 ?_
  rw [roundsIn_succ]
  gi_wp2
  rw [← HW3.out]
  refine ⟨trivial, (callsIn_wide.2 (HCL.out W3)).mono ?_⟩
  rintro e w4 ⟨rfl, rfl⟩
  clear hmk' bb3' s2
  have I0 : Hid (InvC w w.heap.size gk gg n t c ck cg a kp gl (fun _ => false) (W3.alloc (.cells #[.slice (some ⟨w.heap.size + 1 + 1 + 1, 0, none⟩) n n] 36))) := HIN.out.kept (grown_alloc _ _)
  have z0 : (W3.alloc (.cells #[.slice (some ⟨w.heap.size + 1 + 1 + 1, 0, none⟩) n n] 36)).heap.size = W3.heap.size + 1 := World.size_alloc _ _
  have cb0 : (W3.alloc (.cells #[.slice (some ⟨w.heap.size + 1 + 1 + 1, 0, none⟩) n n] 36)).cell? ⟨W3.heap.size, 0, none⟩ = some (.slice (some ⟨w.heap.size + 1 + 1 + 1, 0, none⟩) n n) := by
    have hb := heap_alloc_new W3 (.cells #[.slice (some ⟨w.heap.size + 1 + 1 + 1, 0, none⟩) n n] 36)
    rw [cell_of_row _ _ 0 _ _ (0, 0) hb]; rfl
  have hBs0 : w.heap.size + 1 + 1 + 1 < W3.heap.size := HIN.out.or.lt
  gi_wp2
  refine wpIn_rangeFunc_ownG rfl (by omega) (gf := 26) (lb := #[.pointer (some ⟨W3.heap.size, 0, none⟩)]) rfl trivial (enters_of Try.func26 (by kernel_rfl) rfl)
    (back_stops 8 (by omega) W3.heap.size (w.heap.size + 1 + 1 + 1) n n hn _ (by rw [z0]; omega) I0.out.or.lt cb0 (fun i hi => ⟨_, I0.out.or.cell hi⟩)) KpB.trans (fun W l o o' _ h1 h2 _ => KpB.turn W l o o' h1 h2) (Below.refl _ _) (fun _ => rfl)
    (fun (pre : List (BkT n)) W => InvC w w.heap.size gk gg n t c ck cg a kp gl (passL (aft n t) kp gl (fun _ => false) (idxs pre)) W)
    (fun _ _ _ => False)
    (fun s A B row hs hg' hr => hs.turn hg' (fun r e => ⟨by have := (hr r e).1; rw [z0] at this; omega, (hr r e).2⟩))
    (fun _ _ _ _ _ hs _ _ => hs)
    I0.out
    (fun x => { tmps := #[.agg #[.slice a n c, .int .i64 (t : Int)], .slice (some ⟨gk, 0, none⟩) n ck, .slice (some ⟨gg, 0, none⟩) n cg, .pointer (some ⟨w.heap.size, 0, none⟩), .pointer (some ⟨w.heap.size + 1, 0, none⟩), .pointer (some ⟨w.heap.size + 1 + 1, 0, none⟩), .slice none 0 0, .pointer (some ⟨w.heap.size + 1 + 1 + 1 + 1, 0, none⟩), .int .i64 (((x.1 : Nat) : Nat) : Int), .slice (some ⟨gg, 0, none⟩) n cg, .int .i64 (n : Int), .slice (some ⟨w.heap.size + 1 + 1 + 1, 0, none⟩) n n, .int .i64 0, .bool true, .slice (some ⟨w.heap.size + 1 + 1 + 1, 0, none⟩) n n, .func (.func 26) #[] #[.pointer (some ⟨W3.heap.size, 0, none⟩)], .int .i64 (((x.1 : Nat) : Nat) : Int), .bool x.2, undef, undef, undef, undef, undef, undef, undef, undef, undef, undef, undef, undef, undef, undef, undef, undef, undef, undef, undef, undef, undef, undef, undef], defers := [] }) ?assign0 ?body0 ?done0 ?stop0
  case assign0 =>
    intro l x W K hK
    simp only [encB]
    gi_wp2
    exact hK
  case stop0 =>
    rintro D cc pre W _ _ h _
    exact h.elim
  case body0 =>
    rintro l pre x W hI _
    have hi : (x.1 : Nat) < n := x.1.isLt
    have R : Hid (∀ W2 b, W.grownBy W2 none → b = (gl (x.1 : Nat) || (kp (x.1 : Nat) && passL (aft n t) kp gl (fun _ => false) (idxs pre) (aft n t (x.1 : Nat)))) → RoundC w w.heap.size gk gg n t c ck cg a kp gl W3.heap.size ((W3.alloc (.cells #[.slice (some ⟨w.heap.size + 1 + 1 + 1, 0, none⟩) n n] 36)).heap.size) (passL (aft n t) kp gl (fun _ => false) (idxs (pre ++ [x]))) W (W2.setCell ⟨w.heap.size + 1 + 1 + 1, (x.1 : Nat), none⟩ (.bool b))) := fun W2 b h1 h2 => by rw [passL_map]; exact hI.round hkl hgl hBs0 hi h1 h2
    have c0 := hI.b0
    have c1 := hI.b1
    have c2 := hI.b2
    have c3 := hI.b3
    have c4 := hI.b4
    have k0 := hI.kr.cell hi
    have l0 := hI.gr.cell hi
    have o0 := hI.or.cell hi
    have fo := hI.or.frozen (x.1 : Nat)
    have al := hI.or.cell (aft_lt (i := (x.1 : Nat)) ht)
    have HA : Hid (∀ W', Calls Try.prog 17 #[.agg #[.slice a n c, .int .i64 (t : Int)], .int .i64 (((x.1 : Nat) : Nat) : Int)] W' (Says (.int .i64 ((aft n t (x.1 : Nat) : Nat) : Int)) W')) := fun W' => after_any n t (x.1 : Nat) c a W' hn hi ht
    have HCE : Hid (∀ W', W.grownBy W' none → InvC w w.heap.size gk gg n t c ck cg a kp gl (passL (aft n t) kp gl (fun _ => false) (idxs pre)) W') := fun W' h => hI.kept h
    generalize hq : passL (aft n t) kp gl (fun _ => false) (idxs pre) = oo at *
    obtain ⟨i, hie⟩ : ∃ i, (x.1 : Nat) = i := ⟨_, rfl⟩
    simp only [hie] at *
    clear hI
    have hmx : Try.prog.follows .mixedOrders = true := by kernel_rfl
    have i1 : (i : Int) < (n : Int) := by omega
    have i2 : (0 : Int) ≤ (i : Int) := by omega
    gi_wp2
    cases hgi : gl i with
    | true =>
      rw [hgi] at l0
      have fin := R.out W.drew true (grown_drew (grown_refl _ _)) (by rw [hgi]; rfl)
      have fo2 : W.drew.frozen? ⟨w.heap.size + 1 + 1 + 1, i, none⟩ = false := fo
      have o2 : W.drew.cell? ⟨w.heap.size + 1 + 1 + 1, i, none⟩ = some (.bool (oo i)) := o0
      refine region_in (S := SC w.heap.size gk gg n t c ck cg a kp gl) hmx (by kernel_rfl) (fun ⟨_, _, h⟩ => h) (HCE.out _ (grown_drew (grown_refl _ _))).sc (fun hS => ?_)
      refine wpAnyH_take (i := 0) (v := (.slice (some ⟨w.heap.size + 1 + 1 + 1, 0, none⟩) n n)) rfl (by kernel_rfl) (by kernel_rfl) (by kernel_rfl) (fun _ _ _ h => h) (Or.inl ⟨by kernel_rfl, ?_⟩) hS ?_
      · intro w' hw'
        have e0 := hw'.b4
        go_simp
      simp only [Act.put, List.setIfInBounds_toArray, List.set_cons_zero, List.set_cons_succ]
      refine wpAnyH_take (i := 1) (v := (.int .i64 (i : Int))) rfl (by kernel_rfl) (by kernel_rfl) (by kernel_rfl) (fun _ _ _ h => h) (Or.inl ⟨by kernel_rfl, ?_⟩) hS ?_
      · intro w' hw'
        go_simp
      simp only [Act.put, List.setIfInBounds_toArray, List.set_cons_zero, List.set_cons_succ]
      refine wpAnyH_take (i := 2) (v := (.slice (some ⟨gg, 0, none⟩) n cg)) rfl (by kernel_rfl) (by kernel_rfl) (by kernel_rfl) (fun _ _ _ h => h) (Or.inl ⟨by kernel_rfl, ?_⟩) hS ?_
      · intro w' hw'
        have e0 := hw'.b3
        go_simp
      simp only [Act.put, List.setIfInBounds_toArray, List.set_cons_zero, List.set_cons_succ]
      refine wpAnyH_take (i := 3) (v := (.int .i64 (i : Int))) rfl (by kernel_rfl) (by kernel_rfl) (by kernel_rfl) (fun _ _ _ h => h) (Or.inl ⟨by kernel_rfl, ?_⟩) hS ?_
      · intro w' hw'
        go_simp
      simp only [Act.put, List.setIfInBounds_toArray, List.set_cons_zero, List.set_cons_succ]
      refine wpAnyH_take (i := 4) (v := (.pointer (some ⟨gg, i, none⟩))) rfl (by kernel_rfl) (by kernel_rfl) (by kernel_rfl) (fun _ _ _ h => h) (Or.inl ⟨by kernel_rfl, ?_⟩) hS ?_
      · intro w' hw'
        go_simp
      simp only [Act.put, List.setIfInBounds_toArray, List.set_cons_zero, List.set_cons_succ]
      refine wpAnyH_take (i := 5) (v := (.bool true)) rfl (by kernel_rfl) (by kernel_rfl) (by kernel_rfl) (fun _ _ _ h => h) (Or.inl ⟨by kernel_rfl, ?_⟩) hS ?_
      · intro w' hw'
        have e0 := hw'.gr.cell hi
        have e1 := hgi
        go_simp
      simp only [Act.put, List.setIfInBounds_toArray, List.set_cons_zero, List.set_cons_succ]
      refine wpAnyH_take (i := 6) (v := (.bool true)) rfl (by kernel_rfl) (by kernel_rfl) (by kernel_rfl) (fun _ _ _ h => h) (Or.inl ⟨by kernel_rfl, ?_⟩) hS ?_
      · intro w' hw'
        go_simp
      simp only [Act.put, List.setIfInBounds_toArray, List.set_cons_zero, List.set_cons_succ]
      refine wpAnyH_take (i := 7) (v := undef) rfl (by kernel_rfl) (by kernel_rfl) (by kernel_rfl) (fun _ _ _ h => h) (Or.inr ⟨by kernel_rfl, rfl⟩) hS ?_
      simp only [Act.put, List.setIfInBounds_toArray, List.set_cons_zero, List.set_cons_succ]
      refine wpAnyH_take (i := 8) (v := undef) rfl (by kernel_rfl) (by kernel_rfl) (by kernel_rfl) (fun _ _ _ h => h) (Or.inr ⟨by kernel_rfl, rfl⟩) hS ?_
      simp only [Act.put, List.setIfInBounds_toArray, List.set_cons_zero, List.set_cons_succ]
      refine wpAnyH_take (i := 9) (v := undef) rfl (by kernel_rfl) (by kernel_rfl) (by kernel_rfl) (fun _ _ _ h => h) (Or.inr ⟨by kernel_rfl, rfl⟩) hS ?_
      simp only [Act.put, List.setIfInBounds_toArray, List.set_cons_zero, List.set_cons_succ]
      refine wpAnyH_take (i := 10) (v := undef) rfl (by kernel_rfl) (by kernel_rfl) (by kernel_rfl) (fun _ _ _ h => h) (Or.inr ⟨by kernel_rfl, rfl⟩) hS ?_
      simp only [Act.put, List.setIfInBounds_toArray, List.set_cons_zero, List.set_cons_succ]
      refine wpAnyH_take (i := 11) (v := undef) rfl (by kernel_rfl) (by kernel_rfl) (by kernel_rfl) (fun _ _ _ h => h) (Or.inr ⟨by kernel_rfl, rfl⟩) hS ?_
      simp only [Act.put, List.setIfInBounds_toArray, List.set_cons_zero, List.set_cons_succ]
      refine wpAnyH_take (i := 12) (v := undef) rfl (by kernel_rfl) (by kernel_rfl) (by kernel_rfl) (fun _ _ _ h => h) (Or.inr ⟨by kernel_rfl, rfl⟩) hS ?_
      simp only [Act.put, List.setIfInBounds_toArray, List.set_cons_zero, List.set_cons_succ]
      refine wpAnyH_take (i := 13) (v := undef) rfl (by kernel_rfl) (by kernel_rfl) (by kernel_rfl) (fun _ _ _ h => h) (Or.inr ⟨by kernel_rfl, rfl⟩) hS ?_
      simp only [Act.put, List.setIfInBounds_toArray, List.set_cons_zero, List.set_cons_succ]
      refine wpAnyH_take (i := 14) (v := undef) rfl (by kernel_rfl) (by kernel_rfl) (by kernel_rfl) (fun _ _ _ h => h) (Or.inr ⟨by kernel_rfl, rfl⟩) hS ?_
      simp only [Act.put, List.setIfInBounds_toArray, List.set_cons_zero, List.set_cons_succ]
      refine wpAnyH_take (i := 15) (v := undef) rfl (by kernel_rfl) (by kernel_rfl) (by kernel_rfl) (fun _ _ _ h => h) (Or.inr ⟨by kernel_rfl, rfl⟩) hS ?_
      simp only [Act.put, List.setIfInBounds_toArray, List.set_cons_zero, List.set_cons_succ]
      refine wpAnyH_take (i := 16) (v := undef) rfl (by kernel_rfl) (by kernel_rfl) (by kernel_rfl) (fun _ _ _ h => h) (Or.inr ⟨by kernel_rfl, rfl⟩) hS ?_
      simp only [Act.put, List.setIfInBounds_toArray, List.set_cons_zero, List.set_cons_succ]
      refine wpAnyH_take (i := 17) (v := undef) rfl (by kernel_rfl) (by kernel_rfl) (by kernel_rfl) (fun _ _ _ h => h) (Or.inr ⟨by kernel_rfl, rfl⟩) hS ?_
      simp only [Act.put, List.setIfInBounds_toArray, List.set_cons_zero, List.set_cons_succ]
      refine wpAnyH_take (i := 18) (v := undef) rfl (by kernel_rfl) (by kernel_rfl) (by kernel_rfl) (fun _ _ _ h => h) (Or.inr ⟨by kernel_rfl, rfl⟩) hS ?_
      simp only [Act.put, List.setIfInBounds_toArray, List.set_cons_zero, List.set_cons_succ]
      refine wpAnyH_take (i := 19) (v := (.bool true)) rfl (by kernel_rfl) (by kernel_rfl) (by kernel_rfl) (fun _ _ _ h => h) (Or.inl ⟨by kernel_rfl, ?_⟩) hS ?_
      · intro w' hw'
        go_simp
      simp only [Act.put, List.setIfInBounds_toArray, List.set_cons_zero, List.set_cons_succ]
      refine wpAnyH_take (i := 20) (v := (.pointer (some ⟨w.heap.size + 1 + 1 + 1, i, none⟩))) rfl (by kernel_rfl) (by kernel_rfl) (by kernel_rfl) (fun _ _ _ h => h) (Or.inl ⟨by kernel_rfl, ?_⟩) hS ?_
      · intro w' hw'
        go_simp
      simp only [Act.put, List.setIfInBounds_toArray, List.set_cons_zero, List.set_cons_succ]
      refine wpAnyH_ready (rs := [21]) (by kernel_rfl) (by simp) (AllReadyH.cons rfl (fun K' hK => ?_) AllReadyH.nil)
      go_simp
      refine hK.out _ _ (fin).inv.sc (fun hS2 => ?_)
      refine wpAnyH_done (by kernel_rfl) ?_ _
      exact ⟨(fin).kf, (fin).keep, (fin).inv⟩
    | false =>
      rw [hgi] at l0
      cases hki : kp i with
      | false =>
        rw [hki] at k0
        have fin := R.out W.drew false (grown_drew (grown_refl _ _)) (by rw [hgi, hki]; rfl)
        have fo2 : W.drew.frozen? ⟨w.heap.size + 1 + 1 + 1, i, none⟩ = false := fo
        have o2 : W.drew.cell? ⟨w.heap.size + 1 + 1 + 1, i, none⟩ = some (.bool (oo i)) := o0
        refine region_in (S := SC w.heap.size gk gg n t c ck cg a kp gl) hmx (by kernel_rfl) (fun ⟨_, _, h⟩ => h) (HCE.out _ (grown_drew (grown_refl _ _))).sc (fun hS => ?_)
        refine wpAnyH_take (i := 0) (v := (.slice (some ⟨w.heap.size + 1 + 1 + 1, 0, none⟩) n n)) rfl (by kernel_rfl) (by kernel_rfl) (by kernel_rfl) (fun _ _ _ h => h) (Or.inl ⟨by kernel_rfl, ?_⟩) hS ?_
        · intro w' hw'
          have e0 := hw'.b4
          go_simp
        simp only [Act.put, List.setIfInBounds_toArray, List.set_cons_zero, List.set_cons_succ]
        refine wpAnyH_take (i := 1) (v := (.int .i64 (i : Int))) rfl (by kernel_rfl) (by kernel_rfl) (by kernel_rfl) (fun _ _ _ h => h) (Or.inl ⟨by kernel_rfl, ?_⟩) hS ?_
        · intro w' hw'
          go_simp
        simp only [Act.put, List.setIfInBounds_toArray, List.set_cons_zero, List.set_cons_succ]
        refine wpAnyH_take (i := 2) (v := (.slice (some ⟨gg, 0, none⟩) n cg)) rfl (by kernel_rfl) (by kernel_rfl) (by kernel_rfl) (fun _ _ _ h => h) (Or.inl ⟨by kernel_rfl, ?_⟩) hS ?_
        · intro w' hw'
          have e0 := hw'.b3
          go_simp
        simp only [Act.put, List.setIfInBounds_toArray, List.set_cons_zero, List.set_cons_succ]
        refine wpAnyH_take (i := 3) (v := (.int .i64 (i : Int))) rfl (by kernel_rfl) (by kernel_rfl) (by kernel_rfl) (fun _ _ _ h => h) (Or.inl ⟨by kernel_rfl, ?_⟩) hS ?_
        · intro w' hw'
          go_simp
        simp only [Act.put, List.setIfInBounds_toArray, List.set_cons_zero, List.set_cons_succ]
        refine wpAnyH_take (i := 4) (v := (.pointer (some ⟨gg, i, none⟩))) rfl (by kernel_rfl) (by kernel_rfl) (by kernel_rfl) (fun _ _ _ h => h) (Or.inl ⟨by kernel_rfl, ?_⟩) hS ?_
        · intro w' hw'
          go_simp
        simp only [Act.put, List.setIfInBounds_toArray, List.set_cons_zero, List.set_cons_succ]
        refine wpAnyH_take (i := 5) (v := (.bool false)) rfl (by kernel_rfl) (by kernel_rfl) (by kernel_rfl) (fun _ _ _ h => h) (Or.inl ⟨by kernel_rfl, ?_⟩) hS ?_
        · intro w' hw'
          have e0 := hw'.gr.cell hi
          have e1 := hgi
          go_simp
        simp only [Act.put, List.setIfInBounds_toArray, List.set_cons_zero, List.set_cons_succ]
        refine wpAnyH_take (i := 6) (v := (.bool false)) rfl (by kernel_rfl) (by kernel_rfl) (by kernel_rfl) (fun _ _ _ h => h) (Or.inl ⟨by kernel_rfl, ?_⟩) hS ?_
        · intro w' hw'
          go_simp
        simp only [Act.put, List.setIfInBounds_toArray, List.set_cons_zero, List.set_cons_succ]
        refine wpAnyH_take (i := 7) (v := (.slice (some ⟨gk, 0, none⟩) n ck)) rfl (by kernel_rfl) (by kernel_rfl) (by kernel_rfl) (fun _ _ _ h => h) (Or.inl ⟨by kernel_rfl, ?_⟩) hS ?_
        · intro w' hw'
          have e0 := hw'.b2
          go_simp
        simp only [Act.put, List.setIfInBounds_toArray, List.set_cons_zero, List.set_cons_succ]
        refine wpAnyH_take (i := 8) (v := (.int .i64 (i : Int))) rfl (by kernel_rfl) (by kernel_rfl) (by kernel_rfl) (fun _ _ _ h => h) (Or.inl ⟨by kernel_rfl, ?_⟩) hS ?_
        · intro w' hw'
          go_simp
        simp only [Act.put, List.setIfInBounds_toArray, List.set_cons_zero, List.set_cons_succ]
        refine wpAnyH_take (i := 9) (v := (.pointer (some ⟨gk, i, none⟩))) rfl (by kernel_rfl) (by kernel_rfl) (by kernel_rfl) (fun _ _ _ h => h) (Or.inl ⟨by kernel_rfl, ?_⟩) hS ?_
        · intro w' hw'
          go_simp
        simp only [Act.put, List.setIfInBounds_toArray, List.set_cons_zero, List.set_cons_succ]
        refine wpAnyH_take (i := 10) (v := (.bool false)) rfl (by kernel_rfl) (by kernel_rfl) (by kernel_rfl) (fun _ _ _ h => h) (Or.inl ⟨by kernel_rfl, ?_⟩) hS ?_
        · intro w' hw'
          have e0 := hw'.kr.cell hi
          have e1 := hki
          go_simp
        simp only [Act.put, List.setIfInBounds_toArray, List.set_cons_zero, List.set_cons_succ]
        refine wpAnyH_take (i := 11) (v := (.bool false)) rfl (by kernel_rfl) (by kernel_rfl) (by kernel_rfl) (fun _ _ _ h => h) (Or.inl ⟨by kernel_rfl, ?_⟩) hS ?_
        · intro w' hw'
          go_simp
        simp only [Act.put, List.setIfInBounds_toArray, List.set_cons_zero, List.set_cons_succ]
        refine wpAnyH_take (i := 12) (v := undef) rfl (by kernel_rfl) (by kernel_rfl) (by kernel_rfl) (fun _ _ _ h => h) (Or.inr ⟨by kernel_rfl, rfl⟩) hS ?_
        simp only [Act.put, List.setIfInBounds_toArray, List.set_cons_zero, List.set_cons_succ]
        refine wpAnyH_take (i := 13) (v := undef) rfl (by kernel_rfl) (by kernel_rfl) (by kernel_rfl) (fun _ _ _ h => h) (Or.inr ⟨by kernel_rfl, rfl⟩) hS ?_
        simp only [Act.put, List.setIfInBounds_toArray, List.set_cons_zero, List.set_cons_succ]
        refine wpAnyH_take (i := 14) (v := undef) rfl (by kernel_rfl) (by kernel_rfl) (by kernel_rfl) (fun _ _ _ h => h) (Or.inr ⟨by kernel_rfl, rfl⟩) hS ?_
        simp only [Act.put, List.setIfInBounds_toArray, List.set_cons_zero, List.set_cons_succ]
        refine wpAnyH_take (i := 15) (v := undef) rfl (by kernel_rfl) (by kernel_rfl) (by kernel_rfl) (fun _ _ _ h => h) (Or.inr ⟨by kernel_rfl, rfl⟩) hS ?_
        simp only [Act.put, List.setIfInBounds_toArray, List.set_cons_zero, List.set_cons_succ]
        refine wpAnyH_take (i := 16) (v := undef) rfl (by kernel_rfl) (by kernel_rfl) (by kernel_rfl) (fun _ _ _ h => h) (Or.inr ⟨by kernel_rfl, rfl⟩) hS ?_
        simp only [Act.put, List.setIfInBounds_toArray, List.set_cons_zero, List.set_cons_succ]
        refine wpAnyH_take (i := 17) (v := undef) rfl (by kernel_rfl) (by kernel_rfl) (by kernel_rfl) (fun _ _ _ h => h) (Or.inr ⟨by kernel_rfl, rfl⟩) hS ?_
        simp only [Act.put, List.setIfInBounds_toArray, List.set_cons_zero, List.set_cons_succ]
        refine wpAnyH_take (i := 18) (v := (.bool false)) rfl (by kernel_rfl) (by kernel_rfl) (by kernel_rfl) (fun _ _ _ h => h) (Or.inl ⟨by kernel_rfl, ?_⟩) hS ?_
        · intro w' hw'
          go_simp
        simp only [Act.put, List.setIfInBounds_toArray, List.set_cons_zero, List.set_cons_succ]
        refine wpAnyH_take (i := 19) (v := (.bool false)) rfl (by kernel_rfl) (by kernel_rfl) (by kernel_rfl) (fun _ _ _ h => h) (Or.inl ⟨by kernel_rfl, ?_⟩) hS ?_
        · intro w' hw'
          go_simp
        simp only [Act.put, List.setIfInBounds_toArray, List.set_cons_zero, List.set_cons_succ]
        refine wpAnyH_take (i := 20) (v := (.pointer (some ⟨w.heap.size + 1 + 1 + 1, i, none⟩))) rfl (by kernel_rfl) (by kernel_rfl) (by kernel_rfl) (fun _ _ _ h => h) (Or.inl ⟨by kernel_rfl, ?_⟩) hS ?_
        · intro w' hw'
          go_simp
        simp only [Act.put, List.setIfInBounds_toArray, List.set_cons_zero, List.set_cons_succ]
        refine wpAnyH_ready (rs := [21]) (by kernel_rfl) (by simp) (AllReadyH.cons rfl (fun K' hK => ?_) AllReadyH.nil)
        go_simp
        refine hK.out _ _ (fin).inv.sc (fun hS2 => ?_)
        refine wpAnyH_done (by kernel_rfl) ?_ _
        exact ⟨(fin).kf, (fin).keep, (fin).inv⟩
      | true =>
        rw [hki] at k0
        refine region_in (S := SC w.heap.size gk gg n t c ck cg a kp gl) hmx (by kernel_rfl) (fun ⟨_, _, h⟩ => h) (HCE.out _ (grown_drew (grown_refl _ _))).sc (fun hS => ?_)
        refine wpAnyH_take (i := 0) (v := (.slice (some ⟨w.heap.size + 1 + 1 + 1, 0, none⟩) n n)) rfl (by kernel_rfl) (by kernel_rfl) (by kernel_rfl) (fun _ _ _ h => h) (Or.inl ⟨by kernel_rfl, ?_⟩) hS ?_
        · intro w' hw'
          have e0 := hw'.b4
          go_simp
        simp only [Act.put, List.setIfInBounds_toArray, List.set_cons_zero, List.set_cons_succ]
        refine wpAnyH_take (i := 1) (v := (.int .i64 (i : Int))) rfl (by kernel_rfl) (by kernel_rfl) (by kernel_rfl) (fun _ _ _ h => h) (Or.inl ⟨by kernel_rfl, ?_⟩) hS ?_
        · intro w' hw'
          go_simp
        simp only [Act.put, List.setIfInBounds_toArray, List.set_cons_zero, List.set_cons_succ]
        refine wpAnyH_take (i := 2) (v := (.slice (some ⟨gg, 0, none⟩) n cg)) rfl (by kernel_rfl) (by kernel_rfl) (by kernel_rfl) (fun _ _ _ h => h) (Or.inl ⟨by kernel_rfl, ?_⟩) hS ?_
        · intro w' hw'
          have e0 := hw'.b3
          go_simp
        simp only [Act.put, List.setIfInBounds_toArray, List.set_cons_zero, List.set_cons_succ]
        refine wpAnyH_take (i := 3) (v := (.int .i64 (i : Int))) rfl (by kernel_rfl) (by kernel_rfl) (by kernel_rfl) (fun _ _ _ h => h) (Or.inl ⟨by kernel_rfl, ?_⟩) hS ?_
        · intro w' hw'
          go_simp
        simp only [Act.put, List.setIfInBounds_toArray, List.set_cons_zero, List.set_cons_succ]
        refine wpAnyH_take (i := 4) (v := (.pointer (some ⟨gg, i, none⟩))) rfl (by kernel_rfl) (by kernel_rfl) (by kernel_rfl) (fun _ _ _ h => h) (Or.inl ⟨by kernel_rfl, ?_⟩) hS ?_
        · intro w' hw'
          go_simp
        simp only [Act.put, List.setIfInBounds_toArray, List.set_cons_zero, List.set_cons_succ]
        refine wpAnyH_take (i := 5) (v := (.bool false)) rfl (by kernel_rfl) (by kernel_rfl) (by kernel_rfl) (fun _ _ _ h => h) (Or.inl ⟨by kernel_rfl, ?_⟩) hS ?_
        · intro w' hw'
          have e0 := hw'.gr.cell hi
          have e1 := hgi
          go_simp
        simp only [Act.put, List.setIfInBounds_toArray, List.set_cons_zero, List.set_cons_succ]
        refine wpAnyH_take (i := 6) (v := (.bool false)) rfl (by kernel_rfl) (by kernel_rfl) (by kernel_rfl) (fun _ _ _ h => h) (Or.inl ⟨by kernel_rfl, ?_⟩) hS ?_
        · intro w' hw'
          go_simp
        simp only [Act.put, List.setIfInBounds_toArray, List.set_cons_zero, List.set_cons_succ]
        refine wpAnyH_take (i := 7) (v := (.slice (some ⟨gk, 0, none⟩) n ck)) rfl (by kernel_rfl) (by kernel_rfl) (by kernel_rfl) (fun _ _ _ h => h) (Or.inl ⟨by kernel_rfl, ?_⟩) hS ?_
        · intro w' hw'
          have e0 := hw'.b2
          go_simp
        simp only [Act.put, List.setIfInBounds_toArray, List.set_cons_zero, List.set_cons_succ]
        refine wpAnyH_take (i := 8) (v := (.int .i64 (i : Int))) rfl (by kernel_rfl) (by kernel_rfl) (by kernel_rfl) (fun _ _ _ h => h) (Or.inl ⟨by kernel_rfl, ?_⟩) hS ?_
        · intro w' hw'
          go_simp
        simp only [Act.put, List.setIfInBounds_toArray, List.set_cons_zero, List.set_cons_succ]
        refine wpAnyH_take (i := 9) (v := (.pointer (some ⟨gk, i, none⟩))) rfl (by kernel_rfl) (by kernel_rfl) (by kernel_rfl) (fun _ _ _ h => h) (Or.inl ⟨by kernel_rfl, ?_⟩) hS ?_
        · intro w' hw'
          go_simp
        simp only [Act.put, List.setIfInBounds_toArray, List.set_cons_zero, List.set_cons_succ]
        refine wpAnyH_take (i := 10) (v := (.bool true)) rfl (by kernel_rfl) (by kernel_rfl) (by kernel_rfl) (fun _ _ _ h => h) (Or.inl ⟨by kernel_rfl, ?_⟩) hS ?_
        · intro w' hw'
          have e0 := hw'.kr.cell hi
          have e1 := hki
          go_simp
        simp only [Act.put, List.setIfInBounds_toArray, List.set_cons_zero, List.set_cons_succ]
        refine wpAnyH_take (i := 11) (v := (.bool true)) rfl (by kernel_rfl) (by kernel_rfl) (by kernel_rfl) (fun _ _ _ h => h) (Or.inl ⟨by kernel_rfl, ?_⟩) hS ?_
        · intro w' hw'
          go_simp
        simp only [Act.put, List.setIfInBounds_toArray, List.set_cons_zero, List.set_cons_succ]
        refine wpAnyH_take (i := 12) (v := (.slice (some ⟨w.heap.size + 1 + 1 + 1, 0, none⟩) n n)) rfl (by kernel_rfl) (by kernel_rfl) (by kernel_rfl) (fun _ _ _ h => h) (Or.inl ⟨by kernel_rfl, ?_⟩) hS ?_
        · intro w' hw'
          have e0 := hw'.b4
          go_simp
        simp only [Act.put, List.setIfInBounds_toArray, List.set_cons_zero, List.set_cons_succ]
        refine wpAnyH_take (i := 13) (v := (.agg #[.slice a n c, .int .i64 (t : Int)])) rfl (by kernel_rfl) (by kernel_rfl) (by kernel_rfl) (fun _ _ _ h => h) (Or.inl ⟨by kernel_rfl, ?_⟩) hS ?_
        · intro w' hw'
          have e0 := hw'.b0
          have e1 := hw'.b1
          go_simp
        simp only [Act.put, List.setIfInBounds_toArray, List.set_cons_zero, List.set_cons_succ]
        refine wpAnyH_take (i := 14) (v := (.int .i64 (i : Int))) rfl (by kernel_rfl) (by kernel_rfl) (by kernel_rfl) (fun _ _ _ h => h) (Or.inl ⟨by kernel_rfl, ?_⟩) hS ?_
        · intro w' hw'
          go_simp
        simp only [Act.put, List.setIfInBounds_toArray, List.set_cons_zero, List.set_cons_succ]
        refine wpAnyH_ready (rs := [15]) (by kernel_rfl) (by simp) (AllReadyH.cons rfl (fun K' hK => ?_) AllReadyH.nil)
        go_simp
        refine (HA.out _).mono ?_
        rintro e w5 ⟨rfl, hg5⟩
        have hg6 : W.grownBy w5 none := grown_trans (grown_drew (grown_refl _ _)) hg5
        have I5 := HCE.out w5 hg6
        refine hK.out _ _ I5.sc (fun hS => ?_)
        clear hK
        try simp only [Act.put, List.setIfInBounds_toArray, List.set_cons_zero, List.set_cons_succ]
        have al5 := I5.or.cell (aft_lt (i := i) ht)
        have o5 := I5.or.cell hi
        have f5 := I5.or.frozen i
        have ia : ((aft n t i : Nat) : Int) < (n : Int) := by have := aft_lt (i := i) ht; omega
        have fin := R.out w5 (oo (aft n t i)) hg6 (by rw [hgi, hki]; rfl)
        generalize aft n t i = ai at *
        refine wpAnyH_take (i := 16) (v := (.pointer (some ⟨w.heap.size + 1 + 1 + 1, ai, none⟩))) rfl (by kernel_rfl) (by kernel_rfl) (by kernel_rfl) (fun _ _ _ h => h) (Or.inl ⟨by kernel_rfl, ?_⟩) hS ?_
        · intro w' hw'
          go_simp
        simp only [Act.put, List.setIfInBounds_toArray, List.set_cons_zero, List.set_cons_succ]
        refine wpAnyH_ready (rs := [17]) (by kernel_rfl) (by simp) (AllReadyH.cons rfl (fun K' hK => ?_) AllReadyH.nil)
        go_simp
        refine hK.out _ _ I5.sc (fun hS => ?_)
        clear hK
        try simp only [Act.put, List.setIfInBounds_toArray, List.set_cons_zero, List.set_cons_succ]
        cases hoi : oo ai
        case false =>
          rw [hoi] at fin
          refine wpAnyH_take (i := 18) (v := (.bool false)) rfl (by kernel_rfl) (by kernel_rfl) (by kernel_rfl) (fun _ _ _ h => h) (Or.inl ⟨by kernel_rfl, ?_⟩) hS ?_
          · intro w' hw'
            go_simp
          simp only [Act.put, List.setIfInBounds_toArray, List.set_cons_zero, List.set_cons_succ]
          refine wpAnyH_take (i := 19) (v := (.bool false)) rfl (by kernel_rfl) (by kernel_rfl) (by kernel_rfl) (fun _ _ _ h => h) (Or.inl ⟨by kernel_rfl, ?_⟩) hS ?_
          · intro w' hw'
            go_simp
          simp only [Act.put, List.setIfInBounds_toArray, List.set_cons_zero, List.set_cons_succ]
          refine wpAnyH_take (i := 20) (v := (.pointer (some ⟨w.heap.size + 1 + 1 + 1, i, none⟩))) rfl (by kernel_rfl) (by kernel_rfl) (by kernel_rfl) (fun _ _ _ h => h) (Or.inl ⟨by kernel_rfl, ?_⟩) hS ?_
          · intro w' hw'
            go_simp
          simp only [Act.put, List.setIfInBounds_toArray, List.set_cons_zero, List.set_cons_succ]
          refine wpAnyH_ready (rs := [21]) (by kernel_rfl) (by simp) (AllReadyH.cons rfl (fun K' hK => ?_) AllReadyH.nil)
          go_simp
          refine hK.out _ _ (fin).inv.sc (fun hS2 => ?_)
          refine wpAnyH_done (by kernel_rfl) ?_ _
          exact ⟨(fin).kf, (fin).keep, (fin).inv⟩
        case true =>
          rw [hoi] at fin
          refine wpAnyH_take (i := 18) (v := (.bool true)) rfl (by kernel_rfl) (by kernel_rfl) (by kernel_rfl) (fun _ _ _ h => h) (Or.inl ⟨by kernel_rfl, ?_⟩) hS ?_
          · intro w' hw'
            go_simp
          simp only [Act.put, List.setIfInBounds_toArray, List.set_cons_zero, List.set_cons_succ]
          refine wpAnyH_take (i := 19) (v := (.bool true)) rfl (by kernel_rfl) (by kernel_rfl) (by kernel_rfl) (fun _ _ _ h => h) (Or.inl ⟨by kernel_rfl, ?_⟩) hS ?_
          · intro w' hw'
            go_simp
          simp only [Act.put, List.setIfInBounds_toArray, List.set_cons_zero, List.set_cons_succ]
          refine wpAnyH_take (i := 20) (v := (.pointer (some ⟨w.heap.size + 1 + 1 + 1, i, none⟩))) rfl (by kernel_rfl) (by kernel_rfl) (by kernel_rfl) (fun _ _ _ h => h) (Or.inl ⟨by kernel_rfl, ?_⟩) hS ?_
          · intro w' hw'
            go_simp
          simp only [Act.put, List.setIfInBounds_toArray, List.set_cons_zero, List.set_cons_succ]
          refine wpAnyH_ready (rs := [21]) (by kernel_rfl) (by simp) (AllReadyH.cons rfl (fun K' hK => ?_) AllReadyH.nil)
          go_simp
          refine hK.out _ _ (fin).inv.sc (fun hS2 => ?_)
          refine wpAnyH_done (by kernel_rfl) ?_ _
          exact ⟨(fin).kf, (fin).keep, (fin).inv⟩
  case done0 =>
    rintro D ys W hD hS hI hK
    have P0 : passL (aft n t) kp gl (fun _ => false) (idxs ys) = passL (aft n t) kp gl (fun _ => false) (endsT n n) := congrArg _ hS
    rw [P0] at hI
    have HI1 : Hid (InvC w w.heap.size gk gg n t c ck cg a kp gl (passL (aft n t) kp gl (fun _ => false) (endsT n n)) W) := hI
    have HK1 : Hid (W.heap[D]? = some (.deferred (some []))) := hK
    have HD1 : Hid (w.heap.size ≤ D) := by rw [z0] at hD; show w.heap.size ≤ D; omega
    have c4 := hI.b4
    generalize hqo : passL (aft n t) kp gl (fun _ => false) (endsT n n) = o1 at *
    have HQO : Hid (passL (aft n t) kp gl (fun _ => false) (endsT n n) = o1) := hqo
    clear hI hK hqo P0 hS hD
    gi_wp2
    rw [roundsIn_succ]
    gi_wp2
    refine ⟨trivial, (callsIn_wide.2 (HCL.out W)).mono ?_⟩
    rintro e w4 ⟨rfl, rfl⟩
    have hDW : D < W.heap.size := (Array.getElem?_eq_some_iff.1 HK1.out).1
    have I1 : Hid (InvC w w.heap.size gk gg n t c ck cg a kp gl o1 (W.alloc (.cells #[.slice (some ⟨w.heap.size + 1 + 1 + 1, 0, none⟩) n n] 36))) := HI1.out.kept (grown_alloc _ _)
    have z1 : (W.alloc (.cells #[.slice (some ⟨w.heap.size + 1 + 1 + 1, 0, none⟩) n n] 36)).heap.size = W.heap.size + 1 := World.size_alloc _ _
    have cb1 : (W.alloc (.cells #[.slice (some ⟨w.heap.size + 1 + 1 + 1, 0, none⟩) n n] 36)).cell? ⟨W.heap.size, 0, none⟩ = some (.slice (some ⟨w.heap.size + 1 + 1 + 1, 0, none⟩) n n) := by
      have hb := heap_alloc_new W (.cells #[.slice (some ⟨w.heap.size + 1 + 1 + 1, 0, none⟩) n n] 36)
      rw [cell_of_row _ _ 0 _ _ (0, 0) hb]; rfl
    have hBs1 : w.heap.size + 1 + 1 + 1 < W.heap.size := HI1.out.or.lt
    gi_wp2
    refine wpIn_rangeFunc_ownG rfl (by omega) (gf := 26) (lb := #[.pointer (some ⟨W.heap.size, 0, none⟩)]) rfl trivial (enters_of Try.func26 (by kernel_rfl) rfl)
      (back_stops 8 (by omega) W.heap.size (w.heap.size + 1 + 1 + 1) n n hn _ (by rw [z1]; omega) I1.out.or.lt cb1 (fun i hi => ⟨_, I1.out.or.cell hi⟩)) KpB.trans (fun W l o o' _ h1 h2 _ => KpB.turn W l o o' h1 h2) (Below.refl _ _) (fun _ => rfl)
      (fun (pre : List (BkT n)) X => InvC w w.heap.size gk gg n t c ck cg a kp gl (passL (aft n t) kp gl o1 (idxs pre)) X ∧ X.heap[D]? = some (.deferred (some [])))
      (fun _ _ _ => False)
      (fun s A B row hs hg' hr => ⟨hs.1.turn hg' (fun r e => ⟨by have := (hr r e).1; rw [z1] at this; omega, (hr r e).2⟩), (hg'.block D (Array.getElem?_eq_some_iff.1 hs.2).1 (fun e => by have := (hr D e.symm).1; rw [z1] at this; omega)).trans hs.2⟩)
      (fun _ _ _ _ _ hs _ _ => hs)
      ⟨I1.out, (Below.heap_alloc _ _ _ hDW).trans HK1.out⟩
      (fun x => { tmps := #[.agg #[.slice a n c, .int .i64 (t : Int)], .slice (some ⟨gk, 0, none⟩) n ck, .slice (some ⟨gg, 0, none⟩) n cg, .pointer (some ⟨w.heap.size, 0, none⟩), .pointer (some ⟨w.heap.size + 1, 0, none⟩), .pointer (some ⟨w.heap.size + 1 + 1, 0, none⟩), .slice none 0 0, .pointer (some ⟨w.heap.size + 1 + 1 + 1 + 1, 0, none⟩), .int .i64 (((x.1 : Nat) : Nat) : Int), .slice (some ⟨gg, 0, none⟩) n cg, .int .i64 (n : Int), .slice (some ⟨w.heap.size + 1 + 1 + 1, 0, none⟩) n n, .int .i64 1, .bool true, .slice (some ⟨w.heap.size + 1 + 1 + 1, 0, none⟩) n n, .func (.func 26) #[] #[.pointer (some ⟨W.heap.size, 0, none⟩)], .int .i64 (((x.1 : Nat) : Nat) : Int), .bool x.2, undef, undef, undef, undef, undef, undef, undef, undef, undef, undef, undef, undef, undef, undef, undef, undef, undef, undef, undef, undef, undef, .int .i64 1, undef], defers := [] }) ?assign1 ?body1 ?done1 ?stop1
    case assign1 =>
      intro l x W K hK
      simp only [encB]
      gi_wp2
      exact hK
    case stop1 =>
      rintro E cc pre X _ _ h _
      exact h.elim
    case body1 =>
      rintro l pre x X ⟨hI, hDk⟩ _
      have hD3 : D ≠ w.heap.size + 1 + 1 + 1 := fun e => by
        obtain ⟨cur, h3, _⟩ := hI.or
        rw [← e, hDk] at h3
        cases h3
      have KD : Hid (∀ X2 j v, X.grownBy X2 none → (X2.setCell ⟨w.heap.size + 1 + 1 + 1, j, none⟩ v).heap[D]? = some (.deferred (some []))) := fun X2 j v hx => by
        rw [Below.heap_setCell _ _ _ _ hD3, hx.block D (Array.getElem?_eq_some_iff.1 hDk).1 (by simp)]
        exact hDk
      clear hDk
      have hi : (x.1 : Nat) < n := x.1.isLt
      have R : Hid (∀ W2 b, X.grownBy W2 none → b = (gl (x.1 : Nat) || (kp (x.1 : Nat) && passL (aft n t) kp gl o1 (idxs pre) (aft n t (x.1 : Nat)))) → RoundC w w.heap.size gk gg n t c ck cg a kp gl W.heap.size ((W.alloc (.cells #[.slice (some ⟨w.heap.size + 1 + 1 + 1, 0, none⟩) n n] 36)).heap.size) (passL (aft n t) kp gl o1 (idxs (pre ++ [x]))) X (W2.setCell ⟨w.heap.size + 1 + 1 + 1, (x.1 : Nat), none⟩ (.bool b))) := fun W2 b h1 h2 => by rw [passL_map]; exact hI.round hkl hgl hBs1 hi h1 h2
      have c0 := hI.b0
      have c1 := hI.b1
      have c2 := hI.b2
      have c3 := hI.b3
      have c4 := hI.b4
      have k0 := hI.kr.cell hi
      have l0 := hI.gr.cell hi
      have o0 := hI.or.cell hi
      have fo := hI.or.frozen (x.1 : Nat)
      have al := hI.or.cell (aft_lt (i := (x.1 : Nat)) ht)
      have HA : Hid (∀ W', Calls Try.prog 17 #[.agg #[.slice a n c, .int .i64 (t : Int)], .int .i64 (((x.1 : Nat) : Nat) : Int)] W' (Says (.int .i64 ((aft n t (x.1 : Nat) : Nat) : Int)) W')) := fun W' => after_any n t (x.1 : Nat) c a W' hn hi ht
      have HCE : Hid (∀ W', X.grownBy W' none → InvC w w.heap.size gk gg n t c ck cg a kp gl (passL (aft n t) kp gl o1 (idxs pre)) W') := fun W' h => hI.kept h
      generalize hq : passL (aft n t) kp gl o1 (idxs pre) = oo at *
      obtain ⟨i, hie⟩ : ∃ i, (x.1 : Nat) = i := ⟨_, rfl⟩
      simp only [hie] at *
      clear hI
      have hmx : Try.prog.follows .mixedOrders = true := by kernel_rfl
      have i1 : (i : Int) < (n : Int) := by omega
      have i2 : (0 : Int) ≤ (i : Int) := by omega
      gi_wp2
      cases hgi : gl i with
      | true =>
        rw [hgi] at l0
        have KG : X.grownBy X.drew none := grown_drew (grown_refl _ _)
        have fin := R.out X.drew true (grown_drew (grown_refl _ _)) (by rw [hgi]; rfl)
        have fo2 : X.drew.frozen? ⟨w.heap.size + 1 + 1 + 1, i, none⟩ = false := fo
        have o2 : X.drew.cell? ⟨w.heap.size + 1 + 1 + 1, i, none⟩ = some (.bool (oo i)) := o0
        refine region_in (S := SC w.heap.size gk gg n t c ck cg a kp gl) hmx (by kernel_rfl) (fun ⟨_, _, h⟩ => h) (HCE.out _ (grown_drew (grown_refl _ _))).sc (fun hS => ?_)
        refine wpAnyH_take (i := 0) (v := (.slice (some ⟨w.heap.size + 1 + 1 + 1, 0, none⟩) n n)) rfl (by kernel_rfl) (by kernel_rfl) (by kernel_rfl) (fun _ _ _ h => h) (Or.inl ⟨by kernel_rfl, ?_⟩) hS ?_
        · intro w' hw'
          have e0 := hw'.b4
          go_simp
        simp only [Act.put, List.setIfInBounds_toArray, List.set_cons_zero, List.set_cons_succ]
        refine wpAnyH_take (i := 1) (v := (.int .i64 (i : Int))) rfl (by kernel_rfl) (by kernel_rfl) (by kernel_rfl) (fun _ _ _ h => h) (Or.inl ⟨by kernel_rfl, ?_⟩) hS ?_
        · intro w' hw'
          go_simp
        simp only [Act.put, List.setIfInBounds_toArray, List.set_cons_zero, List.set_cons_succ]
        refine wpAnyH_take (i := 2) (v := (.slice (some ⟨gg, 0, none⟩) n cg)) rfl (by kernel_rfl) (by kernel_rfl) (by kernel_rfl) (fun _ _ _ h => h) (Or.inl ⟨by kernel_rfl, ?_⟩) hS ?_
        · intro w' hw'
          have e0 := hw'.b3
          go_simp
        simp only [Act.put, List.setIfInBounds_toArray, List.set_cons_zero, List.set_cons_succ]
        refine wpAnyH_take (i := 3) (v := (.int .i64 (i : Int))) rfl (by kernel_rfl) (by kernel_rfl) (by kernel_rfl) (fun _ _ _ h => h) (Or.inl ⟨by kernel_rfl, ?_⟩) hS ?_
        · intro w' hw'
          go_simp
        simp only [Act.put, List.setIfInBounds_toArray, List.set_cons_zero, List.set_cons_succ]
        refine wpAnyH_take (i := 4) (v := (.pointer (some ⟨gg, i, none⟩))) rfl (by kernel_rfl) (by kernel_rfl) (by kernel_rfl) (fun _ _ _ h => h) (Or.inl ⟨by kernel_rfl, ?_⟩) hS ?_
        · intro w' hw'
          go_simp
        simp only [Act.put, List.setIfInBounds_toArray, List.set_cons_zero, List.set_cons_succ]
        refine wpAnyH_take (i := 5) (v := (.bool true)) rfl (by kernel_rfl) (by kernel_rfl) (by kernel_rfl) (fun _ _ _ h => h) (Or.inl ⟨by kernel_rfl, ?_⟩) hS ?_
        · intro w' hw'
          have e0 := hw'.gr.cell hi
          have e1 := hgi
          go_simp
        simp only [Act.put, List.setIfInBounds_toArray, List.set_cons_zero, List.set_cons_succ]
        refine wpAnyH_take (i := 6) (v := (.bool true)) rfl (by kernel_rfl) (by kernel_rfl) (by kernel_rfl) (fun _ _ _ h => h) (Or.inl ⟨by kernel_rfl, ?_⟩) hS ?_
        · intro w' hw'
          go_simp
        simp only [Act.put, List.setIfInBounds_toArray, List.set_cons_zero, List.set_cons_succ]
        refine wpAnyH_take (i := 7) (v := undef) rfl (by kernel_rfl) (by kernel_rfl) (by kernel_rfl) (fun _ _ _ h => h) (Or.inr ⟨by kernel_rfl, rfl⟩) hS ?_
        simp only [Act.put, List.setIfInBounds_toArray, List.set_cons_zero, List.set_cons_succ]
        refine wpAnyH_take (i := 8) (v := undef) rfl (by kernel_rfl) (by kernel_rfl) (by kernel_rfl) (fun _ _ _ h => h) (Or.inr ⟨by kernel_rfl, rfl⟩) hS ?_
        simp only [Act.put, List.setIfInBounds_toArray, List.set_cons_zero, List.set_cons_succ]
        refine wpAnyH_take (i := 9) (v := undef) rfl (by kernel_rfl) (by kernel_rfl) (by kernel_rfl) (fun _ _ _ h => h) (Or.inr ⟨by kernel_rfl, rfl⟩) hS ?_
        simp only [Act.put, List.setIfInBounds_toArray, List.set_cons_zero, List.set_cons_succ]
        refine wpAnyH_take (i := 10) (v := undef) rfl (by kernel_rfl) (by kernel_rfl) (by kernel_rfl) (fun _ _ _ h => h) (Or.inr ⟨by kernel_rfl, rfl⟩) hS ?_
        simp only [Act.put, List.setIfInBounds_toArray, List.set_cons_zero, List.set_cons_succ]
        refine wpAnyH_take (i := 11) (v := undef) rfl (by kernel_rfl) (by kernel_rfl) (by kernel_rfl) (fun _ _ _ h => h) (Or.inr ⟨by kernel_rfl, rfl⟩) hS ?_
        simp only [Act.put, List.setIfInBounds_toArray, List.set_cons_zero, List.set_cons_succ]
        refine wpAnyH_take (i := 12) (v := undef) rfl (by kernel_rfl) (by kernel_rfl) (by kernel_rfl) (fun _ _ _ h => h) (Or.inr ⟨by kernel_rfl, rfl⟩) hS ?_
        simp only [Act.put, List.setIfInBounds_toArray, List.set_cons_zero, List.set_cons_succ]
        refine wpAnyH_take (i := 13) (v := undef) rfl (by kernel_rfl) (by kernel_rfl) (by kernel_rfl) (fun _ _ _ h => h) (Or.inr ⟨by kernel_rfl, rfl⟩) hS ?_
        simp only [Act.put, List.setIfInBounds_toArray, List.set_cons_zero, List.set_cons_succ]
        refine wpAnyH_take (i := 14) (v := undef) rfl (by kernel_rfl) (by kernel_rfl) (by kernel_rfl) (fun _ _ _ h => h) (Or.inr ⟨by kernel_rfl, rfl⟩) hS ?_
        simp only [Act.put, List.setIfInBounds_toArray, List.set_cons_zero, List.set_cons_succ]
        refine wpAnyH_take (i := 15) (v := undef) rfl (by kernel_rfl) (by kernel_rfl) (by kernel_rfl) (fun _ _ _ h => h) (Or.inr ⟨by kernel_rfl, rfl⟩) hS ?_
        simp only [Act.put, List.setIfInBounds_toArray, List.set_cons_zero, List.set_cons_succ]
        refine wpAnyH_take (i := 16) (v := undef) rfl (by kernel_rfl) (by kernel_rfl) (by kernel_rfl) (fun _ _ _ h => h) (Or.inr ⟨by kernel_rfl, rfl⟩) hS ?_
        simp only [Act.put, List.setIfInBounds_toArray, List.set_cons_zero, List.set_cons_succ]
        refine wpAnyH_take (i := 17) (v := undef) rfl (by kernel_rfl) (by kernel_rfl) (by kernel_rfl) (fun _ _ _ h => h) (Or.inr ⟨by kernel_rfl, rfl⟩) hS ?_
        simp only [Act.put, List.setIfInBounds_toArray, List.set_cons_zero, List.set_cons_succ]
        refine wpAnyH_take (i := 18) (v := undef) rfl (by kernel_rfl) (by kernel_rfl) (by kernel_rfl) (fun _ _ _ h => h) (Or.inr ⟨by kernel_rfl, rfl⟩) hS ?_
        simp only [Act.put, List.setIfInBounds_toArray, List.set_cons_zero, List.set_cons_succ]
        refine wpAnyH_take (i := 19) (v := (.bool true)) rfl (by kernel_rfl) (by kernel_rfl) (by kernel_rfl) (fun _ _ _ h => h) (Or.inl ⟨by kernel_rfl, ?_⟩) hS ?_
        · intro w' hw'
          go_simp
        simp only [Act.put, List.setIfInBounds_toArray, List.set_cons_zero, List.set_cons_succ]
        refine wpAnyH_take (i := 20) (v := (.pointer (some ⟨w.heap.size + 1 + 1 + 1, i, none⟩))) rfl (by kernel_rfl) (by kernel_rfl) (by kernel_rfl) (fun _ _ _ h => h) (Or.inl ⟨by kernel_rfl, ?_⟩) hS ?_
        · intro w' hw'
          go_simp
        simp only [Act.put, List.setIfInBounds_toArray, List.set_cons_zero, List.set_cons_succ]
        refine wpAnyH_ready (rs := [21]) (by kernel_rfl) (by simp) (AllReadyH.cons rfl (fun K' hK => ?_) AllReadyH.nil)
        go_simp
        refine hK.out _ _ (fin).inv.sc (fun hS2 => ?_)
        refine wpAnyH_done (by kernel_rfl) ?_ _
        exact ⟨(fin).kf, (fin).keep, (fin).inv, KD.out X.drew _ _ KG⟩
      | false =>
        rw [hgi] at l0
        cases hki : kp i with
        | false =>
          rw [hki] at k0
          have KG : X.grownBy X.drew none := grown_drew (grown_refl _ _)
          have fin := R.out X.drew false (grown_drew (grown_refl _ _)) (by rw [hgi, hki]; rfl)
          have fo2 : X.drew.frozen? ⟨w.heap.size + 1 + 1 + 1, i, none⟩ = false := fo
          have o2 : X.drew.cell? ⟨w.heap.size + 1 + 1 + 1, i, none⟩ = some (.bool (oo i)) := o0
          refine region_in (S := SC w.heap.size gk gg n t c ck cg a kp gl) hmx (by kernel_rfl) (fun ⟨_, _, h⟩ => h) (HCE.out _ (grown_drew (grown_refl _ _))).sc (fun hS => ?_)
          refine wpAnyH_take (i := 0) (v := (.slice (some ⟨w.heap.size + 1 + 1 + 1, 0, none⟩) n n)) rfl (by kernel_rfl) (by kernel_rfl) (by kernel_rfl) (fun _ _ _ h => h) (Or.inl ⟨by kernel_rfl, ?_⟩) hS ?_
          · intro w' hw'
            have e0 := hw'.b4
            go_simp
          simp only [Act.put, List.setIfInBounds_toArray, List.set_cons_zero, List.set_cons_succ]
          refine wpAnyH_take (i := 1) (v := (.int .i64 (i : Int))) rfl (by kernel_rfl) (by kernel_rfl) (by kernel_rfl) (fun _ _ _ h => h) (Or.inl ⟨by kernel_rfl, ?_⟩) hS ?_
          · intro w' hw'
            go_simp
          simp only [Act.put, List.setIfInBounds_toArray, List.set_cons_zero, List.set_cons_succ]
          refine wpAnyH_take (i := 2) (v := (.slice (some ⟨gg, 0, none⟩) n cg)) rfl (by kernel_rfl) (by kernel_rfl) (by kernel_rfl) (fun _ _ _ h => h) (Or.inl ⟨by kernel_rfl, ?_⟩) hS ?_
          · intro w' hw'
            have e0 := hw'.b3
            go_simp
          simp only [Act.put, List.setIfInBounds_toArray, List.set_cons_zero, List.set_cons_succ]
          refine wpAnyH_take (i := 3) (v := (.int .i64 (i : Int))) rfl (by kernel_rfl) (by kernel_rfl) (by kernel_rfl) (fun _ _ _ h => h) (Or.inl ⟨by kernel_rfl, ?_⟩) hS ?_
          · intro w' hw'
            go_simp
          simp only [Act.put, List.setIfInBounds_toArray, List.set_cons_zero, List.set_cons_succ]
          refine wpAnyH_take (i := 4) (v := (.pointer (some ⟨gg, i, none⟩))) rfl (by kernel_rfl) (by kernel_rfl) (by kernel_rfl) (fun _ _ _ h => h) (Or.inl ⟨by kernel_rfl, ?_⟩) hS ?_
          · intro w' hw'
            go_simp
          simp only [Act.put, List.setIfInBounds_toArray, List.set_cons_zero, List.set_cons_succ]
          refine wpAnyH_take (i := 5) (v := (.bool false)) rfl (by kernel_rfl) (by kernel_rfl) (by kernel_rfl) (fun _ _ _ h => h) (Or.inl ⟨by kernel_rfl, ?_⟩) hS ?_
          · intro w' hw'
            have e0 := hw'.gr.cell hi
            have e1 := hgi
            go_simp
          simp only [Act.put, List.setIfInBounds_toArray, List.set_cons_zero, List.set_cons_succ]
          refine wpAnyH_take (i := 6) (v := (.bool false)) rfl (by kernel_rfl) (by kernel_rfl) (by kernel_rfl) (fun _ _ _ h => h) (Or.inl ⟨by kernel_rfl, ?_⟩) hS ?_
          · intro w' hw'
            go_simp
          simp only [Act.put, List.setIfInBounds_toArray, List.set_cons_zero, List.set_cons_succ]
          refine wpAnyH_take (i := 7) (v := (.slice (some ⟨gk, 0, none⟩) n ck)) rfl (by kernel_rfl) (by kernel_rfl) (by kernel_rfl) (fun _ _ _ h => h) (Or.inl ⟨by kernel_rfl, ?_⟩) hS ?_
          · intro w' hw'
            have e0 := hw'.b2
            go_simp
          simp only [Act.put, List.setIfInBounds_toArray, List.set_cons_zero, List.set_cons_succ]
          refine wpAnyH_take (i := 8) (v := (.int .i64 (i : Int))) rfl (by kernel_rfl) (by kernel_rfl) (by kernel_rfl) (fun _ _ _ h => h) (Or.inl ⟨by kernel_rfl, ?_⟩) hS ?_
          · intro w' hw'
            go_simp
          simp only [Act.put, List.setIfInBounds_toArray, List.set_cons_zero, List.set_cons_succ]
          refine wpAnyH_take (i := 9) (v := (.pointer (some ⟨gk, i, none⟩))) rfl (by kernel_rfl) (by kernel_rfl) (by kernel_rfl) (fun _ _ _ h => h) (Or.inl ⟨by kernel_rfl, ?_⟩) hS ?_
          · intro w' hw'
            go_simp
          simp only [Act.put, List.setIfInBounds_toArray, List.set_cons_zero, List.set_cons_succ]
          refine wpAnyH_take (i := 10) (v := (.bool false)) rfl (by kernel_rfl) (by kernel_rfl) (by kernel_rfl) (fun _ _ _ h => h) (Or.inl ⟨by kernel_rfl, ?_⟩) hS ?_
          · intro w' hw'
            have e0 := hw'.kr.cell hi
            have e1 := hki
            go_simp
          simp only [Act.put, List.setIfInBounds_toArray, List.set_cons_zero, List.set_cons_succ]
          refine wpAnyH_take (i := 11) (v := (.bool false)) rfl (by kernel_rfl) (by kernel_rfl) (by kernel_rfl) (fun _ _ _ h => h) (Or.inl ⟨by kernel_rfl, ?_⟩) hS ?_
          · intro w' hw'
            go_simp
          simp only [Act.put, List.setIfInBounds_toArray, List.set_cons_zero, List.set_cons_succ]
          refine wpAnyH_take (i := 12) (v := undef) rfl (by kernel_rfl) (by kernel_rfl) (by kernel_rfl) (fun _ _ _ h => h) (Or.inr ⟨by kernel_rfl, rfl⟩) hS ?_
          simp only [Act.put, List.setIfInBounds_toArray, List.set_cons_zero, List.set_cons_succ]
          refine wpAnyH_take (i := 13) (v := undef) rfl (by kernel_rfl) (by kernel_rfl) (by kernel_rfl) (fun _ _ _ h => h) (Or.inr ⟨by kernel_rfl, rfl⟩) hS ?_
          simp only [Act.put, List.setIfInBounds_toArray, List.set_cons_zero, List.set_cons_succ]
          refine wpAnyH_take (i := 14) (v := undef) rfl (by kernel_rfl) (by kernel_rfl) (by kernel_rfl) (fun _ _ _ h => h) (Or.inr ⟨by kernel_rfl, rfl⟩) hS ?_
          simp only [Act.put, List.setIfInBounds_toArray, List.set_cons_zero, List.set_cons_succ]
          refine wpAnyH_take (i := 15) (v := undef) rfl (by kernel_rfl) (by kernel_rfl) (by kernel_rfl) (fun _ _ _ h => h) (Or.inr ⟨by kernel_rfl, rfl⟩) hS ?_
          simp only [Act.put, List.setIfInBounds_toArray, List.set_cons_zero, List.set_cons_succ]
          refine wpAnyH_take (i := 16) (v := undef) rfl (by kernel_rfl) (by kernel_rfl) (by kernel_rfl) (fun _ _ _ h => h) (Or.inr ⟨by kernel_rfl, rfl⟩) hS ?_
          simp only [Act.put, List.setIfInBounds_toArray, List.set_cons_zero, List.set_cons_succ]
          refine wpAnyH_take (i := 17) (v := undef) rfl (by kernel_rfl) (by kernel_rfl) (by kernel_rfl) (fun _ _ _ h => h) (Or.inr ⟨by kernel_rfl, rfl⟩) hS ?_
          simp only [Act.put, List.setIfInBounds_toArray, List.set_cons_zero, List.set_cons_succ]
          refine wpAnyH_take (i := 18) (v := (.bool false)) rfl (by kernel_rfl) (by kernel_rfl) (by kernel_rfl) (fun _ _ _ h => h) (Or.inl ⟨by kernel_rfl, ?_⟩) hS ?_
          · intro w' hw'
            go_simp
          simp only [Act.put, List.setIfInBounds_toArray, List.set_cons_zero, List.set_cons_succ]
          refine wpAnyH_take (i := 19) (v := (.bool false)) rfl (by kernel_rfl) (by kernel_rfl) (by kernel_rfl) (fun _ _ _ h => h) (Or.inl ⟨by kernel_rfl, ?_⟩) hS ?_
          · intro w' hw'
            go_simp
          simp only [Act.put, List.setIfInBounds_toArray, List.set_cons_zero, List.set_cons_succ]
          refine wpAnyH_take (i := 20) (v := (.pointer (some ⟨w.heap.size + 1 + 1 + 1, i, none⟩))) rfl (by kernel_rfl) (by kernel_rfl) (by kernel_rfl) (fun _ _ _ h => h) (Or.inl ⟨by kernel_rfl, ?_⟩) hS ?_
          · intro w' hw'
            go_simp
          simp only [Act.put, List.setIfInBounds_toArray, List.set_cons_zero, List.set_cons_succ]
          refine wpAnyH_ready (rs := [21]) (by kernel_rfl) (by simp) (AllReadyH.cons rfl (fun K' hK => ?_) AllReadyH.nil)
          go_simp
          refine hK.out _ _ (fin).inv.sc (fun hS2 => ?_)
          refine wpAnyH_done (by kernel_rfl) ?_ _
          exact ⟨(fin).kf, (fin).keep, (fin).inv, KD.out X.drew _ _ KG⟩
        | true =>
          rw [hki] at k0
          refine region_in (S := SC w.heap.size gk gg n t c ck cg a kp gl) hmx (by kernel_rfl) (fun ⟨_, _, h⟩ => h) (HCE.out _ (grown_drew (grown_refl _ _))).sc (fun hS => ?_)
          refine wpAnyH_take (i := 0) (v := (.slice (some ⟨w.heap.size + 1 + 1 + 1, 0, none⟩) n n)) rfl (by kernel_rfl) (by kernel_rfl) (by kernel_rfl) (fun _ _ _ h => h) (Or.inl ⟨by kernel_rfl, ?_⟩) hS ?_
          · intro w' hw'
            have e0 := hw'.b4
            go_simp
          simp only [Act.put, List.setIfInBounds_toArray, List.set_cons_zero, List.set_cons_succ]
          refine wpAnyH_take (i := 1) (v := (.int .i64 (i : Int))) rfl (by kernel_rfl) (by kernel_rfl) (by kernel_rfl) (fun _ _ _ h => h) (Or.inl ⟨by kernel_rfl, ?_⟩) hS ?_
          · intro w' hw'
            go_simp
          simp only [Act.put, List.setIfInBounds_toArray, List.set_cons_zero, List.set_cons_succ]
          refine wpAnyH_take (i := 2) (v := (.slice (some ⟨gg, 0, none⟩) n cg)) rfl (by kernel_rfl) (by kernel_rfl) (by kernel_rfl) (fun _ _ _ h => h) (Or.inl ⟨by kernel_rfl, ?_⟩) hS ?_
          · intro w' hw'
            have e0 := hw'.b3
            go_simp
          simp only [Act.put, List.setIfInBounds_toArray, List.set_cons_zero, List.set_cons_succ]
          refine wpAnyH_take (i := 3) (v := (.int .i64 (i : Int))) rfl (by kernel_rfl) (by kernel_rfl) (by kernel_rfl) (fun _ _ _ h => h) (Or.inl ⟨by kernel_rfl, ?_⟩) hS ?_
          · intro w' hw'
            go_simp
          simp only [Act.put, List.setIfInBounds_toArray, List.set_cons_zero, List.set_cons_succ]
          refine wpAnyH_take (i := 4) (v := (.pointer (some ⟨gg, i, none⟩))) rfl (by kernel_rfl) (by kernel_rfl) (by kernel_rfl) (fun _ _ _ h => h) (Or.inl ⟨by kernel_rfl, ?_⟩) hS ?_
          · intro w' hw'
            go_simp
          simp only [Act.put, List.setIfInBounds_toArray, List.set_cons_zero, List.set_cons_succ]
          refine wpAnyH_take (i := 5) (v := (.bool false)) rfl (by kernel_rfl) (by kernel_rfl) (by kernel_rfl) (fun _ _ _ h => h) (Or.inl ⟨by kernel_rfl, ?_⟩) hS ?_
          · intro w' hw'
            have e0 := hw'.gr.cell hi
            have e1 := hgi
            go_simp
          simp only [Act.put, List.setIfInBounds_toArray, List.set_cons_zero, List.set_cons_succ]
          refine wpAnyH_take (i := 6) (v := (.bool false)) rfl (by kernel_rfl) (by kernel_rfl) (by kernel_rfl) (fun _ _ _ h => h) (Or.inl ⟨by kernel_rfl, ?_⟩) hS ?_
          · intro w' hw'
            go_simp
          simp only [Act.put, List.setIfInBounds_toArray, List.set_cons_zero, List.set_cons_succ]
          refine wpAnyH_take (i := 7) (v := (.slice (some ⟨gk, 0, none⟩) n ck)) rfl (by kernel_rfl) (by kernel_rfl) (by kernel_rfl) (fun _ _ _ h => h) (Or.inl ⟨by kernel_rfl, ?_⟩) hS ?_
          · intro w' hw'
            have e0 := hw'.b2
            go_simp
          simp only [Act.put, List.setIfInBounds_toArray, List.set_cons_zero, List.set_cons_succ]
          refine wpAnyH_take (i := 8) (v := (.int .i64 (i : Int))) rfl (by kernel_rfl) (by kernel_rfl) (by kernel_rfl) (fun _ _ _ h => h) (Or.inl ⟨by kernel_rfl, ?_⟩) hS ?_
          · intro w' hw'
            go_simp
          simp only [Act.put, List.setIfInBounds_toArray, List.set_cons_zero, List.set_cons_succ]
          refine wpAnyH_take (i := 9) (v := (.pointer (some ⟨gk, i, none⟩))) rfl (by kernel_rfl) (by kernel_rfl) (by kernel_rfl) (fun _ _ _ h => h) (Or.inl ⟨by kernel_rfl, ?_⟩) hS ?_
          · intro w' hw'
            go_simp
          simp only [Act.put, List.setIfInBounds_toArray, List.set_cons_zero, List.set_cons_succ]
          refine wpAnyH_take (i := 10) (v := (.bool true)) rfl (by kernel_rfl) (by kernel_rfl) (by kernel_rfl) (fun _ _ _ h => h) (Or.inl ⟨by kernel_rfl, ?_⟩) hS ?_
          · intro w' hw'
            have e0 := hw'.kr.cell hi
            have e1 := hki
            go_simp
          simp only [Act.put, List.setIfInBounds_toArray, List.set_cons_zero, List.set_cons_succ]
          refine wpAnyH_take (i := 11) (v := (.bool true)) rfl (by kernel_rfl) (by kernel_rfl) (by kernel_rfl) (fun _ _ _ h => h) (Or.inl ⟨by kernel_rfl, ?_⟩) hS ?_
          · intro w' hw'
            go_simp
          simp only [Act.put, List.setIfInBounds_toArray, List.set_cons_zero, List.set_cons_succ]
          refine wpAnyH_take (i := 12) (v := (.slice (some ⟨w.heap.size + 1 + 1 + 1, 0, none⟩) n n)) rfl (by kernel_rfl) (by kernel_rfl) (by kernel_rfl) (fun _ _ _ h => h) (Or.inl ⟨by kernel_rfl, ?_⟩) hS ?_
          · intro w' hw'
            have e0 := hw'.b4
            go_simp
          simp only [Act.put, List.setIfInBounds_toArray, List.set_cons_zero, List.set_cons_succ]
          refine wpAnyH_take (i := 13) (v := (.agg #[.slice a n c, .int .i64 (t : Int)])) rfl (by kernel_rfl) (by kernel_rfl) (by kernel_rfl) (fun _ _ _ h => h) (Or.inl ⟨by kernel_rfl, ?_⟩) hS ?_
          · intro w' hw'
            have e0 := hw'.b0
            have e1 := hw'.b1
            go_simp
          simp only [Act.put, List.setIfInBounds_toArray, List.set_cons_zero, List.set_cons_succ]
          refine wpAnyH_take (i := 14) (v := (.int .i64 (i : Int))) rfl (by kernel_rfl) (by kernel_rfl) (by kernel_rfl) (fun _ _ _ h => h) (Or.inl ⟨by kernel_rfl, ?_⟩) hS ?_
          · intro w' hw'
            go_simp
          simp only [Act.put, List.setIfInBounds_toArray, List.set_cons_zero, List.set_cons_succ]
          refine wpAnyH_ready (rs := [15]) (by kernel_rfl) (by simp) (AllReadyH.cons rfl (fun K' hK => ?_) AllReadyH.nil)
          go_simp
          refine (HA.out _).mono ?_
          rintro e w5 ⟨rfl, hg5⟩
          have hg6 : X.grownBy w5 none := grown_trans (grown_drew (grown_refl _ _)) hg5
          have I5 := HCE.out w5 hg6
          refine hK.out _ _ I5.sc (fun hS => ?_)
          clear hK
          try simp only [Act.put, List.setIfInBounds_toArray, List.set_cons_zero, List.set_cons_succ]
          have al5 := I5.or.cell (aft_lt (i := i) ht)
          have o5 := I5.or.cell hi
          have f5 := I5.or.frozen i
          have ia : ((aft n t i : Nat) : Int) < (n : Int) := by have := aft_lt (i := i) ht; omega
          have KG : X.grownBy w5 none := hg6
          have fin := R.out w5 (oo (aft n t i)) hg6 (by rw [hgi, hki]; rfl)
          generalize aft n t i = ai at *
          refine wpAnyH_take (i := 16) (v := (.pointer (some ⟨w.heap.size + 1 + 1 + 1, ai, none⟩))) rfl (by kernel_rfl) (by kernel_rfl) (by kernel_rfl) (fun _ _ _ h => h) (Or.inl ⟨by kernel_rfl, ?_⟩) hS ?_
          · intro w' hw'
            go_simp
          simp only [Act.put, List.setIfInBounds_toArray, List.set_cons_zero, List.set_cons_succ]
          refine wpAnyH_ready (rs := [17]) (by kernel_rfl) (by simp) (AllReadyH.cons rfl (fun K' hK => ?_) AllReadyH.nil)
          go_simp
          refine hK.out _ _ I5.sc (fun hS => ?_)
          clear hK
          try simp only [Act.put, List.setIfInBounds_toArray, List.set_cons_zero, List.set_cons_succ]
          cases hoi : oo ai
          case false =>
            rw [hoi] at fin
            refine wpAnyH_take (i := 18) (v := (.bool false)) rfl (by kernel_rfl) (by kernel_rfl) (by kernel_rfl) (fun _ _ _ h => h) (Or.inl ⟨by kernel_rfl, ?_⟩) hS ?_
            · intro w' hw'
              go_simp
            simp only [Act.put, List.setIfInBounds_toArray, List.set_cons_zero, List.set_cons_succ]
            refine wpAnyH_take (i := 19) (v := (.bool false)) rfl (by kernel_rfl) (by kernel_rfl) (by kernel_rfl) (fun _ _ _ h => h) (Or.inl ⟨by kernel_rfl, ?_⟩) hS ?_
            · intro w' hw'
              go_simp
            simp only [Act.put, List.setIfInBounds_toArray, List.set_cons_zero, List.set_cons_succ]
            refine wpAnyH_take (i := 20) (v := (.pointer (some ⟨w.heap.size + 1 + 1 + 1, i, none⟩))) rfl (by kernel_rfl) (by kernel_rfl) (by kernel_rfl) (fun _ _ _ h => h) (Or.inl ⟨by kernel_rfl, ?_⟩) hS ?_
            · intro w' hw'
              go_simp
            simp only [Act.put, List.setIfInBounds_toArray, List.set_cons_zero, List.set_cons_succ]
            refine wpAnyH_ready (rs := [21]) (by kernel_rfl) (by simp) (AllReadyH.cons rfl (fun K' hK => ?_) AllReadyH.nil)
            go_simp
            refine hK.out _ _ (fin).inv.sc (fun hS2 => ?_)
            refine wpAnyH_done (by kernel_rfl) ?_ _
            exact ⟨(fin).kf, (fin).keep, (fin).inv, KD.out w5 _ _ KG⟩
          case true =>
            rw [hoi] at fin
            refine wpAnyH_take (i := 18) (v := (.bool true)) rfl (by kernel_rfl) (by kernel_rfl) (by kernel_rfl) (fun _ _ _ h => h) (Or.inl ⟨by kernel_rfl, ?_⟩) hS ?_
            · intro w' hw'
              go_simp
            simp only [Act.put, List.setIfInBounds_toArray, List.set_cons_zero, List.set_cons_succ]
            refine wpAnyH_take (i := 19) (v := (.bool true)) rfl (by kernel_rfl) (by kernel_rfl) (by kernel_rfl) (fun _ _ _ h => h) (Or.inl ⟨by kernel_rfl, ?_⟩) hS ?_
            · intro w' hw'
              go_simp
            simp only [Act.put, List.setIfInBounds_toArray, List.set_cons_zero, List.set_cons_succ]
            refine wpAnyH_take (i := 20) (v := (.pointer (some ⟨w.heap.size + 1 + 1 + 1, i, none⟩))) rfl (by kernel_rfl) (by kernel_rfl) (by kernel_rfl) (fun _ _ _ h => h) (Or.inl ⟨by kernel_rfl, ?_⟩) hS ?_
            · intro w' hw'
              go_simp
            simp only [Act.put, List.setIfInBounds_toArray, List.set_cons_zero, List.set_cons_succ]
            refine wpAnyH_ready (rs := [21]) (by kernel_rfl) (by simp) (AllReadyH.cons rfl (fun K' hK => ?_) AllReadyH.nil)
            go_simp
            refine hK.out _ _ (fin).inv.sc (fun hS2 => ?_)
            refine wpAnyH_done (by kernel_rfl) ?_ _
            exact ⟨(fin).kf, (fin).keep, (fin).inv, KD.out w5 _ _ KG⟩
    case done1 =>
      rintro E ys X hE hS ⟨hI, hDk⟩ hK
      have P1 : passL (aft n t) kp gl o1 (idxs ys) = passL (aft n t) kp gl o1 (endsT n n) := congrArg _ hS
      rw [P1] at hI
      have c4 := hI.b4
      have hED : E ≠ D := fun e => by subst e; rw [z1] at hE; omega
      have hEh : w.heap.size ≤ E := by rw [z1] at hE; omega
      have INV2 : Hid (InvC w w.heap.size gk gg n t c ck cg a kp gl (passL (aft n t) kp gl o1 (endsT n n)) X) := hI
      have HK2 : Hid (X.heap[E]? = some (.deferred (some []))) := hK
      have HK3 : Hid (X.heap[D]? = some (.deferred (some []))) := hDk
      clear hI hK hDk P1 hS hE
      gi_wp2
      rw [roundsIn_succ]
      gi_wp2
      have k4 : (X.putObj E (.deferred none)).heap[D]? = some (.deferred (some [])) := (World.putObj_heap_other (Ne.symm hED)).trans HK3.out
      have j1 := INV2.out.turn (grownBy_putObj' X E (.deferred none)) (fun r e => by cases e; exact ⟨hEh, _, HK2.out, rfl⟩)
      have j2 := j1.turn (grownBy_putObj' _ D (.deferred none)) (fun r e => by cases e; exact ⟨HD1.out, _, k4, rfl⟩)
      refine ⟨by simp, .inl ⟨_, _, rfl, run_takeDeferred HK2.out, by simp, .inl ⟨_, _, rfl, run_takeDeferred k4, ?_⟩⟩⟩
      exact ⟨_, results_tmp rfl _ _ _, w.heap.size + 1 + 1 + 1, rfl, by rw [HQO.out]; exact j2.or, grown_of_below j2.bel⟩

end Go.Proofs.Ytneialmpaiejcaa
