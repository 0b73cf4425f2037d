/- The reference's Holds over time. -/
import Derived.Test.YtnhjkgfgbebfkaaZMean
import Derived.Test.YtnhjkgfgbebfkaaXLeaf
import Derived.Laws.OwnMore
namespace Go.Proofs.Ytnhjkgfgbebfkaa
open Go.RowKit Go.Shelf
set_option linter.unusedVariables false
set_option linter.unusedSimpArgs false

def slcs (n : Nat) (gs : List Nat) : List Value := gs.map fun g => Value.slice (some ⟨g, 0, none⟩) n n
/-- The rows written so far. -/
def RowSt (W1 wr : World) (v : Value) (k n : Nat) (S : Nat → Nat → Bool) : Prop :=
  ∃ gs : List Nat, gs.length = k ∧ wr.ownsRow W1.heap.size 46 1 v k (slcs n gs) ∧ (∀ j, j < k → BRow wr (gs.getD j 0) n (S j)) ∧ W1.grownBy wr none
theorem RowSt.kept {W1 wr w' : World} {v : Value} {k n : Nat} {S : Nat → Nat → Bool} (h : RowSt W1 wr v k n S) (hg : wr.grownBy w' none) : RowSt W1 w' v k n S := by
  obtain ⟨gs, h1, h2, h3, h4⟩ := h
  exact ⟨gs, h1, h2.kept hg (by cases v.ownBlock <;> simp), fun j hj => (h3 j hj).kept hg, grown_trans h4 hg⟩
theorem RowSt.rows {W1 wr : World} {a : Option Addr} {c k n : Nat} {S : Nat → Nat → Bool} (h : RowSt W1 wr (.slice a k c) k n S) : RowsR wr a k n S := by
  obtain ⟨gs, h1, h2, h3, h4⟩ := h
  intro j hj
  obtain ⟨g, cap, e, _, _⟩ := h2.form (by omega)
  cases e
  refine ⟨g, gs.getD j 0, rfl, ?_, h3 j hj⟩
  rw [h2.cellAt j (by omega)]
  simp [slcs, List.getD, List.getElem?_eq_getElem (show j < gs.length by omega)]
theorem Try.infoRowZ : (Try.prog.info? 46).map (fun i => (i.zero, i.size, i.bytes)) = some (some (.slice none 0 0), 1, 24) := by kernel_rfl
/-- One row more. -/
theorem RowSt.app {W1 wr : World} {a : Option Addr} {c k n go : Nat} {S : Nat → Nat → Bool} (h : RowSt W1 wr (.slice a k c) k n S) (hb : BRow wr go n (S k)) (hk : k ≤ 100) :
    ∃ g c' w2, (AppT #[52, 52] 52 #[.slice a k c, .slice (some ⟨wr.heap.size, 0, none⟩) 1 1]).run Try.prog (wr.alloc (.cells #[.slice (some ⟨go, 0, none⟩) n n] 46)) = .ok (.slice (some ⟨g, 0, none⟩) (k + 1) c') w2 ∧ RowSt W1 w2 (.slice (some ⟨g, 0, none⟩) (k + 1) c') (k + 1) n S := by
  obtain ⟨gs, h1, h2, h3, h4⟩ := h
  obtain ⟨i0, hi0, hz0, hz1, hz2⟩ := info_partsT Try.infoRowZ
  have hnew := heap_alloc_new wr (.cells #[.slice (some ⟨go, 0, none⟩) n n] 46)
  have gW : wr.grownBy (wr.alloc (.cells #[.slice (some ⟨go, 0, none⟩) n n] 46)) none := grown_alloc _ _
  have hsz : (wr.alloc (.cells #[.slice (some ⟨go, 0, none⟩) n n] 46)).heap.size = wr.heap.size + 1 := by rw [World.size_alloc]
  have hs4 := h4.size
  have ho2 : (wr.alloc (.cells #[.slice (some ⟨go, 0, none⟩) n n] 46)).ownsRow W1.heap.size 46 1 (.slice a k c) k (slcs n gs) := h2.alloc _
  obtain ⟨g, c', w2, hr, r2, r3, _, _⟩ := run_append_lies (P := Try.prog) (wr.alloc (.cells #[.slice (some ⟨go, 0, none⟩) n n] 46)) 52 52 W1.heap.size 46 i0 (.slice none 0 0) 1 24 Try.underlying52 hi0 hz0 hz1 hz2 rfl (by decide) (.slice a k c) k (slcs n gs) ho2 ⟨wr.heap.size, 0, none⟩ 1 1 [.slice (some ⟨go, 0, none⟩) n n] rfl (fun j u hu => World.news_of_block hnew j u (by simpa using hu)) (by intro u hu; simp at hu; subst hu; rfl) (by omega) (by unfold maxLen; omega) (by omega) (by omega) _ rfl
  have hap : ∀ {x : Nat} {o : Nat → Bool}, BRow wr x n o → BRow w2 x n o := fun {x o} hx => by
    refine (hx.kept gW).block (r3.block x (by have := hx.lt; omega) ?_)
    intro e
    rcases h2.2 with ⟨e1, _⟩ | ⟨g', cap', cur, e1, _, e3, _⟩
    · rw [e1] at e; simp [Value.ownBlock] at e
    · rw [e1] at e
      simp [Value.ownBlock] at e
      subst e
      obtain ⟨cur', q1, _⟩ := hx
      rw [e3] at q1
      cases q1
  refine ⟨g, c', w2, hr, gs ++ [go], by simp [h1], ?_, fun j hj => ?_, ?_⟩
  · have e : slcs n gs ++ [Value.slice (some ⟨go, 0, none⟩) n n] = slcs n (gs ++ [go]) := by simp [slcs]
    rw [← e]; exact r2
  · by_cases e : j < k
    · have : (gs ++ [go]).getD j 0 = gs.getD j 0 := by simp [List.getD, List.getElem?_append_left (show j < gs.length by omega)]
      rw [this]; exact hap (h3 j e)
    · obtain rfl : j = k := by omega
      have : (gs ++ [go]).getD j 0 = go := by simp [List.getD, ← h1]
      rw [this]; exact hap hb
  · refine ⟨r3.os.trans (gW.os.trans h4.os), r3.tape.trans (gW.tape.trans h4.tape), r3.output.trans (gW.output.trans h4.output), Nat.le_trans hs4 (Nat.le_trans gW.size r3.size), fun x hx _ => ?_⟩
    refine (r3.block x (by omega) (fun e => ?_)).trans ((gW.block x (by omega) (by simp)).trans (h4.block x hx (by simp)))
    have := h2.lt x e.symm
    omega
theorem rowSt_nil (W1 : World) (n : Nat) (S : Nat → Nat → Bool) : RowSt W1 W1 (.slice none 0 0) 0 n S := ⟨[], rfl, World.ownsRow_nil _ _ _ _, fun j hj => by omega, grown_refl _ _⟩

theorem las_boxR (w : World) (u v : Value) : ∃ W, W = w.alloc (.cells #[u, v] 32) ∧ w.grownBy W none ∧ ∀ W', W.grownBy W' none → W'.cell? ⟨w.heap.size, 0, none⟩ = some u ∧ W'.cell? ⟨w.heap.size, 1, none⟩ = some v := by
  refine ⟨_, rfl, grown_alloc _ _, fun W' h => ?_⟩
  have hb := heap_alloc_new w (.cells #[u, v] 32)
  have hc : ∀ k x, #[u, v][k]? = some x → W'.cell? ⟨w.heap.size, k, none⟩ = some x := fun k x hx => h.cell (by rw [cell_of_row _ _ k _ _ (0, 0) hb]; exact hx) (by simp)
  exact ⟨hc 0 _ rfl, hc 1 _ rfl⟩

attribute [local go_sem ↓] appT_fold in
set_option maxHeartbeats 6400000 in
set_option maxRecDepth 100000 in
theorem holdsR_any (us vs : List Int) (lt : Nat → Nat) (ps : List NodR) (hA : AllN ps) (f : Fm) (r : Nat) (hM : MeansN ps r f) (hr : r < ps.length) (hps : ps.length ≤ 31) (W : World) (g cap : Nat) (ah al : Option Addr) (ch cl : Nat) (hu : Ints W ah us) (hv : Ints W al vs) (h1 : us.length ≤ 60) (h2 : vs.length ≤ 60) (h0 : 0 < vs.length) (hlt : ∀ j, j < us.length + vs.length → (us ++ vs).getD j 0 = ((lt j : Nat) : Int) ∧ lt j < 4) (hL : ListN W g ps) :
    Calls Try.prog 9 #[.slice (some ⟨g, 0, none⟩) ps.length cap, .int .i64 (r : Int), lasV ah us.length ch al vs.length cl] W (Says (.bool (semT (us.length + vs.length) us.length lt (trOf f) 0)) W) := by
  obtain ⟨S, hS, hD⟩ := mean_all us vs lt ps hA
  have HT : Hid (∀ (wq : World) (k i c : Nat) (a : Option Addr), k < ps.length → i < us.length + vs.length → W.grownBy wq none → RowsR wq a k (us.length + vs.length) S → Calls Try.prog 17 #[.slice (some ⟨g, 0, none⟩) ps.length cap, .slice a k c, .int .i64 (k : Int), .int .i64 (i : Int), lasV ah us.length ch al vs.length cl] wq (Says (.bool (S k i)) wq)) := fun wq k i c a hk hi hg hrow => by
    obtain ⟨x0, x1, x2⟩ := (hL.kept hg) k ps[k] (List.getElem?_eq_getElem hk)
    exact hD k ps[k].1 ps[k].2.1 ps[k].2.2 (List.getElem?_eq_getElem hk) wq g ps.length cap i a ah al c ch cl (hu.grown hg) (hv.grown hg) h1 h2 h0 hi hlt hk hps x0 x1 x2 hrow
  rw [← hS r f hM]
  clear hS hD hA hM hL hu hv hlt
  obtain ⟨W1, hW1, g1, bx⟩ := las_boxR W (.slice ah us.length ch) (.slice al vs.length cl)
  have HW1 : Hid (W1 = _) := hW1
  have G1 : Hid (W.grownBy W1 none) := g1
  have BX : Hid (∀ W', W1.grownBy W' none → W'.cell? ⟨W.heap.size, 0, none⟩ = some (.slice ah us.length ch) ∧ W'.cell? ⟨W.heap.size, 1, none⟩ = some (.slice al vs.length cl)) := bx
  obtain ⟨y0, y1⟩ := bx W1 (grown_refl _ _)
  rw [hW1] at y0 y1
  clear hW1 g1 bx
  generalize ps.length = N at *
  go_enter Try.func9, Try.ntmps9
  go_wp2_with fail
  rw [← HW1.out]
  clear y0 y1
  go_loopw [8, 9] (fun v8 v9 wr => ∃ (k c : Nat) (a : Option Addr), v8 = .slice a k c ∧ v9 = .int .i64 (k : Int) ∧ k ≤ N ∧ RowSt W1 wr (.slice a k c) k (us.length + vs.length) S) (fun _ v9 _ => N - (intOf v9).toNat)
  case atStart => exact ⟨0, 0, none, rfl, rfl, by omega, rowSt_nil _ _ _⟩
  case round =>
    obtain ⟨k, c, a, rfl, rfl, hk, hst⟩ := hrel
    have ST : Hid (RowSt W1 wr (.slice a k c) k (us.length + vs.length) S) := hst
    clear hst
    by_cases hkN : k < N
    · have qk : (k : Int) < (N : Int) := by omega
      have hmkE : ∃ W5, (Instr.makeSlice 46 (.int .i64 ((us.length : Int) + (vs.length : Int))) (.int .i64 ((us.length : Int) + (vs.length : Int)))).run Try.prog wr = .ok (.slice (some ⟨wr.heap.size, 0, none⟩) (us.length + vs.length) (us.length + vs.length)) W5 ∧ BRow W5 wr.heap.size (us.length + vs.length) (fun _ => false) ∧ wr.grownBy W5 none ∧ W5.heap.size = wr.heap.size + 1 := by
        have := bools_make wr (us.length + vs.length) (by omega)
        rwa [Int.natCast_add] at this
      obtain ⟨W5, hmk, hrow, g5, s5⟩ := hmkE
      obtain ⟨go, hgo⟩ : ∃ go, wr.heap.size = go := ⟨_, rfl⟩
      rw [hgo] at hmk hrow s5
      have S5 : Hid (∀ wq, W5.grownBy wq (some go) → wr.grownBy wq none) := fun wq h => grown_new g5 h (by omega)
      have R0 : Hid (BRow W5 go (us.length + vs.length) (upTo 0 (S k))) := upTo_zero hrow
      have GW : Hid (∀ wq, wr.grownBy wq none → W1.grownBy wq none) := fun wq h => grown_trans (by obtain ⟨_, _, _, _, h4⟩ := ST.out; exact h4) h
      clear hrow g5 s5 hgo
      go_wp2_with fail
      clear hmk
      go_loopw [11] (fun v11 wq => ∃ j : Nat, v11 = .int .i64 (j : Int) ∧ j ≤ us.length + vs.length ∧ BRow wq go (us.length + vs.length) (upTo j (S k)) ∧ W5.grownBy wq (some go)) (fun v11 _ => (us.length + vs.length) - (intOf v11).toNat)
      case atStart => exact ⟨0, rfl, by omega, R0.out, grown_refl _ _⟩
      case round =>
        rename World => wq
        clear R0
        obtain ⟨j, rfl, hj, hrw, hg⟩ := hrel
        have RR : Hid (BRow wq go (us.length + vs.length) (upTo j (S k))) := hrw
        have GG : Hid (W5.grownBy wq (some go)) := hg
        have SQ : Hid (RowSt W1 wq (.slice a k c) k (us.length + vs.length) S) := ST.out.kept (S5.out wq hg)
        have GQ : Hid (W1.grownBy wq none) := GW.out wq (S5.out wq hg)
        clear hrw hg
        by_cases hjn : j < us.length + vs.length
        · have qj : (j : Int) < (us.length : Int) + (vs.length : Int) := by omega
          have qj0 : (0 : Int) ≤ (j : Int) := by omega
          obtain ⟨y0, y1⟩ := BX.out wq GQ.out
          have KC : Hid (Calls Try.prog 17 #[.slice (some ⟨g, 0, none⟩) N cap, .slice a k c, .int .i64 (k : Int), .int .i64 (j : Int), lasV ah us.length ch al vs.length cl] wq (Says (.bool (S k j)) wq)) := HT.out wq k j c a hkN hjn (grown_trans G1.out GQ.out) SQ.out.rows
          have RS : Hid (∀ w7, wq.grownBy w7 none → BRow (w7.setCell ⟨go, j, none⟩ (.bool (S k j))) go (us.length + vs.length) (upTo (j + 1) (S k)) ∧ W5.grownBy (w7.setCell ⟨go, j, none⟩ (.bool (S k j))) (some go) ∧ w7.cell? ⟨go, j, none⟩ = some (.bool (upTo j (S k) j)) ∧ w7.frozen? ⟨go, j, none⟩ = false) := fun w7 h7 => ⟨upTo_step (RR.out.kept h7) hjn rfl, grown_trans (grown_trans GG.out (grown_some h7)) (grown_set _ _ _), (RR.out.kept h7).cell hjn, (RR.out.kept h7).frozen j⟩
          go_wp2_with fail
          refine KC.out.mono ?_
          rintro e w7 ⟨rfl, hg7⟩
          obtain ⟨r7, g7, x7, f7⟩ := RS.out w7 hg7
          have R7 : Hid _ := r7
          have G7 : Hid _ := g7
          clear hg7 r7 g7 RS y0 y1
          go_wp2_with fail
          go_roundw
          case rel => exact ⟨j + 1, by go_num, by omega, R7.out, G7.out⟩
          case measure => simp [intOf]; omega
        · have qj : ¬ (j : Int) < (us.length : Int) + (vs.length : Int) := by omega
          obtain rfl : j = us.length + vs.length := by omega
          obtain ⟨gA, cA, wA, hrun, hst2⟩ := SQ.out.app (upTo_all RR.out) (by omega)
          have STA : Hid (RowSt W1 wA (.slice (some ⟨gA, 0, none⟩) (k + 1) cA) (k + 1) (us.length + vs.length) S) := hst2
          clear hst2
          go_wp2_with fail
          go_roundw
          case rel => exact ⟨k + 1, cA, some ⟨gA, 0, none⟩, rfl, by go_num, by omega, STA.out⟩
          case measure => simp [intOf]; omega
    · have qk : ¬ (k : Int) < (N : Int) := by omega
      obtain rfl : k = N := by omega
      obtain ⟨gs, gj, ea, x1, hb⟩ := ST.out.rows r hr
      subst ea
      have x2 := hb.cell (i := 0) (by omega)
      have qr : (r : Int) < (k : Int) := by omega
      have qn : (0 : Int) < (us.length : Int) + (vs.length : Int) := by omega
      have GF : Hid (W.grownBy wr none) := grown_trans G1.out (by obtain ⟨_, _, _, _, h4⟩ := ST.out; exact h4)
      clear hb
      go_wp2_with fail
      go_ret
      exact ⟨rfl, GF.out⟩

end Go.Proofs.Ytnhjkgfgbebfkaa
