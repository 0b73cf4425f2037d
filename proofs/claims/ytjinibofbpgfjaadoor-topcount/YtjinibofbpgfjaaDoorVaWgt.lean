/- A row of numbers is made; what a word adds up to: the program's numbers, weight. -/
import Derived.Test.YtjinibofbpgfjaaDoorVaRow
import Derived.Test.YtjinibofbpgfjaaDoorNuMul
namespace Go.Proofs.YtjinibofbpgfjaaDoor
open Go.RowKit
set_option linter.unusedVariables false
set_option linter.unusedSimpArgs false

/-- Whole numbers in the cells of a block. -/
def TC (W : World) (g : Nat) (F : Nat → Int) (M : Nat) : Prop := ∀ j, j < M → W.cell? ⟨g, j, none⟩ = some (.int .i64 (F j)) ∧ W.frozen? ⟨g, j, none⟩ = false
section
variable {W W' : World} {g M : Nat} {F : Nat → Int}
theorem TC.kept (h : TC W g F M) (k : W.grownBy W' none) (hg : g < W.heap.size) : TC W' g F M := fun j hj => ⟨k.cell (h j hj).1 (by simp), (k.frozen_far ⟨g, j, none⟩ hg (by simp)).trans (h j hj).2⟩
theorem TC.set1 (h : TC W g F M) {j : Nat} (hj : j < M) (c : Int) : TC (W.setCell ⟨g, j, none⟩ (.int .i64 c)) g (fun m => if m = j then c else F m) M := fun m hm => by
  refine ⟨?_, by rw [World.frozen?_setCell]; exact (h m hm).2⟩
  show _ = some (Value.int .i64 (if m = j then c else F m))
  by_cases e : m = j
  · subst e
    rw [if_pos rfl]
    exact World.cell?_setCell_same _ _ _ (h m hm).1
  · rw [if_neg e, World.cell?_setCell_other _ _ _ _ (by first | (simp; done) | (simp; omega))]
    exact (h m hm).1
theorem TC.congr {F' : Nat → Int} (h : TC W g F M) (e : ∀ j, j < M → F j = F' j) : TC W g F' M := fun j hj => by rw [← e j hj]; exact h j hj
end
/-- One element is written. -/
def putF (F : Nat → Int) (i : Nat) (u : Nat → Int) (m : Nat) : Int := if i * 13 ≤ m ∧ m < i * 13 + 13 then u (m - i * 13) else F m
theorem tc_put {W : World} {g M : Nat} {F : Nat → Int} (h : TC W g F M) {i : Nat} (hi : i * 13 + 13 ≤ M) (u : Nat → Int) : ∃ W', W' = ((((((((((((W.setCell ⟨g, i * 13, none⟩ (.int .i64 (u 0))).setCell ⟨g, i * 13 + 1, none⟩ (.int .i64 (u 1))).setCell ⟨g, i * 13 + 2, none⟩ (.int .i64 (u 2))).setCell ⟨g, i * 13 + 3, none⟩ (.int .i64 (u 3))).setCell ⟨g, i * 13 + 4, none⟩ (.int .i64 (u 4))).setCell ⟨g, i * 13 + 5, none⟩ (.int .i64 (u 5))).setCell ⟨g, i * 13 + 6, none⟩ (.int .i64 (u 6))).setCell ⟨g, i * 13 + 7, none⟩ (.int .i64 (u 7))).setCell ⟨g, i * 13 + 8, none⟩ (.int .i64 (u 8))).setCell ⟨g, i * 13 + 9, none⟩ (.int .i64 (u 9))).setCell ⟨g, i * 13 + 10, none⟩ (.int .i64 (u 10))).setCell ⟨g, i * 13 + 11, none⟩ (.int .i64 (u 11))).setCell ⟨g, i * 13 + 12, none⟩ (.int .i64 (u 12)) ∧ W.grownBy W' (some g) ∧ TC W' g (putF F i u) M := by
  refine ⟨_, rfl, grown_trans (grown_set _ _ _) (grown_trans (grown_set _ _ _) (grown_trans (grown_set _ _ _) (grown_trans (grown_set _ _ _) (grown_trans (grown_set _ _ _) (grown_trans (grown_set _ _ _) (grown_trans (grown_set _ _ _) (grown_trans (grown_set _ _ _) (grown_trans (grown_set _ _ _) (grown_trans (grown_set _ _ _) (grown_trans (grown_set _ _ _) (grown_trans (grown_set _ _ _) (grown_set _ _ _)))))))))))), ?_⟩
  refine (((((((((((((h.set1 (j := i * 13) (by omega) (u 0)).set1 (j := i * 13 + 1) (by omega) (u 1)).set1 (j := i * 13 + 2) (by omega) (u 2)).set1 (j := i * 13 + 3) (by omega) (u 3)).set1 (j := i * 13 + 4) (by omega) (u 4)).set1 (j := i * 13 + 5) (by omega) (u 5)).set1 (j := i * 13 + 6) (by omega) (u 6)).set1 (j := i * 13 + 7) (by omega) (u 7)).set1 (j := i * 13 + 8) (by omega) (u 8)).set1 (j := i * 13 + 9) (by omega) (u 9)).set1 (j := i * 13 + 10) (by omega) (u 10)).set1 (j := i * 13 + 11) (by omega) (u 11)).set1 (j := i * 13 + 12) (by omega) (u 12)).congr fun m hm => ?_
  unfold putF
  by_cases e : i * 13 ≤ m ∧ m < i * 13 + 13
  · rw [if_pos e]
    obtain ⟨k, rfl⟩ : ∃ k, m = i * 13 + k := ⟨m - i * 13, by omega⟩
    have hk : k < 13 := by omega
    have e2 : i * 13 + k - i * 13 = k := by omega
    rw [e2]
    rcases thirt hk with rfl | rfl | rfl | rfl | rfl | rfl | rfl | rfl | rfl | rfl | rfl | rfl | rfl <;> simp
  · rw [if_neg e]
    have n0 : ¬ m = i * 13 := by omega
    have n1 : ¬ m = i * 13 + 1 := by omega
    have n2 : ¬ m = i * 13 + 2 := by omega
    have n3 : ¬ m = i * 13 + 3 := by omega
    have n4 : ¬ m = i * 13 + 4 := by omega
    have n5 : ¬ m = i * 13 + 5 := by omega
    have n6 : ¬ m = i * 13 + 6 := by omega
    have n7 : ¬ m = i * 13 + 7 := by omega
    have n8 : ¬ m = i * 13 + 8 := by omega
    have n9 : ¬ m = i * 13 + 9 := by omega
    have n10 : ¬ m = i * 13 + 10 := by omega
    have n11 : ¬ m = i * 13 + 11 := by omega
    have n12 : ¬ m = i * 13 + 12 := by omega
    simp only [n0, n1, n2, n3, n4, n5, n6, n7, n8, n9, n10, n11, n12, if_false]
/-- One number alone. -/
def oneN (x : Int) : Nat → Int
  | 0 => x
  | _ + 1 => 0
theorem oneN_val (x : Int) : valT (oneN x) = x := by simp [valT, tlF, oneN]
theorem oneN_bd {x : Int} (h1 : -1000000000000000 ≤ x) (h2 : x ≤ 1000000000000000) (k : Nat) : -1000000000000000 ≤ oneN x k ∧ oneN x k ≤ 1000000000000000 := by
  cases k with
  | zero => exact ⟨h1, h2⟩
  | succ k => show -1000000000000000 ≤ (0 : Int) ∧ (0 : Int) ≤ 1000000000000000; omega
/-- Behind i numbers. -/
def numF (zs : List Int) (i m : Nat) : Int := if m < i * 13 then ptF (zs.getD (m / 13) 0) (m % 13) else 0
theorem numF_zero (zs : List Int) (m : Nat) : numF zs 0 m = 0 := by unfold numF; rw [if_neg (by omega)]
theorem numF_step (zs : List Int) (i m : Nat) : putF (numF zs i) i (ptF (zs.getD i 0)) m = numF zs (i + 1) m := by
  unfold putF numF
  by_cases h1 : m < i * 13
  · rw [if_neg (by omega), if_pos h1, if_pos (by omega)]
  · by_cases h2 : m < i * 13 + 13
    · have e1 : m / 13 = i := by omega
      have e2 : m % 13 = m - i * 13 := by omega
      rw [if_pos (by omega), if_pos (by omega), e1, e2]
    · rw [if_neg (by omega), if_neg h1, if_neg (by omega)]
theorem make_nums (w : World) (n B : Nat) (hn : n ≤ 1000) (hB : w.heap.size = B) : ∃ W', (Instr.makeSlice 46 (.int .i64 (n : Int)) (.int .i64 (n : Int))).run Tryd.prog w = .ok (.slice (some ⟨B, 0, none⟩) n n) W' ∧ TC W' B (fun _ => 0) (n * 13) ∧ w.grownBy W' none ∧ W'.heap.size = B + 1 := by
  subst hB
  obtain ⟨i0, hi, hz0, hz1, hz2⟩ := info_partsY Tryd.infoNm
  have hmk := run_make (P := Tryd.prog) w 46 44 i0 (nmV fun _ => 0) Tryd.underlying46 hi hz0 .i64 .i64 (n : Int) (n : Int) (by omega) (by omega) (by rw [hz2]; omega) (by omega)
  rw [hz1, Int.toNat_natCast] at hmk
  refine ⟨_, hmk, fun j hj => ?_, grown_alloc _ _, by simp⟩
  have hb := heap_alloc_new w (.cells (madeCells (Value.cells (nmV fun _ => 0)) (n * 13)) 44)
  refine ⟨?_, frozen_of_row _ _ j _ _ hb⟩
  rw [cell_of_row _ _ _ _ _ (0, 0) hb]
  have hm : j % 13 < 13 := by omega
  have e : Value.cells (nmV fun _ => 0) = nmA fun _ => 0 := rfl
  rw [e]
  have h2 := nmA_get (fun _ => 0) hm
  simp [madeCells, hj] at h2 ⊢
  rw [h2]
  rfl

attribute [local go_sem ↓] appY_fold in
set_option maxHeartbeats 3200000 in
set_option maxRecDepth 100000 in
theorem numbers_any (zs : List Int) (a : Option Addr) (n c : Nat) (w : World) (hz : Ints w a zs) (e1 : zs.length = n) (hn : n ≤ 30) (h9 : InW zs 9) :
    Calls Tryd.prog 17 #[.slice a n c] w (NumsP zs w) := by
  have HZ : Hid (Ints w a zs) := hz
  have HL : Hid (zs.length = n ∧ InW zs 9) := ⟨e1, h9⟩
  obtain ⟨B, hB⟩ : ∃ B, w.heap.size = B := ⟨_, rfl⟩
  obtain ⟨W1, hmk, ht, hg, hs⟩ := make_nums w n B (by omega) hB
  have H1 : Hid (TC W1 B (numF zs 0) (n * 13) ∧ w.grownBy W1 none ∧ W1.heap.size = B + 1 ∧ w.heap.size = B) := ⟨ht.congr fun j _ => (numF_zero zs j).symm, hg, hs, hB⟩
  obtain ⟨Po, hPo⟩ : ∃ P, P = NumsP zs w := ⟨_, rfl⟩
  have HPo : Hid (Po = NumsP zs w) := hPo
  rw [← hPo]
  clear hz e1 h9 hB ht hg hs hPo
  go_enter Tryd.func17, Tryd.ntmps17
  go_wp2_with fail
  clear hmk
  go_loopw [11] (fun p W => ∃ i : Nat, p = .int .i64 i ∧ i ≤ n ∧ TC W B (numF zs i) (n * 13) ∧ w.grownBy W none ∧ B < W.heap.size) (fun p _ => n - (intOf p).toNat)
  case atStart => exact ⟨0, rfl, Nat.zero_le _, H1.out.1, H1.out.2.1, by have := H1.out.2.2.1; omega⟩
  case round =>
    obtain ⟨wi, hwi⟩ : ∃ W, W = wr := ⟨_, rfl⟩
    subst hwi
    obtain ⟨i, rfl, hi, htc, hg, hs⟩ := hrel
    have HO : Hid (TC wi B (numF zs i) (n * 13) ∧ w.grownBy wi none ∧ B < wi.heap.size) := ⟨htc, hg, hs⟩
    clear htc hg hs
    by_cases hlt : i < n
    · have io : (i : Int) < (n : Int) := by omega
      have hiz : i < zs.length := by rw [HL.out.1]; exact hlt
      obtain ⟨b, off, rfl, hc⟩ := (HZ.out.grown HO.out.2.1).at hiz
      have q1 := hc i hiz
      have h9 := HL.out.2 _ (mem_get0 hiz)
      obtain ⟨x, hx⟩ : ∃ x, zs.getD i 0 = x := ⟨_, rfl⟩
      rw [hx] at q1 h9
      have HXe : Hid (zs.getD i 0 = x) := hx
      have HC : Hid (Calls Tryd.prog 29 #[.agg #[.int .i64 x, .int .i64 0, .int .i64 0, .int .i64 0, .int .i64 0, .int .i64 0, .int .i64 0, .int .i64 0, .int .i64 0, .int .i64 0, .int .i64 0, .int .i64 0, .int .i64 0]] wi (NumP x wi)) := by
        have h := carried_any (oneN x) wi (fun k _ => oneN_bd (by omega) (by omega) k)
        rw [oneN_val] at h
        exact h
      clear hc hx h9
      go_wp2_with fail
      clear q1
      refine HC.out.mono ?_
      rintro E w3 ⟨rfl, hg3⟩
      have HTC : Hid (TC w3 B (numF zs i) (n * 13) ∧ w.grownBy w3 none ∧ B < w3.heap.size) := ⟨HO.out.1.kept hg3 HO.out.2.2, grown_trans HO.out.2.1 hg3, Nat.lt_of_lt_of_le HO.out.2.2 hg3.size⟩
      clear hg3
      have hin : i * 13 + 13 ≤ n * 13 := by omega
      obtain ⟨W9, hW9, g9, t9⟩ := tc_put HTC.out.1 hin (ptF x)
      have HW9 : Hid (W9 = _) := hW9
      have HO9 : Hid (TC W9 B (numF zs (i + 1)) (n * 13) ∧ w.grownBy W9 none ∧ B < W9.heap.size) := ⟨t9.congr fun j _ => by rw [← HXe.out]; exact numF_step zs i j, grown_new HTC.out.2.1 g9 (by have := H1.out.2.2.2; omega), Nat.lt_of_lt_of_le HTC.out.2.2 g9.size⟩
      have d0 := (HTC.out.1 (i * 13) (by omega)).1
      have f0 := (HTC.out.1 (i * 13) (by omega)).2
      have d1 := (HTC.out.1 (i * 13 + 1) (by omega)).1
      have f1 := (HTC.out.1 (i * 13 + 1) (by omega)).2
      have d2 := (HTC.out.1 (i * 13 + 2) (by omega)).1
      have f2 := (HTC.out.1 (i * 13 + 2) (by omega)).2
      have d3 := (HTC.out.1 (i * 13 + 3) (by omega)).1
      have f3 := (HTC.out.1 (i * 13 + 3) (by omega)).2
      have d4 := (HTC.out.1 (i * 13 + 4) (by omega)).1
      have f4 := (HTC.out.1 (i * 13 + 4) (by omega)).2
      have d5 := (HTC.out.1 (i * 13 + 5) (by omega)).1
      have f5 := (HTC.out.1 (i * 13 + 5) (by omega)).2
      have d6 := (HTC.out.1 (i * 13 + 6) (by omega)).1
      have f6 := (HTC.out.1 (i * 13 + 6) (by omega)).2
      have d7 := (HTC.out.1 (i * 13 + 7) (by omega)).1
      have f7 := (HTC.out.1 (i * 13 + 7) (by omega)).2
      have d8 := (HTC.out.1 (i * 13 + 8) (by omega)).1
      have f8 := (HTC.out.1 (i * 13 + 8) (by omega)).2
      have d9 := (HTC.out.1 (i * 13 + 9) (by omega)).1
      have f9 := (HTC.out.1 (i * 13 + 9) (by omega)).2
      have d10 := (HTC.out.1 (i * 13 + 10) (by omega)).1
      have f10 := (HTC.out.1 (i * 13 + 10) (by omega)).2
      have d11 := (HTC.out.1 (i * 13 + 11) (by omega)).1
      have f11 := (HTC.out.1 (i * 13 + 11) (by omega)).2
      have d12 := (HTC.out.1 (i * 13 + 12) (by omega)).1
      have f12 := (HTC.out.1 (i * 13 + 12) (by omega)).2
      clear hW9 g9 t9 HC HO
      go_wp2_with fail
      rw [← HW9.out]
      go_roundw
      case rel => exact ⟨i + 1, by go_num, by omega, HO9.out⟩
      case measure => simp [intOf]; omega
    · have io : ¬ (i : Int) < (n : Int) := by omega
      have F : Hid (Po (.returned (.slice (some ⟨B, 0, none⟩) n n)) wi) := by
        show Po _ _
        rw [HPo.out]
        have ei : i = n := by omega
        refine ⟨some ⟨B, 0, none⟩, n, by rw [HL.out.1], .inr ⟨B, 0, rfl, fun j hj k hk => ?_⟩, HO.out.2.1⟩
        have hj2 : j < n := by rw [← HL.out.1]; exact hj
        have h := (HO.out.1 (j * 13 + k) (by omega)).1
        rw [Nat.zero_add, h]
        unfold numF
        have e1 : (j * 13 + k) / 13 = j := by omega
        have e2 : (j * 13 + k) % 13 = k := by omega
        rw [if_pos (by omega), e1, e2]
      go_wp2_with fail
      first | exact F.out | (go_ret; exact F.out)

theorem rowF_take (x : WgI) (r : List Int) (ws : List Nat) {i : Nat} (h : i < ws.length) : rowF x r (ws.take (i + 1)) = byW (rowF x r (ws.take i)) (tabW x (ws.getD i 0)) := by
  have e : ws.take (i + 1) = ws.take i ++ [ws.getD i 0] := by rw [List.take_add_one, List.getElem?_eq_getElem h, List.getD_eq_getElem?_getD, List.getElem?_eq_getElem h]; rfl
  rw [e, rowF_snoc]
theorem bd72_row {x : WgI} (h : GoodWg x) {w : List Nat} (hw : ∀ l, l ∈ w → l < x.S.length) : ∀ {r : List Int} {k : Nat}, Bd72 r k → Bd72 (rowF x r w) (k + w.length) := by
  induction w with
  | nil => intro r k hr; exact hr
  | cons l w ih =>
    intro r k hr
    rw [rowF_cons]
    have e : k + (l :: w).length = k + 1 + w.length := by rw [List.length_cons]; omega
    rw [e]
    exact ih (fun l' hl' => hw l' (List.mem_cons_of_mem _ hl')) (bd72_by h (hw l List.mem_cons_self) hr)
theorem bd72_first {l : List Int} (h : InW l 9) : Bd72 l 0 := fun x hx => by
  have := h x hx
  show _ ≤ (9 : Int) * 72 ^ 0
  omega

set_option maxHeartbeats 3200000 in
set_option maxRecDepth 100000 in
theorem weight_any (x : WgI) (hx : GoodWg x) (ws : List Nat) (hw : ∀ l, l ∈ ws → l < x.S.length) (hl : ws.length ≤ 60) (V : List Int) (hV8 : V.length = x.F.length) (hVb : Bd72 V 0) (a1 a2 a3 av au : Option Addr) (c1 c2 c3 cv cu nu : Nat) (w : World) (mx : WgAt w x a1 a2 a3) (hV : NumsAt w av V) (hu : Ints w au (ws.map fun l : Nat => (l : Int))) (e4 : ws.length = nu) :
    Calls Tryd.prog 16 #[wgV x.L a1 x.F.length c1 a2 x.S.length c2 a3 x.E.length c3, .slice av x.F.length cv, .slice au nu cu] w (NumP (dotW (rowF x V ws) x.E) w) := by
  obtain ⟨A0, hA0, g0, s0, bx⟩ := box4_new w x.L a1 x.F.length c1 a2 x.S.length c2 a3 x.E.length c3
  obtain ⟨W1, hW1, g1, s1, b1⟩ := boxN_new A0 (fun _ => 0)
  rw [s0] at b1
  have HW1 : Hid (W1 = (w.alloc (wgO x.L a1 x.F.length c1 a2 x.S.length c2 a3 x.E.length c3)).alloc (nmO (fun _ => 0))) := by show _ = _; rw [hW1, hA0]
  have G1 : Hid (w.grownBy W1 none) := grown_trans g0 g1
  have BX : Hid (∀ W, W1.grownBy W none → Box4 W w.heap.size x.L a1 x.F.length c1 a2 x.S.length c2 a3 x.E.length c3) := fun W hW => bx.grown (grown_trans g1 hW)
  have BZ : Hid (∀ W, W1.grownBy W none → BoxN W (w.heap.size + 1) (fun _ => 0)) := fun W hW => b1.kept hW
  have HA : Hid (∀ W, W1.grownBy W none → WgAt W x a1 a2 a3 ∧ Ints W au (ws.map fun l : Nat => (l : Int))) := fun W hW => ⟨mx.grown (grown_trans G1.out hW), hu.grown (grown_trans G1.out hW)⟩
  have HG : Hid (GoodWg x ∧ (∀ l, l ∈ ws → l < x.S.length) ∧ ws.length = nu ∧ nu ≤ 60) := ⟨hx, hw, e4, by omega⟩
  have hn8 := hx.size.2
  have HBd : Hid (∀ i, i ≤ nu → Bd72 (rowF x V (ws.take i)) i ∧ (rowF x V (ws.take i)).length = x.F.length) := fun i hi => by
    have hlt : ∀ l, l ∈ ws.take i → l < x.S.length := fun l hl => hw l (List.mem_of_mem_take hl)
    have h1 := bd72_row hx hlt hVb
    rw [Nat.zero_add, List.length_take, Nat.min_eq_left (by omega)] at h1
    exact ⟨h1, rowF_len hx.shape hlt hV8⟩
  have HV0 : Hid (NumsAt W1 av (rowF x V (ws.take 0))) := hV.grown G1.out
  obtain ⟨X, hX⟩ : ∃ X, dotW (rowF x V ws) x.E = X := ⟨_, rfl⟩
  have HX : Hid (dotW (rowF x V ws) x.E = X) := hX
  rw [hX]
  obtain ⟨Po, hPo⟩ : ∃ P, P = NumP X w := ⟨_, rfl⟩
  have HPo : Hid (Po = NumP X w) := hPo
  rw [← hPo]
  have HSt : Hid (∀ i W a c, i < nu → W1.grownBy W none → NumsAt W a (rowF x V (ws.take i)) → ∀ r4 k4, RowsAt W r4 (tabW x (ws.getD i 0)) → Calls Tryd.prog 27 #[.slice a x.F.length c, .slice r4 x.F.length k4] W (NumsP (rowF x V (ws.take (i + 1))) W)) := fun i W a c hi hW hn r4 k4 hr => by
    have hl := HBd.out i (by omega)
    have hm : ws.getD i 0 ∈ ws := by rw [List.getD_eq_getElem?_getD, List.getElem?_eq_getElem (by omega)]; exact List.getElem_mem _
    have sh := hx.shape.2.2 _ (tabW_mem (hw _ hm))
    have hin := hx.within.2.2 _ (tabW_mem (hw _ hm))
    rw [rowF_take x V ws (by omega)]
    exact step_any _ _ a r4 x.F.length c k4 W hn hr hl.2 sh.1 (by omega) (fun v hv => room72 (hl.1 v hv) (by omega)) (fun r hr => ⟨sh.2 r hr, hin r hr⟩)
  have HTo : Hid (∀ W a c, W1.grownBy W none → NumsAt W a (rowF x V ws) → Calls Tryd.prog 28 #[.slice a x.F.length c, .slice a3 x.E.length c3] W (NumP X W)) := fun W a c hW hn => by
    have hl := HBd.out nu (Nat.le_refl _)
    have e : ws.take nu = ws := by rw [← e4, List.take_length]
    rw [e] at hl
    rw [← hX, hx.shape.1]
    exact total_any _ _ a a3 x.F.length c c3 W hn (mx.last.grown (grown_trans G1.out hW)) hl.2 hx.shape.1 (by omega) (fun v hv => room72 (hl.1 v hv) (by omega)) hx.within.2.1
  clear hA0 hW1 g0 g1 s0 s1 bx b1 hx hw hl hVb mx hV hu e4 hX hPo
  go_enter Tryd.func16, Tryd.ntmps16
  go_wp2_with fail
  rw [← HW1.out]
  go_loopw [11, 1] (fun p q W => ∃ (i : Nat) (a : Option Addr) (c : Nat), p = .int .i64 i ∧ q = .slice a x.F.length c ∧ i ≤ nu ∧ NumsAt W a (rowF x V (ws.take i)) ∧ W1.grownBy W none) (fun p _ _ => nu - (intOf p).toNat)
  case atStart => exact ⟨0, av, cv, rfl, rfl, Nat.zero_le _, HV0.out, grown_refl _ _⟩
  case round =>
    clear HV0
    obtain ⟨wi, hwi⟩ : ∃ W, W = wr := ⟨_, rfl⟩
    subst hwi
    obtain ⟨i, a, c, rfl, rfl, hi, hn, hg⟩ := hrel
    have HO : Hid (NumsAt wi a (rowF x V (ws.take i)) ∧ W1.grownBy wi none) := ⟨hn, hg⟩
    clear hn hg
    by_cases hlt : i < nu
    · have io : (i : Int) < (nu : Int) := by omega
      have i60 : nu ≤ 60 := HG.out.2.2.2
      have hiw : i < (ws.map fun l : Nat => (l : Int)).length := by rw [List.length_map, HG.out.2.2.1]; exact hlt
      have hiw2 : i < ws.length := by rw [HG.out.2.2.1]; exact hlt
      obtain ⟨b, off, rfl, hc⟩ := (HA.out wi HO.out.2).2.at hiw
      have q1 := hc i hiw
      have eq1 : (ws.map fun l : Nat => (l : Int)).getD i 0 = ((ws.getD i 0 : Nat) : Int) := by simp [List.getD, hiw2]
      rw [eq1] at q1
      have hm : ws.getD i 0 ∈ ws := by rw [List.getD_eq_getElem?_getD, List.getElem?_eq_getElem hiw2]; exact List.getElem_mem _
      have hls := HG.out.2.1 _ hm
      obtain ⟨b4, o4, ha2, hc4⟩ := (HA.out wi HO.out.2).1.step.at hls
      obtain ⟨r4, k4, q4, hr4, hm4⟩ := hc4 _ hls
      have sh := (HG.out.1.shape.2.2 _ (tabW_mem hls)).1
      have HC0 := HSt.out i wi a c hlt HO.out.2 HO.out.1 r4 k4 hr4
      have eT : (x.S.getD (ws.getD i 0) []).length = x.F.length := sh
      rw [eT] at q4
      have HC : Hid (Calls Tryd.prog 27 #[.slice a x.F.length c, .slice r4 x.F.length k4] wi (NumsP (rowF x V (ws.take (i + 1))) wi)) := HC0
      obtain ⟨l, hl⟩ : ∃ l, ws.getD i 0 = l := ⟨_, rfl⟩
      rw [hl] at q1 q4 hls
      have il : (l : Int) < (x.S.length : Int) := by omega
      have x2 := (BX.out wi HO.out.2).b2
      rw [ha2] at x2
      have HR1 : Hid ((rowF x V (ws.take (i + 1))).length = x.F.length) := (HBd.out (i + 1) hlt).2
      have HA2 : Hid (a2 = some ⟨b4, o4, none⟩) := ha2
      clear hc eq1 hm hc4 hr4 hm4 sh HC0 eT hl ha2
      go_wp2_with fail
      clear q1 q4 x2
      refine HC.out.mono ?_
      rintro E w3 ⟨a7, c7, rfl, hn7, hg7⟩
      rw [HR1.out]
      have HO7 : Hid (NumsAt w3 a7 (rowF x V (ws.take (i + 1))) ∧ W1.grownBy w3 none) := ⟨hn7, grown_trans HO.out.2 hg7⟩
      clear hn7 hg7 HC
      go_wp2_with fail
      go_roundw
      case rel => exact ⟨i + 1, a7, c7, by go_num, rfl, by omega, HO7.out⟩
      case measure => simp [intOf]; omega
    · have io : ¬ (i : Int) < (nu : Int) := by omega
      have ei : i = nu := by omega
      have hn := HO.out.1
      have e : ws.take i = ws := by rw [ei, ← HG.out.2.2.1, List.take_length]
      rw [e] at hn
      have HC : Hid (Calls Tryd.prog 28 #[.slice a x.F.length c, .slice a3 x.E.length c3] wi (NumP X wi)) := HTo.out wi a c HO.out.2 hn
      have x3 := (BX.out wi HO.out.2).b3
      clear hn e ei
      go_wp2_with fail
      clear x3
      refine HC.out.mono ?_
      rintro E w5 ⟨rfl, hg5⟩
      have G5 : Hid (W1.grownBy w5 none) := grown_trans HO.out.2 hg5
      have HZ : Hid (BoxN w5 (w.heap.size + 1) (fun _ => 0)) := BZ.out w5 G5.out
      obtain ⟨d0, d1, d2, d3, d4, d5, d6, d7, d8, d9, d10, d11, d12⟩ := HZ.out.get
      have fz := HZ.out.fz
      obtain ⟨W9, hW9, g9, b9⟩ := boxN_store HZ.out (ptF X)
      have HW9 : Hid (W9 = _) := hW9
      have F : Hid (Po (.returned (nmV (ptF X))) W9) := by
        show Po _ _
        rw [HPo.out]
        exact ⟨rfl, grown_new (grown_trans G1.out G5.out) g9 (by omega)⟩
      obtain ⟨e0, e1, e2, e3, e4, e5, e6, e7, e8, e9, e10, e11, e12⟩ := b9.get
      have f0 := fz 0
      have f1 := fz 1
      have f2 := fz 2
      have f3 := fz 3
      have f4 := fz 4
      have f5 := fz 5
      have f6 := fz 6
      have f7 := fz 7
      have f8 := fz 8
      have f9 := fz 9
      have f10 := fz 10
      have f11 := fz 11
      have f12 := fz 12
      clear hW9 g9 b9 fz hg5 HC
      go_wp2_with fail
      rw [← HW9.out]
      exact bodyPost_ret (v := nmV (ptF X)) (by simp [results, Tryd.results16, go_sem, e0, e1, e2, e3, e4, e5, e6, e7, e8, e9, e10, e11, e12]) rfl F.out
end Go.Proofs.YtjinibofbpgfjaaDoor
