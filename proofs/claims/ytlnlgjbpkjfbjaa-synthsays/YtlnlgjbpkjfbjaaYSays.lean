/- What a machine says, by the program. -/
import Derived.Test.YtlnlgjbpkjfbjaaYCheckM
import Derived.Test.YtlnlgjbpkjfbjaaJoin1
namespace Go.Proofs.Ytlnlgjbpkjfbjaa
open Go.RowKit
set_option linter.unusedVariables false

/-- What is said: a row of one's own. -/
def SaysPost (m : Mch) (hs : List Int) (w : World) (E : Ending) (w' : World) : Prop :=
  ∃ a c, E = .returned (.tuple #[.slice a hs.length c, .int .i64 0]) ∧ Owns w.heap.size w' [(3, .slice a hs.length c, vals (outY m hs hs.length))] ∧ w.grownBy w' none

theorem make_none (w : World) (n : Nat) (hn : n ≤ 1000) : (Instr.makeSlice 25 (.int .i64 0) (.int .i64 (n : Int))).run Try.prog w = .ok (.slice (some ⟨w.heap.size, 0, none⟩) 0 n) (w.alloc (.cells (Array.replicate n (Value.int .i64 0)) 3)) := by
  obtain ⟨i0, hi, hz0, hz1, hz2⟩ := info_parts Try.info3i
  have hmk := run_make (P := Try.prog) w 25 3 i0 (.int .i64 0) Try.underlying25 hi hz0 .i64 .i64 0 (n : Int) (by omega) (by omega) (by rw [hz2]; omega) (by omega)
  rw [hz1, Nat.mul_one, Int.toNat_natCast] at hmk
  have e : madeCells (Value.cells (.int .i64 0)) n = Array.replicate n (Value.int .i64 0) := by
    apply Array.ext'
    simpa [Value.cells] using toList_madeCells_one (.int .i64 0) n
  rw [e] at hmk
  exact hmk

set_option maxHeartbeats 1600000 in
/-- Either is refused. -/
theorem says_badM (m : Mch) (F : Bool) (S y : Int) (a b ah : Option Addr) (n c k d nh ch : Nat) (w : World) (hy : y ≠ 0)
    (HC : Hid (∀ W, w.grownBy W none → Calls Try.prog 15 #[mchV F S a n c b k d] W (Says (.int .i64 y) W))) :
    Calls Try.prog 5 #[mchV F S a n c b k d, .slice ah nh ch] w (Says (.tuple #[.slice none 0 0, .int .i64 y]) w) := by
  have f1 : (y != 0) = true := by simpa using hy
  obtain ⟨W1, hW1, g1, s1, bx1⟩ := box4_new w (.bool F) (.int .i64 S) (.slice a n c) (.slice b k d) 24
  obtain ⟨x0, x1, x2, x3⟩ := bx1 W1 (grown_refl _ _)
  have G1 : Hid (w.grownBy W1 none) := g1
  have HW1 : Hid (W1 = _) := hW1
  rw [hW1] at x0 x1 x2 x3
  clear hW1 g1 s1 bx1
  go_enter Try.func5, Try.ntmps5
  go_wp2_with fail
  rw [← HW1.out]
  clear x0 x1 x2 x3
  refine (HC.out _ G1.out).mono ?_
  rintro E w2 ⟨rfl, hg2⟩
  have GF : Hid (w.grownBy w2 none) := grown_trans G1.out hg2
  clear hg2
  go_wp2_with fail
  go_ret2
  exact ⟨rfl, GF.out⟩

set_option maxHeartbeats 1600000 in
theorem says_badH (m : Mch) (F : Bool) (S y : Int) (a b ah : Option Addr) (n c k d nh ch : Nat) (w : World) (hy : y ≠ 0)
    (HC : Hid (∀ W, w.grownBy W none → Calls Try.prog 15 #[mchV F S a n c b k d] W (Says (.int .i64 0) W)))
    (HH : Hid (∀ W, w.grownBy W none → Calls Try.prog 16 #[.slice ah nh ch] W (Says (.int .i64 y) W))) :
    Calls Try.prog 5 #[mchV F S a n c b k d, .slice ah nh ch] w (Says (.tuple #[.slice none 0 0, .int .i64 y]) w) := by
  have f1 : (y != 0) = true := by simpa using hy
  obtain ⟨W1, hW1, g1, s1, bx1⟩ := box4_new w (.bool F) (.int .i64 S) (.slice a n c) (.slice b k d) 24
  obtain ⟨x0, x1, x2, x3⟩ := bx1 W1 (grown_refl _ _)
  have G1 : Hid (w.grownBy W1 none) := g1
  have HW1 : Hid (W1 = _) := hW1
  rw [hW1] at x0 x1 x2 x3
  clear hW1 g1 s1 bx1
  go_enter Try.func5, Try.ntmps5
  go_wp2_with fail
  rw [← HW1.out]
  clear x0 x1 x2 x3
  refine (HC.out _ G1.out).mono ?_
  rintro E w2 ⟨rfl, hg2⟩
  have G2 : Hid (w.grownBy w2 none) := grown_trans G1.out hg2
  clear hg2
  go_wp2_with fail
  refine (HH.out _ G2.out).mono ?_
  rintro E w3 ⟨rfl, hg3⟩
  have GF : Hid (w.grownBy w3 none) := grown_trans G2.out hg3
  clear hg3
  go_wp2_with fail
  go_ret2
  exact ⟨rfl, GF.out⟩

set_option maxHeartbeats 6400000 in
set_option maxRecDepth 100000 in
theorem says_good (m : Mch) (n : Nat) (hG : GoodY m n) (a b ah : Option Addr) (c d ch : Nat) (hs : List Int) (w : World) (h : MchAt w m a b) (hh : Ints w ah hs) (h60 : hs.length ≤ 60) (h01 : ∀ k, k < hs.length → hs.getD k 0 = 0 ∨ hs.getD k 0 = 1)
    (HC : Hid (∀ W, w.grownBy W none → Calls Try.prog 15 #[mchV m.F m.S a n c b n d] W (Says (.int .i64 0) W)))
    (HH : Hid (∀ W, w.grownBy W none → Calls Try.prog 16 #[.slice ah hs.length ch] W (Says (.int .i64 0) W))) :
    Calls Try.prog 5 #[mchV m.F m.S a n c b n d, .slice ah hs.length ch] w (SaysPost m hs w) := by
  obtain ⟨i0, hio, hz0, hz1, hz2⟩ := info_parts Try.info3i
  have H : Hid (MchAt w m a b) := h
  have HI : Hid (Ints w ah hs) := hh
  have GD : Hid (GoodY m n) := hG
  have H01 : Hid (∀ k, k < hs.length → hs.getD k 0 = 0 ∨ hs.getD k 0 = 1) := h01
  obtain ⟨P, hP⟩ : ∃ P, P = SaysPost m hs w := ⟨_, rfl⟩
  have HPo : Hid (P = SaysPost m hs w) := hP
  rw [← hP]
  obtain ⟨l, hl⟩ : ∃ l, hs.length = l := ⟨_, rfl⟩
  have HL : Hid (hs.length = l) := hl
  obtain ⟨S, hS⟩ : ∃ S : Nat, m.S = (S : Int) := ⟨m.S.toNat, by have := hG.s0; omega⟩
  have HS0 : Hid (stY m hs 0 = S) := by show m.S.toNat = S; omega
  rw [hl] at h60 HH ⊢
  rw [hS] at HC ⊢
  generalize m.F = F at HC ⊢
  obtain ⟨W1, hW1, g1, s1, bx1⟩ := box4_new w (.bool F) (.int .i64 (S : Int)) (.slice a n c) (.slice b n d) 24
  have G1 : Hid (w.grownBy W1 none) := g1
  have BX : Hid (∀ W', W1.grownBy W' none → W'.cell? ⟨w.heap.size, 0, none⟩ = some (.bool F) ∧ W'.cell? ⟨w.heap.size, 1, none⟩ = some (.int .i64 (S : Int)) ∧ W'.cell? ⟨w.heap.size, 2, none⟩ = some (.slice a n c) ∧ W'.cell? ⟨w.heap.size, 3, none⟩ = some (.slice b n d)) := bx1
  obtain ⟨x0, x1, x2, x3⟩ := bx1 W1 (grown_refl _ _)
  have HW1 : Hid (W1 = w.alloc (.cells #[.bool F, .int .i64 (S : Int), .slice a n c, .slice b n d] 24)) := hW1
  rw [hW1] at x0 x1 x2 x3
  clear h hh hG h01 hP hl hS hW1 g1 s1 bx1
  go_enter Try.func5, Try.ntmps5
  go_wp2_with fail
  rw [← HW1.out]
  clear x0 x1 x2 x3
  refine (HC.out _ G1.out).mono ?_
  rintro E w2 ⟨rfl, hg2⟩
  have G2 : Hid (W1.grownBy w2 none) := hg2
  clear hg2 HC
  go_wp2_with fail
  refine (HH.out _ (grown_trans G1.out G2.out)).mono ?_
  rintro E w3 ⟨rfl, hg3⟩
  have G3 : Hid (W1.grownBy w3 none) := grown_trans G2.out hg3
  clear hg3 HH G2
  obtain ⟨x0, x1, x2, x3⟩ := BX.out w3 G3.out
  have hmk := fun W => make_none W l (by omega)
  have y1 := fun ob => (grown_alloc w3 ob).cell x1 (by simp)
  go_wp2_with fail
  go_region
  obtain ⟨W4, hW4⟩ : ∃ W4, W4 = (w3.alloc (.cells (Array.replicate l (Value.int .i64 0)) 3)).drew := ⟨_, rfl⟩
  have G4 : Hid (w3.grownBy W4 none) := by rw [hW4]; exact grown_drew (grown_alloc _ _)
  have O4 : Hid (Owns w3.heap.size W4 [(3, .slice (some ⟨w3.heap.size, 0, none⟩) 0 l, vals (outY m hs 0))]) := by
    have h1 : (w3.alloc (.cells (Array.replicate l (Value.int .i64 0)) 3)).ownsRow w3.heap.size 3 1 (.slice (some ⟨w3.heap.size, 0, none⟩) 0 l) 0 [] := World.ownsRow_made w3 _ l (Nat.le_refl _) (by unfold maxLen; omega) (by simp)
    have h2 : Owns w3.heap.size (w3.alloc (.cells (Array.replicate l (Value.int .i64 0)) 3)) [(3, .slice (some ⟨w3.heap.size, 0, none⟩) 0 l, vals (outY m hs 0))] := ⟨fun it hm => by simp at hm; subst hm; exact ⟨h1, _, _, rfl⟩, List.pairwise_singleton _ _⟩
    rw [hW4]
    exact h2.kept (grown_drew (grown_refl _ _))
  rw [← hW4]
  clear hW4 hmk y1 x0 x1 x2 x3
  go_wp2_with fail
  go_loopw [8, 9, 29] (fun u s v wr => ∃ (k : Nat) (q : Nat) (ao : Option Addr) (co : Nat), k ≤ l ∧ v = .int .i64 k ∧ s = .int .i64 (q : Int) ∧ stY m hs k = q ∧ u = .slice ao k co ∧ Owns w3.heap.size wr [(3, .slice ao k co, vals (outY m hs k))] ∧ w3.grownBy wr none) (fun _ _ v _ => l - (intOf v).toNat)
  case atStart => exact ⟨0, S, _, l, by omega, rfl, rfl, HS0.out, rfl, O4.out, G4.out⟩
  case round =>
    clear O4 G4
    rename World => wr
    obtain ⟨k, q, ao, co, hk, rfl, rfl, hq, rfl, ho, hg⟩ := hrel
    have O : Hid (Owns w3.heap.size wr [(3, .slice ao k co, vals (outY m hs k))]) := ho
    have G : Hid (w3.grownBy wr none) := hg
    have HQ : Hid (stY m hs k = q) := hq
    clear ho hg hq
    by_cases hlt : k < l
    · have hki : (k : Int) < (l : Int) := by omega
      have hkl : k < hs.length := by rw [HL.out]; exact hlt
      have hqn : q < n := by rw [← HQ.out]; exact stY_lt GD.out H01.out k (by omega)
      have hqi : (q : Int) < (n : Int) := by omega
      obtain ⟨x, hx⟩ : ∃ x : Nat, hs.getD k 0 = (x : Int) := ⟨(hs.getD k 0).toNat, by have := H01.out k hkl; omega⟩
      have hx2 : x < 2 := by have := H01.out k hkl; omega
      have hxi : (x : Int) < 2 := by omega
      have Gw : Hid (w.grownBy wr none) := grown_trans G1.out (grown_trans G3.out G.out)
      obtain ⟨x0, x1, x2, x3⟩ := BX.out wr (grown_trans G3.out G.out)
      obtain ⟨bh, oh, rfl, hch⟩ := (HI.out.grown Gw.out).at hkl
      have ch := hch k hkl
      rw [hx] at ch
      obtain ⟨ba, oa, rfl, hca⟩ := (H.out.grown Gw.out).says.at (k := q) (by rw [GD.out.la]; exact hqn)
      obtain ⟨bb, ob, rfl, _⟩ := (H.out.grown Gw.out).next.at (k := q) (by rw [GD.out.lb]; exact hqn)
      obtain ⟨u0, u1⟩ := hca q (by rw [GD.out.la]; exact hqn)
      have cu : wr.cell? ⟨ba, oa + q * 2 + x, none⟩ = some (.int .i64 (pr2 (m.A.getD q (0, 0)) x)) := by
        rcases (by omega : x = 0 ∨ x = 1) with rfl | rfl
        · exact u0
        · exact u1
      have CV : Hid (∀ W, w.grownBy W none → W.cell? ⟨bb, ob + q * 2 + x, none⟩ = some (.int .i64 (pr2 (m.N.getD q (0, 0)) x))) := fun W hW => by
        obtain ⟨b', o', e, hc⟩ := (H.out.grown hW).next.at (k := q) (by rw [GD.out.lb]; exact hqn)
        cases e
        obtain ⟨v0, v1⟩ := hc q (by rw [GD.out.lb]; exact hqn)
        rcases (by omega : x = 0 ∨ x = 1) with rfl | rfl
        · exact v0
        · exact v1
      have HX : Hid (sayY m hs k = pr2 (m.A.getD q (0, 0)) x ∧ stY m hs (k + 1) = (pr2 (m.N.getD q (0, 0)) x).toNat ∧ 0 ≤ pr2 (m.N.getD q (0, 0)) x) := by
        refine ⟨?_, ?_, ?_⟩
        · show pr2 (m.A.getD (stY m hs k) (0, 0)) (hs.getD k 0).toNat = _
          rw [HQ.out, hx]; rfl
        · show (pr2 (m.N.getD (stY m hs k) (0, 0)) (hs.getD k 0).toNat).toNat = _
          rw [HQ.out, hx]; rfl
        · exact (GD.out.ok q x hqn hx2).1
      obtain ⟨q', hq'⟩ : ∃ q' : Nat, pr2 (m.N.getD q (0, 0)) x = (q' : Int) := ⟨_, (Int.toNat_of_nonneg HX.out.2.2).symm⟩
      generalize hu : pr2 (m.A.getD q (0, 0)) x = u at *
      rw [hq'] at CV HX
      have hO : Hid ((wr.alloc (.cells #[.int .i64 u] 3)).ownsRow w3.heap.size 3 1 (.slice ao k co) k (vals (outY m hs k))) := by
        have := (O.out.kept (grown_alloc wr (.cells #[.int .i64 u] 3))).row
        rwa [vals_len, outY_len] at this
      have HSz : Hid (w3.heap.size ≤ wr.heap.size) := G.out.size
      clear u0 u1 hca hch hx hq' hu
      go_wp2_with (at_builtin; refine wpList_append_lies _ rfl _ _ 25 rfl w3.heap.size 3 i0 (.int .i64 0) 1 8 Try.underlying25 hio hz0 hz1 hz2 rfl (by decide) (.slice ao k co) k (vals (outY m hs k)) rfl hO.out ⟨wr.heap.size, 0, none⟩ 1 1 [.int .i64 u] rfl rfl (cell_one_new wr _ _) (by intro u hu; simp at hu; subst hu; rfl) (by omega) (by unfold maxLen; omega) (by omega) (by have := HSz.out; simp; omega) (wr.heap.size + 1) (by simp) ?_; intro g5 cap w5 ho5 hg5 hat5 _; have G5 : Hid (w3.grownBy w5 none) := (O.out.kept (grown_alloc wr (.cells #[.int .i64 u] 3))).frame (Nat.le_refl _) (grown_trans G.out (grown_alloc _ _)) hg5; obtain ⟨y0, y1, y2, y3⟩ := BX.out w5 (grown_trans G3.out G5.out); have cv := CV.out w5 (grown_trans G1.out (grown_trans G3.out G5.out)))
      have O5 : Hid (Owns w3.heap.size w5 [(3, .slice (some ⟨g5, 0, none⟩) (k + 1) cap, vals (outY m hs (k + 1)))]) := by
        have h2 := (O.out.kept (grown_alloc wr (.cells #[.int .i64 u] 3))).append (news := [.int .i64 u]) (n := k + 1) ho5 (by rw [vals_len, outY_len]; simp) hg5 hat5 (by simp)
        show Owns _ _ _
        rw [outY_succ, HX.out.1]
        simpa [vals] using h2
      clear ho5 hg5 hat5 hO
      go_roundw
      case rel => exact ⟨k + 1, q', _, cap, by omega, by go_num, rfl, by rw [HX.out.2.1]; simp, rfl, O5.out, G5.out⟩
      case measure => simp [intOf]; omega
    · have hki : ¬ (k : Int) < (l : Int) := by omega
      have hkl : k = l := by omega
      subst hkl
      have GF : Hid (w.grownBy wr none) := grown_trans G1.out (grown_trans G3.out G.out)
      have OF : Hid (Owns w.heap.size wr [(3, .slice ao k co, vals (outY m hs k))]) := O.out.base (grown_trans G1.out G3.out).size
      go_wp2_with fail
      rw [HPo.out]
      exact ⟨ao, co, by rw [HL.out], by rw [HL.out]; exact OF.out, GF.out⟩

end Go.Proofs.Ytlnlgjbpkjfbjaa
