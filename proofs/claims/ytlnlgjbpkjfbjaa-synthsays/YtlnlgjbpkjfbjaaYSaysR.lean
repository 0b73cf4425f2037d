/- What a machine says, by the reference. -/
import Derived.Test.YtlnlgjbpkjfbjaaYSays
import Derived.Test.YtlnlgjbpkjfbjaaYCheckR
import Derived.Test.YtlnlgjbpkjfbjaaJoin1
namespace Go.Proofs.Ytlnlgjbpkjfbjaa
open Go.RowKit
set_option linter.unusedVariables false

/-- An append, under a name that the walk does not open. -/
def AppY (ts : Array TypeId) (ty : TypeId) (args : Array Value) : Sem Value := Builtin.append_ ts ty args
theorem appY_fold (ts : Array TypeId) (ty : TypeId) (args : Array Value) : Builtin.append_ ts ty args = AppY ts ty args := rfl

set_option maxHeartbeats 1600000 in
/-- Either is refused. -/
theorem saysR_badM (m : Mch) (F : Bool) (S y : Int) (a b ah : Option Addr) (n c k d nh ch : Nat) (w : World) (hy : y ≠ 0)
    (HC : Hid (∀ W, w.grownBy W none → Calls Try.prog 17 #[mchV F S a n c b k d] W (Says (.int .i64 y) W))) :
    Calls Try.prog 6 #[mchV F S a n c b k d, .slice ah nh ch] w (Says (.tuple #[.slice none 0 0, .int .i64 y]) w) := by
  have f1 : (y != 0) = true := by simpa using hy
  obtain ⟨W1, hW1, g1, s1, bx1⟩ := box4_new w (.bool F) (.int .i64 S) (.slice a n c) (.slice b k d) 24
  obtain ⟨x0, x1, x2, x3⟩ := bx1 W1 (grown_refl _ _)
  have G1 : Hid (w.grownBy W1 none) := g1
  have HW1 : Hid (W1 = _) := hW1
  rw [hW1] at x0 x1 x2 x3
  clear hW1 g1 s1 bx1
  go_enter Try.func6, Try.ntmps6
  go_wp2_with fail
  rw [← HW1.out]
  clear x0 x1 x2 x3
  refine (HC.out _ G1.out).mono ?_
  rintro E w2 ⟨rfl, hg2⟩
  have GF : Hid (w.grownBy w2 none) := grown_trans G1.out hg2
  clear hg2
  go_wp2_with fail
  go_ret2
  exact ⟨rfl, GF.out⟩

set_option maxHeartbeats 6400000 in
set_option maxRecDepth 100000 in
theorem saysR_badH (F : Bool) (S : Int) (a b ah : Option Addr) (n c k d ch : Nat) (hs : List Int) (w : World) (hh : Ints w ah hs) (hm : hs.length ≤ maxLen) (hb : heardY hs ≠ 0)
    (HC : Hid (∀ W, w.grownBy W none → Calls Try.prog 17 #[mchV F S a n c b k d] W (Says (.int .i64 0) W))) :
    Calls Try.prog 6 #[mchV F S a n c b k d, .slice ah hs.length ch] w (Says (.tuple #[.slice none 0 0, .int .i64 (heardY hs)]) w) := by
  have HI : Hid (Ints w ah hs) := hh
  unfold maxLen at hm
  obtain ⟨z, hz⟩ : ∃ z, heardY hs = z := ⟨_, rfl⟩
  have HZ : Hid (heardY hs = z) := hz
  have HB : Hid (heardY hs ≠ 0) := hb
  rw [hz]
  obtain ⟨l, hl⟩ : ∃ l, hs.length = l := ⟨_, rfl⟩
  have HL : Hid (hs.length = l) := hl
  rw [hl] at hm ⊢
  obtain ⟨W1, hW1, g1, s1, bx1⟩ := box4_new w (.bool F) (.int .i64 S) (.slice a n c) (.slice b k d) 24
  obtain ⟨x0, x1, x2, x3⟩ := bx1 W1 (grown_refl _ _)
  have G1 : Hid (w.grownBy W1 none) := g1
  have HW1 : Hid (W1 = _) := hW1
  rw [hW1] at x0 x1 x2 x3
  clear hW1 g1 s1 bx1 hh hz hb hl
  by_cases hb : 60 < l
  · have b1 : decide ((60 : Int) < (l : Int)) = true := by simp; omega
    have HE : Hid (heardY hs = 1) := by show _ = _; unfold heardY; rw [HL.out, if_pos hb]
    go_enter Try.func6, Try.ntmps6
    go_wp2_with fail
    rw [← HW1.out]
    clear x0 x1 x2 x3
    refine (HC.out _ G1.out).mono ?_
    rintro E w2 ⟨rfl, hg2⟩
    have GF : Hid (w.grownBy w2 none) := grown_trans G1.out hg2
    clear hg2
    go_wp2_with fail
    go_ret2
    exact ⟨by rw [← HZ.out, HE.out]; rfl, GF.out⟩
  have b1 : decide ((60 : Int) < (l : Int)) = false := by simp; omega
  go_enter Try.func6, Try.ntmps6
  go_wp2_with fail
  rw [← HW1.out]
  clear x0 x1 x2 x3
  refine (HC.out _ G1.out).mono ?_
  rintro E w2 ⟨rfl, hg2⟩
  have G2 : Hid (W1.grownBy w2 none) := hg2
  clear hg2
  go_wp2_with fail
  go_loop [7] (fun i => ∃ k : Nat, k ≤ l ∧ i = .int .i64 k ∧ ∀ j, j < k → hs.getD j 0 = 0 ∨ hs.getD j 0 = 1) (fun i => l - (intOf i).toNat)
  case atStart => exact ⟨0, Nat.zero_le _, rfl, fun j hj => by omega⟩
  case round =>
    obtain ⟨k, hk, rfl, hg⟩ := hrel
    have HJ : Hid (∀ j, j < k → hs.getD j 0 = 0 ∨ hs.getD j 0 = 1) := hg
    clear hg
    by_cases hlt : k < l
    · have hki : (k : Int) < (l : Int) := by omega
      have hkl : k < hs.length := by rw [HL.out]; exact hlt
      obtain ⟨bh, oh, rfl, hch⟩ := (HI.out.grown (grown_trans G1.out G2.out)).at hkl
      have ch := hch k hkl
      obtain ⟨x, hx⟩ : ∃ x, hs.getD k 0 = x := ⟨_, rfl⟩
      have HX : Hid (hs.getD k 0 = x) := hx
      rw [hx] at ch
      clear hch hx
      by_cases e0 : x = 0
      · have e0' : (x != 0) = false := by simpa using e0
        go_wp2_with fail
        go_round
        case rel =>
          refine ⟨k + 1, by omega, by go_num, fun j hj => ?_⟩
          by_cases hjk : j = k
          · subst hjk; rw [HX.out]; exact .inl e0
          · exact HJ.out j (by omega)
        case measure => simp [intOf]; omega
      have e0' : (x != 0) = true := by simpa using e0
      by_cases e1 : x = 1
      · have e1' : (x != 1) = false := by simpa using e1
        go_wp2_with fail
        go_round
        case rel =>
          refine ⟨k + 1, by omega, by go_num, fun j hj => ?_⟩
          by_cases hjk : j = k
          · subst hjk; rw [HX.out]; exact .inr e1
          · exact HJ.out j (by omega)
        case measure => simp [intOf]; omega
      have e1' : (x != 1) = true := by simpa using e1
      have HE : Hid (heardY hs = 2) := by
        show _ = _
        unfold heardY
        rw [if_neg (by rw [HL.out]; exact hb), if_neg]
        intro hh
        have := hh k hkl
        rw [HX.out] at this
        omega
      go_wp2_with fail
      go_ret2
      exact ⟨by rw [← HZ.out, HE.out]; rfl, grown_trans G1.out G2.out⟩
    · exact absurd (by unfold heardY; rw [if_neg (by rw [HL.out]; exact hb), if_pos (fun j hj => HJ.out j (by have := HL.out; omega))]) HB.out

attribute [local go_sem ↓] appY_fold in
set_option maxHeartbeats 6400000 in
set_option maxRecDepth 100000 in
theorem saysR_good (m : Mch) (n : Nat) (hG : GoodY m n) (a b ah : Option Addr) (c d ch : Nat) (hs : List Int) (w : World) (h : MchAt w m a b) (hh : Ints w ah hs) (h60 : hs.length ≤ 60) (h01 : ∀ k, k < hs.length → hs.getD k 0 = 0 ∨ hs.getD k 0 = 1)
    (HC : Hid (∀ W, w.grownBy W none → Calls Try.prog 17 #[mchV m.F m.S a n c b n d] W (Says (.int .i64 0) W))) :
    Calls Try.prog 6 #[mchV m.F m.S a n c b n d, .slice ah hs.length ch] w (SaysPost m hs w) := by
  obtain ⟨i0, hio, hz0, hz1, hz2⟩ := info_parts Try.info3i
  have H : Hid (MchAt w m a b) := h
  have HI : Hid (Ints w ah hs) := hh
  have GD : Hid (GoodY m n) := hG
  have H01 : Hid (∀ k, k < hs.length → hs.getD k 0 = 0 ∨ hs.getD k 0 = 1) := h01
  obtain ⟨P, hP⟩ : ∃ P, P = SaysPost m hs w := ⟨_, rfl⟩
  have HPo : Hid (P = SaysPost m hs w) := hP
  rw [← hP]
  obtain ⟨l, hl⟩ : ∃ l, hs.length = l := ⟨_, rfl⟩
  have HL : Hid (hs.length = l) := hl
  obtain ⟨S, hS⟩ : ∃ S : Nat, m.S = (S : Int) := ⟨m.S.toNat, by have := hG.s0; omega⟩
  have HS0 : Hid (stY m hs 0 = S) := by show m.S.toNat = S; omega
  rw [hl] at h60 ⊢
  rw [hS] at HC ⊢
  generalize m.F = F at HC ⊢
  obtain ⟨W1, hW1, g1, s1, bx1⟩ := box4_new w (.bool F) (.int .i64 (S : Int)) (.slice a n c) (.slice b n d) 24
  have G1 : Hid (w.grownBy W1 none) := g1
  have BX : Hid (∀ W', W1.grownBy W' none → W'.cell? ⟨w.heap.size, 0, none⟩ = some (.bool F) ∧ W'.cell? ⟨w.heap.size, 1, none⟩ = some (.int .i64 (S : Int)) ∧ W'.cell? ⟨w.heap.size, 2, none⟩ = some (.slice a n c) ∧ W'.cell? ⟨w.heap.size, 3, none⟩ = some (.slice b n d)) := bx1
  obtain ⟨x0, x1, x2, x3⟩ := bx1 W1 (grown_refl _ _)
  have HW1 : Hid (W1 = w.alloc (.cells #[.bool F, .int .i64 (S : Int), .slice a n c, .slice b n d] 24)) := hW1
  rw [hW1] at x0 x1 x2 x3
  clear h hh hG h01 hP hl hS hW1 g1 s1 bx1
  go_enter Try.func6, Try.ntmps6
  go_wp2_with fail
  rw [← HW1.out]
  clear x0 x1 x2 x3
  refine (HC.out _ G1.out).mono ?_
  rintro E w2 ⟨rfl, hg2⟩
  have G2 : Hid (W1.grownBy w2 none) := hg2
  clear hg2 HC
  have b1 : decide ((60 : Int) < (l : Int)) = false := by simp; omega
  go_wp2_with fail
  go_loop [7] (fun i => ∃ k : Nat, k ≤ l ∧ i = .int .i64 k ∧ ∀ j, j < k → hs.getD j 0 = 0 ∨ hs.getD j 0 = 1) (fun i => l - (intOf i).toNat)
  case atStart => exact ⟨0, Nat.zero_le _, rfl, fun j hj => by omega⟩
  case round =>
    obtain ⟨k, hk, rfl, hg⟩ := hrel
    have HJ : Hid (∀ j, j < k → hs.getD j 0 = 0 ∨ hs.getD j 0 = 1) := hg
    clear hg
    by_cases hlt : k < l
    · have hki : (k : Int) < (l : Int) := by omega
      have hkl : k < hs.length := by rw [HL.out]; exact hlt
      obtain ⟨bh, oh, rfl, hch⟩ := (HI.out.grown (grown_trans G1.out G2.out)).at hkl
      have ch := hch k hkl
      obtain ⟨x, hx⟩ : ∃ x, hs.getD k 0 = x := ⟨_, rfl⟩
      have HX : Hid (hs.getD k 0 = x) := hx
      rw [hx] at ch
      clear hch hx
      rcases H01.out k hkl with e | e
      · have ex : x = 0 := by rw [← HX.out]; exact e
        subst ex
        go_wp2_with fail
        go_round
        case rel => exact ⟨k + 1, by omega, by go_num, fun j hj => H01.out j (by have := HL.out; omega)⟩
        case measure => simp [intOf]; omega
      · have ex : x = 1 := by rw [← HX.out]; exact e
        subst ex
        go_wp2_with fail
        go_round
        case rel => exact ⟨k + 1, by omega, by go_num, fun j hj => H01.out j (by have := HL.out; omega)⟩
        case measure => simp [intOf]; omega
    · have hki : ¬ (k : Int) < (l : Int) := by omega
      clear HJ
      obtain ⟨w3, hw3⟩ : ∃ w3, w2 = w3 := ⟨_, rfl⟩
      subst hw3
      have G3 : Hid (W1.grownBy w2 none) := G2.out
      obtain ⟨x0, x1, x2, x3⟩ := BX.out w2 G3.out
      have O4 : Hid (Owns w2.heap.size w2 [(3, .slice none 0 0, vals (outY m hs 0))]) := (Owns.no w2.heap.size w2).empty 3
      have G4 : Hid (w2.grownBy w2 none) := grown_refl _ _
      go_wp2_with fail
      clear x0 x1 x2 x3 G2
      go_loopw [8, 9, 10] (fun u s v wr => ∃ (k : Nat) (q : Nat) (ao : Option Addr) (co : Nat), k ≤ l ∧ v = .int .i64 k ∧ s = .int .i64 (q : Int) ∧ stY m hs k = q ∧ u = .slice ao k co ∧ Owns w2.heap.size wr [(3, .slice ao k co, vals (outY m hs k))] ∧ w2.grownBy wr none) (fun _ _ v _ => l - (intOf v).toNat)
      case atStart => exact ⟨0, S, _, 0, by omega, rfl, rfl, HS0.out, rfl, O4.out, G4.out⟩
      case round =>
        clear O4 G4
        rename World => wr
        clear hki hk hlt
        obtain ⟨k, q, ao, co, hk, rfl, rfl, hq, rfl, ho, hg⟩ := hrel
        have O : Hid (Owns w2.heap.size wr [(3, .slice ao k co, vals (outY m hs k))]) := ho
        have G : Hid (w2.grownBy wr none) := hg
        have HQ : Hid (stY m hs k = q) := hq
        clear ho hg hq
        by_cases hlt : k < l
        · have hki : (k : Int) < (l : Int) := by omega
          have hkl : k < hs.length := by rw [HL.out]; exact hlt
          have hqn : q < n := by rw [← HQ.out]; exact stY_lt GD.out H01.out k (by omega)
          have hqi : (q : Int) < (n : Int) := by omega
          obtain ⟨x, hx⟩ : ∃ x : Nat, hs.getD k 0 = (x : Int) := ⟨(hs.getD k 0).toNat, by have := H01.out k hkl; omega⟩
          have hx2 : x < 2 := by have := H01.out k hkl; omega
          have hxi : (x : Int) < 2 := by omega
          have Gw : Hid (w.grownBy wr none) := grown_trans G1.out (grown_trans G3.out G.out)
          obtain ⟨x0, x1, x2, x3⟩ := BX.out wr (grown_trans G3.out G.out)
          obtain ⟨bh, oh, rfl, hch⟩ := (HI.out.grown Gw.out).at hkl
          have ch := hch k hkl
          rw [hx] at ch
          obtain ⟨ba, oa, rfl, hca⟩ := (H.out.grown Gw.out).says.at (k := q) (by rw [GD.out.la]; exact hqn)
          obtain ⟨bb, ob, rfl, _⟩ := (H.out.grown Gw.out).next.at (k := q) (by rw [GD.out.lb]; exact hqn)
          obtain ⟨u0, u1⟩ := hca q (by rw [GD.out.la]; exact hqn)
          have cu : wr.cell? ⟨ba, oa + q * 2 + x, none⟩ = some (.int .i64 (pr2 (m.A.getD q (0, 0)) x)) := by
            rcases (by omega : x = 0 ∨ x = 1) with rfl | rfl
            · exact u0
            · exact u1
          have CV : Hid (∀ W, w.grownBy W none → W.cell? ⟨bb, ob + q * 2 + x, none⟩ = some (.int .i64 (pr2 (m.N.getD q (0, 0)) x))) := fun W hW => by
            obtain ⟨b', o', e, hc⟩ := (H.out.grown hW).next.at (k := q) (by rw [GD.out.lb]; exact hqn)
            cases e
            obtain ⟨v0, v1⟩ := hc q (by rw [GD.out.lb]; exact hqn)
            rcases (by omega : x = 0 ∨ x = 1) with rfl | rfl
            · exact v0
            · exact v1
          have HX : Hid (sayY m hs k = pr2 (m.A.getD q (0, 0)) x ∧ stY m hs (k + 1) = (pr2 (m.N.getD q (0, 0)) x).toNat ∧ 0 ≤ pr2 (m.N.getD q (0, 0)) x) := by
            refine ⟨?_, ?_, ?_⟩
            · show pr2 (m.A.getD (stY m hs k) (0, 0)) (hs.getD k 0).toNat = _
              rw [HQ.out, hx]; rfl
            · show (pr2 (m.N.getD (stY m hs k) (0, 0)) (hs.getD k 0).toNat).toNat = _
              rw [HQ.out, hx]; rfl
            · exact (GD.out.ok q x hqn hx2).1
          obtain ⟨q', hq'⟩ : ∃ q' : Nat, pr2 (m.N.getD q (0, 0)) x = (q' : Int) := ⟨_, (Int.toNat_of_nonneg HX.out.2.2).symm⟩
          generalize hu : pr2 (m.A.getD q (0, 0)) x = u at *
          rw [hq'] at CV HX
          have HSz : Hid (w2.heap.size ≤ wr.heap.size) := G.out.size
          obtain ⟨W4, hW4⟩ : ∃ W4, (wr.alloc (.cells #[.int .i64 u] 3)).drew = W4 := ⟨_, rfl⟩
          have G4w : wr.grownBy W4 none := hW4 ▸ grown_drew (grown_alloc _ _)
          have hs4 : W4.heap.size = wr.heap.size + 1 := by rw [← hW4]; simp
          have hN4 : Hid (∀ j u', [Value.int .i64 u][j]? = some u' → W4.cell? ((⟨wr.heap.size, 0, none⟩ : Addr).add j) = some u') := fun j u' hu => by
            rw [← hW4]; exact cell_one_new wr _ _ j u' hu
          have hO4 : Hid (W4.ownsRow w2.heap.size 3 1 (.slice ao k co) k (vals (outY m hs k))) := by
            have := (O.out.kept G4w).row
            rwa [vals_len, outY_len] at this
          have cu' := fun ob => (grown_alloc wr ob).cell cu (by simp)
          have ch' := fun ob => (grown_alloc wr ob).cell ch (by simp)
          have x2' := fun ob => (grown_alloc wr ob).cell x2 (by simp)
          obtain ⟨g5, cap, w5, hrun, ho5, hg5, hat5, _⟩ := run_append_lies (P := Try.prog) W4 25 25 w2.heap.size 3 i0 (.int .i64 0) 1 8 Try.underlying25 hio hz0 hz1 hz2 rfl (by decide) (.slice ao k co) k (vals (outY m hs k)) hO4.out ⟨wr.heap.size, 0, none⟩ 1 1 [.int .i64 u] rfl hN4.out (by intro u hu; simp at hu; subst hu; rfl) (by omega) (by unfold maxLen; omega) (by omega) (by rw [hs4]; have := HSz.out; omega) (wr.heap.size + 1) hs4
          have G5 : Hid (w2.grownBy w5 none) := (O.out.kept G4w).frame (Nat.le_refl _) (grown_trans G.out G4w) hg5
          obtain ⟨y0, y1, y2, y3⟩ := BX.out w5 (grown_trans G3.out G5.out)
          have cv := CV.out w5 (grown_trans G1.out (grown_trans G3.out G5.out))
          obtain ⟨b', o', e', hc'⟩ := (HI.out.grown (grown_trans G1.out (grown_trans G3.out G5.out))).at hkl
          cases e'
          have ch5 := hc' k hkl
          rw [hx] at ch5
          have O5 : Hid (Owns w2.heap.size w5 [(3, .slice (some ⟨g5, 0, none⟩) (k + 1) cap, vals (outY m hs (k + 1)))]) := by
            have h2 := (O.out.kept G4w).append (news := [.int .i64 u]) (n := k + 1) ho5 (by rw [vals_len, outY_len]; simp) hg5 hat5 hs4
            show Owns _ _ _
            rw [outY_succ, HX.out.1]
            simpa [vals] using h2
          rw [← hW4, appY_fold] at hrun
          clear u0 u1 hca hch hx hq' hu hW4 G4w hs4 hN4 hO4 ho5 hg5 hat5 hc'
          go_wp2_with fail
          go_region
          all_goals
            go_wp2_with fail
            go_quiet (fail)
            go_wp2_with fail
            go_roundw
            case rel => exact ⟨k + 1, q', _, cap, by omega, by go_num, rfl, by rw [HX.out.2.1]; simp, rfl, O5.out.kept (grown_drewN (grown_refl _ _) _), grown_drewN G5.out _⟩
            case measure => simp [intOf]; omega
        · have hki : ¬ (k : Int) < (l : Int) := by omega
          have hkl : k = l := by omega
          subst hkl
          have GF : Hid (w.grownBy wr none) := grown_trans G1.out (grown_trans G3.out G.out)
          have OF : Hid (Owns w.heap.size wr [(3, .slice ao k co, vals (outY m hs k))]) := O.out.base (grown_trans G1.out G3.out).size
          go_wp2_with fail
          rw [HPo.out]
          exact ⟨ao, co, by rw [HL.out], by rw [HL.out]; exact OF.out, GF.out⟩

end Go.Proofs.Ytlnlgjbpkjfbjaa
