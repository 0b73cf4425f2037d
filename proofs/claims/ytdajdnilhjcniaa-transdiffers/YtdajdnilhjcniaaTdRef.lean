/- The first word to which two say unlike things: the reference's Differ. -/
import Derived.Test.YtdajdnilhjcniaaTdRefD
import Derived.Test.YtdajdnilhjcniaaTdUn
import Derived.Test.YtdajdnilhjcniaaRWord1
namespace Go.Proofs.Ytdajdnilhjcniaa
open Go.RowKit
set_option linter.unusedVariables false
set_option linter.unusedSimpArgs false

def SRf (b g i : Nat) (I O S : Int) (a3 : Option Addr) (n3 c3 : Nat) (a4 : Option Addr) (n4 c4 : Nat) (a5 : Option Addr) (n5 c5 : Nat) (a6 : Option Addr) (n6 c6 : Nat) (v : Value) (W : World) : Prop := Box7 W b I O S a3 n3 c3 a4 n4 c4 a5 n5 c5 a6 n6 c6 ∧ W.cell? ⟨g, i, none⟩ = some v
theorem SRf.kept {b g i : Nat} {I O S : Int} {a3 : Option Addr} {n3 c3 : Nat} {a4 : Option Addr} {n4 c4 : Nat} {a5 : Option Addr} {n5 c5 : Nat} {a6 : Option Addr} {n6 c6 : Nat} {v : Value} {W W' : World} (h : SRf b g i I O S a3 n3 c3 a4 n4 c4 a5 n5 c5 a6 n6 c6 v W) (k : W.grownBy W' none) : SRf b g i I O S a3 n3 c3 a4 n4 c4 a5 n5 c5 a6 n6 c6 v W' := ⟨h.1.grown k, k.cell h.2 (by simp)⟩
theorem wrap_small {z : Nat} (h : z < 4611686018427387904) : IntKind.i64.wrap (z : Int) = (z : Int) := by rw [IntKind.wrap_i64]; omega
theorem saysT_lenR {x : TrI} {I : Nat} (h : ReadT x I) (us : List Nat) (hu : ∀ l, l ∈ us → l < I) (hl : us.length ≤ 60) : (saysT x us).length ≤ 1000 := by
  have hS := h.st
  unfold StT at hS
  have h1 := h.len us hu (q := x.S.toNat) (by omega)
  have h2 := h.e8 _ (h.go us hu (q := x.S.toNat) (by omega))
  have h3 := h.f8
  unfold saysT
  rw [List.length_append, List.length_append]
  omega

attribute [local go_sem ↓] appY_fold in
set_option maxHeartbeats 12800000 in
set_option maxRecDepth 100000 in
theorem differR_any (x y : TrI) (I : Nat) (a3 a4 a5 a6 : Option Addr) (ac3 ac4 ac5 ac6 : Nat) (b3 b4 b5 b6 : Option Addr) (bc3 bc4 bc5 bc6 : Nat) (w : World) (hx : TnAt w x a3 a4 a5 a6) (hy : TnAt w y b3 b4 b5 b6) (rx : ReadT x I) (ry : ReadT y I) (hxI : x.I = (I : Int)) (hI : I ≤ 4) (h6x : x.N.length ≤ 6) (h6y : y.N.length ≤ 6) :
    Calls Try.prog 6 #[tnV x.I x.O x.S a3 x.F.length ac3 a4 x.N.length ac4 a5 x.Y.length ac5 a6 x.E.length ac6, tnV y.I y.O y.S b3 y.F.length bc3 b4 y.N.length bc4 b5 y.Y.length bc5 b6 y.E.length bc6] w (UnP x y I w) := by
  obtain ⟨W1, hW1, g1, s1, bx, by'⟩ := two_boxes7 w x y a3 a4 a5 a6 ac3 ac4 ac5 ac6 b3 b4 b5 b6 bc3 bc4 bc5 bc6
  have HTX : Hid (TnAt w x a3 a4 a5 a6) := hx
  have HTY : Hid (TnAt w y b3 b4 b5 b6) := hy
  have RX : Hid (ReadT x I) := rx
  have RY : Hid (ReadT y I) := ry
  have HXI : Hid (x.I = (I : Int)) := hxI
  have BX : Hid (∀ W, W1.grownBy W none → Box7 W w.heap.size x.I x.O x.S a3 x.F.length ac3 a4 x.N.length ac4 a5 x.Y.length ac5 a6 x.E.length ac6) := fun W hW => bx.grown hW
  have BY : Hid (∀ W, W1.grownBy W none → Box7 W (w.heap.size + 1) y.I y.O y.S b3 y.F.length bc3 b4 y.N.length bc4 b5 y.Y.length bc5 b6 y.E.length bc6) := fun W hW => by'.grown hW
  have G1 : Hid (w.grownBy W1 none) := g1
  have HW1 : Hid (W1 = _) := hW1
  obtain ⟨Po, hPo⟩ : ∃ P, P = UnP x y I w := ⟨_, rfl⟩
  have HP1 : Hid (∀ v a c W, FoundT x y I v → Ints W a (nsT v) → v.length ≤ 60 → (∀ l, l ∈ v → l < I) → W1.grownBy W none → Po (.returned (.tuple #[.slice a (List.length v) c, .bool true])) W) := fun v a c W h1 h2 h3 h4 h5 => by rw [hPo]; exact .inl ⟨v, a, c, rfl, h1, h2, h3, h4, grown_trans G1.out h5⟩
  have HP2 : Hid (∀ W, NoneT x y I → W1.grownBy W none → Po (.returned (.tuple #[.slice none 0 0, .bool false])) W) := fun W h1 h2 => by rw [hPo]; exact .inr ⟨rfl, h1, grown_trans G1.out h2⟩
  have hN36 : x.N.length * y.N.length ≤ 6 * 6 := Nat.mul_le_mul h6x h6y
  obtain ⟨NN, hNN⟩ : ∃ N, x.N.length * y.N.length = N := ⟨_, rfl⟩
  have HNN : Hid (x.N.length * y.N.length = NN) := hNN
  have hNNi : (x.N.length : Int) * (y.N.length : Int) = (NN : Int) := by rw [← hNN]; simp
  have wrN : IntKind.i64.wrap ((x.N.length : Int) * (y.N.length : Int)) = (NN : Int) := by rw [hNNi]; exact wrap_small (by omega)
  obtain ⟨W2, hmk, hb2, g2, s2⟩ := bools_make W1 NN (by omega)
  obtain ⟨W3, hW3⟩ : ∃ W, W = W2.alloc (.cells #[] 3) := ⟨_, rfl⟩
  have g3 : W2.grownBy W3 none := by rw [hW3]; exact grown_alloc _ _
  have s3 : W3.heap.size = W2.heap.size + 1 := by rw [hW3]; simp
  have ho := ownL_one (w := W3) (grown_trans g2 g3) (some ⟨W2.heap.size, 0, none⟩) 0
  have HS0 : RfSt x y I W1 W1.heap.size 0 (.slice (some ⟨W3.heap.size, 0, none⟩) 1 1) (W3.alloc (.cells #[.slice (some ⟨W2.heap.size, 0, none⟩) 0 0] 22)) := by
    refine ⟨W3.heap.size, 1, [(some ⟨W2.heap.size, 0, none⟩, 0, [])], [[]], [], rfl, .start, rfl, ho, ?_⟩
    rw [hNN]
    exact ((hb2.kept g3).kept (grown_alloc _ _)).congr fun j _ => by simp
  rw [s3, s2, s1] at HS0
  rw [s1] at hmk
  have x4 := bx.b4
  have y4 := by'.b4
  obtain ⟨WL, hWL⟩ : ∃ W, W = W3.alloc (.cells #[.slice (some ⟨w.heap.size + 1 + 1 + 1, 0, none⟩) 0 0] 22) := ⟨_, rfl⟩
  rw [← hWL] at HS0
  have HWL : Hid (WL = (W2.alloc (.cells #[] 3)).alloc (.cells #[.slice (some ⟨w.heap.size + 1 + 1 + 1, 0, none⟩) 0 0] 22)) := by show _ = _; rw [hWL, hW3]
  obtain ⟨gs, hgs⟩ : ∃ gs, w.heap.size + 1 + 1 = gs := ⟨_, rfl⟩
  have HS : Hid (RfSt x y I W1 gs 0 (.slice (some ⟨gs + 1 + 1, 0, none⟩) 1 1) WL) := by rw [← hgs]; exact HS0
  have HGS : Hid (W1.heap.size ≤ gs) := (show W1.heap.size ≤ gs by omega)
  have HGe : Hid (w.heap.size + 1 + 1 = gs ∧ W2.heap.size = w.heap.size + 1 + 1 + 1) := ⟨hgs, by omega⟩
  have s2' : W2.heap.size = w.heap.size + 1 + 1 + 1 := by omega
  rw [hW1] at x4 y4 hmk
  rw [← hPo]
  clear hW1 g1 s1 bx by' hx hy rx ry hPo hxI hNN hb2 g2 s2 hW3 g3 s3 ho HS0 hWL hNNi hgs
  go_enter Try.func6, Try.ntmps6
  go_wp2_with fail
  clear hmk x4 y4
  rw [← HWL.out]
  rw [HGe.out.1]
  go_loopw [9, 8] (fun v v8 W => ∃ i : Nat, v = .int .i64 (i : Int) ∧ i ≤ 150 ∧ RfSt x y I W1 gs i v8 W) (fun v _ _ => 200 - (intOf v).toNat)
  case atStart => exact ⟨0, rfl, by omega, HS.out⟩
  case round =>
    clear HS
    obtain ⟨wo, hwo⟩ : ∃ W, W = wr := ⟨_, rfl⟩
    subst hwo
    obtain ⟨i, rfl, hi150, g, c, ps, ws, S, rfl, hq, hws, hol, hbr⟩ := hrel
    have HQ : Hid (Qst x y I i ws S) := hq
    have HWS : Hid (wordsT ps = ws.map nsT) := hws
    have HOL : Hid (OwnL W1 wo g c ps) := hol
    have HBR : Hid (BRow wo gs (x.N.length * y.N.length) (fun j => decide (j ∈ S))) := hbr
    have hS36 := hq.room RX.out RY.out h6x h6y
    have hpl : ps.length = ws.length := by have := congrArg List.length hws; rwa [wordsT_len, List.length_map] at this
    have hwl : ws.length = 1 + I * S.length := hq.inv.len
    have hIS : I * S.length ≤ 4 * 36 := Nat.mul_le_mul hI hS36
    have hml : ps.length ≤ 145 := by omega
    have hwl2 : ws.length ≤ 145 := by omega
    have HPL : Hid (ps.length = ws.length) := hpl
    clear hq hws hol hbr hwl hIS hpl
    by_cases hlt : i < ps.length
    · have il : (i : Int) < (ps.length : Int) := by omega
      obtain ⟨ht1, hlw⟩ := trip_at HWS.out hlt
      have hlet := HQ.out.inv.lets _ (getD_memL hlw)
      have HLET : Hid ((∀ l, l ∈ ws.getD i [] → l < I) ∧ (ws.getD i []).length ≤ S.length) := hlet
      have hst := prT_lt RX.out RY.out hlet.1
      have ct := HOL.out.at hlt
      have hmem : ps.getD i (none, 0, []) ∈ ps := by rw [List.getD, List.getElem?_eq_getElem hlt, Option.getD_some]; exact List.getElem_mem hlt
      obtain ⟨t, ht⟩ : ∃ t, ps.getD i (none, 0, []) = t := ⟨_, rfl⟩
      rw [ht] at ct ht1 hmem
      obtain ⟨nt, hnt⟩ : ∃ n, t.2.2.length = n := ⟨_, rfl⟩
      have HTT : Hid (t.2.2 = nsT (ws.getD i []) ∧ t ∈ ps ∧ t.2.2.length = nt) := ⟨ht1, hmem, hnt⟩
      have hntl : nt = (ws.getD i []).length := by rw [← hnt, ht1, nsT_len]
      simp only [valT] at ct
      rw [hnt] at ct
      have SX : Hid (∀ W, wo.grownBy W none → SRf w.heap.size g i x.I x.O x.S a3 x.F.length ac3 a4 x.N.length ac4 a5 x.Y.length ac5 a6 x.E.length ac6 (.slice t.1 nt t.2.1) W) := fun W hW => ⟨BX.out W (grown_trans HOL.out.gr hW), hW.cell ct (by simp)⟩
      have SY : Hid (∀ W, wo.grownBy W none → SRf (w.heap.size + 1) g i y.I y.O y.S b3 y.F.length bc3 b4 y.N.length bc4 b5 y.Y.length bc5 b6 y.E.length bc6 (.slice t.1 nt t.2.1) W) := fun W hW => ⟨BY.out W (grown_trans HOL.out.gr hW), hW.cell ct (by simp)⟩
      have hi60 : (ws.getD i []).length ≤ 60 := by have := hlet.2; omega
      have hint : ∀ W, wo.grownBy W none → Ints W t.1 (nsT (ws.getD i [])) := fun W hW => by rw [← ht1]; exact (HOL.out.lie t hmem).1.grown hW
      obtain ⟨X, hX⟩ : ∃ X, saysT x (ws.getD i []) = X := ⟨_, rfl⟩
      obtain ⟨Y, hY⟩ : ∃ Y, saysT y (ws.getD i []) = Y := ⟨_, rfl⟩
      have HXY : Hid (X = Y ↔ AlikeT x y (ws.getD i [])) := by rw [← hX, ← hY]; exact Iff.rfl
      have CRX : Hid (∀ W, wo.grownBy W none → Calls Try.prog 9 #[tnV x.I x.O x.S a3 x.F.length ac3 a4 x.N.length ac4 a5 x.Y.length ac5 a6 x.E.length ac6, .slice t.1 nt t.2.1] W fun e w' => ∃ a c, e = .returned (.slice a X.length c) ∧ Ints w' a X ∧ W.grownBy w' none ∧ True) := fun W hW => by
        rw [hntl, ← hX]; exact (runR16_any x I a3 a4 a5 a6 ac3 ac4 ac5 ac6 W (HTX.out.grown (grown_trans (grown_trans G1.out HOL.out.gr) hW)) RX.out hI (by omega) _ hlet.1 hi60 t.1 t.2.1 (hint W hW)).mono fun e w' ⟨a, c, h1, h2, h3, _⟩ => ⟨a, c, h1, h2, h3, trivial⟩
      have CRY : Hid (∀ W, wo.grownBy W none → Calls Try.prog 9 #[tnV y.I y.O y.S b3 y.F.length bc3 b4 y.N.length bc4 b5 y.Y.length bc5 b6 y.E.length bc6, .slice t.1 nt t.2.1] W fun e w' => ∃ a c, e = .returned (.slice a Y.length c) ∧ Ints w' a Y ∧ W.grownBy w' none ∧ True) := fun W hW => by
        rw [hntl, ← hY]; exact (runR16_any y I b3 b4 b5 b6 bc3 bc4 bc5 bc6 W (HTY.out.grown (grown_trans (grown_trans G1.out HOL.out.gr) hW)) RY.out hI (by omega) _ hlet.1 hi60 t.1 t.2.1 (hint W hW)).mono fun e w' ⟨a, c, h1, h2, h3, _⟩ => ⟨a, c, h1, h2, h3, trivial⟩
      have CSX0 : ∀ W, wo.grownBy W none → Calls Try.prog 15 #[tnV x.I x.O x.S a3 x.F.length ac3 a4 x.N.length ac4 a5 x.Y.length ac5 a6 x.E.length ac6, .slice t.1 nt t.2.1] W (StP x (ws.getD i []) W) := fun W hW => by
        rw [hntl]; exact stateR_any x I a3 a4 a5 a6 ac3 ac4 ac5 ac6 W (HTX.out.grown (grown_trans (grown_trans G1.out HOL.out.gr) hW)) RX.out hI (by omega) _ hlet.1 hi60 t.1 t.2.1 (hint W hW)
      have CSY0 : ∀ W, wo.grownBy W none → Calls Try.prog 15 #[tnV y.I y.O y.S b3 y.F.length bc3 b4 y.N.length bc4 b5 y.Y.length bc5 b6 y.E.length bc6, .slice t.1 nt t.2.1] W (StP y (ws.getD i []) W) := fun W hW => by
        rw [hntl]; exact stateR_any y I b3 b4 b5 b6 bc3 bc4 bc5 bc6 W (HTY.out.grown (grown_trans (grown_trans G1.out HOL.out.gr) hW)) RY.out hI (by omega) _ hlet.1 hi60 t.1 t.2.1 (hint W hW)
      have hlX := saysT_lenR RX.out _ hlet.1 hi60
      have hlY := saysT_lenR RY.out _ hlet.1 hi60
      rw [hX] at hlX
      rw [hY] at hlY
      have CW : Hid (∀ W a c b d, Ints W a X → Ints W b Y → Calls Try.prog 7 #[.slice a X.length c, .slice b Y.length d] W (TellsB (SameW X Y) W)) := fun W a c b d h1 h2 => wordsR_any a b c d _ _ W h1 h2 (by unfold maxLen; omega) (by unfold maxLen; omega)
      obtain ⟨m1, hm1⟩ : ∃ m1, stT x (ws.getD i []) = m1 := ⟨_, rfl⟩
      obtain ⟨m2, hm2⟩ : ∃ m2, stT y (ws.getD i []) = m2 := ⟨_, rfl⟩
      have HMM : Hid (m1 * y.N.length + m2 = prT x y (ws.getD i [])) := by show _ = _; unfold prT; rw [hm1, hm2]
      have CSX : Hid (∀ W, wo.grownBy W none → Calls Try.prog 15 #[tnV x.I x.O x.S a3 x.F.length ac3 a4 x.N.length ac4 a5 x.Y.length ac5 a6 x.E.length ac6, .slice t.1 nt t.2.1] W fun e w' => e = .returned (.int .i64 (m1 : Int)) ∧ W.grownBy w' none) := fun W hW => by
        have h1 := CSX0 W hW
        unfold StP at h1
        rwa [hm1] at h1
      have CSY : Hid (∀ W, wo.grownBy W none → Calls Try.prog 15 #[tnV y.I y.O y.S b3 y.F.length bc3 b4 y.N.length bc4 b5 y.Y.length bc5 b6 y.E.length bc6, .slice t.1 nt t.2.1] W fun e w' => e = .returned (.int .i64 (m2 : Int)) ∧ W.grownBy w' none) := fun W hW => by
        have h1 := CSY0 W hW
        unfold StP at h1
        rwa [hm2] at h1
      have HWR : Hid (IntKind.i64.wrap ((m1 : Int) * (y.N.length : Int)) = (m1 : Int) * (y.N.length : Int)) := by
        have h1 : m1 * y.N.length ≤ 6 * 6 := Nat.mul_le_mul (by rw [← hm1]; omega) h6y
        have h2 := wrap_small (z := m1 * y.N.length) (by omega)
        rwa [Int.natCast_mul] at h2
      clear ct ht ht1 hmem hnt hntl hint CSX0 CSY0 hlX hlY hm1 hm2 hlet hX hY
      go_wp2_with fail
      refine wp_region_held_drew (S := SRf w.heap.size g i x.I x.O x.S a3 x.F.length ac3 a4 x.N.length ac4 a5 x.Y.length ac5 a6 x.E.length ac6 (.slice t.1 nt t.2.1)) (by kernel_rfl) (SX.out wo.drew (grown_drew (grown_refl _ _))) (fun hHeld => ?_)
      refine wpAnyH_take (i := 0) (v := ?_) rfl (by kernel_rfl) (by kernel_rfl) (by kernel_rfl) (fun _ _ _ h => h) (Or.inl ⟨by rfl, ?_⟩) (by assumption) ?_
      rotate_left
      · intro W hSw
        obtain ⟨tt, tw⟩ := hSw
        have q0 := tt.b0
        have q1 := tt.b1
        have q2 := tt.b2
        have q3 := tt.b3
        have q4 := tt.b4
        have q5 := tt.b5
        have q6 := tt.b6
        go_simp
        with_reducible rfl
      try simp only [Act.put, List.getElem_toArray, List.getElem_cons_succ, List.getElem_cons_zero, List.setIfInBounds_toArray, List.set_cons_zero, List.set_cons_succ]
      refine wpAnyH_take (i := 1) (v := ?_) rfl (by kernel_rfl) (by kernel_rfl) (by kernel_rfl) (fun _ _ _ h => h) (Or.inl ⟨by rfl, ?_⟩) (by assumption) ?_
      rotate_left
      · intro W hSw
        obtain ⟨tt, tw⟩ := hSw
        have q0 := tt.b0
        have q1 := tt.b1
        have q2 := tt.b2
        have q3 := tt.b3
        have q4 := tt.b4
        have q5 := tt.b5
        have q6 := tt.b6
        go_simp
        with_reducible rfl
      try simp only [Act.put, List.getElem_toArray, List.getElem_cons_succ, List.getElem_cons_zero, List.setIfInBounds_toArray, List.set_cons_zero, List.set_cons_succ]
      refine wpAnyH_take (i := 2) (v := ?_) rfl (by kernel_rfl) (by kernel_rfl) (by kernel_rfl) (fun _ _ _ h => h) (Or.inl ⟨by rfl, ?_⟩) (by assumption) ?_
      rotate_left
      · intro W hSw
        obtain ⟨tt, tw⟩ := hSw
        have q0 := tt.b0
        have q1 := tt.b1
        have q2 := tt.b2
        have q3 := tt.b3
        have q4 := tt.b4
        have q5 := tt.b5
        have q6 := tt.b6
        go_simp
        with_reducible rfl
      try simp only [Act.put, List.getElem_toArray, List.getElem_cons_succ, List.getElem_cons_zero, List.setIfInBounds_toArray, List.set_cons_zero, List.set_cons_succ]
      refine wpAnyH_take (i := 3) (v := ?_) rfl (by kernel_rfl) (by kernel_rfl) (by kernel_rfl) (fun _ _ _ h => h) (Or.inl ⟨by rfl, ?_⟩) (by assumption) ?_
      rotate_left
      · intro W hSw
        obtain ⟨tt, tw⟩ := hSw
        have q0 := tt.b0
        have q1 := tt.b1
        have q2 := tt.b2
        have q3 := tt.b3
        have q4 := tt.b4
        have q5 := tt.b5
        have q6 := tt.b6
        go_simp
        with_reducible rfl
      try simp only [Act.put, List.getElem_toArray, List.getElem_cons_succ, List.getElem_cons_zero, List.setIfInBounds_toArray, List.set_cons_zero, List.set_cons_succ]
      refine wpAnyH_take (i := 4) (v := ?_) rfl (by kernel_rfl) (by kernel_rfl) (by kernel_rfl) (fun _ _ _ h => h) (Or.inl ⟨by rfl, ?_⟩) (by assumption) ?_
      rotate_left
      · intro W hSw
        obtain ⟨tt, tw⟩ := hSw
        have q0 := tt.b0
        have q1 := tt.b1
        have q2 := tt.b2
        have q3 := tt.b3
        have q4 := tt.b4
        have q5 := tt.b5
        have q6 := tt.b6
        go_simp
        with_reducible rfl
      try simp only [Act.put, List.getElem_toArray, List.getElem_cons_succ, List.getElem_cons_zero, List.setIfInBounds_toArray, List.set_cons_zero, List.set_cons_succ]
      refine wpAnyH_ready (rs := [5]) (by kernel_rfl) (by simp) ?_
      refine AllReadyH.cons (o := _) rfl (fun K' hK => ?_) ?_
      · go_simp
        refine (CRX.out _ (grown_drew (grown_refl _ _))).mono ?_
        rintro E w1 ⟨aA, kA, rfl, hiA, hgN, _⟩
        have Gw1 : Hid (wo.grownBy w1 none) := grown_trans (grown_drew (grown_refl _ _)) hgN
        have HIA : Hid (Ints w1 aA X) := hiA
        clear hiA
        go_wp2_with fail
        refine hK.out _ _ (hHeld.kept hgN) (fun hHeld => ?_)
        clear hK K'
        try simp only [Act.put, List.getElem_toArray, List.getElem_cons_succ, List.getElem_cons_zero, List.setIfInBounds_toArray, List.set_cons_zero, List.set_cons_succ]
        refine wpAnyH_take (i := 6) (v := ?_) rfl (by kernel_rfl) (by kernel_rfl) (by kernel_rfl) (fun _ _ _ h => h) (Or.inl ⟨by rfl, ?_⟩) (by assumption) ?_
        rotate_left
        · intro W hSw
          obtain ⟨tt, tw⟩ := hSw
          have q0 := tt.b0
          have q1 := tt.b1
          have q2 := tt.b2
          have q3 := tt.b3
          have q4 := tt.b4
          have q5 := tt.b5
          have q6 := tt.b6
          go_simp
          with_reducible rfl
        try simp only [Act.put, List.getElem_toArray, List.getElem_cons_succ, List.getElem_cons_zero, List.setIfInBounds_toArray, List.set_cons_zero, List.set_cons_succ]
        refine wpAnyH_done (by kernel_rfl) ?_ _
        go_wp2_with fail
        refine wp_region_held_drew (S := SRf (w.heap.size + 1) g i y.I y.O y.S b3 y.F.length bc3 b4 y.N.length bc4 b5 y.Y.length bc5 b6 y.E.length bc6 (.slice t.1 nt t.2.1)) (by kernel_rfl) (SY.out w1.drew (grown_trans Gw1.out (grown_drew (grown_refl _ _)))) (fun hHeld => ?_)
        refine wpAnyH_take (i := 0) (v := ?_) rfl (by kernel_rfl) (by kernel_rfl) (by kernel_rfl) (fun _ _ _ h => h) (Or.inl ⟨by rfl, ?_⟩) (by assumption) ?_
        rotate_left
        · intro W hSw
          obtain ⟨tt, tw⟩ := hSw
          have q0 := tt.b0
          have q1 := tt.b1
          have q2 := tt.b2
          have q3 := tt.b3
          have q4 := tt.b4
          have q5 := tt.b5
          have q6 := tt.b6
          go_simp
          with_reducible rfl
        try simp only [Act.put, List.getElem_toArray, List.getElem_cons_succ, List.getElem_cons_zero, List.setIfInBounds_toArray, List.set_cons_zero, List.set_cons_succ]
        refine wpAnyH_take (i := 1) (v := ?_) rfl (by kernel_rfl) (by kernel_rfl) (by kernel_rfl) (fun _ _ _ h => h) (Or.inl ⟨by rfl, ?_⟩) (by assumption) ?_
        rotate_left
        · intro W hSw
          obtain ⟨tt, tw⟩ := hSw
          have q0 := tt.b0
          have q1 := tt.b1
          have q2 := tt.b2
          have q3 := tt.b3
          have q4 := tt.b4
          have q5 := tt.b5
          have q6 := tt.b6
          go_simp
          with_reducible rfl
        try simp only [Act.put, List.getElem_toArray, List.getElem_cons_succ, List.getElem_cons_zero, List.setIfInBounds_toArray, List.set_cons_zero, List.set_cons_succ]
        refine wpAnyH_take (i := 2) (v := ?_) rfl (by kernel_rfl) (by kernel_rfl) (by kernel_rfl) (fun _ _ _ h => h) (Or.inl ⟨by rfl, ?_⟩) (by assumption) ?_
        rotate_left
        · intro W hSw
          obtain ⟨tt, tw⟩ := hSw
          have q0 := tt.b0
          have q1 := tt.b1
          have q2 := tt.b2
          have q3 := tt.b3
          have q4 := tt.b4
          have q5 := tt.b5
          have q6 := tt.b6
          go_simp
          with_reducible rfl
        try simp only [Act.put, List.getElem_toArray, List.getElem_cons_succ, List.getElem_cons_zero, List.setIfInBounds_toArray, List.set_cons_zero, List.set_cons_succ]
        refine wpAnyH_take (i := 3) (v := ?_) rfl (by kernel_rfl) (by kernel_rfl) (by kernel_rfl) (fun _ _ _ h => h) (Or.inl ⟨by rfl, ?_⟩) (by assumption) ?_
        rotate_left
        · intro W hSw
          obtain ⟨tt, tw⟩ := hSw
          have q0 := tt.b0
          have q1 := tt.b1
          have q2 := tt.b2
          have q3 := tt.b3
          have q4 := tt.b4
          have q5 := tt.b5
          have q6 := tt.b6
          go_simp
          with_reducible rfl
        try simp only [Act.put, List.getElem_toArray, List.getElem_cons_succ, List.getElem_cons_zero, List.setIfInBounds_toArray, List.set_cons_zero, List.set_cons_succ]
        refine wpAnyH_take (i := 4) (v := ?_) rfl (by kernel_rfl) (by kernel_rfl) (by kernel_rfl) (fun _ _ _ h => h) (Or.inl ⟨by rfl, ?_⟩) (by assumption) ?_
        rotate_left
        · intro W hSw
          obtain ⟨tt, tw⟩ := hSw
          have q0 := tt.b0
          have q1 := tt.b1
          have q2 := tt.b2
          have q3 := tt.b3
          have q4 := tt.b4
          have q5 := tt.b5
          have q6 := tt.b6
          go_simp
          with_reducible rfl
        try simp only [Act.put, List.getElem_toArray, List.getElem_cons_succ, List.getElem_cons_zero, List.setIfInBounds_toArray, List.set_cons_zero, List.set_cons_succ]
        refine wpAnyH_ready (rs := [5]) (by kernel_rfl) (by simp) ?_
        refine AllReadyH.cons (o := _) rfl (fun K' hK => ?_) ?_
        · go_simp
          refine (CRY.out _ (grown_trans Gw1.out (grown_drew (grown_refl _ _)))).mono ?_
          rintro E w2 ⟨aB, kB, rfl, hiB, hgN, _⟩
          have Gw2 : Hid (wo.grownBy w2 none) := grown_trans Gw1.out (grown_trans (grown_drew (grown_refl _ _)) hgN)
          have G12 : Hid (w1.grownBy w2 none) := grown_trans (grown_drew (grown_refl _ _)) hgN
          have HIB : Hid (Ints w2 aB Y) := hiB
          clear hiB
          go_wp2_with fail
          refine hK.out _ _ (hHeld.kept hgN) (fun hHeld => ?_)
          clear hK K'
          try simp only [Act.put, List.getElem_toArray, List.getElem_cons_succ, List.getElem_cons_zero, List.setIfInBounds_toArray, List.set_cons_zero, List.set_cons_succ]
          refine wpAnyH_take (i := 6) (v := ?_) rfl (by kernel_rfl) (by kernel_rfl) (by kernel_rfl) (fun _ _ _ h => h) (Or.inl ⟨by rfl, ?_⟩) (by assumption) ?_
          rotate_left
          · intro W hSw
            obtain ⟨tt, tw⟩ := hSw
            have q0 := tt.b0
            have q1 := tt.b1
            have q2 := tt.b2
            have q3 := tt.b3
            have q4 := tt.b4
            have q5 := tt.b5
            have q6 := tt.b6
            go_simp
            with_reducible rfl
          try simp only [Act.put, List.getElem_toArray, List.getElem_cons_succ, List.getElem_cons_zero, List.setIfInBounds_toArray, List.set_cons_zero, List.set_cons_succ]
          refine wpAnyH_done (by kernel_rfl) ?_ _
          go_wp2_with fail
          refine (CW.out w2 aA kA aB kB (HIA.out.grown G12.out) HIB.out).mono ?_
          rintro E w3 ⟨bs, rfl, hbs, hg3⟩
          have HBS : Hid (bs = true ↔ AlikeT x y (ws.getD i [])) := hbs.trans HXY.out
          have Gw3 : Hid (wo.grownBy w3 none) := grown_trans Gw2.out hg3
          clear hbs hg3
          cases bs with
          | false =>
            have HFd : Hid (FoundT x y I (ws.getD i [])) := ⟨i, ws, S, HQ.out, hlw, rfl, fun e => by have := HBS.out.2 e; cases this⟩
            have F : Hid (Po (.returned (.tuple #[.slice t.1 nt t.2.1, .bool true])) w3) := by
              have h1 := HP1.out (ws.getD i []) t.1 t.2.1 w3 HFd.out (by rw [← HTT.out.1]; exact (HOL.out.lie t HTT.out.2.1).1.grown Gw3.out) (by have := HLET.out.2; omega) HLET.out.1 (grown_trans HOL.out.gr Gw3.out)
              rw [show (ws.getD i []).length = nt by rw [← HTT.out.2.2, HTT.out.1, nsT_len]] at h1
              exact h1
            obtain ⟨_, y9⟩ := SX.out w3 Gw3.out
            go_wp2_with fail
            first | exact F.out | (go_ret; exact F.out) | exact bodyPost_ret (v := .tuple #[.slice t.1 nt t.2.1, .bool true]) (by simp [results, Try.results6, go_sem]) rfl F.out
          | true =>
            have HAL : Hid (AlikeT x y (ws.getD i [])) := HBS.out.1 rfl
            clear HBS
            go_wp2_with fail
            refine wp_region_held_drew (S := SRf w.heap.size g i x.I x.O x.S a3 x.F.length ac3 a4 x.N.length ac4 a5 x.Y.length ac5 a6 x.E.length ac6 (.slice t.1 nt t.2.1)) (by kernel_rfl) (SX.out w3.drew (grown_trans Gw3.out (grown_drew (grown_refl _ _)))) (fun hHeld => ?_)
            refine wpAnyH_take (i := 0) (v := ?_) rfl (by kernel_rfl) (by kernel_rfl) (by kernel_rfl) (fun _ _ _ h => h) (Or.inl ⟨by rfl, ?_⟩) (by assumption) ?_
            rotate_left
            · intro W hSw
              obtain ⟨tt, tw⟩ := hSw
              have q0 := tt.b0
              have q1 := tt.b1
              have q2 := tt.b2
              have q3 := tt.b3
              have q4 := tt.b4
              have q5 := tt.b5
              have q6 := tt.b6
              go_simp
              with_reducible rfl
            try simp only [Act.put, List.getElem_toArray, List.getElem_cons_succ, List.getElem_cons_zero, List.setIfInBounds_toArray, List.set_cons_zero, List.set_cons_succ]
            refine wpAnyH_take (i := 1) (v := ?_) rfl (by kernel_rfl) (by kernel_rfl) (by kernel_rfl) (fun _ _ _ h => h) (Or.inl ⟨by rfl, ?_⟩) (by assumption) ?_
            rotate_left
            · intro W hSw
              obtain ⟨tt, tw⟩ := hSw
              have q0 := tt.b0
              have q1 := tt.b1
              have q2 := tt.b2
              have q3 := tt.b3
              have q4 := tt.b4
              have q5 := tt.b5
              have q6 := tt.b6
              go_simp
              with_reducible rfl
            try simp only [Act.put, List.getElem_toArray, List.getElem_cons_succ, List.getElem_cons_zero, List.setIfInBounds_toArray, List.set_cons_zero, List.set_cons_succ]
            refine wpAnyH_take (i := 2) (v := ?_) rfl (by kernel_rfl) (by kernel_rfl) (by kernel_rfl) (fun _ _ _ h => h) (Or.inl ⟨by rfl, ?_⟩) (by assumption) ?_
            rotate_left
            · intro W hSw
              obtain ⟨tt, tw⟩ := hSw
              have q0 := tt.b0
              have q1 := tt.b1
              have q2 := tt.b2
              have q3 := tt.b3
              have q4 := tt.b4
              have q5 := tt.b5
              have q6 := tt.b6
              go_simp
              with_reducible rfl
            try simp only [Act.put, List.getElem_toArray, List.getElem_cons_succ, List.getElem_cons_zero, List.setIfInBounds_toArray, List.set_cons_zero, List.set_cons_succ]
            refine wpAnyH_take (i := 3) (v := ?_) rfl (by kernel_rfl) (by kernel_rfl) (by kernel_rfl) (fun _ _ _ h => h) (Or.inl ⟨by rfl, ?_⟩) (by assumption) ?_
            rotate_left
            · intro W hSw
              obtain ⟨tt, tw⟩ := hSw
              have q0 := tt.b0
              have q1 := tt.b1
              have q2 := tt.b2
              have q3 := tt.b3
              have q4 := tt.b4
              have q5 := tt.b5
              have q6 := tt.b6
              go_simp
              with_reducible rfl
            try simp only [Act.put, List.getElem_toArray, List.getElem_cons_succ, List.getElem_cons_zero, List.setIfInBounds_toArray, List.set_cons_zero, List.set_cons_succ]
            refine wpAnyH_take (i := 4) (v := ?_) rfl (by kernel_rfl) (by kernel_rfl) (by kernel_rfl) (fun _ _ _ h => h) (Or.inl ⟨by rfl, ?_⟩) (by assumption) ?_
            rotate_left
            · intro W hSw
              obtain ⟨tt, tw⟩ := hSw
              have q0 := tt.b0
              have q1 := tt.b1
              have q2 := tt.b2
              have q3 := tt.b3
              have q4 := tt.b4
              have q5 := tt.b5
              have q6 := tt.b6
              go_simp
              with_reducible rfl
            try simp only [Act.put, List.getElem_toArray, List.getElem_cons_succ, List.getElem_cons_zero, List.setIfInBounds_toArray, List.set_cons_zero, List.set_cons_succ]
            refine wpAnyH_ready (rs := [5]) (by kernel_rfl) (by simp) ?_
            refine AllReadyH.cons (o := _) rfl (fun K' hK => ?_) ?_
            · go_simp
              refine (CSX.out _ (grown_trans Gw3.out (grown_drew (grown_refl _ _)))).mono ?_
              rintro E w4 ⟨rfl, hgN⟩
              have Gw4 : Hid (wo.grownBy w4 none) := grown_trans Gw3.out (grown_trans (grown_drew (grown_refl _ _)) hgN)
              go_wp2_with fail
              refine hK.out _ _ (hHeld.kept hgN) (fun hHeld => ?_)
              clear hK K'
              try simp only [Act.put, List.getElem_toArray, List.getElem_cons_succ, List.getElem_cons_zero, List.setIfInBounds_toArray, List.set_cons_zero, List.set_cons_succ]
              refine wpAnyH_take (i := 6) (v := ?_) rfl (by kernel_rfl) (by kernel_rfl) (by kernel_rfl) (fun _ _ _ h => h) (Or.inl ⟨by rfl, ?_⟩) (by assumption) ?_
              rotate_left
              · intro W hSw
                obtain ⟨tt, tw⟩ := hSw
                have q0 := tt.b0
                have q1 := tt.b1
                have q2 := tt.b2
                have q3 := tt.b3
                have q4 := tt.b4
                have q5 := tt.b5
                have q6 := tt.b6
                go_simp
                with_reducible rfl
              try simp only [Act.put, List.getElem_toArray, List.getElem_cons_succ, List.getElem_cons_zero, List.setIfInBounds_toArray, List.set_cons_zero, List.set_cons_succ]
              refine wpAnyH_done (by kernel_rfl) ?_ _
              go_wp2_with fail
              refine wp_region_held_drew (S := SRf (w.heap.size + 1) g i y.I y.O y.S b3 y.F.length bc3 b4 y.N.length bc4 b5 y.Y.length bc5 b6 y.E.length bc6 (.slice t.1 nt t.2.1)) (by kernel_rfl) (SY.out w4.drew (grown_trans Gw4.out (grown_drew (grown_refl _ _)))) (fun hHeld => ?_)
              refine wpAnyH_take (i := 0) (v := ?_) rfl (by kernel_rfl) (by kernel_rfl) (by kernel_rfl) (fun _ _ _ h => h) (Or.inl ⟨by rfl, ?_⟩) (by assumption) ?_
              rotate_left
              · intro W hSw
                obtain ⟨tt, tw⟩ := hSw
                have q0 := tt.b0
                have q1 := tt.b1
                have q2 := tt.b2
                have q3 := tt.b3
                have q4 := tt.b4
                have q5 := tt.b5
                have q6 := tt.b6
                go_simp
                with_reducible rfl
              try simp only [Act.put, List.getElem_toArray, List.getElem_cons_succ, List.getElem_cons_zero, List.setIfInBounds_toArray, List.set_cons_zero, List.set_cons_succ]
              refine wpAnyH_take (i := 1) (v := ?_) rfl (by kernel_rfl) (by kernel_rfl) (by kernel_rfl) (fun _ _ _ h => h) (Or.inl ⟨by rfl, ?_⟩) (by assumption) ?_
              rotate_left
              · intro W hSw
                obtain ⟨tt, tw⟩ := hSw
                have q0 := tt.b0
                have q1 := tt.b1
                have q2 := tt.b2
                have q3 := tt.b3
                have q4 := tt.b4
                have q5 := tt.b5
                have q6 := tt.b6
                go_simp
                with_reducible rfl
              try simp only [Act.put, List.getElem_toArray, List.getElem_cons_succ, List.getElem_cons_zero, List.setIfInBounds_toArray, List.set_cons_zero, List.set_cons_succ]
              refine wpAnyH_take (i := 2) (v := ?_) rfl (by kernel_rfl) (by kernel_rfl) (by kernel_rfl) (fun _ _ _ h => h) (Or.inl ⟨by rfl, ?_⟩) (by assumption) ?_
              rotate_left
              · intro W hSw
                obtain ⟨tt, tw⟩ := hSw
                have q0 := tt.b0
                have q1 := tt.b1
                have q2 := tt.b2
                have q3 := tt.b3
                have q4 := tt.b4
                have q5 := tt.b5
                have q6 := tt.b6
                go_simp
                with_reducible rfl
              try simp only [Act.put, List.getElem_toArray, List.getElem_cons_succ, List.getElem_cons_zero, List.setIfInBounds_toArray, List.set_cons_zero, List.set_cons_succ]
              refine wpAnyH_take (i := 3) (v := ?_) rfl (by kernel_rfl) (by kernel_rfl) (by kernel_rfl) (fun _ _ _ h => h) (Or.inl ⟨by rfl, ?_⟩) (by assumption) ?_
              rotate_left
              · intro W hSw
                obtain ⟨tt, tw⟩ := hSw
                have q0 := tt.b0
                have q1 := tt.b1
                have q2 := tt.b2
                have q3 := tt.b3
                have q4 := tt.b4
                have q5 := tt.b5
                have q6 := tt.b6
                go_simp
                with_reducible rfl
              try simp only [Act.put, List.getElem_toArray, List.getElem_cons_succ, List.getElem_cons_zero, List.setIfInBounds_toArray, List.set_cons_zero, List.set_cons_succ]
              refine wpAnyH_take (i := 4) (v := ?_) rfl (by kernel_rfl) (by kernel_rfl) (by kernel_rfl) (fun _ _ _ h => h) (Or.inl ⟨by rfl, ?_⟩) (by assumption) ?_
              rotate_left
              · intro W hSw
                obtain ⟨tt, tw⟩ := hSw
                have q0 := tt.b0
                have q1 := tt.b1
                have q2 := tt.b2
                have q3 := tt.b3
                have q4 := tt.b4
                have q5 := tt.b5
                have q6 := tt.b6
                go_simp
                with_reducible rfl
              try simp only [Act.put, List.getElem_toArray, List.getElem_cons_succ, List.getElem_cons_zero, List.setIfInBounds_toArray, List.set_cons_zero, List.set_cons_succ]
              refine wpAnyH_ready (rs := [5]) (by kernel_rfl) (by simp) ?_
              refine AllReadyH.cons (o := _) rfl (fun K' hK => ?_) ?_
              · go_simp
                refine (CSY.out _ (grown_trans Gw4.out (grown_drew (grown_refl _ _)))).mono ?_
                rintro E w5 ⟨rfl, hgN⟩
                have Gw5 : Hid (wo.grownBy w5 none) := grown_trans Gw4.out (grown_trans (grown_drew (grown_refl _ _)) hgN)
                go_wp2_with fail
                refine hK.out _ _ (hHeld.kept hgN) (fun hHeld => ?_)
                clear hK K'
                try simp only [Act.put, List.getElem_toArray, List.getElem_cons_succ, List.getElem_cons_zero, List.setIfInBounds_toArray, List.set_cons_zero, List.set_cons_succ]
                refine wpAnyH_take (i := 6) (v := ?_) rfl (by kernel_rfl) (by kernel_rfl) (by kernel_rfl) (fun _ _ _ h => h) (Or.inl ⟨by rfl, ?_⟩) (by assumption) ?_
                rotate_left
                · intro W hSw
                  obtain ⟨tt, tw⟩ := hSw
                  have q0 := tt.b0
                  have q1 := tt.b1
                  have q2 := tt.b2
                  have q3 := tt.b3
                  have q4 := tt.b4
                  have q5 := tt.b5
                  have q6 := tt.b6
                  go_simp
                  with_reducible rfl
                try simp only [Act.put, List.getElem_toArray, List.getElem_cons_succ, List.getElem_cons_zero, List.setIfInBounds_toArray, List.set_cons_zero, List.set_cons_succ]
                refine wpAnyH_done (by kernel_rfl) ?_ _
                have e13 := trivial
                clear e13
                have hpq : (m1 : Int) * (y.N.length : Int) + (m2 : Int) = ((m1 * y.N.length + m2 : Nat) : Int) := by simp
                have hpr : m1 * y.N.length + m2 = prT x y (ws.getD i []) := HMM.out
                have HPR : Hid (m1 * y.N.length + m2 = prT x y (ws.getD i [])) := hpr
                have hplt : m1 * y.N.length + m2 < NN := by rw [hpr, ← HNN.out]; exact hst.2.2
                have hN36 : NN ≤ 6 * 6 := by rw [← HNN.out]; exact Nat.mul_le_mul h6x h6y
                obtain ⟨pq, hpqn⟩ : ∃ pq, m1 * y.N.length + m2 = pq := ⟨_, rfl⟩
                rw [hpqn] at hpq HPR hplt
                have wr1 : IntKind.i64.wrap ((m1 : Int) * (y.N.length : Int)) = (m1 : Int) * (y.N.length : Int) := HWR.out
                have wr2 : IntKind.i64.wrap ((m1 : Int) * (y.N.length : Int) + (m2 : Int)) = (pq : Int) := by rw [hpq]; exact wrap_small (by omega)
                have HB5 : Hid (BRow w5 gs (x.N.length * y.N.length) (fun j => decide (j ∈ S))) := HBR.out.kept Gw5.out
                have cs := HB5.out.cell (i := pq) (by rw [HNN.out]; exact hplt)
                have fs := HB5.out.frozen pq
                have isl : (pq : Int) < (NN : Int) := by omega
                clear hpr hpqn hpq
                by_cases hin : pq ∈ S
                · simp only [decide_eq_true hin] at cs
                  have HN : Hid (RfSt x y I W1 gs (i + 1) (.slice (some ⟨g, 0, none⟩) ps.length c) w5) := ⟨g, c, ps, ws, S, rfl, .old HQ.out hlw HAL.out (by rw [← HPR.out]; exact hin), HWS.out, HOL.out.grown Gw5.out, HB5.out⟩
                  clear hin
                  go_wp2_with fail
                  go_roundw
                  case rel => exact ⟨i + 1, by go_num, by omega, HN.out⟩
                  case measure => simp [intOf]; omega
                · simp only [decide_eq_false hin] at cs
                  have HQN : Hid (Qst x y I (i + 1) (ws ++ kidsT I (ws.getD i [])) (S ++ [prT x y (ws.getD i [])])) := .new HQ.out hlw HAL.out (by rw [← HPR.out]; exact hin)
                  have HIU : Hid (RfIn x y W1 gs i 0 ws (S ++ [prT x y (ws.getD i [])]) (.slice (some ⟨g, 0, none⟩) ps.length c) (w5.setCell ⟨gs, pq, none⟩ (.bool true))) := by
                    refine ⟨g, c, ps, rfl, by simpa [kidsTo] using HWS.out, (HOL.out.grown Gw5.out).set HB5.out HGS.out, ?_⟩
                    refine (HB5.out.set (i := pq) (by rw [HNN.out]; exact hplt) true).congr fun j hj => ?_
                    by_cases e : j = pq
                    · subst e; rw [if_pos rfl, ← HPR.out]; simp
                    · rw [if_neg e, ← HPR.out]; simp [e]
                  clear hin
                  go_wp2_with fail
                  clear cs fs
                  go_loopw [15, 8] (fun v v8 W => ∃ k : Nat, k ≤ I ∧ v = .int .i64 (k : Int) ∧ RfIn x y W1 gs i k ws (S ++ [prT x y (ws.getD i [])]) v8 W) (fun v _ _ => I - (intOf v).toNat)
                  case atStart => exact ⟨0, Nat.zero_le _, rfl, HIU.out⟩
                  case round =>
                    clear HIU
                    obtain ⟨wi, hwi⟩ : ∃ W, W = wr := ⟨_, rfl⟩
                    subst hwi
                    obtain ⟨k, hk, rfl, g', c', ps', rfl, hw', ho', hb'⟩ := hrel
                    have HO' : Hid (OwnL W1 wi g' c' ps') := ho'
                    have HW' : Hid (wordsT ps' = (ws ++ kidsTo k (ws.getD i [])).map nsT) := hw'
                    have HB' : Hid (BRow wi gs (x.N.length * y.N.length) (fun j => decide (j ∈ S ++ [prT x y (ws.getD i [])]))) := hb'
                    have hml' : ps'.length = ws.length + k := by
                      have := congrArg List.length hw'
                      rw [wordsT_len, List.length_map, List.length_append] at this
                      simpa [kidsTo] using this
                    have z0 := (BX.out wi ho'.gr).b0
                    rw [HXI.out] at z0
                    clear hw' ho' hb'
                    by_cases hkl : k < I
                    · have ik : (k : Int) < (I : Int) := by omega
                      have hi' : i < ps'.length := by omega
                      obtain ⟨ht1, _⟩ := trip_at HW'.out hi'
                      rw [getD_left hlw] at ht1
                      have lt := HO'.out.lie (ps'.getD i (none, 0, [])) (by rw [List.getD, List.getElem?_eq_getElem hi', Option.getD_some]; exact List.getElem_mem hi')
                      have ct := HO'.out.at hi'
                      obtain ⟨t', ht'⟩ : ∃ t', ps'.getD i (none, 0, []) = t' := ⟨_, rfl⟩
                      rw [ht'] at ht1 lt ct
                      obtain ⟨wE, hwE, gE, oE⟩ := empty_row wi
                      obtain ⟨aA, cA, wA, hrA, oA⟩ := oE.put (d := t'.2.1) (lt.1.grown gE) (by simp; have := lt.2.1; omega)
                      simp only [List.nil_append, List.length_nil] at hrA oA
                      have ctA := oA.gr
                      obtain ⟨wF, hwF, gF, iF⟩ := one_row wA (k : Int)
                      obtain ⟨aB, cB, wB, hrB, oB⟩ := (oA.grown gF).put (d := 1) iF (by simp; have := lt.2.1; omega)
                      have eB : t'.2.2 ++ [(k : Int)] = nsT (ws.getD i [] ++ [k]) := by rw [ht1]; simp [nsT]
                      rw [eB] at hrB oB
                      obtain ⟨wG, hwG⟩ : ∃ W, W = wB.alloc (.cells #[.slice aB (nsT (ws.getD i [] ++ [k])).length cB] 22) := ⟨_, rfl⟩
                      have gG : wB.grownBy wG none := by rw [hwG]; exact grown_alloc _ _
                      have cG : wG.cell? ⟨wB.heap.size, 0, none⟩ = some (valT (aB, cB, nsT (ws.getD i [] ++ [k]))) := by
                        have hb := heap_alloc_new wB (.cells #[.slice aB (nsT (ws.getD i [] ++ [k])).length cB] 22)
                        rw [hwG, cell_of_row _ _ 0 _ _ (0, 0) hb]; rfl
                      have hlen : (nsT (ws.getD i [] ++ [k])).length ≤ 60 := by
                        rw [nsT_len, List.length_append, List.length_singleton]
                        have := HLET.out.2
                        omega
                      have lG : LieL wG g' (aB, cB, nsT (ws.getD i [] ++ [k])) := by
                        refine ⟨oB.ints.grown gG, hlen, ?_⟩
                        obtain ⟨bb, off, h4, hcc⟩ := oB.ints.at (k := 0) (by simp [nsT])
                        have h5 := oB.new _ h4
                        have h6 := HO'.out.g_lt.2
                        have h7 := cell_ltT (hcc 0 (by simp [nsT]))
                        exact .inr ⟨_, h4, by simp at h5 ⊢; omega, by have := gG.size; simp at h7 ⊢; omega⟩
                      have gwi : wi.grownBy wG none := grown_trans oB.gr gG
                      obtain ⟨g9, c9, w9, hr9, o9, hg9⟩ := (HO'.out.grown gwi).put (B := wB.heap.size) (d := 1) cG lG (by omega)
                      have F : Hid (RfIn x y W1 gs i (k + 1) ws (S ++ [prT x y (ws.getD i [])]) (.slice (some ⟨g9, 0, none⟩) (ps'.length + 1) c9) w9) := by
                        refine ⟨g9, c9, ps' ++ [(aB, cB, nsT (ws.getD i [] ++ [k]))], by rw [List.length_append]; rfl, ?_, o9, ?_⟩
                        · rw [kidsTo_succ, ← List.append_assoc, List.map_append, ← HW'.out]; simp [wordsT]
                        · exact (HB'.out.kept gwi).block (hg9.block gs (HB'.out.kept gwi).lt (by have := (HO'.out.grown gwi).ne (HB'.out.kept gwi); simp; omega))
                      simp only [List.length_cons, List.length_nil, Nat.zero_add] at hrB
                      rw [hwE] at hrA
                      rw [hwF] at hrB
                      rw [hwG] at hr9
                      simp only [valT] at ct
                      have ctE := (gE).cell ct (by simp)
                      rw [hwE] at ctE
                      have HNs : Hid (k < I) := hkl
                      obtain ⟨nB, hnB⟩ : ∃ n, (nsT (ws.getD i [] ++ [k])).length = n := ⟨_, rfl⟩
                      rw [hnB] at hrB hr9
                      obtain ⟨nt', hnt'⟩ : ∃ n, t'.2.2.length = n := ⟨_, rfl⟩
                      rw [hnt'] at ct ctE hrA hrB
                      obtain ⟨np, hnp⟩ : ∃ n, ps'.length = n := ⟨_, rfl⟩
                      rw [hnp] at hr9 F
                      have ip : (i : Int) < (np : Int) := by omega
                      simp only [hnp]
                      clear ht1 lt ht' hwE gE oE oA gF iF oB eB hwF hwG gG cG hlen lG gwi o9 hg9 ctA hnB hnt' hnp hml' hi'
                      go_wp2_with fail
                      go_roundw
                      case rel => exact ⟨k + 1, by omega, by go_num, F.out⟩
                      case measure => simp [intOf]; omega
                    · have ik : ¬ (k : Int) < (I : Int) := by omega
                      have ek : k = I := by omega
                      subst ek
                      have HN : Hid (RfSt x y k W1 gs (i + 1) (.slice (some ⟨g', 0, none⟩) ps'.length c') wi) := ⟨g', c', ps', _, _, rfl, HQN.out, HW'.out, HO'.out, HB'.out⟩
                      go_wp2_with fail
                      go_roundw
                      case rel => exact ⟨i + 1, by go_num, by omega, HN.out⟩
                      case measure => simp [intOf]; omega
              exact AllReadyH.nil
            exact AllReadyH.nil
        exact AllReadyH.nil
      exact AllReadyH.nil
    · have il : ¬ (i : Int) < (ps.length : Int) := by omega
      have F : Hid (Po (.returned (.tuple #[.slice none 0 0, .bool false])) wo) := by
        refine HP2.out wo ?_ HOL.out.gr
        have h1 := HPL.out
        have h2 := HQ.out.le
        have e : i = ws.length := by omega
        exact ⟨ws, S, by rw [← e]; exact HQ.out⟩
      go_wp2_with fail
      first | exact F.out | (go_ret; exact F.out) | exact bodyPost_ret (v := .tuple #[.slice none 0 0, .bool false]) (by simp [results, Try.results6, go_sem]) rfl F.out

end Go.Proofs.Ytdajdnilhjcniaa
