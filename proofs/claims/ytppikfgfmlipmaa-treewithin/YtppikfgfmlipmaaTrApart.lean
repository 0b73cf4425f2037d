/- The reference's Apart: the least number of nodes of a tree that the one accepts and the other does not. -/
import Derived.Test.YtppikfgfmlipmaaTrGiven
import Derived.Test.YtppikfgfmlipmaaTrApE
import Derived.Test.YtppikfgfmlipmaaTrChkB
import Derived.Test.YtppikfgfmlipmaaTrRow
namespace Go.Proofs.Ytppikfgfmlipmaa
open Go.RowKit
set_option linter.unusedVariables false

theorem Try.infoIntA : (Try.prog.info? 3).map (fun i => (i.zero, i.size, i.bytes)) = some (some (.int .i64 0), 1, 8) := by kernel_rfl
theorem madeIA (n : Nat) : madeCells (Value.cells (.int .i64 0)) n = Array.replicate n (Value.int .i64 0) := by
  apply Array.ext'
  simpa [Value.cells] using toList_madeCells_one (.int .i64 0) n
theorem sizes_make (w : World) : ∃ W, (Instr.makeSlice 23 (.int .i64 64) (.int .i64 64)).run Try.prog w = .ok (.slice (some ⟨w.heap.size, 0, none⟩) 64 64) W ∧ ARow W w.heap.size (fun _ => 0) ∧ w.grownBy W none ∧ W.heap.size = w.heap.size + 1 := by
  obtain ⟨i0, hi, hz0, hz1, hz2⟩ := info_partsW Try.infoIntA
  have hmk := run_make (P := Try.prog) w 23 3 i0 (.int .i64 0) Try.underlying23 hi hz0 .i64 .i64 64 64 (by omega) (by omega) (by rw [hz2]; omega) (by omega)
  rw [hz1, Nat.mul_one, madeIA] at hmk
  exact ⟨_, hmk, RowB.make _ _ _ _, grown_alloc _ _, World.size_alloc _ _⟩
def ApartPost (x y : Trs) (L : Nat) (w : World) (E : Ending) (w' : World) : Prop := ∃ r : Nat, E = .returned (.int .i64 (r : Int)) ∧ ApartIs x y L r ∧ r ≤ 1000 ∧ w.grownBy w' none
def isT (v : Value) : Bool := match v with | .bool b => b | _ => false
theorem ixW {a b i : Nat} (ha : a < 8) (hb : b < 8) (hi : a + 8 * b = i) : ∃ m : Nat, IntKind.i64.wrap (8 * (b : Int)) = (m : Int) ∧ IntKind.i64.wrap ((a : Int) + (m : Int)) = (i : Int) ∧ i < 64 := by
  refine ⟨8 * b, ?_, ?_, by omega⟩ <;> rw [IntKind.wrap_i64] <;> omega

set_option maxHeartbeats 12800000 in
set_option maxRecDepth 100000 in
theorem apart_any (x y : Trs) (b e b' e' : Option Addr) (d f d' f' : Nat) (w : World) (h : TrsAt w x b e) (h' : TrsAt w y b' e') (hx : GoodT x) (hy : GoodT y) (L N N' : Nat) (hL : x.L = L) (hL' : y.L = L) (hN : x.N = N) (hN' : y.N = N') (hN3 : N ≤ 3) (hN3' : N' ≤ 3) :
    Calls Try.prog 6 #[trsV x.L x.N b x.R.length d x.S e x.M.length f, trsV y.L y.N b' y.R.length d' y.S e' y.M.length f'] w (ApartPost x y L w) := by
  have hRx : InRu x.R L N := by have := hx.ru; rwa [hL, hN] at this
  have hRy : InRu y.R L N' := by have := hy.ru; rwa [hL', hN'] at this
  have HRx : Hid (InRu x.R L N) := hRx
  have HRy : Hid (InRu y.R L N') := hRy
  have hMx : x.M.length = N := by have := hx.m; omega
  have hMy : y.M.length = N' := by have := hy.m; omega
  have hrx := hx.r4
  have hry := hy.r4
  -- the four kinds of calls
  have CLx : Hid (∀ (l : Nat) (W : World), w.grownBy W none → ∀ z : Nat, nxA x.R l 1 1 = 2 * z → Calls Try.prog 14 #[trsV (L : Int) (N : Int) b x.R.length d x.S e x.M.length f, .int .i64 (l : Int), .int .i64 (-1), .int .i64 (-1)] W (Says (.int .i64 (z : Int)) W)) := fun l W hW z hz => given_leaf x.R L x.S (l : Int) N x.R.length d x.M.length f b e W hRx (by omega) rfl (by omega) (h.grown hW).rules z hz
  have CLy : Hid (∀ (l : Nat) (W : World), w.grownBy W none → ∀ z : Nat, nxA y.R l 1 1 = 2 * z → Calls Try.prog 14 #[trsV (L : Int) (N' : Int) b' y.R.length d' y.S e' y.M.length f', .int .i64 (l : Int), .int .i64 (-1), .int .i64 (-1)] W (Says (.int .i64 (z : Int)) W)) := fun l W hW z hz => given_leaf y.R L y.S (l : Int) N' y.R.length d' y.M.length f' b' e' W hRy (by omega) rfl (by omega) (h'.grown hW).rules z hz
  have CNx : Hid (∀ (l s t : Nat) (W : World), s < 64 → t < 64 → w.grownBy W none → ∀ z : Nat, nxA x.R l (2 * s) (2 * t) = 2 * z → Calls Try.prog 14 #[trsV (L : Int) (N : Int) b x.R.length d x.S e x.M.length f, .int .i64 (l : Int), .int .i64 (s : Int), .int .i64 (t : Int)] W (Says (.int .i64 (z : Int)) W)) := fun l s t W hs ht hW z hz => given_node x.R L x.S (l : Int) N x.R.length d x.M.length f s t hs ht b e W hRx (by omega) rfl (by omega) (h.grown hW).rules z hz
  have CNy : Hid (∀ (l s t : Nat) (W : World), s < 64 → t < 64 → w.grownBy W none → ∀ z : Nat, nxA y.R l (2 * s) (2 * t) = 2 * z → Calls Try.prog 14 #[trsV (L : Int) (N' : Int) b' y.R.length d' y.S e' y.M.length f', .int .i64 (l : Int), .int .i64 (s : Int), .int .i64 (t : Int)] W (Says (.int .i64 (z : Int)) W)) := fun l s t W hs ht hW z hz => given_node y.R L y.S (l : Int) N' y.R.length d' y.M.length f' s t hs ht b' e' W hRy (by omega) rfl (by omega) (h'.grown hW).rules z hz
  have CGx : Hid (∀ (s : Nat) (W : World), s < 64 → w.grownBy W none → Calls Try.prog 15 #[trsV (L : Int) (N : Int) b x.R.length d x.S e x.M.length f, .int .i64 (s : Int)] W (Says (.bool (mkS x.M (2 * s) x.M.length)) W)) := fun s W hs hW => by
    have := good_any L x.S N s x.M b e x.R.length d f W hMx (by omega) hs (h.grown hW).marks
    rw [← hMx] at this ⊢
    exact this
  have CGy : Hid (∀ (s : Nat) (W : World), s < 64 → w.grownBy W none → Calls Try.prog 15 #[trsV (L : Int) (N' : Int) b' y.R.length d' y.S e' y.M.length f', .int .i64 (s : Int)] W (Says (.bool (mkS y.M (2 * s) y.M.length)) W)) := fun s W hs hW => by
    have := good_any L y.S N' s y.M b' e' y.R.length d' f' W hMy (by omega) hs (h'.grown hW).marks
    rw [← hMy] at this ⊢
    exact this
  have HLf : Hid (∀ l : Nat, nxA x.R l 1 1 = 2 * (nxA x.R l 1 1 / 2) ∧ nxA y.R l 1 1 = 2 * (nxA y.R l 1 1 / 2) ∧ nxA x.R l 1 1 / 2 < 8 ∧ nxA y.R l 1 1 / 2 < 8) := fun l => lfI_lt hRx hRy hN3 hN3' l
  have HNd : Hid (∀ l p q : Nat, ∃ a c : Nat, nxA x.R l (2 * (p % 8)) (2 * (q % 8)) = 2 * a ∧ nxA y.R l (2 * (p / 8)) (2 * (q / 8)) = 2 * c ∧ a < 8 ∧ c < 8 ∧ ndI x y l p q = a + 8 * c) := fun l p q => ⟨_, _, (nxA_half hRx hN3 l _ _).1, (nxA_half hRy hN3' l _ _).1, (nxA_half hRx hN3 l _ _).2, (nxA_half hRy hN3' l _ _).2, rfl⟩
  have HFin : Hid (∀ (G : Nat → Nat) (r : Nat) (W : World), ApI x y L G → ApF x y L G → LeastI x y G 64 r → r ≤ 1000 → w.grownBy W none → ApartPost x y L w (.returned (.int .i64 (r : Int))) W) := fun G r W h1 h2 h3 h4 h5 => ⟨r, rfl, h3.done hRx hRy hN3 hN3' h1 h2, h4, h5⟩
  have HPut : Hid (∀ (W2 W : World) (gs s0 l1 l p q : Nat) (sm : Bool) (G : Nat → Nat) (i n : Nat), ApSt x y L W2 gs s0 l1 l p q sm G W → ndI x y l p q = i → i < 64 → l < L → n = min (G p + G q + 1) 1000 → G p ≠ 0 → G q ≠ 0 → (G i = 0 ∨ n < G i) → ApSt x y L W2 gs s0 l1 l p (q + 1) true (updA G i n) (W.setCell ⟨gs, i, none⟩ (.int .i64 (n : Int)))) := fun W2 W gs s0 l1 l p q sm G i n h1 h2 h3 h4 h5 h6 h7 h8 => h1.put hRx hRy hN3 hN3' h2 h3 h4 h5 h6 h7 h8
  rw [hL, hL', hN, hN']
  have hl4 : L ≤ 4 := by have := hx.l4; omega
  obtain ⟨Po, hPo⟩ : ∃ Po, Po = ApartPost x y L w := ⟨_, rfl⟩
  rw [← hPo] at HFin ⊢
  clear hPo
  obtain ⟨Wb, hWb, gb, sb, bx, by1⟩ := two_boxW w (.int .i64 (L : Int)) (.int .i64 (N : Int)) (.slice b x.R.length d) (.int .i64 x.S) (.slice e x.M.length f) (.int .i64 (L : Int)) (.int .i64 (N' : Int)) (.slice b' y.R.length d') (.int .i64 y.S) (.slice e' y.M.length f')
  obtain ⟨W2, hmk, r2, g2, s2⟩ := sizes_make Wb
  have G2 : Hid (w.grownBy W2 none) := grown_trans gb g2
  have HGs : Hid (w.heap.size ≤ Wb.heap.size) := gb.size
  obtain ⟨gs, hgs⟩ : ∃ gs, Wb.heap.size = gs := ⟨_, rfl⟩
  rw [hgs] at r2 hmk HGs s2
  have SH : Hid (∀ W, W2.grownBy W (some gs) → Wb.grownBy W none) := fun W hW => grown_new g2 hW (by omega)
  have GW : Hid (∀ W, W2.grownBy W (some gs) → w.grownBy W none) := fun W hW => grown_trans gb (SH.out W hW)
  have BX : Hid (∀ W', Wb.grownBy W' none → W'.cell? ⟨w.heap.size, 0, none⟩ = some (.int .i64 (L : Int)) ∧ W'.cell? ⟨w.heap.size, 1, none⟩ = some (.int .i64 (N : Int)) ∧ W'.cell? ⟨w.heap.size, 2, none⟩ = some (.slice b x.R.length d) ∧ W'.cell? ⟨w.heap.size, 3, none⟩ = some (.int .i64 x.S) ∧ W'.cell? ⟨w.heap.size, 4, none⟩ = some (.slice e x.M.length f)) := bx
  have BY : Hid (∀ W', Wb.grownBy W' none → W'.cell? ⟨w.heap.size + 1, 0, none⟩ = some (.int .i64 (L : Int)) ∧ W'.cell? ⟨w.heap.size + 1, 1, none⟩ = some (.int .i64 (N' : Int)) ∧ W'.cell? ⟨w.heap.size + 1, 2, none⟩ = some (.slice b' y.R.length d') ∧ W'.cell? ⟨w.heap.size + 1, 3, none⟩ = some (.int .i64 y.S) ∧ W'.cell? ⟨w.heap.size + 1, 4, none⟩ = some (.slice e' y.M.length f')) := by1
  have R2 : Hid (ARow W2 gs (fun _ => 0)) := r2
  rw [hWb] at hmk
  clear h h' hx hy hL hL' hN hN' hRx hRy hMx hMy hrx hry gb g2 bx by1 hWb sb r2 s2 hgs
  go_enter Try.func6, Try.ntmps6
  go_wp2_with fail
  clear hmk
  go_loopw [6] (fun v wr => ∃ (sm : Bool) (G : Nat → Nat), v = .bool sm ∧ ARow wr gs G ∧ ApI x y L G ∧ (∀ s, G s ≤ 1000) ∧ (sm = false → ApF x y L G) ∧ W2.grownBy wr (some gs)) (fun v wr => 2 * sumC wr gs 64 + bitA (isT v))
  case atStart => exact ⟨true, _, rfl, R2.out, ApI.zero, (fun s => Nat.zero_le _), (fun e => by cases e), grown_refl _ _⟩
  case round =>
    clear R2
    rename World => wr
    obtain ⟨sm, G, rfl, hrow, hinv, hle, hfix, hgw⟩ := hrel
    have RR : Hid (ARow wr gs G) := hrow
    have II : Hid (ApI x y L G) := hinv
    have LE : Hid (∀ s, G s ≤ 1000) := hle
    have GR : Hid (W2.grownBy wr (some gs)) := hgw
    have FX : Hid (sm = false → ApF x y L G) := hfix
    clear hrow hinv hle hfix hgw
    cases sm
    case false =>
      have FF : Hid (ApF x y L G) := FX.out rfl
      clear FX
      have N1 : Hid (ARow wr gs G ∧ W2.grownBy wr (some gs)) := ⟨RR.out, GR.out⟩
      clear RR GR
      go_wp2_with fail
      go_loopw [13, 14] (fun v13 v14 wq => ∃ (k r : Nat), v13 = .int .i64 (r : Int) ∧ v14 = .int .i64 (k : Int) ∧ k ≤ 64 ∧ r ≤ 1000 ∧ LeastI x y G k r ∧ ARow wq gs G ∧ W2.grownBy wq (some gs)) (fun _ v14 _ => 64 - (intOf v14).toNat)
      case atStart => exact ⟨0, 0, rfl, rfl, by omega, by omega, ⟨fun e => absurd rfl e, fun s hs => by omega⟩, N1.out.1, N1.out.2⟩
      case round =>
        clear N1
        rename World => wq
        obtain ⟨k, r, rfl, rfl, hk, hr, hI, hro, hgr⟩ := hrel
        have LI : Hid (LeastI x y G k r) := hI
        have RO : Hid (ARow wq gs G) := hro
        have GR : Hid (W2.grownBy wq (some gs)) := hgr
        clear hI hro hgr
        by_cases hk64 : k < 64
        · have qk : (k : Int) < 64 := by omega
          have HSp : Hid (sepB x y k = (mkS x.M (2 * (k % 8)) x.M.length && !mkS y.M (2 * (k / 8)) y.M.length)) := rfl
          have hkm : (k : Int) % 8 = ((k % 8 : Nat) : Int) := by omega
          have hkd : (k : Int) / 8 = ((k / 8 : Nat) : Int) := by omega
          have m1 : k % 8 < 64 := by omega
          have m2 : k / 8 < 64 := by omega
          generalize k % 8 = km at *
          generalize k / 8 = kd at *
          obtain ⟨x0, x1, x2, x3, x4⟩ := BX.out wq (SH.out wq GR.out)
          have C1 : Hid _ := CGx.out km wq m1 (GW.out wq GR.out)
          have C2 : Hid (∀ W, w.grownBy W none → Calls Try.prog 15 #[trsV (L : Int) (N' : Int) b' y.R.length d' y.S e' y.M.length f', .int .i64 (kd : Int)] W (Says (.bool (mkS y.M (2 * kd) y.M.length)) W)) := fun W hW => CGy.out kd W m2 hW
          generalize mkS x.M (2 * km) x.M.length = ga at *
          generalize mkS y.M (2 * kd) y.M.length = gb at *
          go_wp2_with fail
          refine Calls.mono C1.out ?_
          rintro E w3 ⟨rfl, hg3⟩
          have G3 : Hid (W2.grownBy w3 (some gs)) := grown_trans GR.out (grown_some hg3)
          have R3 : Hid (ARow w3 gs G) := RO.out.kept hg3
          obtain ⟨z0, z1, z2, z3, z4⟩ := BY.out w3 (SH.out w3 G3.out)
          clear hg3 C1 GR RO x0 x1 x2 x3 x4
          go_wp2_with fail
          refine (C2.out w3 (GW.out w3 G3.out)).mono ?_
          rintro E w4 ⟨rfl, hg4⟩
          have G4 : Hid (W2.grownBy w4 (some gs)) := grown_trans G3.out (grown_some hg4)
          have R4 : Hid (ARow w4 gs G) := R3.out.kept hg4
          have c0 := R4.out.cell hk64
          have hle := LE.out k
          have HGk : Hid (G k = G k) := rfl
          obtain ⟨u, hu⟩ : ∃ u, G k = u := ⟨_, rfl⟩
          have HU : Hid (G k = u) := hu
          rw [hu] at c0 hle
          clear hg4 C2 G3 R3 z0 z1 z2 z3 z4 hu HGk
          by_cases u0 : u = 0
          · have d0 : decide ((0 : Int) < (u : Int)) = false := by simp; omega
            have d0' : decide (0 < u) = false := by simp; omega
            have LN : Hid (LeastI x y G (k + 1) r) := LI.out.skip (.inl (by rw [HU.out]; exact u0))
            have u0' : ¬ (0 < u) := by omega
            clear u0
            go_wp2_with fail
            go_roundw
            case rel => exact ⟨k + 1, r, rfl, by go_num, by omega, hr, LN.out, R4.out, G4.out⟩
            case measure => simp [intOf]; omega
          have d0 : decide ((0 : Int) < (u : Int)) = true := by simp; omega
          have d0' : decide (0 < u) = true := by simp; omega
          have d0'' : 0 < u := by omega
          cases ga
          case false =>
            have LN : Hid (LeastI x y G (k + 1) r) := LI.out.skip (.inr (.inl (by rw [HSp.out]; rfl)))
            go_wp2_with fail
            go_roundw
            case rel => exact ⟨k + 1, r, rfl, by go_num, by omega, hr, LN.out, R4.out, G4.out⟩
            case measure => simp [intOf]; omega
          cases gb
          case true =>
            have LN : Hid (LeastI x y G (k + 1) r) := LI.out.skip (.inr (.inl (by rw [HSp.out]; rfl)))
            go_wp2_with fail
            go_roundw
            case rel => exact ⟨k + 1, r, rfl, by go_num, by omega, hr, LN.out, R4.out, G4.out⟩
            case measure => simp [intOf]; omega
          have HT : Hid (r = 0 ∨ u < r → LeastI x y G (k + 1) u) := fun e => by have := LI.out.take (by rw [HU.out]; exact u0) (by rw [HSp.out]; rfl) (by rw [HU.out]; exact e); rwa [HU.out] at this
          have HK : Hid (¬ (r = 0 ∨ u < r) → LeastI x y G (k + 1) r) := fun e => LI.out.skip (.inr (.inr (by rw [HU.out]; omega)))
          by_cases r0 : r = 0
          · have d1 : ((r : Int) == 0) = true := by simp; omega
            have LN : Hid (LeastI x y G (k + 1) u) := HT.out (.inl r0)
            clear r0 HT HK u0
            go_wp2_with fail
            go_roundw
            case rel => exact ⟨k + 1, u, rfl, by go_num, by omega, hle, LN.out, R4.out, G4.out⟩
            case measure => simp [intOf]; omega
          have d1 : ((r : Int) == 0) = false := by simp; omega
          by_cases ur : u < r
          · have d2 : (u : Int) < (r : Int) := by omega
            have LN : Hid (LeastI x y G (k + 1) u) := HT.out (.inr ur)
            clear r0 HT HK u0
            go_wp2_with fail
            go_roundw
            case rel => exact ⟨k + 1, u, rfl, by go_num, by omega, hle, LN.out, R4.out, G4.out⟩
            case measure => simp [intOf]; omega
          · have d2 : ¬ (u : Int) < (r : Int) := by omega
            have LN : Hid (LeastI x y G (k + 1) r) := HK.out (by omega)
            clear r0 HT HK u0
            go_wp2_with fail
            go_roundw
            case rel => exact ⟨k + 1, r, rfl, by go_num, by omega, hr, LN.out, R4.out, G4.out⟩
            case measure => simp [intOf]; omega
        · have qk : ¬ (k : Int) < 64 := by omega
          have hk' : k = 64 := by omega
          have Fin : Hid (Po (.returned (.int .i64 (r : Int))) wq) := HFin.out G r wq II.out FF.out (by have := LI.out; rw [hk'] at this; exact this) hr (GW.out wq GR.out)
          clear hk'
          go_wp2_with fail
          first | exact Fin.out | (go_ret; exact Fin.out)
    case true =>
      have HS : Hid (sumC wr gs 64 = sumA G 64) := RR.out.sum
      obtain ⟨s0, hs0⟩ : ∃ s0, sumA G 64 = s0 := ⟨_, rfl⟩
      rw [hs0] at HS
      have N0 : Hid (ApSt x y L W2 gs s0 0 0 0 0 false G wr) := ⟨RR.out, II.out, LE.out, by rw [hs0]; simp [bitA], fun _ => Fx.start G, GR.out, GR.out.size⟩
      clear hs0 FX RR II LE GR
      go_wp2_with fail
      go_loopw [6, 7] (fun v6 v7 wq => ∃ (l : Nat) (sm : Bool) (G : Nat → Nat), v6 = .bool sm ∧ v7 = .int .i64 l ∧ l ≤ L ∧ ApSt x y L W2 gs s0 l l 0 0 sm G wq) (fun _ v7 _ => L - (intOf v7).toNat)
      case atStart => exact ⟨0, false, G, rfl, rfl, by omega, N0.out⟩
      case round =>
        clear N0
        rename World => wq
        obtain ⟨l, sm, G, rfl, rfl, hl, hI⟩ := hrel
        have NI : Hid (ApSt x y L W2 gs s0 l l 0 0 sm G wq) := hI
        clear hI
        obtain ⟨x0, x1, x2, x3, x4⟩ := BX.out wq (SH.out wq NI.out.gr)
        by_cases hln : l < L
        · have ql : (l : Int) < (L : Int) := by omega
          obtain ⟨q1, q2, q3, q4⟩ := HLf.out l
          have HLi : Hid (lfI x y l = nxA x.R l 1 1 / 2 + 8 * (nxA y.R l 1 1 / 2)) := rfl
          obtain ⟨za, hza⟩ : ∃ za, nxA x.R l 1 1 / 2 = za := ⟨_, rfl⟩
          obtain ⟨zb, hzb⟩ : ∃ zb, nxA y.R l 1 1 / 2 = zb := ⟨_, rfl⟩
          rw [hza] at q1 q3 HLi
          rw [hzb] at q2 q4 HLi
          have C1 : Hid (Calls Try.prog 14 #[trsV (L : Int) (N : Int) b x.R.length d x.S e x.M.length f, .int .i64 (l : Int), .int .i64 (-1), .int .i64 (-1)] wq (Says (.int .i64 (za : Int)) wq)) := CLx.out l wq (GW.out wq NI.out.gr) za q1
          have C2 : Hid (∀ W, w.grownBy W none → Calls Try.prog 14 #[trsV (L : Int) (N' : Int) b' y.R.length d' y.S e' y.M.length f', .int .i64 (l : Int), .int .i64 (-1), .int .i64 (-1)] W (Says (.int .i64 (zb : Int)) W)) := fun W hW => CLy.out l W hW zb q2
          obtain ⟨i, hi⟩ : ∃ i, za + 8 * zb = i := ⟨_, rfl⟩
          rw [hi] at HLi
          obtain ⟨m8, w1, w2, h64⟩ := ixW q3 q4 hi
          clear hza hzb q1 q2 hi
          go_wp2_with fail
          refine C1.out.mono ?_
          rintro E w3 ⟨rfl, hg3⟩
          have N3 : Hid (ApSt x y L W2 gs s0 l l 0 0 sm G w3) := NI.out.kept hg3
          obtain ⟨z0, z1, z2, z3, z4⟩ := BY.out w3 (SH.out w3 N3.out.gr)
          clear hg3 C1 NI x0 x1 x2 x3 x4
          go_wp2_with fail
          refine (C2.out w3 (GW.out w3 N3.out.gr)).mono ?_
          rintro E w4 ⟨rfl, hg4⟩
          have N4 : Hid (ApSt x y L W2 gs s0 l l 0 0 sm G w4) := N3.out.kept hg4
          clear hg4 C2 N3 z0 z1 z2 z3 z4
          have c0 := N4.out.row.cell h64
          have f0 := N4.out.row.frozen i
          have hi64 : (i : Int) < 64 := by omega
          rcases Classical.em (G i = 1) with hg1 | hg1
          case' inl =>
            have d1 : (((G i : Nat) : Int) != 1) = false := by simp; omega
            have N5 : Hid (ApSt x y L W2 gs s0 (l + 1) l 0 0 sm G w4) := N4.out.leafSame (by rw [HLi.out]; exact hg1)
            clear hg1 N4
            go_wp2_with fail
          case' inr =>
            have d1 : (((G i : Nat) : Int) != 1) = true := by simp; omega
            have N5 : Hid (ApSt x y L W2 gs s0 (l + 1) l 0 0 true (updA G i 1) (w4.setCell ⟨gs, i, none⟩ (.int .i64 1))) := N4.out.leafPut HLi.out h64 hln hg1
            clear hg1 N4
            go_wp2_with fail
          all_goals
            clear c0 f0 d1 w1 w2 hi64 h64 HLi q3 q4
            go_loopw [6, 10] (fun v6 v10 wq => ∃ (p : Nat) (sm : Bool) (G : Nat → Nat), v6 = .bool sm ∧ v10 = .int .i64 p ∧ p ≤ 64 ∧ ApSt x y L W2 gs s0 (l + 1) l p 0 sm G wq) (fun _ v10 _ => 64 - (intOf v10).toNat)
            case atStart => exact ⟨0, _, _, rfl, rfl, by omega, N5.out⟩
            case round =>
              clear N5
              rename World => wq
              obtain ⟨p, sm, G, rfl, rfl, hp, hI⟩ := hrel
              have NI : Hid (ApSt x y L W2 gs s0 (l + 1) l p 0 sm G wq) := hI
              clear hI
              by_cases hp64 : p < 64
              · have qp : (p : Int) < 64 := by omega
                go_wp2_with fail
                go_loopw [6, 11] (fun v6 v11 wq => ∃ (q : Nat) (sm : Bool) (G : Nat → Nat), v6 = .bool sm ∧ v11 = .int .i64 q ∧ q ≤ 64 ∧ ApSt x y L W2 gs s0 (l + 1) l p q sm G wq) (fun _ v11 _ => 64 - (intOf v11).toNat)
                case atStart => exact ⟨0, _, _, rfl, rfl, by omega, NI.out⟩
                case round =>
                  clear NI
                  rename World => wq
                  obtain ⟨q, sm, G, rfl, rfl, hq, hI⟩ := hrel
                  have NI : Hid (ApSt x y L W2 gs s0 (l + 1) l p q sm G wq) := hI
                  clear hI
                  by_cases hq64 : q < 64
                  · have qq : (q : Int) < 64 := by omega
                    have cp := NI.out.row.cell hp64
                    have cq := NI.out.row.cell hq64
                    have lp := NI.out.le p
                    have lq := NI.out.le q
                    obtain ⟨up, hup⟩ : ∃ u, G p = u := ⟨_, rfl⟩
                    obtain ⟨uq, huq⟩ : ∃ u, G q = u := ⟨_, rfl⟩
                    have HUp : Hid (G p = up) := hup
                    have HUq : Hid (G q = uq) := huq
                    rw [hup] at cp lp
                    rw [huq] at cq lq
                    clear hup huq
                    by_cases p0 : up = 0
                    · have d0 : ((up : Int) == 0) = true := by simp; omega
                      have NN : Hid (ApSt x y L W2 gs s0 (l + 1) l p (q + 1) sm G wq) := NI.out.skip (.inl (by rw [HUp.out]; exact p0))
                      clear p0
                      go_wp2_with fail
                      go_roundw
                      case rel => exact ⟨q + 1, sm, G, rfl, by go_num, by omega, NN.out⟩
                      case measure => simp [intOf]; omega
                    have d0 : ((up : Int) == 0) = false := by simp; omega
                    by_cases q0 : uq = 0
                    · have d1 : ((uq : Int) == 0) = true := by simp; omega
                      have NN : Hid (ApSt x y L W2 gs s0 (l + 1) l p (q + 1) sm G wq) := NI.out.skip (.inr (by rw [HUq.out]; exact q0))
                      clear q0 p0
                      go_wp2_with fail
                      go_roundw
                      case rel => exact ⟨q + 1, sm, G, rfl, by go_num, by omega, NN.out⟩
                      case measure => simp [intOf]; omega
                    have d1 : ((uq : Int) == 0) = false := by simp; omega
                    obtain ⟨za, zb, n1, n2, l1, l2, hnd⟩ := HNd.out l p q
                    have hpm : (p : Int) % 8 = ((p % 8 : Nat) : Int) := by omega
                    have hpd : (p : Int) / 8 = ((p / 8 : Nat) : Int) := by omega
                    have hqm : (q : Int) % 8 = ((q % 8 : Nat) : Int) := by omega
                    have hqd : (q : Int) / 8 = ((q / 8 : Nat) : Int) := by omega
                    have C1 : Hid (Calls Try.prog 14 #[trsV (L : Int) (N : Int) b x.R.length d x.S e x.M.length f, .int .i64 (l : Int), .int .i64 ((p % 8 : Nat) : Int), .int .i64 ((q % 8 : Nat) : Int)] wq (Says (.int .i64 (za : Int)) wq)) := CNx.out l (p % 8) (q % 8) wq (by omega) (by omega) (GW.out wq NI.out.gr) za n1
                    have C2 : Hid (∀ W, w.grownBy W none → Calls Try.prog 14 #[trsV (L : Int) (N' : Int) b' y.R.length d' y.S e' y.M.length f', .int .i64 (l : Int), .int .i64 ((p / 8 : Nat) : Int), .int .i64 ((q / 8 : Nat) : Int)] W (Says (.int .i64 (zb : Int)) W)) := fun W hW => CNy.out l (p / 8) (q / 8) W (by omega) (by omega) hW zb n2
                    clear n1 n2
                    generalize p % 8 = pm at *
                    generalize p / 8 = pd at *
                    generalize q % 8 = qm at *
                    generalize q / 8 = qd at *
                    obtain ⟨i, hi⟩ : ∃ i, za + 8 * zb = i := ⟨_, rfl⟩
                    obtain ⟨m8, w1, w2, h64⟩ := ixW l1 l2 hi
                    have HLi : Hid (ndI x y l p q = i) := hnd.trans hi
                    obtain ⟨x0, x1, x2, x3, x4⟩ := BX.out wq (SH.out wq NI.out.gr)
                    clear hi hnd
                    go_wp2_with fail
                    refine C1.out.mono ?_
                    rintro E w3 ⟨rfl, hg3⟩
                    have N3 : Hid (ApSt x y L W2 gs s0 (l + 1) l p q sm G w3) := NI.out.kept hg3
                    obtain ⟨z0, z1, z2, z3, z4⟩ := BY.out w3 (SH.out w3 N3.out.gr)
                    clear hg3 C1 NI x0 x1 x2 x3 x4 cp cq
                    go_wp2_with fail
                    refine (C2.out w3 (GW.out w3 N3.out.gr)).mono ?_
                    rintro E w4 ⟨rfl, hg4⟩
                    have N4 : Hid (ApSt x y L W2 gs s0 (l + 1) l p q sm G w4) := N3.out.kept hg4
                    clear hg4 C2 N3 z0 z1 z2 z3 z4
                    have cp := N4.out.row.cell hp64
                    have cq := N4.out.row.cell hq64
                    rw [HUp.out] at cp
                    rw [HUq.out] at cq
                    go_wp2_with fail
                    go_quiet (fail)
                    obtain ⟨Wq, hWq⟩ : ∃ Wq, w4.drewN nq = Wq := ⟨_, rfl⟩
                    rw [hWq]
                    have N5 : Hid (ApSt x y L W2 gs s0 (l + 1) l p q sm G Wq) := N4.out.kept (hWq ▸ grown_drewN (grown_refl _ _) _)
                    have c0 := N5.out.row.cell h64
                    have f0 := N5.out.row.frozen i
                    have hi64 : (i : Int) < 64 := by omega
                    have li := N5.out.le i
                    obtain ⟨ui, hui⟩ : ∃ u, G i = u := ⟨_, rfl⟩
                    have HUi : Hid (G i = ui) := hui
                    rw [hui] at c0 li
                    obtain ⟨n, hn⟩ : ∃ n, min (up + uq + 1) 1000 = n := ⟨_, rfl⟩
                    have HPt : Hid (ui = 0 ∨ n < ui → ApSt x y L W2 gs s0 (l + 1) l p (q + 1) true (updA G i n) (Wq.setCell ⟨gs, i, none⟩ (.int .i64 (n : Int)))) := fun hh => HPut.out W2 Wq gs s0 (l + 1) l p q sm G i n N5.out HLi.out h64 hln (by rw [HUp.out, HUq.out]; exact hn.symm) (by rw [HUp.out]; exact p0) (by rw [HUq.out]; exact q0) (by rw [HUi.out]; exact hh)
                    have HSm : Hid (¬ (ui = 0 ∨ n < ui) → ApSt x y L W2 gs s0 (l + 1) l p (q + 1) sm G Wq) := fun hh => N5.out.same HLi.out (n := n) (by rw [HUp.out, HUq.out]; exact hn.symm) (by rw [HUi.out]; omega) (by rw [HUi.out]; omega)
                    have hw3 : IntKind.i64.wrap ((up : Int) + (uq : Int) + 1) = (up : Int) + (uq : Int) + 1 := by rw [IntKind.wrap_i64]; omega
                    have HN : Hid (min (up + uq + 1) 1000 = n) := hn
                    clear hui hWq N4 cp cq HLi p0 q0 hn
                    rcases Nat.lt_or_ge 1000 (up + uq + 1) with hbig | hbig
                    · have hn2 : n = 1000 := by have := HN.out; omega
                      have HPt2 : Hid (ui = 0 ∨ 1000 < ui → ApSt x y L W2 gs s0 (l + 1) l p (q + 1) true (updA G i 1000) (Wq.setCell ⟨gs, i, none⟩ (.int .i64 1000))) := by rw [hn2] at HPt; exact HPt
                      have HSm2 : Hid (¬ (ui = 0 ∨ 1000 < ui) → ApSt x y L W2 gs s0 (l + 1) l p (q + 1) sm G Wq) := by rw [hn2] at HSm; exact HSm
                      have d2 : decide (1000 < (up : Int) + (uq : Int) + 1) = true := by simp; omega
                      have d2' : (1000 : Int) < (up : Int) + (uq : Int) + 1 := by omega
                      clear hbig HN hn2 HPt HSm
                      by_cases i0 : ui = 0
                      · have d3 : ((ui : Int) == 0) = true := by simp; omega
                        have NN : Hid _ := HPt2.out (.inl i0)
                        clear i0 HPt2 HSm2 N5
                        go_wp2_with fail
                        go_roundw
                        case rel => exact ⟨q + 1, true, _, rfl, by go_num, by omega, NN.out⟩
                        case measure => simp [intOf]; omega
                      have d3 : ((ui : Int) == 0) = false := by simp; omega
                      by_cases ni : 1000 < ui
                      · exact absurd ni (by omega)
                      · have d4 : ¬ ((1000 : Int) < (ui : Int)) := by omega
                        have NN : Hid _ := HSm2.out (by omega)
                        clear i0 HPt2 HSm2 N5
                        go_wp2_with fail
                        go_roundw
                        case rel => exact ⟨q + 1, sm, G, rfl, by go_num, by omega, NN.out⟩
                        case measure => simp [intOf]; omega
                    · have hn2 : (up : Int) + (uq : Int) + 1 = (n : Int) := by have := HN.out; omega
                      have d2' : ¬ ((1000 : Int) < (n : Int)) := by have := HN.out; omega
                      rw [hn2] at hw3
                      have HPt2 : Hid _ := HPt.out
                      have HSm2 : Hid _ := HSm.out
                      clear hbig HN HPt HSm
                      by_cases i0 : ui = 0
                      · have d3 : ((ui : Int) == 0) = true := by simp; omega
                        have NN : Hid _ := HPt2.out (.inl i0)
                        clear i0 HPt2 HSm2 N5
                        go_wp2_with fail
                        go_roundw
                        case rel => exact ⟨q + 1, true, _, rfl, by go_num, by omega, NN.out⟩
                        case measure => simp [intOf]; omega
                      have d3 : ((ui : Int) == 0) = false := by simp; omega
                      by_cases ni : n < ui
                      · have d4 : (n : Int) < (ui : Int) := by omega
                        have NN : Hid _ := HPt2.out (.inr ni)
                        clear i0 HPt2 HSm2 N5
                        go_wp2_with fail
                        go_roundw
                        case rel => exact ⟨q + 1, true, _, rfl, by go_num, by omega, NN.out⟩
                        case measure => simp [intOf]; omega
                      · have d4 : ¬ ((n : Int) < (ui : Int)) := by omega
                        have NN : Hid _ := HSm2.out (by omega)
                        clear i0 HPt2 HSm2 N5
                        go_wp2_with fail
                        go_roundw
                        case rel => exact ⟨q + 1, sm, G, rfl, by go_num, by omega, NN.out⟩
                        case measure => simp [intOf]; omega
                  · have qq : ¬ (q : Int) < 64 := by omega
                    obtain rfl : q = 64 := by omega
                    have NN : Hid (ApSt x y L W2 gs s0 (l + 1) l (p + 1) 0 sm G wq) := NI.out.nextP
                    go_wp2_with fail
                    go_roundw
                    case rel => exact ⟨p + 1, sm, G, rfl, by go_num, by omega, NN.out⟩
                    case measure => simp [intOf]; omega
              · have qp : ¬ (p : Int) < 64 := by omega
                obtain rfl : p = 64 := by omega
                have NN : Hid (ApSt x y L W2 gs s0 (l + 1) (l + 1) 0 0 sm G wq) := NI.out.nextL
                go_wp2_with fail
                go_roundw
                case rel => exact ⟨l + 1, sm, G, rfl, by go_num, by omega, NN.out⟩
                case measure => simp [intOf]; omega
        · have ql : ¬ (l : Int) < (L : Int) := by omega
          obtain rfl : l = L := by omega
          have HS2 : Hid (sumC wq gs 64 = sumA G 64) := NI.out.row.sum
          have HSum : Hid (sumA G 64 + bitA sm ≤ s0) := NI.out.sum
          go_wp2_with fail
          go_roundw
          case rel => exact ⟨sm, G, rfl, NI.out.row, NI.out.inv, NI.out.le, fun e => (NI.out.fix e).done, NI.out.gr⟩
          case measure =>
            have h1 := HS2.out
            have h2 := HSum.out
            have h3 := HS.out
            rw [h1, h3]
            show 2 * sumA G 64 + bitA sm < 2 * s0 + bitA true
            cases sm <;> simp [bitA] at h2 ⊢ <;> omega

end Go.Proofs.Ytppikfgfmlipmaa
