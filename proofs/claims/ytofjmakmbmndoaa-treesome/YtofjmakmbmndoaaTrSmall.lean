/- A least tree: the program's smallest and Some. -/
import Derived.Test.YtofjmakmbmndoaaTrNew
import Derived.Test.YtofjmakmbmndoaaTrGrowW
import Derived.Test.YtofjmakmbmndoaaTrCheck2
namespace Go.Proofs.Ytofjmakmbmndoaa
open Go.RowKit
set_option linter.unusedVariables false

/-- The best of the first k states. -/
structure BestI (M : List Int) (F : Nat → Nat) (k : Nat) (best : Int) (n : Nat) : Prop where
  le : n ≤ 62
  all : ∀ q, q < k → M.getD q 0 = 1 → n ≤ F (q + 1)
  is : (n = 62 ∧ best = -1) ∨ ∃ q : Nat, q < k ∧ best = q ∧ M.getD q 0 = 1 ∧ n = F (q + 1) ∧ n < 62
theorem BestI.start (M : List Int) (F : Nat → Nat) : BestI M F 0 (-1) 62 := ⟨Nat.le_refl _, fun q hq => by omega, .inl ⟨rfl, rfl⟩⟩
theorem BestI.skip {M : List Int} {F : Nat → Nat} {k : Nat} {best : Int} {n : Nat} (h : BestI M F k best n) (hs : M.getD k 0 = 1 → n ≤ F (k + 1)) : BestI M F (k + 1) best n := by
  refine ⟨h.le, fun q hq hm => ?_, ?_⟩
  · by_cases e : q = k
    · subst e; exact hs hm
    · exact h.all q (by omega) hm
  · rcases h.is with h1 | ⟨q, h1, h2⟩
    · exact .inl h1
    · exact .inr ⟨q, by omega, h2⟩
theorem BestI.take {M : List Int} {F : Nat → Nat} {k : Nat} {best : Int} {n : Nat} (h : BestI M F k best n) (hm : M.getD k 0 = 1) (hlt : F (k + 1) < n) : BestI M F (k + 1) k (F (k + 1)) := by
  have := h.le
  refine ⟨by omega, fun q hq hmq => ?_, .inr ⟨k, by omega, rfl, hm, rfl, by omega⟩⟩
  by_cases e : q = k
  · subst e; exact Nat.le_refl _
  · have := h.all q (by omega) hmq
    omega
theorem BestI.min {R : List RuleI} {L : Int} {nN : Nat} (hR : InRu R L nN) {M : List Int} {F : Nat → Nat} {ρ : Nat → RuleI} (hI : SeedI R F ρ) (hF : Fixed R F) {best : Int} {n : Nat} (h : BestI M F M.length best n) (hn : n ≤ 60) : ∃ q : Nat, best = q ∧ q < M.length ∧ M.getD q 0 = 1 ∧ F (q + 1) = n ∧ MinM R M n := by
  rcases h.is with ⟨h1, _⟩ | ⟨q, h1, h2, h3, h4, h5⟩
  · omega
  · have hd := (fixed_der hR hI hF n (q : Int) (by omega) (by rw [plc_nat]; exact h4.symm) hn).1
    refine ⟨q, h2, h1, h3, h4.symm, ⟨q, h1, h3, hd⟩, fun q' m hq' hm' hd' => ?_⟩
    have a := h.all q' hq' hm'
    have b := fixed_le hR hI.zero hF hd'
    rw [plc_nat] at b
    omega
theorem BestI.no {R : List RuleI} {L : Int} {nN : Nat} (hR : InRu R L nN) {M : List Int} {F : Nat → Nat} {ρ : Nat → RuleI} (hI : SeedI R F ρ) (hF : Fixed R F) {best : Int} {n : Nat} (h : BestI M F M.length best n) (hn : 60 < n) : NoM R M := fun q' m hq' hm' hd' => by
  have a := h.all q' hq' hm'
  have b := fixed_le hR hI.zero hF hd'
  rw [plc_nat] at b
  omega

theorem BestI.some {R : List RuleI} {M : List Int} {F : Nat → Nat} {ρ : Nat → RuleI} (hI : SeedI R F ρ) {best : Int} {n : Nat} (h : BestI M F M.length best n) (hn : n < 62) : ∃ q : Nat, q < M.length ∧ M.getD q 0 = 1 ∧ ∃ m, Der R q m := by
  rcases h.is with ⟨h1, _⟩ | ⟨q, h1, h2, h3, h4, h5⟩
  · omega
  · exact ⟨q, h1, h3, hI.ex q (by omega) (by rw [plc_nat, ← h4]; exact h5)⟩
theorem BestI.none {R : List RuleI} {L : Int} {nN : Nat} (hR : InRu R L nN) {M : List Int} {F : Nat → Nat} {ρ : Nat → RuleI} (hI : SeedI R F ρ) (hF : Fixed R F) {best : Int} (h : BestI M F M.length best 62) : ∀ q m : Nat, q < M.length → M.getD q 0 = 1 → ¬ Der R q m := fun q m hq hm hd => by
  have a := h.all q hq hm
  have b := fixed_le hR hI.zero hF hd
  rw [plc_nat] at b
  omega
/-- Whether there are trees at all. -/
def SmallEx (R : List RuleI) (M : List Int) (n : Nat) : Prop := (n < 62 → ∃ q : Nat, q < M.length ∧ M.getD q 0 = 1 ∧ ∃ m, Der R q m) ∧ (n = 62 → ∀ q m : Nat, q < M.length → M.getD q 0 = 1 → ¬ Der R q m)
theorem NodAt.nodes {w : World} {bt : Nat} {T : List NodeI} {a : Option Addr} {c : Nat} (h : NodAt w bt T a c) : NodesAt w a T := by
  by_cases h0 : T.length = 0
  · exact .inl (List.length_eq_zero_iff.1 h0)
  · right
    obtain ⟨g, cap, e, _, _⟩ := h.own.form (by omega)
    cases e
    refine ⟨g, 0, rfl, fun i hi => ?_⟩
    obtain ⟨f0, f1, f2⟩ := flatN_get T hi
    have k : ∀ j u, (flatN T)[j]? = some u → w.cell? ⟨g, j, none⟩ = some u := fun j u hu => by
      have := h.own.cells (g := g) rfl j u hu
      by_cases hj0 : j = 0
      · subst hj0; simpa [Addr.add] using this
      · simpa [Addr.add, hj0] using this
    rw [Nat.zero_add]
    exact ⟨k _ _ f0, k _ _ f1, k _ _ f2⟩

/-- What smallest answers. -/
def SmallIs (R : List RuleI) (M : List Int) (L : Int) (T : List NodeI) (n : Nat) : Prop :=
  (n ≤ 60 ∧ MinM R M n ∧ T.length = n ∧ ∃ q : Nat, q < M.length ∧ M.getD q 0 = 1 ∧ GrowP R L [] q n T) ∨ (60 < n ∧ T = [] ∧ NoM R M)
def SmallPost (R : List RuleI) (M : List Int) (L : Int) (w : World) (E : Ending) (w' : World) : Prop :=
  ∃ T a c n, E = .returned (.tuple #[treeV a T.length c, .int .i64 ((n : Nat) : Int)]) ∧ n ≤ 62 ∧ SmallIs R M L T n ∧ NodesAt w' a T ∧ w.grownBy w' none ∧ SmallEx R M n

set_option maxHeartbeats 6400000 in
set_option maxRecDepth 100000 in
theorem smallest_any (x : Trs) (b e : Option Addr) (d f : Nat) (w : World) (h : TrsAt w x b e) (hR : InRu x.R x.L x.N) (hr4 : x.R.length ≤ 100000000) (hN1 : 1 ≤ x.N) (hN : x.N ≤ 300) (hM : (x.M.length : Int) = x.N) :
    Calls Try.prog 25 #[trsV x.L x.N b x.R.length d x.S e x.M.length f] w (SmallPost x.R x.M x.L w) := by
  obtain ⟨L, N, R, S0, M⟩ := x
  simp only at *
  obtain ⟨nN, rfl⟩ : ∃ n : Nat, N = n := ⟨N.toNat, by omega⟩
  have HM : Hid (∀ W, w.grownBy W none → Ints W e M) := fun W hW => (h.grown hW).marks
  have HRu : Hid (InRu R L nN) := hR
  obtain ⟨nR, hnR⟩ : ∃ n, R.length = n := ⟨_, rfl⟩
  obtain ⟨nM, hnM⟩ : ∃ n, M.length = n := ⟨_, rfl⟩
  have HnM : Hid (M.length = nM) := hnM
  have HNew : Hid (∀ W, w.grownBy W none → Calls Try.prog 30 #[trsV L nN b nR d S0 e nM f] W (NewPost R (nN + 1) W)) := fun W hW => newSeeds_any L S0 nN nR d nM f b e R W (h.grown hW).rules hR hnR (by omega) (by omega)
  have HPl : Hid (∀ (s : Int) (p : Nat), s + 1 = p → p ≤ 1000000 → ∀ W, Calls Try.prog 28 #[.int .i64 s] W fun e w' => e = .returned (.int .i64 (p : Int)) ∧ w' = W) := fun s p h1 h2 W => place_any s p h1 h2 W
  rw [hnR, hnM]
  rw [hnM] at hM
  have hMn : nM = nN := by omega
  have HMn : Hid (nM = nN) := hMn
  have hnM3 : nM ≤ 300 := by omega
  have hnN3 : nN ≤ 300 := by omega
  obtain ⟨nP, hnP⟩ : ∃ p, nN + 1 = p := ⟨_, rfl⟩
  have HnP : Hid (nN + 1 = nP) := hnP
  rw [hnP] at HNew
  obtain ⟨W0, hW0, g0, s0, bx0⟩ := box5_new w (.int .i64 L) (.int .i64 (nN : Int)) (.slice b nR d) (.int .i64 S0) (.slice e nM f) 25
  obtain ⟨W1, hW1, g1, s1, bx1⟩ := box1_new W0 (.slice none 0 0) 28
  have HW1 : Hid (W1 = (w.alloc (.cells #[.int .i64 L, .int .i64 (nN : Int), .slice b nR d, .int .i64 S0, .slice e nM f] 25)).alloc (.cells #[.slice none 0 0] 28)) := by show _ = _; rw [hW1, hW0]
  have G1 : Hid (w.grownBy W1 none) := grown_trans g0 g1
  have hrb := heap_alloc_new W0 (.cells #[.slice none 0 0] 28)
  rw [← hW1, s0] at hrb
  have HRB : Hid (W1.heap[w.heap.size + 1]? = some (.cells #[.slice none 0 0] 28 (0, 0)) ∧ W1.heap.size = w.heap.size + 1 + 1) := ⟨hrb, by rw [s1, s0]⟩
  have B0 : Hid (∀ W', W1.grownBy W' none → W'.cell? ⟨w.heap.size, 0, none⟩ = some (.int .i64 L) ∧ W'.cell? ⟨w.heap.size, 1, none⟩ = some (.int .i64 (nN : Int)) ∧ W'.cell? ⟨w.heap.size, 2, none⟩ = some (.slice b nR d) ∧ W'.cell? ⟨w.heap.size, 3, none⟩ = some (.int .i64 S0) ∧ W'.cell? ⟨w.heap.size, 4, none⟩ = some (.slice e nM f)) := fun W' hW' => bx0 W' (grown_trans g1 hW')
  obtain ⟨x0, x1, x2, x3, x4⟩ := B0.out W1 (grown_refl _ _)
  rw [HW1.out] at x0 x1 x2 x3 x4
  clear h hR hr4 hN1 hN hM hnR hnM hMn hnP hW0 hW1 g0 g1 s0 s1 bx0 bx1 hrb
  go_enter Try.func25, Try.ntmps25
  go_wp2_with fail
  rw [← HW1.out]
  clear x0 x1 x2 x3 x4
  refine (HNew.out _ G1.out).mono ?_
  rintro E w2 ⟨gs, F, ρ, rfl, hS, hI, hF, hg2, hgs⟩
  have SS : Hid (SRow w2 gs nP F ρ) := hS
  have II : Hid (SeedI R F ρ) := hI
  have FX : Hid (Fixed R F) := hF
  have G2 : Hid (W1.grownBy w2 none) := hg2
  have IM : Hid (Ints w2 e M) := HM.out w2 (grown_trans G1.out hg2)
  have HLe : Hid (∀ p, F p ≤ 62) := hI.le
  have x4 := (B0.out w2 hg2).2.2.2.2
  clear hS hI hF hg2 hgs HNew HM
  go_wp2_with fail
  clear x4
  go_loop [5, 6, 16] (fun v5 v6 v16 => ∃ (k n : Nat) (best : Int), v5 = .int .i64 best ∧ v6 = .int .i64 (n : Int) ∧ v16 = .int .i64 (k : Int) ∧ k ≤ nM ∧ BestI M F k best n) (fun _ _ v16 => nM - (intOf v16).toNat)
  case atStart => exact ⟨0, 62, -1, rfl, rfl, rfl, by omega, BestI.start M F⟩
  case round =>
    obtain ⟨k, n, best, rfl, rfl, rfl, hk, hB⟩ := hrel
    have BB : Hid (BestI M F k best n) := hB
    clear hB
    by_cases hkn : k < nM
    · have qk : (k : Int) < (nM : Int) := by omega
      obtain ⟨be, offe, he, hc⟩ := IM.out.at (k := k) (by rw [HnM.out]; exact hkn)
      subst he
      have y4 := hc k (by rw [HnM.out]; exact hkn)
      obtain ⟨k', hk'⟩ : ∃ k', k + 1 = k' := ⟨_, rfl⟩
      have hkP : k' < nP := by have := HnP.out; have := HMn.out; omega
      have ik : (k' : Int) < (nP : Int) := by omega
      have y5 := SS.out.cell hkP
      have HPk : Hid (∀ W, Calls Try.prog 28 #[.int .i64 (k : Int)] W fun e w' => e = .returned (.int .i64 (k' : Int)) ∧ w' = W) := HPl.out k k' (by omega) (by omega)
      have HSk : Hid ((M.getD k 0 = 1 → n ≤ F k') → BestI M F (k + 1) best n) := fun hh => BB.out.skip (by rw [hk']; exact hh)
      have HTk : Hid (M.getD k 0 = 1 → F k' < n → BestI M F (k + 1) k (F k')) := fun h1 h2 => by
        have := BB.out.take h1 (by rw [hk']; exact h2)
        have e : F (k + 1) = F k' := by rw [hk']
        rwa [e] at this
      generalize M.getD k 0 = mv at *
      generalize F k' = fv at *
      clear hc hk' hkP
      go_wp2_with fail
      refine (HPk.out _).mono ?_
      rintro E w3 ⟨rfl, hw3⟩
      have hw3' := hw3.symm
      subst hw3'
      by_cases hm : mv = 1
      · have dm : (mv == 1) = true := by simpa using hm
        by_cases hlt : fv < n
        · have dl : decide ((fv : Int) < (n : Int)) = true := by simp; omega
          have HN : Hid _ := HTk.out hm hlt
          clear HSk HTk hm
          go_wp2_with fail
          go_round
          case rel => exact ⟨k + 1, fv, k, rfl, rfl, by go_num, by omega, HN.out⟩
          case measure => simp [intOf]; omega
        · have dl : decide ((fv : Int) < (n : Int)) = false := by simp; omega
          have HN : Hid _ := HSk.out (fun _ => by omega)
          clear HSk HTk hm
          go_wp2_with fail
          go_round
          case rel => exact ⟨k + 1, n, best, rfl, rfl, by go_num, by omega, HN.out⟩
          case measure => simp [intOf]; omega
      · have dm : (mv == 1) = false := by simpa using hm
        have HN : Hid _ := HSk.out (fun e => absurd e hm)
        clear HSk HTk hm
        go_wp2_with fail
        go_round
        case rel => exact ⟨k + 1, n, best, rfl, rfl, by go_num, by omega, HN.out⟩
        case measure => simp [intOf]; omega
    · have qk : ¬ (k : Int) < (nM : Int) := by omega
      obtain rfl : k = nM := by omega
      have BE : Hid (BestI M F M.length best n) := by show BestI _ _ _ _ _; rw [HnM.out]; exact BB.out
      have hn62 := BB.out.le
      have HEx : Hid (SmallEx R M n) := ⟨fun hlt => BE.out.some II.out hlt, fun heq => BestI.none HRu.out II.out FX.out (by have := BE.out; rwa [heq] at this)⟩
      obtain ⟨W3, hW3⟩ : ∃ W3, W3 = w2.alloc (.cells #[.slice none 0 0] 28) := ⟨_, rfl⟩
      have HW3 : Hid (W3 = _) := hW3
      have g23 : w2.grownBy W3 none := by rw [hW3]; exact grown_alloc _ _
      have hb3 := heap_alloc_new w2 (.cells #[.slice none 0 0] 28)
      rw [← hW3] at hb3
      have N3 : Hid (NodAt W3 w2.heap.size [] none 0) := ⟨hb3, World.ownsRow_nil _ _ _ _⟩
      have S3 : Hid (SRow W3 gs nP F ρ) := SS.out.kept g23
      have hsr := G2.out.size
      have hs1 := HRB.out.2
      have HGS : Hid (gs < w2.heap.size) := SS.out.lt
      have HRes : Hid (∀ (W : World) (v' : Value), GFr w2.heap.size W3 W (.slice none 0 0) v' → W.heap[w.heap.size + 1]? = some (.cells #[.slice none 0 0] 28 (0, 0)) ∧ w.grownBy W none) := fun W v' hW => by
        have hg : ∀ i, i < w2.heap.size → W.heap[i]? = w2.heap[i]? := fun i hi => (hW.block i (Nat.lt_of_lt_of_le hi g23.size) (by omega) (by simp [Value.ownBlock])).trans (g23.block i hi (by simp))
        refine ⟨(hg _ (by omega)).trans ((G2.out.block _ (by omega) (by simp)).trans HRB.out.1), ?_⟩
        have h1 := grown_trans G1.out G2.out
        exact ⟨hW.os.trans (g23.os.trans h1.os), hW.tape.trans (g23.tape.trans h1.tape), hW.output.trans (g23.output.trans h1.output), Nat.le_trans h1.size (Nat.le_trans g23.size hW.size), fun i hi _ => (hg i (by have := h1.size; omega)).trans (h1.block i hi (by simp))⟩
      clear hW3 g23 hb3 hsr hs1 BB IM
      by_cases hn60 : n ≤ 60
      · obtain ⟨q, hq1, hq2, hq3, hq4, hq5⟩ := BE.out.min HRu.out II.out FX.out hn60
        subst hq1
        have hqN : q < nN := by have := HnM.out; have := HMn.out; omega
        have CG : Hid (Calls Try.prog 31 #[.slice (some ⟨gs, 0, none⟩) nP nP, .pointer (some ⟨w2.heap.size, 0, none⟩), .int .i64 (q : Int)] W3 (GrowPost R L w2.heap.size [] (.slice none 0 0) q n W3)) := by
          have := grow_any HRu.out (by omega) II.out FX.out gs w2.heap.size HGS.out n q [] none 0 W3 hq4 hn60 hqN (by rw [HnP.out]; exact S3.out) N3.out (by simp; omega)
          rw [HnP.out] at this
          exact this
        have HQ : Hid (q < M.length ∧ M.getD q 0 = 1 ∧ MinM R M n) := ⟨hq2, hq3, hq5⟩
        have d61 : (n : Int) < 61 := by omega
        have d61' : decide ((n : Int) < 61) = true := by simpa using d61
        clear hq2 hq3 hq4 hq5 hqN
        go_wp2_with fail
        rw [← HW3.out]
        refine CG.out.mono ?_
        rintro E w4 ⟨T, a, c, rfl, hP, hN4, hG4⟩
        obtain ⟨hr4, hg4⟩ := HRes.out w4 _ hG4
        have xb : w4.cell? ⟨w2.heap.size, 0, none⟩ = some (.slice a T.length c) := by rw [cell_of_row _ _ 0 _ _ (0, 0) hN4.box]; rfl
        have xr : w4.cell? ⟨w.heap.size + 1, 0, none⟩ = some (.slice none 0 0) := by rw [cell_of_row _ _ 0 _ _ (0, 0) hr4]; rfl
        have fr : w4.frozen? ⟨w.heap.size + 1, 0, none⟩ = false := frozen_of_row _ _ _ _ _ hr4
        obtain ⟨W5, hW5⟩ : ∃ W5, W5 = w4.setCell ⟨w.heap.size + 1, 0, none⟩ (.slice a T.length c) := ⟨_, rfl⟩
        have HW5 : Hid (W5 = _) := hW5
        have g45 : w4.grownBy W5 (some (w.heap.size + 1)) := by rw [hW5]; exact grown_set _ _ _
        have hl := hP.len
        simp only [List.length_nil, Nat.zero_add] at hl
        have hnodes : NodesAt W5 a T := by
          rcases hN4.nodes with h | ⟨bb, off, ha, hc⟩
          · exact .inl h
          · refine .inr ⟨bb, off, ha, fun i hi => ?_⟩
            have hbb : bb ≠ w.heap.size + 1 := fun e => by
              subst e
              have := (hc i hi).1
              have h2 : (w4.cell? ⟨w.heap.size + 1, off + i * 3, none⟩) = (#[Value.slice none 0 0] : Array Value)[off + i * 3]? := by rw [cell_of_row _ _ _ _ _ (0, 0) hr4]
              rw [h2] at this
              cases ho : off + i * 3 with
              | zero => rw [ho] at this; simp at this
              | succ o => rw [ho] at this; simp at this
            have k1 : ∀ o v, w4.cell? ⟨bb, o, none⟩ = some v → W5.cell? ⟨bb, o, none⟩ = some v := fun o v hv => g45.cell hv (by simpa using hbb)
            obtain ⟨c0, c1, c2⟩ := hc i hi
            exact ⟨k1 _ _ c0, k1 _ _ c1, k1 _ _ c2⟩
        have xw : W5.cell? ⟨w.heap.size + 1, 0, none⟩ = some (.slice a T.length c) := by
          have := heap_setCell_same w4 (w.heap.size + 1) 0 _ _ (.slice a T.length c) hr4
          rw [← hW5] at this
          rw [cell_of_row _ _ 0 _ _ (0, 0) this]; simp
        have Fin : Hid (SmallPost R M L w (.returned (.tuple #[treeV a T.length c, .int .i64 (n : Int)])) W5) := ⟨T, a, c, n, rfl, hn62, .inl ⟨hn60, HQ.out.2.2, hl, q, HQ.out.1, HQ.out.2.1, hP⟩, hnodes, grown_new hg4 g45 (by omega), HEx.out⟩
        generalize T.length = nT at *
        clear hP hN4 hG4 hr4 hg4 hW5 g45 hl hnodes
        go_wp2_with fail
        rw [← HW5.out]
        exact bodyPost_ret (v := .tuple #[treeV a nT c, .int .i64 (n : Int)]) (by simp [results, Try.results25, go_sem, xw]) rfl Fin.out
      · have hNo := BE.out.no HRu.out II.out FX.out (by omega)
        obtain ⟨hr4, hg4⟩ := HRes.out W3 _ (GFr.refl _ _ _)
        have xb : W3.cell? ⟨w2.heap.size, 0, none⟩ = some (.slice none 0 0) := by rw [cell_of_row _ _ 0 _ _ (0, 0) N3.out.box]; rfl
        have xr : W3.cell? ⟨w.heap.size + 1, 0, none⟩ = some (.slice none 0 0) := by rw [cell_of_row _ _ 0 _ _ (0, 0) hr4]; rfl
        have fr : W3.frozen? ⟨w.heap.size + 1, 0, none⟩ = false := frozen_of_row _ _ _ _ _ hr4
        obtain ⟨W5, hW5⟩ : ∃ W5, W5 = W3.setCell ⟨w.heap.size + 1, 0, none⟩ (.slice none 0 0) := ⟨_, rfl⟩
        have HW5 : Hid (W5 = _) := hW5
        have g45 : W3.grownBy W5 (some (w.heap.size + 1)) := by rw [hW5]; exact grown_set _ _ _
        have xw : W5.cell? ⟨w.heap.size + 1, 0, none⟩ = some (.slice none 0 0) := by
          have := heap_setCell_same W3 (w.heap.size + 1) 0 _ _ (.slice none 0 0) hr4
          rw [← hW5] at this
          rw [cell_of_row _ _ 0 _ _ (0, 0) this]; simp
        have Fin : Hid (SmallPost R M L w (.returned (.tuple #[treeV none 0 0, .int .i64 (n : Int)])) W5) := ⟨[], none, 0, n, rfl, hn62, .inr ⟨by omega, rfl, hNo⟩, .inl rfl, grown_new hg4 g45 (by omega), HEx.out⟩
        have d61 : ¬ (n : Int) < 61 := by omega
        have d61' : decide ((n : Int) < 61) = false := by simpa using d61
        clear hr4 hg4 hW5 g45 hNo
        rw [HW3.out] at xr fr
        go_wp2_with fail
        rw [← HW3.out, ← HW5.out]
        exact bodyPost_ret (v := .tuple #[treeV none 0 0, .int .i64 (n : Int)]) (by simp [results, Try.results25, go_sem, xw]) rfl Fin.out

/-- What Some answers of an automaton that may be. -/
def SomeIs (x : Trs) (T : List NodeI) (is : Bool) : Prop :=
  (is = true ∧ MinM x.R x.M T.length ∧ T.length ≤ 60 ∧ treeF x.L T = 0 ∧ accTB x T = true) ∨ (is = false ∧ T = [] ∧ NoM x.R x.M)
def SomePost (x : Trs) (w : World) (E : Ending) (w' : World) : Prop :=
  ∃ T a c is, E = .returned (.tuple #[treeV a T.length c, .bool is, .int .i64 0]) ∧ SomeIs x T is ∧ NodesAt w' a T ∧ w.grownBy w' none
theorem some_of_small {x : Trs} (hx : GoodT x) {T : List NodeI} {n : Nat} (h : SmallIs x.R x.M x.L T n) : SomeIs x T (decide (n ≤ 60)) := by
  rcases h with ⟨h1, h2, h3, q, h4, h5, h6⟩ | ⟨h1, h2, h3⟩
  · left
    subst h3
    exact ⟨decide_eq_true h1, h2, h1, grown_tree h6 hx.l1 hx.l4 h1, grown_acc h6 h4 h5⟩
  · exact .inr ⟨decide_eq_false (by omega), h2, h3⟩

end Go.Proofs.Ytofjmakmbmndoaa
