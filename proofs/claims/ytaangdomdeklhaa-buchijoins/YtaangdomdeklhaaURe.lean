/- The reference's Reach: which states a word leads to. -/
/- The reference's Reach, walked. -/
import Derived.Test.YtaangdomdeklhaaUSets
import Derived.Test.YtaangdomdeklhaaUCheck2
import Derived.Test.YtaangdomdeklhaaHMem
namespace Go.Proofs.Ytaangdomdeklhaa
open Go.RowKit
set_option linter.unusedVariables false

theorem Try.infoB : (Try.prog.info? 4).map (fun i => (i.zero, i.size, i.bytes)) = some (some (.bool false), 1, 1) := by kernel_rfl
theorem madeFalse (n : Nat) : madeCells (Value.cells (.bool false)) n = Array.replicate n (Value.bool false) := by
  apply Array.ext'
  simpa [Value.cells] using toList_madeCells_one (.bool false) n
theorem make_bools (w : World) (N : Nat) (hN : N ≤ 1000000) : (Instr.makeSlice 56 (.int .i64 (N : Int)) (.int .i64 (N : Int))).run Try.prog w = .ok (.slice (some ⟨w.heap.size, 0, none⟩) N N) (w.alloc (.cells (Array.replicate N (Value.bool false)) 4)) := by
  obtain ⟨i0, hi, hz0, hz1, hz2⟩ := info_parts Try.infoB
  have hmk := run_make (P := Try.prog) w 56 4 i0 (.bool false) Try.underlying56 hi hz0 .i64 .i64 (N : Int) (N : Int) (by omega) (by omega) (by rw [hz2]; omega) (by omega)
  rw [hz1, Nat.mul_one, Int.toNat_natCast, madeFalse] at hmk
  exact hmk

/-- A set as a row of truths. -/
def bset (s n : Nat) : List Value := (List.range n).map fun i => .bool (s.testBit i)
theorem bset_len (s n : Nat) : (bset s n).length = n := by simp [bset]
theorem bset_get {s n i : Nat} (h : i < n) : (bset s n)[i]? = some (.bool (s.testBit i)) := by simp [bset, h]
theorem bset_set {s n i : Nat} (h : i < n) : (bset s n).set i (.bool true) = bset (s ||| 2 ^ i) n := by
  refine List.ext_getElem? fun k => ?_
  rw [List.getElem?_set]
  by_cases hk : i = k
  · subst hk; simp [bset, h]
  · rw [if_neg hk]
    by_cases hn : k < n
    · rw [bset_get hn, bset_get hn, Nat.testBit_or, Nat.testBit_two_pow]
      simp [hk]
    · rw [List.getElem?_eq_none (by rw [bset_len]; omega), List.getElem?_eq_none (by rw [bset_len]; omega)]
theorem bset_zero (n : Nat) : (Array.replicate n (Value.bool false)).toList = bset 0 n := by
  rw [Array.toList_replicate]
  unfold bset
  refine Eq.symm (List.eq_replicate_iff.2 ⟨by simp, fun b hb => ?_⟩)
  obtain ⟨i, _, rfl⟩ := List.mem_map.1 hb
  simp

theorem mset_iff {F : List Int} {s : Nat} : mset F s = true ↔ ∃ f, f ∈ F ∧ s.testBit f.toNat = true := by
  unfold mset
  rw [decide_eq_true_eq]
  constructor
  · intro h
    obtain ⟨i, hi⟩ := Nat.exists_testBit_of_ne_zero h
    rw [Nat.testBit_and, Bool.and_eq_true] at hi
    obtain ⟨f, hf, rfl⟩ := setOf_bit.1 hi.2
    exact ⟨f, hf, hi.1⟩
  · rintro ⟨f, hf, hb⟩ h0
    have : (s &&& setOf F).testBit f.toNat = true := by rw [Nat.testBit_and, hb, setOf_bit.2 ⟨f, hf, rfl⟩]; rfl
    rw [h0] at this
    simp at this

/-- A set as a row of one's own. -/
structure BsetAt (B : Nat) (w : World) (g n s : Nat) (its : List Item) : Prop where
  own : Owns B w ((4, .slice (some ⟨g, 0, none⟩) n n, bset s n) :: its)
theorem BsetAt.kept {B : Nat} {w w' : World} {g n s : Nat} {its : List Item} (h : BsetAt B w g n s its) (hg : w.grownBy w' none) : BsetAt B w' g n s its := ⟨h.own.kept hg⟩
theorem BsetAt.cell {B : Nat} {w : World} {g n s : Nat} {its : List Item} (h : BsetAt B w g n s its) {i : Nat} (hi : i < n) : w.cell? ⟨g, i, none⟩ = some (.bool (s.testBit i)) := h.own.cell (bset_get hi)
theorem BsetAt.fz {B : Nat} {w : World} {g n s : Nat} {its : List Item} (h : BsetAt B w g n s its) (i : Nat) : w.frozen? ⟨g, i, none⟩ = false := h.own.fz i
theorem BsetAt.put {B : Nat} {w : World} {g n s : Nat} {its : List Item} (h : BsetAt B w g n s its) {i : Nat} (hi : i < n) : BsetAt B (w.setCell ⟨g, i, none⟩ (.bool true)) g n (s ||| 2 ^ i) its := by
  have h1 := h.own.set hi (.bool true)
  rw [bset_set hi] at h1
  exact ⟨h1⟩
theorem BsetAt.new {B : Nat} {w : World} {its : List Item} (h : Owns B w its) (hB : B ≤ w.heap.size) {n : Nat} (hn : n ≤ 1000000) : BsetAt B (w.alloc (.cells (Array.replicate n (Value.bool false)) 4)) w.heap.size n 0 its := by
  have h1 := h.made (arr := Array.replicate n (Value.bool false)) (n := n) hB 4 (by simp) (by unfold maxLen; omega)
  rw [bset_zero] at h1
  exact ⟨h1⟩

theorem goS_snoc {T : List StepI} {s : Nat} {z : List Nat} {k : Nat} (hk : k < z.length) : goS T s (z.take (k + 1)) = dset T (goS T s (z.take k)) (z.getD k 0) := by
  unfold goS
  rw [List.take_add_one, List.foldl_append]
  simp [hk, List.getD]

end Go.Proofs.Ytaangdomdeklhaa

namespace Go.Proofs.Ytaangdomdeklhaa
open Go.RowKit
set_option linter.unusedVariables false

theorem Owns.sub1 {B : Nat} {w : World} {x : Item} {r : List Item} (h : Owns B w (x :: r)) : Owns B w [x] := ⟨fun it hm => h.1 it (by rw [List.mem_singleton.1 hm]; exact List.mem_cons_self), List.pairwise_singleton _ _⟩

set_option maxHeartbeats 3200000 in
set_option maxRecDepth 100000 in
theorem reachR_any (x : Aut) (l nS : Nat) (hL : x.L = l) (hN : x.N = nS) (hG : GoodA x) (a b e az : Option Addr) (c d f cz : Nat) (z : List Nat) (w : World) (h : AutAt w x a b e) (hz : Ints w az (natInts z)) (hzl : z.length ≤ 60) (hlet : ∀ k, k < z.length → z.getD k 0 < l) :
    Calls Try.prog 14 #[autV l nS a x.S.length c b x.T.length d e x.F.length f, .slice az z.length cz] w (Says (.bool (mset x.F (goS x.T (setOf x.S) z))) w) := by
  have hl4 : l ≤ 4 := by have := hG.l4; omega
  have hn3 : nS ≤ 300 := by have := hG.n3; omega
  have hmt := hG.t4
  have HT : Hid (InT x.T l nS) := hL ▸ hN ▸ hG.t
  have HSi : Hid (InR x.S nS) := hN ▸ hG.s
  have HFi : Hid (InR x.F nS) := hN ▸ hG.f
  have HStp : Hid (∀ W, w.grownBy W none → StepsAt W b x.T) := fun W hW => h.steps.grown hW
  have HSta : Hid (∀ W, w.grownBy W none → Ints W a x.S) := fun W hW => h.start.grown hW
  have HFin : Hid (∀ W, w.grownBy W none → Ints W e x.F) := fun W hW => h.final.grown hW
  have HZ : Hid (∀ W, w.grownBy W none → Ints W az (natInts z)) := fun W hW => hz.grown hW
  have HLt : Hid (∀ k, k < z.length → z.getD k 0 < l) := hlet
  have hms := h.ms
  have hmf := h.mf
  unfold maxLen at hms hmf
  clear h hz hlet hG hL hN
  obtain ⟨L, N, S, T, F⟩ := x
  simp only at *
  obtain ⟨W1, hW1, g1, s1, bx1⟩ := boxA_new w l nS a S.length c b T.length d e F.length f
  have HW1 : Hid (W1 = _) := hW1
  have G1 : Hid (w.grownBy W1 none) := g1
  have BX : Hid (∀ W', W1.grownBy W' none → W'.cell? ⟨w.heap.size, 0, none⟩ = some (.int .i64 l) ∧ W'.cell? ⟨w.heap.size, 1, none⟩ = some (.int .i64 nS) ∧ W'.cell? ⟨w.heap.size, 2, none⟩ = some (.slice a S.length c) ∧ W'.cell? ⟨w.heap.size, 3, none⟩ = some (.slice b T.length d) ∧ W'.cell? ⟨w.heap.size, 4, none⟩ = some (.slice e F.length f)) := bx1
  have hmk := make_bools W1 nS (by omega)
  obtain ⟨W2, hW2⟩ : ∃ W2, W2 = W1.alloc (.cells (Array.replicate nS (Value.bool false)) 4) := ⟨_, rfl⟩
  have HW2 : Hid (W2 = W1.alloc (.cells (Array.replicate nS (Value.bool false)) 4)) := hW2
  have A2 : Hid (BsetAt W1.heap.size W2 (w.heap.size + 1) nS 0 []) := by
    have := BsetAt.new (Owns.no W1.heap.size W1) (Nat.le_refl _) (n := nS) (by omega)
    rw [← hW2] at this
    rw [← s1]
    exact this
  have G2 : Hid (W1.grownBy W2 none) := by rw [hW2]; exact grown_alloc _ _
  rw [s1, hW1] at hmk
  obtain ⟨r9, hr9⟩ : ∃ r9, mset F (goS T (setOf S) z) = r9 := ⟨_, rfl⟩
  rw [hr9]
  have HR9 : Hid (mset F (goS T (setOf S) z) = r9) := hr9
  clear g1 s1 hW2 hr9
  obtain ⟨x0, x1, x2, x3, x4⟩ := BX.out W1 (grown_refl _ _)
  rw [hW1] at x0 x1 x2 x3 x4
  clear bx1 hW1
  go_enter Try.func14, Try.ntmps14
  go_wp2_with fail
  rw [← HW1.out, ← HW2.out]
  clear hmk x0 x1 x2 x3 x4 HW2
  generalize w.heap.size + 1 = gn at *
  go_loopw [6] (fun v wr => ∃ k s : Nat, k ≤ S.length ∧ v = .int .i64 k ∧ s = setOf (S.take k) ∧ BsetAt W1.heap.size wr gn nS s [] ∧ W1.grownBy wr none) (fun v _ => S.length - (intOf v).toNat)
  case atStart => exact ⟨0, 0, by omega, rfl, rfl, A2.out, G2.out⟩
  case round =>
    clear A2 G2
    obtain ⟨k, s, hk, rfl, hs, hA, hg⟩ := hrel
    have A : Hid (BsetAt W1.heap.size wr gn nS s []) := hA
    have G : Hid (W1.grownBy wr none) := hg
    have HS : Hid (s = setOf (S.take k)) := hs
    obtain ⟨x0, x1, x2, x3, x4⟩ := BX.out wr hg
    clear hs hA hg
    by_cases hlt : k < S.length
    · have hki : (k : Int) < (S.length : Int) := by omega
      obtain ⟨bb, off, hab, hc⟩ := (HSta.out wr (grown_trans G1.out G.out)).at hlt
      rw [hab] at x2
      have hck := hc k hlt
      have hin := HSi.out k hlt
      obtain ⟨q, hq⟩ : ∃ q : Nat, S.getD k 0 = q := ⟨(S.getD k 0).toNat, by omega⟩
      have HS2 : Hid (s ||| 2 ^ q = setOf (S.take (k + 1))) := by show _ = _; rw [setOf_snoc hlt, hq, HS.out]; simp
      rw [hq] at hck hin
      have hqn : q < nS := by omega
      have hcl := A.out.cell hqn
      have hfz := A.out.fz q
      have A3 : Hid (BsetAt W1.heap.size (wr.setCell ⟨gn, q, none⟩ (.bool true)) gn nS (s ||| 2 ^ q) []) := A.out.put hqn
      have G3 : Hid (W1.grownBy (wr.setCell ⟨gn, q, none⟩ (.bool true)) none) := grown_new G.out (grown_set _ _ _) A.out.own.ge.1
      clear hc hab hq hin x0 x1 x3 x4
      go_wp2_with fail
      go_roundw
      case rel => exact ⟨k + 1, _, by omega, by go_num, HS2.out, A3.out, G3.out⟩
      case measure => simp [intOf]; omega
    · have hki : ¬ (k : Int) < (S.length : Int) := by omega
      have HS2 : Hid (s = goS T (setOf S) (z.take 0)) := by show _ = _; rw [HS.out, List.take_of_length_le (by omega)]; rfl
      clear HS
      go_wp2_with fail
      clear x0 x1 x2 x3 x4 hki hk hlt
      go_loopw [5, 7] (fun v5 v wr => ∃ (k s g : Nat), k ≤ z.length ∧ v5 = .slice (some ⟨g, 0, none⟩) nS nS ∧ v = .int .i64 k ∧ s = goS T (setOf S) (z.take k) ∧ BsetAt W1.heap.size wr g nS s [] ∧ W1.grownBy wr none) (fun _ v _ => z.length - (intOf v).toNat)
      case atStart => exact ⟨0, s, gn, by omega, rfl, rfl, HS2.out, A.out, G.out⟩
      case round =>
        clear A G HS2
        rename World => wq
        obtain ⟨k, s, g, hk, rfl, rfl, hs, hA, hg⟩ := hrel
        have A : Hid (BsetAt W1.heap.size wq g nS s []) := hA
        have G : Hid (W1.grownBy wq none) := hg
        have HS : Hid (s = goS T (setOf S) (z.take k)) := hs
        obtain ⟨x0, x1, x2, x3, x4⟩ := BX.out wq hg
        clear hs hA hg
        by_cases hlt : k < z.length
        · have hki : (k : Int) < (z.length : Int) := by omega
          have hmk := make_bools wq nS (by omega)
          obtain ⟨W4, hW4⟩ : ∃ W4, W4 = wq.alloc (.cells (Array.replicate nS (Value.bool false)) 4) := ⟨_, rfl⟩
          have HW4 : Hid (W4 = wq.alloc (.cells (Array.replicate nS (Value.bool false)) 4)) := hW4
          have A4 : Hid (BsetAt W1.heap.size W4 wq.heap.size nS 0 [(4, .slice (some ⟨g, 0, none⟩) nS nS, bset s nS)]) := by rw [hW4]; exact BsetAt.new A.out.own G.out.size (by omega)
          have G4 : Hid (W1.grownBy W4 none) := by rw [hW4]; exact grown_trans G.out (grown_alloc _ _)
          obtain ⟨lt, hlt2⟩ : ∃ lt, z.getD k 0 = lt := ⟨_, rfl⟩
          have hltl : lt < l := hlt2 ▸ HLt.out k hlt
          have HS2 : Hid (goS T (setOf S) (z.take (k + 1)) = dset T s lt) := by show _ = _; rw [goS_snoc hlt, ← HS.out, hlt2]
          have HZc : Hid (∀ W, w.grownBy W none → ∃ bz oz, az = some ⟨bz, oz, none⟩ ∧ W.cell? ⟨bz, oz + k, none⟩ = some (.int .i64 (lt : Int))) := fun W hW => by
            obtain ⟨bz, oz, haz, hc⟩ := (HZ.out W hW).at (k := k) (by simpa using hlt)
            refine ⟨bz, oz, haz, ?_⟩
            rw [hc k (by simpa using hlt), ← hlt2]
            simp [List.getD, hlt]
          clear hW4 x0 x2 x3 x4 hlt2
          go_wp2_with fail
          rw [← HW4.out]
          clear hmk x1 HW4
          generalize wq.heap.size = gx at *
          go_loopw [9] (fun v wr => ∃ (j y : Nat), j ≤ T.length ∧ v = .int .i64 j ∧ y = orIf (setP s lt) (T.take j) ∧ BsetAt W1.heap.size wr gx nS y [(4, .slice (some ⟨g, 0, none⟩) nS nS, bset s nS)] ∧ W1.grownBy wr none) (fun v _ => T.length - (intOf v).toNat)
          case atStart => exact ⟨0, 0, by omega, rfl, rfl, A4.out, G4.out⟩
          case round =>
            clear A4 G4
            rename World => wz
            obtain ⟨j, y, hj, rfl, hy, hA, hg⟩ := hrel
            have A5 : Hid (BsetAt W1.heap.size wz gx nS y [(4, .slice (some ⟨g, 0, none⟩) nS nS, bset s nS)]) := hA
            have G5 : Hid (W1.grownBy wz none) := hg
            have HY : Hid (y = orIf (setP s lt) (T.take j)) := hy
            obtain ⟨x0, x1, x2, x3, x4⟩ := BX.out wz hg
            clear hy hA hg
            by_cases hjl : j < T.length
            · have hji : (j : Int) < (T.length : Int) := by omega
              obtain ⟨bb, off, hab, hc⟩ := (HStp.out wz (grown_trans G1.out G5.out)).at hjl
              obtain ⟨y0, y1, y2⟩ := hc j hjl
              rw [hab] at x3
              obtain ⟨⟨i1, i2⟩, ⟨i3, i4⟩, ⟨i5, i6⟩⟩ := HT.out j hjl
              have HO := orIf_snoc (p := setP s lt) hjl
              rw [← HY.out] at HO
              have HO2 : Hid _ := HO
              obtain ⟨xx, hxx⟩ : ∃ xx, T.getD j (0, 0, 0) = xx := ⟨_, rfl⟩
              rw [hxx] at y0 y1 y2 i1 i2 i3 i4 i5 i6 HO2
              clear hxx hc hab HO
              obtain ⟨ff, ll, tt⟩ := xx
              simp only at y0 y1 y2 i1 i2 i3 i4 i5 i6
              obtain ⟨fn, rfl⟩ : ∃ n : Nat, ff = n := ⟨ff.toNat, by omega⟩
              obtain ⟨ln, rfl⟩ : ∃ n : Nat, ll = n := ⟨ll.toNat, by omega⟩
              obtain ⟨tn, rfl⟩ : ∃ n : Nat, tt = n := ⟨tt.toNat, by omega⟩
              have hfn : fn < nS := by omega
              have htn : tn < nS := by omega
              obtain ⟨W6, hW6⟩ : ∃ W6, W6 = wz.alloc (.cells #[.int .i64 fn, .int .i64 ln, .int .i64 tn] 53) := ⟨_, rfl⟩
              have HW6 : Hid (W6 = wz.alloc (.cells #[.int .i64 fn, .int .i64 ln, .int .i64 tn] 53)) := hW6
              have hb6 := heap_alloc_new wz (.cells #[.int .i64 fn, .int .i64 ln, .int .i64 tn] 53)
              rw [← hW6] at hb6
              have G6 : Hid (W1.grownBy W6 none) := by rw [hW6]; exact grown_trans G5.out (grown_alloc _ _)
              have A6 : Hid (BsetAt W1.heap.size W6 gx nS y [(4, .slice (some ⟨g, 0, none⟩) nS nS, bset s nS)]) := by rw [hW6]; exact A5.out.kept (grown_alloc _ _)
              have e0 : W6.cell? ⟨wz.heap.size, 0, none⟩ = some (.int .i64 fn) := by rw [cell_of_row _ _ 0 _ _ (0, 0) hb6]; rfl
              have e1 : W6.cell? ⟨wz.heap.size, 1, none⟩ = some (.int .i64 ln) := by rw [cell_of_row _ _ 1 _ _ (0, 0) hb6]; rfl
              have e2 : W6.cell? ⟨wz.heap.size, 2, none⟩ = some (.int .i64 tn) := by rw [cell_of_row _ _ 2 _ _ (0, 0) hb6]; rfl
              have hnow : W6.cell? ⟨g, fn, none⟩ = some (.bool (s.testBit fn)) := (at_2 A6.out.own).cell (bset_get hfn)
              have hnx := A6.out.cell htn
              have hnz := A6.out.fz tn
              have A7 : Hid (BsetAt W1.heap.size ((W6.setCell ⟨gx, tn, none⟩ (.bool true))) gx nS (y ||| 2 ^ tn) [(4, .slice (some ⟨g, 0, none⟩) nS nS, bset s nS)]) := A6.out.put htn
              have G7 : Hid (W1.grownBy (W6.setCell ⟨gx, tn, none⟩ (.bool true)) none) := grown_new G6.out (grown_set _ _ _) A6.out.own.ge.1
              obtain ⟨bz, oz, rfl, hzc⟩ := HZc.out W6 (grown_trans G1.out G6.out)
              have HSP : Hid (setP s lt ((fn : Int), (ln : Int), (tn : Int)) = (decide (ln = lt) && s.testBit fn)) := by show _ = _; simp [setP]
              clear hW6 hb6 x0 x1 x2 x4
              by_cases hll : ln = lt
              · have hle : ((ln : Int) == (lt : Int)) = true := by simp [hll]
                cases hbit : s.testBit fn with
                | true =>
                  have HO3 : Hid (orIf (setP s lt) (T.take (j + 1)) = y ||| 2 ^ tn) := by
                    show _ = _
                    rw [HO2.out, if_pos (by rw [HSP.out, hll, hbit]; simp)]
                    simp
                  rw [hbit] at hnow
                  subst hll
                  clear hbit HSP HO2
                  go_wp2_with fail
                  rw [← HW6.out]
                  go_quiet (fail)
                  go_wp2_with fail
                  go_roundw
                  case rel => exact ⟨j + 1, _, by omega, by go_num, HO3.out.symm, A7.out.kept (grown_drewN (grown_refl _ _) _), grown_drewN G7.out _⟩
                  case measure => simp [intOf]; omega
                | false =>
                  have HO3 : Hid (orIf (setP s lt) (T.take (j + 1)) = y) := by
                    show _ = _
                    rw [HO2.out, if_neg (by rw [HSP.out, hbit]; simp)]
                  rw [hbit] at hnow
                  subst hll
                  clear hbit HSP HO2 A7 G7
                  go_wp2_with fail
                  rw [← HW6.out]
                  go_quiet (fail)
                  go_wp2_with fail
                  go_roundw
                  case rel => exact ⟨j + 1, y, by omega, by go_num, HO3.out.symm, A6.out.kept (grown_drewN (grown_refl _ _) _), grown_drewN G6.out _⟩
                  case measure => simp [intOf]; omega
              · have hle : ((ln : Int) == (lt : Int)) = false := by simp; omega
                have HO3 : Hid (orIf (setP s lt) (T.take (j + 1)) = y) := by
                  show _ = _
                  rw [HO2.out, if_neg (by rw [HSP.out]; simp [hll])]
                clear HSP HO2 A7 G7
                go_wp2_with fail
                rw [← HW6.out]
                go_quiet (fail)
                go_wp2_with fail
                go_roundw
                case rel => exact ⟨j + 1, y, by omega, by go_num, HO3.out.symm, A6.out.kept (grown_drewN (grown_refl _ _) _), grown_drewN G6.out _⟩
                case measure => simp [intOf]; omega
            · have hji : ¬ (j : Int) < (T.length : Int) := by omega
              have HS3 : Hid (y = goS T (setOf S) (z.take (k + 1))) := by show _ = _; rw [HS2.out, HY.out, List.take_of_length_le (by omega)]; rfl
              have A8 : Hid (BsetAt W1.heap.size wz gx nS y []) := ⟨A5.out.own.sub1⟩
              clear A5 HY
              go_wp2_with fail
              go_roundw
              case rel => exact ⟨k + 1, y, gx, by omega, rfl, by go_num, HS3.out, A8.out, G5.out⟩
              case measure => simp [intOf]; omega
        · have hki : ¬ (k : Int) < (z.length : Int) := by omega
          have HS3 : Hid (s = goS T (setOf S) z) := by show _ = _; rw [HS.out, List.take_of_length_le (by omega)]
          clear HS
          go_wp2_with fail
          clear x0 x1 x2 x3 x4 hki hk hlt
          go_loopw [11] (fun v wr => ∃ k : Nat, k ≤ F.length ∧ v = .int .i64 k ∧ wr = wq ∧ ∀ j, j < k → s.testBit (F.getD j 0).toNat = false) (fun v _ => F.length - (intOf v).toNat)
          case atStart => exact ⟨0, by omega, rfl, rfl, fun j hj => by omega⟩
          case round =>
            obtain ⟨k, hk, rfl, rfl, hj⟩ := hrel
            have HJ : Hid (∀ j, j < k → s.testBit (F.getD j 0).toNat = false) := hj
            obtain ⟨x0, x1, x2, x3, x4⟩ := BX.out _ G.out
            clear hj
            by_cases hlt : k < F.length
            · have hki : (k : Int) < (F.length : Int) := by omega
              obtain ⟨bb, off, hab, hc⟩ := (HFin.out _ (grown_trans G1.out G.out)).at hlt
              rw [hab] at x4
              have hck := hc k hlt
              have hin := HFi.out k hlt
              obtain ⟨q, hq⟩ : ∃ q : Nat, F.getD k 0 = q := ⟨(F.getD k 0).toNat, by omega⟩
              rw [hq] at hck hin
              have hqn : q < nS := by omega
              have hcl := A.out.cell hqn
              have HQ : Hid (F.getD k 0 = (q : Int)) := hq
              clear hc hab hin hq
              cases hbit : s.testBit q with
              | true =>
                rw [hbit] at hcl
                have HRt : Hid (r9 = true) := by
                  show _ = _
                  rw [← HR9.out, ← HS3.out, mset_iff]
                  refine ⟨F.getD k 0, ?_, by rw [HQ.out]; simpa using hbit⟩
                  rw [getD_lt hlt]; exact List.getElem_mem _
                clear hbit
                go_wp2_with fail
                go_ret
                exact ⟨by rw [HRt.out]; rfl, grown_trans G1.out G.out⟩
              | false =>
                rw [hbit] at hcl
                have HJ2 : Hid (∀ j, j < k + 1 → s.testBit (F.getD j 0).toNat = false) := fun j hj => by
                  by_cases e : j = k
                  · subst e; rw [HQ.out]; simpa using hbit
                  · exact HJ.out j (by omega)
                clear hbit
                go_wp2_with fail
                go_roundw
                case rel => exact ⟨k + 1, by omega, by go_num, by trivial, HJ2.out⟩
                case measure => simp [intOf]; omega
            · have hki : ¬ (k : Int) < (F.length : Int) := by omega
              have HRf : Hid (r9 = false) := by
                show _ = _
                rw [← HR9.out, ← HS3.out]
                cases hm : mset F s with
                | false => rfl
                | true =>
                  obtain ⟨q, hq, hb⟩ := mset_iff.1 hm
                  obtain ⟨i, hi, rfl⟩ := List.getElem_of_mem hq
                  have := HJ.out i (by omega)
                  rw [getD_lt hi, hb] at this
                  cases this
              go_wp2_with fail
              go_ret
              exact ⟨by rw [HRf.out]; rfl, grown_trans G1.out G.out⟩

end Go.Proofs.Ytaangdomdeklhaa
