/- The span of a row. -/
import Derived.Test.YtepldeogcoigkaaDoorSpanE
namespace Go.Proofs.YtepldeogcoigkaaDoor
open Go.RowKit
set_option linter.unusedVariables false

theorem rowOf_snoc (ms : List Sense) (m : Sense) (z : List Int) (i j : Nat) : rowOf (ms ++ [m]) z i j ↔ ∃ k, rowOf ms z i k ∧ m z k j := by
  induction ms generalizing i with
  | nil =>
    constructor
    · rintro ⟨k, h, rfl⟩; exact ⟨i, rfl, h⟩
    · rintro ⟨k, rfl, h⟩; exact ⟨j, h, rfl⟩
  | cons a ms ih =>
    constructor
    · rintro ⟨k, h, h'⟩
      obtain ⟨q, h1, h2⟩ := (ih k).1 h'
      exact ⟨q, ⟨k, h, h1⟩, h2⟩
    · rintro ⟨q, ⟨k, h, h1⟩, h2⟩
      exact ⟨k, h, (ih k).2 ⟨q, h1, h2⟩⟩

theorem rowOf_ahead {ms : List Sense} (h : ∀ k, k < ms.length → Ahead (ms.getD k noneS)) : Ahead (rowOf ms) := by
  induction ms with
  | nil => rintro z i j hi rfl; exact ⟨Nat.le_refl _, hi⟩
  | cons a ms ih =>
    rintro z i j hi ⟨k, h1, h2⟩
    have e1 := h 0 (by simp) z i k hi (by simpa using h1)
    have e2 := ih (fun q hq => by have := h (q + 1) (by simp; omega); simpa using this) z k j e1.2 h2
    omega

/-- The places themselves, so far. -/
def hereSo (t i : Nat) : Nat := if i < t then 2 ^ i else 0

set_option maxHeartbeats 1600000 in
theorem spanRow_any (ao : Option Addr) (g capg : Nat) (vs : List Value) (ms : List Sense) (a : Option Addr) (cap : Nat) (z : List Int) (w : World) (hT : TabAt w) (hn : z.length ≤ 60) (hms : ms.length ≤ 4001) (hA : ∀ k, k < ms.length → Ahead (ms.getD k noneS))
    (hao : 0 < ms.length → ao = some ⟨g, 0, none⟩) (hv : ∀ k, k < ms.length → w.cell? ⟨g, k, none⟩ = some (vs.getD k .nilIface)) (hS : ∀ k, k < ms.length → ∀ W, w.grownBy W none → Calls Tryd.prog 10 #[vs.getD k .nilIface, .slice a z.length cap] W (Spans z W (ms.getD k noneS))) :
    Calls Tryd.prog 19 #[.slice ao ms.length capg, .slice a z.length cap] w (Spans z w (rowOf ms)) := by
  have HAO : Hid (0 < ms.length → ao = some ⟨g, 0, none⟩) := hao
  have HV : Hid (∀ k, k < ms.length → w.cell? ⟨g, k, none⟩ = some (vs.getD k .nilIface)) := hv
  have HS : Hid (∀ k, k < ms.length → ∀ W, w.grownBy W none → Calls Tryd.prog 10 #[vs.getD k .nilIface, .slice a z.length cap] W (Spans z W (ms.getD k noneS))) := hS
  have HT : Hid (TabAt w) := hT
  have HA : Hid (∀ k, k < ms.length → Ahead (ms.getD k noneS)) := hA
  have T0 : Hid (w.heap.size ≠ 0) := by
    have := World.block_lt_of_cell? w _ (hT 0 (by decide))
    show _ ≠ _
    simp at this
    omega
  clear hao hv hS hT hA
  go_enter Tryd.func19, Tryd.ntmps19
  go_wp2_with fail
  go_loopw [16] (fun v wr => ∃ (t : Nat), v = .int .i64 t ∧ t ≤ z.length + 1 ∧ SpanAt wr w.heap.size (hereSo t) ∧ w.grownBy wr none) (fun v _ => z.length + 1 - (intOf v).toNat)
  case atStart =>
    refine ⟨0, rfl, by omega, ?_, World.grownBy_alloc _ _ _⟩
    have e : hereSo 0 = fun _ => 0 := by funext i; simp [hereSo]
    rw [e]
    exact SpanAt.new w
  case round =>
    obtain ⟨t, rfl, ht, hs, hg⟩ := hrel
    by_cases htl : t < z.length + 1
    · have ht' : (t : Int) < (z.length : Int) + 1 := by omega
      have h61 : (t : Int) < 61 := by omega
      have c0 := hs.cell (i := t) (by omega)
      have z0 := hs.fz t
      have p1 : IntKind.u64.wrap ((2 : Int) ^ t) = ((2 ^ t : Nat) : Int) := pow_shl t (by omega)
      have e2 : ((2 : Int) ^ t) = ((2 ^ t : Nat) : Int) := by simp
      have S2 : Hid (SpanAt ((wr.setCell ⟨w.heap.size, t, none⟩ (.int .u64 ((2 : Int) ^ t))).drew) w.heap.size (hereSo (t + 1))) := by
        have h1 := hs.set t e2
        have e : hereSo (t + 1) = fun i => if i = t then 2 ^ t else hereSo t i := by
          funext i
          by_cases h1 : i = t
          · subst h1; simp [hereSo]
          · have : i < t + 1 ↔ i < t := by omega
            simp only [hereSo, this, h1, if_false]
        rw [e]
        exact h1
      have G2 : Hid (w.grownBy ((wr.setCell ⟨w.heap.size, t, none⟩ (.int .u64 ((2 : Int) ^ t))).drew) none) := grown_drew (grown_new hg (grown_set _ _ _) (Nat.le_refl _))
      clear e2 hs hg
      go_wp2_with fail
      go_region
      all_goals
        go_wp2_with fail
        go_roundw
        case rel => exact ⟨t + 1, by go_num, by omega, S2.out, G2.out⟩
        case measure => simp [intOf]; omega
    · have ht' : ¬ (t : Int) < (z.length : Int) + 1 := by omega
      have I0 : Hid (∃ f, SpanAt wr w.heap.size f ∧ SpanIs z f (rowOf (ms.take 0))) := by
        refine ⟨_, hs, fun i => ⟨?_, fun j => ?_⟩⟩
        · unfold hereSo
          split
          · exact Nat.pow_lt_pow_right (by decide) (by omega)
          · exact Nat.two_pow_pos 61
        · unfold hereSo
          have ht2 : t = z.length + 1 := by omega
          split
          · rw [Nat.testBit_two_pow]
            simp [rowOf, emptyS]
            omega
          · simp [rowOf, emptyS]
            omega
      have G : Hid (w.grownBy wr none) := hg
      clear hs hg
      go_wp2_with fail
      go_loopw [28] (fun v wr => ∃ (k : Nat) (f : Nat → Nat), v = .int .i64 k ∧ k ≤ ms.length ∧ SpanAt wr w.heap.size f ∧ w.grownBy wr none ∧ SpanIs z f (rowOf (ms.take k))) (fun v _ => ms.length - (intOf v).toNat)
      case atStart =>
        obtain ⟨f, h1, h2⟩ := I0.out
        exact ⟨0, f, rfl, by omega, h1, G.out, h2⟩
      case round =>
        clear I0 G
        obtain ⟨k, f, rfl, hk, hs, hg, hi⟩ := hrel
        have S : Hid (SpanAt wr w.heap.size f) := hs
        have G : Hid (w.grownBy wr none) := hg
        have I : Hid (SpanIs z f (rowOf (ms.take k))) := hi
        clear hs hg hi
        by_cases hlt : k < ms.length
        · have hao' := HAO.out (by omega)
          subst hao'
          have hc : wr.cell? ⟨g, k, none⟩ = some (vs.getD k .nilIface) := G.out.cell (HV.out k hlt) (by simp)
          have C : Hid (Calls Tryd.prog 10 #[vs.getD k .nilIface, .slice a z.length cap] wr (Spans z wr (ms.getD k noneS))) := HS.out k hlt wr G.out
          generalize vs.getD k .nilIface = vk at hc C
          generalize hmk : ms.getD k noneS = mk at C
          have HMK : Hid (ms.getD k noneS = mk) := hmk
          clear hmk
          go_wp2_with fail
          refine C.out.mono ?_
          rintro e w2 ⟨b1, f1, rfl, hs1, hb1, hg1, hi1⟩
          have S1 : Hid (SpanAt w2 b1 f1) := hs1
          have S2 : Hid (SpanAt w2 w.heap.size f) := S.out.kept hg1 (by simp)
          have G2 : Hid (w.grownBy w2 none) := grown_trans G.out hg1
          have I1 : Hid (SpanIs z f1 mk) := hi1
          have hne : Hid (w.heap.size ≠ b1) := by show _ ≠ _; have := S.out.lt; omega
          clear hs1 hg1 hi1 S G C hc
          go_wp2_with fail
          go_loopw [38] (fun v wq => ∃ (t : Nat) (h : Nat → Nat), v = .int .i64 t ∧ t ≤ z.length + 1 ∧ SpanAt wq w.heap.size h ∧ SpanAt wq b1 f1 ∧ w.grownBy wq none ∧ (∀ i, t ≤ i → h i = f i) ∧ ∀ i, i < t → h i < 2 ^ 61 ∧ ∀ j, (h i).testBit j = true ↔ ∃ q, (f i).testBit q = true ∧ (f1 q).testBit j = true) (fun v _ => z.length + 1 - (intOf v).toNat)
          case atStart => exact ⟨0, f, rfl, by omega, S2.out, S1.out, G2.out, fun _ _ => rfl, fun i hi => by omega⟩
          case round =>
            clear S1 S2 G2
            obtain ⟨t, h, rfl, ht, hs2, hs3, hg3, hh1, hh2⟩ := hrel
            by_cases htl : t < z.length + 1
            · have c0 := hs2.cell (i := t) (by omega)
              rw [hh1 t (Nat.le_refl _)] at c0
              have z0 := hs2.fz t
              have ht' : (t : Int) < (z.length : Int) + 1 := by omega
              have h61 : (t : Int) < 61 := by omega
              have A : Hid (∀ W, wr.grownBy W none → Calls Tryd.prog 27 #[.pointer (some ⟨b1, 0, none⟩), .int .u64 (f t)] W fun e w' => ∃ r : Nat, e = .returned (.int .u64 r) ∧ r < 2 ^ 61 ∧ (∀ j, r.testBit j = true ↔ ∃ k, (f t).testBit k = true ∧ (f1 k).testBit j = true) ∧ W.grownBy w' none) :=
                fun W hW => after_any b1 f1 (f t) W (hs3.kept hW (by simp)) ((HT.out.kept hg3 (by simp)).kept hW (by simp)) (I.out t).1 (fun k _ => (I1.out k).1)
              have S3 : Hid (SpanAt wr w.heap.size h) := hs2
              have S4 : Hid (SpanAt wr b1 f1) := hs3
              have G3 : Hid (w.grownBy wr none) := hg3
              have HH1 : Hid (∀ i, t ≤ i → h i = f i) := hh1
              have HH2 : Hid (∀ i, i < t → h i < 2 ^ 61 ∧ ∀ j, (h i).testBit j = true ↔ ∃ q, (f i).testBit q = true ∧ (f1 q).testBit j = true) := hh2
              clear hs2 hs3 hg3 hh1 hh2
              go_wp2_with fail
              go_region_with (first | (go_at_call 27; refine (A.out _ (grown_drew (grown_refl _ _))).mono ?_; rintro e w5 ⟨r, rfl, hr, hrj, hg5⟩; have c5 : w5.cell? ⟨w.heap.size, t, none⟩ = some (.int .u64 (f t)) := hg5.cell c0 (by simp); have z5 : w5.frozen? ⟨w.heap.size, t, none⟩ = false := (hg5.frozen_far ⟨w.heap.size, t, none⟩ (by have := S3.out.lt; exact this) (by simp)).trans z0))
              all_goals
                have hg6 : wr.grownBy w5 none := grown_trans (grown_drew (grown_refl _ _)) hg5
                have S6 : Hid (SpanAt (w5.setCell ⟨w.heap.size, t, none⟩ (.int .u64 (r : Int))) w.heap.size (fun i => if i = t then r else h i)) := (S3.out.kept hg6 (by simp)).set t rfl
                have S7 : Hid (SpanAt (w5.setCell ⟨w.heap.size, t, none⟩ (.int .u64 (r : Int))) b1 f1) := (S4.out.kept hg6 (by simp)).kept (grown_set _ _ _) (by have := hne.out; simpa using this)
                have G7 : Hid (w.grownBy (w5.setCell ⟨w.heap.size, t, none⟩ (.int .u64 (r : Int))) none) := grown_new (grown_trans G3.out hg6) (grown_set _ _ _) (Nat.le_refl _)
                have HRJ : Hid (∀ j, r.testBit j = true ↔ ∃ k, (f t).testBit k = true ∧ (f1 k).testBit j = true) := hrj
                clear hg5 hg6 hrj
                go_wp2_with fail
                go_roundw
                case rel =>
                  refine ⟨t + 1, _, by go_num, by omega, S6.out, S7.out, G7.out, fun i hi => ?_, fun i hi => ?_⟩
                  · show (if i = t then r else h i) = f i
                    rw [if_neg (by omega)]
                    exact HH1.out i (by omega)
                  · show (if i = t then r else h i) < 2 ^ 61 ∧ ∀ j, (if i = t then r else h i).testBit j = true ↔ _
                    by_cases hit : i = t
                    · subst hit
                      simp only [if_true]
                      exact ⟨hr, HRJ.out⟩
                    · rw [if_neg hit]
                      exact HH2.out i (by omega)
                case measure => simp [intOf]; omega
            · have S4 : Hid (SpanAt wr w.heap.size h) := hs2
              have G4 : Hid (w.grownBy wr none) := hg3
              have ht' : ¬ (t : Int) < (z.length : Int) + 1 := by omega
              have HH1 : Hid (∀ i, t ≤ i → h i = f i) := hh1
              have HH2 : Hid (∀ i, i < t → h i < 2 ^ 61 ∧ ∀ j, (h i).testBit j = true ↔ ∃ q, (f i).testBit q = true ∧ (f1 q).testBit j = true) := hh2
              clear hs2 hs3 hg3 hh1 hh2
              go_wp2_with fail
              go_roundw
              case rel =>
                refine ⟨k + 1, h, by go_num, by omega, S4.out, G4.out, fun i => ?_⟩
                have etake : ms.take (k + 1) = ms.take k ++ [mk] := by
                  rw [List.take_add_one, ← HMK.out]
                  simp [List.getD, hlt]
                rw [etake]
                have hah : Ahead (rowOf (ms.take k)) := rowOf_ahead fun q hq => by
                  have hq' : q < k := by simp at hq; omega
                  have := HA.out q (by omega)
                  have e : (ms.take k).getD q noneS = ms.getD q noneS := by simp [List.getD, hq']
                  rw [e]; exact this
                by_cases hit : i < t
                · obtain ⟨h1, h2⟩ := HH2.out i hit
                  refine ⟨h1, fun j => ?_⟩
                  rw [h2 j, rowOf_snoc]
                  constructor
                  · rintro ⟨q, hq1, hq2⟩
                    have e1 := ((I.out i).2 q).1 hq1
                    have e2 := ((I1.out q).2 j).1 hq2
                    exact ⟨e1.1, q, e1.2, e2.2⟩
                  · rintro ⟨hi, q, hq1, hq2⟩
                    exact ⟨q, ((I.out i).2 q).2 ⟨hi, hq1⟩, ((I1.out q).2 j).2 ⟨(hah z i q hi hq1).2, hq2⟩⟩
                · rw [HH1.out i (by omega)]
                  refine ⟨(I.out i).1, fun j => ?_⟩
                  constructor
                  · intro hj
                    have := (((I.out i).2 j).1 hj).1
                    omega
                  · rintro ⟨hi, _⟩
                    omega
              case measure => simp [intOf]; omega
        · have hkk : k = ms.length := by omega
          have E : Hid (Spans z w (rowOf ms) (.returned (.pointer (some ⟨w.heap.size, 0, none⟩))) wr) := ⟨_, f, rfl, S.out, Nat.le_refl _, G.out, by have := I.out; rw [hkk, List.take_length] at this; exact this⟩
          clear S G I
          go_wp2_with fail
          go_ret
          exact E.out

end Go.Proofs.YtepldeogcoigkaaDoor
