/- The spans of an either and of a row. -/
import Derived.Test.YtepldeogcoigkaaDoorSpanL
import Derived.Deep.RegionWith
namespace Go.Proofs.YtepldeogcoigkaaDoor
open Go.RowKit
set_option linter.unusedVariables false

/-- What a sense leads to lies ahead, and within the word. -/
def Ahead (m : Sense) : Prop := ∀ z i j, i ≤ z.length → m z i j → i ≤ j ∧ j ≤ z.length

theorem bits_or_span {a b : Nat} (ha : a < 2 ^ 61) (hb : b < 2 ^ 61) : bits .or .u64 (a : Int) (b : Int) = ((a ||| b : Nat) : Int) :=
  bits_or_u64_nat _ _ (Nat.lt_of_lt_of_le ha (by decide)) (Nat.lt_of_lt_of_le hb (by decide))

set_option maxHeartbeats 800000 in
theorem spanEither_any (ao : Option Addr) (g capg : Nat) (vs : List Value) (ms : List Sense) (a : Option Addr) (cap : Nat) (z : List Int) (w : World) (hn : z.length ≤ 60) (hms : ms.length ≤ 4001)
    (hao : 0 < ms.length → ao = some ⟨g, 0, none⟩) (hv : ∀ k, k < ms.length → w.cell? ⟨g, k, none⟩ = some (vs.getD k .nilIface)) (hS : ∀ k, k < ms.length → ∀ W, w.grownBy W none → Calls Tryd.prog 10 #[vs.getD k .nilIface, .slice a z.length cap] W (Spans z W (ms.getD k noneS))) :
    Calls Tryd.prog 18 #[.slice ao ms.length capg, .slice a z.length cap] w (Spans z w (eitherOf ms)) := by
  have HAO : Hid (0 < ms.length → ao = some ⟨g, 0, none⟩) := hao
  have HV : Hid (∀ k, k < ms.length → w.cell? ⟨g, k, none⟩ = some (vs.getD k .nilIface)) := hv
  have HS : Hid (∀ k, k < ms.length → ∀ W, w.grownBy W none → Calls Tryd.prog 10 #[vs.getD k .nilIface, .slice a z.length cap] W (Spans z W (ms.getD k noneS))) := hS
  clear hao hv hS
  go_enter Tryd.func18, Tryd.ntmps18
  go_wp2_with fail
  go_loopw [14] (fun v wr => ∃ (k : Nat) (f : Nat → Nat), v = .int .i64 k ∧ k ≤ ms.length ∧ SpanAt wr w.heap.size f ∧ w.grownBy wr none ∧ SpanIs z f (fun z i j => ∃ q, q < k ∧ ms.getD q noneS z i j)) (fun v _ => ms.length - (intOf v).toNat)
  case atStart => exact ⟨0, fun _ => 0, rfl, by omega, SpanAt.new w, World.grownBy_alloc _ _ _, fun i => ⟨Nat.two_pow_pos 61, fun j => by simp⟩⟩
  case round =>
    obtain ⟨k, f, rfl, hk, hs, hg, hi⟩ := hrel
    have S : Hid (SpanAt wr w.heap.size f) := hs
    have G : Hid (w.grownBy wr none) := hg
    have I : Hid (SpanIs z f (fun z i j => ∃ q, q < k ∧ ms.getD q noneS z i j)) := hi
    clear hs hg hi
    by_cases hlt : k < ms.length
    · have hao' := HAO.out (by omega)
      subst hao'
      have hc : wr.cell? ⟨g, k, none⟩ = some (vs.getD k .nilIface) := G.out.cell (HV.out k hlt) (by simp)
      have C : Hid (Calls Tryd.prog 10 #[vs.getD k .nilIface, .slice a z.length cap] wr (Spans z wr (ms.getD k noneS))) := HS.out k hlt wr G.out
      generalize vs.getD k .nilIface = vk at hc C
      generalize hmk : ms.getD k noneS = mk at C
      have HMK : Hid (ms.getD k noneS = mk) := hmk
      clear hmk
      go_wp2_with fail
      refine C.out.mono ?_
      rintro e w2 ⟨b1, f1, rfl, hs1, hb1, hg1, hi1⟩
      have S1 : Hid (SpanAt w2 b1 f1) := hs1
      have S2 : Hid (SpanAt w2 w.heap.size f) := S.out.kept hg1 (by simp)
      have G2 : Hid (w.grownBy w2 none) := grown_trans G.out hg1
      have I1 : Hid (SpanIs z f1 mk) := hi1
      have hne : Hid (w.heap.size ≠ b1) := by show _ ≠ _; have := S.out.lt; omega
      clear hs1 hg1 hi1 S G C hc
      go_wp2_with fail
      go_loopw [24] (fun v wq => ∃ (t : Nat), v = .int .i64 t ∧ t ≤ z.length + 1 ∧ SpanAt wq w.heap.size (fun i => if i < t then f i ||| f1 i else f i) ∧ SpanAt wq b1 f1 ∧ w.grownBy wq none) (fun v _ => z.length + 1 - (intOf v).toNat)
      case atStart => exact ⟨0, rfl, by omega, by simpa using S2.out, S1.out, G2.out⟩
      case round =>
        clear S1 S2 G2
        obtain ⟨t, rfl, ht, hs2, hs3, hg3⟩ := hrel
        by_cases htl : t < z.length + 1
        · have c0 := hs2.cell (i := t) (by omega)
          have c1 := hs3.cell (i := t) (by omega)
          have z0 := hs2.fz t
          have z1 := hs3.fz t
          have ht' : (t : Int) < (z.length : Int) + 1 := by omega
          have h61 : (t : Int) < 61 := by omega
          simp only [Nat.lt_irrefl, if_false] at c0
          have eo : bits .or .u64 (f t : Int) (f1 t : Int) = ((f t ||| f1 t : Nat) : Int) := bits_or_span (I.out t).1 (I1.out t).1
          have S4 : Hid (SpanAt ((wr.setCell ⟨w.heap.size, t, none⟩ (.int .u64 ((f t ||| f1 t : Nat) : Int))).drew) w.heap.size (fun i => if i < t + 1 then f i ||| f1 i else f i)) := by
            have h1 := hs2.set t (x := ((f t ||| f1 t : Nat) : Int)) rfl
            have e : (fun i => if i < t + 1 then f i ||| f1 i else f i) = fun i => if i = t then f t ||| f1 t else if i < t then f i ||| f1 i else f i := by
              funext i
              by_cases h1 : i = t
              · subst h1; simp
              · have : i < t + 1 ↔ i < t := by omega
                simp only [this, h1, if_false]
            rw [e]
            exact h1
          have S5 : Hid (SpanAt ((wr.setCell ⟨w.heap.size, t, none⟩ (.int .u64 ((f t ||| f1 t : Nat) : Int))).drew) b1 f1) := hs3.kept (grown_drew (grown_set _ _ _)) (by have := hne.out; simpa using this)
          have G4 : Hid (w.grownBy ((wr.setCell ⟨w.heap.size, t, none⟩ (.int .u64 ((f t ||| f1 t : Nat) : Int))).drew) none) := grown_drew (grown_new hg3 (grown_set _ _ _) (Nat.le_refl _))
          clear hs2 hs3 hg3
          go_wp2_with fail
          go_region
          all_goals
            go_wp2_with fail
            go_roundw
            case rel => exact ⟨t + 1, by go_num, by omega, S4.out, S5.out, G4.out⟩
            case measure => simp [intOf]; omega
        · have S4 : Hid (SpanAt wr w.heap.size (fun i => if i < t then f i ||| f1 i else f i)) := hs2
          have G4 : Hid (w.grownBy wr none) := hg3
          have ht' : ¬ (t : Int) < (z.length : Int) + 1 := by omega
          clear hs2 hs3 hg3
          go_wp2_with fail
          go_roundw
          case rel =>
            refine ⟨k + 1, _, by go_num, by omega, S4.out, G4.out, fun i => ⟨?_, fun j => ?_⟩⟩
            · show (if i < t then f i ||| f1 i else f i) < 2 ^ 61
              split
              · exact Nat.or_lt_two_pow (I.out i).1 (I1.out i).1
              · exact (I.out i).1
            · have h0 := (I.out i).2 j
              have h1 := (I1.out i).2 j
              have key : ((if i < t then f i ||| f1 i else f i).testBit j = true) ↔ ((f i).testBit j = true ∨ (f1 i).testBit j = true) := by
                by_cases hit : i < t
                · rw [if_pos hit, Nat.testBit_or, Bool.or_eq_true]
                · rw [if_neg hit]
                  constructor
                  · exact .inl
                  · rintro (h | h)
                    · exact h
                    · have := (h1.1 h).1; omega
              show ((if i < t then f i ||| f1 i else f i).testBit j = true) ↔ _
              rw [key, h0, h1]
              constructor
              · rintro (⟨h1, q, hq, h2⟩ | ⟨h1, h2⟩)
                · exact ⟨h1, q, by omega, h2⟩
                · exact ⟨h1, k, by omega, by rw [HMK.out]; exact h2⟩
              · rintro ⟨h1, q, hq, h2⟩
                by_cases hqk : q = k
                · subst hqk
                  rw [HMK.out] at h2
                  exact .inr ⟨h1, h2⟩
                · exact .inl ⟨h1, q, by omega, h2⟩
          case measure => simp [intOf]; omega
    · have hkk : k = ms.length := by omega
      have E : Hid (Spans z w (eitherOf ms) (.returned (.pointer (some ⟨w.heap.size, 0, none⟩))) wr) := ⟨_, f, rfl, S.out, Nat.le_refl _, G.out, by subst hkk; exact I.out⟩
      clear S G I
      go_wp2_with fail
      go_ret
      exact E.out

end Go.Proofs.YtepldeogcoigkaaDoor
