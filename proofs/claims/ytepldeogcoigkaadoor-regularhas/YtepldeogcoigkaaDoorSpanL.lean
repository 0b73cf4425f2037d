/- The span of a letter; what a span says. -/
import Derived.Test.YtepldeogcoigkaaDoorAfter
import Derived.BigRegion
namespace Go.Proofs.YtepldeogcoigkaaDoor
open Go.RowKit
set_option linter.unusedVariables false

/-- The numbers zs lie at the address a (of an empty list nothing is said). -/
def Ints (w : World) (a : Option Addr) (zs : List Int) : Prop :=
  zs = [] ∨ ∃ b off, a = some ⟨b, off, none⟩ ∧ ∀ i, i < zs.length → w.cell? ⟨b, off + i, none⟩ = some (.int .i64 (zs.getD i 0))
theorem Ints.grown {w w' : World} {a : Option Addr} {zs : List Int} (h : Ints w a zs) (hg : w.grownBy w' none) : Ints w' a zs := by
  rcases h with h | ⟨b, off, ha, hc⟩
  · exact .inl h
  · exact .inr ⟨b, off, ha, fun i hi => hg.cell (hc i hi) (by simp)⟩
theorem Ints.at {w : World} {a : Option Addr} {zs : List Int} (h : Ints w a zs) {k : Nat} (hk : k < zs.length) :
    ∃ b off, a = some ⟨b, off, none⟩ ∧ ∀ i, i < zs.length → w.cell? ⟨b, off + i, none⟩ = some (.int .i64 (zs.getD i 0)) := by
  rcases h with rfl | h
  · simp at hk
  · exact h

/-- A span says of a word what m says. -/
def SpanIs (z : List Int) (f : Nat → Nat) (m : Sense) : Prop := ∀ i, f i < 2 ^ 61 ∧ ∀ j, (f i).testBit j = true ↔ i ≤ z.length ∧ m z i j

/-- What a function that makes a span leaves behind. -/
def Spans (z : List Int) (w : World) (m : Sense) (e : Ending) (w' : World) : Prop :=
  ∃ b f, e = .returned (.pointer (some ⟨b, 0, none⟩)) ∧ SpanAt w' b f ∧ w.heap.size ≤ b ∧ w.grownBy w' none ∧ SpanIs z f m

theorem pow_shl (k : Nat) (hk : k ≤ 60) : IntKind.u64.wrap ((2 : Int) ^ k) = ((2 ^ k : Nat) : Int) := by
  have h1 : 2 ^ k ≤ 2 ^ 60 := Nat.pow_le_pow_right (by decide) hk
  have h2 : ((2 : Int) ^ k) = ((2 ^ k : Nat) : Int) := by simp
  rw [h2, IntKind.wrap_u64]
  have h3 : (2 : Nat) ^ 60 = 1152921504606846976 := by decide
  generalize 2 ^ k = x at *
  omega

/-- What is laid so far. -/
def letSo (z : List Int) (c : Int) (k i : Nat) : Nat := if i < k ∧ i < z.length ∧ z.getD i 0 = c then 2 ^ (i + 1) else 0

set_option maxHeartbeats 800000 in
theorem spanLetter_any (c : Int) (a : Option Addr) (cap : Nat) (z : List Int) (w : World) (hz : Ints w a z) (hn : z.length ≤ 60) :
    Calls Tryd.prog 17 #[.int .i64 c, .slice a z.length cap] w (Spans z w (letterS c)) := by
  have HZ : Hid (Ints w a z) := hz
  clear hz
  go_enter Tryd.func17, Tryd.ntmps17
  go_wp2_with fail
  go_loopw [12] (fun v wr => ∃ k : Nat, v = .int .i64 k ∧ k ≤ z.length ∧ SpanAt wr w.heap.size (letSo z c k) ∧ w.grownBy wr none) (fun v _ => z.length - (intOf v).toNat)
  case atStart =>
    refine ⟨0, rfl, by omega, ?_, World.grownBy_alloc _ _ _⟩
    have := SpanAt.new w
    have e : letSo z c 0 = fun _ => 0 := by funext i; simp [letSo]
    rw [e]
    exact this
  case round =>
    obtain ⟨k, rfl, hk, hs, hg⟩ := hrel
    have S : Hid (SpanAt wr w.heap.size (letSo z c k)) := hs
    have G : Hid (w.grownBy wr none) := hg
    clear hs hg
    by_cases hlt : k < z.length
    · obtain ⟨b, off, rfl, hc⟩ := (HZ.out.grown G.out).at hlt
      have hck := hc k hlt
      clear hc
      by_cases he : z.getD k 0 = c
      · rw [he] at hck
        have sc := S.out.cell (i := k) (by omega)
        have sf := S.out.fz k
        have p1 : IntKind.u64.wrap ((2 : Int) ^ (k + 1)) = ((2 ^ (k + 1) : Nat) : Int) := pow_shl (k + 1) (by omega)
        have h61 : (k : Int) < 61 := by omega
        have e2 : ((2 : Int) ^ (k + 1)) = ((2 ^ (k + 1) : Nat) : Int) := by simp
        have S2 : Hid (SpanAt ((wr.setCell ⟨w.heap.size, k, none⟩ (.int .u64 ((2 : Int) ^ (k + 1)))).drew) w.heap.size (letSo z c (k + 1))) := by
          have h1 := S.out.set k e2
          have e : letSo z c (k + 1) = fun i => if i = k then 2 ^ (k + 1) else letSo z c k i := by
            funext i
            by_cases h1 : i = k
            · subst h1
              have hcond : i < i + 1 ∧ i < z.length ∧ z.getD i 0 = c := ⟨by omega, hlt, he⟩
              simp only [letSo, if_pos hcond, if_true]
            · have : i < k + 1 ↔ i < k := by omega
              simp only [letSo, this, h1, if_false]
          rw [e]
          exact h1
        have G2 : Hid (w.grownBy ((wr.setCell ⟨w.heap.size, k, none⟩ (.int .u64 ((2 : Int) ^ (k + 1)))).drew) none) := grown_drew (grown_new G.out (grown_set _ _ _) (Nat.le_refl _))
        clear e2 S G
        go_wp2_with fail
        go_region
        all_goals
          go_wp2_with fail
          go_roundw
          case rel => exact ⟨k + 1, by go_num, by omega, S2.out, G2.out⟩
          case measure => simp [intOf]; omega
      · have he' : (z.getD k 0 == c) = false := by simpa using he
        generalize hx : z.getD k 0 = x at *
        have HX : Hid (z.getD k 0 = x) := hx
        clear hx
        go_wp2_with fail
        go_roundw
        case rel =>
          refine ⟨k + 1, by go_num, by omega, ?_, G.out⟩
          have e : letSo z c (k + 1) = letSo z c k := by
            funext i
            unfold letSo
            by_cases h1 : i = k
            · subst h1
              rw [HX.out]
              simp [he]
            · have : i < k + 1 ↔ i < k := by omega
              simp only [this]
          rw [e]
          exact S.out
        case measure => simp [intOf]; omega
    · have E : Hid (Spans z w (letterS c) (.returned (.pointer (some ⟨w.heap.size, 0, none⟩))) wr) := by
        refine ⟨_, _, rfl, S.out, Nat.le_refl _, G.out, fun i => ⟨?_, fun j => ?_⟩⟩
        · unfold letSo
          split
          · rename_i h
            exact Nat.pow_lt_pow_right (by decide) (by omega)
          · decide
        · unfold letSo letterS
          split
          · rename_i h
            rw [Nat.testBit_two_pow]
            simp
            constructor
            · intro hj; exact ⟨by omega, h.2.1, h.2.2, hj.symm⟩
            · rintro ⟨_, _, _, hj⟩; exact hj.symm
          · rename_i h
            simp
            intro h1 h2 h3
            exact absurd ⟨by omega, h2, h3⟩ h
      clear S G
      go_wp2_with fail
      go_ret
      exact E.out

end Go.Proofs.YtepldeogcoigkaaDoor
