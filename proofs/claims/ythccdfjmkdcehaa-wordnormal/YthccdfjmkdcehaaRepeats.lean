/- From which place on a lasso's word repeats, as the program finds it. -/
import Derived.Test.YthccdfjmkdcehaaPeriod
import Derived.Deep.RegionWith
namespace Go.Proofs.Ythccdfjmkdcehaa
open Go.RowKit
set_option linter.unusedVariables false

/-- n is the first place up to the head's end from which on each letter comes again p places later, up to the head's end. -/
structure Rep (h l : List Int) (p n : Nat) : Prop where
  le : n ≤ h.length
  rep : ∀ m, n ≤ m → m < h.length → letF h l m = letF h l (m + p)
  first : n = 0 ∨ letF h l (n - 1) ≠ letF h l (n - 1 + p)

set_option maxHeartbeats 2000000 in
theorem repeats_any (p : Nat) (a a' : Option Addr) (c c' : Nat) (h l : List Int) (w : World) (hh : Ints w a h) (hl : Ints w a' l) (hm : h.length ≤ 60) (hm' : l.length ≤ 60) (hl0 : 0 < l.length) (hp : p ≤ 60) :
    Calls Try.prog 33 #[.agg #[.slice a h.length c, .slice a' l.length c'], .int .i64 p] w fun e w' => ∃ n : Nat, e = .returned (.int .i64 n) ∧ Rep h l p n ∧ Below w.heap.size w w' := by
  have HC : Hid (∀ (W : World) (x : Int) (n : Nat), Below w.heap.size w W → x = n → n ≤ 200 → Calls Try.prog 26 #[.agg #[.slice a h.length c, .slice a' l.length c'], .int .i64 x] W fun e w' => e = .returned (.int .i64 (letF h l n)) ∧ Below W.heap.size W w') :=
    fun W x n hW hx hn => hx ▸ letter_any n a a' c c' h l W (hh.later hW) (hl.later hW) hm hm' (by omega) hl0
  clear hh hl
  have hb0 : ∀ o, Below w.heap.size w (w.alloc o) := fun o => (Below.refl _ _).alloc (Nat.le_refl _) o
  go_enter Try.func33, Try.ntmps33
  go_wp2
  go_loopw [10] (fun i wr => ∃ k : Nat, k ≤ h.length ∧ i = .int .i64 k ∧ (∀ m, h.length - k ≤ m → m < h.length → letF h l m = letF h l (m + p)) ∧ Below (w.heap.size + 1) (w.alloc (.cells #[.slice a h.length c, .slice a' l.length c'] 30)) wr) (fun i _ => h.length - (intOf i).toNat)
  case atStart => exact ⟨0, by omega, rfl, fun j hj => by omega, Below.refl _ _⟩
  case round =>
    obtain ⟨k, hk, rfl, hg, hbel⟩ := hrel
    have HG : Hid (∀ m, h.length - k ≤ m → m < h.length → letF h l m = letF h l (m + p)) := hg
    clear hg
    have HB : Hid (Below w.heap.size w wr) := (hb0 _).trans (hbel.mono (by omega))
    have c0 : wr.cell? ⟨w.heap.size, 0, none⟩ = some (.slice a h.length c) := by rw [hbel.cell (by simp)]; simp
    have c1 : wr.cell? ⟨w.heap.size, 1, none⟩ = some (.slice a' l.length c') := by rw [hbel.cell (by simp)]; simp
    have hsz : w.heap.size < wr.heap.size := by have := hbel.size; simp at this; omega
    have HB1 : Hid (Below (w.heap.size + 1) (w.alloc (.cells #[.slice a h.length c, .slice a' l.length c'] 30)) wr) := hbel
    clear hbel
    by_cases hlt : k < h.length
    · obtain ⟨q, hq⟩ : ∃ q : Nat, q + k + 1 = h.length := ⟨h.length - k - 1, by omega⟩
      have HQ : Hid (q + k + 1 = h.length) := hq
      have e1 : IntKind.i64.wrap ((h.length : Int) - (k : Int) - 1) = (q : Int) := by
        rw [show (h.length : Int) - (k : Int) - 1 = (q : Int) by omega]; exact IntWalk.i64_in _ (by omega)
      have e2 : IntKind.i64.wrap ((q : Int) + (p : Int)) = ((q + p : Nat) : Int) := by
        rw [show (q : Int) + (p : Int) = ((q + p : Nat) : Int) by omega]; exact IntWalk.i64_in _ (by omega)
      have hq60 : q < 60 := by omega
      clear hq
      by_cases he : letF h l q = letF h l (q + p)
      · have HE : Hid (letF h l q = letF h l (q + p)) := he
        have he' : (letF h l q != letF h l (q + p)) = false := by simpa using he
        clear he
        go_wp2
        go_region_with (first | (go_at_call_of 26 (Value.int IntKind.i64 (q : Int)); refine (HC.out _ _ q (HB.out.drew) rfl (by omega)).mono ?_; rintro e w1 ⟨rfl, hb1⟩; have d0 : w1.cell? ⟨w.heap.size, 0, none⟩ = some (.slice a h.length c) := (hb1.cell (by simpa using hsz)).trans c0; have d1 : w1.cell? ⟨w.heap.size, 1, none⟩ = some (.slice a' l.length c') := (hb1.cell (by simpa using hsz)).trans c1) | (go_at_call_of 26 (Value.int IntKind.i64 ((q : Int) + (p : Int))); refine (HC.out _ _ (q + p) (HB.out.drew.trans (hb1.mono (by simp; omega))) (by omega) (by omega)).mono ?_; rintro e w2 ⟨rfl, hb2⟩))
        all_goals
          go_wp2
          go_roundw
          case rel =>
            have hs1 := hb1.size
            simp at hs1
            refine ⟨k + 1, by omega, by go_num, fun m h1 h2 => ?_, (HB1.out.drew.trans (hb1.mono (by simp; omega))).trans (hb2.mono (by omega))⟩
            have hq := HQ.out
            by_cases hmq : m = q
            · rw [hmq]; exact HE.out
            · exact HG.out m (by omega) h2
          case measure => simp [intOf]; omega
      · have HE : Hid (¬ letF h l q = letF h l (q + p)) := he
        have he' : (letF h l q != letF h l (q + p)) = true := by simpa using he
        clear he
        go_wp2
        go_region_with (first | (go_at_call_of 26 (Value.int IntKind.i64 (q : Int)); refine (HC.out _ _ q (HB.out.drew) rfl (by omega)).mono ?_; rintro e w1 ⟨rfl, hb1⟩; have d0 : w1.cell? ⟨w.heap.size, 0, none⟩ = some (.slice a h.length c) := (hb1.cell (by simpa using hsz)).trans c0; have d1 : w1.cell? ⟨w.heap.size, 1, none⟩ = some (.slice a' l.length c') := (hb1.cell (by simpa using hsz)).trans c1) | (go_at_call_of 26 (Value.int IntKind.i64 ((q : Int) + (p : Int))); refine (HC.out _ _ (q + p) (HB.out.drew.trans (hb1.mono (by simp; omega))) (by omega) (by omega)).mono ?_; rintro e w2 ⟨rfl, hb2⟩))
        all_goals
          go_wp2
          go_ret
          have hs1 := hb1.size
          simp at hs1
          have hq := HQ.out
          refine ⟨q + 1, ret_int (by omega), ⟨by omega, fun m h1 h2 => HG.out m (by omega) h2, .inr HE.out⟩, (HB.out.drew.trans (hb1.mono (by simp; omega))).trans (hb2.mono (by omega))⟩
    · go_wp2
      go_ret
      exact ⟨0, rfl, ⟨by omega, fun m h1 h2 => HG.out m (by omega) h2, .inl rfl⟩, HB.out⟩

end Go.Proofs.Ythccdfjmkdcehaa
