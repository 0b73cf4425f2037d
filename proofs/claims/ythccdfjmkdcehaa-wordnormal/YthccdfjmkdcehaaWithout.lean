/- What is left of a lasso's word behind n letters, as the program tells it. -/
import Derived.Test.YthccdfjmkdcehaaAt
import Derived.Test.YthccdfjmkdcehaaShortest
namespace Go.Proofs.Ythccdfjmkdcehaa
open Go.RowKit
set_option linter.unusedVariables false

theorem letF_drop {h l : List Int} {n : Nat} (hn : n < h.length) (m : Nat) : letF (h.drop n) l m = letF h l (n + m) := by
  unfold letF
  rw [List.length_drop]
  by_cases h1 : m < h.length - n
  · rw [if_pos h1, if_pos (by omega)]
    simp [List.getD, List.getElem?_drop]
  · rw [if_neg h1, if_neg (by omega)]
    congr 2
    omega

theorem letF_turn {h l : List Int} {n : Nat} (hn : h.length ≤ n) (h0 : 0 < l.length) (m : Nat) : letF [] (pieceF h l (h.length + (n - h.length) % l.length) l.length) m = letF h l (n + m) := by
  have e1 : letF [] (pieceF h l (h.length + (n - h.length) % l.length) l.length) m = letF h l (h.length + (n - h.length) % l.length + m % l.length) := by
    rw [← getD_pieceF h l _ l.length _ (Nat.mod_lt m h0)]
    unfold letF
    rw [if_neg (by simp), length_pieceF]
    simp
  rw [e1]
  unfold letF
  rw [if_neg (by omega), if_neg (by omega)]
  congr 1
  rw [show h.length + (n - h.length) % l.length + m % l.length - h.length = (n - h.length) % l.length + m % l.length by omega, show n + m - h.length = (n - h.length) + m by omega, ← Nat.add_mod]

/-- A lasso that lies in the world and tells f. -/
def Tells (f : Nat → Int) (w : World) (v : Value) : Prop :=
  ∃ a c h a' c' l, v = .agg #[.slice a (List.length h) c, .slice a' (List.length l) c'] ∧ Ints w a h ∧ Ints w a' l ∧ h.length ≤ 60 ∧ l.length ≤ 60 ∧ 0 < l.length ∧ ∀ m, letF h l m = f m

set_option maxHeartbeats 1000000 in
theorem without_any (n : Nat) (a a' : Option Addr) (c c' : Nat) (h l : List Int) (w : World) (hh : Ints w a h) (hl : Ints w a' l) (hm : h.length ≤ 60) (hm' : l.length ≤ 60) (hl0 : 0 < l.length) (hc : h.length ≤ c) (hn : (n : Int) ≤ 9223372036854775807) :
    Calls Try.prog 30 #[.agg #[.slice a h.length c, .slice a' l.length c'], .int .i64 n] w fun e w' => ∃ v, e = .returned v ∧ Tells (fun m => letF h l (n + m)) w' v ∧ Below w.heap.size w w' := by
  have hb0 : ∀ o o', Below w.heap.size w ((w.alloc o).alloc o') := fun o o' => ((Below.refl _ _).alloc (Nat.le_refl _) o).alloc (by simp) o'
  by_cases h1 : n < h.length
  · obtain ⟨b, off, rfl, hcell⟩ := hh.at h1
    have HT : Hid (∀ W, Below w.heap.size w W → Tells (fun m => letF h l (n + m)) W (.agg #[.slice (some ⟨b, off + n, none⟩) (h.length - n) (c - n), .slice a' l.length c'])) := by
      intro W hW
      refine ⟨some ⟨b, off + n, none⟩, c - n, h.drop n, a', c', l, by rw [List.length_drop], .inr ⟨b, off + n, rfl, fun i hi => ?_⟩, hl.later hW, by rw [List.length_drop]; omega, hm', hl0, letF_drop h1⟩
      rw [List.length_drop] at hi
      have := cell_later hW (hcell (n + i) (by omega))
      rw [Nat.add_assoc, this]
      simp [List.getD, List.getElem?_drop]
    clear hcell hh hl
    have h1' : (n : Int) < (h.length : Int) := by omega
    have h2' : (h.length : Int) ≤ (c : Int) := by omega
    go_enter Try.func30, Try.ntmps30
    go_wp2
    go_region
    all_goals
      go_wp2
      exact bodyPost_ret (v := .agg #[.slice (some ⟨b, off + n, none⟩) (h.length - n) (c - n), .slice a' l.length c']) (by simp [results, Try.results30, go_sem]) rfl ⟨_, rfl, HT.out _ (hb0 _ _).drew, (hb0 _ _).drew⟩
  · have HC : Hid (∀ (W : World) (x y : Int) (f k : Nat), Below w.heap.size w W → x = f → y = k → f ≤ 200 → k ≤ 200 → Calls Try.prog 34 #[.agg #[.slice a h.length c, .slice a' l.length c'], .int .i64 x, .int .i64 y] W fun e w' => ∃ g : Nat, e = .returned (.slice (some ⟨g, 0, none⟩) k k) ∧ Own W.heap.size w' (.slice (some ⟨g, 0, none⟩) k k) (pieceF h l f k) ∧ Below W.heap.size W w') :=
      fun W x y f k hW hx hy hf hk => hx ▸ hy ▸ piece_any f k a a' c c' h l W (hh.later hW) (hl.later hW) hm hm' hl0 hf hk
    clear hh hl
    have h1' : ¬ ((n : Int) < (h.length : Int)) := by omega
    have hlt : (n - h.length) % l.length < l.length := Nat.mod_lt _ hl0
    have HT : Hid (∀ (W : World) (g : Nat) (base : Nat), Own base W (.slice (some ⟨g, 0, none⟩) l.length l.length) (pieceF h l (h.length + (n - h.length) % l.length) l.length) → Tells (fun m => letF h l (n + m)) W (.agg #[.slice none 0 0, .slice (some ⟨g, 0, none⟩) l.length l.length])) := by
      intro W g base ho
      exact ⟨none, 0, [], some ⟨g, 0, none⟩, l.length, pieceF h l (h.length + (n - h.length) % l.length) l.length, by rw [length_pieceF]; rfl, .inl rfl, ho.ints, by simp, by rw [length_pieceF]; exact hm', by rw [length_pieceF]; exact hl0, letF_turn (by omega) hl0⟩
    obtain ⟨r, hr⟩ : ∃ r, r = (n - h.length) % l.length := ⟨_, rfl⟩
    rw [← hr] at HT hlt
    have HR : Hid (((n : Int) - (h.length : Int)) % (l.length : Int) = (r : Int)) := by
      show ((n : Int) - (h.length : Int)) % (l.length : Int) = (r : Int)
      rw [hr, show (n : Int) - (h.length : Int) = ((n - h.length : Nat) : Int) by omega]; rfl
    clear hr
    go_enter Try.func30, Try.ntmps30
    go_wp2_with fail
    refine (HC.out _ _ _ (h.length + r) l.length (hb0 _ _) (by rw [HR.out, IntWalk.wrap64_in _ (by omega)]; omega) rfl (by omega) (by omega)).mono ?_
    rintro e w1 ⟨g, rfl, ho, hb1⟩
    have r0 : w1.cell? ⟨w.heap.size + 1, 0, none⟩ = some (.slice none 0 0) := by rw [hb1.cell (by simp)]; simp
    have r1 : w1.cell? ⟨w.heap.size + 1, 1, none⟩ = some (.slice none 0 0) := by rw [hb1.cell (by simp)]; simp
    have f0 : w1.frozen? ⟨w.heap.size + 1, 0, none⟩ = false := by rw [hb1.frozen (by simp)]; simp
    have f1 : w1.frozen? ⟨w.heap.size + 1, 1, none⟩ = false := by rw [hb1.frozen (by simp)]; simp
    have hs1 : w.heap.size + 1 < w1.heap.size := by have := hb1.size; simp at this; omega
    have lt := ho.lt.1
    simp at lt
    have HO : Hid (Own _ w1 (.slice (some ⟨g, 0, none⟩) l.length l.length) (pieceF h l (h.length + r) l.length)) := ho
    have HB : Hid (Below w.heap.size w w1) := (hb0 _ _).trans (hb1.mono (by simp; omega))
    clear ho hb1
    go_wp2
    have q0 : (w1.setCell ⟨w.heap.size + 1, 0, none⟩ (.slice none 0 0)).cell? ⟨w.heap.size + 1, 0, none⟩ = some (.slice none 0 0) := cell_set_same r0
    have q1 : ((w1.setCell ⟨w.heap.size + 1, 0, none⟩ (.slice none 0 0)).setCell ⟨w.heap.size + 1, 1, none⟩ (.slice (some ⟨g, 0, none⟩) l.length l.length)).cell? ⟨w.heap.size + 1, 1, none⟩ = some (.slice (some ⟨g, 0, none⟩) l.length l.length) := cell_set_two r1
    exact bodyPost_ret (v := .agg #[.slice none 0 0, .slice (some ⟨g, 0, none⟩) l.length l.length]) (by simp [results, Try.results30, go_sem, q0, q1]) rfl ⟨_, rfl, HT.out _ g _ ((HO.out.setOther (by omega) _).setOther (by omega) _), (HB.out.setCell (by simp) _).setCell (by simp) _⟩

end Go.Proofs.Ythccdfjmkdcehaa
