/- det.Made's parts: a set as bits, its two closures. -/
import Derived.Test.YtcgkflddipflbaaUSp
import Derived.Test.YtcgkflddipflbaaUCk
namespace Go.Proofs.Ytcgkflddipflbaa
open Go.RowKit
set_option linter.unusedVariables false

set_option maxHeartbeats 800000 in
theorem bits_any (zs : List Int) (n : Int) (a : Option Addr) (c : Nat) (w : World) (h : Ints w a zs) (hm : zs.length ≤ maxLen) (hin : InR zs n) (hn : n ≤ 8) :
    Calls Try.prog 57 #[.slice a zs.length c] w fun e w' => e = .returned (.int .i64 (setOf zs : Nat)) ∧ w' = w := by
  unfold maxLen at hm
  have HZ : Hid (Ints w a zs) := h
  have HI : Hid (InR zs n) := hin
  clear h hin
  go_enter Try.func57, Try.ntmps57
  go_wp2_with fail
  go_loop [3, 8] (fun r v => ∃ k s : Nat, k ≤ zs.length ∧ v = .int .i64 k ∧ r = .int .i64 s ∧ s = setOf (zs.take k)) (fun _ v => zs.length - (intOf v).toNat)
  case atStart => exact ⟨0, 0, Nat.zero_le _, rfl, rfl, rfl⟩
  case round =>
    obtain ⟨k, s, hk, rfl, rfl, hs⟩ := hrel
    have HS : Hid (s = setOf (zs.take k)) := hs
    have hs8 : s < 256 := hs ▸ setOf_lt (inR_take HI.out k) hn
    clear hs
    by_cases hlt : k < zs.length
    · obtain ⟨b, off, rfl, hc⟩ := HZ.out.at hlt
      have hck := hc k hlt
      have hx := HI.out k hlt
      clear hc
      obtain ⟨x, hx2⟩ : ∃ x : Nat, zs.getD k 0 = x := ⟨(zs.getD k 0).toNat, by omega⟩
      have HX : Hid (setOf (zs.take (k + 1)) = s ||| 2 ^ x) := by show _ = _; rw [setOf_snoc hlt, hx2, HS.out]; simp
      rw [hx2] at hck hx
      have hx8 : x < 8 := by omega
      have hxi : ¬ (x : Int) < 0 := by omega
      clear hx hx2
      go_wp2
      go_round
      case rel =>
        refine ⟨k + 1, s ||| 2 ^ x, by omega, by go_num, ?_, HX.out.symm⟩
        rw [show wrap64 ((2 : Int) ^ x) = ((2 ^ x : Nat) : Int) from (IntWalk.i64_left _).symm.trans (pow_wrap hx8), orI hs8 (pow_lt8 hx8)]
      case measure => simp [intOf]; omega
    · go_wp2
      go_ret
      have : zs.take k = zs := List.take_of_length_le (by omega)
      exact ⟨by rw [← this, ← HS.out]; rfl, rfl⟩

/-- The table of steps: a row a state, a number a letter. -/
structure TabAt (w : World) (bt nS l : Nat) (a : Option Addr) (c : Nat) (g : Nat → Nat → Nat) : Prop where
  box : w.cell? ⟨bt, 0, none⟩ = some (.slice a nS c)
  rows : ∃ ba, a = some ⟨ba, 0, none⟩ ∧ ∀ f, f < nS → ∃ bx cx, w.cell? ⟨ba, f, none⟩ = some (.slice (some ⟨bx, 0, none⟩) l cx) ∧ ∀ k, k < l → w.cell? ⟨bx, k, none⟩ = some (.int .i64 (g f k : Nat))
theorem TabAt.grown {w w' : World} {bt nS l : Nat} {a : Option Addr} {c : Nat} {g : Nat → Nat → Nat} (h : TabAt w bt nS l a c g) (hg : w.grownBy w' none) : TabAt w' bt nS l a c g := by
  obtain ⟨ba, ha, hr⟩ := h.rows
  refine ⟨hg.cell h.box (by simp), ba, ha, fun f hf => ?_⟩
  obtain ⟨bx, cx, h1, h2⟩ := hr f hf
  exact ⟨bx, cx, hg.cell h1 (by simp), fun k hk => hg.cell (h2 k hk) (by simp)⟩

set_option maxHeartbeats 1600000 in
set_option maxRecDepth 100000 in
theorem byNext_any (bt nS l s k : Nat) (a : Option Addr) (c : Nat) (g : Nat → Nat → Nat) (w : World) (h : TabAt w bt nS l a c g) (hk : k < l) (hl : l ≤ 4) (hn : nS ≤ 8) (hs : s < 256) (hg : ∀ f, f < nS → g f k < 256) :
    Calls Try.prog 56 #[.int .i64 (s : Nat), .int .i64 (k : Nat), .pointer (some ⟨bt, 0, none⟩)] w fun e w' => e = .returned (.int .i64 (orTo (fun f => g f k) s nS : Nat)) ∧ w.grownBy w' none := by
  obtain ⟨ba, rfl, hr⟩ := h.rows
  have hb := h.box
  have HR : Hid (∀ f, f < nS → ∃ bx cx, w.cell? ⟨ba, f, none⟩ = some (.slice (some ⟨bx, 0, none⟩) l cx) ∧ ∀ k, k < l → w.cell? ⟨bx, k, none⟩ = some (.int .i64 (g f k : Nat))) := hr
  have HGl : Hid (∀ f, f < nS → g f k < 256) := hg
  have hki : (k : Int) < (l : Int) := by omega
  clear h hr hg
  go_enter Try.func56, Try.ntmps56
  go_wp2_with fail
  go_loop [6, 11] (fun r v => ∃ f y : Nat, f ≤ nS ∧ v = .int .i64 f ∧ r = .int .i64 y ∧ y = orTo (fun f => g f k) s f) (fun _ v => nS - (intOf v).toNat)
  case atStart => exact ⟨0, 0, Nat.zero_le _, rfl, rfl, rfl⟩
  case round =>
    obtain ⟨f, y, hf, rfl, rfl, hy⟩ := hrel
    have HY : Hid (y = orTo (fun f => g f k) s f) := hy
    have hy8 : y < 256 := hy ▸ orTo_lt (fun f' hf' => HGl.out f' (by omega))
    clear hy
    by_cases hlt : f < nS
    · obtain ⟨bx, cx, h1, h2⟩ := HR.out f hlt
      have h3 := h2 k hk
      have h4 := HGl.out f hlt
      have hfi : (f : Int) < (nS : Int) := by omega
      have hf0 : ¬ (f : Int) < 0 := by omega
      have hbit := shr_bit (s := s) (x := f) hs
      have HO : Hid (orTo (fun f => g f k) s (f + 1) = if s.testBit f = true then orTo (fun f => g f k) s f ||| g f k else orTo (fun f => g f k) s f) := rfl
      clear h2
      by_cases hb2 : s.testBit f = true
      · rw [if_pos hb2] at hbit
        have HO2 : Hid (orTo (fun f => g f k) s (f + 1) = y ||| g f k) := by show _ = _; rw [HO.out, if_pos hb2, HY.out]
        clear hb2 HO
        generalize g f k = gg at *
        have hor := orI hy8 h4
        go_wp2_with fail
        go_round
        case rel => exact ⟨f + 1, y ||| gg, by omega, by go_num, by first | rfl | rw [hor], HO2.out.symm⟩
        case measure => simp [intOf]; omega
      · rw [if_neg hb2] at hbit
        have HO2 : Hid (orTo (fun f => g f k) s (f + 1) = y) := by show _ = _; rw [HO.out, if_neg hb2, HY.out]
        clear hb2 HO
        go_wp2_with fail
        go_round
        case rel => exact ⟨f + 1, y, by omega, by go_num, rfl, HO2.out.symm⟩
        case measure => simp [intOf]; omega
    · have hfi : ¬ (f : Int) < (nS : Int) := by omega
      have hfe : f = nS := by omega
      go_wp2_with fail
      go_ret
      exact ⟨by rw [← hfe, ← HY.out]; rfl, grown_refl _ _⟩

set_option maxHeartbeats 800000 in
theorem byMark_any (bf s fs : Nat) (w : World) (h : w.cell? ⟨bf, 0, none⟩ = some (.int .i64 (fs : Nat))) (hs : s < 256) (hf : fs < 256) :
    Calls Try.prog 58 #[.int .i64 (s : Nat), .pointer (some ⟨bf, 0, none⟩)] w fun e w' => e = .returned (.bool (decide (s &&& fs ≠ 0))) ∧ w.grownBy w' none := by
  obtain ⟨r, hr⟩ : ∃ r, decide (s &&& fs ≠ 0) = r := ⟨_, rfl⟩
  rw [hr]
  have ha := andI hs hf
  obtain ⟨y, hy⟩ : ∃ y, s &&& fs = y := ⟨_, rfl⟩
  rw [hy] at hr ha
  have hne : ((y : Int) != 0) = r := by
    rw [← hr]
    by_cases h0 : y = 0
    · subst h0; simp
    · simp [h0]
  clear hy hr
  go_enter Try.func58, Try.ntmps58
  go_wp2_with fail
  go_ret
  exact ⟨rfl, grown_refl _ _⟩

end Go.Proofs.Ytcgkflddipflbaa
