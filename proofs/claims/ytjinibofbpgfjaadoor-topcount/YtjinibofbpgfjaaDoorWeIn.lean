/- Is some number of a row too large: the program's allWithin, the reference's above. -/
import Derived.Test.YtjinibofbpgfjaaDoorWeBase
namespace Go.Proofs.YtjinibofbpgfjaaDoor
open Go.RowKit
set_option linter.unusedVariables false
set_option linter.unusedSimpArgs false

theorem inW_of {l : List Int} {most : Int} (h : ∀ k, k < l.length → -most ≤ l.getD k 0 ∧ l.getD k 0 ≤ most) : InW l most := fun x hx => by
  obtain ⟨k, hk, rfl⟩ := List.mem_iff_getElem.1 hx
  have := h k hk
  rw [List.getD_eq_getElem?_getD, List.getElem?_eq_getElem hk] at this
  exact this
theorem InW.at {l : List Int} {most : Int} (h : InW l most) {k : Nat} (hk : k < l.length) : -most ≤ l.getD k 0 ∧ l.getD k 0 ≤ most := by
  rw [List.getD_eq_getElem?_getD, List.getElem?_eq_getElem hk]
  exact h _ (List.getElem_mem hk)

set_option maxHeartbeats 1600000 in
set_option maxRecDepth 100000 in
theorem allWithin_any (l : List Int) (a : Option Addr) (n c : Nat) (most : Int) (w : World) (h : Ints w a l) (hn : l.length = n) (hm : n ≤ maxLen) (h0 : 0 ≤ most ∧ most ≤ 1000) :
    Calls Tryd.prog 25 #[.slice a n c, .int .i64 most] w (TellsB (InW l most) w) := by
  have H : Hid (Ints w a l) := h
  have E : Hid (l.length = n) := hn
  have G : Hid (w.grownBy w none) := grown_refl _ _
  obtain ⟨m0, m1⟩ := h0
  have wn : IntKind.i64.wrap (-most) = -most := by rw [IntKind.wrap_i64]; omega
  unfold maxLen at hm
  clear h hn
  go_enter Tryd.func25, Tryd.ntmps25
  go_wp2_with fail
  go_loopw [9] (fun v W => ∃ k : Nat, k ≤ n ∧ v = .int .i64 k ∧ w.grownBy W none ∧ ∀ s, s < k → -most ≤ l.getD s 0 ∧ l.getD s 0 ≤ most) (fun v _ => n - (intOf v).toNat)
  case atStart => exact ⟨0, Nat.zero_le _, rfl, grown_refl _ _, fun j hj => by omega⟩
  case round =>
    obtain ⟨k, hk, rfl, hgw, hg⟩ := hrel
    have HJ : Hid (∀ s, s < k → -most ≤ l.getD s 0 ∧ l.getD s 0 ≤ most) := hg
    have HGW : Hid (w.grownBy wr none) := hgw
    clear hg hgw
    by_cases hlt : k < n
    · have i1 : (k : Int) < (n : Int) := by omega
      obtain ⟨b, off, rfl, hc⟩ := (H.out.grown HGW.out).at (k := k) (by rw [E.out]; exact hlt)
      have q1 := hc k (by rw [E.out]; exact hlt)
      obtain ⟨z, hz⟩ : ∃ z, l.getD k 0 = z := ⟨_, rfl⟩
      have HZ : Hid (l.getD k 0 = z) := hz
      rw [hz] at q1
      clear hc hz
      by_cases c1 : z < -most
      · have HF : Hid (¬ InW l most) := fun hs => by have := (hs.at (k := k) (by rw [E.out]; exact hlt)).1; rw [HZ.out] at this; omega
        go_wp2_with fail
        go_ret
        exact tellsB false rfl ⟨(fun e => by cases e), fun e => absurd e HF.out⟩ HGW.out
      · by_cases c2 : most < z
        · have HF : Hid (¬ InW l most) := fun hs => by have := (hs.at (k := k) (by rw [E.out]; exact hlt)).2; rw [HZ.out] at this; omega
          go_wp2_with fail
          go_ret
          exact tellsB false rfl ⟨(fun e => by cases e), fun e => absurd e HF.out⟩ HGW.out
        · have HF : Hid (∀ s, s < k + 1 → -most ≤ l.getD s 0 ∧ l.getD s 0 ≤ most) := fun s hs => by
            by_cases hsk : s = k
            · subst hsk; rw [HZ.out]; omega
            · exact HJ.out s (by omega)
          go_wp2_with fail
          go_roundw
          case rel => exact ⟨k + 1, by omega, by go_num, HGW.out, HF.out⟩
          case measure => simp [intOf]; omega
    · have i1 : ¬ (k : Int) < (n : Int) := by omega
      have HF : Hid (InW l most) := inW_of fun s hs => HJ.out s (by rw [E.out] at hs; omega)
      go_wp2_with fail
      go_ret
      exact tellsB true rfl ⟨fun _ => HF.out, fun _ => rfl⟩ HGW.out

set_option maxHeartbeats 1600000 in
set_option maxRecDepth 100000 in
theorem above_any (l : List Int) (a : Option Addr) (n c : Nat) (most : Int) (w : World) (h : Ints w a l) (hn : l.length = n) (hm : n ≤ maxLen) (h0 : 0 ≤ most ∧ most ≤ 1000) :
    Calls Tryd.prog 26 #[.slice a n c, .int .i64 most] w (TellsB (¬ InW l most) w) := by
  have H : Hid (Ints w a l) := h
  have E : Hid (l.length = n) := hn
  obtain ⟨m0, m1⟩ := h0
  have wn : IntKind.i64.wrap (-most) = -most := by rw [IntKind.wrap_i64]; omega
  unfold maxLen at hm
  clear h hn
  go_enter Tryd.func26, Tryd.ntmps26
  go_wp2_with fail
  go_loopw [5] (fun v W => ∃ k : Nat, k ≤ n ∧ v = .int .i64 k ∧ w.grownBy W none ∧ ∀ s, s < k → -most ≤ l.getD s 0 ∧ l.getD s 0 ≤ most) (fun v _ => n - (intOf v).toNat)
  case atStart => exact ⟨0, Nat.zero_le _, rfl, grown_refl _ _, fun j hj => by omega⟩
  case round =>
    obtain ⟨k, hk, rfl, hgw, hg⟩ := hrel
    have HJ : Hid (∀ s, s < k → -most ≤ l.getD s 0 ∧ l.getD s 0 ≤ most) := hg
    have HGW : Hid (w.grownBy wr none) := hgw
    clear hg hgw
    by_cases hlt : k < n
    · have i1 : (k : Int) < (n : Int) := by omega
      obtain ⟨b, off, rfl, hc⟩ := (H.out.grown HGW.out).at (k := k) (by rw [E.out]; exact hlt)
      have q1 := hc k (by rw [E.out]; exact hlt)
      obtain ⟨z, hz⟩ : ∃ z, l.getD k 0 = z := ⟨_, rfl⟩
      have HZ : Hid (l.getD k 0 = z) := hz
      rw [hz] at q1
      clear hc hz
      by_cases c1 : z < -most
      · have HF : Hid (¬ InW l most) := fun hs => by have := (hs.at (k := k) (by rw [E.out]; exact hlt)).1; rw [HZ.out] at this; omega
        go_wp2_with fail
        go_ret
        exact tellsB true rfl ⟨fun _ => HF.out, fun _ => rfl⟩ HGW.out
      · by_cases c2 : most < z
        · have HF : Hid (¬ InW l most) := fun hs => by have := (hs.at (k := k) (by rw [E.out]; exact hlt)).2; rw [HZ.out] at this; omega
          go_wp2_with fail
          go_ret
          exact tellsB true rfl ⟨fun _ => HF.out, fun _ => rfl⟩ HGW.out
        · have HF : Hid (∀ s, s < k + 1 → -most ≤ l.getD s 0 ∧ l.getD s 0 ≤ most) := fun s hs => by
            by_cases hsk : s = k
            · subst hsk; rw [HZ.out]; omega
            · exact HJ.out s (by omega)
          go_wp2_with fail
          go_roundw
          case rel => exact ⟨k + 1, by omega, by go_num, HGW.out, HF.out⟩
          case measure => simp [intOf]; omega
    · have i1 : ¬ (k : Int) < (n : Int) := by omega
      have HF : Hid (InW l most) := inW_of fun s hs => HJ.out s (by rw [E.out] at hs; omega)
      go_wp2_with fail
      go_ret
      exact tellsB false rfl ⟨(fun e => by cases e), fun e => absurd HF.out e⟩ HGW.out

end Go.Proofs.YtjinibofbpgfjaaDoor
