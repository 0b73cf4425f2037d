/- A part of a text, and what stands in brackets, as the program reads them. -/
/- A row, as the program reads it. -/
/- A text, as the program reads it. -/
/- How the program reads a whole text, and gives up: the deferred function that catches what a reader gives up with. -/
import Derived.Test.YtkkmdcnbifepjaaDoorRdr
import Derived.Defers
import Derived.Recover
import Derived.Laws.Pointers
namespace Go.Proofs.YtkkmdcnbifepjaaDoor
open Go.RowKit
set_option linter.unusedVariables false

set_option maxHeartbeats 400000 in
theorem bracket_does (s : ByteArray) (W : Nat → Nat → Res) (n : Nat) (hs : s.size ≤ 4000) (hadv : Adv s W) (hW : Does 34 s W n) (i d b : Nat) (w : World) (hi : i < s.size) (hn : s.size - i < n + 1) (hd : d ≤ 40) (h : Rd w b s i d) :
    Calls Tryd.prog 84 #[.pointer (some ⟨b, 0, none⟩)] w (Gives s b d w (bracketS s W i d)) := by
  have c1 := h.c1
  have c2 := h.c2
  have f1 := h.f 1
  have f2 := h.f 2
  have H : Hid (Rd w b s i d) := h
  have HW : Hid (Does 34 s W n) := hW
  have H0 : Hid (b < w.heap.size) := h.lt
  clear h hW
  by_cases h40 : d = 40
  · subst h40
    have hS : bracketS s W i 40 = .bad 7 i := by simp [bracketS]
    rw [hS]
    go_enter Tryd.func84, Tryd.ntmps84
    go_wp2_with fail
    exact ⟨rfl, grown_refl _ _, .inr ⟨rfl, rfl⟩⟩
  · have h40' : ((d : Int) == 40) = false := by simp; omega
    have G0 : Hid (w.grownBy ((w.setCell ⟨b, 1, none⟩ (.int .i64 ((i : Int) + 1))).setCell ⟨b, 2, none⟩ (.int .i64 ((d : Int) + 1))) (some b)) := grown_trans (grown_set w _ _) (grown_set _ _ _)
    have R0 : Hid (Rd ((w.setCell ⟨b, 1, none⟩ (.int .i64 ((i : Int) + 1))).setCell ⟨b, 2, none⟩ (.int .i64 ((d : Int) + 1))) b s (i + 1) (d + 1)) := (H.out.set1 (i + 1) (by omega)).set2 (d + 1) (by omega)
    cases hR : W (i + 1) (d + 1) with
    | bad c j =>
      have hS : bracketS s W i d = .bad c j := by simp [bracketS, h40, hR]
      rw [hS]
      go_enter Tryd.func84, Tryd.ntmps84
      go_wp2_with fail
      refine (HW.out (i + 1) (d + 1) b _ (by omega) (by omega) (by omega) R0.out).mono ?_
      rw [hR]
      rintro e w2 ⟨hg, ⟨rfl, rfl⟩ | ⟨rfl, rfl⟩⟩
      · exact ⟨rfl, grown_trans G0.out hg, .inl ⟨rfl, rfl⟩⟩
      · exact ⟨rfl, grown_trans G0.out hg, .inr ⟨rfl, rfl⟩⟩
    | good m j =>
      have hj := hadv _ _ _ _ hR
      by_cases h41 : byteAt s j = 41
      · have hS : bracketS s W i d = .good m (j + 1) := by simp [bracketS, h40, hR, h41]
        have hjl := byte_lt h41 (by omega)
        rw [hS]
        clear hS
        go_enter Tryd.func84, Tryd.ntmps84
        go_wp2_with fail
        refine (HW.out (i + 1) (d + 1) b _ (by omega) (by omega) (by omega) R0.out).mono ?_
        rw [hR]
        rintro e w2 ⟨hg, v, rfl, hrd, hl⟩
        have HL : Hid (Lies (fun k => w.heap.size ≤ k) w2 v m) := hl.kept fun g hg _ => ⟨by simpa [World.setCell] using hg, rfl⟩
        have G2 : Hid (w.grownBy w2 (some b)) := grown_trans G0.out hg
        have R2 : Hid (Rd w2 b s j (d + 1)) := hrd
        clear hl hg hrd hR G0 R0 c1 c2 f1 f2 H HW
        go_wp2_with fail
        refine (peek_any s b j (d + 1) _ hs (by omega) R2.out).mono ?_
        rintro e w3 ⟨rfl, hg3⟩
        rw [h41]
        have R3 := R2.out.kept hg3
        have G3 : Hid (w.grownBy w3 (some b)) := grown_trans G2.out (grown_some hg3)
        have HL3 : Hid (Lies (fun k => w.heap.size ≤ k) w3 v m) := HL.out.kept fun g hg hlt => ⟨hg, hg3.block g hlt (by simp)⟩
        have c1 := R3.c1
        have c2 := R3.c2
        have f1 := R3.f 1
        have f2 := R3.f 2
        have HR3 : Hid (Rd w3 b s j (d + 1)) := R3
        clear R3 hg3 R2 G2 HL
        go_wp2_with fail
        go_ret
        refine ⟨grown_trans G3.out (grown_trans (grown_set _ _ _) (grown_set _ _ _)), v, rfl, (HR3.out.set1 (j + 1) (by omega)).set2 d (by omega), HL3.out.kept fun g hg hlt => ⟨hg, ?_⟩⟩
        have hne : g ≠ b := by have := H0.out; omega
        rw [Below.heap_setCell _ _ _ _ hne, Below.heap_setCell _ _ _ _ hne]
      · have hS : bracketS s W i d = .bad 4 j := by simp [bracketS, h40, hR, h41]
        have h41' : ((byteAt s j : Int) == 41) = false := by simp; omega
        rw [hS]
        clear hS
        go_enter Tryd.func84, Tryd.ntmps84
        go_wp2_with fail
        refine (HW.out (i + 1) (d + 1) b _ (by omega) (by omega) (by omega) R0.out).mono ?_
        rw [hR]
        rintro e w2 ⟨hg, v, rfl, hrd, hl⟩
        have G2 : Hid (w.grownBy w2 (some b)) := grown_trans G0.out hg
        have R2 : Hid (Rd w2 b s j (d + 1)) := hrd
        clear hl hg hrd hR G0 R0 c1 c2 f1 f2 H HW
        go_wp2_with fail
        refine (peek_any s b j (d + 1) _ hs (by omega) R2.out).mono ?_
        rintro e w3 ⟨rfl, hg3⟩
        have R3 := R2.out.kept hg3
        have G3 : Hid (w.grownBy w3 (some b)) := grown_trans G2.out (grown_some hg3)
        have c1 := R3.c1
        have f1 := R3.f 1
        clear R3 hg3 R2 G2
        go_wp2_with fail
        exact ⟨rfl, G3.out, .inl ⟨rfl, rfl⟩⟩

theorem part_does (s : ByteArray) (W : Nat → Nat → Res) (n : Nat) (hs : s.size ≤ 4000) (hadv : Adv s W) (hW : Does 34 s W n) : Does 80 s (partS s W) (n + 1) := by
  intro i d b w hi hn hd h
  have HB : Hid (∀ w1, i < s.size → Rd w1 b s i d → Calls Tryd.prog 84 #[.pointer (some ⟨b, 0, none⟩)] w1 (Gives s b d w1 (bracketS s W i d))) := fun w1 hi1 h1 => bracket_does s W n hs hadv hW i d b w1 hi1 hn hd h1
  have HP : Hid (Calls Tryd.prog 52 #[.pointer (some ⟨b, 0, none⟩)] w fun e w' => e = .returned (.int .u8 (byteAt s i)) ∧ w.grownBy w' none) := peek_any s b i d w hs hi h
  have H : Hid (Rd w b s i d) := h
  clear h hW
  have hc := byteAt_lt s i
  have hi0 : Hid (beginsF (byteAt s i) = true → i < s.size) := begins_lt
  unfold partS
  generalize byteAt s i = c at *
  by_cases hb : beginsF c = false
  · rw [if_pos hb]
    go_enter Tryd.func80, Tryd.ntmps80
    go_wp2_with fail
    refine HP.out.mono ?_
    rintro e w2 ⟨rfl, hg⟩
    have c1 := (H.out.kept hg).c1
    have f1 := (H.out.kept hg).f 1
    have G : Hid (w.grownBy w2 (some b)) := grown_some hg
    clear hg HP H
    go_wp2_with fail
    refine (begins_any c _ hc).mono ?_
    rintro e w3 ⟨rfl, rfl⟩
    rw [hb]
    go_wp2_with fail
    exact ⟨rfl, G.out, .inl ⟨rfl, rfl⟩⟩
  · rw [if_neg hb]
    have hb' : beginsF c = true := by simpa using hb
    have hlt : i < s.size := hi0.out hb'
    clear hb hi0
    by_cases h40 : c = 40
    · rw [if_pos h40]
      subst h40
      generalize bracketS s W i d = R at HB ⊢
      go_enter Tryd.func80, Tryd.ntmps80
      go_wp2_with fail
      refine HP.out.mono ?_
      rintro e w2 ⟨rfl, hg⟩
      have R2 : Hid (Rd w2 b s i d) := H.out.kept hg
      have G : Hid (w.grownBy w2 none) := hg
      clear hg HP H
      go_wp2_with fail
      refine (begins_any _ _ hc).mono ?_
      rintro e w3 ⟨rfl, rfl⟩
      rw [hb']
      go_wp2_with fail
      refine (HB.out _ hlt R2.out).mono ?_
      cases R with
      | bad c j =>
        rintro e w4 ⟨hg4, ⟨rfl, rfl⟩ | ⟨rfl, rfl⟩⟩
        · exact ⟨rfl, grown_trans (grown_some G.out) hg4, .inl ⟨rfl, rfl⟩⟩
        · exact ⟨rfl, grown_trans (grown_some G.out) hg4, .inr ⟨rfl, rfl⟩⟩
      | good m j =>
        rintro e w4 ⟨hg4, v, rfl, hrd, hl⟩
        have G4 : Hid (Gives s b d w (.good m j) (.returned v) w4) := ⟨grown_trans (grown_some G.out) hg4, v, rfl, hrd, hl.kept fun g hg _ => ⟨Nat.le_trans G.out.size hg, rfl⟩⟩
        clear hrd hl hg4 G R2
        go_wp2_with fail
        go_ret
        exact G4.out
    · rw [if_neg h40]
      have h40' : ((c : Int) == 40) = false := by simp; omega
      have G0 : Hid (∀ w2 : World, w.grownBy w2 none → ∀ (v : Value) (m : Sense), (∀ w3 : World, Lies (fun k => w.heap.size ≤ k) w3 v m) → Gives s b d w (.good m (i + 1)) (.returned v) (w2.setCell ⟨b, 1, none⟩ (.int .i64 ((i : Int) + 1)))) :=
        fun w2 hg v m hl => ⟨grown_trans (grown_some hg) (grown_set _ _ _), v, rfl, (H.out.kept hg).set1 (i + 1) (by omega), hl _⟩
      have G1 : Hid (∀ w2 : World, w.grownBy w2 none → ∀ (v : Value) (m : Sense) (o : Obj), (∀ w3 : World, Lies (fun k => w.heap.size ≤ k) w3 v m) → Gives s b d w (.good m (i + 1)) (.returned v) ((w2.setCell ⟨b, 1, none⟩ (.int .i64 ((i : Int) + 1))).alloc o)) :=
        fun w2 hg v m o hl => ⟨grown_trans (grown_trans (grown_some hg) (grown_set _ _ _)) (World.grownBy_alloc _ _ _), v, rfl, ((H.out.kept hg).set1 (i + 1) (by omega)).kept (World.grownBy_alloc _ _ _), hl _⟩
      by_cases h48 : c = 48
      · rw [if_pos h48]
        subst h48
        go_enter Tryd.func80, Tryd.ntmps80
        go_wp2_with fail
        refine HP.out.mono ?_
        rintro e w2 ⟨rfl, hg⟩
        have c1 := (H.out.kept hg).c1
        have f1 := (H.out.kept hg).f 1
        have G : Hid (w.grownBy w2 none) := hg
        clear hg HP H
        go_wp2_with fail
        refine (begins_any _ _ hc).mono ?_
        rintro e w3 ⟨rfl, rfl⟩
        rw [hb']
        go_wp2_with fail
        go_ret
        first | exact G0.out _ G.out _ _ (fun _ => .none _ _) | exact G1.out _ G.out _ _ _ (fun _ => .none _ _)
      · rw [if_neg h48]
        have h48' : ((c : Int) == 48) = false := by simp; omega
        by_cases h49 : c = 49
        · rw [if_pos h49]
          subst h49
          go_enter Tryd.func80, Tryd.ntmps80
          go_wp2_with fail
          refine HP.out.mono ?_
          rintro e w2 ⟨rfl, hg⟩
          have c1 := (H.out.kept hg).c1
          have f1 := (H.out.kept hg).f 1
          have G : Hid (w.grownBy w2 none) := hg
          clear hg HP H
          go_wp2_with fail
          refine (begins_any _ _ hc).mono ?_
          rintro e w3 ⟨rfl, rfl⟩
          rw [hb']
          go_wp2_with fail
          go_ret
          first | exact G0.out _ G.out _ _ (fun _ => .empty _ _) | exact G1.out _ G.out _ _ _ (fun _ => .empty _ _)
        · rw [if_neg h49]
          have h49' : ((c : Int) == 49) = false := by simp; omega
          have h97 : 97 ≤ c ∧ c ≤ 100 := by
            simp [beginsF, h40, h48, h49] at hb'
            exact hb'
          have hw8 : IntKind.u8.wrap ((c : Int) - 97) = (c : Int) - 97 := wraps_u8 _ (by omega) (by omega)
          go_enter Tryd.func80, Tryd.ntmps80
          go_wp2_with fail
          refine HP.out.mono ?_
          rintro e w2 ⟨rfl, hg⟩
          have c1 := (H.out.kept hg).c1
          have f1 := (H.out.kept hg).f 1
          have G : Hid (w.grownBy w2 none) := hg
          clear hg HP H
          go_wp2_with fail
          refine (begins_any _ _ hc).mono ?_
          rintro e w3 ⟨rfl, rfl⟩
          rw [hb']
          go_wp2_with fail
          go_ret
          exact G0.out _ G.out _ _ (fun _ => by
            have e : ((c : Int) - 97) = ((c - 97 : Nat) : Int) := by omega
            rw [e]
            exact .letter (c - 97) (by omega))

set_option maxHeartbeats 400000 in
theorem one_does (s : ByteArray) (P : Nat → Nat → Res) (n : Nat) (hs : s.size ≤ 4000) (hadv : Adv s P) (hP : Does 80 s P n) : Does 67 s (oneS s P) n := by
  intro i d b w hi hn hd h
  have HP : Hid (Calls Tryd.prog 80 #[.pointer (some ⟨b, 0, none⟩)] w (Gives s b d w (P i d))) := hP i d b w hi hn hd h
  have H0 : Hid (b < w.heap.size) := h.lt
  clear h hP
  unfold oneS
  cases hR : P i d with
  | bad c j =>
    rw [hR] at HP
    go_enter Tryd.func67, Tryd.ntmps67
    go_wp2_with fail
    refine HP.out.mono ?_
    rintro e w2 ⟨hg, ⟨rfl, rfl⟩ | ⟨rfl, rfl⟩⟩
    · exact ⟨rfl, hg, .inl ⟨rfl, rfl⟩⟩
    · exact ⟨rfl, hg, .inr ⟨rfl, rfl⟩⟩
  | good m j =>
    rw [hR] at HP
    have hj := hadv _ _ _ _ hR
    clear hR
    show Calls Tryd.prog 67 #[.pointer (some ⟨b, 0, none⟩)] w (Gives s b d w (starL s (s.size + 1) m j))
    by_cases h42 : byteAt s j = 42
    · have hS : starL s (s.size + 1) m j = starL s s.size (starS m) (j + 1) := by simp [starL, h42]
      have hjl := byte_lt h42 (by omega)
      have HS : Hid (starL s (s.size + 1) m j = starL s s.size (starS m) (j + 1)) := hS
      clear hS
      go_enter Tryd.func67, Tryd.ntmps67
      go_wp2_with fail
      refine HP.out.mono ?_
      rintro e w2 ⟨hg, v, rfl, hrd, hl⟩
      have R2 : Hid (Rd w2 b s j d) := hrd
      have G2 : Hid (w.grownBy w2 (some b)) := hg
      have L2 : Hid (Lies (fun k => w.heap.size ≤ k) w2 v m) := hl
      have hform : Hid (∃ t x, v = Value.iface t x) := hl.form
      clear hrd hg hl HP
      go_wp2_with fail
      refine (peek_any s b j d _ hs (by omega) R2.out).mono ?_
      rintro e w3 ⟨rfl, hg3⟩
      rw [h42]
      have R3 : Hid (Rd w3 b s j d) := R2.out.kept hg3
      have G3 : Hid (w.grownBy w3 (some b)) := grown_trans G2.out (grown_some hg3)
      have L3 : Hid (Lies (fun k => w.heap.size ≤ k) w3 v m) := L2.out.kept fun g hg hlt => ⟨hg, hg3.block g hlt (by simp)⟩
      clear R2 G2 L2 hg3
      go_wp2_with fail
      go_loopw [] (fun wr => ∃ (q k : Nat) (m' : Sense), q ≤ s.size ∧ s.size - q < k ∧ Rd wr b s q d ∧ w.grownBy wr (some b) ∧ Lies (fun k => w.heap.size ≤ k) wr v m ∧ starL s (s.size + 1) m j = starL s k m' q ∧ ((q = j ∧ m' = m) ∨ m' = starS m)) (fun wr => s.size - placeOf wr b)
      case atStart => exact ⟨j, s.size + 1, m, by omega, by omega, R3.out, G3.out, L3.out, rfl, .inl ⟨rfl, rfl⟩⟩
      case round =>
        clear R3 G3 L3 HS
        obtain ⟨q, k, m', hq, hk, r4, g4, l4, hst, hm⟩ := hrel
        have R4 : Hid (Rd wr b s q d) := r4
        have G4 : Hid (w.grownBy wr (some b)) := g4
        have L4 : Hid (Lies (fun k => w.heap.size ≤ k) wr v m) := l4
        have HST : Hid (starL s (s.size + 1) m j = starL s k m' q) := hst
        have HM : Hid ((q = j ∧ m' = m) ∨ m' = starS m) := hm
        have P4 : placeOf wr b = q := r4.place
        clear r4 g4 l4 hst hm
        obtain ⟨k', rfl⟩ : ∃ k', k = k' + 1 := ⟨k - 1, by omega⟩
        by_cases h42q : byteAt s q = 42
        · have hql := byte_lt h42q (by omega)
          go_wp2_with fail
          refine (peek_any s b q d _ hs (by omega) R4.out).mono ?_
          rintro e w5 ⟨rfl, hg5⟩
          rw [h42q]
          have R5 : Hid (Rd w5 b s q d) := R4.out.kept hg5
          have G5 : Hid (w.grownBy w5 (some b)) := grown_trans G4.out (grown_some hg5)
          have L5 : Hid (Lies (fun k => w.heap.size ≤ k) w5 v m) := L4.out.kept fun g hg hlt => ⟨hg, hg5.block g hlt (by simp)⟩
          have c1 := R5.out.c1
          have f1 := R5.out.f 1
          clear R4 G4 L4 hg5
          go_wp2_with fail
          go_roundw
          case rel =>
            refine ⟨q + 1, k', starS m', by omega, by omega, R5.out.set1 (q + 1) (by omega), grown_trans G5.out (grown_set _ _ _), L5.out.kept fun g hg hlt => ⟨hg, Below.heap_setCell _ _ _ _ (by have := H0.out; simp; omega)⟩, ?_, .inr ?_⟩
            · rw [HST.out]; simp [starL, h42q]
            · rcases HM.out with ⟨_, rfl⟩ | rfl
              · rfl
              · exact star_star m
          case measure =>
            rw [(R5.out.set1 (q + 1) (x := (q : Int) + 1) (by omega)).place, P4]
            omega
        · have h42' : ((byteAt s q : Int) == 42) = false := by simp; omega
          have hm' : m' = starS m := by
            rcases HM.out with ⟨rfl, _⟩ | e
            · exact absurd h42 h42q
            · exact e
          have hf : starL s (s.size + 1) m j = .good (starS m) q := by rw [HST.out, hm']; simp [starL, h42q]
          have HF : Hid (starL s (s.size + 1) m j = .good (starS m) q) := hf
          clear hf hm'
          go_wp2_with fail
          refine (peek_any s b q d _ hs (by omega) R4.out).mono ?_
          rintro e w5 ⟨rfl, hg5⟩
          have G5 : Hid (Gives s b d w (.good (starS m) q) (.returned (.iface 115 (.agg #[v]))) w5) := ⟨grown_trans G4.out (grown_some hg5), _, rfl, R4.out.kept hg5, .star _ _ (L4.out.kept fun g hg hlt => ⟨hg, hg5.block g hlt (by simp)⟩)⟩
          clear R4 G4 L4 hg5
          obtain ⟨t, x, rfl⟩ := hform.out
          go_wp2_with fail
          go_ret
          rw [HF.out]
          exact G5.out
    · have hS : starL s (s.size + 1) m j = .good m j := by simp [starL, h42]
      rw [hS]
      have h42' : ((byteAt s j : Int) == 42) = false := by simp; omega
      go_enter Tryd.func67, Tryd.ntmps67
      go_wp2_with fail
      refine HP.out.mono ?_
      rintro e w2 ⟨hg, v, rfl, hrd, hl⟩
      have R2 : Hid (Rd w2 b s j d) := hrd
      have G2 : Hid (w.grownBy w2 (some b)) := hg
      have L2 : Hid (Lies (fun k => w.heap.size ≤ k) w2 v m) := hl
      clear hrd hg hl HP
      go_wp2_with fail
      refine (peek_any s b j d _ hs (by omega) R2.out).mono ?_
      rintro e w3 ⟨rfl, hg3⟩
      have G3 : Hid (Gives s b d w (.good m j) (.returned v) w3) := ⟨grown_trans G2.out (grown_some hg3), v, rfl, R2.out.kept hg3, L2.out.kept fun g hg hlt => ⟨hg, hg3.block g hlt (by simp)⟩⟩
      clear R2 G2 L2 hg3
      go_wp2_with fail
      go_ret
      exact G3.out

end Go.Proofs.YtkkmdcnbifepjaaDoor

namespace Go.Proofs.YtkkmdcnbifepjaaDoor
open Go.RowKit
set_option linter.unusedVariables false

theorem Tryd.infoPart : (Tryd.prog.info? 44).map (fun i => (i.zero, i.size, i.bytes)) = some (some .nilIface, 1, 16) := by kernel_rfl

set_option maxHeartbeats 800000 in
theorem row_does (s : ByteArray) (O : Nat → Nat → Res) (n : Nat) (hs : s.size ≤ 4000) (hadv : Adv s O) (hO : Does 67 s O n) : Does 51 s (rowS s O) n := by
  intro i d b w hi hn hd h
  have HO : Hid (∀ (i : Nat) (w : World), i ≤ s.size → s.size - i < n → Rd w b s i d → Calls Tryd.prog 67 #[.pointer (some ⟨b, 0, none⟩)] w (Gives s b d w (O i d))) := fun i w h1 h2 h3 => hO i d b w h1 h2 hd h3
  have H0 : Hid (b < w.heap.size) := h.lt
  have H : Hid (Rd w b s i d) := h
  clear h hO
  unfold rowS
  cases hR : O i d with
  | bad c j =>
    go_enter Tryd.func51, Tryd.ntmps51
    go_wp2_with fail
    refine (HO.out i w hi hn H.out).mono ?_
    rw [hR]
    rintro e w2 ⟨hg, ⟨rfl, rfl⟩ | ⟨rfl, rfl⟩⟩
    · exact ⟨rfl, hg, .inl ⟨rfl, rfl⟩⟩
    · exact ⟨rfl, hg, .inr ⟨rfl, rfl⟩⟩
  | good m j =>
    have hj := hadv _ _ _ _ hR
    show Calls Tryd.prog 51 #[.pointer (some ⟨b, 0, none⟩)] w (Gives s b d w (rowX s O d (s.size + 1) [m] j))
    obtain ⟨i0, hi0, hz0, hz1, hz2⟩ := info_parts Tryd.infoPart
    go_enter Tryd.func51, Tryd.ntmps51
    go_wp2_with fail
    refine (HO.out i w hi hn H.out).mono ?_
    rw [hR]
    rintro e w2 ⟨hg, v, rfl, hrd, hl⟩
    clear hR
    have R2 : Hid (Rd (w2.alloc (.cells #[v] 44)) b s j d) := hrd.kept (World.grownBy_alloc _ _ _)
    have G2 : Hid (w.grownBy (w2.alloc (.cells #[v] 44)) (some b)) := grown_trans hg (World.grownBy_alloc _ _ _)
    have K2 : Hid (Kids w.heap.size (w2.alloc (.cells #[v] 44)) (.slice (some ⟨w2.heap.size, 0, none⟩) 1 1) [m] [v]) := Kids.first hl (Nat.le_refl _) hg.size
    obtain ⟨t, x, rfl⟩ := hl.form
    clear hrd hg hl H
    go_wp2_with fail
    go_loopw [3] (fun v wr => ∃ (q k : Nat) (ms : List Sense) (vs : List Value), q ≤ s.size ∧ s.size - q < k ∧ 0 < ms.length ∧ ms.length ≤ q ∧ i < q ∧ Rd wr b s q d ∧ w.grownBy wr (some b) ∧ Kids w.heap.size wr v ms vs ∧ rowX s O d (s.size + 1) [m] j = rowX s O d k ms q) (fun _ wr => s.size - placeOf wr b)
    case atStart => exact ⟨j, s.size + 1, [m], _, by omega, by omega, by simp, by simp; omega, by omega, R2.out, G2.out, K2.out, rfl⟩
    case round =>
      clear R2 G2 K2
      obtain ⟨q, k, ms, vs, hq, hk, hm0, hmq, hiq, r4, g4, k4, hst⟩ := hrel
      have R4 : Hid (Rd wr b s q d) := r4
      have G4 : Hid (w.grownBy wr (some b)) := g4
      have K4 : Hid (Kids w.heap.size wr u3 ms vs) := k4
      have HST : Hid (rowX s O d (s.size + 1) [m] j = rowX s O d k ms q) := hst
      have P4 : placeOf wr b = q := r4.place
      obtain ⟨g, cap, hv3, hg3, hlt3⟩ := k4.own.form hm0
      clear r4 g4 k4 hst
      subst hv3
      obtain ⟨k', rfl⟩ : ∃ k', k = k' + 1 := ⟨k - 1, by omega⟩
      by_cases hb : beginsF (byteAt s q) = true
      · have hql : q < s.size := begins_lt hb
        cases hR : O (q) d with
        | bad c j' =>
          have hS : rowX s O d (k' + 1) ms q = .bad c j' := by simp [rowX, hb, hR]
          have HF : Hid (rowX s O d (s.size + 1) [m] j = .bad c j') := HST.out.trans hS
          clear hS HST
          go_wp2_with fail
          refine (peek_any s b q d _ hs (by omega) R4.out).mono ?_
          rintro e w5 ⟨rfl, hg5⟩
          have R5 : Hid (Rd w5 b s q d) := R4.out.kept hg5
          have G5 : Hid (w.grownBy w5 (some b)) := grown_trans G4.out (grown_some hg5)
          have K5 : Hid (Kids w.heap.size w5 (.slice (some ⟨g, 0, none⟩) ms.length cap) ms vs) := K4.out.kept (grown_some (row := some b) hg5) H0.out
          have hlt5 : g < w5.heap.size := Nat.lt_of_lt_of_le hlt3 hg5.size
          clear R4 G4 K4 hg5
          go_wp2_with fail
          refine (begins_any _ _ (byteAt_lt s q)).mono ?_
          rintro e w6 ⟨rfl, hw6⟩
          obtain rfl : w5 = w6 := hw6.symm
          rw [hb]
          go_wp2_with fail
          refine (HO.out (q) _ (by omega) (by omega) R5.out).mono ?_
          rw [hR]
          rintro e w6 ⟨hg6, ⟨rfl, rfl⟩ | ⟨rfl, rfl⟩⟩
          · refine ⟨rfl, ?_⟩
            rw [HF.out]
            exact ⟨grown_trans G5.out hg6, .inl ⟨rfl, rfl⟩⟩
          · refine ⟨rfl, ?_⟩
            rw [HF.out]
            exact ⟨grown_trans G5.out hg6, .inr ⟨rfl, rfl⟩⟩
        | good m' j' =>
          have hj' := hadv _ _ _ _ hR
          have hS : rowX s O d (k' + 1) ms q = rowX s O d k' (ms ++ [m']) j' := by simp [rowX, hb, hR]
          have HF : Hid (rowX s O d (s.size + 1) [m] j = rowX s O d k' (ms ++ [m']) j') := HST.out.trans hS
          clear hS HST
          go_wp2_with fail
          refine (peek_any s b q d _ hs (by omega) R4.out).mono ?_
          rintro e w5 ⟨rfl, hg5⟩
          have R5 : Hid (Rd w5 b s q d) := R4.out.kept hg5
          have G5 : Hid (w.grownBy w5 (some b)) := grown_trans G4.out (grown_some hg5)
          have K5 : Hid (Kids w.heap.size w5 (.slice (some ⟨g, 0, none⟩) ms.length cap) ms vs) := K4.out.kept (grown_some (row := some b) hg5) H0.out
          have hlt5 : g < w5.heap.size := Nat.lt_of_lt_of_le hlt3 hg5.size
          clear R4 G4 K4 hg5
          go_wp2_with fail
          refine (begins_any _ _ (byteAt_lt s q)).mono ?_
          rintro e w6 ⟨rfl, hw6⟩
          obtain rfl : w5 = w6 := hw6.symm
          rw [hb]
          go_wp2_with fail
          refine (HO.out (q) _ (by omega) (by omega) R5.out).mono ?_
          rw [hR]
          rintro e w6 ⟨hg6, v', rfl, hrd6, hl6⟩
          have R6 : Hid (Rd w6 b s j' d) := hrd6
          have G6 : Hid (w.grownBy w6 (some b)) := grown_trans G5.out hg6
          have K6 : Hid (Kids w.heap.size w6 (.slice (some ⟨g, 0, none⟩) ms.length cap) ms vs) := K5.out.kept hg6 H0.out
          have O6 : Hid ((w6.alloc (.cells #[v'] 44)).ownsRow w.heap.size 44 1 (.slice (some ⟨g, 0, none⟩) ms.length cap) ms.length vs) := K6.out.own.alloc _
          have L6 : Hid (Lies (fun k => w5.heap.size ≤ k) w6 v' m') := hl6
          have S6 : Hid (w5.heap.size ≤ w6.heap.size) := hg6.size
          obtain ⟨t', x', rfl⟩ := hl6.form
          clear hrd6 hg6 hl6 hR R5 K5
          go_wp2_with (first | (at_builtin; refine wpList_append_lies _ rfl (.tmp 10) (.tmp 13) 112 rfl w.heap.size 44 i0 .nilIface 1 16 Tryd.underlying112 hi0 hz0 hz1 hz2 rfl (by decide) (.slice (some ⟨g, 0, none⟩) ms.length cap) ms.length vs rfl O6.out ⟨w6.heap.size, 0, none⟩ 1 1 [.iface t' x'] rfl rfl (cell_one_new _ _ _) (by intro u hu; simp at hu; subst hu; rfl) (by omega) (by unfold maxLen; omega) (by omega) (by have := G6.out.size; simp; omega) (w6.heap.size + 1) (by simp) ?_; intro g7 cap7 w7 ho7 hg7 hat7 _))
          have K7 : Hid (Kids w.heap.size w7 (.slice (some ⟨g7, 0, none⟩) (ms.length + 1) cap7) (ms ++ [m']) (vs ++ [.iface t' x'])) :=
            K6.out.push (n := w5.heap.size) S6.out (fun q hq => by simp [Value.ownBlock] at hq; subst hq; exact hlt5) (Nat.le_trans G5.out.size (Nat.le_refl _)) L6.out ho7 hg7 (hat7.elim (fun e => .inl e.symm) (fun e => .inr (by rw [e]; simp [Value.ownBlock])))
          have B7 : Hid (b < w6.heap.size) := R6.out.lt
          have hbg : b ≠ g := by have := H0.out; omega
          have R7 : Hid (Rd w7 b s j' d) := (R6.out.kept (World.grownBy_alloc _ (.cells #[.iface t' x'] 44) none)).kept' hg7 hbg
          have G7 : Hid (w.grownBy w7 (some b)) := grown_new (grown_trans G6.out (World.grownBy_alloc _ (.cells #[.iface t' x'] 44) _)) hg7 hg3
          clear ho7 hg7 hat7 K6 O6 L6 S6 R6 G6 G5
          go_wp2_with fail
          go_roundw
          case rel => exact ⟨j', k', ms ++ [m'], _, by omega, by omega, by simp, by simp; omega, by omega, R7.out, G7.out, by simpa using K7.out, HF.out⟩
          case measure =>
            rw [R7.out.place, P4]
            omega
      · have hS : rowX s O d (k' + 1) ms q = .good (rowOf ms) q := by simp [rowX, hb]
        have HF : Hid (rowX s O d (s.size + 1) [m] j = .good (rowOf ms) q) := HST.out.trans hS
        clear hS HST
        go_wp2_with fail
        refine (peek_any s b q d _ hs (by omega) R4.out).mono ?_
        rintro e w5 ⟨rfl, hg5⟩
        have R5 : Hid (Rd w5 b s q d) := R4.out.kept hg5
        have G5 : Hid (w.grownBy w5 (some b)) := grown_trans G4.out (grown_some hg5)
        have K5 : Hid (Kids w.heap.size w5 (.slice (some ⟨g, 0, none⟩) ms.length cap) ms vs) := K4.out.kept (grown_some (row := some b) hg5) H0.out
        have hlt5 : g < w5.heap.size := Nat.lt_of_lt_of_le hlt3 hg5.size
        clear R4 G4 K4 hg5
        go_wp2_with fail
        refine (begins_any _ _ (byteAt_lt s q)).mono ?_
        rintro e w6 ⟨rfl, hw6⟩
        obtain rfl : w5 = w6 := hw6.symm
        rw [(by simpa using hb : beginsF (byteAt s q) = false)]
        have L5 : Hid (∀ k, k < ms.length → Lies (fun q => w.heap.size ≤ q) w5 (vs.getD k .nilIface) (ms.getD k noneS)) := fun k hk => (K5.out.lie k hk).kept fun g hg _ => ⟨hg.1, rfl⟩
        have hlen := K5.out.len
        have hcell : Hid (∀ k, k < ms.length → w5.cell? ⟨g, k, none⟩ = some (vs.getD k .nilIface)) := fun k hk => by
          have := K5.out.own.cellAt k (by omega)
          rw [this]
          simp [List.getD, hlen, hk]
        by_cases h1 : ms.length = 1
        · obtain ⟨m1, rfl⟩ : ∃ m1, ms = [m1] := List.length_eq_one_iff.1 h1
          have hc0 := hcell.out 0 (by simp)
          have l0 := L5.out 0 (by simp)
          generalize vs.getD 0 .nilIface = v0 at hc0 l0
          have E : Hid (Gives s b d w (.good (rowOf [m1]) q) (.returned v0) w5) := ⟨G5.out, v0, rfl, R5.out, by rw [rowOf_one]; simpa using l0⟩
          clear l0 L5 hcell K5 R5 G5
          go_wp2_with fail
          go_ret
          rw [HF.out]
          exact E.out
        · have h1' : ((ms.length : Int) == 1) = false := by simp; omega
          have E : Hid (Gives s b d w (.good (rowOf ms) q) (.returned (.iface 112 (.slice (some ⟨g, 0, none⟩) ms.length cap))) w5) := ⟨G5.out, _, rfl, R5.out, .row g cap vs ms hg3 (by omega) hcell.out L5.out⟩
          clear L5 hcell K5 R5 G5
          go_wp2_with fail
          go_ret
          rw [HF.out]
          exact E.out

end Go.Proofs.YtkkmdcnbifepjaaDoor

namespace Go.Proofs.YtkkmdcnbifepjaaDoor
open Go.RowKit
set_option linter.unusedVariables false

set_option maxHeartbeats 800000 in
theorem either_does (s : ByteArray) (O : Nat → Nat → Res) (n : Nat) (hs : s.size ≤ 4000) (hadv : Adv s O) (hO : Does 51 s O n) : Does 34 s (eitherS s O) n := by
  intro i d b w hi hn hd h
  have HO : Hid (∀ (i : Nat) (w : World), i ≤ s.size → s.size - i < n → Rd w b s i d → Calls Tryd.prog 51 #[.pointer (some ⟨b, 0, none⟩)] w (Gives s b d w (O i d))) := fun i w h1 h2 h3 => hO i d b w h1 h2 hd h3
  have H0 : Hid (b < w.heap.size) := h.lt
  have H : Hid (Rd w b s i d) := h
  clear h hO
  unfold eitherS
  cases hR : O i d with
  | bad c j =>
    go_enter Tryd.func34, Tryd.ntmps34
    go_wp2_with fail
    refine (HO.out i w hi hn H.out).mono ?_
    rw [hR]
    rintro e w2 ⟨hg, ⟨rfl, rfl⟩ | ⟨rfl, rfl⟩⟩
    · exact ⟨rfl, hg, .inl ⟨rfl, rfl⟩⟩
    · exact ⟨rfl, hg, .inr ⟨rfl, rfl⟩⟩
  | good m j =>
    have hj := hadv _ _ _ _ hR
    show Calls Tryd.prog 34 #[.pointer (some ⟨b, 0, none⟩)] w (Gives s b d w (eitherL s O d (s.size + 1) [m] j))
    obtain ⟨i0, hi0, hz0, hz1, hz2⟩ := info_parts Tryd.infoPart
    go_enter Tryd.func34, Tryd.ntmps34
    go_wp2_with fail
    refine (HO.out i w hi hn H.out).mono ?_
    rw [hR]
    rintro e w2 ⟨hg, v, rfl, hrd, hl⟩
    clear hR
    have R2 : Hid (Rd (w2.alloc (.cells #[v] 44)) b s j d) := hrd.kept (World.grownBy_alloc _ _ _)
    have G2 : Hid (w.grownBy (w2.alloc (.cells #[v] 44)) (some b)) := grown_trans hg (World.grownBy_alloc _ _ _)
    have K2 : Hid (Kids w.heap.size (w2.alloc (.cells #[v] 44)) (.slice (some ⟨w2.heap.size, 0, none⟩) 1 1) [m] [v]) := Kids.first hl (Nat.le_refl _) hg.size
    obtain ⟨t, x, rfl⟩ := hl.form
    clear hrd hg hl H
    go_wp2_with fail
    go_loopw [3] (fun v wr => ∃ (q k : Nat) (ms : List Sense) (vs : List Value), q ≤ s.size ∧ s.size - q < k ∧ 0 < ms.length ∧ ms.length ≤ q ∧ i < q ∧ Rd wr b s q d ∧ w.grownBy wr (some b) ∧ Kids w.heap.size wr v ms vs ∧ eitherL s O d (s.size + 1) [m] j = eitherL s O d k ms q) (fun _ wr => s.size - placeOf wr b)
    case atStart => exact ⟨j, s.size + 1, [m], _, by omega, by omega, by simp, by simp; omega, by omega, R2.out, G2.out, K2.out, rfl⟩
    case round =>
      clear R2 G2 K2
      obtain ⟨q, k, ms, vs, hq, hk, hm0, hmq, hiq, r4, g4, k4, hst⟩ := hrel
      have R4 : Hid (Rd wr b s q d) := r4
      have G4 : Hid (w.grownBy wr (some b)) := g4
      have K4 : Hid (Kids w.heap.size wr u3 ms vs) := k4
      have HST : Hid (eitherL s O d (s.size + 1) [m] j = eitherL s O d k ms q) := hst
      have P4 : placeOf wr b = q := r4.place
      obtain ⟨g, cap, hv3, hg3, hlt3⟩ := k4.own.form hm0
      clear r4 g4 k4 hst
      subst hv3
      obtain ⟨k', rfl⟩ : ∃ k', k = k' + 1 := ⟨k - 1, by omega⟩
      by_cases hb : byteAt s q = 43
      · have hql : q < s.size := byte_lt hb (by omega)
        cases hR : O (q + 1) d with
        | bad c j' =>
          have hS : eitherL s O d (k' + 1) ms q = .bad c j' := by simp [eitherL, hb, hR]
          have HF : Hid (eitherL s O d (s.size + 1) [m] j = .bad c j') := HST.out.trans hS
          clear hS HST
          go_wp2_with fail
          refine (peek_any s b q d _ hs (by omega) R4.out).mono ?_
          rintro e w5 ⟨rfl, hg5⟩
          have R5a : Hid (Rd w5 b s q d) := R4.out.kept hg5
          have G5a : Hid (w.grownBy w5 (some b)) := grown_trans G4.out (grown_some hg5)
          have K5a : Hid (Kids w.heap.size w5 (.slice (some ⟨g, 0, none⟩) ms.length cap) ms vs) := K4.out.kept (grown_some (row := some b) hg5) H0.out
          have hlt5 : g < w5.heap.size := Nat.lt_of_lt_of_le hlt3 hg5.size
          clear R4 G4 K4 hg5
          rw [hb]
          have c1 := R5a.out.c1
          have f1 := R5a.out.f 1
          have R5 : Hid (Rd (w5.setCell ⟨b, 1, none⟩ (.int .i64 ((q : Int) + 1))) b s (q + 1) d) := R5a.out.set1 (q + 1) (by omega)
          have G5 : Hid (w.grownBy (w5.setCell ⟨b, 1, none⟩ (.int .i64 ((q : Int) + 1))) (some b)) := grown_trans G5a.out (grown_set _ _ _)
          have K5 : Hid (Kids w.heap.size (w5.setCell ⟨b, 1, none⟩ (.int .i64 ((q : Int) + 1))) (.slice (some ⟨g, 0, none⟩) ms.length cap) ms vs) := K5a.out.kept (grown_set _ _ _) H0.out
          have Z5 : Hid (w.heap.size ≤ w5.heap.size) := G5a.out.size
          clear R5a G5a K5a
          go_wp2_with fail
          clear c1 f1
          refine (HO.out (q + 1) _ (by omega) (by omega) R5.out).mono ?_
          rw [hR]
          rintro e w6 ⟨hg6, ⟨rfl, rfl⟩ | ⟨rfl, rfl⟩⟩
          · refine ⟨rfl, ?_⟩
            rw [HF.out]
            exact ⟨grown_trans G5.out hg6, .inl ⟨rfl, rfl⟩⟩
          · refine ⟨rfl, ?_⟩
            rw [HF.out]
            exact ⟨grown_trans G5.out hg6, .inr ⟨rfl, rfl⟩⟩
        | good m' j' =>
          have hj' := hadv _ _ _ _ hR
          have hS : eitherL s O d (k' + 1) ms q = eitherL s O d k' (ms ++ [m']) j' := by simp [eitherL, hb, hR]
          have HF : Hid (eitherL s O d (s.size + 1) [m] j = eitherL s O d k' (ms ++ [m']) j') := HST.out.trans hS
          clear hS HST
          go_wp2_with fail
          refine (peek_any s b q d _ hs (by omega) R4.out).mono ?_
          rintro e w5 ⟨rfl, hg5⟩
          have R5a : Hid (Rd w5 b s q d) := R4.out.kept hg5
          have G5a : Hid (w.grownBy w5 (some b)) := grown_trans G4.out (grown_some hg5)
          have K5a : Hid (Kids w.heap.size w5 (.slice (some ⟨g, 0, none⟩) ms.length cap) ms vs) := K4.out.kept (grown_some (row := some b) hg5) H0.out
          have hlt5 : g < w5.heap.size := Nat.lt_of_lt_of_le hlt3 hg5.size
          clear R4 G4 K4 hg5
          rw [hb]
          have c1 := R5a.out.c1
          have f1 := R5a.out.f 1
          have R5 : Hid (Rd (w5.setCell ⟨b, 1, none⟩ (.int .i64 ((q : Int) + 1))) b s (q + 1) d) := R5a.out.set1 (q + 1) (by omega)
          have G5 : Hid (w.grownBy (w5.setCell ⟨b, 1, none⟩ (.int .i64 ((q : Int) + 1))) (some b)) := grown_trans G5a.out (grown_set _ _ _)
          have K5 : Hid (Kids w.heap.size (w5.setCell ⟨b, 1, none⟩ (.int .i64 ((q : Int) + 1))) (.slice (some ⟨g, 0, none⟩) ms.length cap) ms vs) := K5a.out.kept (grown_set _ _ _) H0.out
          have Z5 : Hid (w.heap.size ≤ w5.heap.size) := G5a.out.size
          clear R5a G5a K5a
          go_wp2_with fail
          clear c1 f1
          refine (HO.out (q + 1) _ (by omega) (by omega) R5.out).mono ?_
          rw [hR]
          rintro e w6 ⟨hg6, v', rfl, hrd6, hl6⟩
          have R6 : Hid (Rd w6 b s j' d) := hrd6
          have G6 : Hid (w.grownBy w6 (some b)) := grown_trans G5.out hg6
          have K6 : Hid (Kids w.heap.size w6 (.slice (some ⟨g, 0, none⟩) ms.length cap) ms vs) := K5.out.kept hg6 H0.out
          have O6 : Hid ((w6.alloc (.cells #[v'] 44)).ownsRow w.heap.size 44 1 (.slice (some ⟨g, 0, none⟩) ms.length cap) ms.length vs) := K6.out.own.alloc _
          have L6 : Hid (Lies (fun k => w5.heap.size ≤ k) w6 v' m') := hl6.kept fun g hg _ => ⟨by simpa [World.setCell] using hg, rfl⟩
          have S6 : Hid (w5.heap.size ≤ w6.heap.size) := (show w5.heap.size ≤ w6.heap.size by have := hg6.size; simpa [World.setCell] using this)
          obtain ⟨t', x', rfl⟩ := hl6.form
          clear hrd6 hg6 hl6 hR R5 K5
          go_wp2_with (first | (at_builtin; refine wpList_append_lies _ rfl (.tmp 17) (.tmp 20) 108 rfl w.heap.size 44 i0 .nilIface 1 16 Tryd.underlying108 hi0 hz0 hz1 hz2 rfl (by decide) (.slice (some ⟨g, 0, none⟩) ms.length cap) ms.length vs rfl O6.out ⟨w6.heap.size, 0, none⟩ 1 1 [.iface t' x'] rfl rfl (cell_one_new _ _ _) (by intro u hu; simp at hu; subst hu; rfl) (by omega) (by unfold maxLen; omega) (by omega) (by have := G6.out.size; simp; omega) (w6.heap.size + 1) (by simp) ?_; intro g7 cap7 w7 ho7 hg7 hat7 _))
          have K7 : Hid (Kids w.heap.size w7 (.slice (some ⟨g7, 0, none⟩) (ms.length + 1) cap7) (ms ++ [m']) (vs ++ [.iface t' x'])) :=
            K6.out.push (n := w5.heap.size) S6.out (fun q hq => by simp [Value.ownBlock] at hq; subst hq; exact hlt5) Z5.out L6.out ho7 hg7 (hat7.elim (fun e => .inl e.symm) (fun e => .inr (by rw [e]; simp [Value.ownBlock])))
          have B7 : Hid (b < w6.heap.size) := R6.out.lt
          have hbg : b ≠ g := by have := H0.out; omega
          have R7 : Hid (Rd w7 b s j' d) := (R6.out.kept (World.grownBy_alloc _ (.cells #[.iface t' x'] 44) none)).kept' hg7 hbg
          have G7 : Hid (w.grownBy w7 (some b)) := grown_new (grown_trans G6.out (World.grownBy_alloc _ (.cells #[.iface t' x'] 44) _)) hg7 hg3
          clear ho7 hg7 hat7 K6 O6 L6 S6 R6 G6 G5
          go_wp2_with fail
          go_roundw
          case rel => exact ⟨j', k', ms ++ [m'], _, by omega, by omega, by simp, by simp; omega, by omega, R7.out, G7.out, by simpa using K7.out, HF.out⟩
          case measure =>
            rw [R7.out.place, P4]
            omega
      · have hS : eitherL s O d (k' + 1) ms q = .good (eitherOf ms) q := by simp [eitherL, hb]
        have HF : Hid (eitherL s O d (s.size + 1) [m] j = .good (eitherOf ms) q) := HST.out.trans hS
        clear hS HST
        have hb' : ((byteAt s q : Int) == 43) = false := by simp; omega
        go_wp2_with fail
        refine (peek_any s b q d _ hs (by omega) R4.out).mono ?_
        rintro e w5 ⟨rfl, hg5⟩
        have R5 : Hid (Rd w5 b s q d) := R4.out.kept hg5
        have G5 : Hid (w.grownBy w5 (some b)) := grown_trans G4.out (grown_some hg5)
        have K5 : Hid (Kids w.heap.size w5 (.slice (some ⟨g, 0, none⟩) ms.length cap) ms vs) := K4.out.kept (grown_some (row := some b) hg5) H0.out
        have hlt5 : g < w5.heap.size := Nat.lt_of_lt_of_le hlt3 hg5.size
        clear R4 G4 K4 hg5
        have L5 : Hid (∀ k, k < ms.length → Lies (fun q => w.heap.size ≤ q) w5 (vs.getD k .nilIface) (ms.getD k noneS)) := fun k hk => (K5.out.lie k hk).kept fun g hg _ => ⟨hg.1, rfl⟩
        have hlen := K5.out.len
        have hcell : Hid (∀ k, k < ms.length → w5.cell? ⟨g, k, none⟩ = some (vs.getD k .nilIface)) := fun k hk => by
          have := K5.out.own.cellAt k (by omega)
          rw [this]
          simp [List.getD, hlen, hk]
        by_cases h1 : ms.length = 1
        · obtain ⟨m1, rfl⟩ : ∃ m1, ms = [m1] := List.length_eq_one_iff.1 h1
          have hc0 := hcell.out 0 (by simp)
          have l0 := L5.out 0 (by simp)
          generalize vs.getD 0 .nilIface = v0 at hc0 l0
          have E : Hid (Gives s b d w (.good (eitherOf [m1]) q) (.returned v0) w5) := ⟨G5.out, v0, rfl, R5.out, by rw [eitherOf_one]; simpa using l0⟩
          clear l0 L5 hcell K5 R5 G5
          go_wp2_with fail
          go_ret
          rw [HF.out]
          exact E.out
        · have h1' : ((ms.length : Int) == 1) = false := by simp; omega
          have E : Hid (Gives s b d w (.good (eitherOf ms) q) (.returned (.iface 108 (.slice (some ⟨g, 0, none⟩) ms.length cap))) w5) := ⟨G5.out, _, rfl, R5.out, .either g cap vs ms hg3 (by omega) hcell.out L5.out⟩
          clear L5 hcell K5 R5 G5
          go_wp2_with fail
          go_ret
          rw [HF.out]
          exact E.out

theorem whole_does (s : ByteArray) (hs : s.size ≤ 4000) : ∀ n, Does 34 s (wholeF s n) n
  | 0 => fun i d b w _ h => by omega
  | n + 1 => either_does s _ (n + 1) hs (adv_rowF n) (row_does s _ (n + 1) hs (adv_oneF n) (one_does s _ (n + 1) hs (adv_partF n) (part_does s _ n hs (adv_whole n) (whole_does s hs n))))

end Go.Proofs.YtkkmdcnbifepjaaDoor

namespace Go.Proofs.YtkkmdcnbifepjaaDoor
open Go.RowKit
set_option linter.unusedVariables false

theorem asMM (w : World) (v : Value) : (Instr.typeAssert (.iface 74 v) 20 74 true).run Tryd.prog w = .ok (.tuple #[v, .bool true]) w := by kernel_rfl
theorem asTM (w : World) (v : Value) : (Instr.typeAssert (.iface 75 v) 20 74 true).run Tryd.prog w = .ok (.tuple #[.int .i64 0, .bool false]) w := by kernel_rfl
theorem asTT (w : World) (v : Value) : (Instr.typeAssert (.iface 75 v) 20 75 true).run Tryd.prog w = .ok (.tuple #[v, .bool true]) w := by kernel_rfl
theorem asNM (w : World) : (Instr.typeAssert .nilIface 20 74 true).run Tryd.prog w = .ok (.tuple #[.int .i64 0, .bool false]) w := by kernel_rfl
theorem asNT (w : World) : (Instr.typeAssert .nilIface 20 75 true).run Tryd.prog w = .ok (.tuple #[.int .i64 0, .bool false]) w := by kernel_rfl

theorem catch_misplaced (p : Nat) (j : Int) (x y : Value) (w : World) (h : w.heap[p]? = some (.cells #[x, y] 32 (0, 0))) :
    CallsD Tryd.prog 33 #[.pointer (some ⟨p, 0, none⟩)] (.panicking ({ v := .iface 74 (.int .i64 j), recovered := false } :: [])) w fun e u' w' =>
      e = .returned (.tuple #[]) ∧ u' = .panicking ({ v := .iface 74 (.int .i64 j), recovered := true } :: []) ∧ w' = (w.setCell ⟨p, 0, none⟩ (.int .i64 4)).setCell ⟨p, 1, none⟩ (.int .i64 j) := by
  refine callsD_of_wpS Tryd.func33 rfl fun c₀ cs hu => ?_
  apply wpS_seq
  apply wpS_region
  simp [wpOpsS, go_sem, recoverD, hu, Tryd.ntmps33, Exit.thenS]
  refine wpS_of_wp ?_
  have c0 : w.cell? ⟨p, 0, none⟩ = some x := by rw [cell_of_row w p 0 _ _ (0, 0) h]; rfl
  have c1 : w.cell? ⟨p, 1, none⟩ = some y := by rw [cell_of_row w p 1 _ _ (0, 0) h]; rfl
  have f0 := frozen_of_row w p 0 _ _ h
  have f1 := frozen_of_row w p 1 _ _ h
  have asmm := asMM w
  have ht : (#[Value.pointer (some ⟨p, 0, none⟩)] ++ (Array.replicate 13 undef).setIfInBounds 2 (Value.iface 74 (Value.int IntKind.i64 j))) = #[Value.pointer (some ⟨p, 0, none⟩), undef, undef, Value.iface 74 (Value.int IntKind.i64 j), undef, undef, undef, undef, undef, undef, undef, undef, undef, undef] := rfl
  rw [ht]
  clear h hu ht
  go_wp2
  simp [bodyPostS, results, Tryd.results33]

theorem catch_tooDeep (p : Nat) (j : Int) (x y : Value) (w : World) (h : w.heap[p]? = some (.cells #[x, y] 32 (0, 0))) :
    CallsD Tryd.prog 33 #[.pointer (some ⟨p, 0, none⟩)] (.panicking ({ v := .iface 75 (.int .i64 j), recovered := false } :: [])) w fun e u' w' =>
      e = .returned (.tuple #[]) ∧ u' = .panicking ({ v := .iface 75 (.int .i64 j), recovered := true } :: []) ∧ w' = (w.setCell ⟨p, 0, none⟩ (.int .i64 7)).setCell ⟨p, 1, none⟩ (.int .i64 j) := by
  refine callsD_of_wpS Tryd.func33 rfl fun c₀ cs hu => ?_
  apply wpS_seq
  apply wpS_region
  simp [wpOpsS, go_sem, recoverD, hu, Tryd.ntmps33, Exit.thenS]
  refine wpS_of_wp ?_
  have c0 : w.cell? ⟨p, 0, none⟩ = some x := by rw [cell_of_row w p 0 _ _ (0, 0) h]; rfl
  have c1 : w.cell? ⟨p, 1, none⟩ = some y := by rw [cell_of_row w p 1 _ _ (0, 0) h]; rfl
  have f0 := frozen_of_row w p 0 _ _ h
  have f1 := frozen_of_row w p 1 _ _ h
  have astm := asTM w
  have astt := asTT w
  have ht : (#[Value.pointer (some ⟨p, 0, none⟩)] ++ (Array.replicate 13 undef).setIfInBounds 2 (Value.iface 75 (Value.int IntKind.i64 j))) = #[Value.pointer (some ⟨p, 0, none⟩), undef, undef, Value.iface 75 (Value.int IntKind.i64 j), undef, undef, undef, undef, undef, undef, undef, undef, undef, undef] := rfl
  rw [ht]
  clear h hu ht
  go_wp2
  simp [bodyPostS, results, Tryd.results33]

theorem catch_idle (p : Nat) (w : World) :
    CallsD Tryd.prog 33 #[.pointer (some ⟨p, 0, none⟩)] .returning w fun e u' w' => e = .returned (.tuple #[]) ∧ u' = .returning ∧ w' = w := by
  refine callsD_of_wpS Tryd.func33 rfl fun c₀ cs hu => ?_
  apply wpS_seq
  apply wpS_region
  simp [wpOpsS, go_sem, recoverD, hu, Tryd.ntmps33, Exit.thenS]
  refine wpS_of_wp ?_
  have a1 := asNM w
  have a2 := asNT w
  have ht : (#[Value.pointer (some ⟨p, 0, none⟩)] ++ (Array.replicate 13 undef).setIfInBounds 2 Value.nilIface) = #[Value.pointer (some ⟨p, 0, none⟩), undef, undef, Value.nilIface, undef, undef, undef, undef, undef, undef, undef, undef, undef, undef] := rfl
  rw [ht]
  clear ht
  go_wp2
  cases c₀
  simp_all [bodyPostS, results, Tryd.results33]

theorem two_cells {w : World} {b : Nat} {u0 u1 : Value} {t : TypeId} (h : w.heap[b]? = some (.cells #[u0, u1] t (0, 0))) :
    w.cell? ⟨b, 0, none⟩ = some u0 ∧ w.cell? ⟨b, 1, none⟩ = some u1 ∧ w.frozen? ⟨b, 0, none⟩ = false ∧ w.frozen? ⟨b, 1, none⟩ = false :=
  ⟨by rw [cell_of_row w b 0 _ t (0, 0) h]; rfl, by rw [cell_of_row w b 1 _ t (0, 0) h]; rfl, frozen_of_row w b 0 _ t h, frozen_of_row w b 1 _ t h⟩

/-- What reading a text leaves behind. -/
def Parsed (w : World) (R : Res) (e : Ending) (w' : World) : Prop :=
  Below w.heap.size w w' ∧ match R with
  | .good m j => ∃ v, e = .returned (.tuple #[v, .agg #[.int .i64 0, .int .i64 0]]) ∧ Lies (fun k => w.heap.size ≤ k) w' v m
  | .bad c j => e = .returned (.tuple #[.nilIface, .agg #[.int .i64 c, .int .i64 j]])

set_option maxHeartbeats 800000 in
theorem parse_any (s : ByteArray) (w : World) (hm : s.size ≤ maxLen) : Calls Tryd.prog 16 #[.string s] w (Parsed w (parseR s)) := by
  unfold maxLen at hm
  have hmf : ∀ (fn : Fn) (first cap : Array Value) (w : World), (Instr.makeFunc fn first cap).run Tryd.prog w = .ok (.func fn first cap) w := fun _ _ _ _ => rfl
  by_cases hs : 4000 < s.size
  · have hs' : (4000 : Int) < (s.size : Int) := by omega
    have hR : parseR s = .bad 1 0 := by simp [parseR, hs]
    rw [hR]
    go_enter_defers Tryd.func16, Tryd.ntmps16
    go_wp2
    exact ⟨.tuple #[.nilIface, .agg #[.int .i64 1, .int .i64 0]], by simp [results, Tryd.results16, go_sem], (Below.refl _ _).alloc (Nat.le_refl _) _, rfl⟩
  · have hs' : ¬ (4000 : Int) < (s.size : Int) := by omega
    have hs4 : s.size ≤ 4000 := by omega
    have R0 : Hid (Rd ((w.alloc (.cells #[.int .i64 0, .int .i64 0] 32)).alloc (.cells #[.string s, .int .i64 0, .int .i64 0] 78)) (w.heap.size + 1) s 0 0) := by
      have := heap_alloc_new (w.alloc (.cells #[.int .i64 0, .int .i64 0] 32)) (.cells #[.string s, .int .i64 0, .int .i64 0] 78)
      show _ = _
      simpa using this
    have F0 : Hid (((w.alloc (.cells #[.int .i64 0, .int .i64 0] 32)).alloc (.cells #[.string s, .int .i64 0, .int .i64 0] 78)).heap[w.heap.size]? = some (.cells #[.int .i64 0, .int .i64 0] 32 (0, 0))) := by
      have h1 := Below.heap_alloc (w.alloc (.cells #[.int .i64 0, .int .i64 0] 32)) (.cells #[.string s, .int .i64 0, .int .i64 0] 78) w.heap.size (by simp)
      show _ = _
      rw [h1]; exact heap_alloc_new w _
    have B0 : Hid (Below w.heap.size w ((w.alloc (.cells #[.int .i64 0, .int .i64 0] 32)).alloc (.cells #[.string s, .int .i64 0, .int .i64 0] 78))) := ((Below.refl _ _).alloc (Nat.le_refl _) _).alloc (by simp) _
    have HW : Hid (∀ w1, Rd w1 (w.heap.size + 1) s 0 0 → Calls Tryd.prog 34 #[.pointer (some ⟨w.heap.size + 1, 0, none⟩)] w1 (Gives s (w.heap.size + 1) 0 w1 (wholeF s (s.size + 1) 0 0))) := fun w1 h => whole_does s hs4 (s.size + 1) 0 0 _ w1 (by omega) (by omega) (by omega) h
    have hadv := adv_whole (s := s) (s.size + 1) 0 0
    unfold parseR
    rw [if_neg hs]
    clear hs hm
    generalize hgen : ((w.alloc (.cells #[.int .i64 0, .int .i64 0] 32)).alloc (.cells #[.string s, .int .i64 0, .int .i64 0] 78)) = w2 at R0 F0 B0
    have HG : Hid (((w.alloc (.cells #[.int .i64 0, .int .i64 0] 32)).alloc (.cells #[.string s, .int .i64 0, .int .i64 0] 78)) = w2) := hgen
    clear hgen
    generalize wholeF s (s.size + 1) 0 0 = R at HW hadv ⊢
    cases R with
    | bad c j =>
      go_enter_defers Tryd.func16, Tryd.ntmps16
      go_wp2_with fail
      rw [HG.out]
      refine (HW.out _ R0.out).mono ?_
      rintro e w3 ⟨hg3, hp⟩
      have F3 : w3.heap[w.heap.size]? = some (.cells #[.int .i64 0, .int .i64 0] 32 (0, 0)) := (hg3.block _ (Array.getElem?_eq_some_iff.1 F0.out).1 (by simp)).trans F0.out
      have B3 : Below w.heap.size w w3 := B0.out.trans (grown_below hg3 (by omega) B0.out.size)
      rcases hp with ⟨rfl, rfl⟩ | ⟨rfl, rfl⟩
      ·
        refine leaves_cons (f := 33) (args := #[.pointer (some ⟨w.heap.size, 0, none⟩)]) (by simp) (by simp [go_sem]) ?_
        refine (catch_misplaced w.heap.size _ _ _ _ F3).mono ?_
        rintro e u' w'' ⟨rfl, rfl, rfl⟩
        have q0 : ((w3.setCell ⟨w.heap.size, 0, none⟩ (.int .i64 4)).setCell ⟨w.heap.size, 1, none⟩ (.int .i64 (j : Nat))).heap[w.heap.size]? = some (.cells #[.int .i64 4, .int .i64 (j : Nat)] 32 (0, 0)) := by
          rw [heap_setCell_same _ w.heap.size 1 _ 32 _ (heap_setCell_same _ w.heap.size 0 _ 32 _ F3)]; rfl
        refine ⟨.tuple #[.nilIface, .agg #[.int .i64 4, .int .i64 (j : Nat)]], by simp [results, Tryd.results16, go_sem, (two_cells q0).1, (two_cells q0).2.1], (B3.setCell (Nat.le_refl _) _).setCell (Nat.le_refl _) _, rfl⟩
      ·
        refine leaves_cons (f := 33) (args := #[.pointer (some ⟨w.heap.size, 0, none⟩)]) (by simp) (by simp [go_sem]) ?_
        refine (catch_tooDeep w.heap.size _ _ _ _ F3).mono ?_
        rintro e u' w'' ⟨rfl, rfl, rfl⟩
        have q0 : ((w3.setCell ⟨w.heap.size, 0, none⟩ (.int .i64 7)).setCell ⟨w.heap.size, 1, none⟩ (.int .i64 (j : Nat))).heap[w.heap.size]? = some (.cells #[.int .i64 7, .int .i64 (j : Nat)] 32 (0, 0)) := by
          rw [heap_setCell_same _ w.heap.size 1 _ 32 _ (heap_setCell_same _ w.heap.size 0 _ 32 _ F3)]; rfl
        refine ⟨.tuple #[.nilIface, .agg #[.int .i64 7, .int .i64 (j : Nat)]], by simp [results, Tryd.results16, go_sem, (two_cells q0).1, (two_cells q0).2.1], (B3.setCell (Nat.le_refl _) _).setCell (Nat.le_refl _) _, rfl⟩
    | good m j =>
      have hj := hadv m j rfl
      clear hadv
      by_cases hjl : j < s.size
      · have hjl' : (j : Int) < (s.size : Int) := by omega
        show Calls Tryd.prog 16 #[.string s] w (Parsed w (if j < s.size then .bad 4 j else .good m j))
        rw [if_pos hjl]
        go_enter_defers Tryd.func16, Tryd.ntmps16
        go_wp2_with fail
        rw [HG.out]
        refine (HW.out _ R0.out).mono ?_
        rintro e w3 ⟨hg3, v, rfl, hrd, hl⟩
        have F3 : Hid (w3.heap[w.heap.size]? = some (.cells #[.int .i64 0, .int .i64 0] 32 (0, 0))) := (hg3.block _ (Array.getElem?_eq_some_iff.1 F0.out).1 (by simp)).trans F0.out
        have B3 : Hid (Below w.heap.size w w3) := B0.out.trans (grown_below hg3 (by omega) B0.out.size)
        have L3 : Hid (Lies (fun k => w.heap.size ≤ k ∧ k ≠ w.heap.size) w3 v m) := hl.kept fun g hg _ => ⟨by have := B0.out.size; have := (Array.getElem?_eq_some_iff.1 F0.out).1; omega, rfl⟩
        have c1 := hrd.c1
        have f1 := hrd.f 1
        have c0 := (two_cells F3.out).1
        have c01 := (two_cells F3.out).2.1
        have f0 := (two_cells F3.out).2.2.1
        have f01 := (two_cells F3.out).2.2.2
        clear hg3 hrd hl R0 F0 B0 HW
        go_wp2_with fail
        refine leaves_cons (f := 33) (args := #[.pointer (some ⟨w.heap.size, 0, none⟩)]) (by simp) (by simp [go_sem]) ?_
        refine (catch_misplaced w.heap.size _ _ _ _ F3.out).mono ?_
        rintro e u' w'' ⟨rfl, rfl, rfl⟩
        have q0 : ((w3.setCell ⟨w.heap.size, 0, none⟩ (.int .i64 4)).setCell ⟨w.heap.size, 1, none⟩ (.int .i64 (j : Nat))).heap[w.heap.size]? = some (.cells #[.int .i64 4, .int .i64 (j : Nat)] 32 (0, 0)) := by
          rw [heap_setCell_same _ w.heap.size 1 _ 32 _ (heap_setCell_same _ w.heap.size 0 _ 32 _ F3.out)]; rfl
        refine ⟨.tuple #[.nilIface, .agg #[.int .i64 4, .int .i64 (j : Nat)]], by simp [results, Tryd.results16, go_sem, (two_cells q0).1, (two_cells q0).2.1], (B3.out.setCell (Nat.le_refl _) _).setCell (Nat.le_refl _) _, rfl⟩
      · have hjl' : ¬ (j : Int) < (s.size : Int) := by omega
        show Calls Tryd.prog 16 #[.string s] w (Parsed w (if j < s.size then .bad 4 j else .good m j))
        rw [if_neg hjl]
        go_enter_defers Tryd.func16, Tryd.ntmps16
        go_wp2_with fail
        rw [HG.out]
        refine (HW.out _ R0.out).mono ?_
        rintro e w3 ⟨hg3, v, rfl, hrd, hl⟩
        have F3 : Hid (w3.heap[w.heap.size]? = some (.cells #[.int .i64 0, .int .i64 0] 32 (0, 0))) := (hg3.block _ (Array.getElem?_eq_some_iff.1 F0.out).1 (by simp)).trans F0.out
        have B3 : Hid (Below w.heap.size w w3) := B0.out.trans (grown_below hg3 (by omega) B0.out.size)
        have L3 : Hid (Lies (fun k => w.heap.size ≤ k ∧ k ≠ w.heap.size) w3 v m) := hl.kept fun g hg _ => ⟨by have := B0.out.size; have := (Array.getElem?_eq_some_iff.1 F0.out).1; omega, rfl⟩
        have c1 := hrd.c1
        have f1 := hrd.f 1
        have c0 := (two_cells F3.out).1
        have c01 := (two_cells F3.out).2.1
        have f0 := (two_cells F3.out).2.2.1
        have f01 := (two_cells F3.out).2.2.2
        clear hg3 hrd hl R0 F0 B0 HW
        go_wp2_with fail
        refine leaves_cons (f := 33) (args := #[.pointer (some ⟨w.heap.size, 0, none⟩)]) (by simp) (by simp [go_sem]) ?_
        refine (catch_idle w.heap.size _).mono ?_
        rintro e u' w'' ⟨rfl, rfl, rfl⟩
        have q0 : ((w3.setCell ⟨w.heap.size, 0, none⟩ (.int .i64 0)).setCell ⟨w.heap.size, 1, none⟩ (.int .i64 0)).heap[w.heap.size]? = some (.cells #[.int .i64 0, .int .i64 0] 32 (0, 0)) := by
          rw [heap_setCell_same _ w.heap.size 1 _ 32 _ (heap_setCell_same _ w.heap.size 0 _ 32 _ F3.out)]; rfl
        refine ⟨.tuple #[v, .agg #[.int .i64 0, .int .i64 0]], by simp [results, Tryd.results16, go_sem, (two_cells q0).1, (two_cells q0).2.1], (B3.out.setCell (Nat.le_refl _) _).setCell (Nat.le_refl _) _, v, rfl, L3.out.kept fun g hg _ => ⟨hg.1, ?_⟩⟩
        rw [Below.heap_setCell _ _ _ _ (by simpa using hg.2), Below.heap_setCell _ _ _ _ (by simpa using hg.2)]

end Go.Proofs.YtkkmdcnbifepjaaDoor
