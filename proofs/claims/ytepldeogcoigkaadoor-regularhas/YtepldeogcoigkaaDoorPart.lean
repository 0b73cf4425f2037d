/- A part of a text, and what stands in brackets, as the program reads them. -/
import Derived.Test.YtepldeogcoigkaaDoorLies
namespace Go.Proofs.YtepldeogcoigkaaDoor
open Go.RowKit
set_option linter.unusedVariables false

set_option maxHeartbeats 400000 in
theorem bracket_does (s : ByteArray) (W : Nat → Nat → Res) (n : Nat) (hs : s.size ≤ 4000) (hadv : Adv s W) (hW : Does 16 s W n) (i d b : Nat) (w : World) (hi : i < s.size) (hn : s.size - i < n + 1) (hd : d ≤ 40) (h : Rd w b s i d) :
    Calls Tryd.prog 34 #[.pointer (some ⟨b, 0, none⟩)] w (Gives s b d w (bracketS s W i d)) := by
  have c1 := h.c1
  have c2 := h.c2
  have f1 := h.f 1
  have f2 := h.f 2
  have H : Hid (Rd w b s i d) := h
  have HW : Hid (Does 16 s W n) := hW
  have H0 : Hid (b < w.heap.size) := h.lt
  clear h hW
  by_cases h40 : d = 40
  · subst h40
    have hS : bracketS s W i 40 = .bad 7 i := by simp [bracketS]
    rw [hS]
    go_enter Tryd.func34, Tryd.ntmps34
    go_wp2_with fail
    exact ⟨rfl, grown_refl _ _, .inr ⟨rfl, rfl⟩⟩
  · have h40' : ((d : Int) == 40) = false := by simp; omega
    have G0 : Hid (w.grownBy ((w.setCell ⟨b, 1, none⟩ (.int .i64 ((i : Int) + 1))).setCell ⟨b, 2, none⟩ (.int .i64 ((d : Int) + 1))) (some b)) := grown_trans (grown_set w _ _) (grown_set _ _ _)
    have R0 : Hid (Rd ((w.setCell ⟨b, 1, none⟩ (.int .i64 ((i : Int) + 1))).setCell ⟨b, 2, none⟩ (.int .i64 ((d : Int) + 1))) b s (i + 1) (d + 1)) := (H.out.set1 (i + 1) (by omega)).set2 (d + 1) (by omega)
    cases hR : W (i + 1) (d + 1) with
    | bad c j =>
      have hS : bracketS s W i d = .bad c j := by simp [bracketS, h40, hR]
      rw [hS]
      go_enter Tryd.func34, Tryd.ntmps34
      go_wp2_with fail
      refine (HW.out (i + 1) (d + 1) b _ (by omega) (by omega) (by omega) R0.out).mono ?_
      rw [hR]
      rintro e w2 ⟨hg, ⟨rfl, rfl⟩ | ⟨rfl, rfl⟩⟩
      · exact ⟨rfl, grown_trans G0.out hg, .inl ⟨rfl, rfl⟩⟩
      · exact ⟨rfl, grown_trans G0.out hg, .inr ⟨rfl, rfl⟩⟩
    | good m j =>
      have hj := hadv _ _ _ _ hR
      by_cases h41 : byteAt s j = 41
      · have hS : bracketS s W i d = .good m (j + 1) := by simp [bracketS, h40, hR, h41]
        have hjl := byte_lt h41 (by omega)
        rw [hS]
        clear hS
        go_enter Tryd.func34, Tryd.ntmps34
        go_wp2_with fail
        refine (HW.out (i + 1) (d + 1) b _ (by omega) (by omega) (by omega) R0.out).mono ?_
        rw [hR]
        rintro e w2 ⟨hg, v, rfl, hrd, hl⟩
        have HL : Hid (Lies (fun k => w.heap.size ≤ k) w2 v m) := hl.kept fun g hg _ => ⟨by simpa [World.setCell] using hg, rfl⟩
        have G2 : Hid (w.grownBy w2 (some b)) := grown_trans G0.out hg
        have R2 : Hid (Rd w2 b s j (d + 1)) := hrd
        clear hl hg hrd hR G0 R0 c1 c2 f1 f2 H HW
        go_wp2_with fail
        refine (peek_any s b j (d + 1) _ hs (by omega) R2.out).mono ?_
        rintro e w3 ⟨rfl, hg3⟩
        rw [h41]
        have R3 := R2.out.kept hg3
        have G3 : Hid (w.grownBy w3 (some b)) := grown_trans G2.out (grown_some hg3)
        have HL3 : Hid (Lies (fun k => w.heap.size ≤ k) w3 v m) := HL.out.kept fun g hg hlt => ⟨hg, hg3.block g hlt (by simp)⟩
        have c1 := R3.c1
        have c2 := R3.c2
        have f1 := R3.f 1
        have f2 := R3.f 2
        have HR3 : Hid (Rd w3 b s j (d + 1)) := R3
        clear R3 hg3 R2 G2 HL
        go_wp2_with fail
        go_ret
        refine ⟨grown_trans G3.out (grown_trans (grown_set _ _ _) (grown_set _ _ _)), v, rfl, (HR3.out.set1 (j + 1) (by omega)).set2 d (by omega), HL3.out.kept fun g hg hlt => ⟨hg, ?_⟩⟩
        have hne : g ≠ b := by have := H0.out; omega
        rw [Below.heap_setCell _ _ _ _ hne, Below.heap_setCell _ _ _ _ hne]
      · have hS : bracketS s W i d = .bad 4 j := by simp [bracketS, h40, hR, h41]
        have h41' : ((byteAt s j : Int) == 41) = false := by simp; omega
        rw [hS]
        clear hS
        go_enter Tryd.func34, Tryd.ntmps34
        go_wp2_with fail
        refine (HW.out (i + 1) (d + 1) b _ (by omega) (by omega) (by omega) R0.out).mono ?_
        rw [hR]
        rintro e w2 ⟨hg, v, rfl, hrd, hl⟩
        have G2 : Hid (w.grownBy w2 (some b)) := grown_trans G0.out hg
        have R2 : Hid (Rd w2 b s j (d + 1)) := hrd
        clear hl hg hrd hR G0 R0 c1 c2 f1 f2 H HW
        go_wp2_with fail
        refine (peek_any s b j (d + 1) _ hs (by omega) R2.out).mono ?_
        rintro e w3 ⟨rfl, hg3⟩
        have R3 := R2.out.kept hg3
        have G3 : Hid (w.grownBy w3 (some b)) := grown_trans G2.out (grown_some hg3)
        have c1 := R3.c1
        have f1 := R3.f 1
        clear R3 hg3 R2 G2
        go_wp2_with fail
        exact ⟨rfl, G3.out, .inl ⟨rfl, rfl⟩⟩

theorem part_does (s : ByteArray) (W : Nat → Nat → Res) (n : Nat) (hs : s.size ≤ 4000) (hadv : Adv s W) (hW : Does 16 s W n) : Does 33 s (partS s W) (n + 1) := by
  intro i d b w hi hn hd h
  have HB : Hid (∀ w1, i < s.size → Rd w1 b s i d → Calls Tryd.prog 34 #[.pointer (some ⟨b, 0, none⟩)] w1 (Gives s b d w1 (bracketS s W i d))) := fun w1 hi1 h1 => bracket_does s W n hs hadv hW i d b w1 hi1 hn hd h1
  have HP : Hid (Calls Tryd.prog 26 #[.pointer (some ⟨b, 0, none⟩)] w fun e w' => e = .returned (.int .u8 (byteAt s i)) ∧ w.grownBy w' none) := peek_any s b i d w hs hi h
  have H : Hid (Rd w b s i d) := h
  clear h hW
  have hc := byteAt_lt s i
  have hi0 : Hid (beginsF (byteAt s i) = true → i < s.size) := begins_lt
  unfold partS
  generalize byteAt s i = c at *
  by_cases hb : beginsF c = false
  · rw [if_pos hb]
    go_enter Tryd.func33, Tryd.ntmps33
    go_wp2_with fail
    refine HP.out.mono ?_
    rintro e w2 ⟨rfl, hg⟩
    have c1 := (H.out.kept hg).c1
    have f1 := (H.out.kept hg).f 1
    have G : Hid (w.grownBy w2 (some b)) := grown_some hg
    clear hg HP H
    go_wp2_with fail
    refine (begins_any c _ hc).mono ?_
    rintro e w3 ⟨rfl, rfl⟩
    rw [hb]
    go_wp2_with fail
    exact ⟨rfl, G.out, .inl ⟨rfl, rfl⟩⟩
  · rw [if_neg hb]
    have hb' : beginsF c = true := by simpa using hb
    have hlt : i < s.size := hi0.out hb'
    clear hb hi0
    by_cases h40 : c = 40
    · rw [if_pos h40]
      subst h40
      generalize bracketS s W i d = R at HB ⊢
      go_enter Tryd.func33, Tryd.ntmps33
      go_wp2_with fail
      refine HP.out.mono ?_
      rintro e w2 ⟨rfl, hg⟩
      have R2 : Hid (Rd w2 b s i d) := H.out.kept hg
      have G : Hid (w.grownBy w2 none) := hg
      clear hg HP H
      go_wp2_with fail
      refine (begins_any _ _ hc).mono ?_
      rintro e w3 ⟨rfl, rfl⟩
      rw [hb']
      go_wp2_with fail
      refine (HB.out _ hlt R2.out).mono ?_
      cases R with
      | bad c j =>
        rintro e w4 ⟨hg4, ⟨rfl, rfl⟩ | ⟨rfl, rfl⟩⟩
        · exact ⟨rfl, grown_trans (grown_some G.out) hg4, .inl ⟨rfl, rfl⟩⟩
        · exact ⟨rfl, grown_trans (grown_some G.out) hg4, .inr ⟨rfl, rfl⟩⟩
      | good m j =>
        rintro e w4 ⟨hg4, v, rfl, hrd, hl⟩
        have G4 : Hid (Gives s b d w (.good m j) (.returned v) w4) := ⟨grown_trans (grown_some G.out) hg4, v, rfl, hrd, hl.kept fun g hg _ => ⟨Nat.le_trans G.out.size hg, rfl⟩⟩
        clear hrd hl hg4 G R2
        go_wp2_with fail
        go_ret
        exact G4.out
    · rw [if_neg h40]
      have h40' : ((c : Int) == 40) = false := by simp; omega
      have G0 : Hid (∀ w2 : World, w.grownBy w2 none → ∀ (v : Value) (m : Sense), (∀ w3 : World, Lies (fun k => w.heap.size ≤ k) w3 v m) → Gives s b d w (.good m (i + 1)) (.returned v) (w2.setCell ⟨b, 1, none⟩ (.int .i64 ((i : Int) + 1)))) :=
        fun w2 hg v m hl => ⟨grown_trans (grown_some hg) (grown_set _ _ _), v, rfl, (H.out.kept hg).set1 (i + 1) (by omega), hl _⟩
      have G1 : Hid (∀ w2 : World, w.grownBy w2 none → ∀ (v : Value) (m : Sense) (o : Obj), (∀ w3 : World, Lies (fun k => w.heap.size ≤ k) w3 v m) → Gives s b d w (.good m (i + 1)) (.returned v) ((w2.setCell ⟨b, 1, none⟩ (.int .i64 ((i : Int) + 1))).alloc o)) :=
        fun w2 hg v m o hl => ⟨grown_trans (grown_trans (grown_some hg) (grown_set _ _ _)) (World.grownBy_alloc _ _ _), v, rfl, ((H.out.kept hg).set1 (i + 1) (by omega)).kept (World.grownBy_alloc _ _ _), hl _⟩
      by_cases h48 : c = 48
      · rw [if_pos h48]
        subst h48
        go_enter Tryd.func33, Tryd.ntmps33
        go_wp2_with fail
        refine HP.out.mono ?_
        rintro e w2 ⟨rfl, hg⟩
        have c1 := (H.out.kept hg).c1
        have f1 := (H.out.kept hg).f 1
        have G : Hid (w.grownBy w2 none) := hg
        clear hg HP H
        go_wp2_with fail
        refine (begins_any _ _ hc).mono ?_
        rintro e w3 ⟨rfl, rfl⟩
        rw [hb']
        go_wp2_with fail
        go_ret
        first | exact G0.out _ G.out _ _ (fun _ => .none _ _) | exact G1.out _ G.out _ _ _ (fun _ => .none _ _)
      · rw [if_neg h48]
        have h48' : ((c : Int) == 48) = false := by simp; omega
        by_cases h49 : c = 49
        · rw [if_pos h49]
          subst h49
          go_enter Tryd.func33, Tryd.ntmps33
          go_wp2_with fail
          refine HP.out.mono ?_
          rintro e w2 ⟨rfl, hg⟩
          have c1 := (H.out.kept hg).c1
          have f1 := (H.out.kept hg).f 1
          have G : Hid (w.grownBy w2 none) := hg
          clear hg HP H
          go_wp2_with fail
          refine (begins_any _ _ hc).mono ?_
          rintro e w3 ⟨rfl, rfl⟩
          rw [hb']
          go_wp2_with fail
          go_ret
          first | exact G0.out _ G.out _ _ (fun _ => .empty _ _) | exact G1.out _ G.out _ _ _ (fun _ => .empty _ _)
        · rw [if_neg h49]
          have h49' : ((c : Int) == 49) = false := by simp; omega
          have h97 : 97 ≤ c ∧ c ≤ 100 := by
            simp [beginsF, h40, h48, h49] at hb'
            exact hb'
          have hw8 : IntKind.u8.wrap ((c : Int) - 97) = (c : Int) - 97 := wraps_u8 _ (by omega) (by omega)
          go_enter Tryd.func33, Tryd.ntmps33
          go_wp2_with fail
          refine HP.out.mono ?_
          rintro e w2 ⟨rfl, hg⟩
          have c1 := (H.out.kept hg).c1
          have f1 := (H.out.kept hg).f 1
          have G : Hid (w.grownBy w2 none) := hg
          clear hg HP H
          go_wp2_with fail
          refine (begins_any _ _ hc).mono ?_
          rintro e w3 ⟨rfl, rfl⟩
          rw [hb']
          go_wp2_with fail
          go_ret
          exact G0.out _ G.out _ _ (fun _ => by
            have e : ((c : Int) - 97) = ((c - 97 : Nat) : Int) := by omega
            rw [e]
            exact .letter (c - 97) (by omega))

set_option maxHeartbeats 400000 in
theorem one_does (s : ByteArray) (P : Nat → Nat → Res) (n : Nat) (hs : s.size ≤ 4000) (hadv : Adv s P) (hP : Does 33 s P n) : Does 29 s (oneS s P) n := by
  intro i d b w hi hn hd h
  have HP : Hid (Calls Tryd.prog 33 #[.pointer (some ⟨b, 0, none⟩)] w (Gives s b d w (P i d))) := hP i d b w hi hn hd h
  have H0 : Hid (b < w.heap.size) := h.lt
  clear h hP
  unfold oneS
  cases hR : P i d with
  | bad c j =>
    rw [hR] at HP
    go_enter Tryd.func29, Tryd.ntmps29
    go_wp2_with fail
    refine HP.out.mono ?_
    rintro e w2 ⟨hg, ⟨rfl, rfl⟩ | ⟨rfl, rfl⟩⟩
    · exact ⟨rfl, hg, .inl ⟨rfl, rfl⟩⟩
    · exact ⟨rfl, hg, .inr ⟨rfl, rfl⟩⟩
  | good m j =>
    rw [hR] at HP
    have hj := hadv _ _ _ _ hR
    clear hR
    show Calls Tryd.prog 29 #[.pointer (some ⟨b, 0, none⟩)] w (Gives s b d w (starL s (s.size + 1) m j))
    by_cases h42 : byteAt s j = 42
    · have hS : starL s (s.size + 1) m j = starL s s.size (starS m) (j + 1) := by simp [starL, h42]
      have hjl := byte_lt h42 (by omega)
      have HS : Hid (starL s (s.size + 1) m j = starL s s.size (starS m) (j + 1)) := hS
      clear hS
      go_enter Tryd.func29, Tryd.ntmps29
      go_wp2_with fail
      refine HP.out.mono ?_
      rintro e w2 ⟨hg, v, rfl, hrd, hl⟩
      have R2 : Hid (Rd w2 b s j d) := hrd
      have G2 : Hid (w.grownBy w2 (some b)) := hg
      have L2 : Hid (Lies (fun k => w.heap.size ≤ k) w2 v m) := hl
      have hform : Hid (∃ t x, v = Value.iface t x) := hl.form
      clear hrd hg hl HP
      go_wp2_with fail
      refine (peek_any s b j d _ hs (by omega) R2.out).mono ?_
      rintro e w3 ⟨rfl, hg3⟩
      rw [h42]
      have R3 : Hid (Rd w3 b s j d) := R2.out.kept hg3
      have G3 : Hid (w.grownBy w3 (some b)) := grown_trans G2.out (grown_some hg3)
      have L3 : Hid (Lies (fun k => w.heap.size ≤ k) w3 v m) := L2.out.kept fun g hg hlt => ⟨hg, hg3.block g hlt (by simp)⟩
      clear R2 G2 L2 hg3
      go_wp2_with fail
      go_loopw [] (fun wr => ∃ (q k : Nat) (m' : Sense), q ≤ s.size ∧ s.size - q < k ∧ Rd wr b s q d ∧ w.grownBy wr (some b) ∧ Lies (fun k => w.heap.size ≤ k) wr v m ∧ starL s (s.size + 1) m j = starL s k m' q ∧ ((q = j ∧ m' = m) ∨ m' = starS m)) (fun wr => s.size - placeOf wr b)
      case atStart => exact ⟨j, s.size + 1, m, by omega, by omega, R3.out, G3.out, L3.out, rfl, .inl ⟨rfl, rfl⟩⟩
      case round =>
        clear R3 G3 L3 HS
        obtain ⟨q, k, m', hq, hk, r4, g4, l4, hst, hm⟩ := hrel
        have R4 : Hid (Rd wr b s q d) := r4
        have G4 : Hid (w.grownBy wr (some b)) := g4
        have L4 : Hid (Lies (fun k => w.heap.size ≤ k) wr v m) := l4
        have HST : Hid (starL s (s.size + 1) m j = starL s k m' q) := hst
        have HM : Hid ((q = j ∧ m' = m) ∨ m' = starS m) := hm
        have P4 : placeOf wr b = q := r4.place
        clear r4 g4 l4 hst hm
        obtain ⟨k', rfl⟩ : ∃ k', k = k' + 1 := ⟨k - 1, by omega⟩
        by_cases h42q : byteAt s q = 42
        · have hql := byte_lt h42q (by omega)
          go_wp2_with fail
          refine (peek_any s b q d _ hs (by omega) R4.out).mono ?_
          rintro e w5 ⟨rfl, hg5⟩
          rw [h42q]
          have R5 : Hid (Rd w5 b s q d) := R4.out.kept hg5
          have G5 : Hid (w.grownBy w5 (some b)) := grown_trans G4.out (grown_some hg5)
          have L5 : Hid (Lies (fun k => w.heap.size ≤ k) w5 v m) := L4.out.kept fun g hg hlt => ⟨hg, hg5.block g hlt (by simp)⟩
          have c1 := R5.out.c1
          have f1 := R5.out.f 1
          clear R4 G4 L4 hg5
          go_wp2_with fail
          go_roundw
          case rel =>
            refine ⟨q + 1, k', starS m', by omega, by omega, R5.out.set1 (q + 1) (by omega), grown_trans G5.out (grown_set _ _ _), L5.out.kept fun g hg hlt => ⟨hg, Below.heap_setCell _ _ _ _ (by have := H0.out; simp; omega)⟩, ?_, .inr ?_⟩
            · rw [HST.out]; simp [starL, h42q]
            · rcases HM.out with ⟨_, rfl⟩ | rfl
              · rfl
              · exact star_star m
          case measure =>
            rw [(R5.out.set1 (q + 1) (x := (q : Int) + 1) (by omega)).place, P4]
            omega
        · have h42' : ((byteAt s q : Int) == 42) = false := by simp; omega
          have hm' : m' = starS m := by
            rcases HM.out with ⟨rfl, _⟩ | e
            · exact absurd h42 h42q
            · exact e
          have hf : starL s (s.size + 1) m j = .good (starS m) q := by rw [HST.out, hm']; simp [starL, h42q]
          have HF : Hid (starL s (s.size + 1) m j = .good (starS m) q) := hf
          clear hf hm'
          go_wp2_with fail
          refine (peek_any s b q d _ hs (by omega) R4.out).mono ?_
          rintro e w5 ⟨rfl, hg5⟩
          have G5 : Hid (Gives s b d w (.good (starS m) q) (.returned (.iface 61 (.agg #[v]))) w5) := ⟨grown_trans G4.out (grown_some hg5), _, rfl, R4.out.kept hg5, .star _ _ (L4.out.kept fun g hg hlt => ⟨hg, hg5.block g hlt (by simp)⟩)⟩
          clear R4 G4 L4 hg5
          obtain ⟨t, x, rfl⟩ := hform.out
          go_wp2_with fail
          go_ret
          rw [HF.out]
          exact G5.out
    · have hS : starL s (s.size + 1) m j = .good m j := by simp [starL, h42]
      rw [hS]
      have h42' : ((byteAt s j : Int) == 42) = false := by simp; omega
      go_enter Tryd.func29, Tryd.ntmps29
      go_wp2_with fail
      refine HP.out.mono ?_
      rintro e w2 ⟨hg, v, rfl, hrd, hl⟩
      have R2 : Hid (Rd w2 b s j d) := hrd
      have G2 : Hid (w.grownBy w2 (some b)) := hg
      have L2 : Hid (Lies (fun k => w.heap.size ≤ k) w2 v m) := hl
      clear hrd hg hl HP
      go_wp2_with fail
      refine (peek_any s b j d _ hs (by omega) R2.out).mono ?_
      rintro e w3 ⟨rfl, hg3⟩
      have G3 : Hid (Gives s b d w (.good m j) (.returned v) w3) := ⟨grown_trans G2.out (grown_some hg3), v, rfl, R2.out.kept hg3, L2.out.kept fun g hg hlt => ⟨hg, hg3.block g hlt (by simp)⟩⟩
      clear R2 G2 L2 hg3
      go_wp2_with fail
      go_ret
      exact G3.out

end Go.Proofs.YtepldeogcoigkaaDoor
