/- A row, as the program reads it. -/
import Derived.Test.YtepldeogcoigkaaDoorPart
namespace Go.Proofs.YtepldeogcoigkaaDoor
open Go.RowKit
set_option linter.unusedVariables false

theorem Tryd.infoPart : (Tryd.prog.info? 34).map (fun i => (i.zero, i.size, i.bytes)) = some (some .nilIface, 1, 16) := by kernel_rfl

set_option maxHeartbeats 800000 in
theorem row_does (s : ByteArray) (O : Nat → Nat → Res) (n : Nat) (hs : s.size ≤ 4000) (hadv : Adv s O) (hO : Does 29 s O n) : Does 25 s (rowS s O) n := by
  intro i d b w hi hn hd h
  have HO : Hid (∀ (i : Nat) (w : World), i ≤ s.size → s.size - i < n → Rd w b s i d → Calls Tryd.prog 29 #[.pointer (some ⟨b, 0, none⟩)] w (Gives s b d w (O i d))) := fun i w h1 h2 h3 => hO i d b w h1 h2 hd h3
  have H0 : Hid (b < w.heap.size) := h.lt
  have H : Hid (Rd w b s i d) := h
  clear h hO
  unfold rowS
  cases hR : O i d with
  | bad c j =>
    go_enter Tryd.func25, Tryd.ntmps25
    go_wp2_with fail
    refine (HO.out i w hi hn H.out).mono ?_
    rw [hR]
    rintro e w2 ⟨hg, ⟨rfl, rfl⟩ | ⟨rfl, rfl⟩⟩
    · exact ⟨rfl, hg, .inl ⟨rfl, rfl⟩⟩
    · exact ⟨rfl, hg, .inr ⟨rfl, rfl⟩⟩
  | good m j =>
    have hj := hadv _ _ _ _ hR
    show Calls Tryd.prog 25 #[.pointer (some ⟨b, 0, none⟩)] w (Gives s b d w (rowL s O d (s.size + 1) [m] j))
    obtain ⟨i0, hi0, hz0, hz1, hz2⟩ := info_parts Tryd.infoPart
    go_enter Tryd.func25, Tryd.ntmps25
    go_wp2_with fail
    refine (HO.out i w hi hn H.out).mono ?_
    rw [hR]
    rintro e w2 ⟨hg, v, rfl, hrd, hl⟩
    clear hR
    have R2 : Hid (Rd (w2.alloc (.cells #[v] 34)) b s j d) := hrd.kept (World.grownBy_alloc _ _ _)
    have G2 : Hid (w.grownBy (w2.alloc (.cells #[v] 34)) (some b)) := grown_trans hg (World.grownBy_alloc _ _ _)
    have K2 : Hid (Kids w.heap.size (w2.alloc (.cells #[v] 34)) (.slice (some ⟨w2.heap.size, 0, none⟩) 1 1) [m] [v]) := Kids.first hl (Nat.le_refl _) hg.size
    obtain ⟨t, x, rfl⟩ := hl.form
    clear hrd hg hl H
    go_wp2_with fail
    go_loopw [3] (fun v wr => ∃ (q k : Nat) (ms : List Sense) (vs : List Value), q ≤ s.size ∧ s.size - q < k ∧ 0 < ms.length ∧ ms.length ≤ q ∧ i < q ∧ Rd wr b s q d ∧ w.grownBy wr (some b) ∧ Kids w.heap.size wr v ms vs ∧ rowL s O d (s.size + 1) [m] j = rowL s O d k ms q) (fun _ wr => s.size - placeOf wr b)
    case atStart => exact ⟨j, s.size + 1, [m], _, by omega, by omega, by simp, by simp; omega, by omega, R2.out, G2.out, K2.out, rfl⟩
    case round =>
      clear R2 G2 K2
      obtain ⟨q, k, ms, vs, hq, hk, hm0, hmq, hiq, r4, g4, k4, hst⟩ := hrel
      have R4 : Hid (Rd wr b s q d) := r4
      have G4 : Hid (w.grownBy wr (some b)) := g4
      have K4 : Hid (Kids w.heap.size wr u3 ms vs) := k4
      have HST : Hid (rowL s O d (s.size + 1) [m] j = rowL s O d k ms q) := hst
      have P4 : placeOf wr b = q := r4.place
      obtain ⟨g, cap, hv3, hg3, hlt3⟩ := k4.own.form hm0
      clear r4 g4 k4 hst
      subst hv3
      obtain ⟨k', rfl⟩ : ∃ k', k = k' + 1 := ⟨k - 1, by omega⟩
      by_cases hb : beginsF (byteAt s q) = true
      · have hql : q < s.size := begins_lt hb
        cases hR : O (q) d with
        | bad c j' =>
          have hS : rowL s O d (k' + 1) ms q = .bad c j' := by simp [rowL, hb, hR]
          have HF : Hid (rowL s O d (s.size + 1) [m] j = .bad c j') := HST.out.trans hS
          clear hS HST
          go_wp2_with fail
          refine (peek_any s b q d _ hs (by omega) R4.out).mono ?_
          rintro e w5 ⟨rfl, hg5⟩
          have R5 : Hid (Rd w5 b s q d) := R4.out.kept hg5
          have G5 : Hid (w.grownBy w5 (some b)) := grown_trans G4.out (grown_some hg5)
          have K5 : Hid (Kids w.heap.size w5 (.slice (some ⟨g, 0, none⟩) ms.length cap) ms vs) := K4.out.kept (grown_some (row := some b) hg5) H0.out
          have hlt5 : g < w5.heap.size := Nat.lt_of_lt_of_le hlt3 hg5.size
          clear R4 G4 K4 hg5
          go_wp2_with fail
          refine (begins_any _ _ (byteAt_lt s q)).mono ?_
          rintro e w6 ⟨rfl, hw6⟩
          obtain rfl : w5 = w6 := hw6.symm
          rw [hb]
          go_wp2_with fail
          refine (HO.out (q) _ (by omega) (by omega) R5.out).mono ?_
          rw [hR]
          rintro e w6 ⟨hg6, ⟨rfl, rfl⟩ | ⟨rfl, rfl⟩⟩
          · refine ⟨rfl, ?_⟩
            rw [HF.out]
            exact ⟨grown_trans G5.out hg6, .inl ⟨rfl, rfl⟩⟩
          · refine ⟨rfl, ?_⟩
            rw [HF.out]
            exact ⟨grown_trans G5.out hg6, .inr ⟨rfl, rfl⟩⟩
        | good m' j' =>
          have hj' := hadv _ _ _ _ hR
          have hS : rowL s O d (k' + 1) ms q = rowL s O d k' (ms ++ [m']) j' := by simp [rowL, hb, hR]
          have HF : Hid (rowL s O d (s.size + 1) [m] j = rowL s O d k' (ms ++ [m']) j') := HST.out.trans hS
          clear hS HST
          go_wp2_with fail
          refine (peek_any s b q d _ hs (by omega) R4.out).mono ?_
          rintro e w5 ⟨rfl, hg5⟩
          have R5 : Hid (Rd w5 b s q d) := R4.out.kept hg5
          have G5 : Hid (w.grownBy w5 (some b)) := grown_trans G4.out (grown_some hg5)
          have K5 : Hid (Kids w.heap.size w5 (.slice (some ⟨g, 0, none⟩) ms.length cap) ms vs) := K4.out.kept (grown_some (row := some b) hg5) H0.out
          have hlt5 : g < w5.heap.size := Nat.lt_of_lt_of_le hlt3 hg5.size
          clear R4 G4 K4 hg5
          go_wp2_with fail
          refine (begins_any _ _ (byteAt_lt s q)).mono ?_
          rintro e w6 ⟨rfl, hw6⟩
          obtain rfl : w5 = w6 := hw6.symm
          rw [hb]
          go_wp2_with fail
          refine (HO.out (q) _ (by omega) (by omega) R5.out).mono ?_
          rw [hR]
          rintro e w6 ⟨hg6, v', rfl, hrd6, hl6⟩
          have R6 : Hid (Rd w6 b s j' d) := hrd6
          have G6 : Hid (w.grownBy w6 (some b)) := grown_trans G5.out hg6
          have K6 : Hid (Kids w.heap.size w6 (.slice (some ⟨g, 0, none⟩) ms.length cap) ms vs) := K5.out.kept hg6 H0.out
          have O6 : Hid ((w6.alloc (.cells #[v'] 34)).ownsRow w.heap.size 34 1 (.slice (some ⟨g, 0, none⟩) ms.length cap) ms.length vs) := K6.out.own.alloc _
          have L6 : Hid (Lies (fun k => w5.heap.size ≤ k) w6 v' m') := hl6
          have S6 : Hid (w5.heap.size ≤ w6.heap.size) := hg6.size
          obtain ⟨t', x', rfl⟩ := hl6.form
          clear hrd6 hg6 hl6 hR R5 K5
          go_wp2_with (first | (at_builtin; refine wpList_append_lies _ rfl (.tmp 10) (.tmp 13) 58 rfl w.heap.size 34 i0 .nilIface 1 16 Tryd.underlying58 hi0 hz0 hz1 hz2 rfl (by decide) (.slice (some ⟨g, 0, none⟩) ms.length cap) ms.length vs rfl O6.out ⟨w6.heap.size, 0, none⟩ 1 1 [.iface t' x'] rfl rfl (cell_one_new _ _ _) (by intro u hu; simp at hu; subst hu; rfl) (by omega) (by unfold maxLen; omega) (by omega) (by have := G6.out.size; simp; omega) (w6.heap.size + 1) (by simp) ?_; intro g7 cap7 w7 ho7 hg7 hat7 _))
          have K7 : Hid (Kids w.heap.size w7 (.slice (some ⟨g7, 0, none⟩) (ms.length + 1) cap7) (ms ++ [m']) (vs ++ [.iface t' x'])) :=
            K6.out.push (n := w5.heap.size) S6.out (fun q hq => by simp [Value.ownBlock] at hq; subst hq; exact hlt5) (Nat.le_trans G5.out.size (Nat.le_refl _)) L6.out ho7 hg7 (hat7.elim (fun e => .inl e.symm) (fun e => .inr (by rw [e]; simp [Value.ownBlock])))
          have B7 : Hid (b < w6.heap.size) := R6.out.lt
          have hbg : b ≠ g := by have := H0.out; omega
          have R7 : Hid (Rd w7 b s j' d) := (R6.out.kept (World.grownBy_alloc _ (.cells #[.iface t' x'] 34) none)).kept' hg7 hbg
          have G7 : Hid (w.grownBy w7 (some b)) := grown_new (grown_trans G6.out (World.grownBy_alloc _ (.cells #[.iface t' x'] 34) _)) hg7 hg3
          clear ho7 hg7 hat7 K6 O6 L6 S6 R6 G6 G5
          go_wp2_with fail
          go_roundw
          case rel => exact ⟨j', k', ms ++ [m'], _, by omega, by omega, by simp, by simp; omega, by omega, R7.out, G7.out, by simpa using K7.out, HF.out⟩
          case measure =>
            rw [R7.out.place, P4]
            omega
      · have hS : rowL s O d (k' + 1) ms q = .good (rowOf ms) q := by simp [rowL, hb]
        have HF : Hid (rowL s O d (s.size + 1) [m] j = .good (rowOf ms) q) := HST.out.trans hS
        clear hS HST
        go_wp2_with fail
        refine (peek_any s b q d _ hs (by omega) R4.out).mono ?_
        rintro e w5 ⟨rfl, hg5⟩
        have R5 : Hid (Rd w5 b s q d) := R4.out.kept hg5
        have G5 : Hid (w.grownBy w5 (some b)) := grown_trans G4.out (grown_some hg5)
        have K5 : Hid (Kids w.heap.size w5 (.slice (some ⟨g, 0, none⟩) ms.length cap) ms vs) := K4.out.kept (grown_some (row := some b) hg5) H0.out
        have hlt5 : g < w5.heap.size := Nat.lt_of_lt_of_le hlt3 hg5.size
        clear R4 G4 K4 hg5
        go_wp2_with fail
        refine (begins_any _ _ (byteAt_lt s q)).mono ?_
        rintro e w6 ⟨rfl, hw6⟩
        obtain rfl : w5 = w6 := hw6.symm
        rw [(by simpa using hb : beginsF (byteAt s q) = false)]
        have L5 : Hid (∀ k, k < ms.length → Lies (fun q => w.heap.size ≤ q) w5 (vs.getD k .nilIface) (ms.getD k noneS)) := fun k hk => (K5.out.lie k hk).kept fun g hg _ => ⟨hg.1, rfl⟩
        have hlen := K5.out.len
        have hcell : Hid (∀ k, k < ms.length → w5.cell? ⟨g, k, none⟩ = some (vs.getD k .nilIface)) := fun k hk => by
          have := K5.out.own.cellAt k (by omega)
          rw [this]
          simp [List.getD, hlen, hk]
        by_cases h1 : ms.length = 1
        · obtain ⟨m1, rfl⟩ : ∃ m1, ms = [m1] := List.length_eq_one_iff.1 h1
          have hc0 := hcell.out 0 (by simp)
          have l0 := L5.out 0 (by simp)
          generalize vs.getD 0 .nilIface = v0 at hc0 l0
          have E : Hid (Gives s b d w (.good (rowOf [m1]) q) (.returned v0) w5) := ⟨G5.out, v0, rfl, R5.out, by rw [rowOf_one]; simpa using l0⟩
          clear l0 L5 hcell K5 R5 G5
          go_wp2_with fail
          go_ret
          rw [HF.out]
          exact E.out
        · have h1' : ((ms.length : Int) == 1) = false := by simp; omega
          have E : Hid (Gives s b d w (.good (rowOf ms) q) (.returned (.iface 58 (.slice (some ⟨g, 0, none⟩) ms.length cap))) w5) := ⟨G5.out, _, rfl, R5.out, .row g cap vs ms hg3 (by omega) hcell.out L5.out⟩
          clear L5 hcell K5 R5 G5
          go_wp2_with fail
          go_ret
          rw [HF.out]
          exact E.out

end Go.Proofs.YtepldeogcoigkaaDoor
