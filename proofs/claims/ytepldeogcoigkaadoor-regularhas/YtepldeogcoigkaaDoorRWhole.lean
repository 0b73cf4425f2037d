/- A text, as the reference reads it. -/
import Derived.Test.YtepldeogcoigkaaDoorRRow
namespace Go.Proofs.YtepldeogcoigkaaDoor
open Go.RowKit
set_option linter.unusedVariables false


/-- What holds at each round's head. -/
def WholeRel (w : World) (s : ByteArray) (b d i : Nat) (L : Value) (ps : List PartR) (O : Nat → Nat → Res) (R0 : Res) (v3 v4 : Value) (wr : World) : Prop :=
  ∃ (k3 : Int) (q : Nat) (L4 : Value) (qs : List PartR) (ks : List Int) (c : Int) (a : Nat), v3 = .int .i64 k3 ∧ 0 < ks.length ∧ ks.length ≤ q + 1 ∧ q ≤ s.size ∧ i ≤ q ∧ St w s b d q L L4 v4 ps qs ks c a wr ∧
    ((c = 0 ∧ a = 0 ∧ ks.length ≤ q ∧ qs.length + 1 ≤ 3 * (q - i) ∧ ∃ (kf : Nat) (ms : List Sense) (kn : List Nat), ks = kn.map Int.ofNat ∧ kn.length = ms.length ∧ (∀ e, e < ms.length → Means (ps ++ qs) (kn.getD e 0) (ms.getD e noneS)) ∧ s.size - q < kf ∧ R0 = eitherL s O d kf ms q) ∨
     (c ≠ 0 ∧ q = a ∧ qs.length ≤ 3 * (q - i) + 1 ∧ R0 = .bad c q))

theorem WholeRel.start {w w4 : World} {s : ByteArray} {b d i : Nat} {L : Value} {ps : List PartR} {O : Nat → Nat → Res} (hadv : Adv s O) (hi : i ≤ s.size) (hb : b < w.heap.size) {e : Ending} (h : RGives s b d i w L ps 1 1 (O i d) e w4) :
    ∃ k3 : Int, e = .returned (.int .i64 k3) ∧ WholeRel w s b d i L ps O (eitherS s O i d) (.int .i64 k3) (.slice (some ⟨w4.heap.size, 0, none⟩) 1 1) (w4.alloc (.cells #[.int .i64 k3] 3)) := by
  obtain ⟨k, L4, qs, q, c, a, he, hF, hP, hN, hR, hcase⟩ := h.flat
  refine ⟨k, he, ?_⟩
  have st := St.start (k := k) hF hP hN hR hb
  rcases hcase with ⟨m, hO, rfl, rfl, ⟨kk, rfl, hM⟩, hq⟩ | ⟨hO, hc, rfl, h1, h2, hq⟩
  · have := hadv _ _ _ _ hO
    refine ⟨kk, q, L4, qs, _, 0, 0, rfl, by simp, by simp, by omega, by omega, st, .inl ⟨rfl, rfl, by simp; omega, hq, s.size + 1, [m], [kk], rfl, rfl, ?_, by omega, by unfold eitherS; rw [hO]⟩⟩
    intro e he
    have : e = 0 := by simpa using he
    subst this
    simpa using hM
  · exact ⟨k, q, L4, qs, _, c, q, rfl, by simp, by simp, h2, h1, st, .inr ⟨hc, rfl, hq, by unfold eitherS; rw [hO]⟩⟩

theorem WholeRel.next {w w5 w6 w7 : World} {s : ByteArray} {b d i : Nat} {L L4 : Value} {ps qs : List PartR} {O : Nat → Nat → Res} {R0 : Res} {q g cap g7 cap7 : Nat} {ks : List Int} {ms : List Sense} {kn : List Nat} {kf : Nat} (hadv : Adv s O)
    (st : St w s b d (q + 1) L L4 (.slice (some ⟨g, 0, none⟩) ks.length cap) ps qs ks 0 0 w5) (hlt : q < s.size) (hiq : i ≤ q) (hks0 : 0 < ks.length) (hks : ks.length ≤ q) (hq : qs.length + 1 ≤ 3 * (q - i)) (hkn : ks = kn.map Int.ofNat) (hl : kn.length = ms.length)
    (hM : ∀ e, e < ms.length → Means (ps ++ qs) (kn.getD e 0) (ms.getD e noneS)) (hkf : s.size - q < kf + 1) (hb : byteAt s q = 43) (hR0 : R0 = eitherL s O d (kf + 1) ms q) {k : Int} {e : Ending} (h : RGives s b d (q + 1) w5 L4 (ps ++ qs) 1 1 (O (q + 1) d) e w6) (he : e = .returned (.int .i64 k))
    (ho : w7.ownsRow w.heap.size 3 1 (.slice (some ⟨g7, 0, none⟩) (ks.length + 1) cap7) (ks.length + 1) (ks.map (Value.int .i64) ++ [Value.int .i64 k])) (hg : (w6.alloc (.cells #[.int .i64 k] 3)).grownBy w7 (some g)) (hat : g = g7 ∨ g7 = w6.heap.size + 1) :
    WholeRel w s b d i L ps O R0 (.int .i64 k) (.slice (some ⟨g7, 0, none⟩) (ks.length + 1) cap7) w7 ∧ leftOf w7 b s.size < s.size + 1 - q := by
  obtain ⟨k', L5, qs', q', c', a', he', hF, hP, hN, hR, hcase⟩ := h.flat
  obtain rfl : k = k' := by rw [he] at he'; simpa using he'
  have st6 := st.call hF hP hN hR
  have hat' : (Value.slice (some ⟨g7, 0, none⟩) (ks.length + 1) cap7).ownBlock = (Value.slice (some ⟨g, 0, none⟩) ks.length cap).ownBlock ∨ (Value.slice (some ⟨g7, 0, none⟩) (ks.length + 1) cap7).ownBlock = some (w6.heap.size + 1) := by
    rcases hat with e | e
    · exact .inl (by rw [e]; rfl)
    · exact .inr (by rw [e]; rfl)
  have st7 := st6.push hks0 ho hg hat'
  rcases hcase with ⟨m, hO, rfl, rfl, ⟨kk, rfl, hMm⟩, hq'⟩ | ⟨hO, hc, rfl, h1, h2, hq'⟩
  · have := hadv _ _ _ _ hO
    refine ⟨⟨kk, q', L5, qs ++ qs', ks ++ [(kk : Int)], 0, 0, rfl, by simp, by simp; omega, by omega, by omega, by simpa using st7, .inl ⟨rfl, rfl, by simp; omega, by simp; omega, kf, ms ++ [m], kn ++ [kk], by simp [hkn], by simp [hl], ?_, by omega, by rw [hR0, eitherL, if_pos hb, hO]⟩⟩, by rw [st7.rd.left]; omega⟩
    intro e he
    rw [← List.append_assoc]
    by_cases hlt : e < ms.length
    · have e1 : (kn ++ [kk]).getD e 0 = kn.getD e 0 := by simp [List.getD, List.getElem?_append_left (show e < kn.length by omega)]
      have e2 : (ms ++ [m]).getD e noneS = ms.getD e noneS := by simp [List.getD, List.getElem?_append_left hlt]
      rw [e1, e2]
      exact (hM e hlt).mono
    · have hee : e = ms.length := by simp at he; omega
      subst hee
      have e1 : (kn ++ [kk]).getD ms.length 0 = kk := by simp [List.getD, ← hl]
      have e2 : (ms ++ [m]).getD ms.length noneS = m := by simp [List.getD]
      rw [e1, e2]
      exact hMm
  · exact ⟨⟨k, q', L5, qs ++ qs', ks ++ [k], c', q', rfl, by simp, by simp; omega, h2, by omega, by simpa using st7, .inr ⟨hc, rfl, by simp; omega, by rw [hR0, eitherL, if_pos hb, hO]⟩⟩, by rw [st7.rd.left_bad hc]; omega⟩

set_option maxHeartbeats 3200000 in
theorem rwhole_does (s : ByteArray) (O : Nat → Nat → Res) (n : Nat) (hs : s.size ≤ 4000) (hadv : Adv s O) (hO : RDoes 21 s O 1 1 n) : RDoes 12 s (eitherS s O) 0 2 n := by
  intro i d b w L ps hi hn hd hps h hp
  have HO : Hid (∀ (i : Nat) (w : World) (L : Value) (ps : List PartR), i ≤ s.size → s.size - i < n → ps.length ≤ 3 * i → RRd w b s i d L 0 0 → Parts w b L ps → Calls Tryd.prog 21 #[.pointer (some ⟨b, 0, none⟩)] w (RGives s b d i w L ps 1 1 (O i d))) := fun i w L ps h1 h2 h3 h4 h5 => hO i d b w L ps h1 h2 hd h3 h4 h5
  have H0 : Hid (Calls Tryd.prog 21 #[.pointer (some ⟨b, 0, none⟩)] w (RGives s b d i w L ps 1 1 (O i d))) := hO i d b w L ps hi hn hd hps h hp
  have HB : Hid (b < w.heap.size) := h.lt
  clear h hp hO
  obtain ⟨i0, hi0, hz0, hz1, hz2⟩ := info_parts Tryd.info3
  have HS : Hid (∀ (e : Ending) (w4 : World), RGives s b d i w L ps 1 1 (O i d) e w4 → ∃ k3 : Int, e = .returned (.int .i64 k3) ∧ WholeRel w s b d i L ps O (eitherS s O i d) (.int .i64 k3) (.slice (some ⟨w4.heap.size, 0, none⟩) 1 1) (w4.alloc (.cells #[.int .i64 k3] 3))) := fun e w4 h => WholeRel.start hadv hi HB.out h
  generalize eitherS s O i d = R0 at *
  go_enter Tryd.func12, Tryd.ntmps12
  go_wp2_with fail
  refine H0.out.mono ?_
  intro e w4 hg4
  obtain ⟨k3, rfl, hrel0⟩ := HS.out e w4 hg4
  have HR0 : Hid (WholeRel w s b d i L ps O R0 (.int .i64 k3) (.slice (some ⟨w4.heap.size, 0, none⟩) 1 1) (w4.alloc (.cells #[.int .i64 k3] 3))) := hrel0
  clear hg4 hrel0 HS H0
  go_wp2_with fail
  go_loopw [3, 4] (fun v3 v4 wr => WholeRel w s b d i L ps O R0 v3 v4 wr) (fun _ _ wr => leftOf wr b s.size)
  case atStart => exact HR0.out
  case round =>
    clear HR0
    obtain ⟨k3, q, L4, qs, ks, c, a, rfl, hks0, hks1, hq1, hiq, st, hcase⟩ := hrel
    obtain ⟨g, cap, rfl, hg0, hglt⟩ := st.own.form hks0
    have S4 : Hid (St w s b d q L L4 (.slice (some ⟨g, 0, none⟩) ks.length cap) ps qs ks c a wr) := st
    clear st
    rcases hcase with ⟨rfl, rfl, hksq, hq, kf, ms, kn, hkn, hl, hM, hkf, hR0⟩ | ⟨hc0, rfl, hq, hR0⟩
    · have HM : Hid (∀ e, e < ms.length → Means (ps ++ qs) (kn.getD e 0) (ms.getD e noneS)) := hM
      have HKN : Hid (ks = kn.map Int.ofNat) := hkn
      have HRR : Hid (R0 = eitherL s O d kf ms q) := hR0
      have HLL : Hid (kn.length = ms.length) := hl
      have PL : leftOf wr b s.size = s.size + 1 - q := S4.out.rd.left _
      clear hM hkn hR0 hl
      obtain ⟨kf', rfl⟩ : ∃ kf', kf = kf' + 1 := ⟨kf - 1, by omega⟩
      by_cases hb : byteAt s q = 43
      · have hql : q < s.size := byte_lt hb (by omega)
        go_wp2_with fail
        refine (now_any s b q d L4 0 0 _ hs hq1 S4.out.rd).mono ?_
        rintro e w5 ⟨rfl, hg5⟩
        have S5 : Hid (St w s b d q L L4 (.slice (some ⟨g, 0, none⟩) ks.length cap) ps qs ks 0 0 w5) := S4.out.quiet hg5
        clear S4 hg5
        rw [hb]
        go_wp2_with fail
        refine (ok_any s b q d L4 0 0 _ S5.out.rd).mono ?_
        rintro e w6 ⟨rfl, hw6⟩
        obtain rfl : w5 = w6 := hw6.symm
        have c1 := S5.out.rd.c1
        have f1 := S5.out.rd.f 1
        have S6 : Hid (St w s b d (q + 1) L L4 (.slice (some ⟨g, 0, none⟩) ks.length cap) ps qs ks 0 0 (w5.setCell ⟨b, 1, none⟩ (.int .i64 ((q : Int) + 1)))) := S5.out.set1 (q + 1) (by omega)
        clear S5
        go_wp2_with fail
        clear c1 f1
        refine (HO.out (q + 1) _ L4 (ps ++ qs) (by omega) (by omega) (by simp; omega) S6.out.rd S6.out.parts).mono ?_
        intro e w7 hg7
        obtain ⟨k7, he7⟩ : ∃ k : Int, e = .returned (.int .i64 k) := by obtain ⟨k, _, _, _, _, _, he, _⟩ := hg7.flat; exact ⟨k, he⟩
        subst he7
        have G7 : Hid (RGives s b d (q + 1) (w5.setCell ⟨b, 1, none⟩ (.int .i64 ((q : Int) + 1))) L4 (ps ++ qs) 1 1 (O (q + 1) d) (.returned (.int .i64 k7)) w7) := hg7
        have O7 : Hid ((w7.alloc (.cells #[.int .i64 k7] 3)).ownsRow w.heap.size 3 1 (.slice (some ⟨g, 0, none⟩) ks.length cap) ks.length (ks.map (Value.int .i64))) := by
          obtain ⟨k', L5, qs', q', c', a', he', hF, hP, hN, hR, hcase⟩ := hg7.flat
          exact (S6.out.call hF hP hN hR).own.alloc _
        have Z7 : Hid (w.heap.size ≤ w7.heap.size) := by
          obtain ⟨k', L5, qs', q', c', a', he', hF, hP, hN, hR, hcase⟩ := hg7.flat
          exact Nat.le_trans S6.out.fr.size hF.size
        clear hg7
        go_wp2_with (first | (at_builtin; refine wpList_append_lies _ rfl (.tmp 30) (.tmp 32) 22 rfl w.heap.size 3 i0 (.int .i64 0) 1 8 Tryd.underlying22 hi0 hz0 hz1 hz2 rfl (by decide) (.slice (some ⟨g, 0, none⟩) ks.length cap) ks.length _ rfl O7.out ⟨w7.heap.size, 0, none⟩ 1 1 [.int .i64 k7] rfl rfl (cell_one_new _ _ _) (by intro u hu; simp at hu; subst hu; rfl) (by omega) (by unfold maxLen; omega) (by omega) (by have := Z7.out; simp; omega) (w7.heap.size + 1) (by simp) ?_; intro g8 cap8 w8 ho8 hg8 hat8 _))
        have E8 := WholeRel.next hadv S6.out hql hiq hks0 hksq hq HKN.out HLL.out HM.out hkf hb HRR.out G7.out rfl ho8 hg8 (hat8.imp (fun e => by simpa [Value.ownBlock] using e) id)
        have HE8 : Hid (WholeRel w s b d i L ps O R0 (.int .i64 k7) (.slice (some ⟨g8, 0, none⟩) (ks.length + 1) cap8) w8 ∧ leftOf w8 b s.size < s.size + 1 - q) := E8
        clear E8 ho8 hg8 hat8 O7 G7 S6 Z7
        go_wp2_with fail
        go_roundw
        case rel => exact HE8.out.1
        case measure => rw [PL]; exact HE8.out.2
      · have hfin : R0 = .good (eitherOf ms) q := by rw [HRR.out, eitherL, if_neg hb]
        have HF : Hid (R0 = .good (eitherOf ms) q) := hfin
        clear hfin HRR
        have hb' : ((byteAt s q : Int) == 43) = false := by simp; omega
        go_wp2_with fail
        refine (now_any s b q d L4 0 0 _ hs hq1 S4.out.rd).mono ?_
        rintro e w5 ⟨rfl, hg5⟩
        have S5 : Hid (St w s b d q L L4 (.slice (some ⟨g, 0, none⟩) ks.length cap) ps qs ks 0 0 w5) := S4.out.quiet hg5
        clear S4 hg5
        go_wp2_with fail
        refine (ok_any s b q d L4 0 0 _ S5.out.rd).mono ?_
        rintro e w6 ⟨rfl, hw6⟩
        obtain rfl : w5 = w6 := hw6.symm
        go_wp2_with fail
        refine (put_any s b q d L4 0 0 _ (ps ++ qs) ⟨3, 0, .slice (some ⟨g, 0, none⟩) ks.length cap, ks⟩ (by simp; omega) S5.out.rd S5.out.parts (S5.out.kidsAt hks0 3).1).mono ?_
        rintro e w9 ⟨rfl, L9, hR9, hP9, hF9⟩
        have D9 := S5.out.done hks0 hF9 hP9
        have E : Hid (RGives s b d i w L ps 0 2 (.good (eitherOf ms) q) (.returned (.int .i64 (ps ++ qs).length)) w9) := by
          refine ⟨L9, _, D9.1, D9.2.1, D9.2.2, (ps ++ qs).length, by simp; omega, rfl, by simp, hR9, ?_, by simp; omega⟩
          rw [← List.append_assoc]
          exact .either _ ⟨3, 0, .slice (some ⟨g, 0, none⟩) ks.length cap, ks⟩ kn ms (by simp) rfl (by have h1 := HLL.out; have h2 := congrArg List.length HKN.out; simp at h2; omega) HKN.out HLL.out (fun e he => (HM.out e he).mono)
        clear hR9 hP9 hF9 D9 S5 HM HKN HLL
        generalize (ps ++ qs).length = kl at *
        go_wp2_with fail
        go_ret
        rw [HF.out]
        exact E.out
    · have HF : Hid (R0 = .bad c q) := hR0
      have hc0' : (c == 0) = false := by simpa using hc0
      clear hR0
      go_wp2_with fail
      refine (now_any s b q d L4 c q _ hs hq1 S4.out.rd).mono ?_
      rintro e w5 ⟨rfl, hg5⟩
      have S5 : Hid (St w s b d q L L4 (.slice (some ⟨g, 0, none⟩) ks.length cap) ps qs ks c q w5) := S4.out.quiet hg5
      clear S4 hg5
      go_wp2_with fail
      refine (ok_any s b q d L4 c q _ S5.out.rd).mono ?_
      rintro e w6 ⟨rfl, hw6⟩
      obtain rfl : w5 = w6 := hw6.symm
      rw [hc0']
      go_wp2_with fail
      refine (put_any s b q d L4 c q _ (ps ++ qs) ⟨3, 0, .slice (some ⟨g, 0, none⟩) ks.length cap, ks⟩ (by simp; omega) S5.out.rd S5.out.parts (S5.out.kidsAt hks0 3).1).mono ?_
      rintro e w9 ⟨rfl, L9, hR9, hP9, hF9⟩
      have D9 := S5.out.done hks0 hF9 hP9
      have E : Hid (RGives s b d i w L ps 0 2 (.bad c q) (.returned (.int .i64 (ps ++ qs).length)) w9) := ⟨L9, _, D9.1, D9.2.1, D9.2.2, ⟨_, rfl⟩, hR9, hc0, hiq, hq1, by simp; omega⟩
      clear hR9 hP9 hF9 D9 S5
      generalize (ps ++ qs).length = kl at *
      go_wp2_with fail
      go_ret
      rw [HF.out]
      exact E.out

theorem rwhole_all (s : ByteArray) (hs : s.size ≤ 4000) : ∀ n, RDoes 12 s (wholeF s n) 0 2 n
  | 0 => fun i d b w L ps _ h => by omega
  | n + 1 => rwhole_does s _ (n + 1) hs (adv_rowF n) (rrow_does s _ (n + 1) hs (adv_oneF n) (rone_does s _ (n + 1) hs (adv_partF n) (rpart_does s _ n hs (adv_whole n) (rwhole_all s hs n))))

end Go.Proofs.YtepldeogcoigkaaDoor
