/- A text, as the reference reads it. -/
/- How the reference reads a whole text. -/
import Derived.Test.YticmfgclkepgoaaRr2
import Derived.BigRegion
namespace Go.Proofs.Yticmfgclkepgoaa
open Go.RowKit
set_option linter.unusedVariables false


/-- What holds at each round's head. -/
def WholeRel (w : World) (s : ByteArray) (b d i : Nat) (L : Value) (ps : List PartR) (O : Nat → Nat → Res) (R0 : Res) (v3 v4 : Value) (wr : World) : Prop :=
  ∃ (k3 : Int) (q : Nat) (L4 : Value) (qs : List PartR) (ks : List Int) (c : Int) (a : Nat), v3 = .int .i64 k3 ∧ 0 < ks.length ∧ ks.length ≤ q + 1 ∧ q ≤ s.size ∧ i ≤ q ∧ St w s b d q L L4 v4 ps qs ks c a wr ∧
    ((c = 0 ∧ a = 0 ∧ ks.length ≤ q ∧ qs.length + 1 ≤ 3 * (q - i) ∧ ∃ (kf : Nat) (ms : List Sense) (kn : List Nat), ks = kn.map Int.ofNat ∧ kn.length = ms.length ∧ (KM (ps ++ qs) ps.length kn ms) ∧ s.size - q < kf ∧ R0 = eitherL s O d kf ms q) ∨
     (c ≠ 0 ∧ q = a ∧ qs.length ≤ 3 * (q - i) + 1 ∧ R0 = .bad c q))

theorem WholeRel.start {w w4 : World} {s : ByteArray} {b d i : Nat} {L : Value} {ps : List PartR} {O : Nat → Nat → Res} (hadv : Adv s O) (hi : i ≤ s.size) (hb : b < w.heap.size) {e : Ending} (h : RGives s b d i w L ps 1 1 (O i d) e w4) :
    ∃ k3 : Int, e = .returned (.int .i64 k3) ∧ WholeRel w s b d i L ps O (eitherS s O i d) (.int .i64 k3) (.slice (some ⟨w4.heap.size, 0, none⟩) 1 1) (w4.alloc (.cells #[.int .i64 k3] 3)) := by
  obtain ⟨k, L4, qs, q, c, a, he, hF, hP, hN, hR, hcase⟩ := h.flat
  refine ⟨k, he, ?_⟩
  have st := St.start (k := k) hF hP hN hR hb
  rcases hcase with ⟨m, hO, rfl, rfl, ⟨kk, rfl, hM, hk1⟩, hq⟩ | ⟨hO, hc, rfl, h1, h2, hq⟩
  · have := hadv _ _ _ _ hO
    refine ⟨kk, q, L4, qs, _, 0, 0, rfl, by simp, by simp, by omega, by omega, st, .inl ⟨rfl, rfl, by simp; omega, hq, s.size + 1, [m], [kk], rfl, rfl, ?_, by omega, by unfold eitherS; rw [hO]⟩⟩
    exact KM.one hM (by simpa using hk1)
  · exact ⟨k, q, L4, qs, _, c, q, rfl, by simp, by simp, h2, h1, st, .inr ⟨hc, rfl, hq, by unfold eitherS; rw [hO]⟩⟩

theorem WholeRel.next {w w5 w6 w7 : World} {s : ByteArray} {b d i : Nat} {L L4 : Value} {ps qs : List PartR} {O : Nat → Nat → Res} {R0 : Res} {q g cap g7 cap7 : Nat} {ks : List Int} {ms : List Sense} {kn : List Nat} {kf : Nat} (hadv : Adv s O)
    (st : St w s b d (q + 1) L L4 (.slice (some ⟨g, 0, none⟩) ks.length cap) ps qs ks 0 0 w5) (hlt : q < s.size) (hiq : i ≤ q) (hks0 : 0 < ks.length) (hks : ks.length ≤ q) (hq : qs.length + 1 ≤ 3 * (q - i)) (hkn : ks = kn.map Int.ofNat) (hl : kn.length = ms.length)
    (hM : KM (ps ++ qs) ps.length kn ms) (hkf : s.size - q < kf + 1) (hb : byteAt s q = 43) (hR0 : R0 = eitherL s O d (kf + 1) ms q) {k : Int} {e : Ending} (h : RGives s b d (q + 1) w5 L4 (ps ++ qs) 1 1 (O (q + 1) d) e w6) (he : e = .returned (.int .i64 k))
    (ho : w7.ownsRow w.heap.size 3 1 (.slice (some ⟨g7, 0, none⟩) (ks.length + 1) cap7) (ks.length + 1) (ks.map (Value.int .i64) ++ [Value.int .i64 k])) (hg : (w6.alloc (.cells #[.int .i64 k] 3)).grownBy w7 (some g)) (hat : g = g7 ∨ g7 = w6.heap.size + 1) :
    WholeRel w s b d i L ps O R0 (.int .i64 k) (.slice (some ⟨g7, 0, none⟩) (ks.length + 1) cap7) w7 ∧ leftOf w7 b s.size < s.size + 1 - q := by
  obtain ⟨k', L5, qs', q', c', a', he', hF, hP, hN, hR, hcase⟩ := h.flat
  obtain rfl : k = k' := by rw [he] at he'; simpa using he'
  have st6 := st.call hF hP hN hR
  have hat' : (Value.slice (some ⟨g7, 0, none⟩) (ks.length + 1) cap7).ownBlock = (Value.slice (some ⟨g, 0, none⟩) ks.length cap).ownBlock ∨ (Value.slice (some ⟨g7, 0, none⟩) (ks.length + 1) cap7).ownBlock = some (w6.heap.size + 1) := by
    rcases hat with e | e
    · exact .inl (by rw [e]; rfl)
    · exact .inr (by rw [e]; rfl)
  have st7 := st6.push hks0 ho hg hat'
  rcases hcase with ⟨m, hO, rfl, rfl, ⟨kk, rfl, hMm, hk1⟩, hq'⟩ | ⟨hO, hc, rfl, h1, h2, hq'⟩
  · have := hadv _ _ _ _ hO
    refine ⟨⟨kk, q', L5, qs ++ qs', ks ++ [(kk : Int)], 0, 0, rfl, by simp, by simp; omega, by omega, by omega, by simpa using st7, .inl ⟨rfl, rfl, by simp; omega, by simp; omega, kf, ms ++ [m], kn ++ [kk], by simp [hkn], by simp [hl], ?_, by omega, by rw [hR0, eitherL, if_pos hb, hO]⟩⟩, by rw [st7.rd.left]; omega⟩
    rw [← List.append_assoc]
    exact hM.snoc hl hMm (by simp at hk1 ⊢; omega)
  · exact ⟨⟨k, q', L5, qs ++ qs', ks ++ [k], c', q', rfl, by simp, by simp; omega, h2, by omega, by simpa using st7, .inr ⟨hc, rfl, by simp; omega, by rw [hR0, eitherL, if_pos hb, hO]⟩⟩, by rw [st7.rd.left_bad hc]; omega⟩

set_option maxHeartbeats 3200000 in
set_option maxRecDepth 100000 in
theorem rwhole_does (s : ByteArray) (O : Nat → Nat → Res) (n : Nat) (hs : s.size ≤ 4000) (hadv : Adv s O) (hO : RDoes 27 s O 1 1 n) : RDoes 17 s (eitherS s O) 0 2 n := by
  intro i d b w L ps hi hn hd hps h hp
  have HO : Hid (∀ (i : Nat) (w : World) (L : Value) (ps : List PartR), i ≤ s.size → s.size - i < n → ps.length ≤ 3 * i → RRd w b s i d L 0 0 → Parts w b L ps → Calls Try.prog 27 #[.pointer (some ⟨b, 0, none⟩)] w (RGives s b d i w L ps 1 1 (O i d))) := fun i w L ps h1 h2 h3 h4 h5 => hO i d b w L ps h1 h2 hd h3 h4 h5
  have H0 : Hid (Calls Try.prog 27 #[.pointer (some ⟨b, 0, none⟩)] w (RGives s b d i w L ps 1 1 (O i d))) := hO i d b w L ps hi hn hd hps h hp
  have HB : Hid (b < w.heap.size) := h.lt
  clear h hp hO
  obtain ⟨i0, hi0, hz0, hz1, hz2⟩ := info_parts Try.info3
  have HS : Hid (∀ (e : Ending) (w4 : World), RGives s b d i w L ps 1 1 (O i d) e w4 → ∃ k3 : Int, e = .returned (.int .i64 k3) ∧ WholeRel w s b d i L ps O (eitherS s O i d) (.int .i64 k3) (.slice (some ⟨w4.heap.size, 0, none⟩) 1 1) (w4.alloc (.cells #[.int .i64 k3] 3))) := fun e w4 h => WholeRel.start hadv hi HB.out h
  generalize eitherS s O i d = R0 at *
  go_enter Try.func17, Try.ntmps17
  go_wp2_with fail
  refine H0.out.mono ?_
  intro e w4 hg4
  obtain ⟨k3, rfl, hrel0⟩ := HS.out e w4 hg4
  have HR0 : Hid (WholeRel w s b d i L ps O R0 (.int .i64 k3) (.slice (some ⟨w4.heap.size, 0, none⟩) 1 1) (w4.alloc (.cells #[.int .i64 k3] 3))) := hrel0
  clear hg4 hrel0 HS H0
  go_wp2_with fail
  go_loopw [3, 4] (fun v3 v4 wr => WholeRel w s b d i L ps O R0 v3 v4 wr) (fun _ _ wr => leftOf wr b s.size)
  case atStart => exact HR0.out
  case round =>
    clear HR0
    obtain ⟨k3, q, L4, qs, ks, c, a, rfl, hks0, hks1, hq1, hiq, st, hcase⟩ := hrel
    obtain ⟨g, cap, rfl, hg0, hglt⟩ := st.own.form hks0
    have S4 : Hid (St w s b d q L L4 (.slice (some ⟨g, 0, none⟩) ks.length cap) ps qs ks c a wr) := st
    clear st
    rcases hcase with ⟨rfl, rfl, hksq, hq, kf, ms, kn, hkn, hl, hM, hkf, hR0⟩ | ⟨hc0, rfl, hq, hR0⟩
    · have HM : Hid (KM (ps ++ qs) ps.length kn ms) := hM
      have HKN : Hid (ks = kn.map Int.ofNat) := hkn
      have HRR : Hid (R0 = eitherL s O d kf ms q) := hR0
      have HLL : Hid (kn.length = ms.length) := hl
      have PL : leftOf wr b s.size = s.size + 1 - q := S4.out.rd.left _
      clear hM hkn hR0 hl
      obtain ⟨kf', rfl⟩ : ∃ kf', kf = kf' + 1 := ⟨kf - 1, by omega⟩
      by_cases hb : byteAt s q = 43
      · have hql : q < s.size := byte_lt hb (by omega)
        go_wp2_with fail
        refine (now_any s b q d L4 0 0 _ hs hq1 S4.out.rd).mono ?_
        rintro e w5 ⟨rfl, hg5⟩
        have S5 : Hid (St w s b d q L L4 (.slice (some ⟨g, 0, none⟩) ks.length cap) ps qs ks 0 0 w5) := S4.out.quiet hg5
        clear S4 hg5
        rw [hb]
        go_wp2_with fail
        refine (ok_any s b q d L4 0 0 _ S5.out.rd).mono ?_
        rintro e w6 ⟨rfl, hw6⟩
        obtain rfl : w5 = w6 := hw6.symm
        have c1 := S5.out.rd.c1
        have f1 := S5.out.rd.f 1
        have S6 : Hid (St w s b d (q + 1) L L4 (.slice (some ⟨g, 0, none⟩) ks.length cap) ps qs ks 0 0 (w5.setCell ⟨b, 1, none⟩ (.int .i64 ((q : Int) + 1)))) := S5.out.set1 (q + 1) (by omega)
        clear S5
        go_wp2_with fail
        clear c1 f1
        refine (HO.out (q + 1) _ L4 (ps ++ qs) (by omega) (by omega) (by simp; omega) S6.out.rd S6.out.parts).mono ?_
        intro e w7 hg7
        obtain ⟨k7, he7⟩ : ∃ k : Int, e = .returned (.int .i64 k) := by obtain ⟨k, _, _, _, _, _, he, _⟩ := hg7.flat; exact ⟨k, he⟩
        subst he7
        have G7 : Hid (RGives s b d (q + 1) (w5.setCell ⟨b, 1, none⟩ (.int .i64 ((q : Int) + 1))) L4 (ps ++ qs) 1 1 (O (q + 1) d) (.returned (.int .i64 k7)) w7) := hg7
        have O7 : Hid ((w7.alloc (.cells #[.int .i64 k7] 3)).ownsRow w.heap.size 3 1 (.slice (some ⟨g, 0, none⟩) ks.length cap) ks.length (ks.map (Value.int .i64))) := by
          obtain ⟨k', L5, qs', q', c', a', he', hF, hP, hN, hR, hcase⟩ := hg7.flat
          exact (S6.out.call hF hP hN hR).own.alloc _
        have Z7 : Hid (w.heap.size ≤ w7.heap.size) := by
          obtain ⟨k', L5, qs', q', c', a', he', hF, hP, hN, hR, hcase⟩ := hg7.flat
          exact Nat.le_trans S6.out.fr.size hF.size
        clear hg7
        go_wp2_with (first | (at_builtin; refine wpList_append_lies _ rfl (.tmp 30) (.tmp 32) 23 rfl w.heap.size 3 i0 (.int .i64 0) 1 8 Try.underlying23 hi0 hz0 hz1 hz2 rfl (by decide) (.slice (some ⟨g, 0, none⟩) ks.length cap) ks.length _ rfl O7.out ⟨w7.heap.size, 0, none⟩ 1 1 [.int .i64 k7] rfl rfl (cell_one_new _ _ _) (by intro u hu; simp at hu; subst hu; rfl) (by omega) (by unfold maxLen; omega) (by omega) (by have := Z7.out; simp; omega) (w7.heap.size + 1) (by simp) ?_; intro g8 cap8 w8 ho8 hg8 hat8 _))
        have E8 := WholeRel.next hadv S6.out hql hiq hks0 hksq hq HKN.out HLL.out HM.out hkf hb HRR.out G7.out rfl ho8 hg8 (hat8.imp (fun e => by simpa [Value.ownBlock] using e) id)
        have HE8 : Hid (WholeRel w s b d i L ps O R0 (.int .i64 k7) (.slice (some ⟨g8, 0, none⟩) (ks.length + 1) cap8) w8 ∧ leftOf w8 b s.size < s.size + 1 - q) := E8
        clear E8 ho8 hg8 hat8 O7 G7 S6 Z7
        go_wp2_with fail
        go_roundw
        case rel => exact HE8.out.1
        case measure => rw [PL]; exact HE8.out.2
      · have hfin : R0 = .good (eitherOf ms) q := by rw [HRR.out, eitherL, if_neg hb]
        have HF : Hid (R0 = .good (eitherOf ms) q) := hfin
        clear hfin HRR
        have hb' : ((byteAt s q : Int) == 43) = false := by simp; omega
        go_wp2_with fail
        refine (now_any s b q d L4 0 0 _ hs hq1 S4.out.rd).mono ?_
        rintro e w5 ⟨rfl, hg5⟩
        have S5 : Hid (St w s b d q L L4 (.slice (some ⟨g, 0, none⟩) ks.length cap) ps qs ks 0 0 w5) := S4.out.quiet hg5
        clear S4 hg5
        go_wp2_with fail
        refine (ok_any s b q d L4 0 0 _ S5.out.rd).mono ?_
        rintro e w6 ⟨rfl, hw6⟩
        obtain rfl : w5 = w6 := hw6.symm
        go_wp2_with fail
        refine (put_any s b q d L4 0 0 _ (ps ++ qs) ⟨3, 0, .slice (some ⟨g, 0, none⟩) ks.length cap, ks⟩ (by simp; omega) S5.out.rd S5.out.parts (S5.out.kidsAt hks0 3).1).mono ?_
        rintro e w9 ⟨rfl, L9, hR9, hP9, hF9⟩
        have D9 := S5.out.done hks0 hF9 hP9
        have E : Hid (RGives s b d i w L ps 0 2 (.good (eitherOf ms) q) (.returned (.int .i64 (ps ++ qs).length)) w9) := by
          refine ⟨L9, _, D9.1, D9.2.1, D9.2.2, (ps ++ qs).length, by simp; omega, rfl, by simp, hR9, ?_, by simp; omega⟩
          rw [← List.append_assoc]
          exact .either _ _ ⟨3, 0, .slice (some ⟨g, 0, none⟩) ks.length cap, ks⟩ kn ms (by simp) rfl (by have h1 := HLL.out; have h2 := congrArg List.length HKN.out; simp at h2; omega) HKN.out HLL.out (fun e he => (HM.out.1 e he).mono) (by have := HM.out.2; simpa using this)
        clear hR9 hP9 hF9 D9 S5 HM HKN HLL
        generalize (ps ++ qs).length = kl at *
        go_wp2_with fail
        go_ret
        rw [HF.out]
        exact E.out
    · have HF : Hid (R0 = .bad c q) := hR0
      have hc0' : (c == 0) = false := by simpa using hc0
      clear hR0
      go_wp2_with fail
      refine (now_any s b q d L4 c q _ hs hq1 S4.out.rd).mono ?_
      rintro e w5 ⟨rfl, hg5⟩
      have S5 : Hid (St w s b d q L L4 (.slice (some ⟨g, 0, none⟩) ks.length cap) ps qs ks c q w5) := S4.out.quiet hg5
      clear S4 hg5
      go_wp2_with fail
      refine (ok_any s b q d L4 c q _ S5.out.rd).mono ?_
      rintro e w6 ⟨rfl, hw6⟩
      obtain rfl : w5 = w6 := hw6.symm
      rw [hc0']
      go_wp2_with fail
      refine (put_any s b q d L4 c q _ (ps ++ qs) ⟨3, 0, .slice (some ⟨g, 0, none⟩) ks.length cap, ks⟩ (by simp; omega) S5.out.rd S5.out.parts (S5.out.kidsAt hks0 3).1).mono ?_
      rintro e w9 ⟨rfl, L9, hR9, hP9, hF9⟩
      have D9 := S5.out.done hks0 hF9 hP9
      have E : Hid (RGives s b d i w L ps 0 2 (.bad c q) (.returned (.int .i64 (ps ++ qs).length)) w9) := ⟨L9, _, D9.1, D9.2.1, D9.2.2, ⟨_, rfl⟩, hR9, hc0, hiq, hq1, by simp; omega⟩
      clear hR9 hP9 hF9 D9 S5
      generalize (ps ++ qs).length = kl at *
      go_wp2_with fail
      go_ret
      rw [HF.out]
      exact E.out

theorem rwhole_all (s : ByteArray) (hs : s.size ≤ 4000) : ∀ n, RDoes 17 s (wholeF s n) 0 2 n
  | 0 => fun i d b w L ps _ h => by omega
  | n + 1 => rwhole_does s _ (n + 1) hs (adv_rowF n) (rrow_does s _ (n + 1) hs (adv_oneF n) (rone_does s _ (n + 1) hs (adv_partF n) (rpart_does s _ n hs (adv_whole n) (rwhole_all s hs n))))

end Go.Proofs.Yticmfgclkepgoaa

namespace Go.Proofs.Yticmfgclkepgoaa
open Go.RowKit
set_option linter.unusedVariables false

/-- What the reference's reading of a text leaves behind. -/
def RParsed (w : World) (R : Res) (e : Ending) (w' : World) : Prop :=
  Below w.heap.size w w' ∧ match R with
  | .good m j => ∃ (L : Value) (ps : List PartR) (b k : Nat), e = .returned (.tuple #[L, .agg #[.int .i64 0, .int .i64 0]]) ∧ w.heap.size ≤ b ∧ Parts w' b L ps ∧ k + 1 = ps.length ∧ Means ps 0 k m ∧ ps.length ≤ 13000
  | .bad c j => e = .returned (.tuple #[.slice none 0 0, .agg #[.int .i64 c, .int .i64 j]])

set_option maxHeartbeats 1600000 in
theorem rparse_any (s : ByteArray) (w : World) (hm : s.size ≤ maxLen) : Calls Try.prog 8 #[.string s] w (RParsed w (parseR s)) := by
  unfold maxLen at hm
  by_cases hs : 4000 < s.size
  · have hs' : (4000 : Int) < (s.size : Int) := by omega
    have hR : parseR s = .bad 1 0 := by simp [parseR, hs]
    rw [hR]
    go_enter Try.func8, Try.ntmps8
    go_wp2
    refine bodyPost_ret (v := .tuple #[.slice none 0 0, .agg #[.int .i64 1, .int .i64 0]]) (by simp [results, Try.results8, go_sem]) rfl ⟨(Below.refl _ _).alloc (Nat.le_refl _) _, rfl⟩
  · have hs' : ¬ (4000 : Int) < (s.size : Int) := by omega
    have hs4 : s.size ≤ 4000 := by omega
    generalize hW : ((w.alloc (.cells #[.int .i64 0, .int .i64 0] 34)).alloc (.cells #[.string s, .int .i64 0, .int .i64 0, .slice none 0 0, .int .i64 0, .int .i64 0] 48)) = w2
    have HG : Hid (((w.alloc (.cells #[.int .i64 0, .int .i64 0] 34)).alloc (.cells #[.string s, .int .i64 0, .int .i64 0, .slice none 0 0, .int .i64 0, .int .i64 0] 48)) = w2) := hW
    have R0 : Hid (RRd w2 (w.heap.size + 1) s 0 0 (.slice none 0 0) 0 0) := by
      have h1 := heap_alloc_new (w.alloc (.cells #[.int .i64 0, .int .i64 0] 34)) (.cells #[.string s, .int .i64 0, .int .i64 0, .slice none 0 0, .int .i64 0, .int .i64 0] 48)
      have h2 : (w.alloc (.cells #[.int .i64 0, .int .i64 0] 34)).heap.size = w.heap.size + 1 := by simp
      rw [h2, hW] at h1
      exact h1
    have F0 : Hid (w2.heap[w.heap.size]? = some (.cells #[.int .i64 0, .int .i64 0] 34 (0, 0))) := by
      have h1 := Below.heap_alloc (w.alloc (.cells #[.int .i64 0, .int .i64 0] 34)) (.cells #[.string s, .int .i64 0, .int .i64 0, .slice none 0 0, .int .i64 0, .int .i64 0] 48) w.heap.size (by simp)
      rw [hW] at h1
      exact h1.trans (heap_alloc_new w _)
    have B0 : Hid (Below w.heap.size w w2) := by
      show Below _ _ _
      rw [← hW]; exact ((Below.refl _ _).alloc (Nat.le_refl _) _).alloc (by simp) _
    have P0 : Hid (Parts w2 (w.heap.size + 1) (.slice none 0 0) []) := ⟨World.ownsRow_nil _ _ _ _, fun p hp => by simp at hp⟩
    have HW : Hid (Calls Try.prog 17 #[.pointer (some ⟨w.heap.size + 1, 0, none⟩)] w2 (RGives s (w.heap.size + 1) 0 0 w2 (.slice none 0 0) [] 0 2 (wholeF s (s.size + 1) 0 0))) := rwhole_all s hs4 (s.size + 1) 0 0 _ w2 _ [] (by omega) (by omega) (by omega) (by simp) R0.out P0.out
    have hadv := adv_whole (s := s) (s.size + 1) 0 0
    have hpr : parseR s = match wholeF s (s.size + 1) 0 0 with
      | .bad c j => .bad c j
      | .good m j => if j < s.size then .bad 4 j else .good m j := by unfold parseR; rw [if_neg hs]; cases wholeF s (s.size + 1) 0 0 <;> rfl
    rw [hpr]
    clear hs hm hW hpr
    generalize wholeF s (s.size + 1) 0 0 = R at *
    have HX : Hid (∀ (e : Ending) (w3 : World), RGives s (w.heap.size + 1) 0 0 w2 (.slice none 0 0) [] 0 2 R e w3 → ∃ (k : Int) (L : Value) (qs : List PartR) (q : Nat) (c : Int) (a : Nat), e = .returned (.int .i64 k) ∧ w3.heap[w.heap.size]? = some (.cells #[.int .i64 0, .int .i64 0] 34 (0, 0)) ∧ Below w.heap.size w w3 ∧ Parts w3 (w.heap.size + 1) L qs ∧ RRd w3 (w.heap.size + 1) s q 0 L c a ∧ qs.length ≤ 13000 ∧ q ≤ s.size ∧
        ((∃ m, R = .good m q ∧ c = 0 ∧ a = 0 ∧ (∃ kk : Nat, kk + 1 = qs.length ∧ Means qs 0 kk m)) ∨ (R = .bad c q ∧ c ≠ 0 ∧ q = a))) := by
      intro e w3 h
      cases R with
      | good m j =>
        obtain ⟨L', qs, hF, hP, hN, kk, hkk, he, h0, hR, hM, hq⟩ := h
        have := hadv m j rfl
        refine ⟨kk, L', qs, j, 0, 0, he, (hF.block _ (Array.getElem?_eq_some_iff.1 F0.out).1 (by omega) (by simp [Value.ownBlock])).trans F0.out, B0.out.trans (hF.below (by omega) B0.out.size (by simp [Value.ownBlock])), by simpa using hP, hR, by omega, by omega, .inl ⟨m, rfl, rfl, rfl, kk, by simpa using hkk, by simpa using hM⟩⟩
      | bad c j =>
        obtain ⟨L', qs, hF, hP, hN, ⟨k, he⟩, hR, hc, h1, h2, hq⟩ := h
        exact ⟨k, L', qs, j, c, j, he, (hF.block _ (Array.getElem?_eq_some_iff.1 F0.out).1 (by omega) (by simp [Value.ownBlock])).trans F0.out, B0.out.trans (hF.below (by omega) B0.out.size (by simp [Value.ownBlock])), by simpa using hP, hR, by omega, h2, .inr ⟨rfl, hc, rfl⟩⟩
    clear R0 F0 B0 P0 hadv
    go_enter Try.func8, Try.ntmps8
    go_wp2_with fail
    rw [HG.out]
    refine HW.out.mono ?_
    intro e w3 hg3
    obtain ⟨k, L, qs, q, c, a, rfl, hf3, hb3, hp3, hr3, hq3, hqs, hcase⟩ := HX.out e w3 hg3
    have F3 : Hid (w3.heap[w.heap.size]? = some (.cells #[.int .i64 0, .int .i64 0] 34 (0, 0))) := hf3
    have B3 : Hid (Below w.heap.size w w3) := hb3
    have P3 : Hid (Parts w3 (w.heap.size + 1) L qs) := hp3
    have R3 : Hid (RRd w3 (w.heap.size + 1) s q 0 L c a) := hr3
    clear hf3 hb3 hp3 hr3 hg3 HX HW HG
    have c1 := R3.out.c1
    have f1 := R3.out.f 1
    rcases hcase with ⟨m, rfl, rfl, rfl, kk, hkk, hM⟩ | ⟨rfl, hc, rfl⟩
    · by_cases hjl : q < s.size
      · have hjl' : (q : Int) < (s.size : Int) := by omega
        go_wp2_with fail
        refine (fail_first s (w.heap.size + 1) q 0 L 0 4 w3 R3.out).mono ?_
        rintro e w4 ⟨rfl, hg4, hr4⟩
        have B4 : Hid (Below w.heap.size w w4) := B3.out.trans (grown_below hg4 (by omega) B3.out.size)
        have F4 : w4.heap[w.heap.size]? = some (.cells #[.int .i64 0, .int .i64 0] 34 (0, 0)) := (hg4.block _ (Array.getElem?_eq_some_iff.1 F3.out).1 (by simp)).trans F3.out
        have HF4 : Hid (w4.heap[w.heap.size]? = some (.cells #[.int .i64 0, .int .i64 0] 34 (0, 0))) := F4
        have c4 := hr4.c4
        have c5 := hr4.c5
        have f4 := hr4.f 4
        have f5 := hr4.f 5
        have d0 := (two_cells F4).1
        have d1 := (two_cells F4).2.1
        have e0 := (two_cells F4).2.2.1
        have e1 := (two_cells F4).2.2.2
        clear hg4 hr4 F4 c1 f1 R3 P3 F3 B3
        go_wp2_with fail
        go_region
        go_wp2_with fail
        have q0 : ((w4.setCell ⟨w.heap.size, 0, none⟩ (.int .i64 4)).setCell ⟨w.heap.size, 1, none⟩ (.int .i64 (q : Nat))).heap[w.heap.size]? = some (.cells #[.int .i64 4, .int .i64 (q : Nat)] 34 (0, 0)) := by
          rw [heap_setCell_same _ w.heap.size 1 _ 34 _ (heap_setCell_same _ w.heap.size 0 _ 34 _ HF4.out)]; rfl
        have k0 : ((w4.setCell ⟨w.heap.size, 0, none⟩ (.int .i64 4)).setCell ⟨w.heap.size, 1, none⟩ (.int .i64 (q : Nat))).drew.cell? ⟨w.heap.size, 0, none⟩ = some (.int .i64 4) := (two_cells q0).1
        have k1 : ((w4.setCell ⟨w.heap.size, 0, none⟩ (.int .i64 4)).setCell ⟨w.heap.size, 1, none⟩ (.int .i64 (q : Nat))).drew.cell? ⟨w.heap.size, 1, none⟩ = some (.int .i64 (q : Nat)) := (two_cells q0).2.1
        have kB : Below w.heap.size w ((w4.setCell ⟨w.heap.size, 0, none⟩ (.int .i64 4)).setCell ⟨w.heap.size, 1, none⟩ (.int .i64 (q : Nat))).drew := ((B4.out.setCell (Nat.le_refl _) _).setCell (Nat.le_refl _) _).drew
        generalize ((w4.setCell ⟨w.heap.size, 0, none⟩ (.int .i64 4)).setCell ⟨w.heap.size, 1, none⟩ (.int .i64 (q : Nat))).drew = W5 at k0 k1 kB ⊢
        exact bodyPost_ret (v := .tuple #[.slice none 0 0, .agg #[.int .i64 4, .int .i64 q]]) (by simp [results, Try.results8, go_sem, k0, k1]) rfl ⟨kB, rfl⟩
      · have hjl' : ¬ (q : Int) < (s.size : Int) := by omega
        have c3 := R3.out.c3
        have f3 := R3.out.f 3
        have c4 := R3.out.c4
        have f4 := R3.out.f 4
        have d0 := (two_cells F3.out).1
        have d1 := (two_cells F3.out).2.1
        have e0 := (two_cells F3.out).2.2.1
        have e1 := (two_cells F3.out).2.2.2
        have hres : (if q < s.size then Res.bad 4 q else .good m q) = .good m q := if_neg hjl
        have HRES : Hid ((if q < s.size then Res.bad 4 q else .good m q) = .good m q) := hres
        have E : Hid (RParsed w (.good m q) (.returned (.tuple #[L, .agg #[.int .i64 0, .int .i64 0]])) ((w3.setCell ⟨w.heap.size, 0, none⟩ (.int .i64 0)).setCell ⟨w.heap.size, 1, none⟩ (.int .i64 0))) := by
          refine ⟨(B3.out.setCell (Nat.le_refl _) _).setCell (Nat.le_refl _) _, L, qs, w.heap.size + 1, kk, rfl, by omega, ?_, hkk, hM, hq3⟩
          have hg : w3.grownBy ((w3.setCell ⟨w.heap.size, 0, none⟩ (.int .i64 0)).setCell ⟨w.heap.size, 1, none⟩ (.int .i64 0)) (some w.heap.size) := grown_trans (grown_set _ _ _) (grown_set _ _ _)
          refine ⟨P3.out.own.kept hg (.inr fun e => by have := P3.out.block _ e; omega), fun p hp => (P3.out.at_ p hp).kept fun g hg' hlt => ⟨hg', hg.block g hlt (by simp; omega)⟩⟩
        have q0 : ((w3.setCell ⟨w.heap.size, 0, none⟩ (.int .i64 0)).setCell ⟨w.heap.size, 1, none⟩ (.int .i64 0)).heap[w.heap.size]? = some (.cells #[.int .i64 0, .int .i64 0] 34 (0, 0)) := by
          rw [heap_setCell_same _ w.heap.size 1 _ 34 _ (heap_setCell_same _ w.heap.size 0 _ 34 _ F3.out)]; rfl
        have Q0 : Hid _ := q0
        clear hres q0 hM P3 R3 F3 B3
        go_wp2_with fail
        refine bodyPost_ret (v := .tuple #[L, .agg #[.int .i64 0, .int .i64 0]]) (by simp [results, Try.results8, go_sem, (two_cells Q0.out).1, (two_cells Q0.out).2.1]) rfl ?_
        first | exact E.out | (rw [HRES.out]; exact E.out)
    · have c4 := R3.out.c4
      have c5 := R3.out.c5
      have f4 := R3.out.f 4
      have f5 := R3.out.f 5
      have hc' : (c == 0) = false := by simpa using hc
      have d0 := (two_cells F3.out).1
      have d1 := (two_cells F3.out).2.1
      have e0 := (two_cells F3.out).2.2.1
      have e1 := (two_cells F3.out).2.2.2
      by_cases hjl : q < s.size
      · have hjl' : (q : Int) < (s.size : Int) := by omega
        go_wp2_with fail
        refine (fail_again s (w.heap.size + 1) q 0 L c q 4 w3 hc R3.out).mono ?_
        rintro e w4 ⟨rfl, hw4⟩
        obtain rfl : w3 = w4 := hw4.symm
        go_wp2_with fail
        go_region
        go_wp2_with fail
        have q0 : ((w3.setCell ⟨w.heap.size, 0, none⟩ (.int .i64 c)).setCell ⟨w.heap.size, 1, none⟩ (.int .i64 (q : Nat))).heap[w.heap.size]? = some (.cells #[.int .i64 c, .int .i64 (q : Nat)] 34 (0, 0)) := by
          rw [heap_setCell_same _ w.heap.size 1 _ 34 _ (heap_setCell_same _ w.heap.size 0 _ 34 _ F3.out)]; rfl
        have k0 : ((w3.setCell ⟨w.heap.size, 0, none⟩ (.int .i64 c)).setCell ⟨w.heap.size, 1, none⟩ (.int .i64 (q : Nat))).drew.cell? ⟨w.heap.size, 0, none⟩ = some (.int .i64 c) := (two_cells q0).1
        have k1 : ((w3.setCell ⟨w.heap.size, 0, none⟩ (.int .i64 c)).setCell ⟨w.heap.size, 1, none⟩ (.int .i64 (q : Nat))).drew.cell? ⟨w.heap.size, 1, none⟩ = some (.int .i64 (q : Nat)) := (two_cells q0).2.1
        have kB : Below w.heap.size w ((w3.setCell ⟨w.heap.size, 0, none⟩ (.int .i64 c)).setCell ⟨w.heap.size, 1, none⟩ (.int .i64 (q : Nat))).drew := ((B3.out.setCell (Nat.le_refl _) _).setCell (Nat.le_refl _) _).drew
        generalize ((w3.setCell ⟨w.heap.size, 0, none⟩ (.int .i64 c)).setCell ⟨w.heap.size, 1, none⟩ (.int .i64 (q : Nat))).drew = W5 at k0 k1 kB ⊢
        exact bodyPost_ret (v := .tuple #[.slice none 0 0, .agg #[.int .i64 c, .int .i64 q]]) (by simp [results, Try.results8, go_sem, k0, k1]) rfl ⟨kB, rfl⟩
      · have hjl' : ¬ (q : Int) < (s.size : Int) := by omega
        go_wp2_with fail
        go_region
        go_wp2_with fail
        have q0 : ((w3.setCell ⟨w.heap.size, 0, none⟩ (.int .i64 c)).setCell ⟨w.heap.size, 1, none⟩ (.int .i64 (q : Nat))).heap[w.heap.size]? = some (.cells #[.int .i64 c, .int .i64 (q : Nat)] 34 (0, 0)) := by
          rw [heap_setCell_same _ w.heap.size 1 _ 34 _ (heap_setCell_same _ w.heap.size 0 _ 34 _ F3.out)]; rfl
        have k0 : ((w3.setCell ⟨w.heap.size, 0, none⟩ (.int .i64 c)).setCell ⟨w.heap.size, 1, none⟩ (.int .i64 (q : Nat))).drew.cell? ⟨w.heap.size, 0, none⟩ = some (.int .i64 c) := (two_cells q0).1
        have k1 : ((w3.setCell ⟨w.heap.size, 0, none⟩ (.int .i64 c)).setCell ⟨w.heap.size, 1, none⟩ (.int .i64 (q : Nat))).drew.cell? ⟨w.heap.size, 1, none⟩ = some (.int .i64 (q : Nat)) := (two_cells q0).2.1
        have kB : Below w.heap.size w ((w3.setCell ⟨w.heap.size, 0, none⟩ (.int .i64 c)).setCell ⟨w.heap.size, 1, none⟩ (.int .i64 (q : Nat))).drew := ((B3.out.setCell (Nat.le_refl _) _).setCell (Nat.le_refl _) _).drew
        generalize ((w3.setCell ⟨w.heap.size, 0, none⟩ (.int .i64 c)).setCell ⟨w.heap.size, 1, none⟩ (.int .i64 (q : Nat))).drew = W5 at k0 k1 kB ⊢
        exact bodyPost_ret (v := .tuple #[.slice none 0 0, .agg #[.int .i64 c, .int .i64 q]]) (by simp [results, Try.results8, go_sem, k0, k1]) rfl ⟨kB, rfl⟩

end Go.Proofs.Yticmfgclkepgoaa
