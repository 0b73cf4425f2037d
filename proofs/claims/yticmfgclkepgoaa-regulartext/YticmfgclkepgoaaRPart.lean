/- A part of a text, as the reference reads it. -/
import Derived.Test.YticmfgclkepgoaaRr1
namespace Go.Proofs.Yticmfgclkepgoaa
open Go.RowKit
set_option linter.unusedVariables false

/-- Where the kid with the number i begins, of a part whose parts begin at st. -/
def begK (st : Nat) (qs : List Nat) (i : Nat) : Nat := if i = 0 then st else qs.getD (i - 1) 0 + 1
/-- The part with the number k, whose parts begin at the number st, tells m. -/
inductive Means (ps : List PartR) : Nat → Nat → Sense → Prop
  | none (k : Nat) (p : PartR) (h : ps[k]? = some p) (hk : p.kind = 0) : Means ps k k noneS
  | empty (k : Nat) (p : PartR) (h : ps[k]? = some p) (hk : p.kind = 1) : Means ps k k emptyS
  | letter (k : Nat) (p : PartR) (h : ps[k]? = some p) (hk : p.kind = 2) : Means ps k k (letterS p.let_)
  | either (st k : Nat) (p : PartR) (qs : List Nat) (ms : List Sense) (h : ps[k]? = some p) (hk : p.kind = 3) (h0 : 0 < ms.length ∧ ms.length ≤ 4001) (hq : p.kids = qs.map Int.ofNat) (hl : qs.length = ms.length)
      (hm : ∀ i, i < ms.length → Means ps (begK st qs i) (qs.getD i 0) (ms.getD i noneS)) (he : begK st qs ms.length = k) : Means ps st k (eitherOf ms)
  | row (st k : Nat) (p : PartR) (qs : List Nat) (ms : List Sense) (h : ps[k]? = some p) (hk : p.kind = 4) (h0 : 0 < ms.length ∧ ms.length ≤ 4001) (hq : p.kids = qs.map Int.ofNat) (hl : qs.length = ms.length)
      (hm : ∀ i, i < ms.length → Means ps (begK st qs i) (qs.getD i 0) (ms.getD i noneS)) (he : begK st qs ms.length = k) : Means ps st k (rowOf ms)
  | star (st k : Nat) (p : PartR) (q : Nat) (m : Sense) (h : ps[k]? = some p) (hk : p.kind = 5) (hq : p.kids = [Int.ofNat q]) (hm : Means ps st q m) (he : q + 1 = k) : Means ps st k (starS m)

theorem Means.mono {ps qs : List PartR} {st k : Nat} {m : Sense} (h : Means ps st k m) : Means (ps ++ qs) st k m := by
  have e : ∀ {k : Nat} {p : PartR}, ps[k]? = some p → (ps ++ qs)[k]? = some p := fun {k p} h => by
    rw [List.getElem?_append_left (List.getElem?_eq_some_iff.1 h).1]; exact h
  induction h with
  | none k p h hk => exact .none k p (e h) hk
  | empty k p h hk => exact .empty k p (e h) hk
  | letter k p h hk => exact .letter k p (e h) hk
  | either st k p qs ms h hk h0 hq hl _ he ih => exact .either st k p qs ms (e h) hk h0 hq hl ih he
  | row st k p qs ms h hk h0 hq hl _ he ih => exact .row st k p qs ms (e h) hk h0 hq hl ih he
  | star st k p q m h hk hq _ he ih => exact .star st k p q m (e h) hk hq ih he
/-- Kids one behind the other, from st to the end of all. -/
def KM (ps : List PartR) (st : Nat) (kn : List Nat) (ms : List Sense) : Prop := (∀ e, e < ms.length → Means ps (begK st kn e) (kn.getD e 0) (ms.getD e noneS)) ∧ begK st kn ms.length = ps.length
theorem KM.one {ps : List PartR} {st kk : Nat} {m : Sense} (h : Means ps st kk m) (hk : kk + 1 = ps.length) : KM ps st [kk] [m] := by
  refine ⟨fun e he => ?_, hk⟩
  have : e = 0 := by simpa using he
  subst this
  exact h
theorem KM.snoc {ps qs : List PartR} {st kk : Nat} {kn : List Nat} {ms : List Sense} {m : Sense} (h : KM ps st kn ms) (hl : kn.length = ms.length) (hm : Means (ps ++ qs) ps.length kk m) (hk : kk + 1 = (ps ++ qs).length) : KM (ps ++ qs) st (kn ++ [kk]) (ms ++ [m]) := by
  have hb : ∀ e, e ≤ ms.length → begK st (kn ++ [kk]) e = begK st kn e := fun e he => by
    unfold begK
    by_cases h0 : e = 0
    · rw [if_pos h0, if_pos h0]
    · rw [if_neg h0, if_neg h0]
      simp [List.getD, List.getElem?_append_left (show e - 1 < kn.length by omega)]
  refine ⟨fun e he => ?_, ?_⟩
  · by_cases hlt : e < ms.length
    · have e1 : (kn ++ [kk]).getD e 0 = kn.getD e 0 := by simp [List.getD, List.getElem?_append_left (show e < kn.length by omega)]
      have e2 : (ms ++ [m]).getD e noneS = ms.getD e noneS := by simp [List.getD, List.getElem?_append_left hlt]
      rw [e1, e2, hb e (by omega)]
      exact (h.1 e hlt).mono
    · have hee : e = ms.length := by simp at he; omega
      subst hee
      have e1 : (kn ++ [kk]).getD ms.length 0 = kk := by simp [List.getD, ← hl]
      have e2 : (ms ++ [m]).getD ms.length noneS = m := by simp [List.getD]
      rw [e1, e2, hb _ (Nat.le_refl _), h.2]
      exact hm
  · have e1 : (kn ++ [kk]).getD ms.length 0 = kk := by simp [List.getD, ← hl]
    unfold begK
    rw [List.length_append, if_neg (by simp)]
    simp only [List.length_cons, List.length_nil, Nat.zero_add, Nat.add_sub_cancel]
    rw [e1]; exact hk

theorem KidsAt.and {ok ok' : Nat → Prop} {w : World} {p : PartR} (h : KidsAt ok w p) (h' : KidsAt ok' w p) : KidsAt (fun g => ok g ∧ ok' g) w p := by
  obtain ⟨h0, h⟩ := h
  obtain ⟨_, h'⟩ := h'
  refine ⟨h0, ?_⟩
  rcases h with h | ⟨g, cap, hg, hv, hc⟩
  · exact .inl h
  · rcases h' with h' | ⟨g', cap', hg', hv', _⟩
    · exact .inl h'
    · rw [hv] at hv'
      have : g = g' := by injection hv' with e; injection e with e; injection e
      subst this
      exact .inr ⟨g, cap, ⟨hg, hg'⟩, hv, hc⟩

/-- What a part is made of stays where it is. -/
theorem Parts.fr_kids {w w' : World} {b : Nat} {L L' : Value} {ps : List PartR} (hp : Parts w b L ps) (hF : Fr w w' b L L') {ok : Nat → Prop} {p : PartR} (hm : p ∈ ps) (h : KidsAt ok w p) : KidsAt ok w' p :=
  (h.and (hp.at_ p hm)).kept fun g ⟨h1, h2, h3⟩ hlt => ⟨h1, hF.block g hlt (by omega) h3⟩

/-- The parts qs are made of new memory. -/
def New (n : Nat) (w : World) (qs : List PartR) : Prop := ∀ p ∈ qs, KidsAt (fun g => n ≤ g) w p

theorem New.step {n n' : Nat} {w w' : World} {b : Nat} {L L' : Value} {ps qs : List PartR} (h : New n w qs) (hp : Parts w b L (ps ++ qs)) (hF : Fr w w' b L L') (hn : n' ≤ n) : New n' w' qs := fun p hm =>
  (hp.fr_kids hF (List.mem_append_right _ hm) (h p hm)).kept fun g hg _ => ⟨Nat.le_trans hn hg, rfl⟩

/-- What a call of the reference's reader leaves behind; z and y bound how many parts were made. -/
def RGives (s : ByteArray) (b d i : Nat) (w : World) (L : Value) (ps : List PartR) (z y : Nat) (R : Res) (e : Ending) (w' : World) : Prop :=
  ∃ L' qs, Fr w w' b L L' ∧ Parts w' b L' (ps ++ qs) ∧ New w.heap.size w' qs ∧ match R with
  | .good m j => ∃ k : Nat, k + 1 = ps.length + qs.length ∧ e = .returned (.int .i64 k) ∧ 0 < qs.length ∧ RRd w' b s j d L' 0 0 ∧ Means (ps ++ qs) ps.length k m ∧ qs.length + z ≤ 3 * (j - i)
  | .bad c j => (∃ k : Int, e = .returned (.int .i64 k)) ∧ RRd w' b s j d L' c j ∧ c ≠ 0 ∧ i ≤ j ∧ j ≤ s.size ∧ qs.length ≤ 3 * (j - i) + y

def RDoes (f : Nat) (s : ByteArray) (S : Nat → Nat → Res) (z y n : Nat) : Prop :=
  ∀ (i d b : Nat) (w : World) (L : Value) (ps : List PartR), i ≤ s.size → s.size - i < n → d ≤ 40 → ps.length ≤ 3 * i → RRd w b s i d L 0 0 → Parts w b L ps →
    Calls Try.prog f #[.pointer (some ⟨b, 0, none⟩)] w (RGives s b d i w L ps z y (S i d))

/-- A leaf: one part more, one byte further. -/
theorem leaf_gives {s : ByteArray} {b d i : Nat} {w w2 w3 : World} {L L' : Value} {ps : List PartR} {m : Sense} (kind let_ : Int) (hF : Fr w w2 b L L) (hR : RRd w3 b s (i + 1) d L' 0 0) (hP : Parts w3 b L' (ps ++ [⟨kind, let_, .slice none 0 0, []⟩])) (hF3 : Fr w2 w3 b L L')
    (hm : Means (ps ++ [⟨kind, let_, .slice none 0 0, []⟩]) ps.length ps.length m) : RGives s b d i w L ps 2 0 (.good m (i + 1)) (.returned (.int .i64 ps.length)) w3 :=
  ⟨L', [⟨kind, let_, .slice none 0 0, []⟩], hF.trans hF3, hP, fun p hp => by simp at hp; subst hp; exact ⟨⟨_, _, _, rfl⟩, .inl rfl⟩, ps.length, by simp, rfl, by simp, hR, hm, by simp⟩

set_option maxHeartbeats 1600000 in
theorem rpart_does (s : ByteArray) (W : Nat → Nat → Res) (n : Nat) (hs : s.size ≤ 4000) (hadv : Adv s W) (hW : RDoes 17 s W 0 2 n) : RDoes 53 s (partS s W) 2 0 (n + 1) := by
  intro i d b w L ps hi hn hd hps h hp
  have HW : Hid (∀ (w1 : World), i < s.size → RRd w1 b s (i + 1) (d + 1) L 0 0 → Parts w1 b L ps → d + 1 ≤ 40 → Calls Try.prog 17 #[.pointer (some ⟨b, 0, none⟩)] w1 (RGives s b (d + 1) (i + 1) w1 L ps 0 2 (W (i + 1) (d + 1)))) :=
    fun w1 h1 h2 h3 h4 => hW (i + 1) (d + 1) b w1 L ps (by omega) (by omega) h4 (by omega) h2 h3
  have hadv := hadv (i + 1) (d + 1)
  have HO : Hid (Calls Try.prog 29 #[.pointer (some ⟨b, 0, none⟩)] w fun e w' => e = .returned (.bool ((0 : Int) == 0)) ∧ w' = w) := ok_any s b i d L 0 0 w h
  have HN : Hid (Calls Try.prog 28 #[.pointer (some ⟨b, 0, none⟩)] w fun e w' => e = .returned (.int .u8 (byteAt s i)) ∧ w.grownBy w' none) := now_any s b i d L 0 0 w hs hi h
  have H : Hid (RRd w b s i d L 0 0) := h
  have HP : Hid (Parts w b L ps) := hp
  clear h hp hW
  have hc := byteAt_lt s i
  have hi0 : Hid (beginsF (byteAt s i) = true → i < s.size) := begins_lt
  unfold partS
  generalize byteAt s i = c at *
  have HK : Hid (∀ (w1 : World) (k l : Int), KidsAt (fun g => b < g ∧ L.ownBlock ≠ some g) w1 ⟨k, l, .slice none 0 0, []⟩) := fun w1 k l => ⟨⟨_, _, _, rfl⟩, .inl rfl⟩
  by_cases h48 : c = 48
  · subst h48
    have hS : (if beginsF 48 = false then Res.bad 4 i else if 48 = 40 then bracketS s W i d else if 48 = 48 then .good noneS (i + 1) else if 48 = 49 then .good emptyS (i + 1) else .good (letterS (48 - 97 : Nat)) (i + 1)) = .good noneS (i + 1) := by simp [beginsF]
    rw [hS]
    clear hS
    go_enter Try.func53, Try.ntmps53
    go_wp2_with fail
    refine HO.out.mono ?_
    rintro e w1 ⟨rfl, hw1⟩
    obtain rfl : w = w1 := hw1.symm
    go_wp2_with fail
    refine HN.out.mono ?_
    rintro e w2 ⟨rfl, hg⟩
    have R2 := H.out.kept hg (by simp)
    have c1 := R2.c1
    have f1 := R2.f 1
    have R3 : Hid (RRd (w2.setCell ⟨b, 1, none⟩ (.int .i64 ((i : Int) + 1))) b s (i + 1) d L 0 0) := R2.set1 (i + 1) (by omega)
    have P3 : Hid (Parts (w2.setCell ⟨b, 1, none⟩ (.int .i64 ((i : Int) + 1))) b L ps) := (HP.out.kept' hg).set 1 _
    have F3 : Hid (Fr w (w2.setCell ⟨b, 1, none⟩ (.int .i64 ((i : Int) + 1))) b L L) := (Fr.grown' hg).trans (Fr.set _ _ _ _ _)
    clear R2 hg H HP HO HN HW
    go_wp2_with fail
    refine (put_any s b (i + 1) d L 0 0 _ ps ⟨0, 0, .slice none 0 0, []⟩ (by omega) R3.out P3.out (HK.out _ _ _)).mono ?_
    rintro e w4 ⟨rfl, L', hR4, hP4, hF4⟩
    have E : Hid (RGives s b d i w L ps 2 0 (.good (noneS) (i + 1)) (.returned (.int .i64 ps.length)) w4) := leaf_gives 0 (0) F3.out hR4 hP4 hF4 (.none _ ⟨0, 0, .slice none 0 0, []⟩ (by simp) rfl)
    clear hR4 hP4 hF4 R3 P3 F3
    go_wp2_with fail
    go_ret
    exact E.out
  · have h48' : ((c : Int) == 48) = false := by simp; omega
    by_cases h49 : c = 49
    · subst h49
      have hS : (if beginsF 49 = false then Res.bad 4 i else if 49 = 40 then bracketS s W i d else if 49 = 48 then .good noneS (i + 1) else if 49 = 49 then .good emptyS (i + 1) else .good (letterS (49 - 97 : Nat)) (i + 1)) = .good emptyS (i + 1) := by simp [beginsF]
      rw [hS]
      clear hS
      go_enter Try.func53, Try.ntmps53
      go_wp2_with fail
      refine HO.out.mono ?_
      rintro e w1 ⟨rfl, hw1⟩
      obtain rfl : w = w1 := hw1.symm
      go_wp2_with fail
      refine HN.out.mono ?_
      rintro e w2 ⟨rfl, hg⟩
      have R2 := H.out.kept hg (by simp)
      have c1 := R2.c1
      have f1 := R2.f 1
      have R3 : Hid (RRd (w2.setCell ⟨b, 1, none⟩ (.int .i64 ((i : Int) + 1))) b s (i + 1) d L 0 0) := R2.set1 (i + 1) (by omega)
      have P3 : Hid (Parts (w2.setCell ⟨b, 1, none⟩ (.int .i64 ((i : Int) + 1))) b L ps) := (HP.out.kept' hg).set 1 _
      have F3 : Hid (Fr w (w2.setCell ⟨b, 1, none⟩ (.int .i64 ((i : Int) + 1))) b L L) := (Fr.grown' hg).trans (Fr.set _ _ _ _ _)
      clear R2 hg H HP HO HN HW
      go_wp2_with fail
      refine (put_any s b (i + 1) d L 0 0 _ ps ⟨1, 0, .slice none 0 0, []⟩ (by omega) R3.out P3.out (HK.out _ _ _)).mono ?_
      rintro e w4 ⟨rfl, L', hR4, hP4, hF4⟩
      have E : Hid (RGives s b d i w L ps 2 0 (.good (emptyS) (i + 1)) (.returned (.int .i64 ps.length)) w4) := leaf_gives 1 (0) F3.out hR4 hP4 hF4 (.empty _ ⟨1, 0, .slice none 0 0, []⟩ (by simp) rfl)
      clear hR4 hP4 hF4 R3 P3 F3
      go_wp2_with fail
      go_ret
      exact E.out
    · have h49' : ((c : Int) == 49) = false := by simp; omega
      by_cases h97 : 97 ≤ c ∧ c ≤ 100
      · have hS : (if beginsF c = false then Res.bad 4 i else if c = 40 then bracketS s W i d else if c = 48 then .good noneS (i + 1) else if c = 49 then .good emptyS (i + 1) else .good (letterS (c - 97 : Nat)) (i + 1)) = .good (letterS (c - 97 : Nat)) (i + 1) := by
          rw [if_neg (by simp [beginsF]; omega), if_neg (by omega), if_neg (by omega), if_neg (by omega)]
        rw [hS]
        clear hS
        have g1 : (97 : Int) ≤ (c : Int) := by omega
        have g2 : (c : Int) ≤ 100 := by omega
        have hw8 : IntKind.u8.wrap ((c : Int) - 97) = (c : Int) - 97 := wraps_u8 _ (by omega) (by omega)
        have e97 : ((c - 97 : Nat) : Int) = (c : Int) - 97 := by omega
        rw [e97]
        clear e97
        go_enter Try.func53, Try.ntmps53
        go_wp2_with fail
        refine HO.out.mono ?_
        rintro e w1 ⟨rfl, hw1⟩
        obtain rfl : w = w1 := hw1.symm
        go_wp2_with fail
        refine HN.out.mono ?_
        rintro e w2 ⟨rfl, hg⟩
        have R2 := H.out.kept hg (by simp)
        have c1 := R2.c1
        have f1 := R2.f 1
        have R3 : Hid (RRd (w2.setCell ⟨b, 1, none⟩ (.int .i64 ((i : Int) + 1))) b s (i + 1) d L 0 0) := R2.set1 (i + 1) (by omega)
        have P3 : Hid (Parts (w2.setCell ⟨b, 1, none⟩ (.int .i64 ((i : Int) + 1))) b L ps) := (HP.out.kept' hg).set 1 _
        have F3 : Hid (Fr w (w2.setCell ⟨b, 1, none⟩ (.int .i64 ((i : Int) + 1))) b L L) := (Fr.grown' hg).trans (Fr.set _ _ _ _ _)
        clear R2 hg H HP HO HN HW
        go_wp2_with fail
        refine (put_any s b (i + 1) d L 0 0 _ ps ⟨2, (c : Int) - 97, .slice none 0 0, []⟩ (by omega) R3.out P3.out (HK.out _ _ _)).mono ?_
        rintro e w4 ⟨rfl, L', hR4, hP4, hF4⟩
        have E : Hid (RGives s b d i w L ps 2 0 (.good (letterS ((c : Int) - 97)) (i + 1)) (.returned (.int .i64 ps.length)) w4) := leaf_gives 2 ((c : Int) - 97) F3.out hR4 hP4 hF4 (.letter _ ⟨2, (c : Int) - 97, .slice none 0 0, []⟩ (by simp) rfl)
        clear hR4 hP4 hF4 R3 P3 F3
        go_wp2_with fail
        go_ret
        exact E.out
      · have gg : decide ((97 : Int) ≤ (c : Int)) = false ∨ ((97 : Int) ≤ (c : Int) ∧ ¬ (c : Int) ≤ 100) := by
          by_cases h : 97 ≤ c
          · exact .inr ⟨by omega, by omega⟩
          · exact .inl (by simp; omega)
        by_cases h40 : c = 40
        · subst h40
          have hS : (if beginsF 40 = false then Res.bad 4 i else if 40 = 40 then bracketS s W i d else if 40 = 48 then .good noneS (i + 1) else if 40 = 49 then .good emptyS (i + 1) else .good (letterS (40 - 97 : Nat)) (i + 1)) = bracketS s W i d := by simp [beginsF]
          rw [hS]
          clear hS gg h97 h48' h49'
          have hlt : i < s.size := hi0.out (by simp [beginsF])
          unfold bracketS
          by_cases hd40 : d = 40
          · rw [if_pos hd40]
            have hd40' : ((d : Int) == 40) = true := by simp; omega
            go_enter Try.func53, Try.ntmps53
            go_wp2_with fail
            refine HO.out.mono ?_
            rintro e w1 ⟨rfl, hw1⟩
            obtain rfl : w = w1 := hw1.symm
            go_wp2_with fail
            refine HN.out.mono ?_
            rintro e w2 ⟨rfl, hg⟩
            have R2 : Hid (RRd w2 b s i d L 0 0) := H.out.kept hg (by simp)
            have P2 : Hid (Parts w2 b L ps) := HP.out.kept' hg
            have F2 : Hid (Fr w w2 b L L) := Fr.grown' hg
            have c2 := R2.out.c2
            have f2 := R2.out.f 2
            clear hg H HP HO HN HW
            go_wp2_with fail
            refine (fail_first s b i d L 0 7 w2 R2.out).mono ?_
            rintro e w4 ⟨rfl, hg4, hR4⟩
            have E : Hid (RGives s b d i w L ps 2 0 (.bad 7 i) (.returned (.int .i64 0)) w4) := ⟨L, [], F2.out.trans (Fr.grown hg4), by simpa using P2.out.kept hg4 (fun e => by have := P2.out.block b e; omega) (.inl rfl), fun p hp => by simp at hp, ⟨0, rfl⟩, hR4, by omega, by omega, by omega, by simp⟩
            clear hR4 hg4 R2 P2 F2
            go_wp2_with fail
            go_ret
            exact E.out
          · rw [if_neg hd40]
            have hd40' : ((d : Int) == 40) = false := by simp; omega
            cases hR : W (i + 1) (d + 1) with
            | bad c j =>
              rw [hR] at HW
              clear hR hadv
              show Calls Try.prog 53 #[.pointer (some ⟨b, 0, none⟩)] w (RGives s b d i w L ps 2 0 (.bad c j))
              go_enter Try.func53, Try.ntmps53
              go_wp2_with fail
              refine HO.out.mono ?_
              rintro e w1 ⟨rfl, hw1⟩
              obtain rfl : w = w1 := hw1.symm
              go_wp2_with fail
              refine HN.out.mono ?_
              rintro e w2 ⟨rfl, hg⟩
              have R2 := H.out.kept hg (by simp)
              have c1 := R2.c1
              have f1 := R2.f 1
              have c2 := R2.c2
              have f2 := R2.f 2
              have R3 : Hid (RRd ((w2.setCell ⟨b, 2, none⟩ (.int .i64 ((d : Int) + 1))).setCell ⟨b, 1, none⟩ (.int .i64 ((i : Int) + 1))) b s (i + 1) (d + 1) L 0 0) := (R2.set2 (d + 1) (by omega)).set1 (i + 1) (by omega)
              have P3 : Hid (Parts ((w2.setCell ⟨b, 2, none⟩ (.int .i64 ((d : Int) + 1))).setCell ⟨b, 1, none⟩ (.int .i64 ((i : Int) + 1))) b L ps) := ((HP.out.kept' hg).set 2 _).set 1 _
              have F3 : Hid (Fr w ((w2.setCell ⟨b, 2, none⟩ (.int .i64 ((d : Int) + 1))).setCell ⟨b, 1, none⟩ (.int .i64 ((i : Int) + 1))) b L L) := ((Fr.grown' hg).trans (Fr.set _ _ _ _ _)).trans (Fr.set _ _ _ _ _)
              clear R2 hg H HP HO HN
              go_wp2_with fail
              refine (HW.out _ hlt R3.out P3.out (by omega)).mono ?_
              clear HW R3 P3 c1 f1 c2 f2
              rintro e w4 ⟨L4, qs, hF4, hP4, hN4, ⟨k, rfl⟩, hR4, hc0, hj1, hj2, hq⟩
              have R4 : Hid (RRd w4 b s j (d + 1) L4 c j) := hR4
              have P4 : Hid (Parts w4 b L4 (ps ++ qs)) := hP4
              have N4 : Hid (New w.heap.size w4 qs) := hN4.step hP4 (Fr.refl _ _ _) F3.out.size
              have F4 : Hid (Fr w w4 b L L4) := F3.out.trans hF4
              clear hN4 hR4 hP4 hF4 F3
              go_wp2_with fail
              refine (now_any s b j (d + 1) L4 c j w4 hs hj2 R4.out).mono ?_
              rintro e w5 ⟨rfl, hg5⟩
              have R5 : Hid (RRd w5 b s j (d + 1) L4 c j) := R4.out.kept hg5 (by simp)
              have P5 : Hid (Parts w5 b L4 (ps ++ qs)) := P4.out.kept' hg5
              have N5 : Hid (New w.heap.size w5 qs) := N4.out.step P4.out (Fr.grown' hg5) (Nat.le_refl _)
              have F5 : Hid (Fr w w5 b L L4) := F4.out.trans (Fr.grown' hg5)
              clear R4 P4 F4 N4 hg5
              have hc0' : (c == 0) = false := by simpa using hc0
              by_cases h41 : byteAt s j = 41
              · rw [h41]
                go_wp2_with fail
                refine (ok_any s b j (d + 1) L4 c j w5 R5.out).mono ?_
                rintro e w6 ⟨rfl, hw6⟩
                obtain rfl : w5 = w6 := hw6.symm
                rw [hc0']
                have c2 := R5.out.c2
                have f2 := R5.out.f 2
                have E : Hid (RGives s b d i w L ps 2 0 (.bad c j) (.returned (.int .i64 k)) (w5.setCell ⟨b, 2, none⟩ (.int .i64 (d : Int)))) := ⟨L4, qs, F5.out.trans (Fr.set _ _ _ _ _), P5.out.set 2 _, N5.out.step P5.out (Fr.set _ _ _ _ _) (Nat.le_refl _), ⟨k, rfl⟩, R5.out.set2 d rfl, hc0, by omega, hj2, by omega⟩
                clear R5 P5 F5 N5
                go_wp2_with fail
                go_ret
                exact E.out
              · have h41' : ((byteAt s j : Int) == 41) = false := by simp; omega
                go_wp2_with fail
                refine (fail_again s b j (d + 1) L4 c j 4 w5 hc0 R5.out).mono ?_
                rintro e w5' ⟨rfl, hw5⟩
                obtain rfl : w5 = w5' := hw5.symm
                go_wp2_with fail
                refine (ok_any s b j (d + 1) L4 c j w5 R5.out).mono ?_
                rintro e w6 ⟨rfl, hw6⟩
                obtain rfl : w5 = w6 := hw6.symm
                rw [hc0']
                have c2 := R5.out.c2
                have f2 := R5.out.f 2
                have E : Hid (RGives s b d i w L ps 2 0 (.bad c j) (.returned (.int .i64 k)) (w5.setCell ⟨b, 2, none⟩ (.int .i64 (d : Int)))) := ⟨L4, qs, F5.out.trans (Fr.set _ _ _ _ _), P5.out.set 2 _, N5.out.step P5.out (Fr.set _ _ _ _ _) (Nat.le_refl _), ⟨k, rfl⟩, R5.out.set2 d rfl, hc0, by omega, hj2, by omega⟩
                clear R5 P5 F5 N5
                go_wp2_with fail
                go_ret
                exact E.out
            | good m j =>
              have hj := hadv m j hR
              rw [hR] at HW
              clear hR hadv
              show Calls Try.prog 53 #[.pointer (some ⟨b, 0, none⟩)] w (RGives s b d i w L ps 2 0 (if byteAt s j = 41 then .good m (j + 1) else .bad 4 j))
              by_cases h41 : byteAt s j = 41
              · rw [if_pos h41]
                go_enter Try.func53, Try.ntmps53
                go_wp2_with fail
                refine HO.out.mono ?_
                rintro e w1 ⟨rfl, hw1⟩
                obtain rfl : w = w1 := hw1.symm
                go_wp2_with fail
                refine HN.out.mono ?_
                rintro e w2 ⟨rfl, hg⟩
                have R2 := H.out.kept hg (by simp)
                have c1 := R2.c1
                have f1 := R2.f 1
                have c2 := R2.c2
                have f2 := R2.f 2
                have R3 : Hid (RRd ((w2.setCell ⟨b, 2, none⟩ (.int .i64 ((d : Int) + 1))).setCell ⟨b, 1, none⟩ (.int .i64 ((i : Int) + 1))) b s (i + 1) (d + 1) L 0 0) := (R2.set2 (d + 1) (by omega)).set1 (i + 1) (by omega)
                have P3 : Hid (Parts ((w2.setCell ⟨b, 2, none⟩ (.int .i64 ((d : Int) + 1))).setCell ⟨b, 1, none⟩ (.int .i64 ((i : Int) + 1))) b L ps) := ((HP.out.kept' hg).set 2 _).set 1 _
                have F3 : Hid (Fr w ((w2.setCell ⟨b, 2, none⟩ (.int .i64 ((d : Int) + 1))).setCell ⟨b, 1, none⟩ (.int .i64 ((i : Int) + 1))) b L L) := ((Fr.grown' hg).trans (Fr.set _ _ _ _ _)).trans (Fr.set _ _ _ _ _)
                clear R2 hg H HP HO HN
                go_wp2_with fail
                refine (HW.out _ hlt R3.out P3.out (by omega)).mono ?_
                clear HW R3 P3 c1 f1 c2 f2
                rintro e w4 ⟨L4, qs, hF4, hP4, hN4, kk, hkk, rfl, hq0, hR4, hM4, hq⟩
                have R4 : Hid (RRd w4 b s j (d + 1) L4 0 0) := hR4
                have P4 : Hid (Parts w4 b L4 (ps ++ qs)) := hP4
                have N4 : Hid (New w.heap.size w4 qs) := hN4.step hP4 (Fr.refl _ _ _) F3.out.size
                have F4 : Hid (Fr w w4 b L L4) := F3.out.trans hF4
                have M4 : Hid (Means (ps ++ qs) ps.length kk m) := hM4
                have HKK : Hid (kk + 1 = ps.length + qs.length) := hkk
                clear hN4 hR4 hP4 hF4 F3 hM4 hkk
                go_wp2_with fail
                refine (now_any s b j (d + 1) L4 0 0 w4 hs (by omega) R4.out).mono ?_
                rintro e w5 ⟨rfl, hg5⟩
                have R5 : Hid (RRd w5 b s j (d + 1) L4 0 0) := R4.out.kept hg5 (by simp)
                have P5 : Hid (Parts w5 b L4 (ps ++ qs)) := P4.out.kept' hg5
                have N5 : Hid (New w.heap.size w5 qs) := N4.out.step P4.out (Fr.grown' hg5) (Nat.le_refl _)
                have F5 : Hid (Fr w w5 b L L4) := F4.out.trans (Fr.grown' hg5)
                clear R4 P4 F4 N4 hg5
                rw [h41]
                have hjl := byte_lt h41 (by omega)
                go_wp2_with fail
                refine (ok_any s b j (d + 1) L4 0 0 w5 R5.out).mono ?_
                rintro e w6 ⟨rfl, hw6⟩
                obtain rfl : w5 = w6 := hw6.symm
                have c1 := R5.out.c1
                have f1 := R5.out.f 1
                have c2 := R5.out.c2
                have f2 := R5.out.f 2
                have E : Hid (RGives s b d i w L ps 2 0 (.good m (j + 1)) (.returned (.int .i64 kk)) ((w5.setCell ⟨b, 1, none⟩ (.int .i64 ((j : Int) + 1))).setCell ⟨b, 2, none⟩ (.int .i64 (d : Int)))) := ⟨L4, qs, (F5.out.trans (Fr.set _ _ _ _ _)).trans (Fr.set _ _ _ _ _), (P5.out.set 1 _).set 2 _, (N5.out.step P5.out (Fr.set _ _ _ _ _) (Nat.le_refl _)).step (P5.out.set 1 _) (Fr.set _ _ _ _ _) (Nat.le_refl _), kk, HKK.out, rfl, hq0, (R5.out.set1 (j + 1) (by omega)).set2 d rfl, M4.out, by omega⟩
                clear R5 P5 F5 M4 N5
                go_wp2_with fail
                go_ret
                exact E.out
              · rw [if_neg h41]
                go_enter Try.func53, Try.ntmps53
                go_wp2_with fail
                refine HO.out.mono ?_
                rintro e w1 ⟨rfl, hw1⟩
                obtain rfl : w = w1 := hw1.symm
                go_wp2_with fail
                refine HN.out.mono ?_
                rintro e w2 ⟨rfl, hg⟩
                have R2 := H.out.kept hg (by simp)
                have c1 := R2.c1
                have f1 := R2.f 1
                have c2 := R2.c2
                have f2 := R2.f 2
                have R3 : Hid (RRd ((w2.setCell ⟨b, 2, none⟩ (.int .i64 ((d : Int) + 1))).setCell ⟨b, 1, none⟩ (.int .i64 ((i : Int) + 1))) b s (i + 1) (d + 1) L 0 0) := (R2.set2 (d + 1) (by omega)).set1 (i + 1) (by omega)
                have P3 : Hid (Parts ((w2.setCell ⟨b, 2, none⟩ (.int .i64 ((d : Int) + 1))).setCell ⟨b, 1, none⟩ (.int .i64 ((i : Int) + 1))) b L ps) := ((HP.out.kept' hg).set 2 _).set 1 _
                have F3 : Hid (Fr w ((w2.setCell ⟨b, 2, none⟩ (.int .i64 ((d : Int) + 1))).setCell ⟨b, 1, none⟩ (.int .i64 ((i : Int) + 1))) b L L) := ((Fr.grown' hg).trans (Fr.set _ _ _ _ _)).trans (Fr.set _ _ _ _ _)
                clear R2 hg H HP HO HN
                go_wp2_with fail
                refine (HW.out _ hlt R3.out P3.out (by omega)).mono ?_
                clear HW R3 P3 c1 f1 c2 f2
                rintro e w4 ⟨L4, qs, hF4, hP4, hN4, kk, hkk, rfl, hq0, hR4, hM4, hq⟩
                have R4 : Hid (RRd w4 b s j (d + 1) L4 0 0) := hR4
                have P4 : Hid (Parts w4 b L4 (ps ++ qs)) := hP4
                have N4 : Hid (New w.heap.size w4 qs) := hN4.step hP4 (Fr.refl _ _ _) F3.out.size
                have F4 : Hid (Fr w w4 b L L4) := F3.out.trans hF4
                have M4 : Hid (Means (ps ++ qs) ps.length kk m) := hM4
                have HKK : Hid (kk + 1 = ps.length + qs.length) := hkk
                clear hN4 hR4 hP4 hF4 F3 hM4 hkk
                go_wp2_with fail
                refine (now_any s b j (d + 1) L4 0 0 w4 hs (by omega) R4.out).mono ?_
                rintro e w5 ⟨rfl, hg5⟩
                have R5 : Hid (RRd w5 b s j (d + 1) L4 0 0) := R4.out.kept hg5 (by simp)
                have P5 : Hid (Parts w5 b L4 (ps ++ qs)) := P4.out.kept' hg5
                have N5 : Hid (New w.heap.size w5 qs) := N4.out.step P4.out (Fr.grown' hg5) (Nat.le_refl _)
                have F5 : Hid (Fr w w5 b L L4) := F4.out.trans (Fr.grown' hg5)
                clear R4 P4 F4 N4 hg5
                have h41' : ((byteAt s j : Int) == 41) = false := by simp; omega
                go_wp2_with fail
                refine (fail_first s b j (d + 1) L4 0 4 w5 R5.out).mono ?_
                rintro e w7 ⟨rfl, hg7, hR7⟩
                have R7 : Hid (RRd w7 b s j (d + 1) L4 4 j) := hR7
                have P7 : Hid (Parts w7 b L4 (ps ++ qs)) := P5.out.kept hg7 (fun e => by have := P5.out.block b e; omega) (.inl rfl)
                have N7 : Hid (New w.heap.size w7 qs) := N5.out.step P5.out (Fr.grown hg7) (Nat.le_refl _)
                have F7 : Hid (Fr w w7 b L L4) := F5.out.trans (Fr.grown hg7)
                clear hR7 hg7 R5 P5 F5 N5
                go_wp2_with fail
                refine (ok_any s b j (d + 1) L4 4 j w7 R7.out).mono ?_
                rintro e w6 ⟨rfl, hw6⟩
                obtain rfl : w7 = w6 := hw6.symm
                have c2 := R7.out.c2
                have f2 := R7.out.f 2
                have E : Hid (RGives s b d i w L ps 2 0 (.bad 4 j) (.returned (.int .i64 kk)) (w7.setCell ⟨b, 2, none⟩ (.int .i64 (d : Int)))) := ⟨L4, qs, F7.out.trans (Fr.set _ _ _ _ _), P7.out.set 2 _, N7.out.step P7.out (Fr.set _ _ _ _ _) (Nat.le_refl _), ⟨_, rfl⟩, R7.out.set2 d rfl, by omega, by omega, by omega, by omega⟩
                clear R7 P7 F7 N7
                go_wp2_with fail
                go_ret
                exact E.out
        · have h40' : ((c : Int) == 40) = false := by simp; omega
          have hS : (if beginsF c = false then Res.bad 4 i else if c = 40 then bracketS s W i d else if c = 48 then .good noneS (i + 1) else if c = 49 then .good emptyS (i + 1) else .good (letterS (c - 97 : Nat)) (i + 1)) = .bad 4 i := by
            rw [if_pos (by simp [beginsF]; omega)]
          rw [hS]
          clear hS h97
          rcases gg with gg | ⟨g1, g2⟩
          ·
            go_enter Try.func53, Try.ntmps53
            go_wp2_with fail
            refine HO.out.mono ?_
            rintro e w1 ⟨rfl, hw1⟩
            obtain rfl : w = w1 := hw1.symm
            go_wp2_with fail
            refine HN.out.mono ?_
            rintro e w2 ⟨rfl, hg⟩
            have R2 : Hid (RRd w2 b s i d L 0 0) := H.out.kept hg (by simp)
            have P2 : Hid (Parts w2 b L ps) := HP.out.kept' hg
            have F2 : Hid (Fr w w2 b L L) := Fr.grown' hg
            clear hg H HP HO HN HW
            go_wp2_with fail
            refine (fail_first s b i d L 0 4 w2 R2.out).mono ?_
            rintro e w4 ⟨rfl, hg4, hR4⟩
            have E : Hid (RGives s b d i w L ps 2 0 (.bad 4 i) (.returned (.int .i64 0)) w4) := ⟨L, [], F2.out.trans (Fr.grown hg4), by simpa using P2.out.kept hg4 (fun e => by have := P2.out.block b e; omega) (.inl rfl), fun p hp => by simp at hp, ⟨0, rfl⟩, hR4, by omega, by omega, by omega, by simp⟩
            clear hR4 hg4 R2 P2 F2
            go_wp2_with fail
            go_ret
            exact E.out
          ·
            go_enter Try.func53, Try.ntmps53
            go_wp2_with fail
            refine HO.out.mono ?_
            rintro e w1 ⟨rfl, hw1⟩
            obtain rfl : w = w1 := hw1.symm
            go_wp2_with fail
            refine HN.out.mono ?_
            rintro e w2 ⟨rfl, hg⟩
            have R2 : Hid (RRd w2 b s i d L 0 0) := H.out.kept hg (by simp)
            have P2 : Hid (Parts w2 b L ps) := HP.out.kept' hg
            have F2 : Hid (Fr w w2 b L L) := Fr.grown' hg
            clear hg H HP HO HN HW
            go_wp2_with fail
            refine (fail_first s b i d L 0 4 w2 R2.out).mono ?_
            rintro e w4 ⟨rfl, hg4, hR4⟩
            have E : Hid (RGives s b d i w L ps 2 0 (.bad 4 i) (.returned (.int .i64 0)) w4) := ⟨L, [], F2.out.trans (Fr.grown hg4), by simpa using P2.out.kept hg4 (fun e => by have := P2.out.block b e; omega) (.inl rfl), fun p hp => by simp at hp, ⟨0, rfl⟩, hR4, by omega, by omega, by omega, by simp⟩
            clear hR4 hg4 R2 P2 F2
            go_wp2_with fail
            go_ret
            exact E.out

end Go.Proofs.Yticmfgclkepgoaa
