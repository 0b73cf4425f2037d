/- The program's regular.Text. -/
import Derived.Test.YticmfgclkepgoaaRRead
import Derived.Test.YticmfgclkepgoaaRWrW
import Derived.Test.YticmfgclkepgoaaRGr
import Derived.Test.YticmfgclkepgoaaHWr
namespace Go.Proofs.Yticmfgclkepgoaa
open Go.RowKit
set_option linter.unusedVariables false
set_option linter.unusedSimpArgs false

theorem LeastOf.few {δ : Nat → Nat → Nat} {m : Nat → Bool} {n l S : Nat} {R : List (List Int)} {M : List Int} (h : LeastOf δ m n l S R M) (hδ : ∀ s a, s < n → a < l → δ s a < n) (hS : S < n) : R.length ≤ n := by
  obtain ⟨κ, hκ⟩ := ner_key δ m n l
  obtain ⟨k, e, rfl, rfl⟩ := h κ hκ
  have hnd := bfsL_nodup κ δ l S k
  have hlt := bfsL_lt κ hδ hS k
  have h1 := nodup_le n (bfsL κ δ l S k) ((List.pairwise_map.1 hnd).imp (fun hne e => hne (by rw [e]))) hlt
  have hR : (resR κ δ l (bfsL κ δ l S k)).length = k := by simp [resR, e.len]
  rw [e.len] at h1
  rw [hR]; exact h1

/-- The words that an automaton accepts are those that a text tells. -/
def TextOf (d : Dfa) (T : ByteArray) : Prop := T.size ≤ 1000 ∧ ∃ m, parseR T = .good m T.size ∧ ∀ z, Lets d.L.toNat z → (tells m z ↔ accD d z = true)
def TextPost (d : Dfa) (w : World) (e : Ending) (w' : World) : Prop := ∃ T, e = .returned (.tuple #[.string T, .int .i64 0]) ∧ TextOf d T ∧ w.grownBy w' none

set_option maxHeartbeats 3200000 in
set_option maxRecDepth 100000 in
theorem textE_bad (L S : Int) (R : List (List Int)) (M : List Int) (a a' : Option Addr) (c c' : Nat) (w : World) (h : DetAt w ⟨L, S, R, M⟩ a a') (hb : checkF ⟨L, S, R, M⟩ ≠ 0) :
    Calls Try.prog 5 #[.agg #[.int .i64 L, .int .i64 S, .slice a R.length c, .slice a' M.length c']] w (Says (.tuple #[.string ⟨#[]⟩, .int .i64 (checkF ⟨L, S, R, M⟩)]) w) := by
  have HC : Hid (∀ W, w.grownBy W none → Calls Try.prog 15 #[.agg #[.int .i64 L, .int .i64 S, .slice a R.length c, .slice a' M.length c']] W (LeastBPost (checkF ⟨L, S, R, M⟩) W)) := fun W hW => leastE_bad L S R M a a' c c' W (h.grown hW) hb
  obtain ⟨y, hy⟩ : ∃ y, checkF ⟨L, S, R, M⟩ = y := ⟨_, rfl⟩
  rw [hy] at HC hb ⊢
  have hy' : (y != 0) = true := by simpa using hb
  have hy'' : (y == 0) = false := by simpa using hb
  obtain ⟨W1, hW1, g1, s1, bx1⟩ := box_new w (.int .i64 L) (.int .i64 S) (.slice a R.length c) (.slice a' M.length c') 25
  have HW1 : Hid (W1 = _) := hW1
  have G1 : Hid (w.grownBy W1 none) := g1
  obtain ⟨y0, y1, y2, y3⟩ := bx1 W1 (grown_refl _ _)
  rw [hW1] at y0 y1 y2 y3
  clear h hy hW1 g1 s1 bx1
  go_enter Try.func5, Try.ntmps5
  go_wp2_with fail
  rw [← HW1.out]
  refine (HC.out _ G1.out).mono ?_
  rintro e w2 ⟨rfl, hg2⟩
  have G2 : Hid (∀ o, w.grownBy (w2.alloc o) none) := fun o => grown_trans (grown_trans G1.out hg2) (grown_alloc _ _)
  clear hg2 y0 y1 y2 y3
  go_wp2_with fail
  exact bodyPost_ret (v := .tuple #[.string ⟨#[]⟩, .int .i64 y]) (by simp [results, Try.results5, go_sem]) rfl ⟨rfl, G2.out _⟩

set_option maxHeartbeats 3200000 in
set_option maxRecDepth 100000 in
theorem textE_size (L S : Int) (R : List (List Int)) (M : List Int) (a a' : Option Addr) (c c' : Nat) (w : World) (h : DetAt w ⟨L, S, R, M⟩ a a') (hG : Good ⟨L, S, R, M⟩) (hn : 3 < R.length) :
    Calls Try.prog 5 #[.agg #[.int .i64 L, .int .i64 S, .slice a R.length c, .slice a' M.length c']] w (Says (.tuple #[.string ⟨#[]⟩, .int .i64 1]) w) := by
  have HC : Hid (∀ W, w.grownBy W none → Calls Try.prog 15 #[.agg #[.int .i64 L, .int .i64 S, .slice a R.length c, .slice a' M.length c']] W fun E w' => ∃ p q n1 n2 c1 c2 l, E = .returned (.tuple #[.agg #[.int .i64 l, .int .i64 0, .slice p n1 c1, .slice q n2 c2], .int .i64 0]) ∧ W.grownBy w' none) := fun W hW => (leastE_good L S R M a a' c c' W (h.grown hW) hG).mono fun E w' hE => by
    obtain ⟨R1, M1, p, c1, q, d, _, rfl, hg, _⟩ := leastD_at (by have := hG.n3; exact this) (by have := hG.l4; simp only at this; omega) hE
    exact ⟨_, _, _, _, _, _, _, rfl, hg⟩
  obtain ⟨W1, hW1, g1, s1, bx1⟩ := box_new w (.int .i64 L) (.int .i64 S) (.slice a R.length c) (.slice a' M.length c') 25
  have HW1 : Hid (W1 = _) := hW1
  have G1 : Hid (w.grownBy W1 none) := g1
  have BX : Hid _ := bx1
  obtain ⟨y0, y1, y2, y3⟩ := bx1 W1 (grown_refl _ _)
  rw [hW1] at y0 y1 y2 y3
  have hn' : (3 : Int) < (R.length : Int) := by omega
  clear h hG hW1 g1 s1 bx1
  go_enter Try.func5, Try.ntmps5
  go_wp2_with fail
  rw [← HW1.out]
  refine (HC.out _ G1.out).mono ?_
  rintro e w2 ⟨p, q, n1, n2, c1, c2, l, rfl, hg2⟩
  clear y0 y1 y2 y3
  obtain ⟨_, _, y2, _⟩ := BX.out (w2.alloc (.cells #[.int .i64 l, .int .i64 0, .slice p n1 c1, .slice q n2 c2] 25)) (grown_trans hg2 (grown_alloc _ _))
  have G2 : Hid (∀ o, w.grownBy (w2.alloc o) none) := fun o => grown_trans (grown_trans G1.out hg2) (grown_alloc _ _)
  clear hg2
  go_wp2_with fail
  exact bodyPost_ret (v := .tuple #[.string ⟨#[]⟩, .int .i64 1]) (by simp [results, Try.results5, go_sem]) rfl ⟨rfl, G2.out _⟩

set_option maxHeartbeats 3200000 in
set_option maxRecDepth 100000 in
theorem textE_good (L S : Int) (R : List (List Int)) (M : List Int) (a a' : Option Addr) (c c' : Nat) (w : World) (h : DetAt w ⟨L, S, R, M⟩ a a') (hG : Good ⟨L, S, R, M⟩) (hn : R.length ≤ 3) :
    Calls Try.prog 5 #[.agg #[.int .i64 L, .int .i64 S, .slice a R.length c, .slice a' M.length c']] w (TextPost ⟨L, S, R, M⟩ w) := by
  have hl4 : L.toNat ≤ 4 := by have := hG.l4; simp only at this; omega
  have hl1 : 1 ≤ L.toNat := by have := hG.l1; simp only at this; omega
  have hnx : ∀ s a, s < R.length → a < L.toNat → Dfa.nx ⟨L, S, R, M⟩ s a < R.length := fun s a hs ha => hG.nx_lt hs (by simp only; omega)
  have hS : S.toNat < R.length := by have := hG.s; simp only at this; omega
  have HC : Hid (∀ W, w.grownBy W none → Calls Try.prog 15 #[.agg #[.int .i64 L, .int .i64 S, .slice a R.length c, .slice a' M.length c']] W fun E w' => ∃ p q n1 n2 c1 c2 T, E = .returned (.tuple #[.agg #[.int .i64 (L.toNat : Int), .int .i64 0, .slice p n1 c1, .slice q n2 c2], .int .i64 0]) ∧ W.grownBy w' none ∧ TextOf ⟨L, S, R, M⟩ T ∧ ∀ V, w'.grownBy V none → Calls Try.prog 16 #[.agg #[.int .i64 (L.toNat : Int), .int .i64 0, .slice p n1 c1, .slice q n2 c2]] V (Says (.string T) V)) := fun W hW => (leastE_good L S R M a a' c c' W (h.grown hW) hG).mono fun E w' hE => by
    obtain ⟨R1, M1, p, c1, q, d, hlo, rfl, hg, hat⟩ := leastD_at (by have := hG.n3; exact this) hl4 hE
    have hG1 : Good ⟨(L.toNat : Int), 0, R1, M1⟩ := LeastOf.good hlo hnx hS hl1 hl4 (by have := hG.n3; simp only at this; omega)
    have hr1 : 1 ≤ R1.length := hG1.n1
    have hf : R1.length ≤ R.length := hlo.few hnx hS
    have hr3 : R1.length ≤ 3 := by omega
    refine ⟨p, q, _, _, c1, d, (writtenY (Dfa.nx ⟨(L.toNat : Int), 0, R1, M1⟩) (Dfa.mk1 ⟨(L.toNat : Int), 0, R1, M1⟩) L.toNat R1.length).1, rfl, hg, ?_, fun V hV => ?_⟩
    · obtain ⟨m, hp, hsz, ht⟩ := written_ok (nx := Dfa.nx ⟨(L.toNat : Int), 0, R1, M1⟩) (mk := Dfa.mk1 ⟨(L.toNat : Int), 0, R1, M1⟩) hr1 hr3 hl4 (fun s a hs ha => hG1.nx_lt hs (by simp only; omega))
      refine ⟨hsz, m, hp, fun z hz => ?_⟩
      have e1 := least_acc hlo hnx hS (z := z) hz
      rw [ht z]
      have e2 : accD ⟨L, S, R, M⟩ z = accD ⟨(L.toNat : Int), 0, R1, M1⟩ z := by rw [e1]; rfl
      rw [e2]
      exact ⟨fun h => h.2, fun h => ⟨hz, h⟩⟩
    · have := written_any (L.toNat : Int) 0 R1 M1 p q c1 d V (hat.grown hV) hG1 hr3
      rwa [Int.toNat_natCast] at this
  obtain ⟨W1, hW1, g1, s1, bx1⟩ := box_new w (.int .i64 L) (.int .i64 S) (.slice a R.length c) (.slice a' M.length c') 25
  have HW1 : Hid (W1 = _) := hW1
  have G1 : Hid (w.grownBy W1 none) := g1
  have BX : Hid _ := bx1
  obtain ⟨y0, y1, y2, y3⟩ := bx1 W1 (grown_refl _ _)
  rw [hW1] at y0 y1 y2 y3
  have hn' : ¬ (3 : Int) < (R.length : Int) := by omega
  clear h hG hW1 g1 s1 bx1 hl4 hl1 hnx hS
  go_enter Try.func5, Try.ntmps5
  go_wp2_with fail
  rw [← HW1.out]
  refine (HC.out _ G1.out).mono ?_
  rintro e w2 ⟨p, q, n1, n2, c1, c2, T, rfl, hg2, hT, hcall⟩
  clear y0 y1 y2 y3
  obtain ⟨lN, hlN⟩ : ∃ lN, (L.toNat : Int) = lN := ⟨_, rfl⟩
  rw [hlN] at hcall ⊢
  obtain ⟨W3, hW3, g3, s3, bx3⟩ := box_new w2 (.int .i64 lN) (.int .i64 0) (.slice p n1 c1) (.slice q n2 c2) 25
  obtain ⟨_, _, y2, _⟩ := BX.out W3 (grown_trans hg2 g3)
  obtain ⟨z0, z1, z2, z3⟩ := bx3 W3 (grown_refl _ _)
  have HCW : Hid (Calls Try.prog 16 #[.agg #[.int .i64 lN, .int .i64 0, .slice p n1 c1, .slice q n2 c2]] W3 (Says (.string T) W3)) := hcall W3 g3
  have HT : Hid (TextOf ⟨L, S, R, M⟩ T) := hT
  have HW3 : Hid (W3 = _) := hW3
  have G3 : Hid (w.grownBy W3 none) := grown_trans (grown_trans G1.out hg2) g3
  rw [hW3] at y2 z0 z1 z2 z3
  clear hg2 hT hcall hW3 g3 s3 bx3 hlN HC
  go_wp2_with fail
  rw [← HW3.out]
  refine HCW.out.mono ?_
  rintro e w4 ⟨rfl, hg4⟩
  have G4 : Hid (w.grownBy w4 none) := grown_trans G3.out hg4
  clear hg4 y2 z0 z1 z2 z3
  go_wp2_with fail
  exact bodyPost_ret (v := .tuple #[.string T, .int .i64 0]) (by simp [results, Try.results5, go_sem]) rfl ⟨T, rfl, HT.out, G4.out⟩

end Go.Proofs.Yticmfgclkepgoaa
