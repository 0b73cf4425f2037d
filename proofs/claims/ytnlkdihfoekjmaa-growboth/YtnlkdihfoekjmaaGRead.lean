/- What the solver reads: the least mark of a part, which places have a mark or a winner, what each place needs. -/
import Derived.Test.YtnlkdihfoekjmaaGSet
import Derived.Test.YtnlkdihfoekjmaaGQue
namespace Go.Proofs.Ytnlkdihfoekjmaa
open Go.RowKit
set_option linter.unusedVariables false

/-- The least mark of a part, at most the greatest number. -/
def Low (G : Gm) (l : List Nat) (y : Int) : Prop := (∀ p, p ∈ l → y ≤ G.mark p) ∧ (y = 9223372036854775807 ∨ ∃ p, p ∈ l ∧ G.mark p = y)
theorem Low.put {G : Gm} {l : List Nat} {y z : Int} {p : Nat} (h : Low G l y) (hz : z = min y (G.mark p)) : Low G (l ++ [p]) z := by
  refine ⟨fun q hq => ?_, ?_⟩
  · rcases List.mem_append.1 hq with hq | hq
    · have := h.1 q hq; omega
    · simp at hq; subst hq; omega
  · by_cases e : y ≤ G.mark p
    · have : z = y := by omega
      subst this
      rcases h.2 with e1 | ⟨q, hq, e1⟩
      · exact .inl e1
      · exact .inr ⟨q, by simp [hq], e1⟩
    · exact .inr ⟨p, by simp, by omega⟩
def LowPost (G : Gm) (o : Nat → Bool) (w : World) (E : Ending) (w' : World) : Prop := ∃ y : Int, E = .returned (.int .i64 y) ∧ Low G (plcs G.n o) y ∧ w.grownBy w' none

set_option maxHeartbeats 1600000 in
set_option maxRecDepth 100000 in
theorem leastMark_any (G : Gm) (fr : Nat → List Nat) (B : Box) (g c : Nat) (o : Nat → Bool) (w : World) (hR : Ready G fr B w) (h : BRow w g G.n c o) (hn : G.n ≤ 100) :
    Calls Try.prog 36 #[.pointer (some ⟨B.s, 0, none⟩), .slice (some ⟨g, 0, none⟩) G.n c] w (LowPost G o w) := by
  have HP : Hid (Calls Try.prog 47 #[.slice (some ⟨g, 0, none⟩) G.n c] w (PlcsPost G.n o w)) := places_any G.n g c o w h hn
  have R : Hid (Ready G fr B w) := hR
  obtain ⟨P, hP⟩ : ∃ P, P = LowPost G o w := ⟨_, rfl⟩
  have HPo : Hid (P = LowPost G o w) := hP
  rw [← hP]
  obtain ⟨n, hnn⟩ : ∃ n, G.n = n := ⟨_, rfl⟩
  have HN : Hid (G.n = n) := hnn
  rw [hnn] at HP hn ⊢
  clear hR h hP hnn
  go_enter Try.func36, Try.ntmps36
  go_wp2_with fail
  refine HP.out.mono ?_
  rintro E w2 ⟨a, ca, m, hm, rfl, ho, hg2⟩
  have O : Hid (Owns w.heap.size w2 [(3, .slice a m ca, nvals (plcs n o))]) := ho
  have G2 : Hid (w.grownBy w2 none) := hg2
  have HM : Hid (m = (plcs n o).length) := hm
  have hm60 : m ≤ 100 := by have := plcs_len n o; omega
  clear HP ho hg2 hm
  go_wp2_with fail
  go_loop [5, 11] (fun u v => ∃ (k : Nat) (y : Int), k ≤ m ∧ v = .int .i64 k ∧ u = .int .i64 y ∧ Low G ((plcs n o).take k) y) (fun _ v => m - (intOf v).toNat)
  case atStart => exact ⟨0, 9223372036854775807, by omega, rfl, rfl, fun p hp => by simp at hp, .inl rfl⟩
  case round =>
    obtain ⟨k, y, hk, rfl, rfl, hl⟩ := hrel
    have HL : Hid (Low G ((plcs n o).take k) y) := hl
    clear hl
    by_cases hlt : k < m
    · have hki : (k : Int) < (m : Int) := by omega
      have hkl : k < (plcs n o).length := by rw [← HM.out]; exact hlt
      obtain ⟨b, off, rfl, hc⟩ := O.out.nats.2.at hkl
      have hck := hc k hkl
      obtain ⟨p, hp⟩ : ∃ p, (plcs n o).getD k 0 = p := ⟨_, rfl⟩
      have hpe : (plcs n o)[k] = p := by rw [← hp]; simp [List.getD, hkl]
      have hpn : p < n := (plcs_mem.1 (hpe ▸ List.getElem_mem hkl)).1
      rw [hp] at hck
      have h1 := (R.out.at G2.out).mark0
      have h2 := (R.out.at G2.out).mark
      rw [HN.out] at h1 h2
      have hmk := h2 p hpn
      have HL2 : Hid (∀ z, z = min y (G.mark p) → Low G ((plcs n o).take (k + 1)) z) := fun z hz => by
        rw [List.take_add_one, List.getElem?_eq_getElem hkl, hpe]
        exact HL.out.put hz
      generalize G.mark p = mp at *
      have hpi : (p : Int) < (n : Int) := by omega
      clear hc hp hpe h2
      by_cases hle : y ≤ mp
      · have hmin : min y mp = y := by omega
        go_wp2_with fail
        go_round
        case rel => exact ⟨k + 1, _, by omega, by go_num, rfl, HL2.out _ (by first | rfl | omega)⟩
        case measure => simp [intOf]; omega
      · have hmin : min y mp = mp := by omega
        go_wp2_with fail
        go_round
        case rel => exact ⟨k + 1, _, by omega, by go_num, rfl, HL2.out _ (by first | rfl | omega)⟩
        case measure => simp [intOf]; omega
    · have hki : ¬ (k : Int) < (m : Int) := by omega
      have HL3 : Hid (Low G (plcs G.n o) y) := by
        have h1 := HL.out
        rw [List.take_of_length_le (by rw [← HM.out]; omega)] at h1
        show Low _ _ _
        rw [HN.out]; exact h1
      go_wp2_with fail
      rw [HPo.out]
      exact ⟨y, rfl, HL3.out, G2.out⟩

set_option maxHeartbeats 1600000 in
set_option maxRecDepth 100000 in
theorem marked_any (G : Gm) (fr : Nat → List Nat) (B : Box) (g c : Nat) (m : Int) (o : Nat → Bool) (w : World) (hR : Ready G fr B w) (h : BRow w g G.n c o) (hn : G.n ≤ 100) :
    Calls Try.prog 37 #[.pointer (some ⟨B.s, 0, none⟩), .int .i64 m, .slice (some ⟨g, 0, none⟩) G.n c] w (SetPost G.n (fun p => o p && decide (G.mark p = m)) w) := by
  have R : Hid (Ready G fr B w) := hR
  have H : Hid (BRow w g G.n c o) := h
  obtain ⟨P, hP⟩ : ∃ P, P = SetPost G.n (fun p => o p && decide (G.mark p = m)) w := ⟨_, rfl⟩
  have HPo : Hid (P = SetPost G.n (fun p => o p && decide (G.mark p = m)) w) := hP
  rw [← hP]
  obtain ⟨n, hnn⟩ : ∃ n, G.n = n := ⟨_, rfl⟩
  have HN : Hid (G.n = n) := hnn
  rw [hnn] at H hn ⊢
  obtain ⟨W1, hmk, r1, g1, s1⟩ := set_make w n (by omega)
  have R1 : Hid (BRow W1 w.heap.size n n (fun _ => false)) := r1
  have G1 : Hid (w.grownBy W1 none) := g1
  clear hR h hP hnn r1 g1 s1
  go_enter Try.func37, Try.ntmps37
  go_wp2_with fail
  clear hmk
  obtain ⟨g2, hg2⟩ : ∃ g2, w.heap.size = g2 := ⟨_, rfl⟩
  have HG2 : Hid (w.heap.size = g2) := hg2
  rw [hg2] at R1 ⊢
  clear hg2
  go_loopw [15] (fun v wr => ∃ k : Nat, k ≤ n ∧ v = .int .i64 k ∧ BRow wr g2 n n (fun p => decide (p < k) && (o p && decide (G.mark p = m))) ∧ w.grownBy wr none) (fun v _ => n - (intOf v).toNat)
  case atStart => exact ⟨0, by omega, rfl, R1.out.congr (fun i hi => by simp), G1.out⟩
  case round =>
    clear R1 G1
    rename World => wr
    obtain ⟨k, hk, rfl, hr, hg⟩ := hrel
    have RR : Hid (BRow wr g2 n n (fun p => decide (p < k) && (o p && decide (G.mark p = m)))) := hr
    have GG : Hid (w.grownBy wr none) := hg
    clear hr hg
    by_cases hlt : k < n
    · have hki : (k : Int) < (n : Int) := by omega
      have c0 := RR.out.cell hlt
      have e0 : (decide (k < k) && (o k && decide (G.mark k = m))) = false := by simp
      simp only [e0] at c0
      have f0 := RR.out.frozen k
      have c1 := (H.out.kept GG.out).cell hlt
      have R3 : Hid (∀ b, (o k && decide (G.mark k = m)) = b → BRow (wr.setCell ⟨g2, k, none⟩ (.bool b)) g2 n n (fun p => decide (p < k + 1) && (o p && decide (G.mark p = m)))) := fun b hb => RR.out.put hlt (by simpa using hb) (fun j hj => by
        have : decide (j < k + 1) = decide (j < k) := by simp; omega
        simp [this])
      have G3 : Hid (∀ v, w.grownBy (wr.setCell ⟨g2, k, none⟩ v) none) := fun v => grown_new GG.out (grown_set _ _ _) (by rw [HG2.out]; exact Nat.le_refl _)
      have h1 := (R.out.at GG.out).mark0
      have h2 := (R.out.at GG.out).mark
      rw [HN.out] at h1 h2
      have hmk := h2 k hlt
      clear RR e0 h2
      cases ho : o k with
      | false =>
        rw [ho] at c1 R3
        clear ho
        go_wp2_with fail
        go_roundw
        case rel => exact ⟨k + 1, by omega, by go_num, R3.out _ (by simp), G3.out _⟩
        case measure => simp [intOf]; omega
      | true =>
        rw [ho] at c1 R3
        clear ho
        generalize G.mark k = mk at *
        by_cases e : mk = m
        · have e' : (mk == m) = true := by simpa using e
          go_wp2_with fail
          go_roundw
          case rel => exact ⟨k + 1, by omega, by go_num, R3.out _ (by simp [e]), G3.out _⟩
          case measure => simp [intOf]; omega
        · have e' : (mk == m) = false := by simpa using e
          go_wp2_with fail
          go_roundw
          case rel => exact ⟨k + 1, by omega, by go_num, R3.out _ (by simp [e]), G3.out _⟩
          case measure => simp [intOf]; omega
    · have hki : ¬ (k : Int) < (n : Int) := by omega
      have hkn : k = n := by omega
      subst hkn
      go_wp2_with fail
      rw [HPo.out, HN.out]
      exact ⟨g2, k, rfl, RR.out.congr (fun i hi => by simp [hi]), by rw [HG2.out]; exact Nat.le_refl _, GG.out⟩

set_option maxHeartbeats 1600000 in
set_option maxRecDepth 100000 in
theorem wonBy_any (G : Gm) (fr : Nat → List Nat) (B : Box) (g c : Nat) (m : Int) (o : Nat → Bool) (Wn : Nat → Int) (w : World) (hR : Ready G fr B w) (h : BRow w g G.n c o) (hW : IRow w B.bw G.n G.n Wn) (hn : G.n ≤ 100) :
    Calls Try.prog 40 #[.pointer (some ⟨B.s, 0, none⟩), .int .i64 m, .slice (some ⟨g, 0, none⟩) G.n c] w (SetPost G.n (fun p => o p && decide (Wn p = m)) w) := by
  have R : Hid (Ready G fr B w) := hR
  have H : Hid (BRow w g G.n c o) := h
  have HW : Hid (IRow w B.bw G.n G.n Wn) := hW
  obtain ⟨P, hP⟩ : ∃ P, P = SetPost G.n (fun p => o p && decide (Wn p = m)) w := ⟨_, rfl⟩
  have HPo : Hid (P = SetPost G.n (fun p => o p && decide (Wn p = m)) w) := hP
  rw [← hP]
  obtain ⟨n, hnn⟩ : ∃ n, G.n = n := ⟨_, rfl⟩
  have HN : Hid (G.n = n) := hnn
  rw [hnn] at H HW hn ⊢
  obtain ⟨W1, hmk, r1, g1, s1⟩ := set_make w n (by omega)
  have R1 : Hid (BRow W1 w.heap.size n n (fun _ => false)) := r1
  have G1 : Hid (w.grownBy W1 none) := g1
  clear hR h hP hnn r1 g1 s1 hW
  go_enter Try.func40, Try.ntmps40
  go_wp2_with fail
  clear hmk
  obtain ⟨g2, hg2⟩ : ∃ g2, w.heap.size = g2 := ⟨_, rfl⟩
  have HG2 : Hid (w.heap.size = g2) := hg2
  rw [hg2] at R1 ⊢
  clear hg2
  go_loopw [15] (fun v wr => ∃ k : Nat, k ≤ n ∧ v = .int .i64 k ∧ BRow wr g2 n n (fun p => decide (p < k) && (o p && decide (Wn p = m))) ∧ w.grownBy wr none) (fun v _ => n - (intOf v).toNat)
  case atStart => exact ⟨0, by omega, rfl, R1.out.congr (fun i hi => by simp), G1.out⟩
  case round =>
    clear R1 G1
    rename World => wr
    obtain ⟨k, hk, rfl, hr, hg⟩ := hrel
    have RR : Hid (BRow wr g2 n n (fun p => decide (p < k) && (o p && decide (Wn p = m)))) := hr
    have GG : Hid (w.grownBy wr none) := hg
    clear hr hg
    by_cases hlt : k < n
    · have hki : (k : Int) < (n : Int) := by omega
      have c0 := RR.out.cell hlt
      have e0 : (decide (k < k) && (o k && decide (Wn k = m))) = false := by simp
      simp only [e0] at c0
      have f0 := RR.out.frozen k
      have c1 := (H.out.kept GG.out).cell hlt
      have R3 : Hid (∀ b, (o k && decide (Wn k = m)) = b → BRow (wr.setCell ⟨g2, k, none⟩ (.bool b)) g2 n n (fun p => decide (p < k + 1) && (o p && decide (Wn p = m)))) := fun b hb => RR.out.put hlt (by simpa using hb) (fun j hj => by
        have : decide (j < k + 1) = decide (j < k) := by simp; omega
        simp [this])
      have G3 : Hid (∀ v, w.grownBy (wr.setCell ⟨g2, k, none⟩ v) none) := fun v => grown_new GG.out (grown_set _ _ _) (by rw [HG2.out]; exact Nat.le_refl _)
      have h1 := (R.out.at GG.out).won
      rw [HN.out] at h1
      have hmk := (HW.out.kept GG.out).cell hlt
      clear RR e0
      cases ho : o k with
      | false =>
        rw [ho] at c1 R3
        clear ho
        go_wp2_with fail
        go_roundw
        case rel => exact ⟨k + 1, by omega, by go_num, R3.out _ (by simp), G3.out _⟩
        case measure => simp [intOf]; omega
      | true =>
        rw [ho] at c1 R3
        clear ho
        generalize Wn k = mk at *
        by_cases e : mk = m
        · have e' : (mk == m) = true := by simpa using e
          go_wp2_with fail
          go_roundw
          case rel => exact ⟨k + 1, by omega, by go_num, R3.out _ (by simp [e]), G3.out _⟩
          case measure => simp [intOf]; omega
        · have e' : (mk == m) = false := by simpa using e
          go_wp2_with fail
          go_roundw
          case rel => exact ⟨k + 1, by omega, by go_num, R3.out _ (by simp [e]), G3.out _⟩
          case measure => simp [intOf]; omega
    · have hki : ¬ (k : Int) < (n : Int) := by omega
      have hkn : k = n := by omega
      subst hkn
      go_wp2_with fail
      rw [HPo.out, HN.out]
      exact ⟨g2, k, rfl, RR.out.congr (fun i hi => by simp [hi]), by rw [HG2.out]; exact Nat.le_refl _, GG.out⟩

end Go.Proofs.Ytnlkdihfoekjmaa
