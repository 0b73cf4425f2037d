/- A word is put behind a row of one's own, be it empty or nothing. -/
/- The walk of the law MonoidPowers: where no word counts. -/
import Derived.Test.YtmbbkjpfmmnabaaDoorLOfs
import Derived.Test.YtmbbkjpfmmnabaaDoorHMem
import Derived.Lib.AppendZeros
import Derived.Laws.OwnMore
import Derived.Test.YtmbbkjpfmmnabaaDoorTls
namespace Go.Proofs.YtmbbkjpfmmnabaaDoor
open Go.RowKit
set_option linter.unusedVariables false
set_option linter.unusedSimpArgs false

def AppM (ts : Array TypeId) (ty : TypeId) (args : Array Value) : Sem Value := Builtin.append_ ts ty args
theorem appM_fold (ts : Array TypeId) (ty : TypeId) (args : Array Value) : Builtin.append_ ts ty args = AppM ts ty args := rfl
theorem appM_any {w : World} {B : Nat} {a0 a : Option Addr} {c0 c : Nat} {xs us : List Int} (ho : w.ownsRow B 3 1 (.slice a0 xs.length c0) xs.length (vals xs)) (hB : B ≤ w.heap.size) (hu : Ints w a us) (hl : xs.length + us.length ≤ 1000000) :
    ∃ a1 c1 w', (AppM #[22, 22] 22 #[.slice a0 xs.length c0, .slice a us.length c]).run Tryd.prog w = .ok (.slice a1 (xs.length + us.length) c1) w' ∧ w'.ownsRow B 3 1 (.slice a1 (xs ++ us).length c1) (xs ++ us).length (vals (xs ++ us)) ∧ w.grownBy w' (Value.slice a0 xs.length c0).ownBlock := by
  obtain ⟨i0, hi0, hz0, hz1, hz2⟩ := info_parts Tryd.info3i
  by_cases he : us = []
  · subst he
    refine ⟨a0, c0, w, ?_, by simpa using ho, grown_refl _ _⟩
    have hc := ho.2
    rcases hc with ⟨h1, _⟩ | ⟨g', cap', cur, h1, _, _, h4, _⟩
    · simp only [Value.slice.injEq] at h1
      obtain ⟨rfl, h2, rfl⟩ := h1
      rw [h2]
      cases a with
      | none => simp [AppM, Builtin.append_, run_underlying Tryd.underlying22, sizeOf, typeInfo, zeroValue, hi0, hz0, Builtin.lenOf, run_firstCells_none, storeCells]
      | some b =>
        have hf := run_firstCells_some (P := Tryd.prog) w i0.size 0 b 0 c [] (by simp) (by simp)
        simp [AppM, Builtin.append_, run_underlying Tryd.underlying22, sizeOf, typeInfo, zeroValue, hi0, hz0, Builtin.lenOf, hf, storeCells]
    · simp only [Value.slice.injEq] at h1
      obtain ⟨rfl, _, rfl⟩ := h1
      have h5 : ¬ c0 < xs.length := by omega
      cases a with
      | none => simp [AppM, Builtin.append_, run_underlying Tryd.underlying22, sizeOf, typeInfo, zeroValue, hi0, hz0, Builtin.lenOf, run_firstCells_none, storeCells, h5, h4]
      | some b =>
        have hf := run_firstCells_some (P := Tryd.prog) w i0.size 0 b 0 c [] (by simp) (by simp)
        simp [AppM, Builtin.append_, run_underlying Tryd.underlying22, sizeOf, typeInfo, zeroValue, hi0, hz0, Builtin.lenOf, hf, storeCells, h5, h4]
  · have hlen : 0 < us.length := List.length_pos_iff.2 he
    obtain ⟨b, off, rfl, hc⟩ := hu.at hlen
    obtain ⟨g1, c1, w1, hr, h2, h3, _, _⟩ := run_append_lies (P := Tryd.prog) w 22 22 B 3 i0 (.int .i64 0) 1 8 Tryd.underlying22 hi0 hz0 hz1 hz2 rfl (by decide) (.slice a0 xs.length c0) xs.length (vals xs) ho ⟨b, off, none⟩ us.length c (vals us) (by simp [vals]) (fun j u hu => by
        have hj : j < us.length := by have := (List.getElem?_eq_some_iff.1 hu).1; simpa [vals] using this
        have e : (⟨b, off, none⟩ : Addr).add j = ⟨b, off + j, none⟩ := by by_cases hj0 : j = 0 <;> simp [Addr.add, hj0]
        rw [e, hc j hj, ← hu]
        simp [vals, hj, List.getD]) (by intro u hu; simp [vals] at hu; obtain ⟨x, _, rfl⟩ := hu; rfl) hlen (by unfold maxLen; omega) (by omega) hB _ rfl
    refine ⟨some ⟨g1, 0, none⟩, c1, w1, hr, ?_, h3⟩
    have e : vals xs ++ vals us = vals (xs ++ us) := by simp [vals]
    rw [List.length_append, ← e]
    exact h2

end Go.Proofs.YtmbbkjpfmmnabaaDoor

namespace Go.Proofs.YtmbbkjpfmmnabaaDoor
open Go.RowKit
set_option linter.unusedVariables false

def pwI (zs : List Int) : Nat → List Int
  | 0 => []
  | k + 1 => pwI zs k ++ zs
theorem pwI_len (zs : List Int) (k : Nat) : (pwI zs k).length = k * zs.length := by
  induction k with
  | zero => simp [pwI]
  | succ k ih => simp [pwI, ih, Nat.succ_mul]
/-- A row of one's own. -/
def OwnR (B : Nat) (w : World) (a : Option Addr) (c : Nat) (xs : List Int) : Prop := w.ownsRow B 3 1 (.slice a xs.length c) xs.length (vals xs)
theorem OwnR.ints {B : Nat} {w : World} {a : Option Addr} {c : Nat} {xs : List Int} (h : OwnR B w a c xs) : Ints w a xs := by
  have h1 : Owns B w [(3, .slice a xs.length c, vals xs)] := ⟨fun it hm => by
    rw [List.mem_singleton] at hm
    subst hm
    exact ⟨by simp only [vals_len]; exact h, a, c, by simp only [vals_len]⟩, List.pairwise_singleton _ _⟩
  exact h1.ints.2
theorem OwnR.frame {B : Nat} {w0 w w' : World} {a : Option Addr} {c : Nat} {xs : List Int} (h : OwnR B w a c xs) (h0 : w0.heap.size ≤ B) (h1 : w0.grownBy w none) (h2 : w.grownBy w' (Value.slice a xs.length c).ownBlock) : w0.grownBy w' none := by
  cases hb : (Value.slice a xs.length c).ownBlock with
  | none => rw [hb] at h2; exact grown_trans h1 h2
  | some g =>
    rw [hb] at h2
    have := (World.ownsRow.lt h g hb).1
    exact grown_new h1 h2 (by omega)

attribute [local go_sem ↓] appM_fold in
set_option maxHeartbeats 3200000 in
set_option maxRecDepth 100000 in
theorem mpow_rest (L S : Int) (a a' e : Option Addr) (n m c c' f : Nat) (zs : List Int) (w : World) (hz : Ints w e zs) (hl : zs.length ≤ 10)
    (HC : Hid (∀ W, w.grownBy W none → Calls Tryd.prog 14 #[] W (Says (.bool true) W)))
    (HK : Hid (∀ W, w.grownBy W none → Calls Tryd.prog 19 #[detV L S a n c a' m c'] W (Says (.tuple #[.slice none 0 0, .int .i64 0, .bool false, .int .i64 0]) W)))
    (HA : Hid (∀ W p c1 q c2, w.grownBy W none → Ints W p (pwI zs 5) → Ints W q (pwI zs 6) → Calls Tryd.prog 20 #[detV L S a n c a' m c', .slice p (pwI zs 5).length c1, .slice q (pwI zs 6).length c2] W fun E w' => ∃ a1 n1 c1 a2 n2 c2 is y, E = .returned (.tuple #[.slice a1 n1 c1, .slice a2 n2 c2, .bool is, .int .i64 y]) ∧ (y ≠ 0 ∨ is = true) ∧ W.grownBy w' none)) :
    Calls Tryd.prog 5 #[detV L S a n c a' m c', .slice e zs.length f] w (Says (.bool true) w) := by
  obtain ⟨W1, hW1, g1, s1, bx1⟩ := box_new w (.int .i64 L) (.int .i64 S) (.slice a n c) (.slice a' m c') 25
  have HW1 : Hid (W1 = w.alloc (.cells #[.int .i64 L, .int .i64 S, .slice a n c, .slice a' m c'] 25)) := hW1
  have G1 : Hid (w.grownBy W1 none) := g1
  have BX : Hid (∀ W', W1.grownBy W' none → W'.cell? ⟨w.heap.size, 0, none⟩ = some (.int .i64 L) ∧ W'.cell? ⟨w.heap.size, 1, none⟩ = some (.int .i64 S) ∧ W'.cell? ⟨w.heap.size, 2, none⟩ = some (.slice a n c) ∧ W'.cell? ⟨w.heap.size, 3, none⟩ = some (.slice a' m c')) := bx1
  have HZ : Hid (Ints w e zs) := hz
  have i6 : ¬ (60 : Int) < (zs.length : Int) * 6 := by omega
  clear hW1 g1 s1 bx1 hz
  go_enter Tryd.func5, Tryd.ntmps5
  go_wp2_with fail
  rw [← HW1.out]
  refine (HC.out _ G1.out).mono ?_
  rintro E w2 ⟨rfl, hg2⟩
  have G2 : Hid (W1.grownBy w2 none) := hg2
  obtain ⟨a0, a1, a2, a3⟩ := BX.out w2 hg2
  clear hg2 HW1
  go_wp2_with fail
  refine (HK.out _ (grown_trans G1.out G2.out)).mono ?_
  rintro E w3 ⟨rfl, hg3⟩
  have G3 : Hid (W1.grownBy w3 none) := grown_trans G2.out hg3
  clear hg3 a0 a1 a2 a3 G2
  go_wp2_with fail
  go_loopw [17, 18] (fun v i wr => ∃ (k : Nat) (p : Option Addr) (cp : Nat), i = .int .i64 k ∧ k ≤ 5 ∧ v = .slice p (pwI zs k).length cp ∧ OwnR w3.heap.size wr p cp (pwI zs k) ∧ w3.grownBy wr none) (fun _ i _ => 5 - (intOf i).toNat)
  case atStart => exact ⟨0, none, 0, rfl, by omega, rfl, ⟨rfl, .inl ⟨rfl, rfl⟩⟩, grown_refl _ _⟩
  case round =>
    obtain ⟨k, p, cp, rfl, hk, rfl, ho, hg⟩ := hrel
    have O : Hid (OwnR w3.heap.size wr p cp (pwI zs k)) := ho
    have G : Hid (w3.grownBy wr none) := hg
    have hpl := pwI_len zs k
    clear ho hg
    by_cases hk5 : k < 5
    · have hki : (k : Int) < 5 := by omega
      have hkz : k * zs.length ≤ 5 * 10 := Nat.mul_le_mul (by omega) hl
      obtain ⟨p1, c1, w4, hrun, ho4, hg4⟩ := appM_any (c := f) O.out G.out.size (HZ.out.grown (grown_trans G1.out (grown_trans G3.out G.out))) (by omega)
      have O4 : Hid (OwnR w3.heap.size w4 p1 c1 (pwI zs (k + 1))) := ho4
      have G4 : Hid (w3.grownBy w4 none) := O.out.frame (Nat.le_refl _) G.out hg4
      have el : (pwI zs k).length + zs.length = (pwI zs (k + 1)).length := List.length_append.symm
      rw [el] at hrun
      clear ho4 hg4 hpl hkz
      go_wp2_with fail
      go_roundw
      case rel => exact ⟨k + 1, p1, c1, by go_num, by omega, rfl, O4.out, G4.out⟩
      case measure => simp [intOf]; omega
    · have hki : ¬ (k : Int) < 5 := by omega
      have hke : k = 5 := by omega
      subst hke
      have hl5 : (pwI zs 5).length ≤ 50 := by omega
      clear hpl
      have O0 : OwnR wr.heap.size (wr.alloc (.cells #[] 3)) (some ⟨wr.heap.size, 0, none⟩) 0 [] := ⟨rfl, .inr ⟨wr.heap.size, 0, #[], rfl, Nat.le_refl _, heap_alloc_new wr _, by simp, by unfold maxLen; omega, rfl, by simp [vals]⟩⟩
      obtain ⟨p5, c5, w5, hrun5, ho5, hg5⟩ := appM_any (c := cp) O0 (by simp) (O.out.ints.grown (grown_alloc wr (.cells #[] 3))) (by simp only [List.length_nil]; omega)
      have g5 : wr.grownBy w5 none := OwnR.frame O0 (Nat.le_refl _) (grown_alloc _ _) hg5
      simp only [List.length_nil, Nat.zero_add, List.nil_append] at hrun5 ho5
      obtain ⟨p6, c6, w6, hrun6, ho6, hg6⟩ := appM_any (c := f) ho5 g5.size (HZ.out.grown (grown_trans G1.out (grown_trans G3.out (grown_trans G.out g5)))) (by omega)
      have g6 : wr.grownBy w6 none := OwnR.frame ho5 (Nat.le_refl _) g5 hg6
      have el : (pwI zs 5).length + zs.length = (pwI zs 6).length := List.length_append.symm
      rw [el] at hrun6
      have I5 : Hid (Ints w6 p (pwI zs 5)) := O.out.ints.grown g6
      have I6 : Hid (Ints w6 p6 (pwI zs 6)) := OwnR.ints (xs := pwI zs 6) ho6
      have G6 : Hid (W1.grownBy w6 none) := grown_trans G3.out (grown_trans G.out g6)
      obtain ⟨a0, a1, a2, a3⟩ := BX.out w6 G6.out
      clear O0 ho5 hg5 g5 ho6 hg6 g6 el
      go_wp2_with fail
      refine (HA.out _ _ _ _ _ (grown_trans G1.out G6.out) I5.out I6.out).mono ?_
      rintro E w7 ⟨x1, n1, y1, x2, n2, y2, is, y, rfl, hor, hg7⟩
      have G7 : Hid (w.grownBy w7 none) := grown_trans G1.out (grown_trans G6.out hg7)
      clear hg7 a0 a1 a2 a3
      by_cases hy : y = 0
      · have f1 : (y != 0) = false := by simpa using hy
        have f2 : is = true := by
          rcases hor with h | h
          · exact absurd hy h
          · exact h
        subst f2
        go_wp2_with fail
        go_ret
        exact ⟨rfl, G7.out⟩
      · have f1 : (y != 0) = true := by simpa using hy
        go_wp2_with fail
        go_ret
        exact ⟨rfl, G7.out⟩

attribute [local go_sem ↓] appM_fold in
set_option maxHeartbeats 3200000 in
set_option maxRecDepth 100000 in
theorem mpow_counts (L S : Int) (a a' e0 : Option Addr) (n m c c' f0 k0 : Nat) (w : World) (Q : List Int → Nat → Prop) (hQ : Hid (∀ zs N, Q zs N → 1 < N ∧ N ≤ 5 ∧ zs.length ≤ 100000))
    (HC : Hid (∀ W, w.grownBy W none → Calls Tryd.prog 14 #[] W (Says (.bool true) W)))
    (HK : Hid (∀ W, w.grownBy W none → Calls Tryd.prog 19 #[detV L S a n c a' m c'] W fun E w' => ∃ zs N e f, Q zs N ∧ E = .returned (.tuple #[.slice e zs.length f, .int .i64 (N : Int), .bool true, .int .i64 0]) ∧ Ints w' e zs ∧ W.grownBy w' none))
    (HA : Hid (∀ zs N W p c1 q c2, Q zs N → w.grownBy W none → (pwI zs 6).length ≤ 60 → Ints W p (pwI zs 5) → Ints W q (pwI zs 6) → Calls Tryd.prog 20 #[detV L S a n c a' m c', .slice p (pwI zs 5).length c1, .slice q (pwI zs 6).length c2] W fun E w' => ∃ a1 n1 c1 a2 n2 c2, E = .returned (.tuple #[.slice a1 n1 c1, .slice a2 n2 c2, .bool false, .int .i64 0]) ∧ W.grownBy w' none)) :
    Calls Tryd.prog 5 #[detV L S a n c a' m c', .slice e0 k0 f0] w (Says (.bool true) w) := by
  obtain ⟨W1, hW1, g1, s1, bx1⟩ := box_new w (.int .i64 L) (.int .i64 S) (.slice a n c) (.slice a' m c') 25
  have HW1 : Hid (W1 = w.alloc (.cells #[.int .i64 L, .int .i64 S, .slice a n c, .slice a' m c'] 25)) := hW1
  have G1 : Hid (w.grownBy W1 none) := g1
  have BX : Hid (∀ W', W1.grownBy W' none → W'.cell? ⟨w.heap.size, 0, none⟩ = some (.int .i64 L) ∧ W'.cell? ⟨w.heap.size, 1, none⟩ = some (.int .i64 S) ∧ W'.cell? ⟨w.heap.size, 2, none⟩ = some (.slice a n c) ∧ W'.cell? ⟨w.heap.size, 3, none⟩ = some (.slice a' m c')) := bx1
  clear hW1 g1 s1 bx1
  go_enter Tryd.func5, Tryd.ntmps5
  go_wp2_with fail
  rw [← HW1.out]
  refine (HC.out _ G1.out).mono ?_
  rintro E w2 ⟨rfl, hg2⟩
  have G2 : Hid (W1.grownBy w2 none) := hg2
  obtain ⟨a0, a1, a2, a3⟩ := BX.out w2 hg2
  clear hg2 HW1
  go_wp2_with fail
  refine (HK.out _ (grown_trans G1.out G2.out)).mono ?_
  rintro E w3 ⟨zs, N, e, f, hq, rfl, hz, hg3⟩
  have HQ : Hid (Q zs N) := hq
  obtain ⟨hN, hN5, hl⟩ := hQ.out zs N hq
  have hNi : (1 : Int) < (N : Int) := by omega
  clear hq
  have G3 : Hid (W1.grownBy w3 none) := grown_trans G2.out hg3
  have HZ : Hid (Ints w3 e zs) := hz
  clear hz hg3 a0 a1 a2 a3 G2
  go_wp2_with fail
  go_loopw [10, 11] (fun v i wr => ∃ (k : Nat) (p : Option Addr) (cp : Nat), i = .int .i64 k ∧ k ≤ 5 ∧ v = .slice p (pwI zs k).length cp ∧ OwnR w3.heap.size wr p cp (pwI zs k) ∧ w3.grownBy wr none) (fun _ i _ => 5 - (intOf i).toNat)
  case atStart => exact ⟨0, none, 0, rfl, by omega, rfl, ⟨rfl, .inl ⟨rfl, rfl⟩⟩, grown_refl _ _⟩
  case round =>
    obtain ⟨k, p, cp, rfl, hk, rfl, ho, hg⟩ := hrel
    have O : Hid (OwnR w3.heap.size wr p cp (pwI zs k)) := ho
    have G : Hid (w3.grownBy wr none) := hg
    have hpl := pwI_len zs k
    clear ho hg
    by_cases hk5 : k < 5
    · have hki : (k : Int) < 5 := by omega
      have hkz : k * zs.length ≤ 5 * 100000 := Nat.mul_le_mul (by omega) hl
      obtain ⟨p1, c1, w4, hrun, ho4, hg4⟩ := appM_any (c := f) O.out G.out.size (HZ.out.grown G.out) (by omega)
      have O4 : Hid (OwnR w3.heap.size w4 p1 c1 (pwI zs (k + 1))) := ho4
      have G4 : Hid (w3.grownBy w4 none) := O.out.frame (Nat.le_refl _) G.out hg4
      have el : (pwI zs k).length + zs.length = (pwI zs (k + 1)).length := List.length_append.symm
      rw [el] at hrun
      clear ho4 hg4 hpl hkz
      go_wp2_with fail
      go_roundw
      case rel => exact ⟨k + 1, p1, c1, by go_num, by omega, rfl, O4.out, G4.out⟩
      case measure => simp [intOf]; omega
    · have hki : ¬ (k : Int) < 5 := by omega
      have hke : k = 5 := by omega
      subst hke
      have hl5 : (pwI zs 5).length ≤ 500000 := by omega
      clear hpl
      have O0 : OwnR wr.heap.size (wr.alloc (.cells #[] 3)) (some ⟨wr.heap.size, 0, none⟩) 0 [] := ⟨rfl, .inr ⟨wr.heap.size, 0, #[], rfl, Nat.le_refl _, heap_alloc_new wr _, by simp, by unfold maxLen; omega, rfl, by simp [vals]⟩⟩
      obtain ⟨p5, c5, w5, hrun5, ho5, hg5⟩ := appM_any (c := cp) O0 (by simp) (O.out.ints.grown (grown_alloc wr (.cells #[] 3))) (by simp only [List.length_nil]; omega)
      have g5 : wr.grownBy w5 none := OwnR.frame O0 (Nat.le_refl _) (grown_alloc _ _) hg5
      simp only [List.length_nil, Nat.zero_add, List.nil_append] at hrun5 ho5
      obtain ⟨p6, c6, w6, hrun6, ho6, hg6⟩ := appM_any (c := f) ho5 g5.size (HZ.out.grown (grown_trans G.out g5)) (by omega)
      have g6 : wr.grownBy w6 none := OwnR.frame ho5 (Nat.le_refl _) g5 hg6
      have el : (pwI zs 5).length + zs.length = (pwI zs 6).length := List.length_append.symm
      rw [el] at hrun6
      have I5 : Hid (Ints w6 p (pwI zs 5)) := O.out.ints.grown g6
      have I6 : Hid (Ints w6 p6 (pwI zs 6)) := OwnR.ints (xs := pwI zs 6) ho6
      have G6 : Hid (W1.grownBy w6 none) := grown_trans G3.out (grown_trans G.out g6)
      obtain ⟨a0, a1, a2, a3⟩ := BX.out w6 G6.out
      clear O0 ho5 hg5 g5 ho6 hg6 g6 el
      by_cases h60 : 60 < (pwI zs 6).length
      · have h60i : (60 : Int) < ((pwI zs 6).length : Int) := by omega
        go_wp2_with fail
        go_ret
        exact ⟨rfl, grown_trans G1.out G6.out⟩
      · have h60i : ¬ (60 : Int) < ((pwI zs 6).length : Int) := by omega
        go_wp2_with fail
        refine (HA.out _ _ _ _ _ _ _ HQ.out (grown_trans G1.out G6.out) (by omega) I5.out I6.out).mono ?_
        rintro E w7 ⟨x1, n1, y1, x2, n2, y2, rfl, hg7⟩
        have G7 : Hid (w.grownBy w7 none) := grown_trans G1.out (grown_trans G6.out hg7)
        clear hg7 a0 a1 a2 a3
        go_wp2_with fail
        go_ret
        exact ⟨rfl, G7.out⟩

set_option maxHeartbeats 1600000 in
set_option maxRecDepth 100000 in
theorem mpow_bad (L S y : Int) (a a' e : Option Addr) (n m c c' f k : Nat) (w : World) (hy : y ≠ 0)
    (HC : Hid (∀ W, w.grownBy W none → Calls Tryd.prog 14 #[] W (Says (.bool true) W)))
    (HK : Hid (∀ W, w.grownBy W none → Calls Tryd.prog 19 #[detV L S a n c a' m c'] W (Says (.tuple #[.slice none 0 0, .int .i64 0, .bool false, .int .i64 y]) W))) :
    Calls Tryd.prog 5 #[detV L S a n c a' m c', .slice e k f] w (Says (.bool true) w) := by
  have f1 : (y != 0) = true := by simpa using hy
  obtain ⟨W1, hW1, g1, s1, bx1⟩ := box_new w (.int .i64 L) (.int .i64 S) (.slice a n c) (.slice a' m c') 25
  have HW1 : Hid (W1 = w.alloc (.cells #[.int .i64 L, .int .i64 S, .slice a n c, .slice a' m c'] 25)) := hW1
  have G1 : Hid (w.grownBy W1 none) := g1
  have BX : Hid (∀ W', W1.grownBy W' none → W'.cell? ⟨w.heap.size, 0, none⟩ = some (.int .i64 L) ∧ W'.cell? ⟨w.heap.size, 1, none⟩ = some (.int .i64 S) ∧ W'.cell? ⟨w.heap.size, 2, none⟩ = some (.slice a n c) ∧ W'.cell? ⟨w.heap.size, 3, none⟩ = some (.slice a' m c')) := bx1
  clear hW1 g1 s1 bx1
  go_enter Tryd.func5, Tryd.ntmps5
  go_wp2_with fail
  rw [← HW1.out]
  refine (HC.out _ G1.out).mono ?_
  rintro E w2 ⟨rfl, hg2⟩
  have G2 : Hid (W1.grownBy w2 none) := hg2
  obtain ⟨a0, a1, a2, a3⟩ := BX.out w2 hg2
  clear hg2 HW1
  go_wp2_with fail
  refine (HK.out _ (grown_trans G1.out G2.out)).mono ?_
  rintro E w3 ⟨rfl, hg3⟩
  have G3 : Hid (W1.grownBy w3 none) := grown_trans G2.out hg3
  clear hg3 a0 a1 a2 a3 G2
  go_wp2_with fail
  go_ret
  exact ⟨rfl, grown_trans G1.out G3.out⟩

set_option maxHeartbeats 1600000 in
set_option maxRecDepth 100000 in
theorem mpow_long (L S : Int) (a a' e : Option Addr) (n m c c' f k : Nat) (w : World) (hk : 10 < k) (hkm : k ≤ 1000000000000000000)
    (HC : Hid (∀ W, w.grownBy W none → Calls Tryd.prog 14 #[] W (Says (.bool true) W)))
    (HK : Hid (∀ W, w.grownBy W none → Calls Tryd.prog 19 #[detV L S a n c a' m c'] W (Says (.tuple #[.slice none 0 0, .int .i64 0, .bool false, .int .i64 0]) W))) :
    Calls Tryd.prog 5 #[detV L S a n c a' m c', .slice e k f] w (Says (.bool true) w) := by
  have i6 : (60 : Int) < (k : Int) * 6 := by omega
  obtain ⟨W1, hW1, g1, s1, bx1⟩ := box_new w (.int .i64 L) (.int .i64 S) (.slice a n c) (.slice a' m c') 25
  have HW1 : Hid (W1 = w.alloc (.cells #[.int .i64 L, .int .i64 S, .slice a n c, .slice a' m c'] 25)) := hW1
  have G1 : Hid (w.grownBy W1 none) := g1
  have BX : Hid (∀ W', W1.grownBy W' none → W'.cell? ⟨w.heap.size, 0, none⟩ = some (.int .i64 L) ∧ W'.cell? ⟨w.heap.size, 1, none⟩ = some (.int .i64 S) ∧ W'.cell? ⟨w.heap.size, 2, none⟩ = some (.slice a n c) ∧ W'.cell? ⟨w.heap.size, 3, none⟩ = some (.slice a' m c')) := bx1
  clear hW1 g1 s1 bx1
  go_enter Tryd.func5, Tryd.ntmps5
  go_wp2_with fail
  rw [← HW1.out]
  refine (HC.out _ G1.out).mono ?_
  rintro E w2 ⟨rfl, hg2⟩
  have G2 : Hid (W1.grownBy w2 none) := hg2
  obtain ⟨a0, a1, a2, a3⟩ := BX.out w2 hg2
  clear hg2 HW1
  go_wp2_with fail
  refine (HK.out _ (grown_trans G1.out G2.out)).mono ?_
  rintro E w3 ⟨rfl, hg3⟩
  have G3 : Hid (W1.grownBy w3 none) := grown_trans G2.out hg3
  clear hg3 a0 a1 a2 a3 G2
  go_wp2_with fail
  go_ret
  exact ⟨rfl, grown_trans G1.out G3.out⟩

end Go.Proofs.YtmbbkjpfmmnabaaDoor
