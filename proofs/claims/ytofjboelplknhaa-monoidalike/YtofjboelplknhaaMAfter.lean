/- The reference's After, and Does: where a word leads, what it does. -/
import Derived.Test.YtofjboelplknhaaMSmall
import Derived.Test.YtofjboelplknhaaMDeed
import Derived.Test.YtofjboelplknhaaHBackD
import Derived.Test.YtofjboelplknhaaRLeast
import Derived.RegionTactic
import Derived.BigRegion
namespace Go.Proofs.Ytofjboelplknhaa
open Go.RowKit
set_option linter.unusedVariables false
attribute [local go_sem ↓] app_fold

theorem fold_take {δ : Nat → Nat → Nat} (us : List Nat) (q : Nat) {i : Nat} (h : i < us.length) : (us.take (i + 1)).foldl δ q = δ ((us.take i).foldl δ q) (us.getD i 0) := by
  rw [List.take_add_one, List.getElem?_eq_getElem h, List.foldl_append]
  simp [List.getD, h]

def IsAt (us : List Nat) (δ : Nat → Nat → Nat) (q i p : Nat) : Prop := (us.take i).foldl δ q = p

set_option maxHeartbeats 1600000 in
set_option maxRecDepth 100000 in
theorem afterR_any (S : Int) (l : Nat) (R : List (List Int)) (M : List Int) (a a' aw : Option Addr) (cc cc' cw q : Nat) (us : List Nat) (w : World) (h : DetAt w ⟨l, S, R, M⟩ a a') (hG : Good ⟨l, S, R, M⟩) (hq : q < R.length) (hu : ∀ x, x ∈ us → x < l) (hi : Ints w aw (natInts us)) (hl : us.length ≤ 100000000) :
    Calls Try.prog 28 #[detV l S a R.length cc a' M.length cc', .int .i64 (q : Nat), .slice aw us.length cw] w (Says (.int .i64 ((us.foldl (Dfa.nx ⟨l, S, R, M⟩) q : Nat) : Int)) w) := by
  have hn1 : 1 ≤ R.length := hG.n1
  have hn3 : R.length ≤ 3000 := hG.n3
  obtain ⟨ba, oa, rfl, _⟩ := h.rows.at (k := 0) (by simp only; omega)
  have HR : Hid (∀ W p x, w.grownBy W none → p < R.length → x < l → ∃ bx ox cx, W.cell? ⟨ba, oa + p, none⟩ = some (.slice (some ⟨bx, ox, none⟩) l cx) ∧ W.cell? ⟨bx, ox + x, none⟩ = some (.int .i64 ((Dfa.nx ⟨l, S, R, M⟩ p x : Nat) : Int))) := fun W p x hW hp hx => by
    obtain ⟨b, off, bx, ox, cx, ha, h1, h2⟩ := step_reads (l := x) (h.grown hW) hG hp (by omega)
    cases ha
    simp only [Int.toNat_natCast] at h1
    exact ⟨bx, ox, cx, h1, h2⟩
  have HLt : Hid (∀ i, (us.take i).foldl (Dfa.nx ⟨l, S, R, M⟩) q < R.length) := fun i => by
    have key : ∀ (z : List Nat) (s : Nat), s < R.length → (∀ x, x ∈ z → x < l) → z.foldl (Dfa.nx ⟨l, S, R, M⟩) s < R.length := by
      intro z
      induction z with
      | nil => intro s hs _; exact hs
      | cons x z ih => intro s hs hz; exact ih _ (hG.nx_lt hs (by simp; exact hz x (by simp))) (fun y hy => hz y (by simp [hy]))
    exact key _ q hq (fun x hx => hu x (List.mem_of_mem_take hx))
  generalize Dfa.nx ⟨l, S, R, M⟩ = δ at *
  obtain ⟨n, hn⟩ : ∃ n, R.length = n := ⟨_, rfl⟩
  obtain ⟨mn, hmn⟩ : ∃ mn, M.length = mn := ⟨_, rfl⟩
  rw [hn] at HR HLt hn1 hn3 hq ⊢
  rw [hmn]
  have HU : Hid (∀ i, i < us.length → us.getD i 0 < l) := fun i hi => hu _ (getD_mem hi)
  have HI : Hid (Ints w aw (natInts us)) := hi
  have HT : Hid (∀ i, i < us.length → (us.take (i + 1)).foldl δ q = δ ((us.take i).foldl δ q) (us.getD i 0)) := fun i hi => fold_take us q hi
  have HF : Hid ((us.take us.length).foldl δ q = us.foldl δ q) := by show _ = _; rw [List.take_length]
  obtain ⟨W1, hW1, g1, s1, bx1⟩ := box_new w (.int .i64 l) (.int .i64 S) (.slice (some ⟨ba, oa, none⟩) n cc) (.slice a' mn cc') 25
  have HW1 : Hid (W1 = _) := hW1
  have Bx : Hid (∀ W, W1.grownBy W none → w.grownBy W none ∧ W.cell? ⟨w.heap.size, 2, none⟩ = some (.slice (some ⟨ba, oa, none⟩) n cc)) := fun W hW => ⟨grown_trans g1 hW, (bx1 W hW).2.2.1⟩
  clear h hG hn hmn hu hi hW1 g1 s1 bx1
  go_enter Try.func28, Try.ntmps28
  go_wp2_with fail
  rw [← HW1.out]
  go_loopw [1, 7] (fun v1 v7 wr => ∃ i p : Nat, v1 = .int .i64 p ∧ v7 = .int .i64 i ∧ i ≤ us.length ∧ IsAt us δ q i p ∧ W1.grownBy wr none) (fun _ v _ => us.length - (intOf v).toNat)
  case atStart => exact ⟨0, q, rfl, rfl, by omega, rfl, grown_refl _ _⟩
  case round =>
    obtain ⟨i, p, rfl, rfl, hi, hp, hg⟩ := hrel
    obtain ⟨hgw, x2⟩ := Bx.out wr hg
    have HP : Hid (IsAt us δ q i p) := hp
    have hpn : p < n := by rw [← show (us.take i).foldl δ q = p from hp]; exact HLt.out i
    clear hp
    by_cases hlt : i < us.length
    · have hii : (i : Int) < (us.length : Int) := by omega
      have hui := HU.out i hlt
      obtain ⟨bw, ow, rfl, hcw⟩ := (HI.out.grown hgw).at (k := i) (by rw [List.length_map]; exact hlt)
      have c1 := hcw i (by rw [List.length_map]; exact hlt)
      have e1 : (natInts us).getD i 0 = ((us.getD i 0 : Nat) : Int) := by simp [natInts, List.getD, hlt]
      rw [e1] at c1
      obtain ⟨bx, ox, cx, r1, r2⟩ := HR.out wr p (us.getD i 0) hgw hpn hui
      have HP2 : Hid (IsAt us δ q (i + 1) (δ p (us.getD i 0))) := by
        show (us.take (i + 1)).foldl δ q = _
        rw [HT.out i hlt, show (us.take i).foldl δ q = p from HP.out]
      have G2 : Hid (W1.grownBy wr.drew none) := grown_drew hg
      have hpi : (p : Int) < (n : Int) := by omega
      have hxi : (us.getD i 0 : Int) < (l : Int) := by omega
      clear hcw hg hgw e1
      generalize us.getD i 0 = y at *
      generalize δ p y = p' at *
      go_wp2_with fail
      go_region
      all_goals
        go_wp2_with fail
        go_roundw
        case rel => exact ⟨i + 1, p', rfl, by go_num, by omega, HP2.out, G2.out⟩
        case measure => simp [intOf]; omega
    · have hii : ¬ (i : Int) < (us.length : Int) := by omega
      have hie : i = us.length := by omega
      have HE : Hid (us.foldl δ q = p) := by
        show _ = _
        rw [← show (us.take i).foldl δ q = p from HP.out, hie]; exact HF.out.symm
      have G9 : Hid (w.grownBy wr none) := hgw
      clear hg hgw x2 hie
      go_wp2_with fail
      go_ret
      exact ⟨by rw [HE.out]; rfl, G9.out⟩

/-- What a word does, as a row of numbers. -/
def DoesPost (n c : Nat) (w : World) (E : Ending) (w' : World) : Prop :=
  ∃ (g cz : Nat), E = .returned (.slice (some ⟨g, 0, none⟩) n cz) ∧ Owns w.heap.size w' [(3, .slice (some ⟨g, 0, none⟩) n cz, vals (natInts (doesL n c)))] ∧ w.grownBy w' none
theorem doesL_snoc (n c : Nat) : doesL n c ++ [dg c n] = doesL (n + 1) c := by simp [doesL, List.range_succ]

set_option maxHeartbeats 1600000 in
set_option maxRecDepth 100000 in
theorem doesR_any (S : Int) (l : Nat) (R : List (List Int)) (M : List Int) (a a' aw : Option Addr) (cc cc' cw : Nat) (us : List Nat) (w : World) (h : DetAt w ⟨l, S, R, M⟩ a a') (hG : Good ⟨l, S, R, M⟩) (hn : R.length ≤ 5) (hu : ∀ x, x ∈ us → x < l) (hi : Ints w aw (natInts us)) (hl : us.length ≤ 100000000) :
    Calls Try.prog 27 #[detV l S a R.length cc a' M.length cc', .slice aw us.length cw] w (DoesPost R.length (deed (Dfa.nx ⟨l, S, R, M⟩) R.length us) w) := by
  have hn1 : 1 ≤ R.length := hG.n1
  obtain ⟨f1, f2, f3⟩ := deed_facts hn (fun s a hs ha => hG.nx_lt hs (by simp; exact ha)) us hu
  have HA : Hid (∀ W q, w.grownBy W none → q < R.length → Calls Try.prog 28 #[detV l S a R.length cc a' M.length cc', .int .i64 (q : Nat), .slice aw us.length cw] W (Says (.int .i64 ((dg (deed (Dfa.nx ⟨l, S, R, M⟩) R.length us) q : Nat) : Int)) W)) := fun W q hW hq => by
    have h1 := afterR_any S l R M a a' aw cc cc' cw q us W (h.grown hW) hG hq hu (hi.grown hW) hl
    rw [← (f2 q hq).1] at h1
    exact h1
  generalize deed (Dfa.nx ⟨l, S, R, M⟩) R.length us = c at *
  obtain ⟨n, hn0⟩ : ∃ n, R.length = n := ⟨_, rfl⟩
  obtain ⟨mn, hmn⟩ : ∃ mn, M.length = mn := ⟨_, rfl⟩
  obtain ⟨ul, hul⟩ : ∃ ul, us.length = ul := ⟨_, rfl⟩
  rw [hn0, hmn, hul] at HA ⊢
  rw [hn0] at hn hn1
  obtain ⟨W1, hW1, g1, s1, bx1⟩ := box_new w (.int .i64 l) (.int .i64 S) (.slice a n cc) (.slice a' mn cc') 25
  have HW1 : Hid (W1 = _) := hW1
  have G1 : Hid (w.grownBy W1 none) := g1
  have Bx : Hid (∀ W, W1.grownBy W none → W.cell? ⟨w.heap.size, 0, none⟩ = some (.int .i64 l) ∧ W.cell? ⟨w.heap.size, 1, none⟩ = some (.int .i64 S) ∧ W.cell? ⟨w.heap.size, 2, none⟩ = some (.slice a n cc) ∧ W.cell? ⟨w.heap.size, 3, none⟩ = some (.slice a' mn cc')) := bx1
  clear h hG f1 f2 f3 hn0 hmn hul hu hi hl hW1 g1 bx1
  go_enter Try.func27, Try.ntmps27
  go_wp2_with fail
  rw [← HW1.out]
  go_loopw [5, 6] (fun v5 v6 wr => ∃ (q : Nat) (az : Option Addr) (cz : Nat), v5 = .slice az q cz ∧ v6 = .int .i64 q ∧ q ≤ n ∧ Owns W1.heap.size wr [(3, .slice az q cz, vals (natInts (doesL q c)))] ∧ W1.grownBy wr none) (fun _ v _ => n - (intOf v).toNat)
  case atStart => exact ⟨0, none, 0, rfl, rfl, by omega, (Owns.no _ _).empty 3, grown_refl _ _⟩
  case round =>
    obtain ⟨q, az, cz, rfl, rfl, hq, ho, hg⟩ := hrel
    obtain ⟨x0, x1, x2, x3⟩ := Bx.out wr hg
    have O : Hid (Owns W1.heap.size wr [(3, .slice az q cz, vals (natInts (doesL q c)))]) := ho
    have G : Hid (W1.grownBy wr none) := hg
    by_cases hlt : q < n
    · have hqi : (q : Int) < (n : Int) := by omega
      clear ho hg
      go_wp2_with fail
      refine (HA.out _ q (grown_trans G1.out G.out) hlt).mono ?_
      rintro E w3 ⟨rfl, hg3⟩
      obtain ⟨g4, c4, w4, hrun, ho4, hk4⟩ := push_int (O.out.kept hg3) (Nat.le_trans G.out.size hg3.size) rfl (by simp [doesL]; omega) ((dg c q : Nat) : Int)
      have e1 : natInts (doesL q c) ++ [((dg c q : Nat) : Int)] = natInts (doesL (q + 1) c) := by rw [← doesL_snoc]; simp [natInts]
      rw [e1] at ho4
      have O4 : Hid (Owns W1.heap.size w4 [(3, .slice (some ⟨g4, 0, none⟩) (q + 1) c4, vals (natInts (doesL (q + 1) c)))]) := ho4
      have G4 : Hid (W1.grownBy w4 none) := hk4 W1 (Nat.le_refl _) (grown_trans G.out hg3)
      clear hg3 ho4 hk4 e1 x0 x1 x2 x3
      generalize dg c q = y at *
      go_wp2_with fail
      go_roundw
      case rel => exact ⟨q + 1, _, c4, rfl, by go_num, by omega, O4.out, G4.out⟩
      case measure => simp [intOf]; omega
    · have hqi : ¬ (q : Int) < (n : Int) := by omega
      have hqe : q = n := by omega
      subst hqe
      obtain ⟨g, rfl⟩ := ho.formM List.mem_cons_self (by simp [doesL]; omega)
      have Fin : Hid (DoesPost q c w (.returned (.slice (some ⟨g, 0, none⟩) q cz)) wr) := ⟨g, cz, rfl, ho.base G1.out.size, grown_trans G1.out hg⟩
      clear ho hg O
      go_wp2_with fail
      exact bodyPost_ret (v := .slice (some ⟨g, 0, none⟩) q cz) (by simp [results, Try.results27, go_sem]) rfl Fin.out

end Go.Proofs.Ytofjboelplknhaa
