/- finds: the search from all places that it begins with. -/
import Derived.Test.YtfjpdeoldcfhdaaUVisitW
namespace Go.Proofs.Ytfjpdeoldcfhdaa
open Go.RowKit
set_option linter.unusedVariables false

/-- What finds answers. -/
def FindsPost (B n : Nat) (wd : List Nat) (turn : Nat) (T : List StepI) (S : List Int) (fs : Nat) (w : World) (E : Ending) (w' : World) : Prop :=
  ∃ r : Bool, E = .returned (.bool r) ∧ Keeps B w w' ∧ (r = true ↔ ∃ q0 v k j, (setOf S).testBit q0 = true ∧ goN (nxP T wd n turn) k q0 v ∧ fs.testBit (v % n) = true ∧ goN (nxP T wd n turn) (j + 1) v v)

set_option maxHeartbeats 6400000 in
set_option maxRecDepth 100000 in
theorem finds_any (B ps n l : Nat) (wd : List Nat) (turn gt : Nat) (T : List StepI) (aw : Option Addr) (cw : Nat) (as_ : Option Addr) (cs : Nat) (S : List Int) (gf gs gm N fs : Nat) (hT : InT T l n) (hTl : T.length ≤ 1000000) (hn : n ≤ 300) (hl : l ≤ 4) (hwl : wd.length ≤ 1000) (htl : turn < wd.length) (hN : N = wd.length * n) (hwd : ∀ k, k < wd.length → wd.getD k 0 < l) (hS : InR S n) (hSl : S.length ≤ 1000000)
    (w : World) (hSe : SeAt B w ps n l wd turn gt T aw cw as_ cs S gf gs gm N fs 0 0) :
    Calls Try.prog 42 #[.pointer (some ⟨ps, 0, none⟩)] w (FindsPost B n wd turn T S fs w) := by
  have HVs : Hid (∀ (Sn M p : Nat) (W : World), p < n → VInv (nxP T wd n turn) (accP n fs) N (fun _ => False) Sn M → ¬ InS Sn p → SeAt B W ps n l wd turn gt T aw cw as_ cs S gf gs gm N fs Sn M → Calls Try.prog 66 #[.pointer (some ⟨ps, 0, none⟩), .int .i64 (p : Int)] W (VisitPost B ps n l wd turn gt T aw cw as_ cs S gf gs gm N fs Sn (fun _ => False) p W)) := fun Sn M p W h1 h2 h3 h4 => by
    have h5 := visit_any B ps n l wd turn gt T aw cw as_ cs S gf gs gm N fs hT hTl hn hl hwl htl hN hwd (2 ^ N - Sn) Sn M 0 p (fun _ => False) W (Nat.le_refl _) (by omega) h1 h2 (fun g hg => hg.elim) (by rw [Nat.zero_mul, Nat.zero_add]; exact h3) h4
    rw [Nat.zero_mul, Nat.zero_add] at h5
    exact h5
  have HS : Hid (InR S n) := hS
  have HnN : Hid (n ≤ N) := by show _ ≤ _; rw [hN]; exact Nat.le_mul_of_pos_left n (by omega)
  have hNb : N ≤ 300000 := by rw [hN]; exact Nat.mul_le_mul hwl hn
  have SE : Hid (SeAt B w ps n l wd turn gt T aw cw as_ cs S gf gs gm N fs 0 0) := hSe
  have c5 := SE.out.sta.c5
  obtain ⟨m, hm⟩ : ∃ m, S.length = m := ⟨_, rfl⟩
  have HM : Hid (S.length = m) := hm
  rw [hm] at c5 hSl
  clear hT hTl hl hwl htl hN hwd hS hSe hm
  go_enter Try.func42, Try.ntmps42
  go_wp2_with fail
  clear c5
  go_loopw [10] (fun vk wr => ∃ k S' M' : Nat, k ≤ m ∧ vk = .int .i64 k ∧ SeAt B wr ps n l wd turn gt T aw cw as_ cs S gf gs gm N fs S' M' ∧ Keeps B w wr ∧ VInv (nxP T wd n turn) (accP n fs) N (fun _ => False) S' M' ∧ ∀ i, i < k → InS S' (S.getD i 0).toNat) (fun vk _ => m - (intOf vk).toNat)
  case atStart => exact ⟨0, 0, 0, by omega, rfl, SE.out, Keeps.refl _ _, VInv.begin_ N, fun i hi => absurd hi (by omega)⟩
  case round =>
    clear SE
    rename World => wr
    obtain ⟨k, S1, M1, hk, rfl, hS1, hK1, hV1, hD1⟩ := hrel
    have A1 : Hid (SeAt B wr ps n l wd turn gt T aw cw as_ cs S gf gs gm N fs S1 M1) := hS1
    have K1 : Hid (Keeps B w wr) := hK1
    have V1 : Hid (VInv (nxP T wd n turn) (accP n fs) N (fun _ => False) S1 M1) := hV1
    have D1 : Hid (∀ i, i < k → InS S1 (S.getD i 0).toNat) := hD1
    clear hS1 hK1 hV1 hD1
    by_cases hlt : k < m
    · have hki : (k : Int) < (m : Int) := by omega
      have hku : k < S.length := by rw [HM.out]; exact hlt
      obtain ⟨bu, ou, hae, hc⟩ := A1.out.sta.start.at hku
      have y0 := hc k hku
      have hin := HS.out k hku
      obtain ⟨q, hq⟩ : ∃ q : Nat, S.getD k 0 = q := ⟨(S.getD k 0).toNat, by omega⟩
      rw [hq] at y0 hin
      have HQ : Hid (S.getD k 0 = (q : Int)) := hq
      have HSB : Hid ((setOf S).testBit q = true) := setOf_bit.2 ⟨(q : Int), by rw [← hq, List.getD, List.getElem?_eq_getElem hku, Option.getD_some]; exact List.getElem_mem _, Int.toNat_natCast q⟩
      have hqn : q < n := by omega
      have hqN : q < N := by have := HnN.out; omega
      obtain ⟨x0, _, _, _, _⟩ := A1.out.markS hqN
      have c7 := A1.out.sta.c7
      have hqi : (q : Int) < (N : Int) := by omega
      clear hc hin hq hku
      subst hae
      cases hbit : S1.testBit q with
      | true =>
        rw [hbit] at x0
        have D2 : Hid (∀ i, i < k + 1 → InS S1 (S.getD i 0).toNat) := fun i hi => by
          by_cases e : i = k
          · subst e; rw [HQ.out, Int.toNat_natCast]; exact hbit
          · exact D1.out i (by omega)
        clear hbit
        go_wp2_with fail
        go_roundw
        case rel => exact ⟨k + 1, S1, M1, by omega, by go_num, A1.out, K1.out, V1.out, D2.out⟩
        case measure => simp [intOf]; omega
      | false =>
        rw [hbit] at x0
        have CR : Hid (Calls Try.prog 66 #[.pointer (some ⟨ps, 0, none⟩), .int .i64 (q : Int)] wr (VisitPost B ps n l wd turn gt T aw cw (some ⟨bu, ou, none⟩) cs S gf gs gm N fs S1 (fun _ => False) q wr)) := HVs.out S1 M1 q wr hqn V1.out (by rw [InS, hbit]; simp) A1.out
        clear hbit
        go_wp2_with fail
        refine CR.out.mono ?_
        rintro E w7 ⟨r, S7, M7, rfl, hS7, hK7, hI7, hM7, ht7, hf7⟩
        cases r with
        | true =>
          have PT : Hid (FindsPost B n wd turn T S fs w (.returned (.bool true)) w7) := by
            obtain ⟨y, i, j, h1, h2, h3⟩ := ht7 rfl
            exact ⟨true, rfl, K1.out.trans hK7, fun _ => ⟨q, y, i, j, HSB.out, h1, h2, h3⟩, fun _ => rfl⟩
          clear hS7 hK7 hI7 ht7 hf7
          go_wp2_with fail
          go_ret
          exact PT.out
        | false =>
          have PR : Hid (SeAt B w7 ps n l wd turn gt T aw cw (some ⟨bu, ou, none⟩) cs S gf gs gm N fs S7 M7 ∧ Keeps B w w7 ∧ VInv (nxP T wd n turn) (accP n fs) N (fun _ => False) S7 M7 ∧ ∀ i, i < k + 1 → InS S7 (S.getD i 0).toNat) := by
            obtain ⟨h1, h2, h3⟩ := hf7 rfl
            refine ⟨hS7, K1.out.trans hK7, h1, fun i hi => ?_⟩
            by_cases e : i = k
            · subst e; rw [HQ.out, Int.toNat_natCast]; exact h3
            · exact h2 _ (D1.out i (by omega))
          clear hS7 hK7 hI7 ht7 hf7
          go_wp2_with fail
          go_roundw
          case rel => exact ⟨k + 1, S7, M7, by omega, by go_num, PR.out.1, PR.out.2.1, PR.out.2.2.1, PR.out.2.2.2⟩
          case measure => simp [intOf]; omega
    · have hki : ¬ (k : Int) < (m : Int) := by omega
      have PF : Hid (FindsPost B n wd turn T S fs w (.returned (.bool false)) wr) := ⟨false, rfl, K1.out, (fun e => by cases e), fun ⟨q0, v, i, j, h0, h1, h2, h3⟩ => by
        obtain ⟨z, hz, e⟩ := setOf_bit.1 h0
        obtain ⟨t, ht, e2⟩ := List.getElem_of_mem hz
        have h4 := D1.out t (by have := HM.out; omega)
        rw [List.getD, List.getElem?_eq_getElem ht, Option.getD_some, e2, e] at h4
        exact absurd h3 (V1.out.end_ h4 h1 h2)⟩
      go_wp2_with fail
      go_ret
      exact PF.out

end Go.Proofs.Ytfjpdeoldcfhdaa
