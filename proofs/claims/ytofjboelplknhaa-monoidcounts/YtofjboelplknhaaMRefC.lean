/- The reference's Counts. -/
import Derived.Test.YtofjboelplknhaaMRefE
import Derived.Test.YtofjboelplknhaaMCount
namespace Go.Proofs.Ytofjboelplknhaa
open Go.RowKit
set_option linter.unusedVariables false

def RCountPost (κ : List Nat → Nat) (l : Nat) (w : World) (E : Ending) (w' : World) : Prop :=
  w.grownBy w' none ∧ ((E = .returned (.tuple #[.slice none 0 0, .int .i64 0]) ∧ ∃ k, EndW κ l k ∧ ∀ u, u ∈ bfsW κ l k → cts (κ u) = false) ∨
    ∃ (k i : Nat) (az : Option Addr) (cz : Nat), EndW κ l k ∧ i < k ∧ (∀ j, j < i → cts (κ ((bfsW κ l k).getD j [])) = false) ∧ cts (κ ((bfsW κ l k).getD i [])) = true ∧
      E = .returned (.tuple #[.slice az ((bfsW κ l k).getD i []).length cz, .int .i64 ((cbk (κ ((bfsW κ l k).getD i [])) 5 : Nat) : Int)]) ∧ Ints w' az (natInts ((bfsW κ l k).getD i [])))

/-- None of them counts. -/
def NoneYet (κ : List Nat → Nat) (ws : List (List Nat)) (i : Nat) : Prop := ∀ j, j < i → cts (κ (ws.getD j [])) = false

set_option maxHeartbeats 1600000 in
set_option maxRecDepth 100000 in
theorem countR_any (S : Int) (l : Nat) (R : List (List Int)) (M : List Int) (a a' : Option Addr) (cc cc' : Nat) (w : World) (h : DetAt w ⟨l, S, R, M⟩ a a') (hG : Good ⟨l, S, R, M⟩) (hn : R.length ≤ 5) :
    Calls Try.prog 30 #[detV l S a R.length cc a' M.length cc'] w (RCountPost (deed (Dfa.nx ⟨l, S, R, M⟩) R.length) l w) := by
  have hδ : ∀ s b, s < R.length → b < l → Dfa.nx ⟨l, S, R, M⟩ s b < R.length := fun s b hs hb => hG.nx_lt hs (by simp; exact hb)
  have HEl : Hid (∀ W, w.grownBy W none → Calls Try.prog 24 #[detV l S a R.length cc a' M.length cc'] W (RElemPost (deed (Dfa.nx ⟨l, S, R, M⟩) R.length) R.length l W)) := fun W hW => elemR_any S l R M a a' cc cc' W (h.grown hW) hG hn
  have HTu : Hid (∀ W (u : List Nat) q az cz, (∀ y, y ∈ u → y < l) → q < R.length → Ints W az (natInts (doesL R.length (deed (Dfa.nx ⟨l, S, R, M⟩) R.length u))) → Calls Try.prog 59 #[.slice az R.length cz, .int .i64 (q : Nat)] W (Says (.int .i64 ((rnd (deed (Dfa.nx ⟨l, S, R, M⟩) R.length u) q : Nat) : Int)) W)) := fun W u q az cz hu hq hz => by
    obtain ⟨_, f2, _⟩ := deed_facts hn hδ u hu
    exact turns_any _ R.length q az cz W hn hq (fun s hs => by rw [(f2 s hs).1]; exact (f2 s hs).2) hz
  have HCb : Hid (∀ u : List Nat, (∀ y, y ∈ u → y < l) → cbk (deed (Dfa.nx ⟨l, S, R, M⟩) R.length u) 5 = cbk (deed (Dfa.nx ⟨l, S, R, M⟩) R.length u) R.length) := fun u hu => by
    obtain ⟨_, f2, f3⟩ := deed_facts hn hδ u hu
    exact cbk_beyond (fun s hs => by rw [(f2 s hs).1]; exact (f2 s hs).2) f3 hn (Nat.le_refl _)
  have HK3 : Hid (∀ k, EndW (deed (Dfa.nx ⟨l, S, R, M⟩) R.length) l k → k ≤ 3125) := fun k hend => by
    have h1 := words_few (bfsW_nodup (κ := deed (Dfa.nx ⟨l, S, R, M⟩) R.length) (l := l) k) (fun u hu => (deed_facts hn hδ u (bfsW_letters k u hu)).1)
    rw [hend.len] at h1
    exact h1
  generalize deed (Dfa.nx ⟨l, S, R, M⟩) R.length = κ at *
  obtain ⟨n, hn0⟩ : ∃ n, R.length = n := ⟨_, rfl⟩
  obtain ⟨mn, hmn⟩ : ∃ mn, M.length = mn := ⟨_, rfl⟩
  rw [hn0] at HEl HTu HCb hn ⊢
  rw [hmn] at HEl ⊢
  obtain ⟨W1, hW1, g1, s1, bx1⟩ := box_new w (.int .i64 l) (.int .i64 S) (.slice a n cc) (.slice a' mn cc') 25
  have HW1 : Hid (W1 = _) := hW1
  have G1 : Hid (w.grownBy W1 none) := g1
  have Bx : Hid (∀ W, W1.grownBy W none → W.cell? ⟨w.heap.size, 2, none⟩ = some (.slice a n cc)) := fun W hW => (bx1 W hW).2.2.1
  clear h hG hδ hn0 hmn hW1 g1 s1 bx1
  go_enter Try.func30, Try.ntmps30
  go_wp2_with fail
  rw [← HW1.out]
  refine (HEl.out _ G1.out).mono ?_
  rintro E w2 ⟨k, aS, cS, es, rfl, hend, hes, hws, hA, hg2⟩
  have HEnd : Hid (EndW κ l k) := hend
  have HWs : Hid (WordsOf es (bfsW κ l k)) := hws
  have A2 : Hid (ElAt κ n W1 w2 aS cS es []) := hA
  have G2 : Hid (W1.grownBy w2 none) := hg2
  have hk3 := HK3.out k hend
  clear hend hes hws hA hg2 HEl
  go_wp2_with fail
  go_loopw [5] (fun v5 wr => ∃ i : Nat, v5 = .int .i64 i ∧ i ≤ k ∧ NoneYet κ (bfsW κ l k) i ∧ w2.grownBy wr none) (fun v _ => k - (intOf v).toNat)
  case atStart => exact ⟨0, rfl, by omega, fun j hj => by omega, grown_refl _ _⟩
  case round =>
    rename World => wo
    obtain ⟨i, rfl, hi, hno, hg⟩ := hrel
    have HNo : Hid (NoneYet κ (bfsW κ l k) i) := hno
    have G : Hid (w2.grownBy wo none) := hg
    clear hno hg
    by_cases hlt : i < k
    · have hii : (i : Int) < (k : Int) := by omega
      have hiw : i < (bfsW κ l k).length := by rw [HEnd.out.len]; exact hlt
      obtain ⟨u, hu⟩ : ∃ u, (bfsW κ l k).getD i [] = u := ⟨_, rfl⟩
      have HU : Hid ((bfsW κ l k).getD i [] = u) := hu
      have HL : Hid (∀ y, y ∈ u → y < l) := by rw [← hu]; exact bfsW_letters k _ (getDL_mem hiw)
      obtain ⟨e, he, heu⟩ := HWs.out.at hiw
      rw [hu] at heu
      have HE : Hid (es[i]? = some e ∧ e.2.2 = u) := ⟨he, heu⟩
      clear hu hiw he heu
      go_wp2_with fail
      go_loopw [6, 7] (fun v6 v7 wr => ∃ q b : Nat, v6 = .int .i64 b ∧ v7 = .int .i64 q ∧ q ≤ n ∧ IsCb (κ u) q b ∧ w2.grownBy wr none) (fun _ v _ => n - (intOf v).toNat)
      case atStart => exact ⟨0, 0, rfl, rfl, by omega, rfl, G.out⟩
      case round =>
        obtain ⟨q, b, rfl, rfl, hq, hb, hg⟩ := hrel
        have HBk : Hid (IsCb (κ u) q b) := hb
        have G3 : Hid (w2.grownBy wr none) := hg
        have x2 := Bx.out wr (grown_trans G2.out hg)
        have hb5 : b ≤ 5 := by rw [← show cbk (κ u) q = b from hb]; exact cbk_le _ _
        obtain ⟨g, eg, d1, d2, ⟨az, cz, ez, iz⟩, ⟨aw, cw, ew, iw⟩⟩ := (A2.out.kept hg).read HE.out.1
        subst eg
        rw [ez] at d1
        rw [ew] at d2
        rw [HE.out.2] at iz iw d2
        by_cases hql : q < n
        · have hqi : (q : Int) < (n : Int) := by omega
          have HT3 : Hid (Calls Try.prog 59 #[.slice az n cz, .int .i64 (q : Nat)] wr (Says (.int .i64 ((rnd (κ u) q : Nat) : Int)) wr)) := HTu.out wr u q az cz HL.out hql iz
          have hr5 := rnd_le (κ u) q
          have HB2 : Hid (cbk (κ u) (q + 1) = bst b (rnd (κ u) q)) := by show _ = _; rw [cbk_step, show cbk (κ u) q = b from HBk.out]
          clear hb hg iz iw ez ew d2
          go_wp2_with fail
          refine HT3.out.mono ?_
          rintro E w4 ⟨rfl, hg4⟩
          have G4 : Hid (w2.grownBy w4 none) := grown_trans G3.out hg4
          clear hg4 d1 x2 HT3
          generalize rnd (κ u) q = r at *
          by_cases h1 : 1 < r
          · have h1i : (1 : Int) < (r : Int) := by omega
            by_cases h2 : b = 0
            · subst h2
              have HB3 : Hid (IsCb (κ u) (q + 1) r) := by show cbk _ (q + 1) = r; rw [HB2.out]; unfold bst; rw [if_pos ⟨h1, .inl rfl⟩]
              clear HB2 HBk
              go_wp2_with fail
              go_roundw
              case rel => exact ⟨q + 1, r, rfl, by go_num, by omega, HB3.out, G4.out⟩
              case measure => simp [intOf]; omega
            · have h2i : ((b : Int) == 0) = false := by simp; omega
              by_cases h3 : r < b
              · have h3i : (r : Int) < (b : Int) := by omega
                have HB3 : Hid (IsCb (κ u) (q + 1) r) := by show cbk _ (q + 1) = r; rw [HB2.out]; unfold bst; rw [if_pos ⟨h1, .inr h3⟩]
                clear HB2 HBk
                go_wp2_with fail
                go_roundw
                case rel => exact ⟨q + 1, r, rfl, by go_num, by omega, HB3.out, G4.out⟩
                case measure => simp [intOf]; omega
              · have h3i : ¬ (r : Int) < (b : Int) := by omega
                have HB3 : Hid (IsCb (κ u) (q + 1) b) := by show cbk _ (q + 1) = b; rw [HB2.out]; unfold bst; rw [if_neg (by omega)]
                clear HB2 HBk
                go_wp2_with fail
                go_roundw
                case rel => exact ⟨q + 1, b, rfl, by go_num, by omega, HB3.out, G4.out⟩
                case measure => simp [intOf]; omega
          · have h1i : ¬ (1 : Int) < (r : Int) := by omega
            have HB3 : Hid (IsCb (κ u) (q + 1) b) := by show cbk _ (q + 1) = b; rw [HB2.out]; unfold bst; rw [if_neg (by omega)]
            clear HB2 HBk
            go_wp2_with fail
            go_roundw
            case rel => exact ⟨q + 1, b, rfl, by go_num, by omega, HB3.out, G4.out⟩
            case measure => simp [intOf]; omega
        · have hqi : ¬ (q : Int) < (n : Int) := by omega
          have hqe : q = n := by omega
          have HB5 : Hid (cbk (κ u) 5 = b) := by show _ = _; rw [HCb.out u HL.out, ← hqe]; exact hb
          by_cases h0 : 0 < b
          · have h0i : (0 : Int) < (b : Int) := by omega
            have Fin : Hid (RCountPost κ l w (.returned (.tuple #[.slice aw u.length cw, .int .i64 (b : Int)])) wr) := by
              refine ⟨grown_trans (grown_trans G1.out G2.out) hg, .inr ⟨k, i, aw, cw, HEnd.out, hlt, HNo.out, ?_, ?_, ?_⟩⟩
              · rw [HU.out]; unfold cts; rw [HB5.out]; exact decide_eq_true h0
              · rw [HU.out, HB5.out]
              · rw [HU.out]; exact iw
            clear hb hg iz iw ez ew d1 HB5 HBk hqe
            generalize u.length = ul at *
            go_wp2_with fail
            exact bodyPost_ret (v := .tuple #[.slice aw ul cw, .int .i64 (b : Int)]) (by simp [results, Try.results30, go_sem]) rfl Fin.out
          · have h0i : ¬ (0 : Int) < (b : Int) := by omega
            have HN2 : Hid (NoneYet κ (bfsW κ l k) (i + 1)) := fun j hj => by
              by_cases e' : j = i
              · subst e'; rw [HU.out]; unfold cts; rw [HB5.out]; exact decide_eq_false h0
              · exact HNo.out j (by omega)
            clear hb hg iz iw ez ew d1 d2 HB5 HBk hqe
            go_wp2_with fail
            go_roundw
            case rel => exact ⟨i + 1, by go_num, by omega, HN2.out, G3.out⟩
            case measure => simp [intOf]; omega
    · have hii : ¬ (i : Int) < (k : Int) := by omega
      have Fin : Hid (RCountPost κ l w (.returned (.tuple #[.slice none 0 0, .int .i64 0])) wo) := by
        refine ⟨grown_trans (grown_trans G1.out G2.out) G.out, .inl ⟨rfl, k, HEnd.out, fun u hu => ?_⟩⟩
        obtain ⟨j, hj, rfl⟩ := List.getElem_of_mem hu
        have h1 := HNo.out j (by rw [HEnd.out.len] at hj; omega)
        simpa [List.getD, hj] using h1
      go_wp2_with fail
      exact bodyPost_ret (v := .tuple #[.slice none 0 0, .int .i64 0]) (by simp [results, Try.results30, go_sem]) rfl Fin.out

end Go.Proofs.Ytofjboelplknhaa
