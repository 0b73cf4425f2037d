/- How many times: the program's round and comesBack, the reference's Turns. -/
import Derived.Test.YtofjboelplknhaaMIdle
import Derived.Test.YtofjboelplknhaaMRnd
namespace Go.Proofs.Ytofjboelplknhaa
open Go.RowKit
set_option linter.unusedVariables false

/-- A row of five in a box. -/
theorem row_box (w : World) (c : Nat) : ∃ W, W = w.alloc (.cells #[.int .i64 ((dg c 0 : Nat) : Int), .int .i64 ((dg c 1 : Nat) : Int), .int .i64 ((dg c 2 : Nat) : Int), .int .i64 ((dg c 3 : Nat) : Int), .int .i64 ((dg c 4 : Nat) : Int)] 83) ∧ w.grownBy W none ∧ ∀ W', W.grownBy W' none → ∀ s, s < 5 → W'.cell? ⟨w.heap.size, s, none⟩ = some (.int .i64 ((dg c s : Nat) : Int)) :=
  ⟨_, rfl, grown_alloc _ _, fun W' h s hs => by
    obtain ⟨h0, h1, h2, h3, h4, _⟩ := block_cells5 ((h.block _ (by simp) (by simp)).trans (heap_alloc_new w _))
    rcases five hs with rfl | rfl | rfl | rfl | rfl <;> assumption⟩
/-- Where one is; how many there are. -/
def IsIt (c s k p : Nat) : Prop := itr c k s = p
def IsCb (c k b : Nat) : Prop := cbk c k = b
/-- Not yet. -/
def NotYet (c s k : Nat) : Prop := ∀ j, 1 ≤ j → j ≤ k → itr c j s ≠ s

set_option maxHeartbeats 1600000 in
set_option maxRecDepth 100000 in
theorem round_any (c s : Nat) (w : World) (hs : s < 5) : Calls Try.prog 80 #[rowV c, .int .i64 (s : Nat)] w (Says (.int .i64 ((rnd c s : Nat) : Int)) w) := by
  obtain ⟨W1, hW1, g1, hc1⟩ := row_box w c
  have HW1 : Hid (W1 = _) := hW1
  have G1 : Hid (w.grownBy W1 none) := g1
  have HC : Hid (∀ W', W1.grownBy W' none → ∀ s, s < 5 → W'.cell? ⟨w.heap.size, s, none⟩ = some (.int .i64 ((dg c s : Nat) : Int))) := hc1
  have HB : Hid (∀ j, itr c j s < 5) := fun j => itr_lt (n := 5) (fun t _ => dg_lt c t) hs j
  have HF : Hid (∀ k, k < 5 → itr c (k + 1) s = s → NotYet c s k → rnd c s = k + 1) := fun k hk h hn => rnd_first hk h hn
  have HN : Hid (NotYet c s 5 → rnd c s = 0) := fun h => rnd_none h
  have HI : Hid (∀ k, itr c (k + 1) s = dg c (itr c k s)) := fun k => rfl
  obtain ⟨r, hr⟩ : ∃ r, rnd c s = r := ⟨_, rfl⟩
  rw [hr] at HF HN ⊢
  clear hW1 g1 hc1 hr
  go_enter Try.func80, Try.ntmps80
  go_wp2_with fail
  rw [← HW1.out]
  go_loopw [5, 8] (fun v5 v8 wr => ∃ k p : Nat, v5 = .int .i64 p ∧ v8 = .int .i64 k ∧ k ≤ 5 ∧ IsIt c s k p ∧ NotYet c s k ∧ W1.grownBy wr none) (fun _ v _ => 5 - (intOf v).toNat)
  case atStart => exact ⟨0, s, rfl, rfl, by omega, rfl, fun j h1 h2 => by omega, grown_refl _ _⟩
  case round =>
    obtain ⟨k, p, rfl, rfl, hk, hp, hn, hg⟩ := hrel
    have HP : Hid (IsIt c s k p) := hp
    have HY : Hid (NotYet c s k) := hn
    have G : Hid (W1.grownBy wr none) := hg
    have hp5 : p < 5 := by rw [← show itr c k s = p from hp]; exact HB.out k
    by_cases hlt : k < 5
    · have hki : (k : Int) < 5 := by omega
      have hpi : (p : Int) < 5 := by omega
      have x1 := HC.out wr hg p hp5
      have HP2 : Hid (IsIt c s (k + 1) (dg c p)) := by show itr c (k + 1) s = dg c p; rw [HI.out, show itr c k s = p from HP.out]
      clear hp hn hg
      generalize dg c p = p' at *
      by_cases he : p' = s
      · have HR : Hid (r = k + 1) := HF.out k hlt (by rw [show itr c (k + 1) s = p' from HP2.out, he]) HY.out
        have hei : ((p' : Nat) : Int) = (s : Int) := by omega
        have f1 : ((p' : Int) == (s : Int)) = true := by simpa using hei
        have GF : Hid (w.grownBy wr none) := grown_trans G1.out G.out
        clear he HP2
        go_wp2_with fail
        go_ret
        exact ⟨by rw [HR.out]; go_num, GF.out⟩
      · have f1 : ((p' : Int) == (s : Int)) = false := by simp; omega
        have HY2 : Hid (NotYet c s (k + 1)) := fun j h1 h2 => by
          by_cases e : j = k + 1
          · subst e; rw [show itr c (k + 1) s = p' from HP2.out]; exact he
          · exact HY.out j h1 (by omega)
        clear he
        go_wp2_with fail
        go_roundw
        case rel => exact ⟨k + 1, p', rfl, by go_num, by omega, HP2.out, HY2.out, G.out⟩
        case measure => simp [intOf]; omega
    · have hki : ¬ (k : Int) < 5 := by omega
      have hke : k = 5 := by omega
      subst hke
      have HR : Hid (r = 0) := HN.out hn
      have GF : Hid (w.grownBy wr none) := grown_trans G1.out hg
      clear hp hn hg HP HY
      go_wp2_with fail
      go_ret
      exact ⟨by rw [HR.out]; rfl, GF.out⟩

set_option maxHeartbeats 1600000 in
set_option maxRecDepth 100000 in
theorem comesBack_any (c : Nat) (w : World) : Calls Try.prog 58 #[rowV c] w (Says (.int .i64 ((cbk c 5 : Nat) : Int)) w) := by
  obtain ⟨W1, hW1, g1, hc1⟩ := row_box w c
  have HW1 : Hid (W1 = _) := hW1
  have G1 : Hid (w.grownBy W1 none) := g1
  have HC : Hid (∀ W', W1.grownBy W' none → ∀ s, s < 5 → W'.cell? ⟨w.heap.size, s, none⟩ = some (.int .i64 ((dg c s : Nat) : Int))) := hc1
  have HR : Hid (∀ W s, s < 5 → Calls Try.prog 80 #[rowV c, .int .i64 (s : Nat)] W (Says (.int .i64 ((rnd c s : Nat) : Int)) W)) := fun W s hs => round_any c s W hs
  have HB : Hid (∀ k, cbk c (k + 1) = bst (cbk c k) (rnd c k)) := cbk_step c
  have HL : Hid (∀ k, cbk c k ≤ 5) := cbk_le c
  have HL2 : Hid (∀ k, rnd c k ≤ 5) := rnd_le c
  clear hW1 g1 hc1
  go_enter Try.func58, Try.ntmps58
  go_wp2_with fail
  rw [← HW1.out]
  go_loopw [3, 6] (fun v3 v6 wr => ∃ k b : Nat, v3 = .int .i64 b ∧ v6 = .int .i64 k ∧ k ≤ 5 ∧ IsCb c k b ∧ W1.grownBy wr none) (fun _ v _ => 5 - (intOf v).toNat)
  case atStart => exact ⟨0, 0, rfl, rfl, by omega, rfl, grown_refl _ _⟩
  case round =>
    obtain ⟨k, b, rfl, rfl, hk, hb, hg⟩ := hrel
    have HBk : Hid (IsCb c k b) := hb
    have G : Hid (W1.grownBy wr none) := hg
    by_cases hlt : k < 5
    · have hki : (k : Int) < 5 := by omega
      have x0 := HC.out wr hg 0 (by omega)
      have x1 := HC.out wr hg 1 (by omega)
      have x2 := HC.out wr hg 2 (by omega)
      have x3 := HC.out wr hg 3 (by omega)
      have x4 := HC.out wr hg 4 (by omega)
      clear hb hg
      go_wp2_with fail
      refine (HR.out _ k hlt).mono ?_
      rintro E w3 ⟨rfl, hg3⟩
      have G3 : Hid (W1.grownBy w3 none) := grown_trans G.out hg3
      have HB2 : Hid (cbk c (k + 1) = bst b (rnd c k)) := by show _ = _; rw [HB.out, show cbk c k = b from HBk.out]
      have hr5 := HL2.out k
      have hb5 : b ≤ 5 := by rw [← show cbk c k = b from HBk.out]; exact HL.out k
      clear hg3 x0 x1 x2 x3 x4
      generalize rnd c k = r at *
      by_cases h1 : 1 < r
      · have h1i : (1 : Int) < (r : Int) := by omega
        by_cases h2 : b = 0
        · subst h2
          have HB3 : Hid (IsCb c (k + 1) r) := by show cbk c (k + 1) = r; rw [HB2.out]; unfold bst; rw [if_pos ⟨h1, .inl rfl⟩]
          clear HB2 HBk
          go_wp2_with fail
          go_roundw
          case rel => exact ⟨k + 1, r, rfl, by go_num, by omega, HB3.out, G3.out⟩
          case measure => simp [intOf]; omega
        · have h2i : ((b : Int) == 0) = false := by simp; omega
          by_cases h3 : r < b
          · have h3i : (r : Int) < (b : Int) := by omega
            have HB3 : Hid (IsCb c (k + 1) r) := by show cbk c (k + 1) = r; rw [HB2.out]; unfold bst; rw [if_pos ⟨h1, .inr h3⟩]
            clear HB2 HBk
            go_wp2_with fail
            go_roundw
            case rel => exact ⟨k + 1, r, rfl, by go_num, by omega, HB3.out, G3.out⟩
            case measure => simp [intOf]; omega
          · have h3i : ¬ (r : Int) < (b : Int) := by omega
            have HB3 : Hid (IsCb c (k + 1) b) := by show cbk c (k + 1) = b; rw [HB2.out]; unfold bst; rw [if_neg (by omega)]
            clear HB2 HBk
            go_wp2_with fail
            go_roundw
            case rel => exact ⟨k + 1, b, rfl, by go_num, by omega, HB3.out, G3.out⟩
            case measure => simp [intOf]; omega
      · have h1i : ¬ (1 : Int) < (r : Int) := by omega
        have HB3 : Hid (IsCb c (k + 1) b) := by show cbk c (k + 1) = b; rw [HB2.out]; unfold bst; rw [if_neg (by omega)]
        clear HB2 HBk
        go_wp2_with fail
        go_roundw
        case rel => exact ⟨k + 1, b, rfl, by go_num, by omega, HB3.out, G3.out⟩
        case measure => simp [intOf]; omega
    · have hki : ¬ (k : Int) < 5 := by omega
      have hke : k = 5 := by omega
      subst hke
      have HE : Hid (cbk c 5 = b) := hb
      have GF : Hid (w.grownBy wr none) := grown_trans G1.out hg
      clear hb hg HBk
      go_wp2_with fail
      go_ret
      exact ⟨by rw [HE.out]; rfl, GF.out⟩

set_option maxHeartbeats 1600000 in
set_option maxRecDepth 100000 in
theorem turns_any (c n q : Nat) (az : Option Addr) (cz : Nat) (w : World) (hn : n ≤ 5) (hq : q < n) (hd : ∀ s, s < n → dg c s < n) (hz : Ints w az (natInts (doesL n c))) : Calls Try.prog 59 #[.slice az n cz, .int .i64 (q : Nat)] w (Says (.int .i64 ((rnd c q : Nat) : Int)) w) := by
  obtain ⟨bz, oz, rfl, hcz⟩ := hz.at (k := q) (by simp [doesL]; exact hq)
  have HC : Hid (∀ s, s < n → w.cell? ⟨bz, oz + s, none⟩ = some (.int .i64 ((dg c s : Nat) : Int))) := fun s hs => by
    have h1 := hcz s (by simp [doesL]; exact hs)
    have e : (natInts (doesL n c)).getD s 0 = ((dg c s : Nat) : Int) := by simp [natInts, doesL, List.getD, hs]
    rw [e] at h1
    exact h1
  have HB : Hid (∀ j, itr c j q < n) := fun j => itr_lt hd hq j
  have HT : Hid (∀ t, 1 ≤ t → (∀ i, 1 ≤ i → i < t → itr c i q ≠ q) → (itr c t q = q → rnd c q = t) ∧ (n < t → itr c t q ≠ q → rnd c q = 0)) := fun t h1 h2 => rnd_turns hd hn hq h1 h2
  have HI : Hid (∀ k, itr c (k + 1) q = dg c (itr c k q)) := fun k => rfl
  have x1 := HC.out q hq
  have hqi : (q : Int) < (n : Int) := by omega
  have HP1 : Hid (IsIt c q 1 (dg c q)) := rfl
  obtain ⟨r, hr⟩ : ∃ r, rnd c q = r := ⟨_, rfl⟩
  rw [hr] at HT ⊢
  clear hcz hz hd hr
  generalize dg c q = p1 at *
  go_enter Try.func59, Try.ntmps59
  go_wp2_with fail
  go_loopw [5, 6] (fun v5 v6 wr => ∃ t p : Nat, v5 = .int .i64 p ∧ v6 = .int .i64 t ∧ 1 ≤ t ∧ t ≤ n + 1 ∧ IsIt c q t p ∧ NotYet c q (t - 1) ∧ w.grownBy wr none) (fun _ v _ => n + 1 - (intOf v).toNat)
  case atStart => exact ⟨1, p1, rfl, rfl, by omega, by omega, HP1.out, fun j h1 h2 => by omega, grown_refl _ _⟩
  case round =>
    clear x1 HP1
    obtain ⟨t, p, rfl, rfl, ht1, htn, hp, hno, hg⟩ := hrel
    have HP : Hid (IsIt c q t p) := hp
    have HNo : Hid (∀ i, 1 ≤ i → i < t → itr c i q ≠ q) := fun i h1 h2 => hno i h1 (by omega)
    have G : Hid (w.grownBy wr none) := hg
    have hpn : p < n := by rw [← show itr c t q = p from hp]; exact HB.out t
    clear hno hp
    by_cases he : p = q
    · have f1 : ((p : Int) != (q : Int)) = false := by simp; omega
      have HR : Hid (r = t) := (HT.out t ht1 HNo.out).1 (by rw [show itr c t q = p from HP.out]; exact he)
      clear hg HP HNo he
      by_cases htl : (t : Int) ≤ (n : Int)
      all_goals
        go_wp2_with fail
        go_ret
        exact ⟨by rw [HR.out]; rfl, G.out⟩
    · have f1 : ((p : Int) != (q : Int)) = true := by simp; omega
      by_cases htl : t ≤ n
      · have hti : (t : Int) ≤ (n : Int) := by omega
        have hpi : (p : Int) < (n : Int) := by omega
        have x1 := hg.cell (HC.out p hpn) (by simp)
        have HP2 : Hid (IsIt c q (t + 1) (dg c p)) := by show itr c (t + 1) q = dg c p; rw [HI.out, show itr c t q = p from HP.out]
        have HN2 : Hid (NotYet c q (t + 1 - 1)) := fun j h1 h2 => by
          by_cases e : j = t
          · subst e; rw [show itr c j q = p from HP.out]; exact he
          · exact HNo.out j h1 (by omega)
        clear hg HP HNo he
        generalize dg c p = p' at *
        go_wp2_with fail
        go_roundw
        case rel => exact ⟨t + 1, p', rfl, by go_num, by omega, by omega, HP2.out, HN2.out, G.out⟩
        case measure => simp [intOf]; omega
      · have hti : ¬ (t : Int) ≤ (n : Int) := by omega
        have HR : Hid (r = 0) := (HT.out t ht1 HNo.out).2 (by omega) (by rw [show itr c t q = p from HP.out]; exact he)
        clear hg HP HNo he
        go_wp2_with fail
        go_ret
        exact ⟨by rw [HR.out]; rfl, G.out⟩

end Go.Proofs.Ytofjboelplknhaa
