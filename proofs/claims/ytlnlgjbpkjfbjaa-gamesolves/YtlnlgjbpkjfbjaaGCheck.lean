/- What is wrong with a game: both checks. -/
import Derived.Test.YtlnlgjbpkjfbjaaGSolved
import Derived.Test.YtlnlgjbpkjfbjaaRList
import Derived.Test.YtlnlgjbpkjfbjaaRWord1
import Derived.Test.YtlnlgjbpkjfbjaaSay
namespace Go.Proofs.Ytlnlgjbpkjfbjaa
open Go.RowKit
set_option linter.unusedVariables false

/-- A row's fault: none leads on; one is no place; they do not rise. -/
def rowE (n : Nat) (l : List Int) : Int :=
  if l.length = 0 then 6 else if l.all (fun q => decide (0 ≤ q) && decide (q < n)) = false then 2 else if (List.range l.length).all (fun i => i == 0 || decide (l.getD (i - 1) 0 < l.getD i 0)) = false then 3 else 0
def rowsE (n : Nat) : List (List Int) → Int
  | [] => 0
  | l :: ls => if rowE n l = 0 then rowsE n ls else rowE n l
def plE (zo zm : List Int) (p : Nat) : Bool := (decide (zo.getD p 0 = 0) || decide (zo.getD p 0 = 1)) && (decide (0 ≤ zm.getD p 0) && decide (zm.getD p 0 ≤ 9))
def checkG (zo zm : List Int) (R : List (List Int)) : Int :=
  if zo.length < 1 ∨ 60 < zo.length then 1 else if zm.length ≠ zo.length ∨ R.length ≠ zo.length then 3 else if (List.range zo.length).all (plE zo zm) = false then 2 else rowsE zo.length R

theorem rowE_none {n : Nat} {l : List Int} (h : l.length = 0) : rowE n l = 6 := by simp [rowE, h]
theorem rowE_out {n : Nat} {l : List Int} {k : Nat} (h0 : l.length ≠ 0) (hk : k < l.length) (h : ¬ (0 ≤ l.getD k 0 ∧ l.getD k 0 < n)) : rowE n l = 2 := by
  unfold rowE
  rw [if_neg h0, if_pos]
  cases e : l.all (fun q => decide (0 ≤ q) && decide (q < n)) with
  | false => rfl
  | true =>
    have := List.all_eq_true.1 e _ (List.getElem_mem hk)
    rw [getD_lt hk] at h
    simp at this
    exact absurd this h
theorem rowE_in {n : Nat} {l : List Int} (h : ∀ k, k < l.length → 0 ≤ l.getD k 0 ∧ l.getD k 0 < n) : l.all (fun q => decide (0 ≤ q) && decide (q < n)) = true := by
  rw [List.all_eq_true]
  intro q hq
  obtain ⟨i, hi, rfl⟩ := List.getElem_of_mem hq
  have := h i hi
  rw [getD_lt hi] at this
  simp [this]
theorem rowE_shape {n : Nat} {l : List Int} {k : Nat} (hin : ∀ k, k < l.length → 0 ≤ l.getD k 0 ∧ l.getD k 0 < n) (hk0 : 1 ≤ k) (hk : k < l.length) (h : ¬ l.getD (k - 1) 0 < l.getD k 0) : rowE n l = 3 := by
  unfold rowE
  rw [if_neg (by omega), if_neg (by rw [rowE_in hin]; simp), if_pos]
  cases e : (List.range l.length).all (fun i => i == 0 || decide (l.getD (i - 1) 0 < l.getD i 0)) with
  | false => rfl
  | true =>
    have := List.all_eq_true.1 e k (List.mem_range.2 hk)
    rw [Bool.or_eq_true, beq_iff_eq, decide_eq_true_eq] at this
    rcases this with h1 | h1
    · omega
    · exact absurd h1 h
theorem rowE_good {n : Nat} {l : List Int} (h0 : l.length ≠ 0) (hin : ∀ k, k < l.length → 0 ≤ l.getD k 0 ∧ l.getD k 0 < n) (h : ∀ k, 1 ≤ k → k < l.length → l.getD (k - 1) 0 < l.getD k 0) : rowE n l = 0 := by
  unfold rowE
  rw [if_neg h0, if_neg (by rw [rowE_in hin]; simp), if_neg]
  have : (List.range l.length).all (fun i => i == 0 || decide (l.getD (i - 1) 0 < l.getD i 0)) = true := by
    rw [List.all_eq_true]
    intro k hk
    rw [List.mem_range] at hk
    by_cases e : k = 0
    · simp [e]
    · have := h k (by omega) hk
      rw [Bool.or_eq_true, decide_eq_true_eq]
      exact .inr this
  rw [this]; simp
theorem rowE_of {n : Nat} {l : List Int} (h : rowE n l = 0) : l.length ≠ 0 ∧ (∀ k, k < l.length → 0 ≤ l.getD k 0 ∧ l.getD k 0 < n) ∧ (∀ k, 1 ≤ k → k < l.length → l.getD (k - 1) 0 < l.getD k 0) := by
  have h0 : l.length ≠ 0 := fun e => by rw [rowE_none e] at h; cases h
  have h1 : ∀ k, k < l.length → 0 ≤ l.getD k 0 ∧ l.getD k 0 < n := fun k hk => Classical.byContradiction fun e => by rw [rowE_out h0 hk e] at h; cases h
  exact ⟨h0, h1, fun k hk0 hk => Classical.byContradiction fun e => by rw [rowE_shape h1 hk0 hk e] at h; cases h⟩
theorem rowsE_good {n : Nat} {R : List (List Int)} (h : ∀ i, i < R.length → rowE n (R.getD i []) = 0) : rowsE n R = 0 := by
  induction R with
  | nil => rfl
  | cons l R ih =>
    have h0 := h 0 (by simp)
    simp at h0
    rw [rowsE, if_pos h0]
    exact ih fun i hi => by have := h (i + 1) (by simp; omega); simpa using this
theorem rowsE_bad {n : Nat} {R : List (List Int)} {k : Nat} (hk : k < R.length) (h : ∀ i, i < k → rowE n (R.getD i []) = 0) (hb : rowE n (R.getD k []) ≠ 0) : rowsE n R = rowE n (R.getD k []) := by
  induction R generalizing k with
  | nil => simp at hk
  | cons l R ih =>
    cases k with
    | zero => simp at hb; simp [rowsE, hb]
    | succ k =>
      have h0 := h 0 (by omega)
      simp at h0
      rw [rowsE, if_pos h0]
      have := ih (k := k) (by simp at hk; omega) (fun i hi => by have := h (i + 1) (by omega); simpa using this) (by simpa using hb)
      simpa using this
theorem rowsE_of {n : Nat} {R : List (List Int)} (h : rowsE n R = 0) : ∀ i, i < R.length → rowE n (R.getD i []) = 0 := by
  induction R with
  | nil => intro i hi; simp at hi
  | cons l R ih =>
    rw [rowsE] at h
    split at h
    · rename_i h0
      intro i hi
      cases i with
      | zero => simpa using h0
      | succ i => have := ih h i (by simp at hi; omega); simpa using this
    · rename_i h0; exact absurd h h0
theorem all_no {n p : Nat} {f : Nat → Bool} (hp : p < n) (h : f p = false) : (List.range n).all f = false := by
  cases e : (List.range n).all f with
  | false => rfl
  | true => have := List.all_eq_true.1 e p (List.mem_range.2 hp); rw [h] at this; cases this
theorem all_yes {n : Nat} {f : Nat → Bool} (h : ∀ p, p < n → f p = true) : (List.range n).all f = true := by
  rw [List.all_eq_true]; intro p hp; exact h p (List.mem_range.1 hp)

/-- The game that is meant. -/
def gmOf (zo zm : List Int) (R : List (List Int)) : Gm := ⟨zo.length, fun p => zo.getD p 0, fun p => zm.getD p 0, fun p => (R.getD p []).map Int.toNat⟩
theorem rise_lt {l : List Int} (h : ∀ k, 1 ≤ k → k < l.length → l.getD (k - 1) 0 < l.getD k 0) : ∀ j i, i < j → j < l.length → l.getD i 0 < l.getD j 0 := by
  intro j
  induction j with
  | zero => intro i hi; omega
  | succ j ih =>
    intro i hi hj
    have h1 := h (j + 1) (by omega) hj
    simp only [Nat.add_sub_cancel] at h1
    by_cases e : i = j
    · subst e; exact h1
    · have := ih i (by omega) (by omega)
      omega
theorem good_of_checkG {zo zm : List Int} {R : List (List Int)} (h : checkG zo zm R = 0) : GoodG (gmOf zo zm R) ∧ zm.length = zo.length ∧ R.length = zo.length := by
  unfold checkG at h
  split at h
  · cases h
  · rename_i h1
    split at h
    · cases h
    · rename_i h2
      split at h
      · cases h
      · rename_i h3
        have hR : R.length = zo.length := Classical.byContradiction fun e => h2 (.inr e)
        have hM : zm.length = zo.length := Classical.byContradiction fun e => h2 (.inl e)
        have hp : ∀ p, p < zo.length → plE zo zm p = true := fun p hp => by
          cases e : plE zo zm p with
          | true => rfl
          | false => exact absurd (all_no hp e) h3
        have hr := fun p (hp : p < zo.length) => rowE_of (rowsE_of h p (by omega))
        refine ⟨⟨by show 1 ≤ zo.length; omega, by show zo.length ≤ 60; omega, fun p h4 => ?_, fun p h4 => ?_, fun p h4 => ?_, fun p h4 q hq => ?_, fun p h4 => ?_⟩, hM, hR⟩
        · have := hp p h4
          simp only [plE, Bool.and_eq_true, Bool.or_eq_true, decide_eq_true_eq] at this
          exact this.1
        · have := hp p h4
          simp only [plE, Bool.and_eq_true, Bool.or_eq_true, decide_eq_true_eq] at this
          exact this.2
        · intro e
          have := congrArg List.length e
          simp [gmOf] at this
          have h5 := (hr p h4).1
          simp [List.getD] at h5
          exact h5 this
        · obtain ⟨z, hz, rfl⟩ := List.mem_map.1 hq
          obtain ⟨i, hi, rfl⟩ := List.getElem_of_mem hz
          have h6 := (hr p h4).2.1 i hi
          rw [getD_lt hi] at h6
          show _ < zo.length
          omega
        · show ((R.getD p []).map Int.toNat).Nodup
          have h6 := (hr p h4).2.1
          have h7 := rise_lt (hr p h4).2.2
          refine List.pairwise_iff_getElem.2 fun i j hi hj hij => ?_
          rw [List.length_map] at hi hj
          simp only [List.getElem_map]
          have a1 := h7 j i hij hj
          have a2 := h6 i hi
          have a3 := h6 j hj
          rw [getD_lt hi] at a1 a2
          rw [getD_lt hj] at a1 a3
          omega

set_option maxHeartbeats 1600000 in
set_option maxRecDepth 100000 in
theorem checkNext_any (x : Option Addr) (c n : Nat) (l : List Int) (w : World) (h : Ints w x l) (hm : l.length ≤ maxLen) (hn : n ≤ 60) :
    Calls Try.prog 19 #[.slice x l.length c, .int .i64 (n : Int)] w (Says (.int .i64 (rowE n l)) w) := by
  have H : Hid (Ints w x l) := h
  unfold maxLen at hm
  obtain ⟨z, hz⟩ : ∃ z, rowE n l = z := ⟨_, rfl⟩
  have HZ : Hid (rowE n l = z) := hz
  rw [hz]
  clear h hz
  by_cases h0 : l.length = 0
  · have h0' : ((l.length : Int) == 0) = true := beq_iff_eq.2 (by omega)
    go_enter Try.func19, Try.ntmps19
    go_wp2_with fail
    go_ret
    exact ⟨ret_int (by rw [← HZ.out]; exact (rowE_none h0).symm), grown_refl _ _⟩
  · have h0' : ((l.length : Int) == 0) = false := beq_eq_false_iff_ne.2 (by omega)
    obtain ⟨ln, hln⟩ : ∃ ln, l.length = ln := ⟨_, rfl⟩
    have HL : Hid (l.length = ln) := hln
    rw [hln] at h0' hm h0 ⊢
    clear hln
    go_enter Try.func19, Try.ntmps19
    go_wp2_with fail
    go_loop [13] (fun i => ∃ k : Nat, k ≤ ln ∧ i = .int .i64 k ∧ ∀ j, j < k → 0 ≤ l.getD j 0 ∧ l.getD j 0 < n) (fun i => ln - (intOf i).toNat)
    case atStart => exact ⟨0, Nat.zero_le _, rfl, fun j hj => by omega⟩
    case round =>
      obtain ⟨k, hk, rfl, hg⟩ := hrel
      have HJ : Hid (∀ j, j < k → 0 ≤ l.getD j 0 ∧ l.getD j 0 < n) := hg
      clear hg
      by_cases hlt : k < ln
      · have hkl : k < l.length := by rw [HL.out]; exact hlt
        obtain ⟨b, off, rfl, hc⟩ := H.out.at hkl
        have hck := hc k hkl
        generalize hx : l.getD k 0 = q at hck
        have HX : Hid (l.getD k 0 = q) := hx
        clear hc hx
        by_cases g0 : q < 0
        · have g0' : decide (q < 0) = true := by simpa using g0
          go_wp2_with fail
          go_ret
          exact ⟨ret_int (by rw [← HZ.out]; exact (rowE_out (by rw [HL.out]; exact h0) hkl (by rw [HX.out]; omega)).symm), grown_refl _ _⟩
        · have g0' : decide (q < 0) = false := by simpa using g0
          by_cases g1 : (n : Int) ≤ q
          · have g1' : decide ((n : Int) ≤ q) = true := by simpa using g1
            go_wp2_with fail
            go_ret
            exact ⟨ret_int (by rw [← HZ.out]; exact (rowE_out (by rw [HL.out]; exact h0) hkl (by rw [HX.out]; omega)).symm), grown_refl _ _⟩
          · have g1' : decide ((n : Int) ≤ q) = false := by simpa using g1
            go_wp2_with fail
            go_round
            case rel =>
              refine ⟨k + 1, by omega, by go_num, fun j hj => ?_⟩
              by_cases hjk : j = k
              · subst hjk; rw [HX.out]; omega
              · exact HJ.out j (by omega)
            case measure => simp [intOf]; omega
      · have HI : Hid (∀ k, k < l.length → 0 ≤ l.getD k 0 ∧ l.getD k 0 < n) := fun j hj => HJ.out j (by have := HL.out; omega)
        clear HJ
        go_wp2_with fail
        go_loopw [7] (fun i wr => ∃ k : Nat, 1 ≤ k ∧ k ≤ ln ∧ i = .int .i64 k ∧ (∀ j, 1 ≤ j → j < k → l.getD (j - 1) 0 < l.getD j 0) ∧ w.grownBy wr none) (fun i _ => ln - (intOf i).toNat)
        case atStart => exact ⟨1, Nat.le_refl _, by omega, rfl, fun j hj hj' => by omega, grown_refl _ _⟩
        case round =>
          obtain ⟨k, hk1, hk, rfl, hj, hg⟩ := hrel
          have HJ : Hid (∀ j, 1 ≤ j → j < k → l.getD (j - 1) 0 < l.getD j 0) := hj
          have GG : Hid (w.grownBy wr none) := hg
          clear hj hg
          by_cases hlt : k < ln
          · have hkl : k < l.length := by rw [HL.out]; exact hlt
            have hki : (k : Int) < (ln : Int) := by omega
            obtain ⟨b, off, rfl, hc⟩ := (H.out.grown GG.out).at hkl
            obtain ⟨k', rfl⟩ : ∃ k', k = k' + 1 := ⟨k - 1, by omega⟩
            have hc1 := hc (k' + 1) hkl
            have hc0 := hc k' (by omega)
            have HB : Hid (l.getD (k' + 1) 0 ≤ l.getD k' 0 → rowE n l = 3) := fun e => rowE_shape HI.out hk1 hkl (by simp only [Nat.add_sub_cancel]; omega)
            have w1 : IntKind.i64.wrap ((k' : Int) + 1 - 1) = (k' : Int) := by rw [IntKind.wrap_i64]; omega
            have hkk : ((k' : Int) + 1 - 1) = (k' : Int) := by omega
            have hki' : (k' : Int) < (ln : Int) := by omega
            obtain ⟨q1, hq1⟩ : ∃ q1, l.getD (k' + 1) 0 = q1 := ⟨_, rfl⟩
            obtain ⟨q0, hq0⟩ : ∃ q0, l.getD k' 0 = q0 := ⟨_, rfl⟩
            have HQ : Hid (l.getD (k' + 1) 0 = q1 ∧ l.getD k' 0 = q0) := ⟨hq1, hq0⟩
            rw [hq1] at hc1 HB
            rw [hq0] at hc0 HB
            clear hq1 hq0
            clear hc
            by_cases e : q1 ≤ q0
            · have e' : decide (q1 ≤ q0) = true := by simpa using e
              have HB2 : Hid _ := HB.out e
              clear HB e
              push_cast at *
              go_wp2_with fail
              go_quiet (fail)
              go_wp2_with fail
              go_ret
              exact ⟨ret_int (by rw [← HZ.out]; exact HB2.out.symm), grown_drewN GG.out _⟩
            · have e' : decide (q1 ≤ q0) = false := by simpa using e
              have HC2 : Hid (¬ q1 ≤ q0) := e
              clear HB e
              push_cast at *
              go_wp2_with fail
              go_quiet (fail)
              go_wp2_with fail
              go_roundw
              case rel =>
                refine ⟨k' + 1 + 1, by omega, by omega, by go_num, fun j hj1 hj2 => ?_, grown_drewN GG.out _⟩
                by_cases ej : j = k' + 1
                · subst ej
                  simp only [Nat.add_sub_cancel]
                  rw [HQ.out.1, HQ.out.2]
                  have := HC2.out
                  omega
                · exact HJ.out j hj1 (by omega)
              case measure => simp [intOf]; omega
          · have hki : ¬ (k : Int) < (ln : Int) := by omega
            have HG : Hid (rowE n l = 0) := rowE_good (by rw [HL.out]; exact h0) HI.out (fun j hj1 hj2 => HJ.out j hj1 (by have := HL.out; omega))
            go_wp2_with fail
            go_ret
            exact ⟨ret_int (by rw [← HZ.out]; exact HG.out.symm), GG.out⟩

/-- A game among the arguments. -/
structure GArg (w : World) (zo zm : List Int) (R : List (List Int)) (ao am ax : Option Addr) : Prop where
  own : Ints w ao zo
  mark : Ints w am zm
  rows : RowsAt w ax R
  lo : zo.length ≤ maxLen
  lm : zm.length ≤ maxLen
  lr : R.length ≤ maxLen
theorem GArg.grown {w w' : World} {zo zm : List Int} {R : List (List Int)} {ao am ax : Option Addr} (h : GArg w zo zm R ao am ax) (hg : w.grownBy w' none) : GArg w' zo zm R ao am ax := ⟨h.own.grown hg, h.mark.grown hg, h.rows.grown hg, h.lo, h.lm, h.lr⟩
abbrev gameV (ao : Option Addr) (no co : Nat) (am : Option Addr) (nm cm : Nat) (ax : Option Addr) (nx cx : Nat) : Value := .agg #[.slice ao no co, .slice am nm cm, .slice ax nx cx]
theorem box3_new (w : World) (v0 v1 v2 : Value) (t : TypeId) : ∃ W, W = w.alloc (.cells #[v0, v1, v2] t) ∧ w.grownBy W none ∧ W.heap.size = w.heap.size + 1 ∧ ∀ W', W.grownBy W' none → W'.cell? ⟨w.heap.size, 0, none⟩ = some v0 ∧ W'.cell? ⟨w.heap.size, 1, none⟩ = some v1 ∧ W'.cell? ⟨w.heap.size, 2, none⟩ = some v2 := by
  refine ⟨_, rfl, grown_alloc _ _, by simp, fun W' h => ?_⟩
  have hb := heap_alloc_new w (.cells #[v0, v1, v2] t)
  have hc : ∀ k v, #[v0, v1, v2][k]? = some v → W'.cell? ⟨w.heap.size, k, none⟩ = some v := fun k v hv => h.cell (by rw [cell_of_row _ _ k _ _ (0, 0) hb]; exact hv) (by simp)
  exact ⟨hc 0 _ rfl, hc 1 _ rfl, hc 2 _ rfl⟩
theorem plE_no {zo zm : List Int} {p : Nat} {q m : Int} (h1 : zo.getD p 0 = q) (h2 : zm.getD p 0 = m) (h : ¬ ((q = 0 ∨ q = 1) ∧ 0 ≤ m ∧ m ≤ 9)) : plE zo zm p = false := by
  cases e : plE zo zm p with
  | false => rfl
  | true =>
    simp only [plE, Bool.and_eq_true, Bool.or_eq_true, decide_eq_true_eq, h1, h2] at e
    exact absurd e h
theorem plE_yes {zo zm : List Int} {p : Nat} {q m : Int} (h1 : zo.getD p 0 = q) (h2 : zm.getD p 0 = m) (h : (q = 0 ∨ q = 1) ∧ 0 ≤ m ∧ m ≤ 9) : plE zo zm p = true := by
  simp only [plE, Bool.and_eq_true, Bool.or_eq_true, decide_eq_true_eq, h1, h2]; exact h

set_option maxHeartbeats 6400000 in
set_option maxRecDepth 100000 in
theorem checkP_any (zo zm : List Int) (R : List (List Int)) (ao am ax : Option Addr) (co cm cx : Nat) (w : World) (h : GArg w zo zm R ao am ax) :
    Calls Try.prog 11 #[gameV ao zo.length co am zm.length cm ax R.length cx] w (Says (.int .i64 (checkG zo zm R)) w) := by
  have H : Hid (GArg w zo zm R ao am ax) := h
  have lo := h.lo
  have lm := h.lm
  have lr := h.lr
  unfold maxLen at lo lm lr
  obtain ⟨z, hz⟩ : ∃ z, checkG zo zm R = z := ⟨_, rfl⟩
  have HZ : Hid (checkG zo zm R = z) := hz
  rw [hz]
  obtain ⟨n, hno⟩ : ∃ n, zo.length = n := ⟨_, rfl⟩
  obtain ⟨nm, hnm⟩ : ∃ nm, zm.length = nm := ⟨_, rfl⟩
  obtain ⟨nr, hnr⟩ : ∃ nr, R.length = nr := ⟨_, rfl⟩
  have HN : Hid (zo.length = n ∧ zm.length = nm ∧ R.length = nr) := ⟨hno, hnm, hnr⟩
  rw [hno] at lo ⊢
  rw [hnm] at lm ⊢
  rw [hnr] at lr ⊢
  obtain ⟨W1, hW1, g1, s1, bx1⟩ := box3_new w (.slice ao n co) (.slice am nm cm) (.slice ax nr cx) 33
  have G1 : Hid (w.grownBy W1 none) := g1
  have BX : Hid (∀ W', W1.grownBy W' none → W'.cell? ⟨w.heap.size, 0, none⟩ = some (.slice ao n co) ∧ W'.cell? ⟨w.heap.size, 1, none⟩ = some (.slice am nm cm) ∧ W'.cell? ⟨w.heap.size, 2, none⟩ = some (.slice ax nr cx)) := bx1
  obtain ⟨x0, x1, x2⟩ := bx1 W1 (grown_refl _ _)
  have HW1 : Hid (W1 = w.alloc (.cells #[.slice ao n co, .slice am nm cm, .slice ax nr cx] 33)) := hW1
  rw [hW1] at x0 x1 x2
  clear h hz hno hnm hnr hW1 g1 s1 bx1
  by_cases hs : n < 1 ∨ 60 < n
  · have HE : Hid (checkG zo zm R = 1) := by show _ = _; unfold checkG; rw [HN.out.1, if_pos hs]
    rcases hs with hs | hs
    · have a1 : decide ((n : Int) < 1) = true := by simp; omega
      go_enter Try.func11, Try.ntmps11
      go_wp2_with fail
      go_ret
      exact ⟨ret_int (by rw [← HZ.out, HE.out]), by rw [← HW1.out]; exact G1.out⟩
    · have a1 : decide ((n : Int) < 1) = false := by simp; omega
      have a2 : decide ((60 : Int) < (n : Int)) = true := by simp; omega
      go_enter Try.func11, Try.ntmps11
      go_wp2_with fail
      go_ret
      exact ⟨ret_int (by rw [← HZ.out, HE.out]), by rw [← HW1.out]; exact G1.out⟩
  have a1 : decide ((n : Int) < 1) = false := by simp; omega
  have a2 : decide ((60 : Int) < (n : Int)) = false := by simp; omega
  have HS : Hid (¬ (n < 1 ∨ 60 < n)) := hs
  by_cases hm : nm ≠ n ∨ nr ≠ n
  · have HE : Hid (checkG zo zm R = 3) := by show _ = _; unfold checkG; rw [HN.out.1, HN.out.2.1, HN.out.2.2, if_neg HS.out, if_pos hm]
    by_cases hm1 : nm = n
    · have a3 : ((nm : Int) != (n : Int)) = false := by simp; omega
      have a4 : ((nr : Int) != (n : Int)) = true := by simp; omega
      clear hm1
      go_enter Try.func11, Try.ntmps11
      go_wp2_with fail
      go_ret
      exact ⟨ret_int (by rw [← HZ.out, HE.out]), by rw [← HW1.out]; exact G1.out⟩
    · have a3 : ((nm : Int) != (n : Int)) = true := by simp; omega
      go_enter Try.func11, Try.ntmps11
      go_wp2_with fail
      go_ret
      exact ⟨ret_int (by rw [← HZ.out, HE.out]), by rw [← HW1.out]; exact G1.out⟩
  have HM : Hid (¬ (nm ≠ n ∨ nr ≠ n)) := hm
  have hm1 : nm = n := by omega
  have hm2 : nm = nr := by omega
  subst hm1
  subst hm2
  have a3 : ((nm : Int) != (nm : Int)) = false := by simp
  clear hm
  go_enter Try.func11, Try.ntmps11
  go_wp2_with fail
  rw [← HW1.out]
  clear x0 x1 x2
  go_loop [30] (fun i => ∃ k : Nat, k ≤ nm ∧ i = .int .i64 k ∧ ∀ j, j < k → plE zo zm j = true) (fun i => nm - (intOf i).toNat)
  case atStart => exact ⟨0, Nat.zero_le _, rfl, fun j hj => by omega⟩
  case round =>
    obtain ⟨k, hk, rfl, hg⟩ := hrel
    have HJ : Hid (∀ j, j < k → plE zo zm j = true) := hg
    clear hg
    obtain ⟨x0, x1, x2⟩ := BX.out W1 (grown_refl _ _)
    by_cases hlt : k < nm
    · have hki : (k : Int) < (nm : Int) := by omega
      obtain ⟨b, off, rfl, hc⟩ := (H.out.grown G1.out).own.at (k := k) (by rw [HN.out.1]; exact hlt)
      obtain ⟨b', off', rfl, hc'⟩ := (H.out.grown G1.out).mark.at (k := k) (by rw [HN.out.2.1]; exact hlt)
      have hck := hc k (by rw [HN.out.1]; exact hlt)
      have hck' := hc' k (by rw [HN.out.2.1]; exact hlt)
      obtain ⟨q, hq⟩ : ∃ q, zo.getD k 0 = q := ⟨_, rfl⟩
      obtain ⟨mm, hmm⟩ : ∃ mm, zm.getD k 0 = mm := ⟨_, rfl⟩
      have HQ : Hid (zo.getD k 0 = q ∧ zm.getD k 0 = mm) := ⟨hq, hmm⟩
      rw [hq] at hck
      rw [hmm] at hck'
      have HBad : Hid (¬ ((q = 0 ∨ q = 1) ∧ 0 ≤ mm ∧ mm ≤ 9) → checkG zo zm R = 2) := fun e => by
        unfold checkG
        rw [HN.out.1, HN.out.2.1, HN.out.2.2, if_neg HS.out, if_neg HM.out, if_pos (all_no hlt (plE_no HQ.out.1 HQ.out.2 e))]
      have HGood : Hid (((q = 0 ∨ q = 1) ∧ 0 ≤ mm ∧ mm ≤ 9) → plE zo zm k = true) := fun e => plE_yes HQ.out.1 HQ.out.2 e
      clear hc hc' hq hmm
      by_cases e1 : q < 0
      · have e1' : decide (q < 0) = true := by simpa using e1
        have HB2 : Hid _ := HBad.out (by omega)
        clear HBad HGood
        go_wp2_with fail
        go_ret
        exact ⟨ret_int (by rw [← HZ.out, HB2.out]), G1.out⟩
      have e1' : decide (q < 0) = false := by simpa using e1
      by_cases e2 : 1 < q
      · have e2' : decide (1 < q) = true := by simpa using e2
        have HB2 : Hid _ := HBad.out (by omega)
        clear HBad HGood
        go_wp2_with fail
        go_ret
        exact ⟨ret_int (by rw [← HZ.out, HB2.out]), G1.out⟩
      have e2' : decide (1 < q) = false := by simpa using e2
      by_cases e3 : mm < 0
      · have e3' : decide (mm < 0) = true := by simpa using e3
        have HB2 : Hid _ := HBad.out (by omega)
        clear HBad HGood
        go_wp2_with fail
        go_ret
        exact ⟨ret_int (by rw [← HZ.out, HB2.out]), G1.out⟩
      have e3' : decide (mm < 0) = false := by simpa using e3
      by_cases e4 : 9 < mm
      · have e4' : decide (9 < mm) = true := by simpa using e4
        have HB2 : Hid _ := HBad.out (by omega)
        clear HBad HGood
        go_wp2_with fail
        go_ret
        exact ⟨ret_int (by rw [← HZ.out, HB2.out]), G1.out⟩
      have e4' : decide (9 < mm) = false := by simpa using e4
      have HG2 : Hid _ := HGood.out (by omega)
      clear HBad HGood
      go_wp2_with fail
      go_round
      case rel =>
        refine ⟨k + 1, by omega, by go_num, fun j hj => ?_⟩
        by_cases hjk : j = k
        · subst hjk; exact HG2.out
        · exact HJ.out j (by omega)
      case measure => simp [intOf]; omega
    · have HA : Hid ((List.range nm).all (plE zo zm) = true) := all_yes (fun p hp => HJ.out p (by omega))
      have HRows : Hid (checkG zo zm R = rowsE nm R) := by
        show _ = _
        unfold checkG
        rw [HN.out.1, HN.out.2.1, HN.out.2.2, if_neg HS.out, if_neg HM.out, if_neg (by rw [HA.out]; simp)]
      have hn60 : nm ≤ 60 := by omega
      go_wp2_with fail
      clear x0 x1 x2 HJ
      go_loopw [67] (fun i wr => ∃ k : Nat, k ≤ nm ∧ i = .int .i64 k ∧ (∀ j, j < k → rowE nm (R.getD j []) = 0) ∧ W1.grownBy wr none) (fun i _ => nm - (intOf i).toNat)
      case atStart => exact ⟨0, Nat.zero_le _, rfl, fun j hj => by omega, grown_refl _ _⟩
      case round =>
        obtain ⟨k, hk, rfl, hj, hg⟩ := hrel
        have HJ : Hid (∀ j, j < k → rowE nm (R.getD j []) = 0) := hj
        have GG : Hid (W1.grownBy wr none) := hg
        clear hj hg
        by_cases hlt : k < nm
        · have hki : (k : Int) < (nm : Int) := by omega
          obtain ⟨b, off, rfl, hc⟩ := (H.out.grown (grown_trans G1.out GG.out)).rows.at (k := k) (by rw [HN.out.2.2]; exact hlt)
          obtain ⟨x, d, hx1, hx2, hx3⟩ := hc k (by rw [HN.out.2.2]; exact hlt)
          have CN : Hid (Calls Try.prog 19 #[.slice x (R.getD k []).length d, .int .i64 (nm : Int)] wr (Says (.int .i64 (rowE nm (R.getD k []))) wr)) := checkNext_any x d nm (R.getD k []) wr hx2 hx3 hn60
          have HBad : Hid (rowE nm (R.getD k []) ≠ 0 → checkG zo zm R = rowE nm (R.getD k [])) := fun e => by
            rw [HRows.out]; exact rowsE_bad (by rw [HN.out.2.2]; exact hlt) HJ.out e
          obtain ⟨y, hy⟩ : ∃ y, rowE nm (R.getD k []) = y := ⟨_, rfl⟩
          have HY : Hid (rowE nm (R.getD k []) = y) := hy
          rw [hy] at CN HBad
          generalize (R.getD k []).length = lk at *
          clear hc hx2 hx3 hy
          go_wp2_with fail
          refine CN.out.mono ?_
          rintro E w3 ⟨rfl, hg3⟩
          have G3 : Hid (W1.grownBy w3 none) := grown_trans GG.out hg3
          clear hg3 CN
          by_cases hy0 : y = 0
          · have hy' : (y != 0) = false := by simpa using hy0
            have HY0 : Hid (y = 0) := hy0
            clear HBad hy0
            go_wp2_with fail
            go_roundw
            case rel =>
              refine ⟨k + 1, by omega, by go_num, fun j hj => ?_, G3.out⟩
              by_cases hjk : j = k
              · subst hjk; rw [HY.out]; exact HY0.out
              · exact HJ.out j (by omega)
            case measure => simp [intOf]; omega
          · have hy' : (y != 0) = true := by simpa using hy0
            have HB2 : Hid _ := HBad.out hy0
            clear HBad
            go_wp2_with fail
            go_ret
            exact ⟨ret_int (by rw [← HZ.out, HB2.out]), grown_trans G1.out G3.out⟩
        · have hki : ¬ (k : Int) < (nm : Int) := by omega
          have HG : Hid (checkG zo zm R = 0) := by show _ = _; rw [HRows.out]; exact rowsE_good (fun i hi => HJ.out i (by rw [HN.out.2.2] at hi; omega))
          go_wp2_with fail
          go_ret
          exact ⟨ret_int (by rw [← HZ.out, HG.out]), grown_trans G1.out GG.out⟩

end Go.Proofs.Ytlnlgjbpkjfbjaa
