/- Automata that know their way, with other limits: how many states there may be, up to which number the marks go. -/
/- The reference's Check of an automaton answers checkF, too. -/
/- Whether a word is accepted: the reference's After and Accepts. -/
import Derived.Test.YtcgkflddipflbaaDSpec
import Derived.Test.YtcgkflddipflbaaTls
import Derived.Test.YtcgkflddipflbaaDRead
namespace Go.Proofs.Ytcgkflddipflbaa
set_option linter.unusedVariables false

/-- It may be one. -/
structure GoodN (N K : Nat) (d : Dfa) : Prop where
  l1 : 1 ≤ d.L
  l4 : d.L ≤ 4
  n1 : 1 ≤ d.R.length
  n3 : d.R.length ≤ N
  ml : d.M.length = d.R.length
  rl : ∀ i, i < d.R.length → ((d.R.getD i []).length : Int) = d.L
  r : ∀ i, i < d.R.length → ∀ k, k < (d.R.getD i []).length → 0 ≤ (d.R.getD i []).getD k 0 ∧ (d.R.getD i []).getD k 0 < d.R.length
  s : 0 ≤ d.S ∧ d.S < d.R.length
  m : ∀ i, i < d.M.length → 0 ≤ d.M.getD i 0 ∧ d.M.getD i 0 ≤ K

def goodNB (N K : Nat) (d : Dfa) : Bool :=
  decide (1 ≤ d.L) && decide (d.L ≤ 4) && decide (1 ≤ d.R.length) && decide (d.R.length ≤ N) && shapeB d &&
  ((List.range d.R.length).all fun i => (List.range (d.R.getD i []).length).all fun k => decide (0 ≤ (d.R.getD i []).getD k 0) && decide ((d.R.getD i []).getD k 0 < d.R.length)) &&
  decide (0 ≤ d.S) && decide (d.S < d.R.length) && (List.range d.M.length).all fun i => decide (0 ≤ d.M.getD i 0) && decide (d.M.getD i 0 ≤ K)
theorem goodNB_iff (N K : Nat) (d : Dfa) : goodNB N K d = true ↔ GoodN N K d := by
  have hs := shapeB_iff d
  simp only [goodNB, Bool.and_eq_true, decide_eq_true_eq, List.all_eq_true, List.mem_range, hs]
  constructor
  · rintro ⟨⟨⟨⟨⟨⟨⟨⟨h1, h2⟩, h3⟩, h4⟩, h5, h6⟩, h7⟩, h8⟩, h9⟩, h10⟩
    exact ⟨h1, h2, h3, h4, h5, h6, h7, ⟨h8, h9⟩, h10⟩
  · rintro ⟨h1, h2, h3, h4, h5, h6, h7, ⟨h8, h9⟩, h10⟩
    exact ⟨⟨⟨⟨⟨⟨⟨⟨h1, h2⟩, h3⟩, h4⟩, h5, h6⟩, h7⟩, h8⟩, h9⟩, h10⟩

/-- What is wrong with one. -/
def checkN (N K : Nat) (d : Dfa) : Int :=
  if d.L < 1 ∨ 4 < d.L then 2
  else if d.R.length < 1 ∨ N < d.R.length then 1
  else if shapeB d = false then 3
  else if goodNB N K d = true then 0 else 2

theorem checkN_good {N K : Nat} {d : Dfa} (h : GoodN N K d) : checkN N K d = 0 := by
  have h1 := h.l1; have h2 := h.l4; have h3 := h.n1; have h4 := h.n3
  unfold checkN
  rw [if_neg (by omega), if_neg (by omega), if_neg (by rw [(shapeB_iff d).2 ⟨h.ml, h.rl⟩]; simp), if_pos ((goodNB_iff N K d).2 h)]

theorem goodN_of_check {N K : Nat} {d : Dfa} (h : checkN N K d = 0) : GoodN N K d := by
  unfold checkN at h
  split at h
  · cases h
  · split at h
    · cases h
    · split at h
      · cases h
      · split at h
        · next h1 => exact (goodNB_iff N K d).1 h1
        · cases h

theorem checkN_range {N K : Nat} {d : Dfa} (h : d.L < 1 ∨ 4 < d.L) : checkN N K d = 2 := by unfold checkN; rw [if_pos h]
theorem checkN_size {N K : Nat} {d : Dfa} (h : ¬ (d.L < 1 ∨ 4 < d.L)) (h2 : d.R.length < 1 ∨ N < d.R.length) : checkN N K d = 1 := by unfold checkN; rw [if_neg h, if_pos h2]
theorem checkN_shape {N K : Nat} {d : Dfa} (h : ¬ (d.L < 1 ∨ 4 < d.L)) (h2 : ¬ (d.R.length < 1 ∨ N < d.R.length)) (h3 : ¬ (d.M.length = d.R.length ∧ ∀ i, i < d.R.length → ((d.R.getD i []).length : Int) = d.L)) : checkN N K d = 3 := by
  unfold checkN
  rw [if_neg h, if_neg h2, if_pos]
  cases hb : shapeB d with
  | false => rfl
  | true => exact absurd ((shapeB_iff d).1 hb) h3
theorem checkN_in {N K : Nat} {d : Dfa} (h : ¬ (d.L < 1 ∨ 4 < d.L)) (h2 : ¬ (d.R.length < 1 ∨ N < d.R.length)) (h3 : d.M.length = d.R.length ∧ ∀ i, i < d.R.length → ((d.R.getD i []).length : Int) = d.L) (h4 : ¬ GoodN N K d) : checkN N K d = 2 := by
  unfold checkN
  rw [if_neg h, if_neg h2, if_neg (by rw [(shapeB_iff d).2 h3]; simp), if_neg (fun hb => h4 ((goodNB_iff N K d).1 hb))]

theorem GoodN.row {N K : Nat} {d : Dfa} (h : GoodN N K d) {s : Nat} (hs : s < d.R.length) : (d.R.getD s []).length = d.L.toNat := by have := h.rl s hs; have := h.l1; omega
theorem GoodN.nx_lt {N K : Nat} {d : Dfa} (h : GoodN N K d) {s a : Nat} (hs : s < d.R.length) (ha : a < d.L.toNat) : d.nx s a < d.R.length := by
  have := h.r s hs a (by rw [h.row hs]; exact ha); unfold Dfa.nx; omega
theorem GoodN.nx_eq {N K : Nat} {d : Dfa} (h : GoodN N K d) {s a : Nat} (hs : s < d.R.length) (ha : a < d.L.toNat) : (d.R.getD s []).getD a 0 = (d.nx s a : Int) := by
  have := h.r s hs a (by rw [h.row hs]; exact ha); unfold Dfa.nx; omega
theorem GoodN.go_lt {N K : Nat} {d : Dfa} (h : GoodN N K d) {s : Nat} (hs : s < d.R.length) (z : List Int) (hz : ∀ x ∈ z, 0 ≤ x ∧ x < d.L) : d.go s z < d.R.length := by
  unfold Dfa.go
  induction z generalizing s with
  | nil => exact hs
  | cons x z ih =>
    have hx := hz x (by simp)
    exact ih (h.nx_lt hs (by omega)) (fun y hy => hz y (by simp [hy]))


end Go.Proofs.Ytcgkflddipflbaa

namespace Go.Proofs.Ytcgkflddipflbaa
open Go.RowKit
set_option linter.unusedVariables false

def IsSt (x : Int) (n : Nat) : Prop := 0 ≤ x ∧ x < n
def Leads (S : Int) (R : List (List Int)) : Prop := (∀ i, i < R.length → ∀ k, k < (R.getD i []).length → IsSt ((R.getD i []).getD k 0) R.length) ∧ IsSt S R.length

/-- The rows up to one, and of that one the numbers up to one, are states. -/
def LeadsTo (R : List (List Int)) (i k : Nat) : Prop :=
  (∀ j, j < i → ∀ k, k < (R.getD j []).length → IsSt ((R.getD j []).getD k 0) R.length) ∧ ∀ j, j < k → IsSt ((R.getD i []).getD j 0) R.length

theorem check_leads {L S : Int} {R : List (List Int)} {M : List Int} (h1 : ¬ (L < 1 ∨ 4 < L)) (h2 : ¬ (R.length < 1 ∨ 3000 < R.length)) (h3 : Shaped L R M) (h4 : Leads S R) (h5 : ∀ i, i < M.length → M.getD i 0 = 0 ∨ M.getD i 0 = 1) : Good ⟨L, S, R, M⟩ :=
  ⟨by show 1 ≤ L; omega, by show L ≤ 4; omega, by show 1 ≤ R.length; omega, by show R.length ≤ 3000; omega, h3.1, h3.2, h4.1, h4.2, h5⟩

set_option maxHeartbeats 3200000 in
set_option maxRecDepth 100000 in
theorem checkR_any (L S : Int) (R : List (List Int)) (M : List Int) (a a' : Option Addr) (c c' : Nat) (w : World) (h : DetAt w ⟨L, S, R, M⟩ a a') :
    Calls Try.prog 7 #[.agg #[.int .i64 L, .int .i64 S, .slice a R.length c, .slice a' M.length c']] w fun e w' => e = .returned (.int .i64 (checkF ⟨L, S, R, M⟩)) ∧ w.grownBy w' none := by
  have hm := h.rm
  have hm' := h.mm
  have hr := h.marks
  have hr' := h.rows
  unfold maxLen at hm hm'
  simp only at hm hm' hr hr'
  have HM : Hid (Ints w a' M) := hr
  have HR : Hid (RowsAt w a R) := hr'
  have HG : Hid (∀ o, w.grownBy (w.alloc o) none) := fun o => grown_alloc w o
  clear h hr hr'
  obtain ⟨z, hz⟩ : ∃ z, checkF ⟨L, S, R, M⟩ = z := ⟨_, rfl⟩
  rw [hz]
  have HZ : Hid (checkF ⟨L, S, R, M⟩ = z) := hz
  clear hz
  by_cases h1 : L < 1
  · have hd : decide (L < 1) = true := by simpa using h1
    go_enter Try.func7, Try.ntmps7
    go_wp2_with fail
    go_ret
    exact ⟨ret_int (by rw [← HZ.out]; exact (checkF_range (by show _ ∨ _; simp only; omega)).symm), HG.out _⟩
  have hd : decide (L < 1) = false := by simpa using h1
  by_cases h2 : 4 < L
  · go_enter Try.func7, Try.ntmps7
    go_wp2_with fail
    go_ret
    exact ⟨ret_int (by rw [← HZ.out]; exact (checkF_range (by show _ ∨ _; simp only; omega)).symm), HG.out _⟩
  by_cases h3 : R.length < 1
  · have hd2 : decide ((R.length : Int) < 1) = true := by simp; omega
    go_enter Try.func7, Try.ntmps7
    go_wp2_with fail
    go_ret
    exact ⟨ret_int (by rw [← HZ.out]; exact (checkF_size (by simp only; omega) (by simp only; omega)).symm), HG.out _⟩
  have hd2 : decide ((R.length : Int) < 1) = false := by simp; omega
  by_cases h4 : 3000 < R.length
  · have h4' : (3000 : Int) < (R.length : Int) := by omega
    go_enter Try.func7, Try.ntmps7
    go_wp2_with fail
    go_ret
    exact ⟨ret_int (by rw [← HZ.out]; exact (checkF_size (by simp only; omega) (by simp only; omega)).symm), HG.out _⟩
  have h4' : ¬ (3000 : Int) < (R.length : Int) := by omega
  by_cases h5n : ¬ M.length = R.length
  · have h5' : ((M.length : Int) != (R.length : Int)) = true := by simp; omega
    go_enter Try.func7, Try.ntmps7
    go_wp2_with fail
    go_ret
    exact ⟨ret_int (by rw [← HZ.out]; exact (checkF_shape (by simp only; omega) (by simp only; omega) (fun hs => h5n hs.1)).symm), HG.out _⟩
  have h5 : M.length = R.length := Decidable.not_not.1 h5n
  have h5' : ((M.length : Int) != (R.length : Int)) = false := by simp; omega
  have H5 : Hid (M.length = R.length) := h5
  clear h5n h5
  go_enter Try.func7, Try.ntmps7
  go_wp2_with fail
  generalize hO : Obj.cells #[Value.int IntKind.i64 L, Value.int IntKind.i64 S, Value.slice a R.length c, Value.slice a' M.length c'] 36 = O
  have HO : Hid (Obj.cells #[Value.int IntKind.i64 L, Value.int IntKind.i64 S, Value.slice a R.length c, Value.slice a' M.length c'] 36 = O) := hO
  clear hO
  go_loopw [4] (fun v wr => ∃ k : Nat, v = .int .i64 k ∧ k ≤ R.length ∧ (w.alloc O).grownBy wr none ∧ ∀ j, j < k → ((R.getD j []).length : Int) = L) (fun v _ => R.length - (intOf v).toNat)
  case atStart => exact ⟨0, rfl, by omega, grown_refl _ _, fun j hj => by omega⟩
  case round =>
    obtain ⟨i, rfl, hi, hg, hl⟩ := hrel
    have G : Hid ((w.alloc O).grownBy wr none) := hg
    have HL : Hid (∀ j, j < i → ((R.getD j []).length : Int) = L) := hl
    obtain ⟨b0, b1, b2, b3⟩ := box4 (HO.out ▸ hg)
    clear hg hl
    by_cases hlt : i < R.length
    · obtain ⟨b, off, rfl, hc⟩ := HR.out.at hlt
      obtain ⟨x, cx, hck, hix, hlx⟩ := hc i hlt
      unfold maxLen at hlx
      have hcw : wr.cell? ⟨b, off + i, none⟩ = some (.slice x (R.getD i []).length cx) := (grown_trans (HG.out O) G.out).cell hck (by simp)
      clear hc hix hck
      generalize hzs : (R.getD i []).length = n at hcw hlx
      have HX : Hid ((R.getD i []).length = n) := hzs
      clear hzs
      by_cases g1 : (n : Int) = L
      · have g1' : ((n : Int) != L) = false := by simpa using g1
        go_wp2_with fail
        go_quiet (fail)
        go_wp2_with fail
        go_roundw
        case rel =>
          refine ⟨i + 1, by go_num, by omega, grown_drewN G.out _, fun j hj => ?_⟩
          by_cases hjk : j = i
          · subst hjk; rw [HX.out]; exact g1
          · exact HL.out j (by omega)
        case measure => simp [intOf]; omega
      · have g1' : ((n : Int) != L) = true := by simpa using g1
        go_wp2_with fail
        go_quiet (fail)
        go_wp2_with fail
        go_ret
        exact ⟨ret_int (by rw [← HZ.out]; exact (checkF_shape (d := ⟨L, S, R, M⟩) (by simp only; omega) (by simp only; omega) (fun hs => g1 (by rw [← HX.out]; exact hs.2 i hlt))).symm), grown_drewN (grown_trans (HG.out O) G.out) _⟩
    · have HS : Hid (Shaped L R M) := ⟨H5.out, fun j hj => HL.out j (by omega)⟩
      clear HL
      by_cases g1 : S < 0
      · have g1' : decide (S < 0) = true := by simpa using g1
        go_wp2_with fail
        go_ret
        exact ⟨ret_int (by rw [← HZ.out]; exact (checkF_in (d := ⟨L, S, R, M⟩) (by simp only; omega) (by simp only; omega) HS.out (fun hs => by have := hs.s; simp only at this; omega)).symm), grown_trans (HG.out O) G.out⟩
      have g1' : decide (S < 0) = false := by simpa using g1
      by_cases g2 : (R.length : Int) ≤ S
      · go_wp2_with fail
        go_ret
        exact ⟨ret_int (by rw [← HZ.out]; exact (checkF_in (d := ⟨L, S, R, M⟩) (by simp only; omega) (by simp only; omega) HS.out (fun hs => by have := hs.s; simp only at this; omega)).symm), grown_trans (HG.out O) G.out⟩
      go_wp2_with fail
      clear b0 b1 b2 b3
      go_loopw [5] (fun v wr => ∃ i : Nat, v = .int .i64 i ∧ i ≤ R.length ∧ (w.alloc O).grownBy wr none ∧ LeadsTo R i 0) (fun v _ => R.length - (intOf v).toNat)
      case atStart => exact ⟨0, rfl, by omega, G.out, ⟨fun j hj => by omega, fun j hj => by omega⟩⟩
      case round =>
        clear G
        obtain ⟨i, rfl, hi, hg, hl⟩ := hrel
        have G : Hid ((w.alloc O).grownBy wr none) := hg
        have HL : Hid (LeadsTo R i 0) := hl
        obtain ⟨b0, b1, b2, b3⟩ := box4 (HO.out ▸ hg)
        clear hg hl
        by_cases hlt : i < R.length
        · obtain ⟨b, off, rfl, hc⟩ := HR.out.at hlt
          obtain ⟨x, cx, hck, hix, hlx⟩ := hc i hlt
          have HX : Hid (Ints w x (R.getD i [])) := hix
          have hlen : Hid (((R.getD i []).length : Int) = L) := HS.out.2 i hlt
          have HC : Hid (w.cell? ⟨b, off + i, none⟩ = some (.slice x (R.getD i []).length cx)) := hck
          clear hc hix hck
          generalize hzs : R.getD i [] = zs at HC hlx HX hlen
          have HZs : Hid (R.getD i [] = zs) := hzs
          clear hzs
          have hlen' := hlen.out
          subst hlen'
          go_wp2_with fail
          clear b0 b1 b2 b3
          go_loopw [6] (fun v wq => ∃ k : Nat, v = .int .i64 k ∧ k ≤ zs.length ∧ (w.alloc O).grownBy wq none ∧ LeadsTo R i k) (fun v _ => zs.length - (intOf v).toNat)
          case atStart => exact ⟨0, rfl, by omega, G.out, HL.out⟩
          case round =>
            clear G HL
            obtain ⟨k, rfl, hk, hg, hl⟩ := hrel
            have G : Hid ((w.alloc O).grownBy wr none) := hg
            have HL : Hid (LeadsTo R i k) := hl
            obtain ⟨b0, b1, b2, b3⟩ := box4 (HO.out ▸ hg)
            clear hg hl
            by_cases hkl : k < zs.length
            · obtain ⟨bx, ox, rfl, hcx⟩ := HX.out.at hkl
              have hcw : wr.cell? ⟨bx, ox + k, none⟩ = some (.int .i64 (zs.getD k 0)) := (grown_trans (HG.out O) G.out).cell (hcx k hkl) (by simp)
              have hcr : wr.cell? ⟨b, off + i, none⟩ = some (.slice (some ⟨bx, ox, none⟩) zs.length cx) := (grown_trans (HG.out O) G.out).cell HC.out (by simp)
              clear hcx
              generalize hy : zs.getD k 0 = y at hcw
              have HY : Hid (zs.getD k 0 = y) := hy
              clear hy
              by_cases y1 : y < 0
              · have y1' : decide (y < 0) = true := by simpa using y1
                go_wp2_with fail
                go_ret
                refine ⟨ret_int ?_, grown_trans (HG.out O) G.out⟩
                rw [← (by assumption : Hid (checkF ⟨_, S, R, M⟩ = z)).out]
                refine (checkF_in (d := ⟨zs.length, S, R, M⟩) (by simp only; omega) (by simp only; omega) HS.out (fun hs => ?_)).symm
                have := hs.r i hlt k (by simp only; rw [HZs.out]; exact hkl)
                simp only at this
                rw [HZs.out, HY.out] at this
                omega
              have y1' : decide (y < 0) = false := by simpa using y1
              by_cases y2 : (R.length : Int) ≤ y
              · go_wp2_with fail
                go_ret
                refine ⟨ret_int ?_, grown_trans (HG.out O) G.out⟩
                rw [← (by assumption : Hid (checkF ⟨_, S, R, M⟩ = z)).out]
                refine (checkF_in (d := ⟨zs.length, S, R, M⟩) (by simp only; omega) (by simp only; omega) HS.out (fun hs => ?_)).symm
                have := hs.r i hlt k (by simp only; rw [HZs.out]; exact hkl)
                simp only at this
                rw [HZs.out, HY.out] at this
                omega
              go_wp2_with fail
              go_roundw
              case rel =>
                refine ⟨k + 1, by go_num, by omega, G.out, HL.out.1, fun j hj => ?_⟩
                by_cases hjk : j = k
                · subst hjk; rw [HZs.out, HY.out]; exact ⟨by omega, by omega⟩
                · exact HL.out.2 j (by omega)
              case measure => simp [intOf]; omega
            · go_wp2_with fail
              go_roundw
              case rel =>
                refine ⟨i + 1, by go_num, by omega, G.out, fun j hj k' hk' => ?_, fun j hj => by omega⟩
                by_cases hji : j = i
                · subst hji; exact HL.out.2 k' (by rw [HZs.out] at hk'; omega)
                · exact HL.out.1 j (by omega) k' hk'
              case measure => simp [intOf]; omega
        · have HLe : Hid (Leads S R) := ⟨fun j hj k hk => HL.out.1 j (by omega) k hk, by omega, by omega⟩
          clear HL
          go_wp2_with fail
          clear b0 b1 b2 b3
          go_loopw [7] (fun v wr => ∃ k : Nat, v = .int .i64 k ∧ k ≤ R.length ∧ (w.alloc O).grownBy wr none ∧ ∀ j, j < k → M.getD j 0 = 0 ∨ M.getD j 0 = 1) (fun v _ => R.length - (intOf v).toNat)
          case atStart => exact ⟨0, rfl, by omega, G.out, fun j hj => by omega⟩
          case round =>
            clear G
            obtain ⟨k, rfl, hk, hg, hl⟩ := hrel
            have G : Hid ((w.alloc O).grownBy wr none) := hg
            have HJ : Hid (∀ j, j < k → M.getD j 0 = 0 ∨ M.getD j 0 = 1) := hl
            obtain ⟨b0, b1, b2, b3⟩ := box4 (HO.out ▸ hg)
            clear hg hl
            by_cases hlt : k < R.length
            · have hltM : k < M.length := by rw [H5.out]; exact hlt
              obtain ⟨b, off, rfl, hc⟩ := HM.out.at hltM
              have hck : wr.cell? ⟨b, off + k, none⟩ = some (.int .i64 (M.getD k 0)) := (grown_trans (HG.out O) G.out).cell (hc k hltM) (by simp)
              clear hc
              generalize hx : M.getD k 0 = x at hck
              have HX : Hid (M.getD k 0 = x) := hx
              clear hx
              by_cases g0 : x = 0
              · subst g0
                go_wp2_with fail
                go_roundw
                case rel =>
                  refine ⟨k + 1, by go_num, by omega, G.out, fun j hj => ?_⟩
                  by_cases hjk : j = k
                  · subst hjk; rw [HX.out]; exact .inl rfl
                  · exact HJ.out j (by omega)
                case measure => simp [intOf]; omega
              · have g0' : (x != 0) = true := by simpa using g0
                have g0'' : (x == 0) = false := by simpa using g0
                by_cases g3 : x = 1
                · subst g3
                  go_wp2_with fail
                  go_roundw
                  case rel =>
                    refine ⟨k + 1, by go_num, by omega, G.out, fun j hj => ?_⟩
                    by_cases hjk : j = k
                    · subst hjk; rw [HX.out]; exact .inr rfl
                    · exact HJ.out j (by omega)
                  case measure => simp [intOf]; omega
                · have g1' : (x != 1) = true := by simpa using g3
                  go_wp2_with fail
                  go_ret
                  refine ⟨ret_int ?_, grown_trans (HG.out O) G.out⟩
                  rw [← HZ.out]
                  refine (checkF_in (d := ⟨L, S, R, M⟩) (by simp only; omega) (by simp only; omega) HS.out (fun hg => ?_)).symm
                  have := hg.m k hltM
                  simp only at this
                  rw [HX.out] at this
                  omega
            · go_wp2_with fail
              go_ret
              exact ⟨ret_int (by rw [← HZ.out]; exact (checkF_good (check_leads (by omega) (by omega) HS.out HLe.out (fun j hj => HJ.out j (by rw [H5.out] at hj; omega)))).symm), grown_trans (HG.out O) G.out⟩

end Go.Proofs.Ytcgkflddipflbaa

namespace Go.Proofs.Ytcgkflddipflbaa
open Go.RowKit
set_option linter.unusedVariables false

theorem go_take (d : Dfa) (s : Nat) (z : List Int) {k : Nat} (hk : k < z.length) : d.go s (z.take (k + 1)) = d.nx (d.go s (z.take k)) (z.getD k 0).toNat := by
  unfold Dfa.go
  rw [List.take_add_one, List.foldl_append, getD_lt hk]
  simp [hk]

theorem go_take_lt {d : Dfa} (hG : Good d) {s : Nat} (hs : s < d.R.length) {z : List Int} (hz : ∀ k, k < z.length → 0 ≤ z.getD k 0 ∧ z.getD k 0 < d.L) (k : Nat) : d.go s (z.take k) < d.R.length := by
  refine hG.go_lt hs _ fun x hx => ?_
  obtain ⟨i, hi, rfl⟩ := List.getElem_of_mem (List.mem_of_mem_take hx)
  have := hz i hi
  rwa [getD_lt hi] at this

def accB (d : Dfa) (z : List Int) : Bool := d.mk1 (d.go d.S.toNat z)

set_option maxHeartbeats 1600000 in
set_option maxRecDepth 100000 in
theorem after_any (L S : Int) (q : Nat) (R : List (List Int)) (M : List Int) (a a' az : Option Addr) (c c' cz : Nat) (z : List Int) (w : World) (h : DetAt w ⟨L, S, R, M⟩ a a') (hG : Good ⟨L, S, R, M⟩) (hz : Ints w az z) (hzm : z.length ≤ maxLen)
    (hlet : ∀ k, k < z.length → 0 ≤ z.getD k 0 ∧ z.getD k 0 < L) (hq : q < R.length) :
    Calls Try.prog 24 #[.agg #[.int .i64 L, .int .i64 S, .slice a R.length c, .slice a' M.length c'], .int .i64 q, .slice az z.length cz] w fun e w' => e = .returned (.int .i64 ((Dfa.go ⟨L, S, R, M⟩ q z : Nat) : Int)) ∧ w.grownBy w' none := by
  have HG : Hid (∀ o, w.grownBy (w.alloc o) none) := fun o => grown_alloc w o
  have H : Hid (DetAt w ⟨L, S, R, M⟩ a a') := h
  have HZ : Hid (Ints w az z) := hz
  have GD : Hid (Good ⟨L, S, R, M⟩) := hG
  have HL : Hid (∀ k, k < z.length → 0 ≤ z.getD k 0 ∧ z.getD k 0 < L) := hlet
  have hn3 : R.length ≤ 3000 := hG.n3
  have hL4 : 1 ≤ L ∧ L ≤ 4 := ⟨hG.l1, hG.l4⟩
  unfold maxLen at hzm
  clear h hz hG hlet
  obtain ⟨y, hy⟩ : ∃ y, Dfa.go ⟨L, S, R, M⟩ q z = y := ⟨_, rfl⟩
  rw [hy]
  have HY : Hid (Dfa.go ⟨L, S, R, M⟩ q z = y) := hy
  clear hy
  go_enter Try.func24, Try.ntmps24
  go_wp2_with fail
  generalize hO : Obj.cells #[Value.int IntKind.i64 L, Value.int IntKind.i64 S, Value.slice a R.length c, Value.slice a' M.length c'] 36 = O
  have HO : Hid (Obj.cells #[Value.int IntKind.i64 L, Value.int IntKind.i64 S, Value.slice a R.length c, Value.slice a' M.length c'] 36 = O) := hO
  clear hO
  go_loopw [1, 7] (fun v i wr => ∃ k : Nat, k ≤ z.length ∧ i = .int .i64 k ∧ v = .int .i64 ((Dfa.go ⟨L, S, R, M⟩ q (z.take k) : Nat) : Int) ∧ (w.alloc O).grownBy wr none) (fun _ i _ => z.length - (intOf i).toNat)
  case atStart => exact ⟨0, Nat.zero_le _, rfl, by simp [Dfa.go], grown_refl _ _⟩
  case round =>
    obtain ⟨k, hk, rfl, rfl, hg⟩ := hrel
    have hgl : Dfa.go ⟨L, S, R, M⟩ q (z.take k) < R.length := go_take_lt GD.out (by simp only; omega) HL.out k
    have G : Hid ((w.alloc O).grownBy wr none) := hg
    have G2 : Hid (w.grownBy wr none) := grown_trans (HG.out _) hg
    obtain ⟨b0, b1, b2, b3⟩ := box4 (HO.out ▸ hg)
    clear hg
    by_cases hlt : k < z.length
    · obtain ⟨hx0, hx1⟩ := HL.out k hlt
      have HT : Hid (_ = _) := go_take ⟨L, S, R, M⟩ q z hlt
      obtain ⟨bz, oz, rfl, hcz⟩ := HZ.out.at hlt
      have hcz' : wr.cell? ⟨bz, oz + k, none⟩ = some (.int .i64 (z.getD k 0)) := G2.out.cell (hcz k hlt) (by simp)
      obtain ⟨b, off, bx, ox, cx, rfl, hr1, hr2⟩ := step_reads (l := (z.getD k 0).toNat) (H.out.grown G2.out) GD.out hgl (by omega)
      clear hcz
      generalize hgk : Dfa.go ⟨L, S, R, M⟩ q (z.take k) = s at *
      have ht0 : (z.getD k 0) = ((z.getD k 0).toNat : Int) := by omega
      generalize hlk : (z.getD k 0).toNat = l at *
      rw [ht0] at hcz' hx1 hx0
      have hnx : Dfa.nx ⟨L, S, R, M⟩ s l < R.length := GD.out.nx_lt hgl (by simp only; omega)
      generalize hn' : Dfa.nx ⟨L, S, R, M⟩ s l = t at *
      have hLt : (L.toNat : Int) = L := by omega
      have hlL : (l : Int) < (L.toNat : Int) := by omega
      clear hn' hgk ht0 hlk
      go_wp2_with fail
      go_quiet (fail)
      go_wp2_with fail
      go_roundw
      case rel => exact ⟨k + 1, by omega, by go_num, by rw [HT.out], grown_drewN G.out _⟩
      case measure => simp [intOf]; omega
    · have hkz : k = z.length := by omega
      subst hkz
      rw [List.take_length, HY.out]
      go_wp2_with fail
      go_ret
      exact ⟨rfl, G2.out⟩

set_option maxHeartbeats 1600000 in
set_option maxRecDepth 100000 in
theorem acceptsR_any (L S : Int) (R : List (List Int)) (M : List Int) (a a' az : Option Addr) (c c' cz : Nat) (z : List Int) (w : World) (h : DetAt w ⟨L, S, R, M⟩ a a') (hG : Good ⟨L, S, R, M⟩) (hz : Ints w az z) (hzm : z.length ≤ maxLen)
    (hlet : ∀ k, k < z.length → 0 ≤ z.getD k 0 ∧ z.getD k 0 < L) :
    Calls Try.prog 10 #[.agg #[.int .i64 L, .int .i64 S, .slice a R.length c, .slice a' M.length c'], .slice az z.length cz] w fun e w' => e = .returned (.bool (accB ⟨L, S, R, M⟩ z)) ∧ w.grownBy w' none := by
  have HG : Hid (∀ o, w.grownBy (w.alloc o) none) := fun o => grown_alloc w o
  have hS : 0 ≤ S ∧ S < R.length := hG.s
  have hn3 : R.length ≤ 3000 := hG.n3
  have hgl : Dfa.go ⟨L, S, R, M⟩ S.toNat z < R.length := by have := go_take_lt hG (s := S.toNat) (by simp only; omega) hlet z.length; rwa [List.take_length] at this
  have HA : Hid (∀ W, w.grownBy W none → Calls Try.prog 24 #[.agg #[.int .i64 L, .int .i64 S, .slice a R.length c, .slice a' M.length c'], .int .i64 S, .slice az z.length cz] W fun e w' => e = .returned (.int .i64 ((Dfa.go ⟨L, S, R, M⟩ S.toNat z : Nat) : Int)) ∧ W.grownBy w' none) := fun W hW => by
    have := after_any L S S.toNat R M a a' az c c' cz z W (h.grown hW) hG (hz.grown hW) hzm hlet (by omega)
    rwa [Int.toNat_of_nonneg hS.1] at this
  obtain ⟨b, off, rfl, hm⟩ := mark_reads h hG hgl
  have HM : Hid (w.cell? ⟨b, off + Dfa.go ⟨L, S, R, M⟩ S.toNat z, none⟩ = some (.int .i64 (M.getD (Dfa.go ⟨L, S, R, M⟩ S.toNat z) 0))) := hm
  have hsM : Dfa.go ⟨L, S, R, M⟩ S.toNat z < M.length := by have := hG.ml; simp only at this; rw [this]; exact hgl
  have hbd : ((M.getD (Dfa.go ⟨L, S, R, M⟩ S.toNat z) 0) == 1) = accB ⟨L, S, R, M⟩ z := by simp [accB, Dfa.mk1]; rfl
  generalize accB ⟨L, S, R, M⟩ z = bb at *
  generalize Dfa.go ⟨L, S, R, M⟩ S.toNat z = s at *
  generalize M.getD s 0 = x at *
  have hsM' : (s : Int) < (M.length : Int) := by omega
  clear h hG hz hlet hm
  unfold maxLen at hzm
  go_enter Try.func10, Try.ntmps10
  go_wp2_with fail
  refine (HA.out _ (HG.out _)).mono ?_
  rintro e w2 ⟨rfl, hg2⟩
  obtain ⟨b0, b1, b2, b3⟩ := box4 hg2
  have G2 : Hid (w.grownBy w2 none) := grown_trans (HG.out _) hg2
  have hm2 : w2.cell? ⟨b, off + s, none⟩ = some (.int .i64 x) := G2.out.cell HM.out (by simp)
  clear hg2
  go_wp2_with fail
  go_ret
  exact ⟨by simp, G2.out⟩

end Go.Proofs.Ytcgkflddipflbaa
