/- The program's shaped, isState, leadsWithin. -/
/- Automata that know their way, with other limits: how many states there may be, up to which number the marks go. -/
/- What is wrong with an automaton, with limits: det.Fits answers checkN. -/
/- What is wrong with an automaton: the program's Check (det.Fits with 3000 states and marks up to 1) answers checkF. -/
import Derived.Test.YticmfgclkepgoaaTls
import Derived.Test.YticmfgclkepgoaaDSpec
namespace Go.Proofs.Yticmfgclkepgoaa
open Go.RowKit
set_option linter.unusedVariables false

set_option maxHeartbeats 800000 in
theorem shaped_any (L S : Int) (R : List (List Int)) (M : List Int) (a a' : Option Addr) (c c' : Nat) (w : World) (h : DetAt w ⟨L, S, R, M⟩ a a') :
    Calls Try.prog 42 #[.agg #[.int .i64 L, .int .i64 S, .slice a R.length c, .slice a' M.length c']] w (TellsB (Shaped L R M) w) := by
  have hm := h.rm
  have hm' := h.mm
  have hr := h.rows
  unfold maxLen at hm hm'
  simp only at hm hm' hr
  clear h
  have HG : Hid (∀ o, w.grownBy (w.alloc o) none) := fun o => grown_alloc w o
  go_enter Try.func42, Try.ntmps42
  go_wp2
  go_loop [8] (fun i => ∃ k : Nat, k ≤ R.length ∧ i = .int .i64 k ∧ ∀ j, j < k → ((R.getD j []).length : Int) = L) (fun i => R.length - (intOf i).toNat)
  case atStart => exact ⟨0, Nat.zero_le _, rfl, fun j hj => by omega⟩
  case round =>
    obtain ⟨k, hk, rfl, hg⟩ := hrel
    have HJ : Hid (∀ j, j < k → ((R.getD j []).length : Int) = L) := hg
    clear hg
    by_cases hlt : k < R.length
    · obtain ⟨b, off, rfl, hc⟩ := hr.at hlt
      obtain ⟨x, cx, hck, hix, hlx⟩ := hc k hlt
      have HI : Hid (Ints w x (R.getD k [])) := hix
      unfold maxLen at hlx
      clear hc hr hix
      generalize hx : (R.getD k []).length = n at hck hlx
      have HX : Hid ((R.getD k []).length = n) := hx
      clear hx
      have hcw : ∀ o, (w.alloc o).cell? ⟨b, off + k, none⟩ = some (.slice x n cx) := fun o => (HG.out o).cell hck (by simp)
      by_cases g1 : (n : Int) = L
      · go_wp2
        go_round
        case rel =>
          refine ⟨k + 1, by omega, by go_num, fun j hj => ?_⟩
          by_cases hjk : j = k
          · subst hjk; rw [HX.out]; exact g1
          · exact HJ.out j (by omega)
        case measure => simp [intOf]; omega
      · go_wp2
        go_ret
        exact tellsB false rfl ⟨(fun e => by cases e), fun e => absurd (by rw [← HX.out]; exact e.2 k hlt) g1⟩ (HG.out _)
    · by_cases g2 : M.length = R.length
      · go_wp2
        go_ret
        exact tellsB true rfl ⟨fun _ => ⟨g2, fun i hi => HJ.out i (by omega)⟩, fun _ => rfl⟩ (HG.out _)
      · have g3 : ((M.length : Int) == (R.length : Int)) = false := by simp; omega
        go_wp2
        go_ret
        exact tellsB false rfl ⟨(fun e => by cases e), fun e => absurd e.1 g2⟩ (HG.out _)


def IsSt (x : Int) (n : Nat) : Prop := 0 ≤ x ∧ x < n

set_option maxHeartbeats 800000 in
theorem isState_any (L S x : Int) (R : List (List Int)) (M : List Int) (a a' : Option Addr) (c c' : Nat) (w : World) :
    Calls Try.prog 54 #[.agg #[.int .i64 L, .int .i64 S, .slice a R.length c, .slice a' M.length c'], .int .i64 x] w (TellsB (IsSt x R.length) w) := by
  have HG : Hid (∀ o, w.grownBy (w.alloc o) none) := fun o => grown_alloc w o
  by_cases h1 : 0 ≤ x
  · by_cases h2 : x < R.length
    · go_enter Try.func54, Try.ntmps54
      go_wp2
      go_ret
      exact tellsB true rfl ⟨fun _ => ⟨h1, h2⟩, fun _ => rfl⟩ (HG.out _)
    · have h2' : decide (x < (R.length : Int)) = false := by simpa using h2
      go_enter Try.func54, Try.ntmps54
      go_wp2
      go_ret
      exact tellsB false rfl ⟨(fun e => by cases e), fun e => absurd e.2 (by simpa using h2)⟩ (HG.out _)
  · have h1' : decide (0 ≤ x) = false := by simpa using h1
    go_enter Try.func54, Try.ntmps54
    go_wp2
    go_ret
    exact tellsB false rfl ⟨(fun e => by cases e), fun e => absurd e.1 (by simpa using h1)⟩ (HG.out _)

def Leads (S : Int) (R : List (List Int)) : Prop := (∀ i, i < R.length → ∀ k, k < (R.getD i []).length → IsSt ((R.getD i []).getD k 0) R.length) ∧ IsSt S R.length

/-- The rows up to one, and of that one the numbers up to one, are states. -/
def LeadsTo (R : List (List Int)) (i k : Nat) : Prop :=
  (∀ j, j < i → ∀ k, k < (R.getD j []).length → IsSt ((R.getD j []).getD k 0) R.length) ∧ ∀ j, j < k → IsSt ((R.getD i []).getD j 0) R.length

set_option maxHeartbeats 1600000 in
theorem leads_any (L S : Int) (R : List (List Int)) (M : List Int) (a a' : Option Addr) (c c' : Nat) (w : World) (h : DetAt w ⟨L, S, R, M⟩ a a') :
    Calls Try.prog 43 #[.agg #[.int .i64 L, .int .i64 S, .slice a R.length c, .slice a' M.length c']] w (TellsB (Leads S R) w) := by
  have hm := h.rm
  have hr := h.rows
  unfold maxLen at hm
  simp only at hm hr
  have HR : Hid (RowsAt w a R) := hr
  clear h hr
  have HG : Hid (∀ o, w.grownBy (w.alloc o) none) := fun o => grown_alloc w o
  have HI : Hid (∀ x W, Calls Try.prog 54 #[.agg #[.int .i64 L, .int .i64 S, .slice a R.length c, .slice a' M.length c'], .int .i64 x] W (TellsB (IsSt x R.length) W)) := fun x W => isState_any L S x R M a a' c c' W
  go_enter Try.func43, Try.ntmps43
  go_wp2_with fail
  generalize hO : Obj.cells #[Value.int IntKind.i64 L, Value.int IntKind.i64 S, Value.slice a R.length c, Value.slice a' M.length c'] 25 = O
  have HO : Hid (Obj.cells #[Value.int IntKind.i64 L, Value.int IntKind.i64 S, Value.slice a R.length c, Value.slice a' M.length c'] 25 = O) := hO
  clear hO
  go_loopw [10] (fun v wr => ∃ i : Nat, v = .int .i64 i ∧ i ≤ R.length ∧ (w.alloc O).grownBy wr none ∧ LeadsTo R i 0) (fun v _ => R.length - (intOf v).toNat)
  case atStart => exact ⟨0, rfl, by omega, grown_refl _ _, ⟨fun j hj => by omega, fun j hj => by omega⟩⟩
  case round =>
    obtain ⟨i, rfl, hi, hg, hl⟩ := hrel
    have G : Hid ((w.alloc O).grownBy wr none) := hg
    have HL : Hid (LeadsTo R i 0) := hl
    have hb4 := box4 (HO.out ▸ hg)
    obtain ⟨b0, b1, b2, b3⟩ := hb4
    clear hg hl
    by_cases hlt : i < R.length
    · obtain ⟨b, off, rfl, hc⟩ := HR.out.at hlt
      obtain ⟨x, cx, hck, hix, hlx⟩ := hc i hlt
      have HX : Hid (Ints w x (R.getD i [])) := hix
      unfold maxLen at hlx
      have hcw : wr.cell? ⟨b, off + i, none⟩ = some (.slice x (R.getD i []).length cx) := (grown_trans (HG.out O) G.out).cell hck (by simp)
      clear hc hix hck
      generalize hzs : R.getD i [] = zs at hcw hlx HX
      have HZ : Hid (R.getD i [] = zs) := hzs
      clear hzs
      go_wp2_with fail
      clear b0 b1 b2 b3 hcw
      go_loopw [16] (fun v wq => ∃ k : Nat, v = .int .i64 k ∧ k ≤ zs.length ∧ (w.alloc O).grownBy wq none ∧ LeadsTo R i k) (fun v _ => zs.length - (intOf v).toNat)
      case atStart => exact ⟨0, rfl, by omega, G.out, HL.out⟩
      case round =>
        clear G HL
        obtain ⟨k, rfl, hk, hg, hl⟩ := hrel
        have G : Hid ((w.alloc O).grownBy wr none) := hg
        have HL : Hid (LeadsTo R i k) := hl
        obtain ⟨b0, b1, b2, b3⟩ := box4 (HO.out ▸ hg)
        clear hg hl
        by_cases hkl : k < zs.length
        · obtain ⟨bx, ox, rfl, hcx⟩ := HX.out.at hkl
          have hcw : wr.cell? ⟨bx, ox + k, none⟩ = some (.int .i64 (zs.getD k 0)) := (grown_trans (HG.out O) G.out).cell (hcx k hkl) (by simp)
          clear hcx
          generalize hy : zs.getD k 0 = y at hcw
          have HY : Hid (zs.getD k 0 = y) := hy
          clear hy
          go_wp2_with fail
          refine (HI.out y _).mono ?_
          rintro e w2 ⟨bb, rfl, hbb, hg2⟩
          have G2 : Hid ((w.alloc O).grownBy w2 none) := grown_trans G.out hg2
          have HB : Hid (bb = true ↔ IsSt y R.length) := hbb
          clear hg2 hbb G b0 b1 b2 b3 hcw
          cases bb with
          | true =>
            go_wp2_with fail
            go_roundw
            case rel =>
              refine ⟨k + 1, by go_num, by omega, G2.out, HL.out.1, fun j hj => ?_⟩
              by_cases hjk : j = k
              · subst hjk; rw [HZ.out, HY.out]; have hB := HB.out; simpa using hB
              · exact HL.out.2 j (by omega)
            case measure => simp [intOf]; omega
          | false =>
            go_wp2_with fail
            go_ret
            exact tellsB false rfl ⟨(fun e => by cases e), fun e => absurd (HB.out.2 (by have := e.1 i hlt k (by rw [HZ.out]; exact hkl); rw [HZ.out, HY.out] at this; exact this)) (by simp)⟩ (grown_trans (HG.out O) G2.out)
        · go_wp2_with fail
          go_roundw
          case rel =>
            refine ⟨i + 1, by go_num, by omega, G.out, fun j hj k' hk' => ?_, fun j hj => by omega⟩
            by_cases hji : j = i
            · subst hji; exact HL.out.2 k' (by rw [HZ.out] at hk'; omega)
            · exact HL.out.1 j (by omega) k' hk'
          case measure => simp [intOf]; omega
    · go_wp2_with fail
      refine (HI.out S _).mono ?_
      rintro e w2 ⟨bb, rfl, hbb, hg2⟩
      have G2 : Hid (w.grownBy w2 none) := grown_trans (HG.out O) (grown_trans G.out hg2)
      have HB : Hid (bb = true ↔ IsSt S R.length) := hbb
      clear hg2 hbb G b0 b1 b2 b3
      go_wp2_with fail
      go_ret
      exact tellsB bb rfl ⟨fun e => ⟨fun j hj k hk => HL.out.1 j (by omega) k hk, HB.out.1 e⟩, fun e => HB.out.2 e.2⟩ G2.out

end Go.Proofs.Yticmfgclkepgoaa

namespace Go.Proofs.Yticmfgclkepgoaa
set_option linter.unusedVariables false

/-- It may be one. -/
structure GoodN (N K : Nat) (d : Dfa) : Prop where
  l1 : 1 ≤ d.L
  l4 : d.L ≤ 4
  n1 : 1 ≤ d.R.length
  n3 : d.R.length ≤ N
  ml : d.M.length = d.R.length
  rl : ∀ i, i < d.R.length → ((d.R.getD i []).length : Int) = d.L
  r : ∀ i, i < d.R.length → ∀ k, k < (d.R.getD i []).length → 0 ≤ (d.R.getD i []).getD k 0 ∧ (d.R.getD i []).getD k 0 < d.R.length
  s : 0 ≤ d.S ∧ d.S < d.R.length
  m : ∀ i, i < d.M.length → 0 ≤ d.M.getD i 0 ∧ d.M.getD i 0 ≤ K

def goodNB (N K : Nat) (d : Dfa) : Bool :=
  decide (1 ≤ d.L) && decide (d.L ≤ 4) && decide (1 ≤ d.R.length) && decide (d.R.length ≤ N) && shapeB d &&
  ((List.range d.R.length).all fun i => (List.range (d.R.getD i []).length).all fun k => decide (0 ≤ (d.R.getD i []).getD k 0) && decide ((d.R.getD i []).getD k 0 < d.R.length)) &&
  decide (0 ≤ d.S) && decide (d.S < d.R.length) && (List.range d.M.length).all fun i => decide (0 ≤ d.M.getD i 0) && decide (d.M.getD i 0 ≤ K)
theorem goodNB_iff (N K : Nat) (d : Dfa) : goodNB N K d = true ↔ GoodN N K d := by
  have hs := shapeB_iff d
  simp only [goodNB, Bool.and_eq_true, decide_eq_true_eq, List.all_eq_true, List.mem_range, hs]
  constructor
  · rintro ⟨⟨⟨⟨⟨⟨⟨⟨h1, h2⟩, h3⟩, h4⟩, h5, h6⟩, h7⟩, h8⟩, h9⟩, h10⟩
    exact ⟨h1, h2, h3, h4, h5, h6, h7, ⟨h8, h9⟩, h10⟩
  · rintro ⟨h1, h2, h3, h4, h5, h6, h7, ⟨h8, h9⟩, h10⟩
    exact ⟨⟨⟨⟨⟨⟨⟨⟨h1, h2⟩, h3⟩, h4⟩, h5, h6⟩, h7⟩, h8⟩, h9⟩, h10⟩

/-- What is wrong with one. -/
def checkN (N K : Nat) (d : Dfa) : Int :=
  if d.L < 1 ∨ 4 < d.L then 2
  else if d.R.length < 1 ∨ N < d.R.length then 1
  else if shapeB d = false then 3
  else if goodNB N K d = true then 0 else 2

theorem checkN_good {N K : Nat} {d : Dfa} (h : GoodN N K d) : checkN N K d = 0 := by
  have h1 := h.l1; have h2 := h.l4; have h3 := h.n1; have h4 := h.n3
  unfold checkN
  rw [if_neg (by omega), if_neg (by omega), if_neg (by rw [(shapeB_iff d).2 ⟨h.ml, h.rl⟩]; simp), if_pos ((goodNB_iff N K d).2 h)]

theorem goodN_of_check {N K : Nat} {d : Dfa} (h : checkN N K d = 0) : GoodN N K d := by
  unfold checkN at h
  split at h
  · cases h
  · split at h
    · cases h
    · split at h
      · cases h
      · split at h
        · next h1 => exact (goodNB_iff N K d).1 h1
        · cases h

theorem checkN_range {N K : Nat} {d : Dfa} (h : d.L < 1 ∨ 4 < d.L) : checkN N K d = 2 := by unfold checkN; rw [if_pos h]
theorem checkN_size {N K : Nat} {d : Dfa} (h : ¬ (d.L < 1 ∨ 4 < d.L)) (h2 : d.R.length < 1 ∨ N < d.R.length) : checkN N K d = 1 := by unfold checkN; rw [if_neg h, if_pos h2]
theorem checkN_shape {N K : Nat} {d : Dfa} (h : ¬ (d.L < 1 ∨ 4 < d.L)) (h2 : ¬ (d.R.length < 1 ∨ N < d.R.length)) (h3 : ¬ (d.M.length = d.R.length ∧ ∀ i, i < d.R.length → ((d.R.getD i []).length : Int) = d.L)) : checkN N K d = 3 := by
  unfold checkN
  rw [if_neg h, if_neg h2, if_pos]
  cases hb : shapeB d with
  | false => rfl
  | true => exact absurd ((shapeB_iff d).1 hb) h3
theorem checkN_in {N K : Nat} {d : Dfa} (h : ¬ (d.L < 1 ∨ 4 < d.L)) (h2 : ¬ (d.R.length < 1 ∨ N < d.R.length)) (h3 : d.M.length = d.R.length ∧ ∀ i, i < d.R.length → ((d.R.getD i []).length : Int) = d.L) (h4 : ¬ GoodN N K d) : checkN N K d = 2 := by
  unfold checkN
  rw [if_neg h, if_neg h2, if_neg (by rw [(shapeB_iff d).2 h3]; simp), if_neg (fun hb => h4 ((goodNB_iff N K d).1 hb))]

theorem GoodN.row {N K : Nat} {d : Dfa} (h : GoodN N K d) {s : Nat} (hs : s < d.R.length) : (d.R.getD s []).length = d.L.toNat := by have := h.rl s hs; have := h.l1; omega
theorem GoodN.nx_lt {N K : Nat} {d : Dfa} (h : GoodN N K d) {s a : Nat} (hs : s < d.R.length) (ha : a < d.L.toNat) : d.nx s a < d.R.length := by
  have := h.r s hs a (by rw [h.row hs]; exact ha); unfold Dfa.nx; omega
theorem GoodN.nx_eq {N K : Nat} {d : Dfa} (h : GoodN N K d) {s a : Nat} (hs : s < d.R.length) (ha : a < d.L.toNat) : (d.R.getD s []).getD a 0 = (d.nx s a : Int) := by
  have := h.r s hs a (by rw [h.row hs]; exact ha); unfold Dfa.nx; omega
theorem GoodN.go_lt {N K : Nat} {d : Dfa} (h : GoodN N K d) {s : Nat} (hs : s < d.R.length) (z : List Int) (hz : ∀ x ∈ z, 0 ≤ x ∧ x < d.L) : d.go s z < d.R.length := by
  unfold Dfa.go
  induction z generalizing s with
  | nil => exact hs
  | cons x z ih =>
    have hx := hz x (by simp)
    exact ih (h.nx_lt hs (by omega)) (fun y hy => hz y (by simp [hy]))


end Go.Proofs.Yticmfgclkepgoaa

namespace Go.Proofs.Yticmfgclkepgoaa
open Go.RowKit
set_option linter.unusedVariables false

theorem checkN_leads {N K : Nat} {L S : Int} {R : List (List Int)} {M : List Int} (h1 : ¬ (L < 1 ∨ 4 < L)) (h2 : ¬ (R.length < 1 ∨ N < R.length)) (h3 : Shaped L R M) (h4 : Leads S R) (h5 : ∀ i, i < M.length → 0 ≤ M.getD i 0 ∧ M.getD i 0 ≤ K) : GoodN N K ⟨L, S, R, M⟩ :=
  ⟨by show 1 ≤ L; omega, by show L ≤ 4; omega, by show 1 ≤ R.length; omega, by show R.length ≤ N; omega, h3.1, h3.2, h4.1, h4.2, h5⟩

set_option maxHeartbeats 1600000 in
theorem fits_any (N K : Nat) (L S : Int) (R : List (List Int)) (M : List Int) (a a' : Option Addr) (c c' : Nat) (w : World) (h : DetAt w ⟨L, S, R, M⟩ a a') :
    Calls Try.prog 31 #[.agg #[.int .i64 L, .int .i64 S, .slice a R.length c, .slice a' M.length c'], .int .i64 N, .int .i64 K] w fun e w' => e = .returned (.int .i64 (checkN N K ⟨L, S, R, M⟩)) ∧ w.grownBy w' none := by
  have hm := h.rm
  have hm' := h.mm
  have hr := h.marks
  unfold maxLen at hm hm'
  simp only at hm hm' hr
  have HM : Hid (Ints w a' M) := hr
  have HG : Hid (∀ o, w.grownBy (w.alloc o) none) := fun o => grown_alloc w o
  have HSh : Hid (∀ W, w.grownBy W none → Calls Try.prog 42 #[.agg #[.int .i64 L, .int .i64 S, .slice a R.length c, .slice a' M.length c']] W (TellsB (Shaped L R M) W)) := fun W hW => shaped_any L S R M a a' c c' W (h.grown hW)
  have HLe : Hid (∀ W, w.grownBy W none → Calls Try.prog 43 #[.agg #[.int .i64 L, .int .i64 S, .slice a R.length c, .slice a' M.length c']] W (TellsB (Leads S R) W)) := fun W hW => leads_any L S R M a a' c c' W (h.grown hW)
  clear h hr
  obtain ⟨z, hz⟩ : ∃ z, checkN N K ⟨L, S, R, M⟩ = z := ⟨_, rfl⟩
  rw [hz]
  have HZ : Hid (checkN N K ⟨L, S, R, M⟩ = z) := hz
  clear hz
  by_cases h1 : L < 1
  · have hd : decide (L < 1) = true := by simpa using h1
    go_enter Try.func31, Try.ntmps31
    go_wp2_with fail
    go_ret
    exact ⟨ret_int (by rw [← HZ.out]; exact (checkN_range (by show _ ∨ _; simp only; omega)).symm), HG.out _⟩
  have hd : decide (L < 1) = false := by simpa using h1
  by_cases h2 : 4 < L
  · go_enter Try.func31, Try.ntmps31
    go_wp2_with fail
    go_ret
    exact ⟨ret_int (by rw [← HZ.out]; exact (checkN_range (by show _ ∨ _; simp only; omega)).symm), HG.out _⟩
  by_cases h3 : R.length < 1
  · have hd2 : decide ((R.length : Int) < 1) = true := by simp; omega
    go_enter Try.func31, Try.ntmps31
    go_wp2_with fail
    go_ret
    exact ⟨ret_int (by rw [← HZ.out]; exact (checkN_size (by simp only; omega) (by simp only; omega)).symm), HG.out _⟩
  have hd2 : decide ((R.length : Int) < 1) = false := by simp; omega
  by_cases h4 : N < R.length
  · have h4' : (N : Int) < (R.length : Int) := by omega
    go_enter Try.func31, Try.ntmps31
    go_wp2_with fail
    go_ret
    exact ⟨ret_int (by rw [← HZ.out]; exact (checkN_size (by simp only; omega) (by simp only; omega)).symm), HG.out _⟩
  have h4' : ¬ (N : Int) < (R.length : Int) := by omega
  go_enter Try.func31, Try.ntmps31
  go_wp2_with fail
  refine (HSh.out _ (HG.out _)).mono ?_
  rintro e w2 ⟨bb, rfl, hbb, hg2⟩
  have HB : Hid (bb = true ↔ Shaped L R M) := hbb
  obtain ⟨b0, b1, b2, b3⟩ := box4 hg2
  have G2 : Hid (w.grownBy w2 none) := grown_trans (HG.out _) hg2
  have G2' : Hid ((w.alloc (.cells #[.int .i64 L, .int .i64 S, .slice a R.length c, .slice a' M.length c'] 25)).grownBy w2 none) := hg2
  clear hg2 hbb
  cases bb with
  | false =>
    go_wp2_with fail
    go_ret
    exact ⟨ret_int (by rw [← HZ.out]; exact (checkN_shape (by simp only; omega) (by simp only; omega) (fun hs => by have := HB.out.2 hs; simp at this)).symm), G2.out⟩
  | true =>
    have HS : Hid (Shaped L R M) := HB.out.1 rfl
    clear HB
    go_wp2_with fail
    refine (HLe.out _ G2.out).mono ?_
    rintro e w3 ⟨bb, rfl, hbb, hg3⟩
    have HB : Hid (bb = true ↔ Leads S R) := hbb
    have G3 : Hid (w.grownBy w3 none) := grown_trans G2.out hg3
    clear b0 b1 b2 b3
    obtain ⟨b0, b1, b2, b3⟩ := box4 (grown_trans G2'.out hg3)
    clear hg3 hbb G2 G2'
    cases bb with
    | false =>
      go_wp2_with fail
      go_ret
      exact ⟨ret_int (by rw [← HZ.out]; exact (checkN_in (d := ⟨L, S, R, M⟩) (by simp only; omega) (by simp only; omega) HS.out (fun hg => by have := HB.out.2 ⟨hg.r, hg.s⟩; simp at this)).symm), G3.out⟩
    | true =>
      have HL : Hid (Leads S R) := HB.out.1 rfl
      clear HB
      go_wp2_with fail
      go_loop [37] (fun i => ∃ k : Nat, k ≤ M.length ∧ i = .int .i64 k ∧ ∀ j, j < k → 0 ≤ M.getD j 0 ∧ M.getD j 0 ≤ K) (fun i => M.length - (intOf i).toNat)
      case atStart => exact ⟨0, Nat.zero_le _, rfl, fun j hj => by omega⟩
      case round =>
        obtain ⟨k, hk, rfl, hg⟩ := hrel
        have HJ : Hid (∀ j, j < k → 0 ≤ M.getD j 0 ∧ M.getD j 0 ≤ K) := hg
        clear hg
        by_cases hlt : k < M.length
        · obtain ⟨b, off, rfl, hc⟩ := HM.out.at hlt
          have hck : w3.cell? ⟨b, off + k, none⟩ = some (.int .i64 (M.getD k 0)) := G3.out.cell (hc k hlt) (by simp)
          clear hc
          generalize hx : M.getD k 0 = x at hck
          have HX : Hid (M.getD k 0 = x) := hx
          clear hx
          by_cases g0 : x < 0
          · have g0' : decide (x < 0) = true := by simpa using g0
            go_wp2_with fail
            go_ret
            refine ⟨ret_int ?_, G3.out⟩
            rw [← HZ.out]
            refine (checkN_in (d := ⟨L, S, R, M⟩) (by simp only; omega) (by simp only; omega) HS.out (fun hg => ?_)).symm
            have := hg.m k hlt
            simp only at this
            rw [HX.out] at this
            omega
          · have g0' : decide (x < 0) = false := by simpa using g0
            by_cases g1 : (K : Int) < x
            · go_wp2_with fail
              go_ret
              refine ⟨ret_int ?_, G3.out⟩
              rw [← HZ.out]
              refine (checkN_in (d := ⟨L, S, R, M⟩) (by simp only; omega) (by simp only; omega) HS.out (fun hg => ?_)).symm
              have := hg.m k hlt
              simp only at this
              rw [HX.out] at this
              omega
            · go_wp2_with fail
              go_round
              case rel =>
                refine ⟨k + 1, by omega, by go_num, fun j hj => ?_⟩
                by_cases hjk : j = k
                · subst hjk; rw [HX.out]; exact ⟨by omega, by omega⟩
                · exact HJ.out j (by omega)
              case measure => simp [intOf]; omega
        · go_wp2_with fail
          go_ret
          exact ⟨ret_int (by rw [← HZ.out]; exact (checkN_good (checkN_leads (by omega) (by omega) HS.out HL.out (fun j hj => HJ.out j (by omega)))).symm), G3.out⟩

end Go.Proofs.Yticmfgclkepgoaa

namespace Go.Proofs.Yticmfgclkepgoaa
open Go.RowKit
set_option linter.unusedVariables false

theorem check_leads {L S : Int} {R : List (List Int)} {M : List Int} (h1 : ¬ (L < 1 ∨ 4 < L)) (h2 : ¬ (R.length < 1 ∨ 3000 < R.length)) (h3 : Shaped L R M) (h4 : Leads S R) (h5 : ∀ i, i < M.length → M.getD i 0 = 0 ∨ M.getD i 0 = 1) : Good ⟨L, S, R, M⟩ :=
  ⟨by show 1 ≤ L; omega, by show L ≤ 4; omega, by show 1 ≤ R.length; omega, by show R.length ≤ 3000; omega, h3.1, h3.2, h4.1, h4.2, h5⟩
theorem good_iffN (d : Dfa) : GoodN 3000 1 d ↔ Good d :=
  ⟨fun h => ⟨h.l1, h.l4, h.n1, h.n3, h.ml, h.rl, h.r, h.s, fun i hi => by have := h.m i hi; omega⟩, fun h => ⟨h.l1, h.l4, h.n1, h.n3, h.ml, h.rl, h.r, h.s, fun i hi => by have := h.m i hi; omega⟩⟩
theorem check_eqN (d : Dfa) : checkN 3000 1 d = checkF d := by
  have h : goodNB 3000 1 d = goodB d := by
    rw [Bool.eq_iff_iff, goodNB_iff, goodB_iff]
    exact good_iffN d
  unfold checkN checkF
  rw [h]

set_option maxHeartbeats 1600000 in
theorem check_any (L S : Int) (R : List (List Int)) (M : List Int) (a a' : Option Addr) (c c' : Nat) (w : World) (h : DetAt w ⟨L, S, R, M⟩ a a') :
    Calls Try.prog 21 #[.agg #[.int .i64 L, .int .i64 S, .slice a R.length c, .slice a' M.length c']] w fun e w' => e = .returned (.int .i64 (checkF ⟨L, S, R, M⟩)) ∧ w.grownBy w' none := by
  have HF : Hid (∀ o, Calls Try.prog 31 #[.agg #[.int .i64 L, .int .i64 S, .slice a R.length c, .slice a' M.length c'], .int .i64 3000, .int .i64 1] (w.alloc o) fun e w' => e = .returned (.int .i64 (checkF ⟨L, S, R, M⟩)) ∧ w.grownBy w' none) := fun o => by
    have h1 := fits_any 3000 1 L S R M a a' c c' (w.alloc o) (h.grown (grown_alloc _ _))
    rw [check_eqN] at h1
    exact h1.mono fun e w' h2 => ⟨h2.1, grown_trans (grown_alloc _ _) h2.2⟩
  generalize checkF ⟨L, S, R, M⟩ = x at *
  clear h
  go_enter Try.func21, Try.ntmps21
  go_wp2_with fail
  refine (HF.out _).mono ?_
  rintro e w2 ⟨rfl, hg⟩
  have G : Hid (w.grownBy w2 none) := hg
  clear hg
  go_wp2_with fail
  go_ret
  exact ⟨rfl, G.out⟩

end Go.Proofs.Yticmfgclkepgoaa
