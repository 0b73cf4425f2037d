/- The program's shaped, isState, leadsWithin. -/
import Derived.Test.YtjinibofbpgfjaaDoorDTells
namespace Go.Proofs.YtjinibofbpgfjaaDoor
open Go.RowKit
set_option linter.unusedVariables false

set_option maxHeartbeats 800000 in
theorem shapedD_any (L S : Int) (R : List (List Int)) (M : List Int) (a a' : Option Addr) (c c' : Nat) (w : World) (h : DetAt w ⟨L, S, R, M⟩ a a') :
    Calls Tryd.prog 56 #[.agg #[.int .i64 L, .int .i64 S, .slice a R.length c, .slice a' M.length c']] w (TellsB (Shaped L R M) w) := by
  have hm := h.rm
  have hm' := h.mm
  have hr := h.rows
  unfold maxLen at hm hm'
  simp only at hm hm' hr
  clear h
  have HG : Hid (∀ o, w.grownBy (w.alloc o) none) := fun o => grown_alloc w o
  go_enter Tryd.func56, Tryd.ntmps56
  go_wp2
  go_loop [8] (fun i => ∃ k : Nat, k ≤ R.length ∧ i = .int .i64 k ∧ ∀ j, j < k → ((R.getD j []).length : Int) = L) (fun i => R.length - (intOf i).toNat)
  case atStart => exact ⟨0, Nat.zero_le _, rfl, fun j hj => by omega⟩
  case round =>
    obtain ⟨k, hk, rfl, hg⟩ := hrel
    have HJ : Hid (∀ j, j < k → ((R.getD j []).length : Int) = L) := hg
    clear hg
    by_cases hlt : k < R.length
    · obtain ⟨b, off, rfl, hc⟩ := hr.at hlt
      obtain ⟨x, cx, hck, hix, hlx⟩ := hc k hlt
      have HI : Hid (Ints w x (R.getD k [])) := hix
      unfold maxLen at hlx
      clear hc hr hix
      generalize hx : (R.getD k []).length = n at hck hlx
      have HX : Hid ((R.getD k []).length = n) := hx
      clear hx
      have hcw : ∀ o, (w.alloc o).cell? ⟨b, off + k, none⟩ = some (.slice x n cx) := fun o => (HG.out o).cell hck (by simp)
      by_cases g1 : (n : Int) = L
      · go_wp2
        go_round
        case rel =>
          refine ⟨k + 1, by omega, by go_num, fun j hj => ?_⟩
          by_cases hjk : j = k
          · subst hjk; rw [HX.out]; exact g1
          · exact HJ.out j (by omega)
        case measure => simp [intOf]; omega
      · go_wp2
        go_ret
        exact tellsB false rfl ⟨(fun e => by cases e), fun e => absurd (by rw [← HX.out]; exact e.2 k hlt) g1⟩ (HG.out _)
    · by_cases g2 : M.length = R.length
      · go_wp2
        go_ret
        exact tellsB true rfl ⟨fun _ => ⟨g2, fun i hi => HJ.out i (by omega)⟩, fun _ => rfl⟩ (HG.out _)
      · have g3 : ((M.length : Int) == (R.length : Int)) = false := by simp; omega
        go_wp2
        go_ret
        exact tellsB false rfl ⟨(fun e => by cases e), fun e => absurd e.1 g2⟩ (HG.out _)


def IsSt (x : Int) (n : Nat) : Prop := 0 ≤ x ∧ x < n

set_option maxHeartbeats 800000 in
theorem isState_any (L S x : Int) (R : List (List Int)) (M : List Int) (a a' : Option Addr) (c c' : Nat) (w : World) :
    Calls Tryd.prog 71 #[.agg #[.int .i64 L, .int .i64 S, .slice a R.length c, .slice a' M.length c'], .int .i64 x] w (TellsB (IsSt x R.length) w) := by
  have HG : Hid (∀ o, w.grownBy (w.alloc o) none) := fun o => grown_alloc w o
  by_cases h1 : 0 ≤ x
  · by_cases h2 : x < R.length
    · go_enter Tryd.func71, Tryd.ntmps71
      go_wp2
      go_ret
      exact tellsB true rfl ⟨fun _ => ⟨h1, h2⟩, fun _ => rfl⟩ (HG.out _)
    · have h2' : decide (x < (R.length : Int)) = false := by simpa using h2
      go_enter Tryd.func71, Tryd.ntmps71
      go_wp2
      go_ret
      exact tellsB false rfl ⟨(fun e => by cases e), fun e => absurd e.2 (by simpa using h2)⟩ (HG.out _)
  · have h1' : decide (0 ≤ x) = false := by simpa using h1
    go_enter Tryd.func71, Tryd.ntmps71
    go_wp2
    go_ret
    exact tellsB false rfl ⟨(fun e => by cases e), fun e => absurd e.1 (by simpa using h1)⟩ (HG.out _)

def Leads (S : Int) (R : List (List Int)) : Prop := (∀ i, i < R.length → ∀ k, k < (R.getD i []).length → IsSt ((R.getD i []).getD k 0) R.length) ∧ IsSt S R.length

/-- The rows up to one, and of that one the numbers up to one, are states. -/
def LeadsTo (R : List (List Int)) (i k : Nat) : Prop :=
  (∀ j, j < i → ∀ k, k < (R.getD j []).length → IsSt ((R.getD j []).getD k 0) R.length) ∧ ∀ j, j < k → IsSt ((R.getD i []).getD j 0) R.length

set_option maxHeartbeats 1600000 in
theorem leads_any (L S : Int) (R : List (List Int)) (M : List Int) (a a' : Option Addr) (c c' : Nat) (w : World) (h : DetAt w ⟨L, S, R, M⟩ a a') :
    Calls Tryd.prog 57 #[.agg #[.int .i64 L, .int .i64 S, .slice a R.length c, .slice a' M.length c']] w (TellsB (Leads S R) w) := by
  have hm := h.rm
  have hr := h.rows
  unfold maxLen at hm
  simp only at hm hr
  have HR : Hid (RowsAt w a R) := hr
  clear h hr
  have HG : Hid (∀ o, w.grownBy (w.alloc o) none) := fun o => grown_alloc w o
  have HI : Hid (∀ x W, Calls Tryd.prog 71 #[.agg #[.int .i64 L, .int .i64 S, .slice a R.length c, .slice a' M.length c'], .int .i64 x] W (TellsB (IsSt x R.length) W)) := fun x W => isState_any L S x R M a a' c c' W
  go_enter Tryd.func57, Tryd.ntmps57
  go_wp2_with fail
  generalize hO : Obj.cells #[Value.int IntKind.i64 L, Value.int IntKind.i64 S, Value.slice a R.length c, Value.slice a' M.length c'] 38 = O
  have HO : Hid (Obj.cells #[Value.int IntKind.i64 L, Value.int IntKind.i64 S, Value.slice a R.length c, Value.slice a' M.length c'] 38 = O) := hO
  clear hO
  go_loopw [10] (fun v wr => ∃ i : Nat, v = .int .i64 i ∧ i ≤ R.length ∧ (w.alloc O).grownBy wr none ∧ LeadsTo R i 0) (fun v _ => R.length - (intOf v).toNat)
  case atStart => exact ⟨0, rfl, by omega, grown_refl _ _, ⟨fun j hj => by omega, fun j hj => by omega⟩⟩
  case round =>
    obtain ⟨i, rfl, hi, hg, hl⟩ := hrel
    have G : Hid ((w.alloc O).grownBy wr none) := hg
    have HL : Hid (LeadsTo R i 0) := hl
    have hb4 := box4 (HO.out ▸ hg)
    obtain ⟨b0, b1, b2, b3⟩ := hb4
    clear hg hl
    by_cases hlt : i < R.length
    · obtain ⟨b, off, rfl, hc⟩ := HR.out.at hlt
      obtain ⟨x, cx, hck, hix, hlx⟩ := hc i hlt
      have HX : Hid (Ints w x (R.getD i [])) := hix
      unfold maxLen at hlx
      have hcw : wr.cell? ⟨b, off + i, none⟩ = some (.slice x (R.getD i []).length cx) := (grown_trans (HG.out O) G.out).cell hck (by simp)
      clear hc hix hck
      generalize hzs : R.getD i [] = zs at hcw hlx HX
      have HZ : Hid (R.getD i [] = zs) := hzs
      clear hzs
      go_wp2_with fail
      clear b0 b1 b2 b3 hcw
      go_loopw [16] (fun v wq => ∃ k : Nat, v = .int .i64 k ∧ k ≤ zs.length ∧ (w.alloc O).grownBy wq none ∧ LeadsTo R i k) (fun v _ => zs.length - (intOf v).toNat)
      case atStart => exact ⟨0, rfl, by omega, G.out, HL.out⟩
      case round =>
        clear G HL
        obtain ⟨k, rfl, hk, hg, hl⟩ := hrel
        have G : Hid ((w.alloc O).grownBy wr none) := hg
        have HL : Hid (LeadsTo R i k) := hl
        obtain ⟨b0, b1, b2, b3⟩ := box4 (HO.out ▸ hg)
        clear hg hl
        by_cases hkl : k < zs.length
        · obtain ⟨bx, ox, rfl, hcx⟩ := HX.out.at hkl
          have hcw : wr.cell? ⟨bx, ox + k, none⟩ = some (.int .i64 (zs.getD k 0)) := (grown_trans (HG.out O) G.out).cell (hcx k hkl) (by simp)
          clear hcx
          generalize hy : zs.getD k 0 = y at hcw
          have HY : Hid (zs.getD k 0 = y) := hy
          clear hy
          go_wp2_with fail
          refine (HI.out y _).mono ?_
          rintro e w2 ⟨bb, rfl, hbb, hg2⟩
          have G2 : Hid ((w.alloc O).grownBy w2 none) := grown_trans G.out hg2
          have HB : Hid (bb = true ↔ IsSt y R.length) := hbb
          clear hg2 hbb G b0 b1 b2 b3 hcw
          cases bb with
          | true =>
            go_wp2_with fail
            go_roundw
            case rel =>
              refine ⟨k + 1, by go_num, by omega, G2.out, HL.out.1, fun j hj => ?_⟩
              by_cases hjk : j = k
              · subst hjk; rw [HZ.out, HY.out]; have hB := HB.out; simpa using hB
              · exact HL.out.2 j (by omega)
            case measure => simp [intOf]; omega
          | false =>
            go_wp2_with fail
            go_ret
            exact tellsB false rfl ⟨(fun e => by cases e), fun e => absurd (HB.out.2 (by have := e.1 i hlt k (by rw [HZ.out]; exact hkl); rw [HZ.out, HY.out] at this; exact this)) (by simp)⟩ (grown_trans (HG.out O) G2.out)
        · go_wp2_with fail
          go_roundw
          case rel =>
            refine ⟨i + 1, by go_num, by omega, G.out, fun j hj k' hk' => ?_, fun j hj => by omega⟩
            by_cases hji : j = i
            · subst hji; exact HL.out.2 k' (by rw [HZ.out] at hk'; omega)
            · exact HL.out.1 j (by omega) k' hk'
          case measure => simp [intOf]; omega
    · go_wp2_with fail
      refine (HI.out S _).mono ?_
      rintro e w2 ⟨bb, rfl, hbb, hg2⟩
      have G2 : Hid (w.grownBy w2 none) := grown_trans (HG.out O) (grown_trans G.out hg2)
      have HB : Hid (bb = true ↔ IsSt S R.length) := hbb
      clear hg2 hbb G b0 b1 b2 b3
      go_wp2_with fail
      go_ret
      exact tellsB bb rfl ⟨fun e => ⟨fun j hj k hk => HL.out.1 j (by omega) k hk, HB.out.1 e⟩, fun e => HB.out.2 e.2⟩ G2.out

end Go.Proofs.YtjinibofbpgfjaaDoor
