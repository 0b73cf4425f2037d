/- What Check asks of a transducer, one by one: its letters, its shape, where it leads. -/
/- What Check answers, end by end. Without the program. (Parted from TnChk.) -/
/- What is wrong with a transducer: the program's Check. -/
/- Both are checked: the program's checkBoth. -/
import Derived.Test.YtodcmlcpicabaaaBas
import Derived.Test.YtodcmlcpicabaaaTnSy
namespace Go.Proofs.Ytodcmlcpicabaaa
open Go.RowKit
set_option linter.unusedVariables false

set_option maxHeartbeats 800000 in
theorem isMany_any (z : Int) (w : World) : Calls Try.prog 43 #[.int .i64 z] w (TellsB (ManyT z) w) := by
  have G : Hid (w.grownBy w none) := grown_refl _ _
  by_cases h1 : 1 ≤ z
  · by_cases h2 : z ≤ 4
    · have d2 : decide (z ≤ 4) = true := by simpa using h2
      have E : Hid (ManyT z) := ⟨h1, h2⟩
      clear h2
      go_enter Try.func43, Try.ntmps43
      go_wp2_with fail
      go_ret
      exact tellsB true rfl ⟨fun _ => E.out, fun _ => rfl⟩ G.out
    · have d2 : decide (z ≤ 4) = false := by simpa using h2
      have E : Hid (¬ ManyT z) := fun h => h2 h.2
      clear h2
      go_enter Try.func43, Try.ntmps43
      go_wp2_with fail
      go_ret
      exact tellsB false rfl ⟨(fun e => by cases e), fun e => absurd e E.out⟩ G.out
  · have d1 : decide (1 ≤ z) = false := by simpa using h1
    have E : Hid (¬ ManyT z) := fun h => h1 h.1
    clear h1
    go_enter Try.func43, Try.ntmps43
    go_wp2_with fail
    go_ret
    exact tellsB false rfl ⟨(fun e => by cases e), fun e => absurd e E.out⟩ G.out

set_option maxHeartbeats 800000 in
theorem isState_any (I O S z : Int) (a3 : Option Addr) (n3 c3 : Nat) (a4 : Option Addr) (n c4 : Nat) (a5 : Option Addr) (n5 c5 : Nat) (a6 : Option Addr) (n6 c6 : Nat) (w : World) :
    Calls Try.prog 59 #[tnV I O S a3 n3 c3 a4 n c4 a5 n5 c5 a6 n6 c6, .int .i64 z] w (TellsB (StT n z) w) := by
  obtain ⟨W1, hW1, g1, s1, bx⟩ := box7_new w I O S a3 n3 c3 a4 n c4 a5 n5 c5 a6 n6 c6
  have HW1 : Hid (W1 = _) := hW1
  have G : Hid (w.grownBy W1 none) := g1
  have x4 := bx.b4
  rw [hW1] at x4
  clear hW1 g1 s1 bx
  by_cases h1 : 0 ≤ z
  · by_cases h2 : z < (n : Int)
    · have d2 : decide (z < (n : Int)) = true := by simpa using h2
      have E : Hid (StT n z) := ⟨h1, h2⟩
      clear h2
      go_enter Try.func59, Try.ntmps59
      go_wp2_with fail
      rw [← HW1.out]
      go_ret
      exact tellsB true rfl ⟨fun _ => E.out, fun _ => rfl⟩ G.out
    · have d2 : decide (z < (n : Int)) = false := by simpa using h2
      have E : Hid (¬ StT n z) := fun h => h2 h.2
      clear h2
      go_enter Try.func59, Try.ntmps59
      go_wp2_with fail
      rw [← HW1.out]
      go_ret
      exact tellsB false rfl ⟨(fun e => by cases e), fun e => absurd e E.out⟩ G.out
  · have d1 : decide (0 ≤ z) = false := by simpa using h1
    have E : Hid (¬ StT n z) := fun h => h1 h.1
    clear h1
    go_enter Try.func59, Try.ntmps59
    go_wp2_with fail
    rw [← HW1.out]
    go_ret
    exact tellsB false rfl ⟨(fun e => by cases e), fun e => absurd e E.out⟩ G.out

set_option maxHeartbeats 3200000 in
set_option maxRecDepth 100000 in
theorem shaped_any (x : TrI) (a3 a4 a5 a6 : Option Addr) (c3 c4 c5 c6 : Nat) (w : World) (h : TnAt w x a3 a4 a5 a6) :
    Calls Try.prog 44 #[tnV x.I x.O x.S a3 x.F.length c3 a4 x.N.length c4 a5 x.Y.length c5 a6 x.E.length c6] w (TellsB (ShapeT x) w) := by
  obtain ⟨W1, hW1, g1, s1, bx⟩ := box7_new w x.I x.O x.S a3 x.F.length c3 a4 x.N.length c4 a5 x.Y.length c5 a6 x.E.length c6
  have HW1 : Hid (W1 = _) := hW1
  have G : Hid (w.grownBy W1 none) := g1
  have HT : Hid (TnAt W1 x a3 a4 a5 a6) := h.grown g1
  have HX : Hid (Box7 W1 w.heap.size x.I x.O x.S a3 x.F.length c3 a4 x.N.length c4 a5 x.Y.length c5 a6 x.E.length c6) := bx
  have x4 := bx.b4
  have x5 := bx.b5
  have x6 := bx.b6
  rw [hW1] at x4 x5 x6
  have m4 := h.m4
  unfold maxLen at m4
  clear hW1 g1 s1 bx h
  by_cases e1 : x.Y.length = x.N.length
  · by_cases e2 : x.E.length = x.N.length
    · have HE : Hid (x.Y.length = x.N.length ∧ x.E.length = x.N.length) := ⟨e1, e2⟩
      have d1 : ((x.Y.length : Int) != (x.N.length : Int)) = false := by simp [e1]
      have d2 : ((x.E.length : Int) != (x.N.length : Int)) = false := by simp [e2]
      clear e1 e2
      go_enter Try.func44, Try.ntmps44
      go_wp2_with fail
      rw [← HW1.out]
      go_loopw [23] (fun v W => ∃ k : Nat, k ≤ x.N.length ∧ v = .int .i64 k ∧ W1.grownBy W none ∧ ∀ s, s < k → ((x.N.getD s []).length : Int) = x.I ∧ ((x.Y.getD s []).length : Int) = x.I) (fun v _ => x.N.length - (intOf v).toNat)
      case atStart => exact ⟨0, Nat.zero_le _, rfl, grown_refl _ _, fun j hj => by omega⟩
      case round =>
        obtain ⟨k, hk, rfl, hgw, hg⟩ := hrel
        have HJ : Hid (∀ s, s < k → ((x.N.getD s []).length : Int) = x.I ∧ ((x.Y.getD s []).length : Int) = x.I) := hg
        have HGW : Hid (W1.grownBy wr none) := hgw
        have y0 := (HX.out.grown hgw).b0
        have y4 := (HX.out.grown hgw).b4
        have y5 := (HX.out.grown hgw).b5
        clear hg hgw
        by_cases hlt : k < x.N.length
        · obtain ⟨b4, o4, rfl, hc4⟩ := (HT.out.next.grown HGW.out).at hlt
          obtain ⟨r4, k4, c4', _, _⟩ := hc4 k hlt
          obtain ⟨b5, o5, rfl, hc5⟩ := (HT.out.says.grown HGW.out).at (k := k) (by have := HE.out; omega)
          obtain ⟨r5, k5, c5', _, _⟩ := hc5 k (by have := HE.out; omega)
          have i5 : (k : Int) < (x.Y.length : Int) := by have := HE.out; omega
          have i4 : (k : Int) < (x.N.length : Int) := by omega
          clear hc4 hc5
          by_cases f1 : ((x.N.getD k []).length : Int) = x.I
          · have q1 : (((x.N.getD k []).length : Int) != x.I) = false := by simpa using f1
            by_cases f2 : ((x.Y.getD k []).length : Int) = x.I
            · have q2 : (((x.Y.getD k []).length : Int) != x.I) = false := by simpa using f2
              have HF : Hid (∀ s, s < k + 1 → ((x.N.getD s []).length : Int) = x.I ∧ ((x.Y.getD s []).length : Int) = x.I) := fun s hs => by
                by_cases hsk : s = k
                · subst hsk; exact ⟨f1, f2⟩
                · exact HJ.out s (by omega)
              clear f1 f2
              generalize (x.N.getD k []).length = nr at *
              generalize (x.Y.getD k []).length = ny at *
              go_wp2_with fail
              go_quiet (fail)
              go_wp2_with fail
              go_roundw
              case rel => exact ⟨k + 1, by omega, by go_num, grown_drewN HGW.out _, HF.out⟩
              case measure => simp [intOf]; omega
            · have q2 : (((x.Y.getD k []).length : Int) != x.I) = true := by simpa using f2
              have HF : Hid (¬ ShapeT x) := fun hs => f2 (hs.2.2 k hlt).2
              clear f1 f2
              generalize (x.N.getD k []).length = nr at *
              generalize (x.Y.getD k []).length = ny at *
              go_wp2_with fail
              go_quiet (fail)
              go_wp2_with fail
              go_ret
              exact tellsB false rfl ⟨(fun e => by cases e), fun e => absurd e HF.out⟩ (grown_trans G.out (grown_drewN HGW.out _))
          · have q1 : (((x.N.getD k []).length : Int) != x.I) = true := by simpa using f1
            have HF : Hid (¬ ShapeT x) := fun hs => f1 (hs.2.2 k hlt).1
            clear f1
            generalize (x.N.getD k []).length = nr at *
            go_wp2_with fail
            go_quiet (fail)
            go_wp2_with fail
            go_ret
            exact tellsB false rfl ⟨(fun e => by cases e), fun e => absurd e HF.out⟩ (grown_trans G.out (grown_drewN HGW.out _))
        · have i4 : ¬ (k : Int) < (x.N.length : Int) := by omega
          have HF : Hid (ShapeT x) := ⟨HE.out.1, HE.out.2, fun s hs => HJ.out s (by omega)⟩
          go_wp2_with fail
          go_ret
          exact tellsB true rfl ⟨fun _ => HF.out, fun _ => rfl⟩ (grown_trans G.out HGW.out)
    · have d1 : ((x.Y.length : Int) != (x.N.length : Int)) = false := by simp [e1]
      have d2 : ((x.E.length : Int) != (x.N.length : Int)) = true := by simp; omega
      have HF : Hid (¬ ShapeT x) := fun hs => e2 hs.2.1
      clear e1 e2
      go_enter Try.func44, Try.ntmps44
      go_wp2_with fail
      rw [← HW1.out]
      go_ret
      exact tellsB false rfl ⟨(fun e => by cases e), fun e => absurd e HF.out⟩ G.out
  · have d1 : ((x.Y.length : Int) != (x.N.length : Int)) = true := by simp; omega
    have HF : Hid (¬ ShapeT x) := fun hs => e1 hs.1
    clear e1
    go_enter Try.func44, Try.ntmps44
    go_wp2_with fail
    rw [← HW1.out]
    go_ret
    exact tellsB false rfl ⟨(fun e => by cases e), fun e => absurd e HF.out⟩ G.out

set_option maxHeartbeats 3200000 in
set_option maxRecDepth 100000 in
theorem leadsWithin_any (x : TrI) (a3 a4 a5 a6 : Option Addr) (c3 c4 c5 c6 : Nat) (w : World) (h : TnAt w x a3 a4 a5 a6) :
    Calls Try.prog 45 #[tnV x.I x.O x.S a3 x.F.length c3 a4 x.N.length c4 a5 x.Y.length c5 a6 x.E.length c6] w (TellsB (WithT x) w) := by
  obtain ⟨W1, hW1, g1, s1, bx⟩ := box7_new w x.I x.O x.S a3 x.F.length c3 a4 x.N.length c4 a5 x.Y.length c5 a6 x.E.length c6
  have HW1 : Hid (W1 = _) := hW1
  have G : Hid (w.grownBy W1 none) := g1
  have HT : Hid (TnAt W1 x a3 a4 a5 a6) := h.grown g1
  have HX : Hid (Box7 W1 w.heap.size x.I x.O x.S a3 x.F.length c3 a4 x.N.length c4 a5 x.Y.length c5 a6 x.E.length c6) := bx
  have HS : Hid (∀ z W, Calls Try.prog 59 #[tnV x.I x.O x.S a3 x.F.length c3 a4 x.N.length c4 a5 x.Y.length c5 a6 x.E.length c6, .int .i64 z] W (TellsB (StT x.N.length z) W)) := fun z W => isState_any _ _ _ _ _ _ _ _ _ _ _ _ _ _ _ _ _
  have x4 := bx.b4
  rw [hW1] at x4
  have m4 := h.m4
  unfold maxLen at m4
  clear hW1 g1 s1 bx h
  go_enter Try.func45, Try.ntmps45
  go_wp2_with fail
  rw [← HW1.out]
  go_loopw [10] (fun v W => ∃ k : Nat, k ≤ x.N.length ∧ v = .int .i64 k ∧ W1.grownBy W none ∧ ∀ s, s < k → ∀ l, l < (x.N.getD s []).length → StT x.N.length ((x.N.getD s []).getD l 0)) (fun v _ => x.N.length - (intOf v).toNat)
  case atStart => exact ⟨0, Nat.zero_le _, rfl, grown_refl _ _, fun j hj => by omega⟩
  case round =>
    obtain ⟨wo, hwo⟩ : ∃ W, W = wr := ⟨_, rfl⟩
    subst hwo
    obtain ⟨k, hk, rfl, hgw, hg⟩ := hrel
    have HJ : Hid (∀ s, s < k → ∀ l, l < (x.N.getD s []).length → StT x.N.length ((x.N.getD s []).getD l 0)) := hg
    have HGW : Hid (W1.grownBy wo none) := hgw
    clear hg hgw
    by_cases hlt : k < x.N.length
    · obtain ⟨b4, o4, ha4, hc4⟩ := (HT.out.next.grown HGW.out).at hlt
      obtain ⟨r4, k4, c4', hr4, hm4⟩ := hc4 k hlt
      have i4 : (k : Int) < (x.N.length : Int) := by omega
      obtain ⟨R, hR⟩ : ∃ R, x.N.getD k [] = R := ⟨_, rfl⟩
      rw [hR] at c4' hr4 hm4
      have HR : Hid (x.N.getD k [] = R) := hR
      have HI : Hid (Ints wo r4 R) := hr4
      have HA : Hid (a4 = _) := ha4
      unfold maxLen at hm4
      subst ha4
      clear hc4 hR hr4
      go_wp2_with fail
      go_loopw [16] (fun v W => ∃ l : Nat, l ≤ R.length ∧ v = .int .i64 l ∧ wo.grownBy W none ∧ ∀ j, j < l → StT x.N.length (R.getD j 0)) (fun v _ => R.length - (intOf v).toNat)
      case atStart => exact ⟨0, Nat.zero_le _, rfl, grown_refl _ _, fun j hj => by omega⟩
      case round =>
        obtain ⟨wi, hwi⟩ : ∃ W, W = wr := ⟨_, rfl⟩
        subst hwi
        obtain ⟨l, hl, rfl, hgi, hi⟩ := hrel
        have HL : Hid (∀ j, j < l → StT x.N.length (R.getD j 0)) := hi
        have HGI : Hid (wo.grownBy wi none) := hgi
        have z0 := (HX.out.grown (grown_trans HGW.out hgi)).b0
        have z1 := (HX.out.grown (grown_trans HGW.out hgi)).b1
        have z2 := (HX.out.grown (grown_trans HGW.out hgi)).b2
        have z3 := (HX.out.grown (grown_trans HGW.out hgi)).b3
        have z4 := (HX.out.grown (grown_trans HGW.out hgi)).b4
        have z5 := (HX.out.grown (grown_trans HGW.out hgi)).b5
        have z6 := (HX.out.grown (grown_trans HGW.out hgi)).b6
        clear hi hgi
        by_cases hll : l < R.length
        · obtain ⟨br, ob, rfl, hcr⟩ := (HI.out.grown HGI.out).at hll
          have hcl := hcr l hll
          have il : (l : Int) < (R.length : Int) := by omega
          obtain ⟨z, hz⟩ : ∃ z, R.getD l 0 = z := ⟨_, rfl⟩
          rw [hz] at hcl
          have HZ : Hid (R.getD l 0 = z) := hz
          clear hcr hz
          go_wp2_with fail
          refine (HS.out _ _).mono ?_
          rintro E w2 ⟨bb, rfl, hbb, hg2⟩
          have HB : Hid (bb = true ↔ StT x.N.length z) := hbb
          have HG2 : Hid (wi.grownBy w2 none) := hg2
          clear hbb hg2
          cases bb with
          | true =>
            have HN : Hid (∀ j, j < l + 1 → StT x.N.length (R.getD j 0)) := fun j hj => by
              by_cases hjl : j = l
              · subst hjl; rw [HZ.out]; exact HB.out.1 rfl
              · exact HL.out j (by omega)
            go_wp2_with fail
            go_roundw
            case rel => exact ⟨l + 1, by omega, by go_num, grown_trans HGI.out HG2.out, HN.out⟩
            case measure => simp [intOf]; omega
          | false =>
            have HN : Hid (¬ WithT x) := fun hh => by
              have h1 := hh.1 k hlt l (by rw [HR.out]; exact hll)
              rw [HR.out, HZ.out] at h1
              have := HB.out.2 h1
              cases this
            go_wp2_with fail
            go_ret
            exact tellsB false rfl ⟨(fun e => by cases e), fun e => absurd e HN.out⟩ (grown_trans G.out (grown_trans HGW.out (grown_trans HGI.out HG2.out)))
        · have il : ¬ (l : Int) < (R.length : Int) := by omega
          have HN : Hid (∀ s, s < k + 1 → ∀ l, l < (x.N.getD s []).length → StT x.N.length ((x.N.getD s []).getD l 0)) := fun s hs => by
            by_cases hsk : s = k
            · subst hsk; rw [HR.out]; intro j hj; exact HL.out j (by omega)
            · exact HJ.out s (by omega)
          go_wp2_with fail
          go_roundw
          case rel => exact ⟨k + 1, by omega, by go_num, grown_trans HGW.out HGI.out, HN.out⟩
          case measure => simp [intOf]; omega
    · have i4 : ¬ (k : Int) < (x.N.length : Int) := by omega
      have HN : Hid (RowsT x.N.length x.N) := fun s hs => HJ.out s (by omega)
      have z0 := (HX.out.grown HGW.out).b0
      have z1 := (HX.out.grown HGW.out).b1
      have z2 := (HX.out.grown HGW.out).b2
      have z3 := (HX.out.grown HGW.out).b3
      have z4 := (HX.out.grown HGW.out).b4
      have z5 := (HX.out.grown HGW.out).b5
      have z6 := (HX.out.grown HGW.out).b6
      go_wp2_with fail
      refine (HS.out _ _).mono ?_
      rintro E w2 ⟨bb, rfl, hbb, hg2⟩
      have HB : Hid ((bb = true ↔ WithT x) ∧ w.grownBy w2 none) := ⟨⟨fun e => ⟨HN.out, hbb.1 e⟩, fun e => hbb.2 e.2⟩, grown_trans G.out (grown_trans HGW.out hg2)⟩
      clear hbb hg2
      go_wp2_with fail
      go_ret
      exact tellsB bb rfl HB.out.1 HB.out.2

end Go.Proofs.Ytodcmlcpicabaaa

namespace Go.Proofs.Ytodcmlcpicabaaa
set_option linter.unusedVariables false

def ChkP (x : TrI) (w : World) (e : Ending) (w' : World) : Prop := ∃ z, e = .returned (.int .i64 z) ∧ ChkIs x z ∧ w.grownBy w' none
theorem chk_many {x : TrI} (h : ¬ (ManyT x.I ∧ ManyT x.O)) : ChkIs x 2 := ⟨fun _ => rfl, fun k => absurd k h, fun k => absurd k h, fun k => absurd k h, fun k => absurd k h, fun k => absurd k h, fun k => absurd k h⟩
theorem chk_size {x : TrI} (h1 : ManyT x.I ∧ ManyT x.O) (h : ¬ SizeT x) : ChkIs x 1 := ⟨fun k => absurd h1 k, fun _ _ => rfl, fun _ k => absurd k h, fun _ k => absurd k h, fun _ k => absurd k h, fun _ k => absurd k h, fun _ k => absurd k h⟩
theorem chk_shape {x : TrI} (h1 : ManyT x.I ∧ ManyT x.O) (h2 : SizeT x) (h : ¬ ShapeT x) : ChkIs x 3 := ⟨fun k => absurd h1 k, fun _ k => absurd h2 k, fun _ _ _ => rfl, fun _ _ k => absurd k h, fun _ _ k => absurd k h, fun _ _ k => absurd k h, fun _ _ k => absurd k h⟩
theorem chk_with {x : TrI} (h1 : ManyT x.I ∧ ManyT x.O) (h2 : SizeT x) (h3 : ShapeT x) (h : ¬ WithT x) : ChkIs x 2 := ⟨fun k => absurd h1 k, fun _ k => absurd h2 k, fun _ _ k => absurd h3 k, fun _ _ _ _ => rfl, fun _ _ _ k => absurd k h, fun _ _ _ k => absurd k h, fun _ _ _ k => absurd k h⟩
theorem chk_little {x : TrI} (h1 : ManyT x.I ∧ ManyT x.O) (h2 : SizeT x) (h3 : ShapeT x) (h4 : WithT x) (h : ¬ LittleT x) : ChkIs x 1 := ⟨fun k => absurd h1 k, fun _ k => absurd h2 k, fun _ _ k => absurd h3 k, fun _ _ _ k => absurd h4 k, fun _ _ _ _ _ => rfl, fun _ _ _ _ k => absurd k h, fun _ _ _ _ k => absurd k h⟩
theorem chk_lets {x : TrI} (h1 : ManyT x.I ∧ ManyT x.O) (h2 : SizeT x) (h3 : ShapeT x) (h4 : WithT x) (h5 : LittleT x) (h : ¬ LetsT x) : ChkIs x 2 := ⟨fun k => absurd h1 k, fun _ k => absurd h2 k, fun _ _ k => absurd h3 k, fun _ _ _ k => absurd h4 k, fun _ _ _ _ k => absurd h5 k, fun _ _ _ _ _ _ => rfl, fun _ _ _ _ _ k => absurd k h⟩
theorem chk_good {x : TrI} (h1 : ManyT x.I ∧ ManyT x.O) (h2 : SizeT x) (h3 : ShapeT x) (h4 : WithT x) (h5 : LittleT x) (h : LetsT x) : ChkIs x 0 := ⟨fun k => absurd h1 k, fun _ k => absurd h2 k, fun _ _ k => absurd h3 k, fun _ _ _ k => absurd h4 k, fun _ _ _ _ k => absurd h5 k, fun _ _ _ _ _ k => absurd h k, fun _ _ _ _ _ _ => rfl⟩


end Go.Proofs.Ytodcmlcpicabaaa

namespace Go.Proofs.Ytodcmlcpicabaaa
open Go.RowKit
set_option linter.unusedVariables false

set_option maxHeartbeats 3200000 in
set_option maxRecDepth 100000 in
theorem check_any (x : TrI) (a3 a4 a5 a6 : Option Addr) (c3 c4 c5 c6 : Nat) (w : World) (h : TnAt w x a3 a4 a5 a6) :
    Calls Try.prog 26 #[tnV x.I x.O x.S a3 x.F.length c3 a4 x.N.length c4 a5 x.Y.length c5 a6 x.E.length c6] w (ChkP x w) := by
  obtain ⟨W1, hW1, g1, s1, bx⟩ := box7_new w x.I x.O x.S a3 x.F.length c3 a4 x.N.length c4 a5 x.Y.length c5 a6 x.E.length c6
  have HM : Hid (∀ z W, Calls Try.prog 43 #[.int .i64 z] W (TellsB (ManyT z) W)) := fun z W => isMany_any z W
  have HSh : Hid (∀ W, w.grownBy W none → Calls Try.prog 44 #[tnV x.I x.O x.S a3 x.F.length c3 a4 x.N.length c4 a5 x.Y.length c5 a6 x.E.length c6] W (TellsB (ShapeT x) W)) := fun W hW => shaped_any _ _ _ _ _ _ _ _ _ _ (h.grown hW)
  have HWi : Hid (∀ W, w.grownBy W none → Calls Try.prog 45 #[tnV x.I x.O x.S a3 x.F.length c3 a4 x.N.length c4 a5 x.Y.length c5 a6 x.E.length c6] W (TellsB (WithT x) W)) := fun W hW => leadsWithin_any _ _ _ _ _ _ _ _ _ _ (h.grown hW)
  have HLi : Hid (ShapeT x → ∀ W, w.grownBy W none → Calls Try.prog 29 #[tnV x.I x.O x.S a3 x.F.length c3 a4 x.N.length c4 a5 x.Y.length c5 a6 x.E.length c6] W (TellsB (LittleT x) W)) := fun hs W hW => saysLittle_any _ _ _ _ _ _ _ _ _ _ (h.grown hW) (by have := hs.1; have := hs.2.1; omega)
  have HLe : Hid (ShapeT x → ∀ W, w.grownBy W none → Calls Try.prog 46 #[tnV x.I x.O x.S a3 x.F.length c3 a4 x.N.length c4 a5 x.Y.length c5 a6 x.E.length c6] W (TellsB (LetsT x) W)) := fun hs W hW => saysLetters_any _ _ _ _ _ _ _ _ _ _ (h.grown hW) (by have := hs.1; have := hs.2.1; omega)
  have HW1 : Hid (W1 = _) := hW1
  have G1 : Hid (w.grownBy W1 none) := g1
  have BX : Hid (∀ W, W1.grownBy W none → Box7 W w.heap.size x.I x.O x.S a3 x.F.length c3 a4 x.N.length c4 a5 x.Y.length c5 a6 x.E.length c6) := fun W hW => bx.grown hW
  have hm := h.m4
  unfold maxLen at hm
  have x0 := bx.b0
  rw [hW1] at x0
  obtain ⟨Po, hPo⟩ : ∃ P, P = ChkP x w := ⟨_, rfl⟩
  have HP : Hid (∀ z W, ChkIs x z → W1.grownBy W none → Po (.returned (.int .i64 z)) W) := fun z W h1 h2 => by rw [hPo]; exact ⟨z, rfl, h1, grown_trans G1.out h2⟩
  have HSz : Hid (SizeT x ↔ 1 ≤ x.N.length ∧ x.N.length ≤ 6) := Iff.rfl
  rw [← hPo]
  clear hW1 g1 s1 bx h hPo
  go_enter Try.func26, Try.ntmps26
  go_wp2_with fail
  rw [← HW1.out]
  refine (HM.out x.I W1).mono ?_
  rintro E w1 ⟨bI, rfl, hI, g1⟩
  have HI : Hid (bI = true ↔ ManyT x.I) := hI
  have HG : Hid (W1.grownBy w1 none) := g1
  have y1 := (BX.out w1 g1).b1
  clear hI g1 x0
  cases bI with
  | false =>
    have F : Hid (Po (.returned (.int .i64 2)) w1) := HP.out 2 w1 (chk_many fun hh => by have := HI.out.2 hh.1; cases this) HG.out
    go_wp2_with fail
    first | exact F.out | (go_ret; exact F.out)
  | true =>
  have HI1 : Hid (ManyT x.I) := HI.out.1 rfl
  clear HI
  go_wp2_with fail
  refine (HM.out x.O w1).mono ?_
  rintro E w2 ⟨bO, rfl, hO, g2⟩
  have HO : Hid (bO = true ↔ ManyT x.O) := hO
  have HG2 : Hid (W1.grownBy w2 none) := grown_trans HG.out g2
  have y4 := (BX.out w2 HG2.out).b4
  clear hO g2 y1
  cases bO with
  | false =>
    have F : Hid (Po (.returned (.int .i64 2)) w2) := HP.out 2 w2 (chk_many fun hh => by have := HO.out.2 hh.2; cases this) HG2.out
    go_wp2_with fail
    first | exact F.out | (go_ret; exact F.out)
  | true =>
  have HMM : Hid (ManyT x.I ∧ ManyT x.O) := ⟨HI1.out, HO.out.1 rfl⟩
  clear HI1 HO HM HG
  by_cases n1 : (x.N.length : Int) < 1
  · have d1 : decide ((x.N.length : Int) < 1) = true := by simpa using n1
    have F : Hid (Po (.returned (.int .i64 1)) w2) := HP.out 1 w2 (chk_size HMM.out fun hh => by have := (HSz.out.1 hh).1; omega) HG2.out
    go_wp2_with fail
    first | exact F.out | (go_ret; exact F.out)
  have d1 : decide ((x.N.length : Int) < 1) = false := by simpa using n1
  by_cases n2 : (6 : Int) < (x.N.length : Int)
  · have d2 : decide ((6 : Int) < (x.N.length : Int)) = true := by simpa using n2
    have F : Hid (Po (.returned (.int .i64 1)) w2) := HP.out 1 w2 (chk_size HMM.out fun hh => by have := (HSz.out.1 hh).2; omega) HG2.out
    go_wp2_with fail
    first | exact F.out | (go_ret; exact F.out)
  have d2 : decide ((6 : Int) < (x.N.length : Int)) = false := by simpa using n2
  have HZ : Hid (SizeT x) := HSz.out.2 ⟨by omega, by omega⟩
  have z0 := (BX.out w2 HG2.out).b0
  have z1 := (BX.out w2 HG2.out).b1
  have z2 := (BX.out w2 HG2.out).b2
  have z3 := (BX.out w2 HG2.out).b3
  have z5 := (BX.out w2 HG2.out).b5
  have z6 := (BX.out w2 HG2.out).b6
  go_wp2_with fail
  refine (HSh.out w2 (grown_trans G1.out HG2.out)).mono ?_
  rintro E w3 ⟨bS, rfl, hS, g3⟩
  have HS : Hid (bS = true ↔ ShapeT x) := hS
  have HG3 : Hid (W1.grownBy w3 none) := grown_trans HG2.out g3
  clear hS g3 z0 z1 z2 z3 y4 z5 z6 HG2 d1 d2 n1 n2
  cases bS with
  | false =>
    have F : Hid (Po (.returned (.int .i64 3)) w3) := HP.out 3 w3 (chk_shape HMM.out HZ.out fun hh => by have := HS.out.2 hh; cases this) HG3.out
    go_wp2_with fail
    first | exact F.out | (go_ret; exact F.out)
  | true =>
  have z0 := (BX.out w3 HG3.out).b0
  have z1 := (BX.out w3 HG3.out).b1
  have z2 := (BX.out w3 HG3.out).b2
  have z3 := (BX.out w3 HG3.out).b3
  have z4 := (BX.out w3 HG3.out).b4
  have z5 := (BX.out w3 HG3.out).b5
  have z6 := (BX.out w3 HG3.out).b6
  have HS1 : Hid (ShapeT x) := HS.out.1 rfl
  go_wp2_with fail
  refine (HWi.out w3 (grown_trans G1.out HG3.out)).mono ?_
  rintro E w4 ⟨bW, rfl, hW, g4⟩
  have HW : Hid (bW = true ↔ WithT x) := hW
  have HG4 : Hid (W1.grownBy w4 none) := grown_trans HG3.out g4
  clear hW g4 z0 z1 z2 z3 z4 z5 z6 HG3
  cases bW with
  | false =>
    have F : Hid (Po (.returned (.int .i64 2)) w4) := HP.out 2 w4 (chk_with HMM.out HZ.out HS1.out fun hh => by have := HW.out.2 hh; cases this) HG4.out
    go_wp2_with fail
    first | exact F.out | (go_ret; exact F.out)
  | true =>
  have HW' : Hid (WithT x) := HW.out.1 rfl
  clear HW
  have z0 := (BX.out w4 HG4.out).b0
  have z1 := (BX.out w4 HG4.out).b1
  have z2 := (BX.out w4 HG4.out).b2
  have z3 := (BX.out w4 HG4.out).b3
  have z4 := (BX.out w4 HG4.out).b4
  have z5 := (BX.out w4 HG4.out).b5
  have z6 := (BX.out w4 HG4.out).b6
  go_wp2_with fail
  refine (HLi.out HS1.out w4 (grown_trans G1.out HG4.out)).mono ?_
  rintro E w5 ⟨bL, rfl, hL, g5⟩
  have HL : Hid (bL = true ↔ LittleT x) := hL
  have HG5 : Hid (W1.grownBy w5 none) := grown_trans HG4.out g5
  clear hL g5 z0 z1 z2 z3 z4 z5 z6 HG4
  cases bL with
  | false =>
    have F : Hid (Po (.returned (.int .i64 1)) w5) := HP.out 1 w5 (chk_little HMM.out HZ.out HS1.out HW'.out fun hh => by have := HL.out.2 hh; cases this) HG5.out
    go_wp2_with fail
    first | exact F.out | (go_ret; exact F.out)
  | true =>
  have HL' : Hid (LittleT x) := HL.out.1 rfl
  clear HL
  have z0 := (BX.out w5 HG5.out).b0
  have z1 := (BX.out w5 HG5.out).b1
  have z2 := (BX.out w5 HG5.out).b2
  have z3 := (BX.out w5 HG5.out).b3
  have z4 := (BX.out w5 HG5.out).b4
  have z5 := (BX.out w5 HG5.out).b5
  have z6 := (BX.out w5 HG5.out).b6
  go_wp2_with fail
  refine (HLe.out HS1.out w5 (grown_trans G1.out HG5.out)).mono ?_
  rintro E w6 ⟨bE, rfl, hE, g6⟩
  have HE : Hid (bE = true ↔ LetsT x) := hE
  have HG6 : Hid (W1.grownBy w6 none) := grown_trans HG5.out g6
  clear hE g6 z0 z1 z2 z3 z4 z5 z6 HG5
  cases bE with
  | false =>
    have F : Hid (Po (.returned (.int .i64 2)) w6) := HP.out 2 w6 (chk_lets HMM.out HZ.out HS1.out HW'.out HL'.out fun hh => by have := HE.out.2 hh; cases this) HG6.out
    go_wp2_with fail
    first | exact F.out | (go_ret; exact F.out)
  | true =>
  have F : Hid (Po (.returned (.int .i64 0)) w6) := HP.out 0 w6 (chk_good HMM.out HZ.out HS1.out HW'.out HL'.out (HE.out.1 rfl)) HG6.out
  go_wp2_with fail
  first | exact F.out | (go_ret; exact F.out)

end Go.Proofs.Ytodcmlcpicabaaa

namespace Go.Proofs.Ytodcmlcpicabaaa
open Go.RowKit
set_option linter.unusedVariables false
set_option linter.unusedSimpArgs false

theorem two_boxes7 (w : World) (x y : TrI) (a3 a4 a5 a6 : Option Addr) (ac3 ac4 ac5 ac6 : Nat) (b3 b4 b5 b6 : Option Addr) (bc3 bc4 bc5 bc6 : Nat) : ∃ W, W = (w.alloc (tnO x.I x.O x.S a3 x.F.length ac3 a4 x.N.length ac4 a5 x.Y.length ac5 a6 x.E.length ac6)).alloc (tnO y.I y.O y.S b3 y.F.length bc3 b4 y.N.length bc4 b5 y.Y.length bc5 b6 y.E.length bc6) ∧ w.grownBy W none ∧ W.heap.size = w.heap.size + 1 + 1 ∧ Box7 W w.heap.size x.I x.O x.S a3 x.F.length ac3 a4 x.N.length ac4 a5 x.Y.length ac5 a6 x.E.length ac6 ∧ Box7 W (w.heap.size + 1) y.I y.O y.S b3 y.F.length bc3 b4 y.N.length bc4 b5 y.Y.length bc5 b6 y.E.length bc6 := by
  obtain ⟨W1, hW1, g1, s1, bx⟩ := box7_new w x.I x.O x.S a3 x.F.length ac3 a4 x.N.length ac4 a5 x.Y.length ac5 a6 x.E.length ac6
  obtain ⟨W2, hW2, g2, s2, by'⟩ := box7_new W1 y.I y.O y.S b3 y.F.length bc3 b4 y.N.length bc4 b5 y.Y.length bc5 b6 y.E.length bc6
  rw [s1] at by'
  exact ⟨W2, by rw [hW2, hW1], grown_trans g1 g2, by omega, bx.grown g2, by'⟩

/-- What both Checks come to. -/
def ChkB (x y : TrI) (z : Int) : Prop := ∃ z1, ChkIs x z1 ∧ (z1 ≠ 0 → z = z1) ∧ (z1 = 0 → ChkIs y z)
theorem ChkB.all {x y : TrI} {z z' : Int} (h : ChkB x y z) (k : ChkB x y z') : z = z' ∧ (z = 0 ↔ GoodT x ∧ GoodT y) := by
  obtain ⟨a, h1, h2, h3⟩ := h
  obtain ⟨b, k1, k2, k3⟩ := k
  obtain ⟨e, he⟩ := h1.all k1
  subst e
  by_cases h0 : a = 0
  · obtain ⟨e2, he2⟩ := (h3 h0).all (k3 h0)
    exact ⟨e2, fun e => ⟨he.1 h0, he2.1 e⟩, fun ⟨_, g⟩ => he2.2 g⟩
  · have e1 := h2 h0
    have e2 := k2 h0
    exact ⟨by omega, fun e => absurd (by omega) h0, fun ⟨g, _⟩ => absurd (he.2 g) h0⟩
def ChkBP (x y : TrI) (w : World) (e : Ending) (w' : World) : Prop := ∃ z, e = .returned (.int .i64 z) ∧ ChkB x y z ∧ w.grownBy w' none

set_option maxHeartbeats 1600000 in
set_option maxRecDepth 100000 in
theorem checkBoth_any (x y : TrI) (a3 a4 a5 a6 : Option Addr) (ac3 ac4 ac5 ac6 : Nat) (b3 b4 b5 b6 : Option Addr) (bc3 bc4 bc5 bc6 : Nat) (w : World) (hx : TnAt w x a3 a4 a5 a6) (hy : TnAt w y b3 b4 b5 b6) :
    Calls Try.prog 18 #[tnV x.I x.O x.S a3 x.F.length ac3 a4 x.N.length ac4 a5 x.Y.length ac5 a6 x.E.length ac6, tnV y.I y.O y.S b3 y.F.length bc3 b4 y.N.length bc4 b5 y.Y.length bc5 b6 y.E.length bc6] w (ChkBP x y w) := by
  obtain ⟨W1, hW1, g1, s1, bx, by'⟩ := two_boxes7 w x y a3 a4 a5 a6 ac3 ac4 ac5 ac6 b3 b4 b5 b6 bc3 bc4 bc5 bc6
  have HCX : Hid (Calls Try.prog 26 #[tnV x.I x.O x.S a3 x.F.length ac3 a4 x.N.length ac4 a5 x.Y.length ac5 a6 x.E.length ac6] W1 (ChkP x W1)) := check_any _ _ _ _ _ _ _ _ _ _ (hx.grown g1)
  have HCY : Hid (∀ W, w.grownBy W none → Calls Try.prog 26 #[tnV y.I y.O y.S b3 y.F.length bc3 b4 y.N.length bc4 b5 y.Y.length bc5 b6 y.E.length bc6] W (ChkP y W)) := fun W hW => check_any _ _ _ _ _ _ _ _ _ _ (hy.grown hW)
  have HW1 : Hid (W1 = _) := hW1
  have G1 : Hid (w.grownBy W1 none) := g1
  have BY : Hid (∀ W, W1.grownBy W none → Box7 W (w.heap.size + 1) y.I y.O y.S b3 y.F.length bc3 b4 y.N.length bc4 b5 y.Y.length bc5 b6 y.E.length bc6) := fun W hW => by'.grown hW
  have x0 := bx.b0
  have x1 := bx.b1
  have x2 := bx.b2
  have x3 := bx.b3
  have x4 := bx.b4
  have x5 := bx.b5
  have x6 := bx.b6
  rw [hW1] at x0 x1 x2 x3 x4 x5 x6
  clear hW1 g1 s1 bx by' hx hy
  go_enter Try.func18, Try.ntmps18
  go_wp2_with fail
  rw [← HW1.out]
  refine HCX.out.mono ?_
  rintro E w2 ⟨z, rfl, hz, hg⟩
  have HZ : Hid (ChkIs x z) := hz
  have HG : Hid (W1.grownBy w2 none) := hg
  clear hz hg x0 x1 x2 x3 x4 x5 x6 HCX
  by_cases h0 : z = 0
  · subst h0
    have x0 := (BY.out w2 HG.out).b0
    have x1 := (BY.out w2 HG.out).b1
    have x2 := (BY.out w2 HG.out).b2
    have x3 := (BY.out w2 HG.out).b3
    have x4 := (BY.out w2 HG.out).b4
    have x5 := (BY.out w2 HG.out).b5
    have x6 := (BY.out w2 HG.out).b6
    go_wp2_with fail
    refine (HCY.out w2 (grown_trans G1.out HG.out)).mono ?_
    rintro E w3 ⟨z', rfl, hz', hg'⟩
    have F : Hid (ChkB x y z' ∧ w.grownBy w3 none) := ⟨⟨0, HZ.out, fun e => absurd rfl e, fun _ => hz'⟩, grown_trans G1.out (grown_trans HG.out hg')⟩
    clear hz' hg'
    go_wp2_with fail
    go_ret
    exact ⟨z', rfl, F.out⟩
  · have d1 : (z != 0) = true := by simpa using h0
    have F : Hid (ChkB x y z ∧ w.grownBy w2 none) := ⟨⟨z, HZ.out, fun _ => rfl, fun e => absurd e h0⟩, grown_trans G1.out HG.out⟩
    clear h0
    go_wp2_with fail
    go_ret
    exact ⟨z, rfl, F.out⟩

end Go.Proofs.Ytodcmlcpicabaaa
