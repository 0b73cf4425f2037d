/- What Check asks of a transducer, one by one: its letters, its shape, where it leads. -/
import Derived.Test.YtdajdnilhjcniaaTnBase
namespace Go.Proofs.Ytdajdnilhjcniaa
open Go.RowKit
set_option linter.unusedVariables false

set_option maxHeartbeats 800000 in
theorem isMany_any (z : Int) (w : World) : Calls Try.prog 21 #[.int .i64 z] w (TellsB (ManyT z) w) := by
  have G : Hid (w.grownBy w none) := grown_refl _ _
  by_cases h1 : 1 ≤ z
  · by_cases h2 : z ≤ 4
    · have d2 : decide (z ≤ 4) = true := by simpa using h2
      have E : Hid (ManyT z) := ⟨h1, h2⟩
      clear h2
      go_enter Try.func21, Try.ntmps21
      go_wp2_with fail
      go_ret
      exact tellsB true rfl ⟨fun _ => E.out, fun _ => rfl⟩ G.out
    · have d2 : decide (z ≤ 4) = false := by simpa using h2
      have E : Hid (¬ ManyT z) := fun h => h2 h.2
      clear h2
      go_enter Try.func21, Try.ntmps21
      go_wp2_with fail
      go_ret
      exact tellsB false rfl ⟨(fun e => by cases e), fun e => absurd e E.out⟩ G.out
  · have d1 : decide (1 ≤ z) = false := by simpa using h1
    have E : Hid (¬ ManyT z) := fun h => h1 h.1
    clear h1
    go_enter Try.func21, Try.ntmps21
    go_wp2_with fail
    go_ret
    exact tellsB false rfl ⟨(fun e => by cases e), fun e => absurd e E.out⟩ G.out

set_option maxHeartbeats 800000 in
theorem isState_any (I O S z : Int) (a3 : Option Addr) (n3 c3 : Nat) (a4 : Option Addr) (n c4 : Nat) (a5 : Option Addr) (n5 c5 : Nat) (a6 : Option Addr) (n6 c6 : Nat) (w : World) :
    Calls Try.prog 30 #[tnV I O S a3 n3 c3 a4 n c4 a5 n5 c5 a6 n6 c6, .int .i64 z] w (TellsB (StT n z) w) := by
  obtain ⟨W1, hW1, g1, s1, bx⟩ := box7_new w I O S a3 n3 c3 a4 n c4 a5 n5 c5 a6 n6 c6
  have HW1 : Hid (W1 = _) := hW1
  have G : Hid (w.grownBy W1 none) := g1
  have x4 := bx.b4
  rw [hW1] at x4
  clear hW1 g1 s1 bx
  by_cases h1 : 0 ≤ z
  · by_cases h2 : z < (n : Int)
    · have d2 : decide (z < (n : Int)) = true := by simpa using h2
      have E : Hid (StT n z) := ⟨h1, h2⟩
      clear h2
      go_enter Try.func30, Try.ntmps30
      go_wp2_with fail
      rw [← HW1.out]
      go_ret
      exact tellsB true rfl ⟨fun _ => E.out, fun _ => rfl⟩ G.out
    · have d2 : decide (z < (n : Int)) = false := by simpa using h2
      have E : Hid (¬ StT n z) := fun h => h2 h.2
      clear h2
      go_enter Try.func30, Try.ntmps30
      go_wp2_with fail
      rw [← HW1.out]
      go_ret
      exact tellsB false rfl ⟨(fun e => by cases e), fun e => absurd e E.out⟩ G.out
  · have d1 : decide (0 ≤ z) = false := by simpa using h1
    have E : Hid (¬ StT n z) := fun h => h1 h.1
    clear h1
    go_enter Try.func30, Try.ntmps30
    go_wp2_with fail
    rw [← HW1.out]
    go_ret
    exact tellsB false rfl ⟨(fun e => by cases e), fun e => absurd e E.out⟩ G.out

set_option maxHeartbeats 3200000 in
set_option maxRecDepth 100000 in
theorem shaped_any (x : TrI) (a3 a4 a5 a6 : Option Addr) (c3 c4 c5 c6 : Nat) (w : World) (h : TnAt w x a3 a4 a5 a6) :
    Calls Try.prog 22 #[tnV x.I x.O x.S a3 x.F.length c3 a4 x.N.length c4 a5 x.Y.length c5 a6 x.E.length c6] w (TellsB (ShapeT x) w) := by
  obtain ⟨W1, hW1, g1, s1, bx⟩ := box7_new w x.I x.O x.S a3 x.F.length c3 a4 x.N.length c4 a5 x.Y.length c5 a6 x.E.length c6
  have HW1 : Hid (W1 = _) := hW1
  have G : Hid (w.grownBy W1 none) := g1
  have HT : Hid (TnAt W1 x a3 a4 a5 a6) := h.grown g1
  have HX : Hid (Box7 W1 w.heap.size x.I x.O x.S a3 x.F.length c3 a4 x.N.length c4 a5 x.Y.length c5 a6 x.E.length c6) := bx
  have x4 := bx.b4
  have x5 := bx.b5
  have x6 := bx.b6
  rw [hW1] at x4 x5 x6
  have m4 := h.m4
  unfold maxLen at m4
  clear hW1 g1 s1 bx h
  by_cases e1 : x.Y.length = x.N.length
  · by_cases e2 : x.E.length = x.N.length
    · have HE : Hid (x.Y.length = x.N.length ∧ x.E.length = x.N.length) := ⟨e1, e2⟩
      have d1 : ((x.Y.length : Int) != (x.N.length : Int)) = false := by simp [e1]
      have d2 : ((x.E.length : Int) != (x.N.length : Int)) = false := by simp [e2]
      clear e1 e2
      go_enter Try.func22, Try.ntmps22
      go_wp2_with fail
      rw [← HW1.out]
      go_loopw [23] (fun v W => ∃ k : Nat, k ≤ x.N.length ∧ v = .int .i64 k ∧ W1.grownBy W none ∧ ∀ s, s < k → ((x.N.getD s []).length : Int) = x.I ∧ ((x.Y.getD s []).length : Int) = x.I) (fun v _ => x.N.length - (intOf v).toNat)
      case atStart => exact ⟨0, Nat.zero_le _, rfl, grown_refl _ _, fun j hj => by omega⟩
      case round =>
        obtain ⟨k, hk, rfl, hgw, hg⟩ := hrel
        have HJ : Hid (∀ s, s < k → ((x.N.getD s []).length : Int) = x.I ∧ ((x.Y.getD s []).length : Int) = x.I) := hg
        have HGW : Hid (W1.grownBy wr none) := hgw
        have y0 := (HX.out.grown hgw).b0
        have y4 := (HX.out.grown hgw).b4
        have y5 := (HX.out.grown hgw).b5
        clear hg hgw
        by_cases hlt : k < x.N.length
        · obtain ⟨b4, o4, rfl, hc4⟩ := (HT.out.next.grown HGW.out).at hlt
          obtain ⟨r4, k4, c4', _, _⟩ := hc4 k hlt
          obtain ⟨b5, o5, rfl, hc5⟩ := (HT.out.says.grown HGW.out).at (k := k) (by have := HE.out; omega)
          obtain ⟨r5, k5, c5', _, _⟩ := hc5 k (by have := HE.out; omega)
          have i5 : (k : Int) < (x.Y.length : Int) := by have := HE.out; omega
          have i4 : (k : Int) < (x.N.length : Int) := by omega
          clear hc4 hc5
          by_cases f1 : ((x.N.getD k []).length : Int) = x.I
          · have q1 : (((x.N.getD k []).length : Int) != x.I) = false := by simpa using f1
            by_cases f2 : ((x.Y.getD k []).length : Int) = x.I
            · have q2 : (((x.Y.getD k []).length : Int) != x.I) = false := by simpa using f2
              have HF : Hid (∀ s, s < k + 1 → ((x.N.getD s []).length : Int) = x.I ∧ ((x.Y.getD s []).length : Int) = x.I) := fun s hs => by
                by_cases hsk : s = k
                · subst hsk; exact ⟨f1, f2⟩
                · exact HJ.out s (by omega)
              clear f1 f2
              generalize (x.N.getD k []).length = nr at *
              generalize (x.Y.getD k []).length = ny at *
              go_wp2_with fail
              go_quiet (fail)
              go_wp2_with fail
              go_roundw
              case rel => exact ⟨k + 1, by omega, by go_num, grown_drewN HGW.out _, HF.out⟩
              case measure => simp [intOf]; omega
            · have q2 : (((x.Y.getD k []).length : Int) != x.I) = true := by simpa using f2
              have HF : Hid (¬ ShapeT x) := fun hs => f2 (hs.2.2 k hlt).2
              clear f1 f2
              generalize (x.N.getD k []).length = nr at *
              generalize (x.Y.getD k []).length = ny at *
              go_wp2_with fail
              go_quiet (fail)
              go_wp2_with fail
              go_ret
              exact tellsB false rfl ⟨(fun e => by cases e), fun e => absurd e HF.out⟩ (grown_trans G.out (grown_drewN HGW.out _))
          · have q1 : (((x.N.getD k []).length : Int) != x.I) = true := by simpa using f1
            have HF : Hid (¬ ShapeT x) := fun hs => f1 (hs.2.2 k hlt).1
            clear f1
            generalize (x.N.getD k []).length = nr at *
            go_wp2_with fail
            go_quiet (fail)
            go_wp2_with fail
            go_ret
            exact tellsB false rfl ⟨(fun e => by cases e), fun e => absurd e HF.out⟩ (grown_trans G.out (grown_drewN HGW.out _))
        · have i4 : ¬ (k : Int) < (x.N.length : Int) := by omega
          have HF : Hid (ShapeT x) := ⟨HE.out.1, HE.out.2, fun s hs => HJ.out s (by omega)⟩
          go_wp2_with fail
          go_ret
          exact tellsB true rfl ⟨fun _ => HF.out, fun _ => rfl⟩ (grown_trans G.out HGW.out)
    · have d1 : ((x.Y.length : Int) != (x.N.length : Int)) = false := by simp [e1]
      have d2 : ((x.E.length : Int) != (x.N.length : Int)) = true := by simp; omega
      have HF : Hid (¬ ShapeT x) := fun hs => e2 hs.2.1
      clear e1 e2
      go_enter Try.func22, Try.ntmps22
      go_wp2_with fail
      rw [← HW1.out]
      go_ret
      exact tellsB false rfl ⟨(fun e => by cases e), fun e => absurd e HF.out⟩ G.out
  · have d1 : ((x.Y.length : Int) != (x.N.length : Int)) = true := by simp; omega
    have HF : Hid (¬ ShapeT x) := fun hs => e1 hs.1
    clear e1
    go_enter Try.func22, Try.ntmps22
    go_wp2_with fail
    rw [← HW1.out]
    go_ret
    exact tellsB false rfl ⟨(fun e => by cases e), fun e => absurd e HF.out⟩ G.out

set_option maxHeartbeats 3200000 in
set_option maxRecDepth 100000 in
theorem leadsWithin_any (x : TrI) (a3 a4 a5 a6 : Option Addr) (c3 c4 c5 c6 : Nat) (w : World) (h : TnAt w x a3 a4 a5 a6) :
    Calls Try.prog 23 #[tnV x.I x.O x.S a3 x.F.length c3 a4 x.N.length c4 a5 x.Y.length c5 a6 x.E.length c6] w (TellsB (WithT x) w) := by
  obtain ⟨W1, hW1, g1, s1, bx⟩ := box7_new w x.I x.O x.S a3 x.F.length c3 a4 x.N.length c4 a5 x.Y.length c5 a6 x.E.length c6
  have HW1 : Hid (W1 = _) := hW1
  have G : Hid (w.grownBy W1 none) := g1
  have HT : Hid (TnAt W1 x a3 a4 a5 a6) := h.grown g1
  have HX : Hid (Box7 W1 w.heap.size x.I x.O x.S a3 x.F.length c3 a4 x.N.length c4 a5 x.Y.length c5 a6 x.E.length c6) := bx
  have HS : Hid (∀ z W, Calls Try.prog 30 #[tnV x.I x.O x.S a3 x.F.length c3 a4 x.N.length c4 a5 x.Y.length c5 a6 x.E.length c6, .int .i64 z] W (TellsB (StT x.N.length z) W)) := fun z W => isState_any _ _ _ _ _ _ _ _ _ _ _ _ _ _ _ _ _
  have x4 := bx.b4
  rw [hW1] at x4
  have m4 := h.m4
  unfold maxLen at m4
  clear hW1 g1 s1 bx h
  go_enter Try.func23, Try.ntmps23
  go_wp2_with fail
  rw [← HW1.out]
  go_loopw [10] (fun v W => ∃ k : Nat, k ≤ x.N.length ∧ v = .int .i64 k ∧ W1.grownBy W none ∧ ∀ s, s < k → ∀ l, l < (x.N.getD s []).length → StT x.N.length ((x.N.getD s []).getD l 0)) (fun v _ => x.N.length - (intOf v).toNat)
  case atStart => exact ⟨0, Nat.zero_le _, rfl, grown_refl _ _, fun j hj => by omega⟩
  case round =>
    obtain ⟨wo, hwo⟩ : ∃ W, W = wr := ⟨_, rfl⟩
    subst hwo
    obtain ⟨k, hk, rfl, hgw, hg⟩ := hrel
    have HJ : Hid (∀ s, s < k → ∀ l, l < (x.N.getD s []).length → StT x.N.length ((x.N.getD s []).getD l 0)) := hg
    have HGW : Hid (W1.grownBy wo none) := hgw
    clear hg hgw
    by_cases hlt : k < x.N.length
    · obtain ⟨b4, o4, ha4, hc4⟩ := (HT.out.next.grown HGW.out).at hlt
      obtain ⟨r4, k4, c4', hr4, hm4⟩ := hc4 k hlt
      have i4 : (k : Int) < (x.N.length : Int) := by omega
      obtain ⟨R, hR⟩ : ∃ R, x.N.getD k [] = R := ⟨_, rfl⟩
      rw [hR] at c4' hr4 hm4
      have HR : Hid (x.N.getD k [] = R) := hR
      have HI : Hid (Ints wo r4 R) := hr4
      have HA : Hid (a4 = _) := ha4
      unfold maxLen at hm4
      subst ha4
      clear hc4 hR hr4
      go_wp2_with fail
      go_loopw [16] (fun v W => ∃ l : Nat, l ≤ R.length ∧ v = .int .i64 l ∧ wo.grownBy W none ∧ ∀ j, j < l → StT x.N.length (R.getD j 0)) (fun v _ => R.length - (intOf v).toNat)
      case atStart => exact ⟨0, Nat.zero_le _, rfl, grown_refl _ _, fun j hj => by omega⟩
      case round =>
        obtain ⟨wi, hwi⟩ : ∃ W, W = wr := ⟨_, rfl⟩
        subst hwi
        obtain ⟨l, hl, rfl, hgi, hi⟩ := hrel
        have HL : Hid (∀ j, j < l → StT x.N.length (R.getD j 0)) := hi
        have HGI : Hid (wo.grownBy wi none) := hgi
        have z0 := (HX.out.grown (grown_trans HGW.out hgi)).b0
        have z1 := (HX.out.grown (grown_trans HGW.out hgi)).b1
        have z2 := (HX.out.grown (grown_trans HGW.out hgi)).b2
        have z3 := (HX.out.grown (grown_trans HGW.out hgi)).b3
        have z4 := (HX.out.grown (grown_trans HGW.out hgi)).b4
        have z5 := (HX.out.grown (grown_trans HGW.out hgi)).b5
        have z6 := (HX.out.grown (grown_trans HGW.out hgi)).b6
        clear hi hgi
        by_cases hll : l < R.length
        · obtain ⟨br, ob, rfl, hcr⟩ := (HI.out.grown HGI.out).at hll
          have hcl := hcr l hll
          have il : (l : Int) < (R.length : Int) := by omega
          obtain ⟨z, hz⟩ : ∃ z, R.getD l 0 = z := ⟨_, rfl⟩
          rw [hz] at hcl
          have HZ : Hid (R.getD l 0 = z) := hz
          clear hcr hz
          go_wp2_with fail
          refine (HS.out _ _).mono ?_
          rintro E w2 ⟨bb, rfl, hbb, hg2⟩
          have HB : Hid (bb = true ↔ StT x.N.length z) := hbb
          have HG2 : Hid (wi.grownBy w2 none) := hg2
          clear hbb hg2
          cases bb with
          | true =>
            have HN : Hid (∀ j, j < l + 1 → StT x.N.length (R.getD j 0)) := fun j hj => by
              by_cases hjl : j = l
              · subst hjl; rw [HZ.out]; exact HB.out.1 rfl
              · exact HL.out j (by omega)
            go_wp2_with fail
            go_roundw
            case rel => exact ⟨l + 1, by omega, by go_num, grown_trans HGI.out HG2.out, HN.out⟩
            case measure => simp [intOf]; omega
          | false =>
            have HN : Hid (¬ WithT x) := fun hh => by
              have h1 := hh.1 k hlt l (by rw [HR.out]; exact hll)
              rw [HR.out, HZ.out] at h1
              have := HB.out.2 h1
              cases this
            go_wp2_with fail
            go_ret
            exact tellsB false rfl ⟨(fun e => by cases e), fun e => absurd e HN.out⟩ (grown_trans G.out (grown_trans HGW.out (grown_trans HGI.out HG2.out)))
        · have il : ¬ (l : Int) < (R.length : Int) := by omega
          have HN : Hid (∀ s, s < k + 1 → ∀ l, l < (x.N.getD s []).length → StT x.N.length ((x.N.getD s []).getD l 0)) := fun s hs => by
            by_cases hsk : s = k
            · subst hsk; rw [HR.out]; intro j hj; exact HL.out j (by omega)
            · exact HJ.out s (by omega)
          go_wp2_with fail
          go_roundw
          case rel => exact ⟨k + 1, by omega, by go_num, grown_trans HGW.out HGI.out, HN.out⟩
          case measure => simp [intOf]; omega
    · have i4 : ¬ (k : Int) < (x.N.length : Int) := by omega
      have HN : Hid (RowsT x.N.length x.N) := fun s hs => HJ.out s (by omega)
      have z0 := (HX.out.grown HGW.out).b0
      have z1 := (HX.out.grown HGW.out).b1
      have z2 := (HX.out.grown HGW.out).b2
      have z3 := (HX.out.grown HGW.out).b3
      have z4 := (HX.out.grown HGW.out).b4
      have z5 := (HX.out.grown HGW.out).b5
      have z6 := (HX.out.grown HGW.out).b6
      go_wp2_with fail
      refine (HS.out _ _).mono ?_
      rintro E w2 ⟨bb, rfl, hbb, hg2⟩
      have HB : Hid ((bb = true ↔ WithT x) ∧ w.grownBy w2 none) := ⟨⟨fun e => ⟨HN.out, hbb.1 e⟩, fun e => hbb.2 e.2⟩, grown_trans G.out (grown_trans HGW.out hg2)⟩
      clear hbb hg2
      go_wp2_with fail
      go_ret
      exact tellsB bb rfl HB.out.1 HB.out.2

end Go.Proofs.Ytdajdnilhjcniaa
