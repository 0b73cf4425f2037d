/- Three transducers in a row: the law's walk. -/
import Derived.Test.YtodcmlcpicabaaaTpOne
import Derived.Test.YtodcmlcpicabaaaTpSameT
namespace Go.Proofs.Ytodcmlcpicabaaa
open Go.RowKit
set_option linter.unusedVariables false
set_option linter.unusedSimpArgs false

theorem row_eq {x y v R2 R3 R4 R9 : TrI}
    (o2 : GoodT x ∧ GoodT y ∧ x.O = y.I ∧ GoodT R2 ∧ R2.I = x.I ∧ R2.O = y.O ∧ Canon R2 x.I.toNat ∧ ∀ us : List Nat, (∀ l, l ∈ us → l < x.I.toNat) → saysT R2 us = saysT y (tnsT (saysT x us)))
    (o3 : GoodT y ∧ GoodT v ∧ y.O = v.I ∧ GoodT R3 ∧ R3.I = y.I ∧ R3.O = v.O ∧ Canon R3 y.I.toNat ∧ ∀ us : List Nat, (∀ l, l ∈ us → l < y.I.toNat) → saysT R3 us = saysT v (tnsT (saysT y us)))
    (o4 : GoodT R2 ∧ GoodT v ∧ R2.O = v.I ∧ GoodT R4 ∧ R4.I = R2.I ∧ R4.O = v.O ∧ Canon R4 R2.I.toNat ∧ ∀ us : List Nat, (∀ l, l ∈ us → l < R2.I.toNat) → saysT R4 us = saysT v (tnsT (saysT R2 us)))
    (o9 : GoodT x ∧ GoodT R3 ∧ x.O = R3.I ∧ GoodT R9 ∧ R9.I = x.I ∧ R9.O = R3.O ∧ Canon R9 x.I.toNat ∧ ∀ us : List Nat, (∀ l, l ∈ us → l < x.I.toNat) → saysT R9 us = saysT R3 (tnsT (saysT x us))) : R4 = R9 := by
  obtain ⟨gx, gy, hO, _, hI2, hO2, _, h2⟩ := o2
  obtain ⟨_, _, _, _, _, hO3, _, h3⟩ := o3
  obtain ⟨_, _, _, _, _, hO4, c4, h4⟩ := o4
  obtain ⟨_, _, _, _, _, hO9, c9, h9⟩ := o9
  rw [hI2] at c4 h4
  refine canon_one c4 c9 (by rw [hO4, hO9, hO3]) fun us hu => ?_
  have hxI : x.I = ((x.I.toNat : Nat) : Int) := by have := gx.many.1; unfold ManyT at this; omega
  have hl : ∀ l, l ∈ tnsT (saysT x us) → l < y.I.toNat := fun l hl => by
    obtain ⟨j, hj, rfl⟩ := List.mem_map.1 hl
    have := (gx.letp hxI).says gx.read us hu j hj
    omega
  rw [h4 us hu, h2 us hu, h9 us hu, h3 _ hl]
theorem row_law {x y R6 R7 : TrI} {b : Bool}
    (o5 : GoodT x ∧ GoodT y ∧ x.I = y.I ∧ x.O = y.O ∧ (b = true ↔ ∃ us : List Nat, (∀ l, l ∈ us → l < x.I.toNat) ∧ saysT x us ≠ saysT y us))
    (o6 : GoodT x ∧ GoodT R6 ∧ R6.I = x.I ∧ R6.O = x.O ∧ LeastIs x x.I.toNat R6) (o7 : GoodT y ∧ GoodT R7 ∧ R7.I = y.I ∧ R7.O = y.O ∧ LeastIs y y.I.toNat R7) : R6 = R7 ↔ ¬ (b = true) := by
  obtain ⟨gx, gy, hI, hO, hb⟩ := o5
  obtain ⟨_, _, _, _, l6⟩ := o6
  obtain ⟨_, _, _, _, l7⟩ := o7
  have rx := gx.read
  have ry := gy.read
  rw [← hI] at l7 ry
  rw [hb]
  constructor
  · rintro rfl ⟨us, hu, hne⟩
    exact hne (((least_k rx l6).1.says us hu).symm.trans ((least_k ry l7).1.says us hu))
  · intro h
    exact can_two rx ry hO (fun us hu => Decidable.byContradiction fun hne => h ⟨us, hu, hne⟩) l6 l7

set_option maxHeartbeats 6400000 in
set_option maxRecDepth 100000 in
theorem trow_walk (x y v : TrI) (a3 a4 a5 a6 : Option Addr) (c3 c4 c5 c6 : Nat) (e3 e4 e5 e6 : Option Addr) (d3 d4 d5 d6 : Nat) (f3 f4 f5 f6 : Option Addr) (g3 g4 g5 g6 : Nat) (w : World) (hx : TnAt w x a3 a4 a5 a6) (hy : TnAt w y e3 e4 e5 e6) (hv : TnAt w v f3 f4 f5 f6) (hcx : x.F.length ≤ c3) (hcy : y.F.length ≤ d3) (hkx : CapsAt w a6 x.E) (hky : CapsAt w e6 y.E) :
    Calls Try.prog 4 #[tnV x.I x.O x.S a3 x.F.length c3 a4 x.N.length c4 a5 x.Y.length c5 a6 x.E.length c6, tnV y.I y.O y.S e3 y.F.length d3 e4 y.N.length d4 e5 y.Y.length d5 e6 y.E.length d6, tnV v.I v.O v.S f3 v.F.length g3 f4 v.N.length g4 f5 v.Y.length g5 f6 v.E.length g6] w (Says (.bool true) w) := by
  obtain ⟨W0, hW0, g0, s0, bx, bz⟩ := two_boxes7 w x y a3 a4 a5 a6 c3 c4 c5 c6 e3 e4 e5 e6 d3 d4 d5 d6
  obtain ⟨W1, hW1, g1, s1, bv⟩ := box7_new W0 v.I v.O v.S f3 v.F.length g3 f4 v.N.length g4 f5 v.Y.length g5 f6 v.E.length g6
  have s01 : W1.heap.size = w.heap.size + 1 + 1 + 1 := by omega
  rw [s0] at bv
  obtain ⟨A1, hA1⟩ : ∃ W, W = W1.alloc (.cells #[.int .i64 0] 3) := ⟨_, rfl⟩
  have gA1 : W1.grownBy A1 none := by rw [hA1]; exact grown_alloc _ _
  have sA1 : A1.heap.size = w.heap.size + 1 + 1 + 1 + 1 := by rw [hA1, World.size_alloc, s01]
  obtain ⟨A2, hA2⟩ : ∃ W, W = A1.alloc (.cells #[.slice (some ⟨w.heap.size + 1 + 1 + 1, 0, none⟩) 1 1] 22) := ⟨_, rfl⟩
  have gA2 : A1.grownBy A2 none := by rw [hA2]; exact grown_alloc _ _
  have sA2 : A2.heap.size = w.heap.size + 1 + 1 + 1 + 1 + 1 := by rw [hA2, World.size_alloc, sA1]
  obtain ⟨A3, hA3⟩ : ∃ W, W = A2.alloc (.cells #[.int .i64 0] 3) := ⟨_, rfl⟩
  have gA3 : A2.grownBy A3 none := by rw [hA3]; exact grown_alloc _ _
  have sA3 : A3.heap.size = w.heap.size + 1 + 1 + 1 + 1 + 1 + 1 := by rw [hA3, World.size_alloc, sA2]
  obtain ⟨A4, hA4⟩ : ∃ W, W = A3.alloc (.cells #[.slice (some ⟨w.heap.size + 1 + 1 + 1 + 1 + 1, 0, none⟩) 1 1] 22) := ⟨_, rfl⟩
  have gA4 : A3.grownBy A4 none := by rw [hA4]; exact grown_alloc _ _
  have sA4 : A4.heap.size = w.heap.size + 1 + 1 + 1 + 1 + 1 + 1 + 1 := by rw [hA4, World.size_alloc, sA3]
  obtain ⟨A5, hA5⟩ : ∃ W, W = A4.alloc (.cells #[.slice (some ⟨w.heap.size + 1 + 1 + 1 + 1 + 1 + 1, 0, none⟩) 1 1] 23) := ⟨_, rfl⟩
  have gA5 : A4.grownBy A5 none := by rw [hA5]; exact grown_alloc _ _
  have sA5 : A5.heap.size = w.heap.size + 1 + 1 + 1 + 1 + 1 + 1 + 1 + 1 := by rw [hA5, World.size_alloc, sA4]
  obtain ⟨A6, hA6⟩ : ∃ W, W = A5.alloc (.cells #[.int .i64 0] 3) := ⟨_, rfl⟩
  have gA6 : A5.grownBy A6 none := by rw [hA6]; exact grown_alloc _ _
  have sA6 : A6.heap.size = w.heap.size + 1 + 1 + 1 + 1 + 1 + 1 + 1 + 1 + 1 := by rw [hA6, World.size_alloc, sA5]
  obtain ⟨A7, hA7⟩ : ∃ W, W = A6.alloc (.cells #[.slice (some ⟨w.heap.size + 1 + 1 + 1 + 1 + 1 + 1 + 1 + 1, 0, none⟩) 1 1] 22) := ⟨_, rfl⟩
  have gA7 : A6.grownBy A7 none := by rw [hA7]; exact grown_alloc _ _
  have sA7 : A7.heap.size = w.heap.size + 1 + 1 + 1 + 1 + 1 + 1 + 1 + 1 + 1 + 1 := by rw [hA7, World.size_alloc, sA6]
  have i1 : Ints A1 (some ⟨w.heap.size + 1 + 1 + 1, 0, none⟩) [0] := by have h := lit_int W1 0; rw [s01] at h; rw [hA1]; exact h
  have r2 : RowsAt A2 (some ⟨w.heap.size + 1 + 1 + 1 + 1, 0, none⟩) [[0]] := by have h := lit_row i1 1 1 rfl (by unfold maxLen; omega); rw [sA1] at h; rw [hA2]; exact h
  have i3 : Ints A3 (some ⟨w.heap.size + 1 + 1 + 1 + 1 + 1, 0, none⟩) [0] := by have h := lit_int A2 0; rw [sA2] at h; rw [hA3]; exact h
  have r4 : RowsAt A4 (some ⟨w.heap.size + 1 + 1 + 1 + 1 + 1 + 1, 0, none⟩) [[0]] := by have h := lit_row i3 1 1 rfl (by unfold maxLen; omega); rw [sA3] at h; rw [hA4]; exact h
  have t5 : TabAt A5 (some ⟨w.heap.size + 1 + 1 + 1 + 1 + 1 + 1 + 1, 0, none⟩) [[[0]]] := by have h := lit_tab r4 1 1 rfl (by unfold maxLen; omega); rw [sA4] at h; rw [hA5]; exact h
  have i6 : Ints A6 (some ⟨w.heap.size + 1 + 1 + 1 + 1 + 1 + 1 + 1 + 1, 0, none⟩) [0] := by have h := lit_int A5 0; rw [sA5] at h; rw [hA6]; exact h
  have r7 : RowsAt A7 (some ⟨w.heap.size + 1 + 1 + 1 + 1 + 1 + 1 + 1 + 1 + 1, 0, none⟩) [[0]] := by have h := lit_row i6 1 1 rfl (by unfold maxLen; omega); rw [sA6] at h; rw [hA7]; exact h
  have k7 : CapsAt A7 (some ⟨w.heap.size + 1 + 1 + 1 + 1 + 1 + 1 + 1 + 1 + 1, 0, none⟩) [[0]] := by have h := lit_caps (W := A6) (a := (some ⟨w.heap.size + 1 + 1 + 1 + 1 + 1 + 1 + 1 + 1, 0, none⟩)) (u := [0]) 1 1 rfl (by omega); rw [sA6] at h; rw [hA7]; exact h
  obtain ⟨A8, hA8, gA8, sA8, bo⟩ := box7_new A7 1 1 0 none 0 0 (some ⟨w.heap.size + 1 + 1 + 1 + 1, 0, none⟩) 1 1 (some ⟨w.heap.size + 1 + 1 + 1 + 1 + 1 + 1 + 1, 0, none⟩) 1 1 (some ⟨w.heap.size + 1 + 1 + 1 + 1 + 1 + 1 + 1 + 1 + 1, 0, none⟩) 1 1
  rw [sA7] at bo
  have g28 : A2.grownBy A8 none := grown_trans gA3 (grown_trans gA4 (grown_trans gA5 (grown_trans gA6 (grown_trans gA7 gA8))))
  have g58 : A5.grownBy A8 none := grown_trans gA6 (grown_trans gA7 gA8)
  have gW1 : W1.grownBy A8 none := grown_trans gA1 (grown_trans gA2 g28)
  have HA8 : Hid (A8 = ((((((((((w.alloc (tnO x.I x.O x.S a3 x.F.length c3 a4 x.N.length c4 a5 x.Y.length c5 a6 x.E.length c6)).alloc (tnO y.I y.O y.S e3 y.F.length d3 e4 y.N.length d4 e5 y.Y.length d5 e6 y.E.length d6)).alloc (tnO v.I v.O v.S f3 v.F.length g3 f4 v.N.length g4 f5 v.Y.length g5 f6 v.E.length g6)).alloc (.cells #[.int .i64 0] 3)).alloc (.cells #[.slice (some ⟨w.heap.size + 1 + 1 + 1, 0, none⟩) 1 1] 22)).alloc (.cells #[.int .i64 0] 3)).alloc (.cells #[.slice (some ⟨w.heap.size + 1 + 1 + 1 + 1 + 1, 0, none⟩) 1 1] 22)).alloc (.cells #[.slice (some ⟨w.heap.size + 1 + 1 + 1 + 1 + 1 + 1, 0, none⟩) 1 1] 23)).alloc (.cells #[.int .i64 0] 3)).alloc (.cells #[.slice (some ⟨w.heap.size + 1 + 1 + 1 + 1 + 1 + 1 + 1 + 1, 0, none⟩) 1 1] 22)).alloc (tnO 1 1 0 none 0 0 (some ⟨w.heap.size + 1 + 1 + 1 + 1, 0, none⟩) 1 1 (some ⟨w.heap.size + 1 + 1 + 1 + 1 + 1 + 1 + 1, 0, none⟩) 1 1 (some ⟨w.heap.size + 1 + 1 + 1 + 1 + 1 + 1 + 1 + 1 + 1, 0, none⟩) 1 1)) := by show _ = _; rw [hA8, hA7, hA6, hA5, hA4, hA3, hA2, hA1, hW1, hW0]
  have hT1 : TnAt A8 (oneT [0]) none (some ⟨w.heap.size + 1 + 1 + 1 + 1, 0, none⟩) (some ⟨w.heap.size + 1 + 1 + 1 + 1 + 1 + 1 + 1, 0, none⟩) (some ⟨w.heap.size + 1 + 1 + 1 + 1 + 1 + 1 + 1 + 1 + 1, 0, none⟩) := ⟨.inl rfl, r2.grown g28, t5.grown g58, r7.grown gA8, by show (0 : Nat) ≤ maxLen; unfold maxLen; omega, by show (1 : Nat) ≤ maxLen; unfold maxLen; omega, by show (1 : Nat) ≤ maxLen; unfold maxLen; omega, by show (1 : Nat) ≤ maxLen; unfold maxLen; omega⟩
  have HL1 : Hid (Calls Try.prog 15 #[tnV 1 1 0 none 0 0 (some ⟨w.heap.size + 1 + 1 + 1 + 1, 0, none⟩) 1 1 (some ⟨w.heap.size + 1 + 1 + 1 + 1 + 1 + 1 + 1, 0, none⟩) 1 1 (some ⟨w.heap.size + 1 + 1 + 1 + 1 + 1 + 1 + 1 + 1 + 1, 0, none⟩) 1 1] A8 (LstA (oneT [0]) A8)) := leastA_any (oneT [0]) none (some ⟨w.heap.size + 1 + 1 + 1 + 1, 0, none⟩) (some ⟨w.heap.size + 1 + 1 + 1 + 1 + 1 + 1 + 1, 0, none⟩) (some ⟨w.heap.size + 1 + 1 + 1 + 1 + 1 + 1 + 1 + 1 + 1, 0, none⟩) 0 1 1 1 A8 hT1 (k7.grown gA8)
  have gw8 : w.grownBy A8 none := grown_trans g0 (grown_trans g1 gW1)
  have GA : Hid (w.grownBy A8 none) := gw8
  have GA8 : Hid (A8.grownBy A8 none) := grown_refl _ _
  have BX : Hid (∀ W, A8.grownBy W none → Box7 W w.heap.size x.I x.O x.S a3 x.F.length c3 a4 x.N.length c4 a5 x.Y.length c5 a6 x.E.length c6) := fun W hW => bx.grown (grown_trans g1 (grown_trans gW1 hW))
  have BY : Hid (∀ W, A8.grownBy W none → Box7 W (w.heap.size + 1) y.I y.O y.S e3 y.F.length d3 e4 y.N.length d4 e5 y.Y.length d5 e6 y.E.length d6) := fun W hW => bz.grown (grown_trans g1 (grown_trans gW1 hW))
  have BV : Hid (∀ W, A8.grownBy W none → Box7 W (w.heap.size + 1 + 1) v.I v.O v.S f3 v.F.length g3 f4 v.N.length g4 f5 v.Y.length g5 f6 v.E.length g6) := fun W hW => bv.grown (grown_trans gW1 hW)
  have HBxy : Hid (∀ W, A8.grownBy W none → Calls Try.prog 6 #[tnV x.I x.O x.S a3 x.F.length c3 a4 x.N.length c4 a5 x.Y.length c5 a6 x.E.length c6, tnV y.I y.O y.S e3 y.F.length d3 e4 y.N.length d4 e5 y.Y.length d5 e6 y.E.length d6] W (BehA x y W)) := fun W hW => behA_any x y a3 a4 a5 a6 c3 c4 c5 c6 e3 e4 e5 e6 d3 d4 d5 d6 W (hx.grown (grown_trans gw8 hW)) (hy.grown (grown_trans gw8 hW))
  have HByv : Hid (∀ W, A8.grownBy W none → Calls Try.prog 6 #[tnV y.I y.O y.S e3 y.F.length d3 e4 y.N.length d4 e5 y.Y.length d5 e6 y.E.length d6, tnV v.I v.O v.S f3 v.F.length g3 f4 v.N.length g4 f5 v.Y.length g5 f6 v.E.length g6] W (BehA y v W)) := fun W hW => behA_any y v e3 e4 e5 e6 d3 d4 d5 d6 f3 f4 f5 f6 g3 g4 g5 g6 W (hy.grown (grown_trans gw8 hW)) (hv.grown (grown_trans gw8 hW))
  have HTV : Hid (∀ W, A8.grownBy W none → TnAt W v f3 f4 f5 f6) := fun W hW => hv.grown (grown_trans gw8 hW)
  have HTX : Hid (∀ W, A8.grownBy W none → TnAt W x a3 a4 a5 a6) := fun W hW => hx.grown (grown_trans gw8 hW)
  have HDif : Hid (∀ W, A8.grownBy W none → Calls Try.prog 17 #[tnV x.I x.O x.S a3 x.F.length c3 a4 x.N.length c4 a5 x.Y.length c5 a6 x.E.length c6, tnV y.I y.O y.S e3 y.F.length d3 e4 y.N.length d4 e5 y.Y.length d5 e6 y.E.length d6] W (DifA x y W)) := fun W hW => difA_any x y a3 a4 a5 a6 c3 c4 c5 c6 e3 e4 e5 e6 d3 d4 d5 d6 W (hx.grown (grown_trans gw8 hW)) (hy.grown (grown_trans gw8 hW)) hcx hcy
  have HLX : Hid (∀ W, A8.grownBy W none → Calls Try.prog 15 #[tnV x.I x.O x.S a3 x.F.length c3 a4 x.N.length c4 a5 x.Y.length c5 a6 x.E.length c6] W (LstA x W)) := fun W hW => leastA_any x a3 a4 a5 a6 c3 c4 c5 c6 W (hx.grown (grown_trans gw8 hW)) (hkx.grown (grown_trans gw8 hW))
  have HLY : Hid (∀ W, A8.grownBy W none → Calls Try.prog 15 #[tnV y.I y.O y.S e3 y.F.length d3 e4 y.N.length d4 e5 y.Y.length d5 e6 y.E.length d6] W (LstA y W)) := fun W hW => leastA_any y e3 e4 e5 e6 d3 d4 d5 d6 W (hy.grown (grown_trans gw8 hW)) (hky.grown (grown_trans gw8 hW))
  have o0 := (bo).b0
  have o1 := (bo).b1
  have o2 := (bo).b2
  have o3 := (bo).b3
  have o4 := (bo).b4
  have o5 := (bo).b5
  have o6 := (bo).b6
  rw [hA8, hA7, hA6, hA5, hA4, hA3, hA2, hA1, hW1, hW0] at o0 o1 o2 o3 o4 o5 o6
  clear hA1 hA2 hA3 hA4 hA5 hA6 hA7 hA8 gA1 gA2 gA3 gA4 gA5 gA6 gA7 gA8 sA1 sA2 sA3 sA4 sA5 sA6 sA7 sA8 i1 r2 i3 r4 t5 i6 r7 k7 bo g28 g58 gW1 hT1 gw8 hW0 hW1 g0 g1 s0 s1 s01 bx bz bv hx hy hv hcx hcy hkx hky
  go_enter Try.func4, Try.ntmps4
  go_wp2_with fail
  rw [← HA8.out]
  clear o0 o1 o2 o3 o4 o5 o6
  refine HL1.out.mono ?_
  rintro E w1 ⟨z1, R1, p1_3, p1_4, p1_5, p1_6, m1_3, m1_4, m1_5, m1_6, rfl, hg1, ht1, hc1, ho1, hb1⟩
  have Gw1 : Hid (A8.grownBy w1 none) := grown_trans GA8.out hg1
  have HO1 : Hid _ := ho1
  have HBd1 : Hid _ := hb1
  have HC1 : Hid (R1.F.length ≤ m1_3) := hc1
  have hz1 : z1 = 0 := by
    rcases Decidable.em (z1 = 0) with h | h
    · exact h
    · obtain ⟨L, h1, h2⟩ := hb1 (one_good (.inl rfl)) h
      have h3 := one_least (.inl rfl) h1
      subst h3
      exact absurd (oneL_little (.inl rfl)) h2
  subst hz1
  have hR1 : R1 = oneL [0] := one_least (.inl rfl) (ho1 rfl).2.2.2.2
  subst hR1
  obtain ⟨W1b, hW1b, gW1b, sW1b, bW1b⟩ := box7_new w1 (oneL [0]).I (oneL [0]).O (oneL [0]).S p1_3 (oneL [0]).F.length m1_3 p1_4 (oneL [0]).N.length m1_4 p1_5 (oneL [0]).Y.length m1_5 p1_6 (oneL [0]).E.length m1_6
  have l3 : (oneL [0]).F.length = 1 := rfl
  have l4 : (oneL [0]).N.length = 1 := rfl
  have l5 : (oneL [0]).Y.length = 1 := rfl
  have l6 : (oneL [0]).E.length = 1 := rfl
  rw [l3, l4, l5, l6] at hW1b ⊢
  have HW1b : Hid (W1b = _) := hW1b
  have GW1b : Hid (A8.grownBy W1b none) := grown_trans Gw1.out gW1b
  obtain ⟨bE, oE, hE, hcE⟩ := ht1.last.at (k := 0) (by show 0 < 1; omega)
  obtain ⟨rE, kE, cE, _, _⟩ := hcE 0 (by show 0 < 1; omega)
  have cE1 := gW1b.cell cE (by simp)
  have cE2 : W1b.cell? ⟨bE, oE, none⟩ = some (.slice rE 0 kE) := cE1
  have j3 : W1b.cell? ⟨w1.heap.size, 3, none⟩ = some (.slice p1_3 1 m1_3) := bW1b.b3
  have j6 : W1b.cell? ⟨w1.heap.size, 6, none⟩ = some (.slice p1_6 1 m1_6) := bW1b.b6
  rw [hE] at j6
  have x0 := (BX.out W1b GW1b.out).b0
  have x1 := (BX.out W1b GW1b.out).b1
  have x2 := (BX.out W1b GW1b.out).b2
  have x3 := (BX.out W1b GW1b.out).b3
  have x4 := (BX.out W1b GW1b.out).b4
  have x5 := (BX.out W1b GW1b.out).b5
  have x6 := (BX.out W1b GW1b.out).b6
  have y0 := (BY.out W1b GW1b.out).b0
  have y1 := (BY.out W1b GW1b.out).b1
  have y2 := (BY.out W1b GW1b.out).b2
  have y3 := (BY.out W1b GW1b.out).b3
  have y4 := (BY.out W1b GW1b.out).b4
  have y5 := (BY.out W1b GW1b.out).b5
  have y6 := (BY.out W1b GW1b.out).b6
  rw [hW1b] at x0 x1 x2 x3 x4 x5 x6 y0 y1 y2 y3 y4 y5 y6 j3 j6 cE2
  have z01 : (0 : Nat) < 1 := by omega
  clear l3 l4 l5 l6 hg1 ht1 hc1 ho1 hb1 hW1b gW1b sW1b bW1b hcE cE cE1 hE HO1 HBd1 HC1 HL1
  go_wp2_with fail
  rw [← HW1b.out]
  clear x0 x1 x2 x3 x4 x5 x6 y0 y1 y2 y3 y4 y5 y6 j3 j6 cE2
  refine (HBxy.out W1b GW1b.out).mono ?_
  rintro E w2 ⟨z2, R2, p2_3, p2_4, p2_5, p2_6, m2_3, m2_4, m2_5, m2_6, rfl, hg2, ht2, hc2, ho2, hb2⟩
  have Gw2 : Hid (A8.grownBy w2 none) := grown_trans GW1b.out hg2
  have HO2 : Hid _ := ho2
  have HBd2 : Hid _ := hb2
  have HC2 : Hid (R2.F.length ≤ m2_3) := hc2
  obtain ⟨W2, hW2, gW2, sW2, bW2⟩ := box7_new w2 R2.I R2.O R2.S p2_3 R2.F.length m2_3 p2_4 R2.N.length m2_4 p2_5 R2.Y.length m2_5 p2_6 R2.E.length m2_6
  have HW2 : Hid (W2 = _) := hW2
  have BR2 : Hid (∀ W, W2.grownBy W none → Box7 W w2.heap.size R2.I R2.O R2.S p2_3 R2.F.length m2_3 p2_4 R2.N.length m2_4 p2_5 R2.Y.length m2_5 p2_6 R2.E.length m2_6) := fun W hW => bW2.grown hW
  have TR2 : Hid (∀ W, W2.grownBy W none → TnAt W R2 p2_3 p2_4 p2_5 p2_6) := fun W hW => ht2.grown (grown_trans gW2 hW)
  have GW2 : Hid (A8.grownBy W2 none) := grown_trans Gw2.out gW2
  have y0 := (BY.out W2 GW2.out).b0
  have y1 := (BY.out W2 GW2.out).b1
  have y2 := (BY.out W2 GW2.out).b2
  have y3 := (BY.out W2 GW2.out).b3
  have y4 := (BY.out W2 GW2.out).b4
  have y5 := (BY.out W2 GW2.out).b5
  have y6 := (BY.out W2 GW2.out).b6
  have v0 := (BV.out W2 GW2.out).b0
  have v1 := (BV.out W2 GW2.out).b1
  have v2 := (BV.out W2 GW2.out).b2
  have v3 := (BV.out W2 GW2.out).b3
  have v4 := (BV.out W2 GW2.out).b4
  have v5 := (BV.out W2 GW2.out).b5
  have v6 := (BV.out W2 GW2.out).b6
  rw [hW2] at y0 y1 y2 y3 y4 y5 y6 v0 v1 v2 v3 v4 v5 v6
  clear hg2 ht2 hc2 ho2 hb2 hW2 gW2 sW2 bW2
  go_wp2_with fail
  rw [← HW2.out]
  clear y0 y1 y2 y3 y4 y5 y6 v0 v1 v2 v3 v4 v5 v6
  refine (HByv.out W2 GW2.out).mono ?_
  rintro E w3 ⟨z3, R3, p3_3, p3_4, p3_5, p3_6, m3_3, m3_4, m3_5, m3_6, rfl, hg3, ht3, hc3, ho3, hb3⟩
  have Gw3 : Hid (A8.grownBy w3 none) := grown_trans GW2.out hg3
  have HO3 : Hid _ := ho3
  have HBd3 : Hid _ := hb3
  have HC3 : Hid (R3.F.length ≤ m3_3) := hc3
  obtain ⟨W3, hW3, gW3, sW3, bW3⟩ := box7_new w3 R3.I R3.O R3.S p3_3 R3.F.length m3_3 p3_4 R3.N.length m3_4 p3_5 R3.Y.length m3_5 p3_6 R3.E.length m3_6
  have HW3 : Hid (W3 = _) := hW3
  have BR3 : Hid (∀ W, W3.grownBy W none → Box7 W w3.heap.size R3.I R3.O R3.S p3_3 R3.F.length m3_3 p3_4 R3.N.length m3_4 p3_5 R3.Y.length m3_5 p3_6 R3.E.length m3_6) := fun W hW => bW3.grown hW
  have TR3 : Hid (∀ W, W3.grownBy W none → TnAt W R3 p3_3 p3_4 p3_5 p3_6) := fun W hW => ht3.grown (grown_trans gW3 hW)
  have GW3 : Hid (A8.grownBy W3 none) := grown_trans Gw3.out gW3
  have G23 : Hid (W2.grownBy W3 none) := grown_trans hg3 gW3
  clear hg3 ht3 hc3 ho3 hb3 gW3 sW3 bW3
  by_cases q2 : z2 = 0
  case neg =>
    have u2 : (z2 == 0) = false := by simpa using q2
    clear q2
    have x0 := (BX.out W3 GW3.out).b0
    have x1 := (BX.out W3 GW3.out).b1
    have x2 := (BX.out W3 GW3.out).b2
    have x3 := (BX.out W3 GW3.out).b3
    have x4 := (BX.out W3 GW3.out).b4
    have x5 := (BX.out W3 GW3.out).b5
    have x6 := (BX.out W3 GW3.out).b6
    have y0 := (BY.out W3 GW3.out).b0
    have y1 := (BY.out W3 GW3.out).b1
    have y2 := (BY.out W3 GW3.out).b2
    have y3 := (BY.out W3 GW3.out).b3
    have y4 := (BY.out W3 GW3.out).b4
    have y5 := (BY.out W3 GW3.out).b5
    have y6 := (BY.out W3 GW3.out).b6
    rw [hW3] at x0 x1 x2 x3 x4 x5 x6 y0 y1 y2 y3 y4 y5 y6
    clear hW3
    go_wp2_with fail
    rw [← HW3.out]
    clear x0 x1 x2 x3 x4 x5 x6 y0 y1 y2 y3 y4 y5 y6
    refine (HDif.out W3 GW3.out).mono ?_
    rintro E wd ⟨z5, b5, a5', n5', c5', rfl, hgd, ho5, hb5⟩
    have Gwd : Hid (A8.grownBy wd none) := grown_trans GW3.out hgd
    have HO5 : Hid _ := ho5
    clear hgd ho5 hb5
    have x0 := (BX.out wd Gwd.out).b0
    have x1 := (BX.out wd Gwd.out).b1
    have x2 := (BX.out wd Gwd.out).b2
    have x3 := (BX.out wd Gwd.out).b3
    have x4 := (BX.out wd Gwd.out).b4
    have x5 := (BX.out wd Gwd.out).b5
    have x6 := (BX.out wd Gwd.out).b6
    go_wp2_with fail
    clear x0 x1 x2 x3 x4 x5 x6
    refine (HLX.out wd Gwd.out).mono ?_
    rintro E w6 ⟨z6, R6, p6_3, p6_4, p6_5, p6_6, m6_3, m6_4, m6_5, m6_6, rfl, hg6, ht6, hc6, ho6, hb6⟩
    have Gw6 : Hid (A8.grownBy w6 none) := grown_trans Gwd.out hg6
    have HO6 : Hid _ := ho6
    have HBd6 : Hid _ := hb6
    have HC6 : Hid (R6.F.length ≤ m6_3) := hc6
    obtain ⟨W6, hW6, gW6, sW6, bW6⟩ := box7_new w6 R6.I R6.O R6.S p6_3 R6.F.length m6_3 p6_4 R6.N.length m6_4 p6_5 R6.Y.length m6_5 p6_6 R6.E.length m6_6
    have HW6 : Hid (W6 = _) := hW6
    have BR6 : Hid (∀ W, W6.grownBy W none → Box7 W w6.heap.size R6.I R6.O R6.S p6_3 R6.F.length m6_3 p6_4 R6.N.length m6_4 p6_5 R6.Y.length m6_5 p6_6 R6.E.length m6_6) := fun W hW => bW6.grown hW
    have TR6 : Hid (∀ W, W6.grownBy W none → TnAt W R6 p6_3 p6_4 p6_5 p6_6) := fun W hW => ht6.grown (grown_trans gW6 hW)
    have GW6 : Hid (A8.grownBy W6 none) := grown_trans Gw6.out gW6
    have y0 := (BY.out W6 GW6.out).b0
    have y1 := (BY.out W6 GW6.out).b1
    have y2 := (BY.out W6 GW6.out).b2
    have y3 := (BY.out W6 GW6.out).b3
    have y4 := (BY.out W6 GW6.out).b4
    have y5 := (BY.out W6 GW6.out).b5
    have y6 := (BY.out W6 GW6.out).b6
    rw [hW6] at y0 y1 y2 y3 y4 y5 y6
    clear hg6 ht6 hc6 ho6 hb6 hW6 gW6 sW6 bW6
    go_wp2_with fail
    rw [← HW6.out]
    clear y0 y1 y2 y3 y4 y5 y6
    refine (HLY.out W6 GW6.out).mono ?_
    rintro E w7 ⟨z7, R7, p7_3, p7_4, p7_5, p7_6, m7_3, m7_4, m7_5, m7_6, rfl, hg7, ht7, hc7, ho7, hb7⟩
    have Gw7 : Hid (A8.grownBy w7 none) := grown_trans GW6.out hg7
    have HO7 : Hid _ := ho7
    have HBd7 : Hid _ := hb7
    have HC7 : Hid (R7.F.length ≤ m7_3) := hc7
    obtain ⟨W7, hW7, gW7, sW7, bW7⟩ := box7_new w7 R7.I R7.O R7.S p7_3 R7.F.length m7_3 p7_4 R7.N.length m7_4 p7_5 R7.Y.length m7_5 p7_6 R7.E.length m7_6
    have HW7 : Hid (W7 = _) := hW7
    have BR7 : Hid (∀ W, W7.grownBy W none → Box7 W w7.heap.size R7.I R7.O R7.S p7_3 R7.F.length m7_3 p7_4 R7.N.length m7_4 p7_5 R7.Y.length m7_5 p7_6 R7.E.length m7_6) := fun W hW => bW7.grown hW
    have TR7 : Hid (∀ W, W7.grownBy W none → TnAt W R7 p7_3 p7_4 p7_5 p7_6) := fun W hW => ht7.grown (grown_trans gW7 hW)
    have GW7 : Hid (A8.grownBy W7 none) := grown_trans Gw7.out gW7
    have G67 : Hid (W6.grownBy W7 none) := grown_trans hg7 gW7
    clear hg7 ht7 hc7 ho7 hb7 gW7 sW7
    by_cases q5 : z5 = 0
    case neg =>
      have u5 : (z5 != 0) = true := by simpa using q5
      have GF : Hid (w.grownBy W7 none) := grown_trans GA.out GW7.out
      clear q5 hW7 bW7
      go_wp2_with fail
      rw [← HW7.out]
      go_ret
      exact ⟨rfl, GF.out⟩
    by_cases q6 : z6 = 0
    case neg =>
      have u5 : (z5 != 0) = false := by simpa using q5
      have u6 : (z6 != 0) = true := by simpa using q6
      have GF : Hid (w.grownBy W7 none) := grown_trans GA.out GW7.out
      clear q5 q6 hW7 bW7
      go_wp2_with fail
      rw [← HW7.out]
      go_ret
      exact ⟨rfl, GF.out⟩
    by_cases q7 : z7 = 0
    case neg =>
      have u5 : (z5 != 0) = false := by simpa using q5
      have u6 : (z6 != 0) = false := by simpa using q6
      have u7 : (z7 != 0) = true := by simpa using q7
      have GF : Hid (w.grownBy W7 none) := grown_trans GA.out GW7.out
      clear q5 q6 q7 hW7 bW7
      go_wp2_with fail
      rw [← HW7.out]
      go_ret
      exact ⟨rfl, GF.out⟩
    have o5 := HO5.out q5
    have o6 := HO6.out q6
    have o7 := HO7.out q7
    have u5 : (z5 != 0) = false := by simpa using q5
    have u6 : (z6 != 0) = false := by simpa using q6
    have u7 : (z7 != 0) = false := by simpa using q7
    have HSm : Hid (Calls Try.prog 16 #[tnV R6.I R6.O R6.S p6_3 R6.F.length m6_3 p6_4 R6.N.length m6_4 p6_5 R6.Y.length m6_5 p6_6 R6.E.length m6_6, tnV R7.I R7.O R7.S p7_3 R7.F.length m7_3 p7_4 R7.N.length m7_4 p7_5 R7.Y.length m7_5 p7_6 R7.E.length m7_6] W7 (TellsB (R6 = R7) W7)) := sameT_any R6 R7 p6_3 p6_4 p6_5 p6_6 m6_3 m6_4 m6_5 m6_6 p7_3 p7_4 p7_5 p7_6 m7_3 m7_4 m7_5 m7_6 W7 (TR6.out W7 G67.out) (TR7.out W7 (grown_refl _ _)) o6.2.1 o7.2.1
    have HLaw : Hid (R6 = R7 ↔ ¬ (b5 = true)) := row_law o5 o6 o7
    have x0 := (BR6.out W7 G67.out).b0
    have x1 := (BR6.out W7 G67.out).b1
    have x2 := (BR6.out W7 G67.out).b2
    have x3 := (BR6.out W7 G67.out).b3
    have x4 := (BR6.out W7 G67.out).b4
    have x5 := (BR6.out W7 G67.out).b5
    have x6 := (BR6.out W7 G67.out).b6
    have y0 := (bW7).b0
    have y1 := (bW7).b1
    have y2 := (bW7).b2
    have y3 := (bW7).b3
    have y4 := (bW7).b4
    have y5 := (bW7).b5
    have y6 := (bW7).b6
    rw [hW7] at x0 x1 x2 x3 x4 x5 x6 y0 y1 y2 y3 y4 y5 y6
    clear q5 q6 q7 o5 o6 o7 hW7 bW7
    go_wp2_with fail
    rw [← HW7.out]
    clear x0 x1 x2 x3 x4 x5 x6 y0 y1 y2 y3 y4 y5 y6 u5 u6 u7
    refine HSm.out.mono ?_
    rintro E w8 ⟨b8, rfl, hb8, hg8⟩
    have GF : Hid (w.grownBy w8 none) := grown_trans GA.out (grown_trans GW7.out hg8)
    have h1 := hb8.trans HLaw.out
    clear hb8 hg8 HSm HLaw HO5
    cases b8 with
    | true =>
      cases b5 with
      | true => exact absurd rfl (h1.1 rfl)
      | false =>
        clear h1
        go_wp2_with fail
        go_ret
        exact ⟨rfl, GF.out⟩
    | false =>
      cases b5 with
      | true =>
        clear h1
        go_wp2_with fail
        go_ret
        exact ⟨rfl, GF.out⟩
      | false => have := h1.2 (by simp); cases this
  by_cases q3 : z3 = 0
  case neg =>
    have u2 : (z2 == 0) = true := by simpa using q2
    have u3 : (z3 == 0) = false := by simpa using q3
    clear q2 q3
    have x0 := (BX.out W3 GW3.out).b0
    have x1 := (BX.out W3 GW3.out).b1
    have x2 := (BX.out W3 GW3.out).b2
    have x3 := (BX.out W3 GW3.out).b3
    have x4 := (BX.out W3 GW3.out).b4
    have x5 := (BX.out W3 GW3.out).b5
    have x6 := (BX.out W3 GW3.out).b6
    have y0 := (BY.out W3 GW3.out).b0
    have y1 := (BY.out W3 GW3.out).b1
    have y2 := (BY.out W3 GW3.out).b2
    have y3 := (BY.out W3 GW3.out).b3
    have y4 := (BY.out W3 GW3.out).b4
    have y5 := (BY.out W3 GW3.out).b5
    have y6 := (BY.out W3 GW3.out).b6
    rw [hW3] at x0 x1 x2 x3 x4 x5 x6 y0 y1 y2 y3 y4 y5 y6
    clear hW3
    go_wp2_with fail
    rw [← HW3.out]
    clear x0 x1 x2 x3 x4 x5 x6 y0 y1 y2 y3 y4 y5 y6
    refine (HDif.out W3 GW3.out).mono ?_
    rintro E wd ⟨z5, b5, a5', n5', c5', rfl, hgd, ho5, hb5⟩
    have Gwd : Hid (A8.grownBy wd none) := grown_trans GW3.out hgd
    have HO5 : Hid _ := ho5
    clear hgd ho5 hb5
    have x0 := (BX.out wd Gwd.out).b0
    have x1 := (BX.out wd Gwd.out).b1
    have x2 := (BX.out wd Gwd.out).b2
    have x3 := (BX.out wd Gwd.out).b3
    have x4 := (BX.out wd Gwd.out).b4
    have x5 := (BX.out wd Gwd.out).b5
    have x6 := (BX.out wd Gwd.out).b6
    go_wp2_with fail
    clear x0 x1 x2 x3 x4 x5 x6
    refine (HLX.out wd Gwd.out).mono ?_
    rintro E w6 ⟨z6, R6, p6_3, p6_4, p6_5, p6_6, m6_3, m6_4, m6_5, m6_6, rfl, hg6, ht6, hc6, ho6, hb6⟩
    have Gw6 : Hid (A8.grownBy w6 none) := grown_trans Gwd.out hg6
    have HO6 : Hid _ := ho6
    have HBd6 : Hid _ := hb6
    have HC6 : Hid (R6.F.length ≤ m6_3) := hc6
    obtain ⟨W6, hW6, gW6, sW6, bW6⟩ := box7_new w6 R6.I R6.O R6.S p6_3 R6.F.length m6_3 p6_4 R6.N.length m6_4 p6_5 R6.Y.length m6_5 p6_6 R6.E.length m6_6
    have HW6 : Hid (W6 = _) := hW6
    have BR6 : Hid (∀ W, W6.grownBy W none → Box7 W w6.heap.size R6.I R6.O R6.S p6_3 R6.F.length m6_3 p6_4 R6.N.length m6_4 p6_5 R6.Y.length m6_5 p6_6 R6.E.length m6_6) := fun W hW => bW6.grown hW
    have TR6 : Hid (∀ W, W6.grownBy W none → TnAt W R6 p6_3 p6_4 p6_5 p6_6) := fun W hW => ht6.grown (grown_trans gW6 hW)
    have GW6 : Hid (A8.grownBy W6 none) := grown_trans Gw6.out gW6
    have y0 := (BY.out W6 GW6.out).b0
    have y1 := (BY.out W6 GW6.out).b1
    have y2 := (BY.out W6 GW6.out).b2
    have y3 := (BY.out W6 GW6.out).b3
    have y4 := (BY.out W6 GW6.out).b4
    have y5 := (BY.out W6 GW6.out).b5
    have y6 := (BY.out W6 GW6.out).b6
    rw [hW6] at y0 y1 y2 y3 y4 y5 y6
    clear hg6 ht6 hc6 ho6 hb6 hW6 gW6 sW6 bW6
    go_wp2_with fail
    rw [← HW6.out]
    clear y0 y1 y2 y3 y4 y5 y6
    refine (HLY.out W6 GW6.out).mono ?_
    rintro E w7 ⟨z7, R7, p7_3, p7_4, p7_5, p7_6, m7_3, m7_4, m7_5, m7_6, rfl, hg7, ht7, hc7, ho7, hb7⟩
    have Gw7 : Hid (A8.grownBy w7 none) := grown_trans GW6.out hg7
    have HO7 : Hid _ := ho7
    have HBd7 : Hid _ := hb7
    have HC7 : Hid (R7.F.length ≤ m7_3) := hc7
    obtain ⟨W7, hW7, gW7, sW7, bW7⟩ := box7_new w7 R7.I R7.O R7.S p7_3 R7.F.length m7_3 p7_4 R7.N.length m7_4 p7_5 R7.Y.length m7_5 p7_6 R7.E.length m7_6
    have HW7 : Hid (W7 = _) := hW7
    have BR7 : Hid (∀ W, W7.grownBy W none → Box7 W w7.heap.size R7.I R7.O R7.S p7_3 R7.F.length m7_3 p7_4 R7.N.length m7_4 p7_5 R7.Y.length m7_5 p7_6 R7.E.length m7_6) := fun W hW => bW7.grown hW
    have TR7 : Hid (∀ W, W7.grownBy W none → TnAt W R7 p7_3 p7_4 p7_5 p7_6) := fun W hW => ht7.grown (grown_trans gW7 hW)
    have GW7 : Hid (A8.grownBy W7 none) := grown_trans Gw7.out gW7
    have G67 : Hid (W6.grownBy W7 none) := grown_trans hg7 gW7
    clear hg7 ht7 hc7 ho7 hb7 gW7 sW7
    by_cases q5 : z5 = 0
    case neg =>
      have u5 : (z5 != 0) = true := by simpa using q5
      have GF : Hid (w.grownBy W7 none) := grown_trans GA.out GW7.out
      clear q5 hW7 bW7
      go_wp2_with fail
      rw [← HW7.out]
      go_ret
      exact ⟨rfl, GF.out⟩
    by_cases q6 : z6 = 0
    case neg =>
      have u5 : (z5 != 0) = false := by simpa using q5
      have u6 : (z6 != 0) = true := by simpa using q6
      have GF : Hid (w.grownBy W7 none) := grown_trans GA.out GW7.out
      clear q5 q6 hW7 bW7
      go_wp2_with fail
      rw [← HW7.out]
      go_ret
      exact ⟨rfl, GF.out⟩
    by_cases q7 : z7 = 0
    case neg =>
      have u5 : (z5 != 0) = false := by simpa using q5
      have u6 : (z6 != 0) = false := by simpa using q6
      have u7 : (z7 != 0) = true := by simpa using q7
      have GF : Hid (w.grownBy W7 none) := grown_trans GA.out GW7.out
      clear q5 q6 q7 hW7 bW7
      go_wp2_with fail
      rw [← HW7.out]
      go_ret
      exact ⟨rfl, GF.out⟩
    have o5 := HO5.out q5
    have o6 := HO6.out q6
    have o7 := HO7.out q7
    have u5 : (z5 != 0) = false := by simpa using q5
    have u6 : (z6 != 0) = false := by simpa using q6
    have u7 : (z7 != 0) = false := by simpa using q7
    have HSm : Hid (Calls Try.prog 16 #[tnV R6.I R6.O R6.S p6_3 R6.F.length m6_3 p6_4 R6.N.length m6_4 p6_5 R6.Y.length m6_5 p6_6 R6.E.length m6_6, tnV R7.I R7.O R7.S p7_3 R7.F.length m7_3 p7_4 R7.N.length m7_4 p7_5 R7.Y.length m7_5 p7_6 R7.E.length m7_6] W7 (TellsB (R6 = R7) W7)) := sameT_any R6 R7 p6_3 p6_4 p6_5 p6_6 m6_3 m6_4 m6_5 m6_6 p7_3 p7_4 p7_5 p7_6 m7_3 m7_4 m7_5 m7_6 W7 (TR6.out W7 G67.out) (TR7.out W7 (grown_refl _ _)) o6.2.1 o7.2.1
    have HLaw : Hid (R6 = R7 ↔ ¬ (b5 = true)) := row_law o5 o6 o7
    have x0 := (BR6.out W7 G67.out).b0
    have x1 := (BR6.out W7 G67.out).b1
    have x2 := (BR6.out W7 G67.out).b2
    have x3 := (BR6.out W7 G67.out).b3
    have x4 := (BR6.out W7 G67.out).b4
    have x5 := (BR6.out W7 G67.out).b5
    have x6 := (BR6.out W7 G67.out).b6
    have y0 := (bW7).b0
    have y1 := (bW7).b1
    have y2 := (bW7).b2
    have y3 := (bW7).b3
    have y4 := (bW7).b4
    have y5 := (bW7).b5
    have y6 := (bW7).b6
    rw [hW7] at x0 x1 x2 x3 x4 x5 x6 y0 y1 y2 y3 y4 y5 y6
    clear q5 q6 q7 o5 o6 o7 hW7 bW7
    go_wp2_with fail
    rw [← HW7.out]
    clear x0 x1 x2 x3 x4 x5 x6 y0 y1 y2 y3 y4 y5 y6 u5 u6 u7
    refine HSm.out.mono ?_
    rintro E w8 ⟨b8, rfl, hb8, hg8⟩
    have GF : Hid (w.grownBy w8 none) := grown_trans GA.out (grown_trans GW7.out hg8)
    have h1 := hb8.trans HLaw.out
    clear hb8 hg8 HSm HLaw HO5
    cases b8 with
    | true =>
      cases b5 with
      | true => exact absurd rfl (h1.1 rfl)
      | false =>
        clear h1
        go_wp2_with fail
        go_ret
        exact ⟨rfl, GF.out⟩
    | false =>
      cases b5 with
      | true =>
        clear h1
        go_wp2_with fail
        go_ret
        exact ⟨rfl, GF.out⟩
      | false => have := h1.2 (by simp); cases this
  have u2 : (z2 == 0) = true := by simpa using q2
  have u3 : (z3 == 0) = true := by simpa using q3
  have O2 : Hid _ := HO2.out q2
  have O3 : Hid _ := HO3.out q3
  have HB2v : Hid (∀ W, W2.grownBy W none → Calls Try.prog 6 #[tnV R2.I R2.O R2.S p2_3 R2.F.length m2_3 p2_4 R2.N.length m2_4 p2_5 R2.Y.length m2_5 p2_6 R2.E.length m2_6, tnV v.I v.O v.S f3 v.F.length g3 f4 v.N.length g4 f5 v.Y.length g5 f6 v.E.length g6] W (BehA R2 v W)) := fun W hW => behA_any R2 v p2_3 p2_4 p2_5 p2_6 m2_3 m2_4 m2_5 m2_6 f3 f4 f5 f6 g3 g4 g5 g6 W (TR2.out W hW) (HTV.out W (grown_trans GW2.out hW))
  have HBx3 : Hid (∀ W, W3.grownBy W none → Calls Try.prog 6 #[tnV x.I x.O x.S a3 x.F.length c3 a4 x.N.length c4 a5 x.Y.length c5 a6 x.E.length c6, tnV R3.I R3.O R3.S p3_3 R3.F.length m3_3 p3_4 R3.N.length m3_4 p3_5 R3.Y.length m3_5 p3_6 R3.E.length m3_6] W (BehA x R3 W)) := fun W hW => behA_any x R3 a3 a4 a5 a6 c3 c4 c5 c6 p3_3 p3_4 p3_5 p3_6 m3_3 m3_4 m3_5 m3_6 W (HTX.out W (grown_trans GW3.out hW)) (TR3.out W hW)
  have x0 := (BR2.out W3 G23.out).b0
  have x1 := (BR2.out W3 G23.out).b1
  have x2 := (BR2.out W3 G23.out).b2
  have x3 := (BR2.out W3 G23.out).b3
  have x4 := (BR2.out W3 G23.out).b4
  have x5 := (BR2.out W3 G23.out).b5
  have x6 := (BR2.out W3 G23.out).b6
  have v0 := (BV.out W3 GW3.out).b0
  have v1 := (BV.out W3 GW3.out).b1
  have v2 := (BV.out W3 GW3.out).b2
  have v3 := (BV.out W3 GW3.out).b3
  have v4 := (BV.out W3 GW3.out).b4
  have v5 := (BV.out W3 GW3.out).b5
  have v6 := (BV.out W3 GW3.out).b6
  rw [hW3] at x0 x1 x2 x3 x4 x5 x6 v0 v1 v2 v3 v4 v5 v6
  clear q2 q3 hW3
  go_wp2_with fail
  rw [← HW3.out]
  clear x0 x1 x2 x3 x4 x5 x6 v0 v1 v2 v3 v4 v5 v6 u2 u3
  refine (HB2v.out W3 G23.out).mono ?_
  rintro E w4 ⟨z4, R4, p4_3, p4_4, p4_5, p4_6, m4_3, m4_4, m4_5, m4_6, rfl, hg4, ht4, hc4, ho4, hb4⟩
  have Gw4 : Hid (A8.grownBy w4 none) := grown_trans GW3.out hg4
  have HO4 : Hid _ := ho4
  have HBd4 : Hid _ := hb4
  have HC4 : Hid (R4.F.length ≤ m4_3) := hc4
  obtain ⟨W4, hW4, gW4, sW4, bW4⟩ := box7_new w4 R4.I R4.O R4.S p4_3 R4.F.length m4_3 p4_4 R4.N.length m4_4 p4_5 R4.Y.length m4_5 p4_6 R4.E.length m4_6
  have HW4 : Hid (W4 = _) := hW4
  have BR4 : Hid (∀ W, W4.grownBy W none → Box7 W w4.heap.size R4.I R4.O R4.S p4_3 R4.F.length m4_3 p4_4 R4.N.length m4_4 p4_5 R4.Y.length m4_5 p4_6 R4.E.length m4_6) := fun W hW => bW4.grown hW
  have TR4 : Hid (∀ W, W4.grownBy W none → TnAt W R4 p4_3 p4_4 p4_5 p4_6) := fun W hW => ht4.grown (grown_trans gW4 hW)
  have GW4 : Hid (A8.grownBy W4 none) := grown_trans Gw4.out gW4
  have G34 : Hid (W3.grownBy W4 none) := grown_trans hg4 gW4
  have x0 := (BX.out W4 GW4.out).b0
  have x1 := (BX.out W4 GW4.out).b1
  have x2 := (BX.out W4 GW4.out).b2
  have x3 := (BX.out W4 GW4.out).b3
  have x4 := (BX.out W4 GW4.out).b4
  have x5 := (BX.out W4 GW4.out).b5
  have x6 := (BX.out W4 GW4.out).b6
  have y0 := (BR3.out W4 G34.out).b0
  have y1 := (BR3.out W4 G34.out).b1
  have y2 := (BR3.out W4 G34.out).b2
  have y3 := (BR3.out W4 G34.out).b3
  have y4 := (BR3.out W4 G34.out).b4
  have y5 := (BR3.out W4 G34.out).b5
  have y6 := (BR3.out W4 G34.out).b6
  rw [hW4] at x0 x1 x2 x3 x4 x5 x6 y0 y1 y2 y3 y4 y5 y6
  clear hg4 ht4 hc4 ho4 hb4 hW4 gW4 sW4 bW4
  go_wp2_with fail
  rw [← HW4.out]
  clear x0 x1 x2 x3 x4 x5 x6 y0 y1 y2 y3 y4 y5 y6
  refine (HBx3.out W4 G34.out).mono ?_
  rintro E w9 ⟨z9, R9, p9_3, p9_4, p9_5, p9_6, m9_3, m9_4, m9_5, m9_6, rfl, hg9, ht9, hc9, ho9, hb9⟩
  have Gw9 : Hid (A8.grownBy w9 none) := grown_trans GW4.out hg9
  have HO9 : Hid _ := ho9
  have HBd9 : Hid _ := hb9
  have HC9 : Hid (R9.F.length ≤ m9_3) := hc9
  obtain ⟨W9, hW9, gW9, sW9, bW9⟩ := box7_new w9 R9.I R9.O R9.S p9_3 R9.F.length m9_3 p9_4 R9.N.length m9_4 p9_5 R9.Y.length m9_5 p9_6 R9.E.length m9_6
  have HW9 : Hid (W9 = _) := hW9
  have BR9 : Hid (∀ W, W9.grownBy W none → Box7 W w9.heap.size R9.I R9.O R9.S p9_3 R9.F.length m9_3 p9_4 R9.N.length m9_4 p9_5 R9.Y.length m9_5 p9_6 R9.E.length m9_6) := fun W hW => bW9.grown hW
  have TR9 : Hid (∀ W, W9.grownBy W none → TnAt W R9 p9_3 p9_4 p9_5 p9_6) := fun W hW => ht9.grown (grown_trans gW9 hW)
  have GW9 : Hid (A8.grownBy W9 none) := grown_trans Gw9.out gW9
  have G49 : Hid (W4.grownBy W9 none) := grown_trans hg9 gW9
  clear hg9 ht9 hc9 ho9 hb9 gW9 sW9
  by_cases q4 : z4 = 0
  case neg =>
    have u4 : (z4 == 0) = false := by simpa using q4
    clear q4 bW9
    have x0 := (BX.out W9 GW9.out).b0
    have x1 := (BX.out W9 GW9.out).b1
    have x2 := (BX.out W9 GW9.out).b2
    have x3 := (BX.out W9 GW9.out).b3
    have x4 := (BX.out W9 GW9.out).b4
    have x5 := (BX.out W9 GW9.out).b5
    have x6 := (BX.out W9 GW9.out).b6
    have y0 := (BY.out W9 GW9.out).b0
    have y1 := (BY.out W9 GW9.out).b1
    have y2 := (BY.out W9 GW9.out).b2
    have y3 := (BY.out W9 GW9.out).b3
    have y4 := (BY.out W9 GW9.out).b4
    have y5 := (BY.out W9 GW9.out).b5
    have y6 := (BY.out W9 GW9.out).b6
    rw [hW9] at x0 x1 x2 x3 x4 x5 x6 y0 y1 y2 y3 y4 y5 y6
    clear hW9
    go_wp2_with fail
    rw [← HW9.out]
    clear x0 x1 x2 x3 x4 x5 x6 y0 y1 y2 y3 y4 y5 y6
    refine (HDif.out W9 GW9.out).mono ?_
    rintro E wd ⟨z5, b5, a5', n5', c5', rfl, hgd, ho5, hb5⟩
    have Gwd : Hid (A8.grownBy wd none) := grown_trans GW9.out hgd
    have HO5 : Hid _ := ho5
    clear hgd ho5 hb5
    have x0 := (BX.out wd Gwd.out).b0
    have x1 := (BX.out wd Gwd.out).b1
    have x2 := (BX.out wd Gwd.out).b2
    have x3 := (BX.out wd Gwd.out).b3
    have x4 := (BX.out wd Gwd.out).b4
    have x5 := (BX.out wd Gwd.out).b5
    have x6 := (BX.out wd Gwd.out).b6
    go_wp2_with fail
    clear x0 x1 x2 x3 x4 x5 x6
    refine (HLX.out wd Gwd.out).mono ?_
    rintro E w6 ⟨z6, R6, p6_3, p6_4, p6_5, p6_6, m6_3, m6_4, m6_5, m6_6, rfl, hg6, ht6, hc6, ho6, hb6⟩
    have Gw6 : Hid (A8.grownBy w6 none) := grown_trans Gwd.out hg6
    have HO6 : Hid _ := ho6
    have HBd6 : Hid _ := hb6
    have HC6 : Hid (R6.F.length ≤ m6_3) := hc6
    obtain ⟨W6, hW6, gW6, sW6, bW6⟩ := box7_new w6 R6.I R6.O R6.S p6_3 R6.F.length m6_3 p6_4 R6.N.length m6_4 p6_5 R6.Y.length m6_5 p6_6 R6.E.length m6_6
    have HW6 : Hid (W6 = _) := hW6
    have BR6 : Hid (∀ W, W6.grownBy W none → Box7 W w6.heap.size R6.I R6.O R6.S p6_3 R6.F.length m6_3 p6_4 R6.N.length m6_4 p6_5 R6.Y.length m6_5 p6_6 R6.E.length m6_6) := fun W hW => bW6.grown hW
    have TR6 : Hid (∀ W, W6.grownBy W none → TnAt W R6 p6_3 p6_4 p6_5 p6_6) := fun W hW => ht6.grown (grown_trans gW6 hW)
    have GW6 : Hid (A8.grownBy W6 none) := grown_trans Gw6.out gW6
    have y0 := (BY.out W6 GW6.out).b0
    have y1 := (BY.out W6 GW6.out).b1
    have y2 := (BY.out W6 GW6.out).b2
    have y3 := (BY.out W6 GW6.out).b3
    have y4 := (BY.out W6 GW6.out).b4
    have y5 := (BY.out W6 GW6.out).b5
    have y6 := (BY.out W6 GW6.out).b6
    rw [hW6] at y0 y1 y2 y3 y4 y5 y6
    clear hg6 ht6 hc6 ho6 hb6 hW6 gW6 sW6 bW6
    go_wp2_with fail
    rw [← HW6.out]
    clear y0 y1 y2 y3 y4 y5 y6
    refine (HLY.out W6 GW6.out).mono ?_
    rintro E w7 ⟨z7, R7, p7_3, p7_4, p7_5, p7_6, m7_3, m7_4, m7_5, m7_6, rfl, hg7, ht7, hc7, ho7, hb7⟩
    have Gw7 : Hid (A8.grownBy w7 none) := grown_trans GW6.out hg7
    have HO7 : Hid _ := ho7
    have HBd7 : Hid _ := hb7
    have HC7 : Hid (R7.F.length ≤ m7_3) := hc7
    obtain ⟨W7, hW7, gW7, sW7, bW7⟩ := box7_new w7 R7.I R7.O R7.S p7_3 R7.F.length m7_3 p7_4 R7.N.length m7_4 p7_5 R7.Y.length m7_5 p7_6 R7.E.length m7_6
    have HW7 : Hid (W7 = _) := hW7
    have BR7 : Hid (∀ W, W7.grownBy W none → Box7 W w7.heap.size R7.I R7.O R7.S p7_3 R7.F.length m7_3 p7_4 R7.N.length m7_4 p7_5 R7.Y.length m7_5 p7_6 R7.E.length m7_6) := fun W hW => bW7.grown hW
    have TR7 : Hid (∀ W, W7.grownBy W none → TnAt W R7 p7_3 p7_4 p7_5 p7_6) := fun W hW => ht7.grown (grown_trans gW7 hW)
    have GW7 : Hid (A8.grownBy W7 none) := grown_trans Gw7.out gW7
    have G67 : Hid (W6.grownBy W7 none) := grown_trans hg7 gW7
    clear hg7 ht7 hc7 ho7 hb7 gW7 sW7
    by_cases q5 : z5 = 0
    case neg =>
      have u5 : (z5 != 0) = true := by simpa using q5
      have GF : Hid (w.grownBy W7 none) := grown_trans GA.out GW7.out
      clear q5 hW7 bW7
      go_wp2_with fail
      rw [← HW7.out]
      go_ret
      exact ⟨rfl, GF.out⟩
    by_cases q6 : z6 = 0
    case neg =>
      have u5 : (z5 != 0) = false := by simpa using q5
      have u6 : (z6 != 0) = true := by simpa using q6
      have GF : Hid (w.grownBy W7 none) := grown_trans GA.out GW7.out
      clear q5 q6 hW7 bW7
      go_wp2_with fail
      rw [← HW7.out]
      go_ret
      exact ⟨rfl, GF.out⟩
    by_cases q7 : z7 = 0
    case neg =>
      have u5 : (z5 != 0) = false := by simpa using q5
      have u6 : (z6 != 0) = false := by simpa using q6
      have u7 : (z7 != 0) = true := by simpa using q7
      have GF : Hid (w.grownBy W7 none) := grown_trans GA.out GW7.out
      clear q5 q6 q7 hW7 bW7
      go_wp2_with fail
      rw [← HW7.out]
      go_ret
      exact ⟨rfl, GF.out⟩
    have o5 := HO5.out q5
    have o6 := HO6.out q6
    have o7 := HO7.out q7
    have u5 : (z5 != 0) = false := by simpa using q5
    have u6 : (z6 != 0) = false := by simpa using q6
    have u7 : (z7 != 0) = false := by simpa using q7
    have HSm : Hid (Calls Try.prog 16 #[tnV R6.I R6.O R6.S p6_3 R6.F.length m6_3 p6_4 R6.N.length m6_4 p6_5 R6.Y.length m6_5 p6_6 R6.E.length m6_6, tnV R7.I R7.O R7.S p7_3 R7.F.length m7_3 p7_4 R7.N.length m7_4 p7_5 R7.Y.length m7_5 p7_6 R7.E.length m7_6] W7 (TellsB (R6 = R7) W7)) := sameT_any R6 R7 p6_3 p6_4 p6_5 p6_6 m6_3 m6_4 m6_5 m6_6 p7_3 p7_4 p7_5 p7_6 m7_3 m7_4 m7_5 m7_6 W7 (TR6.out W7 G67.out) (TR7.out W7 (grown_refl _ _)) o6.2.1 o7.2.1
    have HLaw : Hid (R6 = R7 ↔ ¬ (b5 = true)) := row_law o5 o6 o7
    have x0 := (BR6.out W7 G67.out).b0
    have x1 := (BR6.out W7 G67.out).b1
    have x2 := (BR6.out W7 G67.out).b2
    have x3 := (BR6.out W7 G67.out).b3
    have x4 := (BR6.out W7 G67.out).b4
    have x5 := (BR6.out W7 G67.out).b5
    have x6 := (BR6.out W7 G67.out).b6
    have y0 := (bW7).b0
    have y1 := (bW7).b1
    have y2 := (bW7).b2
    have y3 := (bW7).b3
    have y4 := (bW7).b4
    have y5 := (bW7).b5
    have y6 := (bW7).b6
    rw [hW7] at x0 x1 x2 x3 x4 x5 x6 y0 y1 y2 y3 y4 y5 y6
    clear q5 q6 q7 o5 o6 o7 hW7 bW7
    go_wp2_with fail
    rw [← HW7.out]
    clear x0 x1 x2 x3 x4 x5 x6 y0 y1 y2 y3 y4 y5 y6 u5 u6 u7
    refine HSm.out.mono ?_
    rintro E w8 ⟨b8, rfl, hb8, hg8⟩
    have GF : Hid (w.grownBy w8 none) := grown_trans GA.out (grown_trans GW7.out hg8)
    have h1 := hb8.trans HLaw.out
    clear hb8 hg8 HSm HLaw HO5
    cases b8 with
    | true =>
      cases b5 with
      | true => exact absurd rfl (h1.1 rfl)
      | false =>
        clear h1
        go_wp2_with fail
        go_ret
        exact ⟨rfl, GF.out⟩
    | false =>
      cases b5 with
      | true =>
        clear h1
        go_wp2_with fail
        go_ret
        exact ⟨rfl, GF.out⟩
      | false => have := h1.2 (by simp); cases this
  by_cases q9 : z9 = 0
  case neg =>
    have u4 : (z4 == 0) = true := by simpa using q4
    have u9 : (z9 == 0) = false := by simpa using q9
    clear q4 q9 bW9
    have x0 := (BX.out W9 GW9.out).b0
    have x1 := (BX.out W9 GW9.out).b1
    have x2 := (BX.out W9 GW9.out).b2
    have x3 := (BX.out W9 GW9.out).b3
    have x4 := (BX.out W9 GW9.out).b4
    have x5 := (BX.out W9 GW9.out).b5
    have x6 := (BX.out W9 GW9.out).b6
    have y0 := (BY.out W9 GW9.out).b0
    have y1 := (BY.out W9 GW9.out).b1
    have y2 := (BY.out W9 GW9.out).b2
    have y3 := (BY.out W9 GW9.out).b3
    have y4 := (BY.out W9 GW9.out).b4
    have y5 := (BY.out W9 GW9.out).b5
    have y6 := (BY.out W9 GW9.out).b6
    rw [hW9] at x0 x1 x2 x3 x4 x5 x6 y0 y1 y2 y3 y4 y5 y6
    clear hW9
    go_wp2_with fail
    rw [← HW9.out]
    clear x0 x1 x2 x3 x4 x5 x6 y0 y1 y2 y3 y4 y5 y6
    refine (HDif.out W9 GW9.out).mono ?_
    rintro E wd ⟨z5, b5, a5', n5', c5', rfl, hgd, ho5, hb5⟩
    have Gwd : Hid (A8.grownBy wd none) := grown_trans GW9.out hgd
    have HO5 : Hid _ := ho5
    clear hgd ho5 hb5
    have x0 := (BX.out wd Gwd.out).b0
    have x1 := (BX.out wd Gwd.out).b1
    have x2 := (BX.out wd Gwd.out).b2
    have x3 := (BX.out wd Gwd.out).b3
    have x4 := (BX.out wd Gwd.out).b4
    have x5 := (BX.out wd Gwd.out).b5
    have x6 := (BX.out wd Gwd.out).b6
    go_wp2_with fail
    clear x0 x1 x2 x3 x4 x5 x6
    refine (HLX.out wd Gwd.out).mono ?_
    rintro E w6 ⟨z6, R6, p6_3, p6_4, p6_5, p6_6, m6_3, m6_4, m6_5, m6_6, rfl, hg6, ht6, hc6, ho6, hb6⟩
    have Gw6 : Hid (A8.grownBy w6 none) := grown_trans Gwd.out hg6
    have HO6 : Hid _ := ho6
    have HBd6 : Hid _ := hb6
    have HC6 : Hid (R6.F.length ≤ m6_3) := hc6
    obtain ⟨W6, hW6, gW6, sW6, bW6⟩ := box7_new w6 R6.I R6.O R6.S p6_3 R6.F.length m6_3 p6_4 R6.N.length m6_4 p6_5 R6.Y.length m6_5 p6_6 R6.E.length m6_6
    have HW6 : Hid (W6 = _) := hW6
    have BR6 : Hid (∀ W, W6.grownBy W none → Box7 W w6.heap.size R6.I R6.O R6.S p6_3 R6.F.length m6_3 p6_4 R6.N.length m6_4 p6_5 R6.Y.length m6_5 p6_6 R6.E.length m6_6) := fun W hW => bW6.grown hW
    have TR6 : Hid (∀ W, W6.grownBy W none → TnAt W R6 p6_3 p6_4 p6_5 p6_6) := fun W hW => ht6.grown (grown_trans gW6 hW)
    have GW6 : Hid (A8.grownBy W6 none) := grown_trans Gw6.out gW6
    have y0 := (BY.out W6 GW6.out).b0
    have y1 := (BY.out W6 GW6.out).b1
    have y2 := (BY.out W6 GW6.out).b2
    have y3 := (BY.out W6 GW6.out).b3
    have y4 := (BY.out W6 GW6.out).b4
    have y5 := (BY.out W6 GW6.out).b5
    have y6 := (BY.out W6 GW6.out).b6
    rw [hW6] at y0 y1 y2 y3 y4 y5 y6
    clear hg6 ht6 hc6 ho6 hb6 hW6 gW6 sW6 bW6
    go_wp2_with fail
    rw [← HW6.out]
    clear y0 y1 y2 y3 y4 y5 y6
    refine (HLY.out W6 GW6.out).mono ?_
    rintro E w7 ⟨z7, R7, p7_3, p7_4, p7_5, p7_6, m7_3, m7_4, m7_5, m7_6, rfl, hg7, ht7, hc7, ho7, hb7⟩
    have Gw7 : Hid (A8.grownBy w7 none) := grown_trans GW6.out hg7
    have HO7 : Hid _ := ho7
    have HBd7 : Hid _ := hb7
    have HC7 : Hid (R7.F.length ≤ m7_3) := hc7
    obtain ⟨W7, hW7, gW7, sW7, bW7⟩ := box7_new w7 R7.I R7.O R7.S p7_3 R7.F.length m7_3 p7_4 R7.N.length m7_4 p7_5 R7.Y.length m7_5 p7_6 R7.E.length m7_6
    have HW7 : Hid (W7 = _) := hW7
    have BR7 : Hid (∀ W, W7.grownBy W none → Box7 W w7.heap.size R7.I R7.O R7.S p7_3 R7.F.length m7_3 p7_4 R7.N.length m7_4 p7_5 R7.Y.length m7_5 p7_6 R7.E.length m7_6) := fun W hW => bW7.grown hW
    have TR7 : Hid (∀ W, W7.grownBy W none → TnAt W R7 p7_3 p7_4 p7_5 p7_6) := fun W hW => ht7.grown (grown_trans gW7 hW)
    have GW7 : Hid (A8.grownBy W7 none) := grown_trans Gw7.out gW7
    have G67 : Hid (W6.grownBy W7 none) := grown_trans hg7 gW7
    clear hg7 ht7 hc7 ho7 hb7 gW7 sW7
    by_cases q5 : z5 = 0
    case neg =>
      have u5 : (z5 != 0) = true := by simpa using q5
      have GF : Hid (w.grownBy W7 none) := grown_trans GA.out GW7.out
      clear q5 hW7 bW7
      go_wp2_with fail
      rw [← HW7.out]
      go_ret
      exact ⟨rfl, GF.out⟩
    by_cases q6 : z6 = 0
    case neg =>
      have u5 : (z5 != 0) = false := by simpa using q5
      have u6 : (z6 != 0) = true := by simpa using q6
      have GF : Hid (w.grownBy W7 none) := grown_trans GA.out GW7.out
      clear q5 q6 hW7 bW7
      go_wp2_with fail
      rw [← HW7.out]
      go_ret
      exact ⟨rfl, GF.out⟩
    by_cases q7 : z7 = 0
    case neg =>
      have u5 : (z5 != 0) = false := by simpa using q5
      have u6 : (z6 != 0) = false := by simpa using q6
      have u7 : (z7 != 0) = true := by simpa using q7
      have GF : Hid (w.grownBy W7 none) := grown_trans GA.out GW7.out
      clear q5 q6 q7 hW7 bW7
      go_wp2_with fail
      rw [← HW7.out]
      go_ret
      exact ⟨rfl, GF.out⟩
    have o5 := HO5.out q5
    have o6 := HO6.out q6
    have o7 := HO7.out q7
    have u5 : (z5 != 0) = false := by simpa using q5
    have u6 : (z6 != 0) = false := by simpa using q6
    have u7 : (z7 != 0) = false := by simpa using q7
    have HSm : Hid (Calls Try.prog 16 #[tnV R6.I R6.O R6.S p6_3 R6.F.length m6_3 p6_4 R6.N.length m6_4 p6_5 R6.Y.length m6_5 p6_6 R6.E.length m6_6, tnV R7.I R7.O R7.S p7_3 R7.F.length m7_3 p7_4 R7.N.length m7_4 p7_5 R7.Y.length m7_5 p7_6 R7.E.length m7_6] W7 (TellsB (R6 = R7) W7)) := sameT_any R6 R7 p6_3 p6_4 p6_5 p6_6 m6_3 m6_4 m6_5 m6_6 p7_3 p7_4 p7_5 p7_6 m7_3 m7_4 m7_5 m7_6 W7 (TR6.out W7 G67.out) (TR7.out W7 (grown_refl _ _)) o6.2.1 o7.2.1
    have HLaw : Hid (R6 = R7 ↔ ¬ (b5 = true)) := row_law o5 o6 o7
    have x0 := (BR6.out W7 G67.out).b0
    have x1 := (BR6.out W7 G67.out).b1
    have x2 := (BR6.out W7 G67.out).b2
    have x3 := (BR6.out W7 G67.out).b3
    have x4 := (BR6.out W7 G67.out).b4
    have x5 := (BR6.out W7 G67.out).b5
    have x6 := (BR6.out W7 G67.out).b6
    have y0 := (bW7).b0
    have y1 := (bW7).b1
    have y2 := (bW7).b2
    have y3 := (bW7).b3
    have y4 := (bW7).b4
    have y5 := (bW7).b5
    have y6 := (bW7).b6
    rw [hW7] at x0 x1 x2 x3 x4 x5 x6 y0 y1 y2 y3 y4 y5 y6
    clear q5 q6 q7 o5 o6 o7 hW7 bW7
    go_wp2_with fail
    rw [← HW7.out]
    clear x0 x1 x2 x3 x4 x5 x6 y0 y1 y2 y3 y4 y5 y6 u5 u6 u7
    refine HSm.out.mono ?_
    rintro E w8 ⟨b8, rfl, hb8, hg8⟩
    have GF : Hid (w.grownBy w8 none) := grown_trans GA.out (grown_trans GW7.out hg8)
    have h1 := hb8.trans HLaw.out
    clear hb8 hg8 HSm HLaw HO5
    cases b8 with
    | true =>
      cases b5 with
      | true => exact absurd rfl (h1.1 rfl)
      | false =>
        clear h1
        go_wp2_with fail
        go_ret
        exact ⟨rfl, GF.out⟩
    | false =>
      cases b5 with
      | true =>
        clear h1
        go_wp2_with fail
        go_ret
        exact ⟨rfl, GF.out⟩
      | false => have := h1.2 (by simp); cases this
  have u4 : (z4 == 0) = true := by simpa using q4
  have u9 : (z9 == 0) = true := by simpa using q9
  have o4 := HO4.out q4
  have o9 := HO9.out q9
  have hEq : R4 = R9 := row_eq O2.out O3.out o4 o9
  have HSs : Hid (Calls Try.prog 16 #[tnV R4.I R4.O R4.S p4_3 R4.F.length m4_3 p4_4 R4.N.length m4_4 p4_5 R4.Y.length m4_5 p4_6 R4.E.length m4_6, tnV R9.I R9.O R9.S p9_3 R9.F.length m9_3 p9_4 R9.N.length m9_4 p9_5 R9.Y.length m9_5 p9_6 R9.E.length m9_6] W9 (TellsB (R4 = R9) W9)) := sameT_any R4 R9 p4_3 p4_4 p4_5 p4_6 m4_3 m4_4 m4_5 m4_6 p9_3 p9_4 p9_5 p9_6 m9_3 m9_4 m9_5 m9_6 W9 (TR4.out W9 G49.out) (TR9.out W9 (grown_refl _ _)) o4.2.2.2.1 o9.2.2.2.1
  have HEq : Hid (R4 = R9) := hEq
  have x0 := (BR4.out W9 G49.out).b0
  have x1 := (BR4.out W9 G49.out).b1
  have x2 := (BR4.out W9 G49.out).b2
  have x3 := (BR4.out W9 G49.out).b3
  have x4 := (BR4.out W9 G49.out).b4
  have x5 := (BR4.out W9 G49.out).b5
  have x6 := (BR4.out W9 G49.out).b6
  have y0 := (bW9).b0
  have y1 := (bW9).b1
  have y2 := (bW9).b2
  have y3 := (bW9).b3
  have y4 := (bW9).b4
  have y5 := (bW9).b5
  have y6 := (bW9).b6
  rw [hW9] at x0 x1 x2 x3 x4 x5 x6 y0 y1 y2 y3 y4 y5 y6
  clear q4 q9 o4 o9 hEq hW9 bW9
  go_wp2_with fail
  rw [← HW9.out]
  clear x0 x1 x2 x3 x4 x5 x6 y0 y1 y2 y3 y4 y5 y6 u4 u9
  refine HSs.out.mono ?_
  rintro E wa ⟨ba, rfl, hba, hga⟩
  obtain rfl : ba = true := hba.2 HEq.out
  have Gwa : Hid (A8.grownBy wa none) := grown_trans GW9.out hga
  have x0 := (BX.out wa Gwa.out).b0
  have x1 := (BX.out wa Gwa.out).b1
  have x2 := (BX.out wa Gwa.out).b2
  have x3 := (BX.out wa Gwa.out).b3
  have x4 := (BX.out wa Gwa.out).b4
  have x5 := (BX.out wa Gwa.out).b5
  have x6 := (BX.out wa Gwa.out).b6
  have y0 := (BY.out wa Gwa.out).b0
  have y1 := (BY.out wa Gwa.out).b1
  have y2 := (BY.out wa Gwa.out).b2
  have y3 := (BY.out wa Gwa.out).b3
  have y4 := (BY.out wa Gwa.out).b4
  have y5 := (BY.out wa Gwa.out).b5
  have y6 := (BY.out wa Gwa.out).b6
  clear hba hga HSs
  go_wp2_with fail
  clear x0 x1 x2 x3 x4 x5 x6 y0 y1 y2 y3 y4 y5 y6
  refine (HDif.out wa Gwa.out).mono ?_
  rintro E wd ⟨z5, b5, a5', n5', c5', rfl, hgd, ho5, hb5⟩
  have Gwd : Hid (A8.grownBy wd none) := grown_trans Gwa.out hgd
  have HO5 : Hid _ := ho5
  clear hgd ho5 hb5
  have x0 := (BX.out wd Gwd.out).b0
  have x1 := (BX.out wd Gwd.out).b1
  have x2 := (BX.out wd Gwd.out).b2
  have x3 := (BX.out wd Gwd.out).b3
  have x4 := (BX.out wd Gwd.out).b4
  have x5 := (BX.out wd Gwd.out).b5
  have x6 := (BX.out wd Gwd.out).b6
  go_wp2_with fail
  clear x0 x1 x2 x3 x4 x5 x6
  refine (HLX.out wd Gwd.out).mono ?_
  rintro E w6 ⟨z6, R6, p6_3, p6_4, p6_5, p6_6, m6_3, m6_4, m6_5, m6_6, rfl, hg6, ht6, hc6, ho6, hb6⟩
  have Gw6 : Hid (A8.grownBy w6 none) := grown_trans Gwd.out hg6
  have HO6 : Hid _ := ho6
  have HBd6 : Hid _ := hb6
  have HC6 : Hid (R6.F.length ≤ m6_3) := hc6
  obtain ⟨W6, hW6, gW6, sW6, bW6⟩ := box7_new w6 R6.I R6.O R6.S p6_3 R6.F.length m6_3 p6_4 R6.N.length m6_4 p6_5 R6.Y.length m6_5 p6_6 R6.E.length m6_6
  have HW6 : Hid (W6 = _) := hW6
  have BR6 : Hid (∀ W, W6.grownBy W none → Box7 W w6.heap.size R6.I R6.O R6.S p6_3 R6.F.length m6_3 p6_4 R6.N.length m6_4 p6_5 R6.Y.length m6_5 p6_6 R6.E.length m6_6) := fun W hW => bW6.grown hW
  have TR6 : Hid (∀ W, W6.grownBy W none → TnAt W R6 p6_3 p6_4 p6_5 p6_6) := fun W hW => ht6.grown (grown_trans gW6 hW)
  have GW6 : Hid (A8.grownBy W6 none) := grown_trans Gw6.out gW6
  have y0 := (BY.out W6 GW6.out).b0
  have y1 := (BY.out W6 GW6.out).b1
  have y2 := (BY.out W6 GW6.out).b2
  have y3 := (BY.out W6 GW6.out).b3
  have y4 := (BY.out W6 GW6.out).b4
  have y5 := (BY.out W6 GW6.out).b5
  have y6 := (BY.out W6 GW6.out).b6
  rw [hW6] at y0 y1 y2 y3 y4 y5 y6
  clear hg6 ht6 hc6 ho6 hb6 hW6 gW6 sW6 bW6
  go_wp2_with fail
  rw [← HW6.out]
  clear y0 y1 y2 y3 y4 y5 y6
  refine (HLY.out W6 GW6.out).mono ?_
  rintro E w7 ⟨z7, R7, p7_3, p7_4, p7_5, p7_6, m7_3, m7_4, m7_5, m7_6, rfl, hg7, ht7, hc7, ho7, hb7⟩
  have Gw7 : Hid (A8.grownBy w7 none) := grown_trans GW6.out hg7
  have HO7 : Hid _ := ho7
  have HBd7 : Hid _ := hb7
  have HC7 : Hid (R7.F.length ≤ m7_3) := hc7
  obtain ⟨W7, hW7, gW7, sW7, bW7⟩ := box7_new w7 R7.I R7.O R7.S p7_3 R7.F.length m7_3 p7_4 R7.N.length m7_4 p7_5 R7.Y.length m7_5 p7_6 R7.E.length m7_6
  have HW7 : Hid (W7 = _) := hW7
  have BR7 : Hid (∀ W, W7.grownBy W none → Box7 W w7.heap.size R7.I R7.O R7.S p7_3 R7.F.length m7_3 p7_4 R7.N.length m7_4 p7_5 R7.Y.length m7_5 p7_6 R7.E.length m7_6) := fun W hW => bW7.grown hW
  have TR7 : Hid (∀ W, W7.grownBy W none → TnAt W R7 p7_3 p7_4 p7_5 p7_6) := fun W hW => ht7.grown (grown_trans gW7 hW)
  have GW7 : Hid (A8.grownBy W7 none) := grown_trans Gw7.out gW7
  have G67 : Hid (W6.grownBy W7 none) := grown_trans hg7 gW7
  clear hg7 ht7 hc7 ho7 hb7 gW7 sW7
  by_cases q5 : z5 = 0
  case neg =>
    have u5 : (z5 != 0) = true := by simpa using q5
    have GF : Hid (w.grownBy W7 none) := grown_trans GA.out GW7.out
    clear q5 hW7 bW7
    go_wp2_with fail
    rw [← HW7.out]
    go_ret
    exact ⟨rfl, GF.out⟩
  by_cases q6 : z6 = 0
  case neg =>
    have u5 : (z5 != 0) = false := by simpa using q5
    have u6 : (z6 != 0) = true := by simpa using q6
    have GF : Hid (w.grownBy W7 none) := grown_trans GA.out GW7.out
    clear q5 q6 hW7 bW7
    go_wp2_with fail
    rw [← HW7.out]
    go_ret
    exact ⟨rfl, GF.out⟩
  by_cases q7 : z7 = 0
  case neg =>
    have u5 : (z5 != 0) = false := by simpa using q5
    have u6 : (z6 != 0) = false := by simpa using q6
    have u7 : (z7 != 0) = true := by simpa using q7
    have GF : Hid (w.grownBy W7 none) := grown_trans GA.out GW7.out
    clear q5 q6 q7 hW7 bW7
    go_wp2_with fail
    rw [← HW7.out]
    go_ret
    exact ⟨rfl, GF.out⟩
  have o5 := HO5.out q5
  have o6 := HO6.out q6
  have o7 := HO7.out q7
  have u5 : (z5 != 0) = false := by simpa using q5
  have u6 : (z6 != 0) = false := by simpa using q6
  have u7 : (z7 != 0) = false := by simpa using q7
  have HSm : Hid (Calls Try.prog 16 #[tnV R6.I R6.O R6.S p6_3 R6.F.length m6_3 p6_4 R6.N.length m6_4 p6_5 R6.Y.length m6_5 p6_6 R6.E.length m6_6, tnV R7.I R7.O R7.S p7_3 R7.F.length m7_3 p7_4 R7.N.length m7_4 p7_5 R7.Y.length m7_5 p7_6 R7.E.length m7_6] W7 (TellsB (R6 = R7) W7)) := sameT_any R6 R7 p6_3 p6_4 p6_5 p6_6 m6_3 m6_4 m6_5 m6_6 p7_3 p7_4 p7_5 p7_6 m7_3 m7_4 m7_5 m7_6 W7 (TR6.out W7 G67.out) (TR7.out W7 (grown_refl _ _)) o6.2.1 o7.2.1
  have HLaw : Hid (R6 = R7 ↔ ¬ (b5 = true)) := row_law o5 o6 o7
  have x0 := (BR6.out W7 G67.out).b0
  have x1 := (BR6.out W7 G67.out).b1
  have x2 := (BR6.out W7 G67.out).b2
  have x3 := (BR6.out W7 G67.out).b3
  have x4 := (BR6.out W7 G67.out).b4
  have x5 := (BR6.out W7 G67.out).b5
  have x6 := (BR6.out W7 G67.out).b6
  have y0 := (bW7).b0
  have y1 := (bW7).b1
  have y2 := (bW7).b2
  have y3 := (bW7).b3
  have y4 := (bW7).b4
  have y5 := (bW7).b5
  have y6 := (bW7).b6
  rw [hW7] at x0 x1 x2 x3 x4 x5 x6 y0 y1 y2 y3 y4 y5 y6
  clear q5 q6 q7 o5 o6 o7 hW7 bW7
  go_wp2_with fail
  rw [← HW7.out]
  clear x0 x1 x2 x3 x4 x5 x6 y0 y1 y2 y3 y4 y5 y6 u5 u6 u7
  refine HSm.out.mono ?_
  rintro E w8 ⟨b8, rfl, hb8, hg8⟩
  have GF : Hid (w.grownBy w8 none) := grown_trans GA.out (grown_trans GW7.out hg8)
  have h1 := hb8.trans HLaw.out
  clear hb8 hg8 HSm HLaw HO5
  cases b8 with
  | true =>
    cases b5 with
    | true => exact absurd rfl (h1.1 rfl)
    | false =>
      clear h1
      go_wp2_with fail
      go_ret
      exact ⟨rfl, GF.out⟩
  | false =>
    cases b5 with
    | true =>
      clear h1
      go_wp2_with fail
      go_ret
      exact ⟨rfl, GF.out⟩
    | false => have := h1.2 (by simp); cases this

end Go.Proofs.Ytodcmlcpicabaaa
