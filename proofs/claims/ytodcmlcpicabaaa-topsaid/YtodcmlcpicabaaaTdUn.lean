/- Where two say unlike things: the program's unlike. -/
import Derived.Test.YtodcmlcpicabaaaTdU
import Derived.Test.YtodcmlcpicabaaaTnCk
namespace Go.Proofs.Ytodcmlcpicabaaa
open Go.RowKit Go.Maps
set_option linter.unusedVariables false
set_option linter.unusedSimpArgs false

def SU (bt bu p q : Nat) (vt vu : Value) (W : World) : Prop := W.cell? ⟨bt, 2, none⟩ = some (.int .i64 (p : Int)) ∧ W.cell? ⟨bu, 2, none⟩ = some (.int .i64 (q : Int)) ∧ W.cell? ⟨bt, 3, none⟩ = some vt ∧ W.cell? ⟨bu, 3, none⟩ = some vu
theorem SU.kept {bt bu p q : Nat} {vt vu : Value} {W W' : World} (h : SU bt bu p q vt vu W) (g : W.grownBy W' none) : SU bt bu p q vt vu W' := by
  obtain ⟨h0, h1, h2, h3⟩ := h
  exact ⟨g.cell h0 (by simp), g.cell h1 (by simp), g.cell h2 (by simp), g.cell h3 (by simp)⟩
theorem Qst.le {x y : TrI} {I i : Nat} {ws : List (List Nat)} {S : List Nat} (h : Qst x y I i ws S) : i ≤ ws.length := by
  induction h with
  | start => simp
  | old h hi ha hs ih => omega
  | new h hi ha hs ih => rw [List.length_append]; omega
def UnP (x y : TrI) (I : Nat) (w : World) (e : Ending) (w' : World) : Prop :=
  (∃ v a c, e = .returned (.tuple #[.slice a (List.length v) c, .bool true]) ∧ FoundT x y I v ∧ Ints w' a (nsT v) ∧ v.length ≤ 60 ∧ (∀ l, l ∈ v → l < I) ∧ w.grownBy w' none) ∨ (e = .returned (.tuple #[.slice none 0 0, .bool false]) ∧ NoneT x y I ∧ w.grownBy w' none)
attribute [local go_sem ↓] appY_fold in
set_option maxHeartbeats 12800000 in
set_option maxRecDepth 100000 in
theorem unlike_any (x y : TrI) (I : Nat) (a3 a4 a5 a6 : Option Addr) (ac3 ac4 ac5 ac6 : Nat) (b3 b4 b5 b6 : Option Addr) (bc3 bc4 bc5 bc6 : Nat) (w : World) (hx : TnAt w x a3 a4 a5 a6) (hy : TnAt w y b3 b4 b5 b6) (rx : ReadT x I) (ry : ReadT y I) (hxI : x.I = (I : Int)) (hI : I ≤ 4) (h6x : x.N.length ≤ 6) (h6y : y.N.length ≤ 6) (hcx : x.F.length ≤ ac3) (hcy : y.F.length ≤ bc3) :
    Calls Try.prog 28 #[tnV x.I x.O x.S a3 x.F.length ac3 a4 x.N.length ac4 a5 x.Y.length ac5 a6 x.E.length ac6, tnV y.I y.O y.S b3 y.F.length bc3 b4 y.N.length bc4 b5 y.Y.length bc5 b6 y.E.length bc6] w (UnP x y I w) := by
  obtain ⟨W1, hW1, g1, s1, bx, by'⟩ := two_boxes7 w x y a3 a4 a5 a6 ac3 ac4 ac5 ac6 b3 b4 b5 b6 bc3 bc4 bc5 bc6
  have HTX : Hid (TnAt w x a3 a4 a5 a6) := hx
  have HTY : Hid (TnAt w y b3 b4 b5 b6) := hy
  have RX : Hid (ReadT x I) := rx
  have RY : Hid (ReadT y I) := ry
  have BX : Hid (∀ W, W1.grownBy W none → Box7 W w.heap.size x.I x.O x.S a3 x.F.length ac3 a4 x.N.length ac4 a5 x.Y.length ac5 a6 x.E.length ac6) := fun W hW => bx.grown hW
  have BY : Hid (∀ W, W1.grownBy W none → Box7 W (w.heap.size + 1) y.I y.O y.S b3 y.F.length bc3 b4 y.N.length bc4 b5 y.Y.length bc5 b6 y.E.length bc6) := fun W hW => by'.grown hW
  have HXI : Hid (x.I = (I : Int)) := hxI
  clear hxI
  have G1 : Hid (w.grownBy W1 none) := g1
  have HW1 : Hid (W1 = _) := hW1
  obtain ⟨Po, hPo⟩ : ∃ P, P = UnP x y I w := ⟨_, rfl⟩
  have HP1 : Hid (∀ v a c W, FoundT x y I v → Ints W a (nsT v) → v.length ≤ 60 → (∀ l, l ∈ v → l < I) → W1.grownBy W none → Po (.returned (.tuple #[.slice a (List.length v) c, .bool true])) W) := fun v a c W h1 h2 h3 h4 h5 => by rw [hPo]; exact .inl ⟨v, a, c, rfl, h1, h2, h3, h4, grown_trans G1.out h5⟩
  have HP2 : Hid (∀ W, NoneT x y I → W1.grownBy W none → Po (.returned (.tuple #[.slice none 0 0, .bool false])) W) := fun W h1 h2 => by rw [hPo]; exact .inr ⟨rfl, h1, grown_trans G1.out h2⟩
  have hSx := rx.st
  have hSy := ry.st
  unfold StT at hSx hSy
  obtain ⟨p0, hp0⟩ : ∃ p : Nat, x.S = (p : Int) := ⟨x.S.toNat, by omega⟩
  obtain ⟨q0, hq0⟩ : ∃ q : Nat, y.S = (q : Int) := ⟨y.S.toNat, by omega⟩
  have S0 : Hid (SU w.heap.size (w.heap.size + 1) p0 q0 (.slice a3 x.F.length ac3) (.slice b3 y.F.length bc3) W1) := by
    refine ⟨?_, ?_, bx.b3, by'.b3⟩
    · have := bx.b2; rwa [hp0] at this
    · have := by'.b2; rwa [hq0] at this
  obtain ⟨lx, ly⟩ := comT_le x.F y.F
  have hfx := rx.f8
  have hfy := ry.f8
  have CA : ∀ W, W1.grownBy W none → Calls Try.prog 47 #[.slice a3 x.F.length ac3, .slice b3 y.F.length bc3] W (ApartP x.F y.F a3 b3 ac3 bc3 W) := fun W hW => apart_any x.F y.F a3 b3 ac3 bc3 W (hx.first.grown (grown_trans g1 hW)) (hy.first.grown (grown_trans g1 hW)) hcx hcy (by omega) (by omega)
  obtain ⟨XD, hXD⟩ : ∃ L, x.F.drop (comT x.F y.F) = L := ⟨_, rfl⟩
  obtain ⟨YD, hYD⟩ : ∃ L, y.F.drop (comT x.F y.F) = L := ⟨_, rfl⟩
  obtain ⟨dX, hdX⟩ : ∃ L, dropA a3 (comT x.F y.F) ac3 = L := ⟨_, rfl⟩
  obtain ⟨dY, hdY⟩ : ∃ L, dropA b3 (comT x.F y.F) bc3 = L := ⟨_, rfl⟩
  obtain ⟨cX, hcX⟩ : ∃ L, ac3 - comT x.F y.F = L := ⟨_, rfl⟩
  obtain ⟨cY, hcY⟩ : ∃ L, bc3 - comT x.F y.F = L := ⟨_, rfl⟩
  have CA2 : Hid (∀ W, W1.grownBy W none → Calls Try.prog 47 #[.slice a3 x.F.length ac3, .slice b3 y.F.length bc3] W fun e w' => e = .returned (.agg #[.slice dX XD.length cX, .slice dY YD.length cY]) ∧ W.grownBy w' none) := fun W hW => by
    have h1 := CA W hW
    unfold ApartP at h1
    rwa [hXD, hYD, hdX, hdY, hcX, hcY] at h1
  have H0 : Hid (∀ w9, W1.grownBy w9 none → UnSt x y I W1 (w9.heap.size + 1) 0 (.slice (some ⟨w9.heap.size, 0, none⟩) 1 1) ((w9.alloc (mtO ⟨p0, q0, -1, 0, (dX, cX, XD), (dY, cY, YD)⟩)).alloc (.map #[] 0))) := fun w9 h9 => by
    have hmo := MoreT.start (x := x) (y := y) (by omega) (by omega)
    rw [hXD, hYD] at hmo
    have hix : Ints w9 dX XD := by rw [← hdX, ← hXD]; exact drop_ints (hx.first.grown (grown_trans g1 h9)) lx hcx
    have hiy : Ints w9 dY YD := by rw [← hdY, ← hYD]; exact drop_ints (hy.first.grown (grown_trans g1 h9)) ly hcy
    have ho := ownM_one (m := ⟨p0, q0, -1, 0, (dX, cX, XD), (dY, cY, YD)⟩) h9 hix hiy hmo.lm hmo.ln
    have hsm := setP_made (w9.alloc (mtO ⟨p0, q0, -1, 0, (dX, cX, XD), (dY, cY, YD)⟩)) y.N.length
    rw [World.size_alloc] at hsm
    refine ⟨w9.heap.size, 1, [⟨p0, q0, -1, 0, (dX, cX, XD), (dY, cY, YD)⟩], [[]], [], rfl, .start, ⟨rfl, fun k hk => ?_⟩, ho.grown (grown_alloc _ _), hsm⟩
    have e : k = 0 := by simpa using hk
    subst e
    exact ⟨.inl ⟨rfl, rfl⟩, by simp [stT, goT]; omega, by simp [stT, goT]; omega, hmo⟩
  rw [← hPo]
  clear hW1 g1 s1 bx by' hx hy rx ry hPo hSx hSy hp0 hq0 lx ly hfx hfy CA hXD hYD hdX hdY hcX hcY hcx hcy
  go_enter Try.func28, Try.ntmps28
  go_wp2_with fail
  rw [← HW1.out]
  refine wp_region_held_drew (S := SU w.heap.size (w.heap.size + 1) p0 q0 (.slice a3 x.F.length ac3) (.slice b3 y.F.length bc3)) (by kernel_rfl) (S0.out.kept (grown_drew (grown_refl _ _))) (fun hHeld => ?_)
  refine wpAnyH_take (i := 0) (v := ?_) rfl (by kernel_rfl) (by kernel_rfl) (by kernel_rfl) (fun _ _ _ h => h) (Or.inl ⟨by rfl, ?_⟩) (by assumption) ?_
  rotate_left
  · intro W hSw
    obtain ⟨t0, t1, t2, t3⟩ := hSw
    go_simp
    with_reducible rfl
  try simp only [Act.put, List.getElem_toArray, List.getElem_cons_succ, List.getElem_cons_zero, List.setIfInBounds_toArray, List.set_cons_zero, List.set_cons_succ]
  refine wpAnyH_take (i := 1) (v := ?_) rfl (by kernel_rfl) (by kernel_rfl) (by kernel_rfl) (fun _ _ _ h => h) (Or.inl ⟨by rfl, ?_⟩) (by assumption) ?_
  rotate_left
  · intro W hSw
    obtain ⟨t0, t1, t2, t3⟩ := hSw
    go_simp
    with_reducible rfl
  try simp only [Act.put, List.getElem_toArray, List.getElem_cons_succ, List.getElem_cons_zero, List.setIfInBounds_toArray, List.set_cons_zero, List.set_cons_succ]
  refine wpAnyH_take (i := 2) (v := ?_) rfl (by kernel_rfl) (by kernel_rfl) (by kernel_rfl) (fun _ _ _ h => h) (Or.inl ⟨by rfl, ?_⟩) (by assumption) ?_
  rotate_left
  · intro W hSw
    obtain ⟨t0, t1, t2, t3⟩ := hSw
    go_simp
    with_reducible rfl
  try simp only [Act.put, List.getElem_toArray, List.getElem_cons_succ, List.getElem_cons_zero, List.setIfInBounds_toArray, List.set_cons_zero, List.set_cons_succ]
  refine wpAnyH_take (i := 3) (v := ?_) rfl (by kernel_rfl) (by kernel_rfl) (by kernel_rfl) (fun _ _ _ h => h) (Or.inl ⟨by rfl, ?_⟩) (by assumption) ?_
  rotate_left
  · intro W hSw
    obtain ⟨t0, t1, t2, t3⟩ := hSw
    go_simp
    with_reducible rfl
  try simp only [Act.put, List.getElem_toArray, List.getElem_cons_succ, List.getElem_cons_zero, List.setIfInBounds_toArray, List.set_cons_zero, List.set_cons_succ]
  refine wpAnyH_take (i := 4) (v := ?_) rfl (by kernel_rfl) (by kernel_rfl) (by kernel_rfl) (fun _ _ _ h => h) (Or.inl ⟨by rfl, ?_⟩) (by assumption) ?_
  rotate_left
  · intro W hSw
    obtain ⟨t0, t1, t2, t3⟩ := hSw
    go_simp
    with_reducible rfl
  try simp only [Act.put, List.getElem_toArray, List.getElem_cons_succ, List.getElem_cons_zero, List.setIfInBounds_toArray, List.set_cons_zero, List.set_cons_succ]
  refine wpAnyH_take (i := 5) (v := ?_) rfl (by kernel_rfl) (by kernel_rfl) (by kernel_rfl) (fun _ _ _ h => h) (Or.inl ⟨by rfl, ?_⟩) (by assumption) ?_
  rotate_left
  · intro W hSw
    obtain ⟨t0, t1, t2, t3⟩ := hSw
    go_simp
    with_reducible rfl
  try simp only [Act.put, List.getElem_toArray, List.getElem_cons_succ, List.getElem_cons_zero, List.setIfInBounds_toArray, List.set_cons_zero, List.set_cons_succ]
  refine wpAnyH_take (i := 6) (v := ?_) rfl (by kernel_rfl) (by kernel_rfl) (by kernel_rfl) (fun _ _ _ h => h) (Or.inl ⟨by rfl, ?_⟩) (by assumption) ?_
  rotate_left
  · intro W hSw
    obtain ⟨t0, t1, t2, t3⟩ := hSw
    go_simp
    with_reducible rfl
  try simp only [Act.put, List.getElem_toArray, List.getElem_cons_succ, List.getElem_cons_zero, List.setIfInBounds_toArray, List.set_cons_zero, List.set_cons_succ]
  refine wpAnyH_take (i := 7) (v := ?_) rfl (by kernel_rfl) (by kernel_rfl) (by kernel_rfl) (fun _ _ _ h => h) (Or.inl ⟨by rfl, ?_⟩) (by assumption) ?_
  rotate_left
  · intro W hSw
    obtain ⟨t0, t1, t2, t3⟩ := hSw
    go_simp
    with_reducible rfl
  try simp only [Act.put, List.getElem_toArray, List.getElem_cons_succ, List.getElem_cons_zero, List.setIfInBounds_toArray, List.set_cons_zero, List.set_cons_succ]
  refine wpAnyH_take (i := 8) (v := ?_) rfl (by kernel_rfl) (by kernel_rfl) (by kernel_rfl) (fun _ _ _ h => h) (Or.inl ⟨by rfl, ?_⟩) (by assumption) ?_
  rotate_left
  · intro W hSw
    obtain ⟨t0, t1, t2, t3⟩ := hSw
    go_simp
    with_reducible rfl
  try simp only [Act.put, List.getElem_toArray, List.getElem_cons_succ, List.getElem_cons_zero, List.setIfInBounds_toArray, List.set_cons_zero, List.set_cons_succ]
  refine wpAnyH_ready (rs := [9]) (by kernel_rfl) (by simp) ?_
  refine AllReadyH.cons (o := _) rfl (fun K' hK => ?_) ?_
  · go_simp
    refine (CA2.out _ (grown_drew (grown_refl _ _))).mono ?_
    rintro E w9 ⟨rfl, hg9⟩
    have G9 : Hid (W1.grownBy w9 none) := grown_trans (grown_drew (grown_refl _ _)) hg9
    go_wp2_with fail
    refine hK.out _ _ (hHeld.kept hg9) (fun hHeld => ?_)
    clear hK K'
    try simp only [Act.put, List.getElem_toArray, List.getElem_cons_succ, List.getElem_cons_zero, List.setIfInBounds_toArray, List.set_cons_zero, List.set_cons_succ]
    refine wpAnyH_take (i := 10) (v := ?_) rfl (by kernel_rfl) (by kernel_rfl) (by kernel_rfl) (fun _ _ _ h => h) (Or.inl ⟨by rfl, ?_⟩) (by assumption) ?_
    rotate_left
    · intro W hSw
      obtain ⟨t0, t1, t2, t3⟩ := hSw
      go_simp
      with_reducible rfl
    try simp only [Act.put, List.getElem_toArray, List.getElem_cons_succ, List.getElem_cons_zero, List.setIfInBounds_toArray, List.set_cons_zero, List.set_cons_succ]
    refine wpAnyH_ready (rs := [11]) (by kernel_rfl) (by simp) ?_
    refine AllReadyH.cons (o := _) rfl (fun K' hK => ?_) ?_
    · go_simp
      refine hK.out _ _ (hHeld.kept (grown_alloc _ _)) (fun hHeld => ?_)
      clear hK K'
      try simp only [Act.put, List.getElem_toArray, List.getElem_cons_succ, List.getElem_cons_zero, List.setIfInBounds_toArray, List.set_cons_zero, List.set_cons_succ]
      refine wpAnyH_take (i := 12) (v := ?_) rfl (by kernel_rfl) (by kernel_rfl) (by kernel_rfl) (fun _ _ _ h => h) (Or.inl ⟨by rfl, ?_⟩) (by assumption) ?_
      rotate_left
      · intro W hSw
        obtain ⟨t0, t1, t2, t3⟩ := hSw
        go_simp
        with_reducible rfl
      try simp only [Act.put, List.getElem_toArray, List.getElem_cons_succ, List.getElem_cons_zero, List.setIfInBounds_toArray, List.set_cons_zero, List.set_cons_succ]
      refine wpAnyH_done (by kernel_rfl) ?_ _
      have HS : Hid (UnSt x y I W1 (w9.heap.size + 1) 0 (.slice (some ⟨w9.heap.size, 0, none⟩) 1 1) ((w9.alloc (mtO ⟨p0, q0, -1, 0, (dX, cX, XD), (dY, cY, YD)⟩)).alloc (.map #[] 0))) := H0.out w9 G9.out
      have hmm := @run_makeMap Try.prog
      go_wp2_with fail
      clear hmm
      obtain ⟨bm, hbm⟩ : ∃ bm, w9.heap.size + 1 = bm := ⟨_, rfl⟩
      simp only [hbm] at HS ⊢
      have hs9 := G9.out.size
      have HBM : Hid (W1.heap.size ≤ bm) := (show W1.heap.size ≤ bm by omega)
      clear hs9
      clear hbm
      obtain ⟨WL, hWL⟩ : ∃ W, (w9.alloc (mtO ⟨p0, q0, -1, 0, (dX, cX, XD), (dY, cY, YD)⟩)).alloc (.map #[] 0) = W := ⟨_, rfl⟩
      simp only [hWL] at HS ⊢
      clear hWL G9
      go_loopw [8, 6] (fun v v6 W => ∃ i : Nat, v = .int .i64 (i : Int) ∧ i ≤ 150 ∧ UnSt x y I W1 bm i v6 W) (fun v _ _ => 200 - (intOf v).toNat)
      case atStart => exact ⟨0, rfl, by omega, HS.out⟩
      case round =>
        clear HS
        obtain ⟨wo, hwo⟩ : ∃ W, W = wr := ⟨_, rfl⟩
        subst hwo
        obtain ⟨i, rfl, hi150, g, c, ms, ws, S, rfl, hq, hme, hom, hse⟩ := hrel
        have HQ : Hid (Qst x y I i ws S) := hq
        have HME : Hid (MetsT x y ws ms) := hme
        have HOM : Hid (OwnM W1 wo g c ms) := hom
        have HSE : Hid (SetP wo bm y.N.length S) := hse
        have hS36 := hq.room RX.out RY.out h6x h6y
        have hwl : ms.length = 1 + I * S.length := by rw [hme.len]; exact hq.inv.len
        have hIS : I * S.length ≤ 4 * 36 := Nat.mul_le_mul hI hS36
        have hml : ms.length ≤ 145 := by omega
        clear hq hme hom hse hwl hIS
        by_cases hlt : i < ms.length
        · have il : (i : Int) < (ms.length : Int) := by omega
          have hlw : i < ws.length := by rw [← HME.out.len]; exact hlt
          have hof := HME.out.all i hlt
          have hlet := HQ.out.inv.lets _ (getD_memL hlw)
          obtain ⟨r0, r1, r2, r3, r4, r5⟩ := HOM.out.at hlt
          obtain ⟨lie1, lie2⟩ := HOM.out.lie (ms.getD i mt0) (by rw [List.getD, List.getElem?_eq_getElem hlt, Option.getD_some]; exact List.getElem_mem hlt)
          obtain ⟨m, hmm⟩ : ∃ m, ms.getD i mt0 = m := ⟨_, rfl⟩
          rw [hmm] at r0 r1 r2 r3 r4 r5 lie1 lie2 hof
          simp only [valT] at r4 r5
          obtain ⟨bb, hbb⟩ : ∃ bb, wo.heap.size = bb := ⟨_, rfl⟩
          obtain ⟨Wm, hWm, gm, sm, bM⟩ := box6M_new wo m
          have hst := prT_lt RX.out RY.out hlet.1
          have hp : m.p < x.N.length := by rw [hof.p]; exact hst.1
          have hqq : m.q < y.N.length := by rw [hof.q]; exact hst.2.1
          have HOF : Hid (MtOf x y ws i m) := hof
          have HLET : Hid ((∀ l, l ∈ ws.getD i [] → l < I) ∧ (ws.getD i []).length ≤ S.length) := hlet
          have HLIE : Hid (LieP wo g m.m ∧ LieP wo g m.n) := ⟨lie1, lie2⟩
          have HMI : Hid (m ∈ ms ∧ ms.getD i mt0 = m) := ⟨by rw [← hmm, List.getD, List.getElem?_eq_getElem hlt, Option.getD_some]; exact List.getElem_mem hlt, hmm⟩
          have GO : Hid (W1.grownBy wo none) := HOM.out.gr
          have HWm : Hid (Wm = _) := hWm
          have HWs : Hid (Wm.heap.size = wo.heap.size + 1) := sm
          have GM : Hid (wo.grownBy Wm none) := gm
          have BMM : Hid (∀ W, Wm.grownBy W none → Box6M W wo.heap.size m) := fun W hW => bM.grown hW
          have HEN : Hid (∀ W, wo.grownBy W none → Calls Try.prog 48 #[tnV x.I x.O x.S a3 x.F.length ac3 a4 x.N.length ac4 a5 x.Y.length ac5 a6 x.E.length ac6, tnV y.I y.O y.S b3 y.F.length bc3 b4 y.N.length bc4 b5 y.Y.length bc5 b6 y.E.length bc6, mtV m] W (TellsB (m.m.2.2 ++ x.E.getD m.p [] = m.n.2.2 ++ y.E.getD m.q []) W)) := fun W hW => endAlike_any x y I a3 a4 a5 a6 ac3 ac4 ac5 ac6 b3 b4 b5 b6 bc3 bc4 bc5 bc6 m W (HTX.out.grown (grown_trans G1.out (grown_trans GO.out hW))) (HTY.out.grown (grown_trans G1.out (grown_trans GO.out hW))) RX.out RY.out hp hqq (lie1.1.grown hW) (lie2.1.grown hW) lie1.2.1 lie2.2.1
          have GL : Hid (W1.grownBy Wm none) := grown_trans GO.out gm
          have x0 := (BX.out Wm GL.out).b0
          have x1 := (BX.out Wm GL.out).b1
          have x2 := (BX.out Wm GL.out).b2
          have x3 := (BX.out Wm GL.out).b3
          have x4 := (BX.out Wm GL.out).b4
          have x5 := (BX.out Wm GL.out).b5
          have x6 := (BX.out Wm GL.out).b6
          have x'0 := (BY.out Wm GL.out).b0
          have x'1 := (BY.out Wm GL.out).b1
          have x'2 := (BY.out Wm GL.out).b2
          have x'3 := (BY.out Wm GL.out).b3
          have x'4 := (BY.out Wm GL.out).b4
          have x'5 := (BY.out Wm GL.out).b5
          have x'6 := (BY.out Wm GL.out).b6
          have m0 := bM.b0
          have m1 := bM.b1
          have m2 := bM.b2
          have m3 := bM.b3
          have m4 := bM.b4
          have m5 := bM.b5
          clear hbb hof hlet lie1 lie2 hmm
          rw [hWm] at x0 x1 x2 x3 x4 x5 x6 x'0 x'1 x'2 x'3 x'4 x'5 x'6 m0 m1 m2 m3 m4 m5
          clear hWm gm sm bM
          go_wp2_with fail
          rw [← HWm.out]
          clear x0 x1 x2 x3 x4 x5 x6 x'0 x'1 x'2 x'3 x'4 x'5 x'6 m0 m1 m2 m3 m4 m5 r0 r1 r2 r3 r4 r5
          refine (HEN.out Wm GM.out).mono ?_
          rintro E w2 ⟨be, rfl, hbe, hg2⟩
          have HBE : Hid (be = true ↔ AlikeT x y (ws.getD i [])) := by
            show _ ↔ _
            rw [hbe, HOF.out.p, HOF.out.q]
            exact HOF.out.more.alike
          have G2 : Hid (Wm.grownBy w2 none) := hg2
          have GO2 : Hid (wo.grownBy w2 none) := grown_trans GM.out hg2
          clear hbe hg2 HEN
          cases be with
          | false =>
            have HFd : Hid (FoundT x y I (ws.getD i [])) := ⟨i, ws, S, HQ.out, hlw, rfl, fun e => by have := HBE.out.2 e; cases this⟩
            have HWT : Hid (Calls Try.prog 49 #[.slice (some ⟨g, 0, none⟩) ms.length c, .int .i64 (i : Int)] w2 (WordTP (ws.getD i []) w2)) := wordTo_any g c ms ws i w2 (HOM.out.grown GO2.out) (fun k hk => (HME.out.all k hk).is) hlt (by omega) (by have := HLET.out.2; omega)
            go_wp2_with fail
            refine HWT.out.mono ?_
            rintro E w3 ⟨a, k, rfl, hi3, hg3⟩
            have F : Hid (Po (.returned (.tuple #[.slice a (ws.getD i []).length k, .bool true])) w3) := HP1.out _ a k w3 HFd.out hi3 (by have := HLET.out.2; omega) HLET.out.1 (grown_trans GO.out (grown_trans GO2.out hg3))
            generalize (ws.getD i []).length = nn at *
            clear hi3 hg3
            go_wp2_with fail
            first | exact F.out | (go_ret; exact F.out) | exact bodyPost_ret (v := .tuple #[.slice a nn k, .bool true]) (by simp [results, Try.results28, go_sem]) rfl F.out
          | true =>
            have HAL : Hid (AlikeT x y (ws.getD i [])) := HBE.out.1 rfl
            have HS2 : Hid (SetP w2 bm y.N.length S) := HSE.out.kept GO2.out (by simp)
            have hpr : m.p * y.N.length + m.q = prT x y (ws.getD i []) := by unfold prT; rw [HOF.out.p, HOF.out.q]
            have HPR : Hid (m.p * y.N.length + m.q = prT x y (ws.getD i [])) := hpr
            have lk := HS2.out.look (p := m.p) (q := m.q) (by omega) hqq (by omega)
            have y0 := (BMM.out w2 G2.out).b0
            have y1 := (BMM.out w2 G2.out).b1
            clear HBE hpr
            by_cases hin : m.p * y.N.length + m.q ∈ S
            · rw [decide_eq_true hin] at lk
              have HN : Hid (UnSt x y I W1 bm (i + 1) (.slice (some ⟨g, 0, none⟩) ms.length c) (w2.alloc (.cells #[] 71))) := ⟨g, c, ms, ws, S, rfl, .old HQ.out hlw HAL.out (by rw [← HPR.out]; exact hin), HME.out, HOM.out.grown (grown_trans GO2.out (grown_alloc _ _)), HS2.out.kept (grown_alloc _ _) (by simp)⟩
              clear hin
              go_wp2_with fail
              go_roundw
              case rel => exact ⟨i + 1, by go_num, by omega, HN.out⟩
              case measure => simp [intOf]; omega
            · rw [decide_eq_false hin] at lk
              obtain ⟨w5, hw5⟩ : ∃ W, W = w2.alloc (.cells #[] 71) := ⟨_, rfl⟩
              have g5 : w2.grownBy w5 none := by rw [hw5]; exact grown_alloc _ _
              obtain ⟨w6, hmu, hs6, hg6⟩ := (HS2.out.kept g5 (by simp)).put (p := m.p) (q := m.q) (by omega) hqq (by omega) (by omega)
              have hbk := (HS2.out.kept g5 (by simp)).block
              obtain ⟨hb1, ob, hb2, hb3⟩ := hbk
              have GO5 : Hid (wo.grownBy w5 none) := grown_trans GO2.out g5
              have hO6 : OwnM W1 w6 g c ms := (HOM.out.grown GO5.out).far hg6 hb2 hb3 HBM.out
              have HQN : Hid (Qst x y I (i + 1) (ws ++ kidsT I (ws.getD i [])) (S ++ [prT x y (ws.getD i [])])) := .new HQ.out hlw HAL.out (by rw [← HPR.out]; exact hin)
              have hfar : ∀ p v, p.block ≠ bm → wo.cell? p = some v → w6.cell? p = some v := fun p v hpb hv => hg6.cell (GO5.out.cell hv (by simp)) (by simpa using hpb)
              have hbne : wo.heap.size ≠ bm := by
                have h1 := HSE.out.block.1
                omega
              have hbx6 : Box6M w6 wo.heap.size m := by
                have h1 := (BMM.out w5 (grown_trans G2.out g5))
                have hc : ∀ k v, w5.cell? ⟨wo.heap.size, k, none⟩ = some v → w6.cell? ⟨wo.heap.size, k, none⟩ = some v := fun k v hv => hg6.cell hv (by simpa using hbne)
                exact ⟨hc _ _ h1.b0, hc _ _ h1.b1, hc _ _ h1.b2, hc _ _ h1.b3, hc _ _ h1.b4, hc _ _ h1.b5⟩
              have HIU : Hid (UnIn x y W1 bm i 0 ws (S ++ [prT x y (ws.getD i [])]) wo.heap.size m ms (.slice (some ⟨g, 0, none⟩) ms.length c) w6) := ⟨g, c, [], by simp, by simpa [kidsTo] using HME.out, by simpa using hO6, by rw [← HPR.out]; exact hs6, by have := HOM.out.g_lt.2; omega, by have h1 := GM.out.size; have h2 := G2.out.size; have h3 := g5.size; have h4 := hg6.size; have h5 := HWs.out; omega, hbx6⟩
              have G6 : Hid (W1.grownBy w6 none) := hO6.gr
              obtain ⟨hsm1, hsm2⟩ := HOF.out.more.small HAL.out (RX.out.e8 _ hst.1) (RY.out.e8 _ hst.2.1)
              have z0 := (BX.out w6 G6.out).b0
              rw [HXI.out] at z0
              have y50 := (BMM.out w5 (grown_trans G2.out g5)).b0
              have y51 := (BMM.out w5 (grown_trans G2.out g5)).b1
              rw [hw5] at y50 y51 hmu
              clear hin hw5 g5 hs6 hg6 hb1 hb2 hb3 hO6 hfar hbx6 hbne
              go_wp2_with fail
              clear z0 y50 y51 y0 y1 lk hmu
              go_loopw [58, 6] (fun v v6 W => ∃ k : Nat, k ≤ I ∧ v = .int .i64 (k : Int) ∧ UnIn x y W1 bm i k ws (S ++ [prT x y (ws.getD i [])]) wo.heap.size m ms v6 W) (fun v _ _ => I - (intOf v).toNat)
              case atStart => exact ⟨0, Nat.zero_le _, rfl, HIU.out⟩
              case round =>
                clear HIU
                obtain ⟨wi, hwi⟩ : ∃ W, W = wr := ⟨_, rfl⟩
                subst hwi
                obtain ⟨k, hk, rfl, g', c', ts, rfl, hme', hom', hse', hne', hlt', hbx'⟩ := hrel
                have HU' : Hid (MetsT x y (ws ++ kidsTo k (ws.getD i [])) (ms ++ ts) ∧ OwnM W1 wi g' c' (ms ++ ts) ∧ SetP wi bm y.N.length (S ++ [prT x y (ws.getD i [])]) ∧ g' ≠ wo.heap.size ∧ wo.heap.size < wi.heap.size ∧ Box6M wi wo.heap.size m) := ⟨hme', hom', hse', hne', hlt', hbx'⟩
                have GI : Hid (W1.grownBy wi none) := hom'.gr
                have hml' : (ms ++ ts).length = ws.length + k := by rw [hme'.len, List.length_append]; simp [kidsTo]
                have hwl2 : ws.length ≤ 145 := by rw [← HME.out.len]; exact hml
                obtain ⟨nm, hnm⟩ : ∃ n, (ms ++ ts).length = n := ⟨_, rfl⟩
                have HNm : Hid ((ms ++ ts).length = nm ∧ nm + 1 ≤ 1000) := ⟨hnm, by omega⟩
                simp only [hnm]
                clear hme' hom' hse' hbx' hne' hlt' hml' hnm
                by_cases hkl : k < I
                · have ik : (k : Int) < (I : Int) := by omega
                  obtain ⟨lie1, lie2⟩ := HU'.out.2.1.lie m (List.mem_append.2 (.inl HMI.out.1))
                  have HON : Hid (Calls Try.prog 50 #[tnV x.I x.O x.S a3 x.F.length ac3 a4 x.N.length ac4 a5 x.Y.length ac5 a6 x.E.length ac6, tnV y.I y.O y.S b3 y.F.length bc3 b4 y.N.length bc4 b5 y.Y.length bc5 b6 y.E.length bc6, mtV m, .int .i64 (i : Int), .int .i64 (k : Int)] wi (OnP x y m i k wi)) := onward_any x y I a3 a4 a5 a6 ac3 ac4 ac5 ac6 b3 b4 b5 b6 bc3 bc4 bc5 bc6 m i k wi (HTX.out.grown (grown_trans G1.out GI.out)) (HTY.out.grown (grown_trans G1.out GI.out)) RX.out RY.out hI hp hqq hkl lie1.1 lie2.1 (by omega) (by omega)
                  have HMO : Hid _ := HOF.out.more.next hsm1 hsm2 k (RX.out.y8 _ hst.1 k hkl) (RY.out.y8 _ hst.2.1 k hkl)
                  have x0 := (BX.out wi GI.out).b0
                  have x1 := (BX.out wi GI.out).b1
                  have x2 := (BX.out wi GI.out).b2
                  have x3 := (BX.out wi GI.out).b3
                  have x4 := (BX.out wi GI.out).b4
                  have x5 := (BX.out wi GI.out).b5
                  have x6 := (BX.out wi GI.out).b6
                  have x'0 := (BY.out wi GI.out).b0
                  have x'1 := (BY.out wi GI.out).b1
                  have x'2 := (BY.out wi GI.out).b2
                  have x'3 := (BY.out wi GI.out).b3
                  have x'4 := (BY.out wi GI.out).b4
                  have x'5 := (BY.out wi GI.out).b5
                  have x'6 := (BY.out wi GI.out).b6
                  have m0 := HU'.out.2.2.2.2.2.b0
                  have m1 := HU'.out.2.2.2.2.2.b1
                  have m2 := HU'.out.2.2.2.2.2.b2
                  have m3 := HU'.out.2.2.2.2.2.b3
                  have m4 := HU'.out.2.2.2.2.2.b4
                  have m5 := HU'.out.2.2.2.2.2.b5
                  clear lie1 lie2
                  go_wp2_with fail
                  clear x0 x1 x2 x3 x4 x5 x6 x'0 x'1 x'2 x'3 x'4 x'5 x'6 m0 m1 m2 m3 m4 m5
                  refine HON.out.mono ?_
                  rintro E w7 ⟨m', rfl, hm1, hm2, hm3, hm4, hm5, hm6, hm7, hm8, hm9, hm10, hg7⟩
                  obtain ⟨u1, u2, u3, u4, u5, u6⟩ := HU'.out
                  have hpu := un_put (I := I) (W8 := w7.alloc (mtO m')) u1 u2 u3 u4 u5 u6 hlw HOF.out.p HOF.out.q HMO.out (by rw [HNm.out.1]; exact HNm.out.2) hm1 hm2 hm3 hm4 hm5 hm6 hm7 hm8 hm9 hm10 hg7 rfl
                  rw [HNm.out.1] at hpu
                  obtain ⟨g9, c9, W9, hrun, hun⟩ := hpu
                  have F : Hid (UnIn x y W1 bm i (k + 1) ws (S ++ [prT x y (ws.getD i [])]) wo.heap.size m ms (.slice (some ⟨g9, 0, none⟩) (nm + 1) c9) W9) := hun
                  clear hm1 hm2 hm3 hm4 hm5 hm6 hm7 hm8 hm9 hm10 hg7 u1 u2 u3 u4 u5 u6 hun
                  go_wp2_with fail
                  go_roundw
                  case rel => exact ⟨k + 1, by omega, by go_num, F.out⟩
                  case measure => simp [intOf]; omega
                · have ik : ¬ (k : Int) < (I : Int) := by omega
                  have ek : k = I := by omega
                  subst ek
                  have HN : Hid (UnSt x y k W1 bm (i + 1) (.slice (some ⟨g', 0, none⟩) nm c') wi) := ⟨g', c', ms ++ ts, _, _, by rw [HNm.out.1], HQN.out, HU'.out.1, HU'.out.2.1, HU'.out.2.2.1⟩
                  go_wp2_with fail
                  go_roundw
                  case rel => exact ⟨i + 1, by go_num, by omega, HN.out⟩
                  case measure => simp [intOf]; omega
        · have il : ¬ (i : Int) < (ms.length : Int) := by omega
          have hle : ¬ i < ws.length := by rw [← HME.out.len]; exact hlt
          have F : Hid (Po (.returned (.tuple #[.slice none 0 0, .bool false])) wo) := by
            refine HP2.out wo ?_ HOM.out.gr
            have e : i = ws.length := by
              rcases Nat.lt_or_ge ws.length i with h | h
              · obtain ⟨ws2, S2, h1, h2, _⟩ := HQ.out.back _ h
                have h3 := h1.inv
                exact absurd h (by
                  have := HQ.out.le
                  omega)
              · omega
            exact ⟨ws, S, by rw [← e]; exact HQ.out⟩
          go_wp2_with fail
          first | exact F.out | (go_ret; exact F.out) | exact bodyPost_ret (v := .tuple #[.slice none 0 0, .bool false]) (by simp [results, Try.results28, go_sem]) rfl F.out
    exact AllReadyH.nil
  exact AllReadyH.nil

end Go.Proofs.Ytodcmlcpicabaaa
