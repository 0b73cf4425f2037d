/- SynthSays holds: whatever machine and whatever numbers come in, in whatever memory, shared or not: the program refuses what the reference refuses, with the same error, and else answers what the reference says that the machine says. -/
import Derived.Test.YtlnlgjbpkjfbjaaYSaysR
import Derived.Test.YtlnlgjbpkjfbjaaRWord1
import Derived.SizedLaws
namespace Go.Proofs.Ytlnlgjbpkjfbjaa
open Go.ChangeShapes Go.WideShapes Go.ChangeAt Go.RowKit Go.Joins
set_option linter.unusedVariables false

/-- What both answer. -/
def SaidPost (out : List Int) (y : Int) (w : World) (E : Ending) (w' : World) : Prop :=
  ∃ a c, E = .returned (.tuple #[.slice a out.length c, .int .i64 y]) ∧ Ints w' a out ∧ w.grownBy w' none
theorem said_bad {y : Int} {w w' : World} {E : Ending} (h : Says (.tuple #[.slice none 0 0, .int .i64 y]) w E w') : SaidPost [] y w E w' := ⟨none, 0, h.1, .inl rfl, h.2⟩
theorem ints_of_owns {B : Nat} {w : World} {r : List Item} {a : Option Addr} {n c : Nat} {zs : List Int} (h : Owns B w ((3, .slice a n c, vals zs) :: r)) : Ints w a zs := by
  by_cases h0 : zs.length = 0
  · left; exact List.length_eq_zero_iff.1 h0
  · right
    obtain ⟨g, cap, e, _⟩ := h.form (by rw [vals_len]; omega)
    cases e
    exact ⟨g, 0, rfl, fun i hi => by rw [Nat.zero_add]; exact h.cell (by simp [vals, List.getD, hi])⟩
theorem said_good {m : Mch} {hs : List Int} {w w' : World} {E : Ending} (h : SaysPost m hs w E w') : SaidPost (outY m hs hs.length) 0 w E w' := by
  obtain ⟨a, c, rfl, ho, hg⟩ := h
  exact ⟨a, c, by rw [outY_len], ints_of_owns ho, hg⟩

set_option maxHeartbeats 1600000 in
theorem ylaw_walk (F : Bool) (S y : Int) (out : List Int) (a b ah : Option Addr) (n c k d nh ch : Nat) (w : World) (hm : out.length ≤ maxLen)
    (HP : Hid (∀ W, w.grownBy W none → Calls Try.prog 5 #[mchV F S a n c b k d, .slice ah nh ch] W (SaidPost out y W)))
    (HR : Hid (∀ W, w.grownBy W none → Calls Try.prog 6 #[mchV F S a n c b k d, .slice ah nh ch] W (SaidPost out y W))) :
    Calls Try.prog 3 #[mchV F S a n c b k d, .slice ah nh ch] w (Says (.bool true) w) := by
  obtain ⟨W1, hW1, g1, s1, bx1⟩ := box4_new w (.bool F) (.int .i64 S) (.slice a n c) (.slice b k d) 24
  have G1 : Hid (w.grownBy W1 none) := g1
  have BX : Hid (∀ W', W1.grownBy W' none → W'.cell? ⟨w.heap.size, 0, none⟩ = some (.bool F) ∧ W'.cell? ⟨w.heap.size, 1, none⟩ = some (.int .i64 S) ∧ W'.cell? ⟨w.heap.size, 2, none⟩ = some (.slice a n c) ∧ W'.cell? ⟨w.heap.size, 3, none⟩ = some (.slice b k d)) := bx1
  have HW : Hid (∀ (aa ab : Option Addr) (ca cb : Nat) (W : World), Ints W aa out → Ints W ab out → Calls Try.prog 7 #[.slice aa out.length ca, .slice ab out.length cb] W (TellsB (SameW out out) W)) := fun aa ab ca cb W h1 h2 => wordsR_any aa ab ca cb out out W h1 h2 hm hm
  obtain ⟨x0, x1, x2, x3⟩ := bx1 W1 (grown_refl _ _)
  have HW1 : Hid (W1 = _) := hW1
  rw [hW1] at x0 x1 x2 x3
  have hyy : (y == y) = true := by simp
  clear hW1 g1 s1 bx1
  go_enter Try.func3, Try.ntmps3
  go_wp2_with fail
  rw [← HW1.out]
  clear x0 x1 x2 x3
  refine (HP.out _ G1.out).mono ?_
  rintro E w2 ⟨a2, c2, rfl, hi2, hg2⟩
  have G2 : Hid (W1.grownBy w2 none) := hg2
  have I2 : Hid (Ints w2 a2 out) := hi2
  clear hg2 hi2
  obtain ⟨x0, x1, x2, x3⟩ := BX.out w2 G2.out
  go_wp2_with fail
  clear x0 x1 x2 x3
  refine (HR.out _ (grown_trans G1.out G2.out)).mono ?_
  rintro E w3 ⟨a3, c3, rfl, hi3, hg3⟩
  have G3 : Hid (w2.grownBy w3 none) := hg3
  have I3 : Hid (Ints w3 a3 out) := hi3
  clear hg3 hi3
  go_wp2_with fail
  refine (HW.out _ _ _ _ _ (I2.out.grown G3.out) I3.out).mono ?_
  rintro E w4 ⟨t, rfl, ht, hg4⟩
  have ht' : t = true := ht.2 rfl
  subst ht'
  have GF : Hid (w.grownBy w4 none) := grown_trans G1.out (grown_trans G2.out (grown_trans G3.out hg4))
  clear ht hg4
  go_wp2_with fail
  go_ret
  exact ⟨rfl, GF.out⟩

theorem heardY_ok {hs : List Int} (h : heardY hs = 0) : hs.length ≤ 60 ∧ ∀ k, k < hs.length → hs.getD k 0 = 0 ∨ hs.getD k 0 = 1 := by
  unfold heardY at h
  split at h
  · omega
  · split at h
    · next h1 h2 => exact ⟨by omega, h2⟩
    · omega

theorem says_walk (m : Mch) (a b ah : Option Addr) (c d ch : Nat) (hs : List Int) (w : World) (h : MchAt w m a b) (hh : Ints w ah hs) (hm : hs.length ≤ maxLen) :
    Calls Try.prog 3 #[mchV m.F m.S a m.A.length c b m.N.length d, .slice ah hs.length ch] w (Says (.bool true) w) := by
  have HC : ∀ W, w.grownBy W none → Calls Try.prog 15 #[mchV m.F m.S a m.A.length c b m.N.length d] W (Says (.int .i64 (checkY m)) W) := fun W hW => checkY_any m a b c d W (h.grown hW)
  have HCR : ∀ W, w.grownBy W none → Calls Try.prog 17 #[mchV m.F m.S a m.A.length c b m.N.length d] W (Says (.int .i64 (checkY m)) W) := fun W hW => checkYR_any m a b c d W (h.grown hW)
  by_cases hc : checkY m = 0
  · have hG := goodY_of_check hc
    have hlb := hG.lb
    rw [hc] at HC HCR
    by_cases hb : heardY hs = 0
    · obtain ⟨h60, h01⟩ := heardY_ok hb
      rw [hlb] at HC HCR ⊢
      refine ylaw_walk m.F m.S 0 (outY m hs hs.length) a b ah m.A.length c m.A.length d hs.length ch w (by rw [outY_len]; exact hm) ?_ ?_
      · intro W hW
        exact (says_good m _ hG a b ah c d ch hs W (h.grown hW) (hh.grown hW) h60 h01 (fun W' hW' => HC W' (grown_trans hW hW')) (fun W' hW' => by have := checkHeard_any ah ch hs W' (hh.grown (grown_trans hW hW')) hm; rwa [hb] at this)).mono fun E w' h => said_good h
      · intro W hW
        exact (saysR_good m _ hG a b ah c d ch hs W (h.grown hW) (hh.grown hW) h60 h01 (fun W' hW' => HCR W' (grown_trans hW hW'))).mono fun E w' h => said_good h
    · refine ylaw_walk m.F m.S (heardY hs) [] a b ah m.A.length c m.N.length d hs.length ch w (by unfold maxLen; simp) ?_ ?_
      · intro W hW
        exact (says_badH m m.F m.S _ a b ah m.A.length c m.N.length d hs.length ch W hb (fun W' hW' => HC W' (grown_trans hW hW')) (fun W' hW' => checkHeard_any ah ch hs W' (hh.grown (grown_trans hW hW')) hm)).mono fun E w' h => said_bad h
      · intro W hW
        exact (saysR_badH m.F m.S a b ah m.A.length c m.N.length d ch hs W (hh.grown hW) hm hb (fun W' hW' => HCR W' (grown_trans hW hW'))).mono fun E w' h => said_bad h
  · refine ylaw_walk m.F m.S (checkY m) [] a b ah m.A.length c m.N.length d hs.length ch w (by unfold maxLen; simp) ?_ ?_
    · intro W hW
      exact (says_badM m m.F m.S _ a b ah m.A.length c m.N.length d hs.length ch W hc (fun W' hW' => HC W' (grown_trans hW hW'))).mono fun E w' h => said_bad h
    · intro W hW
      exact (saysR_badM m m.F m.S _ a b ah m.A.length c m.N.length d hs.length ch W hc (fun W' hW' => HCR W' (grown_trans hW hW'))).mono fun E w' h => said_bad h

theorem Try.cells22 : Try.prog.cellsOf 22 = 1 := by kernel_rfl
theorem Try.cells46 : Try.prog.cellsOf 46 = 2 := by kernel_rfl
theorem Try.cells24 : Try.prog.cellsOf 24 = 4 := by kernel_rfl
theorem Try.cells4b : Try.prog.cellsOf 4 = 1 := by kernel_rfl
theorem choose_ltY {α : Type} [Inhabited α] {P : Nat → α → Prop} {m : Nat} (h : ∀ i, i < m → ∃ q, P i q) : ∃ f : Nat → α, ∀ i, i < m → P i (f i) := by
  classical
  exact ⟨fun i => if hi : i < m then (h i hi).choose else default, fun i hi => by simp only [hi, dif_pos]; exact (h i hi).choose_spec⟩

set_option maxRecDepth 100000 in
theorem pairs_of_trod {H : Type} {enc : TypeId × Value → H} {W : World} {fuel : Nat} {cs : List Value} {x : DataW H × List MemPlace} (h : DataW.trod enc Try.prog W 0 (fun _ => true) true fuel 22 cs = some x) :
    ∃ a c T, cs = [.slice a (List.length T) c] ∧ PairsAt W a T ∧ T.length ≤ maxLen := by
  rcases Deep.open_slice Try.underlying22 h with ⟨hcs, _⟩ | ⟨y, len, cap, m, n, D, Pl, hcs, _, hl, hm, hmm, _, hx⟩
  · exact ⟨none, 0, [], hcs, .inl rfl, Nat.zero_le _⟩
  · simp only [if_true] at hmm
    have each : ∀ i, i < m → ∃ q : Int × Int, W.cell? (y.add (i * 2)) = some (.int .i64 q.1) ∧ W.cell? (y.add (i * 2 + 1)) = some (.int .i64 q.2) := by
      intro i hi
      obtain ⟨cs', h1, h2⟩ := hx i hi
      rw [Try.cells46] at h1
      obtain ⟨_, hlen, hcell⟩ := World.cells?_some h1
      obtain ⟨xs, k, hk, hxy, _, hxl, hf⟩ := DataW.trod_array Try.underlying46 h2
      match xs, hxl, cs', hlen with
      | [y0, y1], _, [v0, v1], _ =>
        have g0 := hf 0 (by omega)
        have g1 := hf 1 (by omega)
        simp [Try.cells3] at g0 g1
        have e0 := hcell 0 (by omega)
        have e1 := hcell 1 (by omega)
        rw [Deep.add_add] at e0 e1
        obtain ⟨n0, z0, _, _⟩ := DataW.trod_int Try.underlying3 g0
        obtain ⟨n1, z1, _, _⟩ := DataW.trod_int Try.underlying3 g1
        simp only [List.cons.injEq, and_true] at z0 z1
        subst z0 z1
        exact ⟨(n0, n1), by simpa using e0, by simpa using e1⟩
    obtain ⟨q, hq⟩ := choose_ltY each
    have hlen : ((List.range len).map q).length = len := by simp
    refine ⟨some y, cap, (List.range len).map q, by rw [hlen]; exact hcs, ?_, by rw [hlen]; omega⟩
    by_cases h0 : len = 0
    · left; rw [h0]; rfl
    · right
      obtain ⟨b, off, spot⟩ := y
      have hc := (hq 0 (by omega)).1
      have hspot : spot = none := by simpa [Addr.add] using World.cell?_spot hc
      subst hspot
      refine ⟨b, off, rfl, fun i hi => ?_⟩
      rw [hlen] at hi
      obtain ⟨h1, h2⟩ := hq i (by omega)
      rw [add_off] at h1 h2
      have hg : ((List.range len).map q).getD i (0, 0) = q i := by simp [List.getD, hi]
      rw [hg]
      exact ⟨h1, h2⟩

set_option maxRecDepth 100000 in
theorem mch_of_trod {H : Type} {enc : TypeId × Value → H} {W : World} {base : Nat} {v : Value} {d : DataW H} {p : List MemPlace} (hv : Value.okWide Try.prog W .any base 24 v) (h : DataW.Trod enc Try.prog W 0 (fun _ => true) true 24 v d p) :
    ∃ (m : Mch) (a b : Option Addr) (c d : Nat), v = mchV m.F m.S a m.A.length c b m.N.length d ∧ MchAt W m a b := by
  obtain ⟨cs, rfl, hsz⟩ := okWide_struct Try.underlying24 hv
  obtain ⟨fuel, hf⟩ := h
  obtain ⟨xs, k, hk, hxy, _, hxl, hf⟩ := DataW.trod_struct Try.underlying24 hf
  rw [Try.cells24] at hsz
  obtain ⟨cs⟩ := cs
  simp only [List.size_toArray] at hsz
  match xs, hxl, cs, hsz with
  | [y0, y1, y2, y3], _, [v0, v1, v2, v3], _ =>
    have g0 := hf 0 _ rfl
    have g1 := hf 1 _ rfl
    have g2 := hf 2 _ rfl
    have g3 := hf 3 _ rfl
    simp [Try.cells3, Try.cells4b, Try.cells22, Value.cells] at g0 g1 g2 g3
    obtain ⟨n0, e0, _⟩ := DataW.trod_bool Try.underlying4 g0
    obtain ⟨n1, e1, _, w1⟩ := DataW.trod_int Try.underlying3 g1
    obtain ⟨a, c, S, e2, i2, m2⟩ := pairs_of_trod g2
    obtain ⟨b, c', T, e3, i3, m3⟩ := pairs_of_trod g3
    simp only [List.cons.injEq, and_true] at e0 e1 e2 e3
    subst e0 e1 e2 e3
    exact ⟨⟨n0, n1, S, T⟩, a, b, c, c', rfl, ⟨i2, i3, m2, m3⟩⟩

theorem says_own : ownKnob Try.prog.godebug = none := by kernel_rfl

set_option maxRecDepth 100000 in
theorem says_lifted (os : Os) (started : os.Started) (H : Type) (enc : TypeId × Value → H) :
    ReturnsInHanded {} Try.checked os 3 .any (Rows.synthSaysSpec.pre6 enc Try.prog Try.f3 Rows.synthSaysRow.domain false) (Rows.synthSaysSpec.post enc Try.prog Try.f3 false true false false) := by
  refine returnsInHanded_of_change_sized (C := Try.checked) says_own started (by kernel_rfl) Try.func3
    (ChangeSpec.witness6 (enc := enc) (C := Try.checked) false ⟨#[], #[.agg #[.bool false, .int .i64 0, .slice none 0 0, .slice none 0 0], .slice none 0 0], []⟩ 8 (by kernel_rfl) (by kernel_rfl) (by kernel_rfl) (by kernel_rfl)) ?_
  intro W base args ds gs before hval0 hW hcnd hsz0 _
  have hval : ∀ (j : Nat) t v, Try.f3.params[j]? = some t → args[j]? = some v → Value.okWide Try.prog W .any base t v := hval0
  have hW' := hW
  obtain ⟨p, q, hA0, hV, rfl, hfz, hnd⟩ := hW
  have hA : DataW.TrodAll enc Try.prog W 0 (fun _ => true) true Try.f3.params.toList args.toList ds p := hA0
  rw [Try.params3] at hA hval
  obtain ⟨v0, vs0, d0, ds0, p0, q0, hargs, rfl, rfl, h0, r0⟩ := trodAll_cons hA
  obtain ⟨v1, vs1, d1, ds1, p1, q1, rfl, rfl, rfl, h1, r1⟩ := trodAll_cons r0
  obtain ⟨rfl, rfl, rfl⟩ := trodAll_nil r1
  obtain rfl : args = #[v0, v1] := by cases args; simp_all
  obtain ⟨rfl, rfl⟩ := trodVars_none hV
  have lt0 : ∀ x ∈ p0, x.block < W.heap.size := by obtain ⟨m, hm⟩ := h0; exact DataW.trod_lt m _ _ _ hm
  have lt1 : ∀ x ∈ p1, x.block < W.heap.size := by obtain ⟨m, hm⟩ := h1; exact DataW.trod_lt m _ _ _ hm
  obtain ⟨m, a, b, c, d, rfl, hD⟩ := mch_of_trod (hval 0 24 v0 rfl rfl) h0
  obtain ⟨ah, ch, hs, hv1, hh, hhm⟩ : ∃ ah ch hs, v1 = .slice ah (List.length hs) ch ∧ Ints W ah hs ∧ hs.length ≤ maxLen := by
    obtain ⟨ah0, nh0, ch0, rfl⟩ := okWide_slice Try.underlying25 (hval 1 25 v1 rfl rfl)
    obtain ⟨fuel, hf⟩ := h1
    obtain ⟨ah, ch, hs, e, hh, hhm⟩ := ints_of_trod hf
    exact ⟨ah, ch, hs, by simpa [Value.cells] using e, hh, hhm⟩
  subst hv1
  clear hA0 hval0 hsz0
  refine (says_walk m a b ah c d ch hs W hD hh hhm).mono fun E W' ⟨he, hg⟩ => ?_
  subst he
  have bel : Below W.heap.size W W' := below_of_grown hg
  exact ⟨_, rfl, _, _, _, [], _, [], hW', trodAll_mk1 (shut_bool Try.underlying4 _), (trodAll_cons_mk (Below.trod Try.laidOut (by kernel_rfl) (of_decide_eq_true (by kernel_rfl)) h0 bel lt0) (trodAll_cons_mk (Below.trod Try.laidOut (by kernel_rfl) (of_decide_eq_true (by kernel_rfl)) h1 bel lt1) trodAll_mk0)), rfl, bel.frame _, fun h => by cases h⟩

theorem synthSays_holds : Rows.SynthSaysSaid :=
  OpenClaim.holds_of_wide 3 Try.f3 rfl rfl rfl rfl rfl rfl rfl ⟨rfl, rfl, rfl, rfl, rfl⟩ rfl rfl rfl rfl rfl (by kernel_rfl) Try.func3 (by kernel_rfl)
    (of_decide_eq_true (by kernel_rfl)) (by unfold Func.isWrapper; first | (rw [if_pos (by decide +kernel)]; kernel_rfl) | (rw [if_neg (by decide +kernel)]; exact ⟨rfl, rfl⟩))
    (fun os started H enc _ => says_lifted os started H enc)
#print axioms synthSays_holds
end Go.Proofs.Ytlnlgjbpkjfbjaa
