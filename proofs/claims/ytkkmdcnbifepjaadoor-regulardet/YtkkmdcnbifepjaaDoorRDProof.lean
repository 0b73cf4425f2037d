/- RegularDet holds: whatever letters, text and word come in, in whatever memory, the text's automaton is the reference's, and it accepts the words that the text tells, where the library's table holds what its initialiser lays; the law writes nothing that was there. -/
import Derived.Test.YtkkmdcnbifepjaaDoorRDw
import Derived.Test.YtkkmdcnbifepjaaDoorPLD
import Derived.Test.YtkkmdcnbifepjaaDoorKPl
import Derived.Test.YtkkmdcnbifepjaaDoorPDd
import Derived.Test.YtkkmdcnbifepjaaDoorEHs
import Derived.Test.YtkkmdcnbifepjaaDoorRfs
import Derived.Test.YtkkmdcnbifepjaaDoorPLaid
import Derived.ChangeMaps5
import Derived.ShutString
namespace Go.Proofs.YtkkmdcnbifepjaaDoor
open Go.ChangeShapes Go.WideShapes Go.ChangeAt Go.RowKit Go.Joins
set_option linter.unusedVariables false

/-- What a least automaton that is made leaves behind. -/
theorem leastD_at {δ : Nat → Nat → Nat} {mk : Nat → Bool} {n l S : Nat} {W : World} {E : Ending} {w' : World} (hn : n ≤ 3000) (hl4 : l ≤ 4) (h : LeastGPost δ mk n l S W E w') :
    ∃ R M p c q d, LeastOf δ mk n l S R M ∧ E = .returned (.tuple #[detV l 0 p R.length c q M.length d, .int .i64 0]) ∧ W.grownBy w' none ∧ DetAt w' ⟨l, 0, R, M⟩ p q := by
  obtain ⟨v, rfl, aR, cR, aM, cM, rs, M, he, hlo, hn7, hm7, hr7, ho7, hg7⟩ := h
  simp only [Ending.returned.injEq] at he
  subst he
  exact ⟨rs.map (·.2), M, aR, cR, aM, cM, hlo, by rw [List.length_map], hg7, det_of_owns (L := l) (S := 0) (its := []) (by rw [List.append_nil]; exact ho7) (fun x hx => by rw [hr7 x hx]; unfold maxLen; omega) (by unfold maxLen; omega) (by unfold maxLen; omega)⟩

/-- The reference's list of parts of a text lies at V. -/
def ReadAt (m : Rx) (W : World) (V : Value) : Prop := ∃ ps k, PL W V ps ∧ k + 1 = ps.length ∧ Means ps 0 k m ∧ ps.length ≤ 13000
theorem ReadAt.kept {m : Rx} {W W' : World} {V : Value} (h : ReadAt m W V) (hg : W.grownBy W' none) : ReadAt m W' V := by
  obtain ⟨ps, k, h1, h2⟩ := h
  exact ⟨ps, k, h1.kept hg, h2⟩
theorem read_good {s : ByteArray} {m : Rx} {j : Nat} (hp : parseR s = .good m j) (hs : s.size ≤ maxLen) (W : World) :
    Calls Tryd.prog 7 #[.string s] W fun E W' => ∃ V, E = .returned (.tuple #[V, .agg #[.int .i64 0, .int .i64 0]]) ∧ (∀ W'', W'.grownBy W'' none → ReadAt m W'' V) ∧ W.grownBy W' none := by
  refine (rparse_any s W hs).mono fun E W' h => ?_
  rw [hp] at h
  obtain ⟨hb, L, ps, b, k, rfl, hle, hP, hk, hM, hps⟩ := h
  exact ⟨L, rfl, fun W'' hg => ⟨ps, k, hP.pl.kept hg, hk, hM, hps⟩, grown_of_below hb⟩
theorem letters_read {s : ByteArray} {m : Rx} {j : Nat} (hp : parseR s = .good m j) {ps : List PartR} {k : Nat} (hk : k + 1 = ps.length) (hM : Means ps 0 k m) (hps : ps.length ≤ 13000) {W : World} {V : Value} (hL : PL W V ps) :
    ∀ W', W.grownBy W' none → Calls Tryd.prog 25 #[V] W' fun E w' => E = .returned (.tuple #[.int .i64 ((nlet m : Nat) : Int), .int .i64 ((greatL s s.size : Int) - 1)]) ∧ w' = W' := by
  intro W' hg
  obtain ⟨hmx, hnn⟩ := parse_great hp
  have h1 := (plc_is hM hk hnn).many
  have h2 := means_great hM hnn
  rw [hk] at h2
  have h3 : glS ps ps.length = (greatL s s.size : Int) - 1 := by
    rw [h2, hmx]
    show max (-1 : Int) _ = _
    omega
  have := lettersR_any ps hps (by omega) W' V (hL.kept hg)
  rwa [← h1, h3] at this
theorem detR_detC {s : ByteArray} {m : Rx} {j : Nat} (hp : parseR s = .good m j) (L : Int) : detR L (nlet m) ((greatL s s.size : Int) - 1) = detC L s := by
  unfold detC detR
  rw [hp, parse_many hp]
theorem detRef_bad {s : ByteArray} {m : Rx} {j : Nat} (hp : parseR s = .good m j) (L : Int) (hb : detC L s ≠ 0) (W : World) (V : Value) (h : ReadAt m W V) :
    Calls Tryd.prog 8 #[.int .i64 L, V] W (Says (.tuple #[.agg #[.int .i64 0, .int .i64 0, .slice none 0 0, .slice none 0 0], .int .i64 (detC L s)]) W) := by
  obtain ⟨ps, k, hL, hk, hM, hps⟩ := h
  have e := detR_detC hp L
  have := detR_bad L ((greatL s s.size : Int) - 1) (nlet m) (by rw [e]; exact hb) V W (letters_read hp hk hM hps hL)
  rwa [e] at this
/-- The reference's automaton lies there. -/
def RefAt (m : Rx) (l : Nat) (W : World) (p : Option Addr) (n c : Nat) (q : Option Addr) (k d : Nat) : Prop :=
  ∃ R M S r, n = List.length R ∧ k = List.length M ∧ PlcIs m (nlet m) S r ∧ LeastOf (dset (stpP (nlet m) S r (nlet m + 1))) (mset (finP (nlet m) r (nlet m + 1))) (2 ^ (nlet m + 1)) l (2 ^ nlet m) R M ∧ DetAt W ⟨l, 0, R, M⟩ p q
/-- The program's. -/
def OwnAt (m : Rx) (l : Nat) (W : World) (p : Option Addr) (n c : Nat) (q : Option Addr) (k d : Nat) : Prop :=
  ∃ R M, n = List.length R ∧ k = List.length M ∧ LeastOf (setNx m) (setMk m) 2048 l 1024 R M ∧ DetAt W ⟨l, 0, R, M⟩ p q
theorem detRef_good {s : ByteArray} {m : Rx} {j l : Nat} (hp : parseR s = .good m j) (h1 : 1 ≤ l) (h4 : l ≤ 4) (hgl : greatL s s.size ≤ l) (hn : nlet m ≤ 10) (W : World) (V : Value) (h : ReadAt m W V) :
    Calls Tryd.prog 8 #[.int .i64 (l : Int), V] W fun E W' => ∃ p n c q k d, E = .returned (.tuple #[.agg #[.int .i64 (l : Int), .int .i64 0, .slice p n c, .slice q k d], .int .i64 0]) ∧ (∀ W'', W'.grownBy W'' none → RefAt m l W'' p n c q k d) ∧ W.grownBy W' none := by
  obtain ⟨ps, k, hL, hk, hM, hps⟩ := h
  obtain ⟨hmx, hnn⟩ := parse_great hp
  have hP := plc_is hM hk hnn
  have e := hP.many
  have hat : (runS ps ps.length).at_ = nlet m := e.symm
  rw [hat] at hP
  have k2 : 2 ^ (nlet m + 1) ≤ 2048 := by
    have : 2 ^ (nlet m + 1) ≤ 2 ^ 11 := Nat.pow_le_pow_right (by decide) (by omega)
    simpa using this
  have tl : (stpP (nlet m) (runS ps ps.length) ((runS ps ps.length).es.getD ((runS ps ps.length).es.length - 1) e0) (nlet m + 1)).length ≤ 1000 := by
    refine Nat.le_trans (stpP_len _ _ _ _) ?_
    refine Nat.le_trans (Nat.mul_le_mul (show nlet m + 1 ≤ 11 by omega) hn) (by omega)
  have fl : (finP (nlet m) ((runS ps ps.length).es.getD ((runS ps ps.length).es.length - 1) e0) (nlet m + 1)).length ≤ 1000 := Nat.le_trans (finP_len _ _ _) (by omega)
  refine (detR_good l (nlet m) 0 ((greatL s s.size : Int) - 1) _ _ h1 h4 hn (by omega) (hP.inT (by omega)) hP.inF tl fl V W (letters_read hp hk hM hps hL)
    (fun W' hg => (places_any (l : Int) ps (nlet m) k m hM hk hps hat hn W' V (hL.kept hg)).mono fun E w' h => h)).mono fun E W' h => ?_
  obtain ⟨R, M, p, c, q, d, k1, rfl, k3, k4⟩ := leastD_at (by omega) h4 h
  exact ⟨p, _, c, q, _, d, rfl, fun W'' hg => ⟨R, M, _, _, rfl, rfl, hP, k1, k4.grown hg⟩, k3⟩

theorem nat_ints {z : List Int} (h : ∀ k, k < z.length → 0 ≤ z.getD k 0) : natInts (z.map Int.toNat) = z := by
  apply List.ext_getElem
  · simp [natInts]
  · intro i h1 h2
    have := h i h2
    rw [getD_lt h2] at this
    simp [natInts]; omega

set_option maxRecDepth 100000 in
theorem det_walk (L : Int) (s : ByteArray) (a : Option Addr) (cz : Nat) (z : List Int) (w : World) (hs : s.size ≤ maxLen) (hz : Ints w a z) (hzm : z.length ≤ maxLen) (hT : Tab32 w) :
    Calls Tryd.prog 3 #[.int .i64 L, .string s, .slice a z.length cz] w (Says (.bool true) w) := by
  have HN : ∀ W, Calls Tryd.prog 6 #[.agg #[.int .i64 0, .int .i64 0, .slice none 0 0, .slice none 0 0]] W (Says (.bool true) W) := fun W =>
    (noDet_any 0 0 0 0 none none 0 0 W (by omega) (by omega)).mono fun E W' h => by
      obtain ⟨b, rfl, hb, hg⟩ := h
      have : b = true := hb.2 ⟨rfl, rfl, rfl⟩
      exact ⟨by rw [this], hg⟩
  cases hp : parseR s with
  | bad c j =>
    exact rd_syntax L c j s _ w hs (parseR_nz hp) (detE_syntax s L c j w hs hp) HN fun W => (rparse_any s W hs).mono fun E W' h => by
      rw [hp] at h
      exact ⟨h.2, grown_of_below h.1⟩
  | good m j =>
    by_cases hc : detC L s = 0
    · obtain ⟨l, m', ok⟩ := detC_ok hc
      have em : m' = m := by
        obtain ⟨j', hj⟩ := ok.parse
        rw [hp] at hj; cases hj; rfl
      subst em
      obtain rfl : L = (l : Int) := ok.let_
      obtain ⟨hmx, hnn⟩ := parse_great hp
      have hn := ok.many
      refine rd_good (l : Int) (mayF (l : Int) z) (saysB z (den m')) s _ w (ReadAt m') (OwnAt m' l) (RefAt m' l) hs ?_ ?_ (read_good hp hs) (detRef_good hp ok.l1 ok.l4 ok.great hn) ?_ ?_ ?_ ?_
      · refine (detE_ok ok w hT).mono fun E W' h => ?_
        obtain ⟨R, M, p, c, q, d, k1, rfl, k3, k4⟩ := leastD_at (by omega) ok.l4 h
        exact ⟨p, _, c, q, _, d, rfl, fun W'' hg => ⟨R, M, rfl, rfl, k1, k4.grown hg⟩, k3⟩
      · intro W p n c q k d h
        obtain ⟨R, M, rfl, rfl, k1, k2⟩ := h
        have hG : Good ⟨(l : Int), 0, R, M⟩ := LeastOf.good k1 (fun s a _ _ => setNx_lt hn s a) (by omega) ok.l1 ok.l4 (by omega)
        have r1 : R.length ≤ 3000 := hG.n3
        have r2 : M.length = R.length := hG.ml
        refine (noDet_any (l : Int) 0 R.length M.length p q c d W (by omega) (by omega)).mono fun E W' h => ?_
        obtain ⟨b, rfl, _, hg⟩ := h
        exact ⟨b, rfl, hg⟩
      · intro W p n c q k d p' n' c' q' k' d' h h'
        obtain ⟨R, M, rfl, rfl, k1, k2⟩ := h
        obtain ⟨R', M', S, r, rfl, rfl, g0, g1, g2⟩ := h'
        obtain ⟨rfl, rfl⟩ := det_same g0 hn k1 g1
        refine (same_any (l : Int) 0 (l : Int) 0 R R M M p q p' q' c d c' d' W k2 g2).mono fun E W' h => ?_
        obtain ⟨b, rfl, hb, hg⟩ := h
        have : b = true := hb.2 rfl
        exact ⟨by rw [this], hg⟩
      · intro W hg
        exact mayR_any (l : Int) a cz z W (hz.grown hg) hzm
      · intro hy W p n c q k d hg h
        obtain ⟨R, M, rfl, rfl, k1, k2⟩ := h
        obtain ⟨y1, y2⟩ := mayF_letters hy
        have hG : Good ⟨(l : Int), 0, R, M⟩ := LeastOf.good k1 (fun s a _ _ => setNx_lt hn s a) (by omega) ok.l1 ok.l4 (by omega)
        have key : accB ⟨(l : Int), 0, R, M⟩ z = saysB z (den m') := by
          have e := nat_ints (z := z) fun k hk => (y2 k hk).1
          have hl : Lets l (z.map Int.toNat) := fun b hb => by
            obtain ⟨x, hx, rfl⟩ := List.mem_map.1 hb
            obtain ⟨i, hi, rfl⟩ := List.getElem_of_mem hx
            have := y2 i hi
            rw [getD_lt hi] at this
            omega
          have e1 := least_acc k1 (fun s a _ _ => setNx_lt hn s a) (by omega) hl
          have e2 := set_tells hn (z.map Int.toNat)
          have e3 := says_tells hnn (z.map Int.toNat)
          rw [e] at e3
          have e4 : accB ⟨(l : Int), 0, R, M⟩ z = accD ⟨(l : Int), 0, R, M⟩ (z.map Int.toNat) := by
            unfold accB accD Dfa.go
            rw [List.foldl_map]
          rw [e4, e1]
          exact Bool.eq_iff_iff.2 (e2.trans e3.symm)
        rw [← key]
        exact acceptsR_any (l : Int) 0 R M p q a c d cz z W k2 hG (hz.grown hg) hzm y2
      · intro hy W V hg h
        obtain ⟨ps, k, hL, hk, hM, hps⟩ := h
        exact rhas_any hM hk V a cz z (mayF_letters hy).1 hps W hL (hz.grown hg)
    · exact rd_bad L (detC L s) s _ w (ReadAt m) hs hc (detE_bad s L w hs hc) HN (read_good hp hs) (detRef_bad hp L hc)

set_option maxRecDepth 100000 in
theorem det_lifted (os : Os) (started : os.Started) (H : Type) (enc : TypeId × Value → H) :
    ReturnsInHanded {} Tryd.checked os 3 .any (fun w args => (Rows.regularDetSpec.pre enc Tryd.prog Tryd.f3 [] false w args ∧ laidMetH Tryd.prog laid32 w) ∧ sizedMet enc Tryd.prog Tryd.f3 (OpenSpec.ofChange Rows.regularDetSpec) false w args)
      (Rows.regularDetSpec.post enc Tryd.prog Tryd.f3 false true false false) := by
  refine returnsInHanded_of_change_and (C := Tryd.checked) (X := fun w _ => laidMetH Tryd.prog laid32 w) (fun _ _ _ hh h => h.of_heap hh) own32 started (by kernel_rfl) Tryd.func3
    (ChangeSpec.witness_shaped (enc := enc) (C := Tryd.checked) (os := os) (X := fun w _ => laidMetH Tryd.prog laid32 w) false (World.doorLaid Tryd.prog 400 os) #[.int .i64 0, .string ByteArray.empty, .slice none 0 0] 8 rfl (World.shaped_of_RefB (by kernel_rfl) (by kernel_rfl)) (by kernel_rfl) (by kernel_rfl) (by kernel_rfl) (door32 os _)) ?_
  intro W base args ds gs before hval0 hW _ _ hL _
  have hval : ∀ (j : Nat) t v, Tryd.f3.params[j]? = some t → args[j]? = some v → Value.okWide Tryd.prog W .any base t v := hval0
  have hW' := hW
  obtain ⟨p, q, hA0, hV, rfl, hfz, hnd⟩ := hW
  have hA : DataW.TrodAll enc Tryd.prog W 0 (fun _ => true) true Tryd.f3.params.toList args.toList ds p := hA0
  rw [Tryd.params3] at hA hval
  obtain ⟨v0, vs0, d0, ds0, p0, q0, hargs, rfl, rfl, h0, r0⟩ := trodAll_cons hA
  obtain ⟨v1, vs1, d1, ds1, p1, q1, rfl, rfl, rfl, h1, r1⟩ := trodAll_cons r0
  obtain ⟨v2, vs2, d2, ds2, p2, q2, rfl, rfl, rfl, h2, r2⟩ := trodAll_cons r1
  obtain ⟨rfl, rfl, rfl⟩ := trodAll_nil r2
  obtain rfl : args = #[v0, v1, v2] := by cases args; simp_all
  obtain ⟨rfl, rfl⟩ := trodVars_none hV
  have lt2 : ∀ x ∈ p2, x.block < W.heap.size := by obtain ⟨m, hm⟩ := h2; exact DataW.trod_lt m _ _ _ hm
  obtain ⟨n0, rfl, rfl, rfl, wn0⟩ := open_int Tryd.underlying3 (hval 0 3 v0 rfl rfl) h0
  obtain ⟨s, rfl, rfl, rfl, hs⟩ := Go.ChangeMaps.open_string Tryd.underlying9 (hval 1 9 v1 rfl rfl) h1
  obtain ⟨aw, cw, zs, rfl, iz, mz⟩ := slice_of_trod (hval 2 22 v2 rfl rfl) h2
  have hT := tab32_of_laid hL
  clear hA0 hval0
  refine (det_walk n0 s aw cw zs W hs iz mz hT).mono fun E W' ⟨he, hg⟩ => ?_
  subst he
  have bel : Below W.heap.size W W' := below_of_grown hg
  exact ⟨_, rfl, _, _, _, [], _, [], hW', trodAll_mk1 (shut_bool Tryd.underlying4 _), trodAll_cons_mk (shut_int Tryd.underlying3 wn0) (trodAll_cons_mk (Go.ChangeMaps.shut_string Tryd.underlying9 hs) (trodAll_cons_mk (Below.trod Tryd.laidOut (by kernel_rfl) (of_decide_eq_true (by kernel_rfl)) h2 bel lt2) trodAll_mk0)), rfl, bel.frame _, fun h => by cases h⟩

theorem regularDet_holds : Rows.RegularDetSaid :=
  OpenClaim.holds_of_wide 3 Tryd.f3 rfl rfl rfl rfl rfl rfl rfl ⟨rfl, rfl, rfl, rfl, rfl⟩ rfl rfl rfl rfl rfl (by kernel_rfl) Tryd.func3 (by kernel_rfl)
    (of_decide_eq_true (by kernel_rfl)) (by unfold Func.isWrapper; first | (rw [if_pos (by decide +kernel)]; kernel_rfl) | (rw [if_neg (by decide +kernel)]; exact ⟨rfl, rfl⟩))
    (fun os started H enc _ => det_lifted os started H enc)
#print axioms regularDet_holds
end Go.Proofs.YtkkmdcnbifepjaaDoor
