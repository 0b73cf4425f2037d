/- RegularSums holds: whatever two texts come in, in whatever memory, a sum of texts tells what either tells, a star of a star is a star, and one or more is one behind any number, by the automata, where the library's table holds what its initialiser lays; the law writes nothing that was there. -/
import Derived.Test.YtkkmdcnbifepjaaDoorRSumW
import Derived.Test.YtkkmdcnbifepjaaDoorPCl
import Derived.Test.YtkkmdcnbifepjaaDoorKLang
import Derived.Test.YtkkmdcnbifepjaaDoorKAlike
import Derived.Test.YtkkmdcnbifepjaaDoorBMixed
import Derived.Test.YtkkmdcnbifepjaaDoorPLaid
import Derived.ChangeMaps5
import Derived.ShutString
namespace Go.Proofs.YtkkmdcnbifepjaaDoor
open Go.ChangeShapes Go.WideShapes Go.ChangeAt Go.RowKit Go.Joins
set_option linter.unusedVariables false

/-- What a least automaton that is made leaves behind, whatever turns that was there before. -/
theorem least_turn {δ : Nat → Nat → Nat} {mk : Nat → Bool} {n l S : Nat} {W : World} {E : Ending} {w' : World} (hn : n ≤ 3000) (hl4 : l ≤ 4) (h : LeastGPost δ mk n l S W E w') :
    ∃ R M p c q d, LeastOf δ mk n l S R M ∧ E = .returned (.tuple #[detV l 0 p R.length c q M.length d, .int .i64 0]) ∧ W.grownBy w' none ∧ ∀ W'', Turn (fun g => g < W.heap.size) w' W'' → DetAt W'' ⟨l, 0, R, M⟩ p q := by
  obtain ⟨v, rfl, aR, cR, aM, cM, rs, M, he, hlo, hn7, hm7, hr7, ho7, hg7⟩ := h
  simp only [Ending.returned.injEq] at he
  subst he
  have key : ∀ w'', Owns W.heap.size w'' ((22, .slice aR rs.length cR, rs.map (·.1)) :: (3, .slice aM M.length cM, vals M) :: rowItems rs) → DetAt w'' ⟨l, 0, rs.map (·.2), M⟩ aR aM := fun w'' ho => det_of_owns (L := l) (S := 0) (its := []) (by rw [List.append_nil]; exact ho) (fun x hx => by rw [hr7 x hx]; unfold maxLen; omega) (by unfold maxLen; omega) (by unfold maxLen; omega)
  exact ⟨rs.map (·.2), M, aR, cR, aM, cM, hlo, by rw [List.length_map], hg7, fun W'' ht => key _ (ho7.turn ht fun it hm g hg => by have := (ho7.lt hm hg).1; omega)⟩

/-- The text's automaton, as it was made. -/
def XIs (mo : Nat → Rx) (i B : Nat) (W : World) (v : Value) : Prop :=
  ∃ R M p c q d, v = detV 4 0 p (List.length R) c q (List.length M) d ∧ LeastOf (setNx (mo i)) (setMk (mo i)) 2048 4 1024 R M ∧ nlet (mo i) ≤ 10 ∧ ∀ W'', Turn (fun g => g < B) W W'' → DetAt W'' ⟨4, 0, R, M⟩ p q
theorem XIs.turn {mo : Nat → Rx} {i B : Nat} {W W' : World} {v : Value} (h : XIs mo i B W v) (ht : Turn (fun g => g < B) W W') : XIs mo i B W' v := by
  obtain ⟨R, M, p, c, q, d, h1, h2, h3, h4⟩ := h
  exact ⟨R, M, p, c, q, d, h1, h2, h3, fun W'' h => h4 W'' (ht.trans h fun x hx => .inl hx)⟩
theorem det_post (i : Nat) (T : ByteArray) (hm : T.size ≤ maxLen) (X : Nat → Nat → World → Value → Prop) (W : World) (hT : Tab32 W)
    (hx : ∀ m, DetOk 4 T 4 m → ∀ w' R M p c q d, LeastOf (setNx m) (setMk m) 2048 4 1024 R M → (∀ W'', Turn (fun g => g < W.heap.size) w' W'' → DetAt W'' ⟨4, 0, R, M⟩ p q) → X i W.heap.size w' (detV 4 0 p R.length c q M.length d)) :
    Calls Tryd.prog 5 #[.int .i64 4, .string T] W (RPost i (detC 4 T) X W) := by
  by_cases hc : detC 4 T = 0
  · obtain ⟨l, m, hok⟩ := detC_ok hc
    have hl : l = 4 := by have := hok.let_; omega
    subst hl
    refine (detE_ok hok W hT).mono fun E w' h => ?_
    obtain ⟨R, M, p, c, q, d, h1, rfl, h3, h4⟩ := least_turn (by omega) (by omega) h
    exact ⟨_, _, _, _, _, _, _, _, by rw [hc]; rfl, fun _ => hx m hok w' R M p c q d h1 h4, h3⟩
  · refine (detE_bad T 4 W hm hc).mono fun E w' h => ?_
    obtain ⟨rfl, hg⟩ := h
    exact ⟨0, 0, none, 0, 0, none, 0, 0, rfl, fun e => absurd e hc, hg⟩

set_option maxHeartbeats 1600000 in
set_option maxRecDepth 100000 in
/-- Of unlike letters: not alike. -/
theorem alike_diff (L S L' S' : Int) (a a' b b' : Option Addr) (n c m c' n' d m' d' : Nat) (w : World) (h : L ≠ L') :
    Calls Tryd.prog 15 #[detV L S a n c a' m c', detV L' S' b n' d b' m' d'] w (Says (.bool false) w) := by
  obtain ⟨W0, hW0, g0, s0, C0⟩ := c4_new w (.int .i64 L) (.int .i64 S) (.slice a n c) (.slice a' m c')
  obtain ⟨W1, hW1, g1, s1, C1⟩ := c4_new W0 (.int .i64 L') (.int .i64 S') (.slice b n' d) (.slice b' m' d')
  rw [s0] at C1
  have HW1 : Hid (W1 = (w.alloc (.cells #[.int .i64 L, .int .i64 S, .slice a n c, .slice a' m c'] 25)).alloc (.cells #[.int .i64 L', .int .i64 S', .slice b n' d, .slice b' m' d'] 25)) := by show _ = _; rw [hW1, hW0]
  have G1 : Hid (w.grownBy W1 none) := grown_trans g0 g1
  obtain ⟨a0, a1, a2, a3⟩ := (C0.kept g1).get
  obtain ⟨e0, e1, e2, e3⟩ := C1.get
  rw [HW1.out] at a0 a1 a2 a3 e0 e1 e2 e3
  have f1 : (L != L') = true := by simpa using h
  clear hW0 hW1 g0 g1 s0 s1 C0 C1
  go_enter Tryd.func15, Tryd.ntmps15
  go_wp2_with fail
  go_ret
  exact ⟨rfl, by rw [← HW1.out]; exact G1.out⟩

/-- Two texts that tell the same have one least automaton. -/
theorem text_lang {m m' : Rx} {R R' : List (List Int)} {M M' : List Int} (h : LeastOf (setNx m) (setMk m) 2048 4 1024 R M) (h' : LeastOf (setNx m') (setMk m') 2048 4 1024 R' M') (hn : nlet m ≤ 10) (hn' : nlet m' ≤ 10) (he : ∀ z, tells m z ↔ tells m' z) : R = R' ∧ M = M' :=
  least_lang h h' (fun s a _ _ => setNx_lt hn s a) (fun s a _ _ => setNx_lt hn' s a) (by omega) (by omega) fun z _ => by
    have h1 := set_tells hn z
    have h2 := set_tells hn' z
    rw [Bool.eq_iff_iff, h1, h2]; exact he z
theorem text_acc {m : Rx} {R : List (List Int)} {M : List Int} (h : LeastOf (setNx m) (setMk m) 2048 4 1024 R M) (hn : nlet m ≤ 10) {z : List Nat} (hz : Lets 4 z) : accD ⟨4, 0, R, M⟩ z = true ↔ tells m z := by
  have := least_acc h (fun s a _ _ => setNx_lt hn s a) (by omega) hz
  rw [show accD ⟨4, 0, R, M⟩ z = accD ⟨((4 : Nat) : Int), 0, R, M⟩ z from rfl, this]
  exact set_tells hn z
theorem text_good {m : Rx} {R : List (List Int)} {M : List Int} (h : LeastOf (setNx m) (setMk m) 2048 4 1024 R M) (hn : nlet m ≤ 10) : Good ⟨((4 : Nat) : Int), 0, R, M⟩ :=
  LeastOf.good h (fun s a _ _ => setNx_lt hn s a) (by omega) (by omega) (by omega) (by omega)
theorem more_behind {m : Rx} (z : List Nat) : tells (.cat m (.alt .empty (starS m))) z ↔ tells (.cat (starS m) m) z := by
  constructor
  · rintro ⟨u, v, rfl, h1, h2⟩
    rcases h2 with h2 | h2
    · have h3 : v = [] := h2
      subst h3
      exact ⟨[], u, by simp, (tells_star m _).2 (StarW.nil _), h1⟩
    · obtain ⟨ws, h3, rfl⟩ := (tells_star m _).1 h2
      rcases List.eq_nil_or_concat ws with rfl | ⟨vs, x, rfl⟩
      · exact ⟨[], u, by simp, (tells_star m _).2 (StarW.nil _), h1⟩
      · refine ⟨u ++ vs.flatten, x, by simp, (tells_star m _).2 (StarW.put h1 ⟨vs, fun y hy => h3 y (by simp [hy]), rfl⟩), h3 x (by simp)⟩
  · rintro ⟨u, v, rfl, h1, h2⟩
    obtain ⟨ws, h3, rfl⟩ := (tells_star m _).1 h1
    cases ws with
    | nil => exact ⟨v, [], by simp, h2, .inl rfl⟩
    | cons y ws => exact ⟨y, ws.flatten ++ v, by simp, h3 y (by simp), .inr ((tells_star m _).2 (StarW.app ⟨ws, fun x hx => h3 x (by simp [hx]), rfl⟩ (StarW.one h2)))⟩

theorem mix_sum {ms mt : Rx} {R R' Rc Rd : List (List Int)} {M M' Mc Md : List Int} (h : LeastOf (setNx ms) (setMk ms) 2048 4 1024 R M) (hn : nlet ms ≤ 10) (h' : LeastOf (setNx mt) (setMk mt) 2048 4 1024 R' M') (hn' : nlet mt ≤ 10)
    (hc : LeastOf (setNx (.alt ms mt)) (setMk (.alt ms mt)) 2048 4 1024 Rc Mc) (hnc : nlet (.alt ms mt) ≤ 10) (hd : MixOf 14 ⟨((4 : Nat) : Int), 0, R, M⟩ ⟨((4 : Nat) : Int), 0, R', M'⟩ 4 Rd Md) : Rc = Rd ∧ Mc = Md := by
  have hg := text_good h hn
  have hg' := text_good h' hn'
  obtain ⟨k1, k2⟩ := mix_lt hg hg' (l := 4) rfl rfl
  refine least_lang hc hd (fun s a _ _ => setNx_lt hnc s a) k1 (by omega) k2 fun z hz => ?_
  rw [mix_acc hg hg' rfl rfl hz, tab14]
  have e1 := text_acc h hn hz
  have e2 := text_acc h' hn' hz
  have e3 := set_tells hnc z
  rw [Bool.eq_iff_iff, e3, Bool.or_eq_true]
  exact or_congr e1.symm e2.symm

theorem size3 (A s B : ByteArray) : (A ++ s ++ B).size = A.size + s.size + B.size := by simp only [ByteArray.size_append]
theorem size5 (A s B t C : ByteArray) : (A ++ s ++ B ++ t ++ C).size = A.size + s.size + B.size + t.size + C.size := by simp only [ByteArray.size_append]
def moS (ms mt : Rx) : Nat → Rx
  | 0 => ms
  | 1 => mt
  | 2 => .alt ms mt
  | 3 => starS (starS ms)
  | 4 => starS ms
  | 5 => .cat ms (.alt .empty (starS ms))
  | _ => .cat (starS ms) ms

theorem sums_walk (s t : ByteArray) (w : World) (hs : s.size ≤ maxLen) (ht : t.size ≤ maxLen) (hT : Tab32 w) : Calls Tryd.prog 4 #[.string s, .string t] w (Says (.bool true) w) := by
  have HC : Hid (∀ W, w.grownBy W none → Calls Tryd.prog 13 #[] W (Says (.bool true) W)) := fun W hW => closed_any W (hT.kept hW (by simp))
  have HT : ∀ W, w.grownBy W none → Tab32 W := fun W hW => hT.kept hW (by simp)
  by_cases hb : detC 4 s = 0 ∧ detC 4 t = 0
  · obtain ⟨l, ms, ok⟩ := detC_ok hb.1
    obtain ⟨l', mt, ok'⟩ := detC_ok hb.2
    obtain ⟨js, ps⟩ := ok.parse
    obtain ⟨jt, pt⟩ := ok'.parse
    have zs := (parse_end ps).1
    have zt := (parse_end pt).1
    have gen : ∀ i T, T.size ≤ maxLen → (∀ g J, parseR T = .good g J → g = moS ms mt i) → ∀ W, w.grownBy W none → Calls Tryd.prog 5 #[.int .i64 4, .string T] W (RPost i (detC 4 T) (XIs (moS ms mt)) W) := fun i T hz hp W hW =>
      det_post i T hz _ W (HT W hW) fun m hok w' R M p c q d h1 h2 => by
        obtain ⟨j, hj⟩ := hok.parse
        have e := hp m j hj
        subst e
        exact ⟨R, M, p, c, q, d, rfl, h1, hok.many, h2⟩
    have sz : ∀ T : ByteArray, T.size ≤ 100000 → T.size ≤ maxLen := fun T h => by unfold maxLen; omega
    refine rsum_walk s t w (detC 4 s) (detC 4 t) (detC 4 (sumT s t)) (detC 4 (starsT s)) (detC 4 (starT s)) (detC 4 (moreT s)) (detC 4 (behindT s)) (XIs (moS ms mt)) hs ht (fun i B W W' v h k => h.turn k) HC
      (gen 0 s hs fun g J h => by rw [ps] at h; cases h; rfl) (gen 1 t ht fun g J h => by rw [pt] at h; cases h; rfl)
      (fun _ _ => gen 2 _ (sz _ (by rw [size5]; show 1 + s.size + 3 + t.size + 1 ≤ 100000; omega)) fun g J h => sum_parse ps pt h) (fun _ _ => gen 3 _ (sz _ (by rw [size3]; show 2 + s.size + 4 ≤ 100000; omega)) fun g J h => stars_parse ps h)
      (fun _ _ => gen 4 _ (sz _ (by rw [size3]; show 1 + s.size + 2 ≤ 100000; omega)) fun g J h => star_parse ps h) (fun _ _ => gen 5 _ (sz _ (by rw [size5]; show 1 + s.size + 5 + s.size + 3 ≤ 100000; omega)) fun g J h => more_parse ps h)
      (fun _ _ => gen 6 _ (sz _ (by rw [size5]; show 1 + s.size + 3 + s.size + 1 ≤ 100000; omega)) fun g J h => behind_parse ps h) ?_ ?_ ?_
    · intro _ _ W va vb B B' ha hb'
      obtain ⟨R, M, p, c, q, d, rfl, h1, h2, h3⟩ := ha
      obtain ⟨R', M', p', c', q', d', rfl, h1', h2', h3'⟩ := hb'
      have hg := text_good h1 h2
      have hg' := text_good h1' h2'
      by_cases hN : R.length * R'.length ≤ 3000
      · refine (mixed_good 0 0 14 4 R R' M M' p q p' q' c d c' d' W (h3 W (Turn.refl _ _)) hg (h3' W (Turn.refl _ _)) hg' (by omega) hN).mono fun E w' h => ?_
        obtain ⟨Rd, Md, pd, cd, qd, dd, k1, rfl, k3, k4⟩ := least_turn hN (by omega) h
        refine ⟨_, _, _, _, _, _, _, _, _, rfl, fun W'' v B hW hv => ⟨true, ?_, fun _ => rfl⟩, k3⟩
        obtain ⟨Rc, Mc, pc, cc, qc, dc, rfl, c1, c2, c3⟩ := hv
        obtain ⟨rfl, rfl⟩ := mix_sum h1 h2 h1' h2' c1 c2 k1
        exact alike_same 4 0 Rc Mc pc qc pd qd cc dc cd dd W'' (c3 W'' (Turn.refl _ _)) (k4 W'' (Turn.of hW))
      · have hm : mixF ⟨((4 : Nat) : Int), 0, R, M⟩ ⟨((4 : Nat) : Int), 0, R', M'⟩ 14 = 7 := by
          unfold mixF
          have e1 : bothF ⟨((4 : Nat) : Int), 0, R, M⟩ ⟨((4 : Nat) : Int), 0, R', M'⟩ = 0 := by unfold bothF; rw [checkF_good hg, checkF_good hg']; simp
          rw [e1, if_neg (by simp), if_neg (by omega), if_pos (by simp only; omega)]
        have k := mixed_bad 4 0 4 0 14 R R' M M' p q p' q' c d c' d' W (h3 W (Turn.refl _ _)) (h3' W (Turn.refl _ _)) (by rw [show mixF ⟨4, 0, R, M⟩ ⟨4, 0, R', M'⟩ 14 = 7 from hm]; decide)
        rw [show mixF ⟨4, 0, R, M⟩ ⟨4, 0, R', M'⟩ 14 = 7 from hm] at k
        refine k.mono ?_
        rintro E w' ⟨rfl, hg⟩
        refine ⟨0, 0, none, 0, 0, none, 0, 0, 7, rfl, fun W'' v B hW hv => ⟨false, ?_, fun h => absurd h (by decide)⟩, hg⟩
        obtain ⟨Rc, Mc, pc, cc, qc, dc, rfl, c1, c2, c3⟩ := hv
        exact alike_diff 4 0 0 0 _ _ _ _ _ _ _ _ _ _ _ _ W'' (by decide)
    · intro _ _ W vc vd B B' hc hd
      obtain ⟨R, M, p, c, q, d, rfl, h1, h2, h3⟩ := hc
      obtain ⟨R', M', p', c', q', d', rfl, h1', h2', h3'⟩ := hd
      obtain ⟨rfl, rfl⟩ := text_lang h1 h1' h2 h2' (fun z => by show tells (starS (starS ms)) z ↔ tells (starS ms) z; rw [star_star])
      exact alike_same 4 0 R M p q p' q' c d c' d' W (h3 W (Turn.refl _ _)) (h3' W (Turn.refl _ _))
    · intro _ _ W vc vd B B' hc hd
      obtain ⟨R, M, p, c, q, d, rfl, h1, h2, h3⟩ := hc
      obtain ⟨R', M', p', c', q', d', rfl, h1', h2', h3'⟩ := hd
      obtain ⟨rfl, rfl⟩ := text_lang h1 h1' h2 h2' (fun z => more_behind z)
      exact alike_same 4 0 R M p q p' q' c d c' d' W (h3 W (Turn.refl _ _)) (h3' W (Turn.refl _ _))
  · have gen : ∀ i T, T.size ≤ maxLen → ∀ W, w.grownBy W none → Calls Tryd.prog 5 #[.int .i64 4, .string T] W (RPost i (detC 4 T) (fun _ _ _ _ => True) W) := fun i T hz W hW => det_post i T hz _ W (HT W hW) fun _ _ _ _ _ _ _ _ _ _ _ => trivial
    exact rsum_walk s t w (detC 4 s) (detC 4 t) 0 0 0 0 0 (fun _ _ _ _ => True) hs ht (fun _ _ _ _ _ _ _ => trivial) HC (gen 0 s hs) (gen 1 t ht)
      (fun h h' => absurd ⟨h, h'⟩ hb) (fun h h' => absurd ⟨h, h'⟩ hb) (fun h h' => absurd ⟨h, h'⟩ hb) (fun h h' => absurd ⟨h, h'⟩ hb) (fun h h' => absurd ⟨h, h'⟩ hb) (fun h h' => absurd ⟨h, h'⟩ hb) (fun h h' => absurd ⟨h, h'⟩ hb) (fun h h' => absurd ⟨h, h'⟩ hb)

set_option maxRecDepth 100000 in
theorem sums_lifted (os : Os) (started : os.Started) (H : Type) (enc : TypeId × Value → H) :
    ReturnsInHanded {} Tryd.checked os 4 .any (fun w args => (Rows.regularSumsSpec.pre enc Tryd.prog Tryd.f4 [] false w args ∧ laidMetH Tryd.prog laid32 w) ∧ sizedMet enc Tryd.prog Tryd.f4 (OpenSpec.ofChange Rows.regularSumsSpec) false w args)
      (Rows.regularSumsSpec.post enc Tryd.prog Tryd.f4 false true false false) := by
  refine returnsInHanded_of_change_and (C := Tryd.checked) (X := fun w _ => laidMetH Tryd.prog laid32 w) (fun _ _ _ hh h => h.of_heap hh) own32 started (by kernel_rfl) Tryd.func4
    (ChangeSpec.witness_shaped (enc := enc) (C := Tryd.checked) (os := os) (X := fun w _ => laidMetH Tryd.prog laid32 w) false (World.doorLaid Tryd.prog 400 os) #[.string ByteArray.empty, .string ByteArray.empty] 8 rfl (World.shaped_of_RefB (by kernel_rfl) (by kernel_rfl)) (by kernel_rfl) (by kernel_rfl) (by kernel_rfl) (door32 os _)) ?_
  intro W base args ds gs before hval0 hW _ _ hL _
  have hval : ∀ (j : Nat) t v, Tryd.f4.params[j]? = some t → args[j]? = some v → Value.okWide Tryd.prog W .any base t v := hval0
  have hW' := hW
  obtain ⟨p, q, hA0, hV, rfl, hfz, hnd⟩ := hW
  have hA : DataW.TrodAll enc Tryd.prog W 0 (fun _ => true) true Tryd.f4.params.toList args.toList ds p := hA0
  rw [Tryd.params4] at hA hval
  obtain ⟨v0, vs0, d0, ds0, p0, q0, hargs, rfl, rfl, h0, r0⟩ := trodAll_cons hA
  obtain ⟨v1, vs1, d1, ds1, p1, q1, rfl, rfl, rfl, h1, r1⟩ := trodAll_cons r0
  obtain ⟨rfl, rfl, rfl⟩ := trodAll_nil r1
  obtain rfl : args = #[v0, v1] := by cases args; simp_all
  obtain ⟨rfl, rfl⟩ := trodVars_none hV
  obtain ⟨s, rfl, rfl, rfl, hs⟩ := Go.ChangeMaps.open_string Tryd.underlying9 (hval 0 9 v0 rfl rfl) h0
  obtain ⟨t, rfl, rfl, rfl, ht⟩ := Go.ChangeMaps.open_string Tryd.underlying9 (hval 1 9 v1 rfl rfl) h1
  have hT := tab32_of_laid hL
  clear hA0 hval0
  refine (sums_walk s t W hs ht hT).mono fun E W' ⟨he, hg⟩ => ?_
  subst he
  have bel : Below W.heap.size W W' := below_of_grown hg
  exact ⟨_, rfl, _, _, _, [], _, [], hW', trodAll_mk1 (shut_bool Tryd.underlying4 _), trodAll_cons_mk (Go.ChangeMaps.shut_string Tryd.underlying9 hs) (trodAll_cons_mk (Go.ChangeMaps.shut_string Tryd.underlying9 ht) trodAll_mk0), rfl, bel.frame _, fun h => by cases h⟩

theorem regularSums_holds : Rows.RegularSumsSaid :=
  OpenClaim.holds_of_wide 4 Tryd.f4 rfl rfl rfl rfl rfl rfl rfl ⟨rfl, rfl, rfl, rfl, rfl⟩ rfl rfl rfl rfl rfl (by kernel_rfl) Tryd.func4 (by kernel_rfl)
    (of_decide_eq_true (by kernel_rfl)) (by unfold Func.isWrapper; first | (rw [if_pos (by decide +kernel)]; kernel_rfl) | (rw [if_neg (by decide +kernel)]; exact ⟨rfl, rfl⟩))
    (fun os started H enc _ => sums_lifted os started H enc)
#print axioms regularSums_holds
end Go.Proofs.YtkkmdcnbifepjaaDoor
