/- What the reference keeps while it goes through words: the words, and which pairs were seen. The state behind a word. -/
import Derived.Test.YtdajdnilhjcniaaTdUnD
import Derived.Test.YtdajdnilhjcniaaTnRefR
import Derived.Test.YtdajdnilhjcniaaTrRow1
namespace Go.Proofs.Ytdajdnilhjcniaa
open Go.RowKit
set_option linter.unusedVariables false
set_option linter.unusedSimpArgs false

def LieL (W : World) (g : Nat) (t : Trip) : Prop := Ints W t.1 t.2.2 ∧ t.2.2.length ≤ 60 ∧ (t.2.2 = [] ∨ ∃ y, t.1 = some y ∧ y.block ≠ g ∧ y.block < W.heap.size)
theorem LieL.grown {W W' : World} {g : Nat} {t : Trip} (h : LieL W g t) (hg : W.grownBy W' none) : LieL W' g t :=
  ⟨h.1.grown hg, h.2.1, h.2.2.imp id fun ⟨y, h1, h2, h3⟩ => ⟨y, h1, h2, Nat.lt_of_lt_of_le h3 hg.size⟩⟩
theorem LieL.turn {W W' : World} {g b : Nat} {t : Trip} (h : LieL W g t) (hg : W.grownBy W' (some b)) (hb : t.2.2 = [] ∨ ∀ y, t.1 = some y → y.block ≠ b) : LieL W' g t := by
  refine ⟨?_, h.2.1, h.2.2.imp id fun ⟨y, h1, h2, h3⟩ => ⟨y, h1, h2, Nat.lt_of_lt_of_le h3 hg.size⟩⟩
  rcases hb with hb | hb
  · exact .inl hb
  · exact h.1.far hb hg
structure OwnL (W1 W : World) (g c : Nat) (ps : List Trip) : Prop where
  own : W.ownsRow W1.heap.size 22 1 (.slice (some ⟨g, 0, none⟩) ps.length c) ps.length (valsT ps)
  gr : W1.grownBy W none
  lie : ∀ x, x ∈ ps → LieL W g x
theorem OwnL.g_lt {W1 W : World} {g c : Nat} {ps : List Trip} (h : OwnL W1 W g c ps) : W1.heap.size ≤ g ∧ g < W.heap.size := h.own.lt g rfl
theorem OwnL.grown {W1 W W' : World} {g c : Nat} {ps : List Trip} (h : OwnL W1 W g c ps) (hg : W.grownBy W' none) : OwnL W1 W' g c ps :=
  ⟨h.own.kept hg (.inr (by simp [Value.ownBlock])), grown_trans h.gr hg, fun x hx => (h.lie x hx).grown hg⟩
theorem OwnL.blk {W1 W : World} {g c : Nat} {ps : List Trip} (h : OwnL W1 W g c ps) : ∃ cur, W.heap[g]? = some (.cells cur 22 (0, 0)) := by
  rcases h.own.2 with ⟨e0, _⟩ | ⟨g', cap, cur, e1, _, hh, _⟩
  · cases e0
  · simp only [Value.slice.injEq, Option.some.injEq, Addr.mk.injEq] at e1
    obtain ⟨⟨rfl, _⟩, _⟩ := e1
    exact ⟨cur, hh⟩
theorem OwnL.ne {W1 W : World} {g c gs n : Nat} {ps : List Trip} {o : Nat → Bool} (h : OwnL W1 W g c ps) (k : BRow W gs n o) : g ≠ gs := by
  obtain ⟨cur, h1⟩ := h.blk
  obtain ⟨cur', k1, _⟩ := k
  intro e
  subst e
  rw [h1] at k1
  simp at k1
/-- A truth is written. -/
theorem OwnL.set {W1 W : World} {g c gs n i : Nat} {ps : List Trip} {o : Nat → Bool} {b : Bool} (h : OwnL W1 W g c ps) (k : BRow W gs n o) (hb : W1.heap.size ≤ gs) : OwnL W1 (W.setCell ⟨gs, i, none⟩ (.bool b)) g c ps := by
  have hg := grown_set W ⟨gs, i, none⟩ (.bool b)
  refine ⟨h.own.kept hg (.inr (by have := h.ne k; simp [Value.ownBlock]; omega)), grown_of_below ((below_of_grown h.gr).grown hg h.gr.size (fun k hk => by cases hk; exact hb)), fun x hx => ?_⟩
  have ht := h.lie x hx
  refine ht.turn hg ?_
  by_cases he : x.2.2 = []
  · exact .inl he
  · refine .inr fun y hy => ?_
    obtain ⟨bb, off, hb', hc⟩ := ht.1.at (List.length_pos_iff.2 he)
    rw [hb'] at hy
    cases hy
    have hc0 := hc 0 (List.length_pos_iff.2 he)
    intro e
    simp only at e
    subst e
    obtain ⟨cur, k1, k2, k3⟩ := k
    rw [cell_of_row _ _ _ _ _ (0, 0) k1] at hc0
    have hlt : off + 0 < cur.size := (Array.getElem?_eq_some_iff.1 hc0).1
    rw [k3 _ (by omega)] at hc0
    cases hc0
theorem OwnL.at {W1 W : World} {g c : Nat} {ps : List Trip} (h : OwnL W1 W g c ps) {i : Nat} (hi : i < ps.length) : W.cell? ⟨g, i, none⟩ = some (valT (ps.getD i (none, 0, []))) := by
  rw [h.own.cellAt i (by omega)]
  simp only [valsT, List.getElem?_map, List.getElem?_eq_getElem hi, Option.map_some, List.getD, Option.getD_some]
theorem OwnL.put {W1 W : World} {g c : Nat} {ps : List Trip} {x : Trip} {B d : Nat} (h : OwnL W1 W g c ps) (hx : W.cell? ⟨B, 0, none⟩ = some (valT x)) (hm : LieL W g x) (hl : ps.length + 1 ≤ 1000) :
    ∃ g1 c1 W', (AppY #[23, 23] 23 #[.slice (some ⟨g, 0, none⟩) ps.length c, .slice (some ⟨B, 0, none⟩) 1 d]).run Try.prog W = .ok (.slice (some ⟨g1, 0, none⟩) (ps.length + 1) c1) W' ∧ OwnL W1 W' g1 c1 (ps ++ [x]) ∧ W.grownBy W' (some g) := by
  obtain ⟨i0, hi0, hz0, hz1, hz2⟩ := info_partsY Try.infoSlY
  obtain ⟨g1, c1, w1, hr, h2, h3, h4, h5⟩ := run_append_lies (P := Try.prog) W 23 23 W1.heap.size 22 i0 (.slice none 0 0) 1 24 Try.underlying23 hi0 hz0 hz1 hz2 rfl (by decide) (.slice (some ⟨g, 0, none⟩) ps.length c) ps.length (valsT ps) h.own ⟨B, 0, none⟩ 1 d [valT x] (by simp) (fun j u hu => by
      have hj : j < 1 := by have := (List.getElem?_eq_some_iff.1 hu).1; simpa using this
      have e : j = 0 := by omega
      subst e
      simp only [List.getElem?_cons_zero, Option.some.injEq] at hu
      rw [← hu]
      exact hx) (by intro u hu; rw [List.mem_singleton.1 hu]; rfl) (by omega) (by unfold maxLen; omega) (by omega) h.gr.size _ rfl
  have hg : W.grownBy w1 (some g) := h3
  have hlie : ∀ t : Trip, LieL W g t → LieL w1 g1 t := fun t ht => by
    have h6 := ht.turn hg (by
      rcases ht.2.2 with h1 | ⟨y, h1, h2, _⟩
      · exact .inl h1
      · exact .inr fun y' hy' => by rw [h1] at hy'; cases hy'; exact h2)
    refine ⟨h6.1, h6.2.1, ?_⟩
    rcases ht.2.2 with h1 | ⟨y, h1, h2, h3⟩
    · exact .inl h1
    · refine .inr ⟨y, h1, ?_, Nat.lt_of_lt_of_le h3 hg.size⟩
      rcases h4 with h4 | h4
      · have : g = g1 := by simpa [Value.ownBlock] using h4
        rw [← this]; exact h2
      · rw [h4]; omega
  have e : valsT ps ++ [valT x] = valsT (ps ++ [x]) := by simp [valsT]
  refine ⟨g1, c1, w1, hr, ⟨by rw [List.length_append, ← e]; exact h2, grown_of_below ((below_of_grown h.gr).grown hg h.gr.size (fun k hk => by cases hk; exact h.g_lt.1)), fun y hy => ?_⟩, hg⟩
  rcases List.mem_append.1 hy with hy | hy
  · exact hlie _ (h.lie y hy)
  · rw [List.mem_singleton.1 hy]; exact hlie _ hm
theorem ownL_one {W1 w : World} (g : W1.grownBy w none) (a : Option Addr) (c : Nat) : OwnL W1 (w.alloc (.cells #[.slice a 0 c] 22)) w.heap.size 1 [(a, c, [])] := by
  refine ⟨⟨rfl, .inr ⟨w.heap.size, 1, _, rfl, g.size, heap_alloc_new w _, by simp, by unfold maxLen; omega, by simp, by simp [valsT, valT]⟩⟩, grown_trans g (grown_alloc _ _), fun y hy => ?_⟩
  rw [List.mem_singleton.1 hy]
  exact ⟨.inl rfl, by simp, .inl rfl⟩

/-- Behind i looks. -/
def RfSt (x y : TrI) (I : Nat) (W1 : World) (gs i : Nat) (v8 : Value) (W : World) : Prop :=
  ∃ g c ps ws S, v8 = .slice (some ⟨g, 0, none⟩) (List.length ps) c ∧ Qst x y I i ws S ∧ wordsT ps = ws.map nsT ∧ OwnL W1 W g c ps ∧ BRow W gs (x.N.length * y.N.length) (fun j => decide (j ∈ S))
def RfIn (x y : TrI) (W1 : World) (gs i k : Nat) (ws : List (List Nat)) (S : List Nat) (v8 : Value) (W : World) : Prop :=
  ∃ g c ps, v8 = .slice (some ⟨g, 0, none⟩) (List.length ps) c ∧ wordsT ps = (ws ++ kidsTo k (ws.getD i [])).map nsT ∧ OwnL W1 W g c ps ∧ BRow W gs (x.N.length * y.N.length) (fun j => decide (j ∈ S))
theorem trip_at {ps : List Trip} {ws : List (List Nat)} (h : wordsT ps = ws.map nsT) {i : Nat} (hi : i < ps.length) : (ps.getD i (none, 0, [])).2.2 = nsT (ws.getD i []) ∧ i < ws.length := by
  have hl := congrArg List.length h
  rw [wordsT_len, List.length_map] at hl
  have hw : i < ws.length := by omega
  have h1 := congrArg (fun l => l[i]?) h
  simp only [wordsT, List.getElem?_map, List.getElem?_eq_getElem hi, List.getElem?_eq_getElem hw, Option.map_some, Option.some.injEq] at h1
  refine ⟨?_, hw⟩
  rw [List.getD, List.getD, List.getElem?_eq_getElem hi, List.getElem?_eq_getElem hw, Option.getD_some, Option.getD_some]
  exact h1

def StP (x : TrI) (us : List Nat) (w : World) (e : Ending) (w' : World) : Prop := e = .returned (.int .i64 ((stT x us : Nat) : Int)) ∧ w.grownBy w' none
set_option maxHeartbeats 1600000 in
set_option maxRecDepth 100000 in
theorem stateR_any (x : TrI) (I : Nat) (a3 a4 a5 a6 : Option Addr) (c3 c4 c5 c6 : Nat) (w : World) (h : TnAt w x a3 a4 a5 a6) (hr : ReadT x I) (hI : I ≤ 4) (hN : x.N.length ≤ 1000) (us : List Nat) (hu : ∀ l ∈ us, l < I) (hl : us.length ≤ 60) (au : Option Addr) (cu : Nat) (hi : Ints w au (nsT us)) :
    Calls Try.prog 15 #[tnV x.I x.O x.S a3 x.F.length c3 a4 x.N.length c4 a5 x.Y.length c5 a6 x.E.length c6, .slice au us.length cu] w (StP x us w) := by
  obtain ⟨W1, hW1, g1, s1, bx⟩ := box7_new w x.I x.O x.S a3 x.F.length c3 a4 x.N.length c4 a5 x.Y.length c5 a6 x.E.length c6
  have HW1 : Hid (W1 = _) := hW1
  have G1 : Hid (w.grownBy W1 none) := g1
  have HT : Hid (TnAt W1 x a3 a4 a5 a6) := h.grown g1
  have HX : Hid (∀ W, W1.grownBy W none → Box7 W w.heap.size x.I x.O x.S a3 x.F.length c3 a4 x.N.length c4 a5 x.Y.length c5 a6 x.E.length c6) := fun W hW => bx.grown hW
  have HI : Hid (Ints W1 au (nsT us)) := hi.grown g1
  have HR : Hid (ReadT x I) := hr
  have HU : Hid (∀ l ∈ us, l < I) := hu
  have hS := hr.st
  unfold StT at hS
  obtain ⟨q0, hq0⟩ : ∃ q0 : Nat, x.S = (q0 : Int) := ⟨x.S.toNat, by omega⟩
  have HQ : Hid (x.S.toNat = q0 ∧ q0 < x.N.length) := ⟨by omega, by omega⟩
  obtain ⟨Po, hPo⟩ : ∃ P, P = StP x us w := ⟨_, rfl⟩
  have HP : Hid (∀ W, W1.grownBy W none → Po (.returned (.int .i64 ((goT x q0 us : Nat) : Int))) W) := fun W h1 => by
    rw [hPo]; exact ⟨by unfold stT; rw [HQ.out.1], grown_trans G1.out h1⟩
  have x2 := bx.b2
  rw [hq0, hW1] at x2
  rw [← hPo]
  have HW0 : Hid (W1 = w.alloc (tnO x.I x.O x.S a3 x.F.length c3 a4 x.N.length c4 a5 x.Y.length c5 a6 x.E.length c6)) := hW1
  clear g1 s1 bx h hPo hi hr hu hS hq0 hW1
  go_enter Try.func15, Try.ntmps15
  go_wp2_with fail
  rw [← HW0.out]
  clear x2
  go_loopw [6, 5] (fun v v5 W => ∃ k : Nat, k ≤ us.length ∧ v = .int .i64 k ∧ v5 = .int .i64 ((goT x q0 (us.take k) : Nat) : Int) ∧ W1.grownBy W none) (fun v _ _ => us.length - (intOf v).toNat)
  case atStart => exact ⟨0, Nat.zero_le _, rfl, by simp [goT], grown_refl _ _⟩
  case round =>
    obtain ⟨k, hk, rfl, rfl, hg⟩ := hrel
    have HG : Hid (W1.grownBy wr none) := hg
    clear hg
    by_cases hlt : k < us.length
    · have ik : (k : Int) < (us.length : Int) := by omega
      have hp : goT x q0 (us.take k) < x.N.length := HR.out.go _ (fun l hl' => HU.out l (List.mem_of_mem_take hl')) HQ.out.2
      have hu : us.getD k 0 < I := HU.out _ (mem_getD hlt)
      have E1 : Hid _ := goT_take x q0 hlt
      have E3 := nsT_getD hlt
      obtain ⟨p, hpp⟩ : ∃ p, goT x q0 (us.take k) = p := ⟨_, rfl⟩
      obtain ⟨u, huu⟩ : ∃ u, us.getD k 0 = u := ⟨_, rfl⟩
      rw [hpp] at hp E1
      rw [huu] at hu E1 E3
      simp only [hpp]
      clear hpp huu
      obtain ⟨b4, o4, k4, b, o, rfl, hs4⟩ := read_next HT.out HR.out hp hu
      obtain ⟨bu, ou, rfl, hcu⟩ := HI.out.at (k := k) (by rw [nsT_len]; exact hlt)
      have cu0 := hcu k (by rw [nsT_len]; exact hlt)
      rw [E3] at cu0
      have cu1 := HG.out.cell cu0 (by simp)
      obtain ⟨c4a, c4b⟩ := hs4 wr HG.out
      have y4 := (HX.out wr HG.out).b4
      have ip : (p : Int) < (x.N.length : Int) := by omega
      have iu : (u : Int) < (I : Int) := by omega
      have F : Hid (goT x q0 (us.take (k + 1)) = nxT x p u) := E1.out
      generalize nxT x p u = nn at *
      clear hs4 hcu E1 E3 hp hu cu0
      go_wp2_with fail
      go_quiet (fail)
      go_wp2_with fail
      go_roundw
      case rel => exact ⟨k + 1, by omega, by go_num, by rw [F.out], grown_drewN HG.out _⟩
      case measure => simp [intOf]; omega
    · have ik : ¬ (k : Int) < (us.length : Int) := by omega
      have ek : us.take k = us := List.take_of_length_le (by omega)
      simp only [ek]
      have F : Hid (Po (.returned (.int .i64 ((goT x q0 us : Nat) : Int))) wr) := HP.out wr HG.out
      clear ek
      go_wp2_with fail
      first | exact F.out | (go_ret; exact F.out)

end Go.Proofs.Ytdajdnilhjcniaa
