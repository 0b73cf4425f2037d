/- buchi.shortest, walked. -/
import Derived.Test.YteodlmgaemfiiaaUShortD
namespace Go.Proofs.Yteodlmgaemfiiaa
open Go.RowKit
set_option linter.unusedVariables false

theorem natInts_toNat {zs : List Int} {n : Int} (h : InR zs n) : natInts (zs.map Int.toNat) = zs := by
  refine List.ext_getElem? fun i => ?_
  by_cases hi : i < zs.length
  · have h1 := (h i hi).1
    simp only [List.getD, List.getElem?_eq_getElem hi, Option.getD_some] at h1
    simp [natInts, hi]
    omega
  · simp [natInts, hi]
/-- Three boxes. -/
theorem three_boxes (w : World) (o : Obj) (o' : Array Value) (t : TypeId) : ∃ W0 W1, W0 = (w.alloc o).alloc (.cells o' t) ∧ W1 = ((w.alloc o).alloc (.cells o' t)).alloc (.cells o' t) ∧ W0.heap.size = w.heap.size + 2 ∧ w.grownBy W0 none ∧ W0.grownBy W1 none ∧ W0.heap[w.heap.size + 1]? = some (.cells o' t (0, 0)) ∧ W1.heap[w.heap.size + 2]? = some (.cells o' t (0, 0)) :=
  ⟨_, _, rfl, rfl, by simp, grown_trans (grown_alloc _ _) (grown_alloc _ _), grown_alloc _ _, by have := heap_alloc_new (w.alloc o) (.cells o' t); simpa using this, by have := heap_alloc_new ((w.alloc o).alloc (.cells o' t)) (.cells o' t); simpa using this⟩

/-- The new lasso's box and the best one's stay. -/
abbrev KeepL (P W : World) (b bb : Nat) (v0 v1 u0 u1 : Value) : Prop :=
  P.grownBy W none ∧ W.cell? ⟨b, 0, none⟩ = some v0 ∧ W.cell? ⟨b, 1, none⟩ = some v1 ∧ W.cell? ⟨bb, 0, none⟩ = some u0 ∧ W.cell? ⟨bb, 1, none⟩ = some u1
theorem KeepL.call {P W W' : World} {b bb : Nat} {v0 v1 u0 u1 : Value} (h : KeepL P W b bb v0 v1 u0 u1) (hg : W.grownBy W' none) : KeepL P W' b bb v0 v1 u0 u1 := by
  obtain ⟨h0, h1, h2, h3, h4⟩ := h
  exact ⟨grown_trans h0 hg, hg.cell h1 (by simp), hg.cell h2 (by simp), hg.cell h3 (by simp), hg.cell h4 (by simp)⟩
theorem KeepL.drew {P W : World} {b bb : Nat} {v0 v1 u0 u1 : Value} (h : KeepL P W b bb v0 v1 u0 u1) : KeepL P W.drew b bb v0 v1 u0 u1 := h.call (grown_drew (grown_refl _ _))
/-- What the loop of shortest keeps of memory. -/
structure ShAt (W0 W : World) (bb gt nS : Nat) (T : List StepI) (ah : Option Addr) (heads : List Trl) (hd lp : List Nat) (a : Option Addr) (c : Nat) (a' : Option Addr) (c' : Nat) : Prop where
  best : BestAt W bb hd lp a c a' c'
  tab : StepTab W gt nS T
  steps : StepsAt W ah (heads.map tri)
  gr : W0.grownBy W none
theorem ShAt.grown {W0 W W' : World} {bb gt nS : Nat} {T : List StepI} {ah : Option Addr} {heads : List Trl} {hd lp : List Nat} {a : Option Addr} {c : Nat} {a' : Option Addr} {c' : Nat} (h : ShAt W0 W bb gt nS T ah heads hd lp a c a' c') (hg : W.grownBy W' none) : ShAt W0 W' bb gt nS T ah heads hd lp a c a' c' := ⟨h.best.grown hg, h.tab.grown hg, h.steps.grown hg, grown_trans h.gr hg⟩
theorem ShAt.put {W0 W : World} {bb gt nS : Nat} {T : List StepI} {ah : Option Addr} {heads : List Trl} {hd lp : List Nat} {a : Option Addr} {c : Nat} {a' : Option Addr} {c' : Nat} (h : ShAt W0 W bb gt nS T ah heads hd lp a c a' c') (hne : gt ≠ bb) (hbb : W0.heap.size ≤ bb) {hd' lp' : List Nat} {e e' : Option Addr} {d d' n m : Nat} (hi : Ints W e (natInts hd')) (hl : Ints W e' (natInts lp')) (hn : hd'.length = n) (hm : lp'.length = m) : ShAt W0 ((W.setCell ⟨bb, 0, none⟩ (.slice e n d)).setCell ⟨bb, 1, none⟩ (.slice e' m d')) bb gt nS T ah heads hd' lp' e d e' d' := by
  obtain ⟨h1, h2⟩ := h.best.put hi hl (v0 := .slice e n d) (v1 := .slice e' m d') (by rw [hn]) (by rw [hm])
  exact ⟨h1, h.best.tab h.tab hne h2, h.best.steps h.steps h2, grown_new h.gr h2 hbb⟩

set_option maxHeartbeats 6400000 in
set_option maxRecDepth 100000 in
theorem shortest_any (x : Aut) (l nS : Nat) (hL : x.L = l) (hN : x.N = nS) (hG : GoodA x) (a b e : Option Addr) (c d f : Nat) (w : World) (h : AutAt w x a b e) :
    Calls Try.prog 46 #[autV l nS a x.S.length c b x.T.length d e x.F.length f] w (ShortPost x.T (setOf x.S) (setOf x.F) l w) := by
  have hn3 : nS ≤ 300 := by have := hG.n3; omega
  have hn1 : 1 ≤ nS := by have := hG.n1; omega
  have HT : Hid (InT x.T l nS) := hL ▸ hN ▸ hG.t
  have HF : Hid (InR x.F nS) := hN ▸ hG.f
  have hmF : x.F.length ≤ 300 := by have := rise_le hG.fr hG.f (by have := hG.n1; omega); omega
  have hmS : x.S.length ≤ 300 := by have := rise_le hG.sr hG.s (by have := hG.n1; omega); omega
  have eS := natInts_toNat hG.s
  obtain ⟨bs, hbs⟩ : ∃ bs, x.S.map Int.toNat = bs := ⟨_, rfl⟩
  have hbl : bs.length = x.S.length := by rw [← hbs, List.length_map]
  have HBL : Hid (bs.length = x.S.length) := hbl
  have HB1 : Hid (∀ q, (setOf x.S).testBit q = true → q ∈ bs) := fun q hq => by
    obtain ⟨z, h1, h2⟩ := setOf_bit.1 hq
    rw [← hbs]; exact List.mem_map.2 ⟨z, h1, h2⟩
  have HB2 : Hid (∀ q, q ∈ bs → (setOf x.S).testBit q = true) := fun q hq => by
    rw [← hbs] at hq
    obtain ⟨z, h1, h2⟩ := List.mem_map.1 hq
    exact setOf_bit.2 ⟨z, h1, h2⟩
  have HBn : ∀ q, q ∈ bs → q < nS := fun q hq => by
    rw [← hbs] at hq
    obtain ⟨z, h1, h2⟩ := List.mem_map.1 hq
    obtain ⟨i, hi, e2⟩ := List.getElem_of_mem h1
    have := hG.s i hi
    simp only [List.getD, List.getElem?_eq_getElem hi, Option.getD_some] at this
    rw [e2] at this
    omega
  rw [hbs] at eS
  have HSF : Hid (∀ W, w.grownBy W none → Calls Try.prog 67 #[autV l nS a x.S.length c b x.T.length d e x.F.length f] W (TabPost nS x.T W)) := fun W hW => stepsFrom_any x l nS hL hN hG a b e c d f W (h.grown hW)
  have HTr : Hid (∀ W gt, w.grownBy W none → StepTab W gt nS x.T → Calls Try.prog 68 #[.slice (some ⟨gt, 0, none⟩) nS nS, .slice a x.S.length c] W (TrPost x.T bs nS W)) := fun W gt hW hS => trails_any x.T l nS HT.out hn3 bs HBn (by omega) (by have := hG.t4; omega) _ hbl gt a c W hS (by rw [eS]; exact h.start.grown hW)
  have HT1 : Hid (∀ W gt g q, q < nS → StepTab W gt nS x.T → W.heap[g]? = some (.cells #[.int .i64 ((q : Nat) : Int)] 3 (0, 0)) → Calls Try.prog 68 #[.slice (some ⟨gt, 0, none⟩) nS nS, .slice (some ⟨g, 0, none⟩) 1 1] W (TrPost x.T [q] nS W)) := fun W gt g q hq hS hg => trails_any x.T l nS HT.out hn3 [q] (fun b hb => by simp at hb; omega) (by simp) (by have := hG.t4; omega) 1 rfl gt (some ⟨g, 0, none⟩) 1 W hS (.inr ⟨g, 0, rfl, fun i hi => by
    simp [natInts] at hi
    subst hi
    rw [Nat.zero_add, cell_of_row _ _ 0 _ _ (0, 0) hg]; rfl⟩)
  have HFn : Hid (∀ W, w.grownBy W none → Ints W e x.F) := fun W hW => h.final.grown hW
  have HFi : Hid (∀ (tr : List Trl) (N : Nat) (W : World) (ar : Option Addr) (cr q at_ : Nat), tr.length = N → N ≤ 500000 → at_ ≤ 1 → StepsAt W ar (tr.map tri) → Calls Try.prog 69 #[.slice ar N cr, .int .i64 (q : Int), .int .i64 (at_ : Int)] W (FindPost tr q at_ W)) := fun tr N W ar cr q at_ e1 h1 h2 h3 => by subst e1; exact find_any tr h1 ar cr q at_ h2 W h3
  have HWd : Hid (∀ (bs : List Nat) (tr : List Trl) (N : Nat) (W : World) (ar : Option Addr) (cr at_ : Nat), TrAt x.T bs tr → tr.length = N → N ≤ 500000 → at_ < N → StepsAt W ar (tr.map tri) → Calls Try.prog 70 #[.slice ar N cr, .int .i64 (at_ : Int)] W (WordU (wd tr at_) W)) := fun bs tr N W ar cr at_ h0 e1 h1 h2 h3 => by subst e1; exact wordTr_any h0 h1 ar cr at_ h2 W h3
  have HLn : Hid (∀ (a a' : Option Addr) (p q c c' : Nat), p ≤ 300 → q ≤ 300 → ∀ W, Calls Try.prog 71 #[lasV a p c a' q c'] W (Says (.int .i64 ((p : Int) + q)) W)) := fun a a' p q c c' h1 h2 W => length_any a a' p q c c' (by omega) (by omega) W
  clear hbs eS hbl h hG hL hN
  obtain ⟨L, N, S, T, F⟩ := x
  simp only at *
  obtain ⟨ss, hss⟩ : ∃ ss, setOf S = ss := ⟨_, rfl⟩
  rw [hss] at HB1 HB2
  rw [hss]
  clear hss
  generalize S.length = mS at *
  obtain ⟨mF, hmFe⟩ : ∃ mF, F.length = mF := ⟨_, rfl⟩
  have HMF : Hid (F.length = mF) := hmFe
  rw [hmFe] at HSF hmF
  rw [hmFe]
  generalize T.length = mT at *
  clear hmFe
  obtain ⟨W0, W1, hW0, hW1, hs0, g0, g1, k1, k2⟩ := three_boxes w (.cells #[.int .i64 l, .int .i64 nS, .slice a mS c, .slice b mT d, .slice e mF f] 25) #[.slice none 0 0, .slice none 0 0] 42
  have HW1 : Hid (W1 = _) := hW1
  have HS0 : Hid (W0.heap.size = w.heap.size + 2) := hs0
  have G0 : Hid (w.grownBy W0 none) := g0
  have G1 : Hid (W0.grownBy W1 none) := g1
  have K1 : Hid (W0.heap[w.heap.size + 1]? = some (.cells #[.slice none 0 0, .slice none 0 0] 42 (0, 0))) := k1
  have B1 : Hid (BestAt W1 (w.heap.size + 2) [] [] none 0 none 0) := ⟨k2, .inl rfl, .inl rfl⟩
  have BX : Hid (∀ W', W0.grownBy W' none → W'.cell? ⟨w.heap.size, 0, none⟩ = some (.int .i64 l) ∧ W'.cell? ⟨w.heap.size, 1, none⟩ = some (.int .i64 nS) ∧ W'.cell? ⟨w.heap.size, 2, none⟩ = some (.slice a mS c) ∧ W'.cell? ⟨w.heap.size, 3, none⟩ = some (.slice b mT d) ∧ W'.cell? ⟨w.heap.size, 4, none⟩ = some (.slice e mF f)) := fun W' hW => box5 (t := 25) (grown_trans (by rw [hW0]; exact grown_alloc _ _) hW)
  obtain ⟨x0, x1, x2, x3, x4⟩ := BX.out W1 g1
  rw [hW1] at x0 x1 x2 x3 x4
  clear hW0 hW1 hs0 g0 g1 k1 k2
  go_enter Try.func46, Try.ntmps46
  go_wp2_with fail
  rw [← HW1.out]
  clear x0 x1 x2 x3 x4 HW1
  refine (HSF.out W1 (grown_trans G0.out G1.out)).mono ?_
  rintro E W2 ⟨gt, rfl, hTab, g2, hge⟩
  have HTab2 : Hid (StepTab W2 gt nS T) := hTab
  have G2 : Hid (W0.grownBy W2 none) := grown_trans G1.out g2
  have B2 : Hid (BestAt W2 (w.heap.size + 2) [] [] none 0 none 0) := B1.out.grown g2
  have HNE : Hid (gt ≠ w.heap.size + 2) := by have h1 := (Array.getElem?_eq_some_iff.1 B1.out.box).1; show gt ≠ _; omega
  obtain ⟨x0, x1, x2, x3, x4⟩ := BX.out W2 G2.out
  clear hTab g2 hge HSF B1
  go_wp2_with fail
  clear x0 x1 x2 x3 x4
  refine (HTr.out W2 gt (grown_trans G0.out G2.out) HTab2.out).mono ?_
  rintro E W3 ⟨ah, ch, heads, rfl, hsteps, hta, hte, hlen, g3⟩
  have HST : Hid (StepsAt W3 ah (heads.map tri)) := hsteps
  have HTA : Hid (TrAt T bs heads) := hta
  have HTE : Hid (TrEnd T bs heads) := hte
  have HLE : Hid (heads.length ≤ bs.length + nS) := hlen
  have HTab3 : Hid (StepTab W3 gt nS T) := HTab2.out.grown g3
  have G3 : Hid (W0.grownBy W3 none) := grown_trans G2.out g3
  have B3 : Hid (BestAt W3 (w.heap.size + 2) [] [] none 0 none 0) := B2.out.grown g3
  obtain ⟨x0, x1, x2, x3, x4⟩ := BX.out W3 G3.out
  obtain ⟨nh, hnh⟩ : ∃ nh, heads.length = nh := ⟨_, rfl⟩
  have HNH : Hid (heads.length = nh) := hnh
  have hnh6 : nh ≤ 600 := by have := HBL.out; omega
  rw [hnh]
  clear hsteps hta hte hlen g3 HTab2 B2 G2 hnh HTr
  go_wp2_with fail
  clear x0 x1 x2 x3 x4
  generalize HBB : w.heap.size + 2 = bb at *
  have HBB' : Hid (w.heap.size + 2 = bb) := HBB
  clear HBB
  have S3 : Hid (ShAt W0 W3 bb gt nS T ah heads [] [] none 0 none 0) := ⟨B3.out, HTab3.out, HST.out, G3.out⟩
  have HBB2 : Hid (W0.heap.size ≤ bb) := Nat.le_of_eq HS0.out
  clear B3 HTab3 HST G3
  go_loopw [5, 24] (fun v5 v wr => ∃ (k : Nat) (fo : Bool) (hd lp : List Nat) (a : Option Addr) (c : Nat) (a' : Option Addr) (c' : Nat), k ≤ mF ∧ v5 = .bool fo ∧ v = .int .i64 k ∧ ShAt W0 wr bb gt nS T ah heads hd lp a c a' c' ∧ SoFar T ss (setOf F) l F fo hd lp k) (fun _ v _ => mF - (intOf v).toNat)
  case atStart => exact ⟨0, false, [], [], none, 0, none, 0, by omega, rfl, rfl, S3.out, .inr ⟨rfl, rfl, rfl, fun j hj => absurd hj (by omega)⟩⟩
  case round =>
    clear S3
    rename World => wq
    obtain ⟨k, fo, hd, lp, aa, ca, ab, cb, hk, rfl, rfl, hB, hSF⟩ := hrel
    have B : Hid (ShAt W0 wq bb gt nS T ah heads hd lp aa ca ab cb) := hB
    have SF : Hid (SoFar T ss (setOf F) l F fo hd lp k) := hSF
    clear hB hSF
    by_cases hlt : k < mF
    · have hki : (k : Int) < (mF : Int) := by omega
      have hkl : k < F.length := by rw [HMF.out]; exact hlt
      obtain ⟨be, oe, rfl, hc⟩ := (HFn.out wq (grown_trans G0.out B.out.gr)).at hkl
      have y0 := hc k hkl
      have hin := HF.out k hkl
      have hbit : (setOf F).testBit (F.getD k 0).toNat = true := setOf_bit.2 ⟨_, by rw [List.getD, List.getElem?_eq_getElem hkl, Option.getD_some]; exact List.getElem_mem _, rfl⟩
      obtain ⟨q, hq⟩ : ∃ q : Nat, F.getD k 0 = q := ⟨(F.getD k 0).toNat, by omega⟩
      rw [hq] at y0 hin hbit
      rw [Int.toNat_natCast] at hbit
      have HQ : Hid (F.getD k 0 = (q : Int)) := hq
      have HBit : Hid ((setOf F).testBit q = true) := hbit
      have hqn : q < nS := by omega
      clear hc hin hbit hq hkl
      go_wp2_with fail
      refine (HFi.out heads nh wq ah ch q 0 HNH.out (by omega) (by omega) B.out.steps).mono ?_
      rintro E W4 ⟨e4, hE⟩
      subst W4
      clear y0
      rcases hE with ⟨j, t, rfl, _, hj, hts⟩ | ⟨rfl, hno⟩
      · have HJ : Hid (heads[j]? = some t ∧ t.st = q) := ⟨hj, hts⟩
        have hjn : j < nh := by have := (List.getElem?_eq_some_iff.1 hj).1; have := HNH.out; omega
        have hj0 : ¬ (j : Int) < 0 := by omega
        clear hj hts
        obtain ⟨W5, hW5⟩ : ∃ W5, W5 = wq.alloc (.cells #[.int .i64 ((q : Nat) : Int)] 3) := ⟨_, rfl⟩
        have hb5 := heap_alloc_new wq (.cells #[.int .i64 ((q : Nat) : Int)] 3)
        rw [← hW5] at hb5
        have HB5 : Hid (W5.heap[wq.heap.size]? = some (.cells #[.int .i64 ((q : Nat) : Int)] 3 (0, 0))) := hb5
        have HW5 : Hid (W5 = wq.alloc (.cells #[.int .i64 ((q : Nat) : Int)] 3)) := hW5
        have S5 : Hid (ShAt W0 W5 bb gt nS T ah heads hd lp aa ca ab cb) := B.out.grown (by rw [hW5]; exact grown_alloc _ _)
        clear hW5 hb5
        go_wp2_with fail
        rw [← HW5.out]
        refine (HT1.out W5 gt wq.heap.size q hqn S5.out.tab HB5.out).mono ?_
        rintro E W6 ⟨al, cl, loops, rfl, hsteps, hta, hte, hlen, g6⟩
        have LST : Hid (StepsAt W6 al (loops.map tri)) := hsteps
        have LTA : Hid (TrAt T [q] loops) := hta
        have LTE : Hid (TrEnd T [q] loops) := hte
        have LLE : Hid (loops.length ≤ 1 + nS) := hlen
        have S6 : Hid (ShAt W0 W6 bb gt nS T ah heads hd lp aa ca ab cb) := S5.out.grown g6
        obtain ⟨nl, hnl⟩ : ∃ nl, loops.length = nl := ⟨_, rfl⟩
        have HNL : Hid (loops.length = nl) := hnl
        have hnl6 : nl ≤ 600 := by have : loops.length ≤ 1 + nS := hlen; omega
        rw [hnl]
        clear hsteps hta hte hlen g6 hnl S5 HB5 HW5 B
        go_wp2_with fail
        refine (HFi.out loops nl W6 al cl q 1 HNL.out (by omega) (by omega) LST.out).mono ?_
        rintro E W7 ⟨rfl, hE⟩
        rcases hE with ⟨i, u, rfl, h1i, hi, hus⟩ | ⟨rfl, hno⟩
        · have HI : Hid (loops[i]? = some u ∧ u.st = q) := ⟨hi, hus⟩
          have hin : i < nl := by have := (List.getElem?_eq_some_iff.1 hi).1; have := HNL.out; omega
          have hi0 : ¬ (i : Int) < 0 := by omega
          have BST : Hid (Best T ss (setOf F) l (wd heads j) (wd loops i)) := best_of HT.out hn1 hn3 HB2.out HBit.out HTA.out HLE.out HJ.out.1 HJ.out.2 LTA.out LLE.out h1i hi hus
          clear hi hus h1i
          go_wp2_with fail
          refine (HWd.out bs heads nh W7 ah ch j HTA.out HNH.out (by omega) hjn S6.out.steps).mono ?_
          rintro E W8 ⟨aw, cw, rfl, hO8, g8⟩
          have I8 : Hid (Ints W8 aw (natInts (wd heads j))) := hO8.ints.2
          have S8 : Hid (ShAt W0 W8 bb gt nS T ah heads hd lp aa ca ab cb) := S6.out.grown g8
          have L8 : Hid (StepsAt W8 al (loops.map tri)) := LST.out.grown g8
          obtain ⟨hw, hhw⟩ : ∃ hw, wd heads j = hw := ⟨_, rfl⟩
          rw [hhw] at I8 BST
          rw [hhw]
          obtain ⟨n1, hn1w⟩ : ∃ n1, hw.length = n1 := ⟨_, rfl⟩
          have HN1 : Hid (hw.length = n1) := hn1w
          rw [hn1w]
          clear hO8 g8 hhw hn1w S6 LST
          go_wp2_with fail
          refine (HWd.out [q] loops nl W8 al cl i LTA.out HNL.out (by omega) hin L8.out).mono ?_
          rintro E W9 ⟨av, cv, rfl, hO9, g9⟩
          obtain ⟨lv, hlv⟩ : ∃ lv, wd loops i = lv := ⟨_, rfl⟩
          rw [hlv] at hO9 BST
          rw [hlv]
          obtain ⟨n2, hn2w⟩ : ∃ n2, lv.length = n2 := ⟨_, rfl⟩
          have HN2 : Hid (lv.length = n2) := hn2w
          rw [hn2w]
          have hn13 : n1 ≤ 300 := by have := BST.out.h3; have := HN1.out; omega
          have hn23 : n2 ≤ 300 := by have := BST.out.l3; omega
          obtain ⟨W10, hW10⟩ : ∃ W10, W10 = W9.alloc (.cells #[.slice aw n1 cw, .slice av n2 cv] 42) := ⟨_, rfl⟩
          have g10 : W9.grownBy W10 none := by rw [hW10]; exact grown_alloc _ _
          have hb10 := heap_alloc_new W9 (.cells #[.slice aw n1 cw, .slice av n2 cv] 42)
          rw [← hW10] at hb10
          have HW10 : Hid (W10 = W9.alloc (.cells #[.slice aw n1 cw, .slice av n2 cv] 42)) := hW10
          have S10 : Hid (ShAt W0 W10 bb gt nS T ah heads hd lp aa ca ab cb) := S8.out.grown (grown_trans g9 g10)
          have IH : Hid (∀ X, W10.grownBy X none → Ints X aw (natInts hw) ∧ Ints X av (natInts lv)) := fun X hX => ⟨I8.out.grown (grown_trans g9 (grown_trans g10 hX)), hO9.ints.2.grown (grown_trans g10 hX)⟩
          obtain ⟨m1, hm1⟩ : ∃ m1, hd.length = m1 := ⟨_, rfl⟩
          obtain ⟨m2, hm2⟩ : ∃ m2, lp.length = m2 := ⟨_, rfl⟩
          have hm13 : m1 ≤ 300 := by have := SF.out.small.1; omega
          have hm23 : m2 ≤ 300 := by have := SF.out.small.2; omega
          have K10 : Hid (KeepL W10 W10 W9.heap.size bb (.slice aw n1 cw) (.slice av n2 cv) (.slice aa m1 ca) (.slice ab m2 cb)) := by
            obtain ⟨h1, h2, _⟩ := S10.out.best.cells
            rw [hm1] at h1
            rw [hm2] at h2
            exact ⟨grown_refl _ _, by rw [cell_of_row _ _ 0 _ _ (0, 0) hb10]; rfl, by rw [cell_of_row _ _ 1 _ _ (0, 0) hb10]; rfl, h1, h2⟩
          have FZ : Hid (∀ X, W10.grownBy X none → X.frozen? ⟨bb, 0, none⟩ = false ∧ X.frozen? ⟨bb, 1, none⟩ = false) := fun X hX => ⟨(S10.out.grown hX).best.cells.2.2 0, (S10.out.grown hX).best.cells.2.2 1⟩
          clear hO9 g9 hlv hn2w hW10 g10 hb10 hm1 hm2 S8 L8 I8
          cases fo with
          | false =>
            go_wp2_with fail
            rw [← HW10.out]
            clear HW10
            generalize W9.heap.size = b13 at *
            have gz : W10.grownBy W10.drew none := grown_drew (grown_refl _ _)
            have GZ : Hid (W10.grownBy W10.drew none) := gz
            obtain ⟨_, d0, d1, d2, d3⟩ := K10.out
            obtain ⟨z0, z1⟩ := FZ.out W10 (grown_refl _ _)
            clear gz
            first
            | (go_region_with (first | (refine skip_op (by rfl) ?_)))
            | fail
            all_goals
              go_wp2_with fail
              go_roundw
              case rel => exact ⟨k + 1, true, hw, lv, aw, cw, av, cv, by omega, rfl, by go_num, (S10.out.grown GZ.out).put HNE.out HBB2.out (IH.out _ GZ.out).1 (IH.out _ GZ.out).2 HN1.out HN2.out, .inl ⟨rfl, BST.out⟩⟩
              case measure => simp [intOf]; omega
          | true =>
            obtain ⟨p1, hp1⟩ : ∃ p1 : Int, (n1 : Int) + n2 = p1 := ⟨_, rfl⟩
            obtain ⟨p2, hp2⟩ : ∃ p2 : Int, (m1 : Int) + m2 = p2 := ⟨_, rfl⟩
            have HL1 : Hid (∀ W, Calls Try.prog 71 #[lasV aw n1 cw av n2 cv] W (Says (.int .i64 p1) W)) := fun W => hp1 ▸ HLn.out aw av n1 n2 cw cv hn13 hn23 W
            have HL2 : Hid (∀ W, Calls Try.prog 71 #[lasV aa m1 ca ab m2 cb] W (Says (.int .i64 p2) W)) := fun W => hp2 ▸ HLn.out aa ab m1 m2 ca cb hm13 hm23 W
            clear hp1 hp2
            go_wp2_with fail
            rw [← HW10.out]
            clear HW10
            generalize W9.heap.size = b13 at *
            go_region_held3 (fun W => KeepL W10 W b13 bb (.slice aw n1 cw) (.slice av n2 cv) (.slice aa m1 ca) (.slice ab m2 cb))
              (first | (with_reducible exact KeepL.drew K10.out) | (with_reducible exact KeepL.call (by assumption) hgA) | (with_reducible exact KeepL.call (by assumption) hgB) | (with_reducible exact KeepL.drew (by assumption)) | assumption)
              (first
              | (go_at_call_of 71 (Value.agg #[.slice aw n1 cw, .slice av n2 cv]); refine (HL1.out _).mono ?_; rintro e wA ⟨rfl, hgA⟩)
              | (go_at_call_of 71 (Value.agg #[.slice aa m1 ca, .slice ab m2 cb]); refine (HL2.out _).mono ?_; rintro e wB ⟨rfl, hgB⟩))
            all_goals
              have KF : Hid (KeepL W10 _ b13 bb (.slice aw n1 cw) (.slice av n2 cv) (.slice aa m1 ca) (.slice ab m2 cb)) := (show KeepL W10 _ b13 bb (.slice aw n1 cw) (.slice av n2 cv) (.slice aa m1 ca) (.slice ab m2 cb) from by assumption)
              obtain ⟨gz, d0, d1, d2, d3⟩ := KF.out
              obtain ⟨z0, z1⟩ := FZ.out _ gz
              have GZ : Hid (W10.grownBy _ none) := gz
              clear gz
              by_cases hcmp : p1 < p2
              · go_wp2_with fail
                go_roundw
                case rel => exact ⟨k + 1, true, hw, lv, aw, cw, av, cv, by omega, rfl, by go_num, (S10.out.grown GZ.out).put HNE.out HBB2.out (IH.out _ GZ.out).1 (IH.out _ GZ.out).2 HN1.out HN2.out, .inl ⟨rfl, BST.out⟩⟩
                case measure => simp [intOf]; omega
              · go_wp2_with fail
                go_roundw
                case rel => exact ⟨k + 1, true, hd, lp, aa, ca, ab, cb, by omega, rfl, by go_num, S10.out.grown GZ.out, SF.out.found⟩
                case measure => simp [intOf]; omega
        · have SF2 : Hid (SoFar T ss (setOf F) l F fo hd lp (k + 1)) := SF.out.skip (by rw [HQ.out, Int.toNat_natCast]; exact no_loop LTA.out LTE.out hno)
          clear hno
          go_wp2_with fail
          go_roundw
          case rel => exact ⟨k + 1, fo, hd, lp, aa, ca, ab, cb, by omega, rfl, by go_num, S6.out, SF2.out⟩
          case measure => simp [intOf]; omega
      · have SF2 : Hid (SoFar T ss (setOf F) l F fo hd lp (k + 1)) := SF.out.skip (by rw [HQ.out, Int.toNat_natCast]; exact no_head HB1.out HTA.out HTE.out hno)
        clear hno
        go_wp2_with fail
        go_roundw
        case rel => exact ⟨k + 1, fo, hd, lp, aa, ca, ab, cb, by omega, rfl, by go_num, B.out, SF2.out⟩
        case measure => simp [intOf]; omega
    · have hki : ¬ (k : Int) < (mF : Int) := by omega
      have e1 : k = F.length := by have := HMF.out; omega
      have SE : Hid ((fo = true ∧ Best T ss (setOf F) l hd lp) ∨ (fo = false ∧ hd = [] ∧ lp = [] ∧ ∀ h' l', ¬ AccL T ss (setOf F) h' l')) := by
        have h1 := SF.out
        rw [e1] at h1
        exact h1.end_
      obtain ⟨y0, y1, _⟩ := B.out.best.cells
      have RB : BestAt wq (w.heap.size + 1) [] [] none 0 none 0 := ⟨(B.out.gr.block _ (by rw [HS0.out, ← HBB'.out]; omega) (by simp)).trans K1.out, .inl rfl, .inl rfl⟩
      obtain ⟨r0, r1, rz⟩ := RB.cells
      have rz0 := rz 0
      have rz1 := rz 1
      obtain ⟨W9, hW9⟩ : ∃ W9, W9 = (wq.setCell ⟨w.heap.size + 1, 0, none⟩ (.slice aa hd.length ca)).setCell ⟨w.heap.size + 1, 1, none⟩ (.slice ab lp.length cb) := ⟨_, rfl⟩
      obtain ⟨hb9, hg9⟩ := RB.put (d := ca) (d' := cb) B.out.best.ih B.out.best.il rfl rfl
      rw [← hW9] at hb9 hg9
      obtain ⟨q0, q1, _⟩ := hb9.cells
      have Fin : Hid (ShortPost T ss (setOf F) l w (.returned (.tuple #[lasV aa hd.length ca ab lp.length cb, .bool fo])) W9) := ⟨fo, hd, lp, aa, ca, ab, cb, rfl, hb9.ih, hb9.il, grown_new (grown_trans G0.out B.out.gr) hg9 (by omega), SE.out⟩
      clear e1 SF RB rz hb9 hg9 SE
      generalize hd.length = m1 at *
      generalize lp.length = m2 at *
      go_wp2_with fail
      rw [← hW9]
      exact bodyPost_ret (v := .tuple #[lasV aa m1 ca ab m2 cb, .bool fo]) (by simp [results, Try.results46, go_sem, q0, q1]) rfl Fin.out

end Go.Proofs.Yteodlmgaemfiiaa
