/- Which trees are accepted: the program's accepts. -/
import Derived.Test.YtofjmakmbmndoaaTrAccE
namespace Go.Proofs.Ytofjmakmbmndoaa
open Go.RowKit
set_option linter.unusedVariables false

/-- What stands when a round begins: the rows so far, the box that holds them, the row of a child that is not there. -/
structure AccAt (W3 wr : World) (bc bn gc k n : Nat) (a : Option Addr) (c : Nat) (S : Nat → Nat → Bool) : Prop where
  rows : RowS W3.heap.size wr (.slice a k c) k n S
  box : wr.heap[bn]? = some (.cells #[.slice a k c] 53 (0, 0))
  none : BRow wr gc n chB
  nbox : wr.heap[bc]? = some (.cells #[.slice (some ⟨gc, 0, Option.none⟩) n n] 48 (0, 0))
  gr : W3.grownBy wr (some bn)
  lt : bn < W3.heap.size
  ne : bc ≠ bn
  ltc : bc < W3.heap.size
theorem AccAt.kept {W3 wr w' : World} {bc bn gc k n : Nat} {a : Option Addr} {c : Nat} {S : Nat → Nat → Bool} (h : AccAt W3 wr bc bn gc k n a c S) (hg : wr.grownBy w' Option.none) : AccAt W3 w' bc bn gc k n a c S :=
  ⟨h.rows.kept hg, (hg.block _ (by have := h.gr.size; have := h.lt; omega) (by simp)).trans h.box, h.none.kept hg, (hg.block _ (Array.getElem?_eq_some_iff.1 h.nbox).1 (by simp)).trans h.nbox, grown_trans h.gr (grown_some hg), h.lt, h.ne, h.ltc⟩
theorem AccAt.cells {W3 wr : World} {bc bn gc k n : Nat} {a : Option Addr} {c : Nat} {S : Nat → Nat → Bool} (h : AccAt W3 wr bc bn gc k n a c S) : wr.cell? ⟨bn, 0, Option.none⟩ = some (.slice a k c) ∧ wr.frozen? ⟨bn, 0, Option.none⟩ = false ∧ wr.cell? ⟨bc, 0, Option.none⟩ = some (.slice (some ⟨gc, 0, Option.none⟩) n n) :=
  ⟨by rw [cell_of_row _ _ 0 _ _ (0, 0) h.box]; rfl, frozen_of_row wr bn 0 _ _ h.box, by rw [cell_of_row _ _ 0 _ _ (0, 0) h.nbox]; rfl⟩
/-- A row more is put into the box. -/
theorem AccAt.app {W3 wr : World} {bc bn gc k n go : Nat} {a : Option Addr} {c : Nat} {S : Nat → Nat → Bool} (h : AccAt W3 wr bc bn gc k n a c S) (hb : BRow wr go n (S k)) (hk : k ≤ 100) :
    ∃ g c' w2, (AppS #[53, 53] 53 #[.slice a k c, .slice (some ⟨wr.heap.size, 0, Option.none⟩) 1 1]).run Try.prog (wr.alloc (.cells #[.slice (some ⟨go, 0, Option.none⟩) n n] 48)) = .ok (.slice (some ⟨g, 0, Option.none⟩) (k + 1) c') w2 ∧ w2.cell? ⟨bn, 0, Option.none⟩ = some (.slice a k c) ∧ w2.frozen? ⟨bn, 0, Option.none⟩ = false ∧ AccAt W3 (w2.setCell ⟨bn, 0, Option.none⟩ (.slice (some ⟨g, 0, Option.none⟩) (k + 1) c')) bc bn gc (k + 1) n (some ⟨g, 0, Option.none⟩) c' S := by
  have hsz := h.gr.size
  obtain ⟨g, c', w2, hr, hS, hB, hap⟩ := h.rows.app hsz hb hk
  have hbox2 : w2.heap[bn]? = some (.cells #[.slice a k c] 53 (0, 0)) := (hB.block bn h.lt).trans h.box
  have hn2 : BRow w2 gc n chB := hap _ _ _ h.none
  have hgs : w2.grownBy (w2.setCell ⟨bn, 0, Option.none⟩ (.slice (some ⟨g, 0, Option.none⟩) (k + 1) c')) (some bn) := grown_set _ _ _
  have hgcb : gc ≠ bn := fun e => by
    obtain ⟨cur, q1, _⟩ := hn2
    rw [e, hbox2] at q1
    cases q1
  refine ⟨g, c', w2, hr, by rw [cell_of_row _ _ 0 _ _ (0, 0) hbox2]; rfl, frozen_of_row w2 bn 0 _ _ hbox2, ⟨hS.far hgs h.lt hbox2, ?_, hn2.other hgcb _, ?_, ?_, h.lt, h.ne, h.ltc⟩⟩
  · rw [heap_setCell_same w2 bn 0 _ _ _ hbox2]; rfl
  · rw [Below.heap_setCell _ _ _ _ (by simpa using h.ne)]
    exact (hB.block bc h.ltc).trans h.nbox
  · exact grown_trans ⟨hB.os.trans h.gr.os, hB.tape.trans h.gr.tape, hB.output.trans h.gr.output, Nat.le_trans h.gr.size hB.size, fun i hi hr => (hB.block i hi).trans (h.gr.block i hi hr)⟩ hgs

/-- The row of a child that is not there has been made. -/
def ChPost (W1 : World) (gc nP : Nat) (wc : World) : Prop := BRow wc gc nP chB ∧ W1.grownBy wc none ∧ wc.heap.size = gc + 1 + 1 ∧ wc.heap[gc + 1]? = some (.cells #[.slice (some ⟨gc, 0, none⟩) nP nP] 48 (0, 0))
theorem chPost {W1 W3 : World} {gc nP : Nat} (h : BRow W3 gc nP (fun _ => false)) (hg : W1.grownBy W3 none ∧ W3.heap.size = gc + 1 + 1 ∧ W3.heap[gc + 1]? = some (.cells #[.slice (some ⟨gc, 0, none⟩) nP nP] 48 (0, 0)) ∧ W1.heap.size = gc) (h0 : 0 < nP) : ChPost W1 gc nP (W3.setCell ⟨gc, 0, none⟩ (.bool true)) := by
  obtain ⟨g1, g2, g3, g4⟩ := hg
  refine ⟨(h.set h0 true).congr fun i hi => ?_, grown_new g1 (grown_set _ _ _) (by simp; omega), by simpa [World.setCell] using g2, ?_⟩
  · unfold chB
    by_cases e : i = 0 <;> simp [e]
  · rw [Below.heap_setCell _ _ _ _ (by simp)]; exact g3
theorem ChPost.drew {W1 : World} {gc nP : Nat} {wc : World} (h : ChPost W1 gc nP wc) : ChPost W1 gc nP wc.drew := ⟨h.1, grown_drew h.2.1, h.2.2.1, h.2.2.2⟩
theorem accAt_start {W1 wc : World} {gc nP : Nat} (S : Nat → Nat → Bool) (h : ChPost W1 gc nP wc) : ∃ WB, WB = wc.alloc (.cells #[.slice none 0 0] 53) ∧ AccAt WB WB (gc + 1) (gc + 1 + 1) gc 0 nP none 0 S ∧ W1.grownBy WB none := by
  obtain ⟨h1, h2, h3, h4⟩ := h
  have hb := heap_alloc_new wc (.cells #[.slice none 0 0] 53)
  rw [h3] at hb
  have gg := grown_alloc wc (.cells #[.slice none 0 0] 53)
  refine ⟨_, rfl, ⟨rowS_nil _ _ _ _, hb, h1.kept gg, (gg.block _ (by omega) (by simp)).trans h4, grown_refl _ _, by rw [World.size_alloc]; omega, by omega, by rw [World.size_alloc]; omega⟩, grown_trans h2 gg⟩

attribute [local go_sem ↓] app_fold in
set_option maxHeartbeats 12800000 in
set_option maxRecDepth 100000 in
theorem accepts_any (x : Trs) (b e a : Option Addr) (d f c : Nat) (T : List NodeI) (w : World) (h : TrsAt w x b e) (hT : NodesAt w a T) (hx : GoodT x) (hG : GoodNd x.L T) :
    Calls Try.prog 23 #[trsV x.L x.N b x.R.length d x.S e x.M.length f, treeV a T.length c] w (Says (.bool (accTB x T)) w) := by
  have HR : Hid (∀ W, w.grownBy W none → RulesAt W b x.R) := fun W hW => (h.grown hW).rules
  have HM : Hid (∀ W, w.grownBy W none → Ints W e x.M) := fun W hW => (h.grown hW).marks
  have HT : Hid (∀ W, w.grownBy W none → NodesAt W a T) := fun W hW => hT.grown hW
  have HRu : Hid (∀ i, i < x.R.length → RuIn x.L x.N (x.R.getD i ru0)) := hx.ru
  have HNo : Hid (∀ i, i < T.length → NodeOk x.L i (T.getD i no0)) := hG.ok
  have HRow : Hid (∀ k, k < T.length → ∀ q, givB x.R T k q = ownB (givB x.R T) (T.getD k no0) x.R x.R.length q) := fun k hk q => givB_row hG.ok hk q
  have HPl : Hid (∀ (s : Int) (p : Nat), s + 1 = p → p ≤ 1000000 → ∀ W, Calls Try.prog 28 #[.int .i64 s] W fun e w' => e = .returned (.int .i64 (p : Int)) ∧ w' = W) := fun s p h1 h2 W => place_any s p h1 h2 W
  have hn1 := hG.n1
  have hn6 := hG.n6
  have hr4 := hx.r4
  have hN1 := hx.n1
  have hN3 := hx.n3
  have hML := hx.m
  obtain ⟨z, hz⟩ : ∃ z, accTB x T = z := ⟨_, rfl⟩
  have HZ : Hid (rootB (givB x.R T (T.length - 1)) x.M x.M.length = z) := hz
  rw [hz]
  obtain ⟨L, N, R, S0, M⟩ := x
  simp only at *
  obtain ⟨nN, rfl⟩ : ∃ n : Nat, N = n := ⟨N.toNat, by omega⟩
  have HML : Hid (M.length = nN) := by show _ = _; omega
  generalize hSS : givB R T = S at *
  obtain ⟨n, hn⟩ : ∃ n, T.length = n := ⟨_, rfl⟩
  obtain ⟨nR, hnR⟩ : ∃ n, R.length = n := ⟨_, rfl⟩
  obtain ⟨nM, hnM⟩ : ∃ n, M.length = n := ⟨_, rfl⟩
  have Hn : Hid (T.length = n) := hn
  have HnR : Hid (R.length = nR) := hnR
  have HnM : Hid (M.length = nM) := hnM
  rw [hn, hnR, hnM]
  rw [hn] at hn1 hn6
  rw [hnR] at hr4
  have hmM : nM ≤ 300 := by omega
  obtain ⟨nP, hnP⟩ : ∃ p, nN + 1 = p := ⟨_, rfl⟩
  have HnP : Hid (nN + 1 = nP) := hnP
  obtain ⟨W0, hW0, g0, s0, bx0⟩ := box5_new w (.int .i64 L) (.int .i64 (nN : Int)) (.slice b nR d) (.int .i64 S0) (.slice e nM f) 25
  obtain ⟨W1, hW1, g1, s1, bx1⟩ := box1_new W0 (.slice a n c) 28
  have HW1 : Hid (W1 = (w.alloc (.cells #[.int .i64 L, .int .i64 (nN : Int), .slice b nR d, .int .i64 S0, .slice e nM f] 25)).alloc (.cells #[.slice a n c] 28)) := by show _ = _; rw [hW1, hW0]
  have G1 : Hid (w.grownBy W1 none) := grown_trans g0 g1
  rw [s0] at bx1
  have B1 : Hid (∀ W', W1.grownBy W' none → W'.cell? ⟨w.heap.size + 1, 0, none⟩ = some (.slice a n c)) := bx1
  have B0 : Hid (∀ W', W1.grownBy W' none → W'.cell? ⟨w.heap.size, 0, none⟩ = some (.int .i64 L) ∧ W'.cell? ⟨w.heap.size, 1, none⟩ = some (.int .i64 (nN : Int)) ∧ W'.cell? ⟨w.heap.size, 2, none⟩ = some (.slice b nR d) ∧ W'.cell? ⟨w.heap.size, 3, none⟩ = some (.int .i64 S0) ∧ W'.cell? ⟨w.heap.size, 4, none⟩ = some (.slice e nM f)) := fun W' hW' => bx0 W' (grown_trans g1 hW')
  obtain ⟨W2, hmk, hrow, g2, s2⟩ := bools_make W1 nP (by omega)
  have HP0 : Hid (∀ W, Calls Try.prog 28 #[.int .i64 (nN : Int)] W fun e w' => e = .returned (.int .i64 (nP : Int)) ∧ w' = W) := HPl.out nN nP (by omega) (by omega)
  have HP1 : Hid (∀ W, Calls Try.prog 28 #[.int .i64 (-1)] W fun e w' => e = .returned (.int .i64 0) ∧ w' = W) := HPl.out (-1) 0 (by omega) (by omega)
  obtain ⟨x0, x1, x2, x3, x4⟩ := B0.out W1 (grown_refl _ _)
  obtain ⟨gc, hgc⟩ : ∃ gc, W1.heap.size = gc := ⟨_, rfl⟩
  rw [hgc] at hmk hrow s2
  rw [HW1.out] at x1 hmk
  obtain ⟨W3, hW3⟩ : ∃ W3, W3 = W2.alloc (.cells #[.slice (some ⟨gc, 0, none⟩) nP nP] 48) := ⟨_, rfl⟩
  have HW3 : Hid (W3 = _) := hW3
  have hb3 := heap_alloc_new W2 (.cells #[.slice (some ⟨gc, 0, none⟩) nP nP] 48)
  rw [← hW3, s2] at hb3
  have g3 : W2.grownBy W3 none := by rw [hW3]; exact grown_alloc _ _
  have s3 : W3.heap.size = gc + 1 + 1 := by rw [hW3, World.size_alloc, s2]
  have R3 : Hid (BRow W3 gc nP (fun _ => false)) := hrow.kept g3
  have GS3 : Hid (W1.grownBy W3 none ∧ W3.heap.size = gc + 1 + 1 ∧ W3.heap[gc + 1]? = some (.cells #[.slice (some ⟨gc, 0, none⟩) nP nP] 48 (0, 0)) ∧ W1.heap.size = gc) := ⟨grown_trans g2 g3, s3, hb3, hgc⟩
  have hmf : ∀ (fn : Fn) (first cap : Array Value) (w : World), (Instr.makeFunc fn first cap).run Try.prog w = .ok (.func fn first cap) w := fun _ _ _ _ => rfl
  have hc3 : W3.cell? ⟨gc + 1, 0, none⟩ = some (.slice (some ⟨gc, 0, none⟩) nP nP) := by rw [cell_of_row _ _ 0 _ _ (0, 0) hb3]; rfl
  have hc4 : W3.cell? ⟨gc, 0, none⟩ = some (.bool false) := R3.out.cell (by omega)
  have hf4 : W3.frozen? ⟨gc, 0, none⟩ = false := R3.out.frozen 0
  have hs2 : W2.heap.size = gc + 1 := s2
  have hnP0 : (0 : Int) < (nP : Int) := by omega
  clear h hT hx hG hz hn hnR hnM hW0 hW1 g0 g1 s0 s1 bx0 bx1 hML hSS hnP hrow g2 s2 hW3 hb3 g3 s3 hgc x0 x2 x3 x4
  go_enter Try.func23, Try.ntmps23
  go_wp2_with fail
  refine (HP0.out _).mono ?_
  rintro E w2 ⟨rfl, hw2⟩
  subst hw2
  go_wp2_with fail
  rw [← HW3.out]
  clear hmk hs2 x1
  go_cut [22] (fun v22 wc => ChPost W1 gc nP wc)
  case first =>
    go_region_with (go_at_call 28; refine (HP1.out _).mono ?_; rintro E w2 ⟨rfl, rfl⟩)
    all_goals
      go_wp2_with fail
      go_meet
      case rel => first | exact chPost R3.out GS3.out (by omega) | exact (chPost R3.out GS3.out (by omega)).drew
  case rest =>
    obtain ⟨WB, hWB, hA0, gB⟩ := accAt_start (fun i => shB (S i)) hcut
    have hsz := hcut.2.2.1
    have HWB : Hid (WB = _) := hWB
    have A0 : Hid (AccAt WB WB (gc + 1) (gc + 1 + 1) gc 0 nP none 0 (fun i => shB (S i))) := hA0
    have GB : Hid (W1.grownBy WB none) := gB
    have HG1 : Hid (W1.heap.size = gc) := GS3.out.2.2.2
    have x0 := B1.out WB gB
    rw [hWB] at x0
    clear hcut hWB hA0 gB R3 GS3 hc3 hc4 hf4
    go_wp2_with fail
    rw [← HWB.out]
    clear x0 hsz
    go_loopw [29] (fun v29 wr => ∃ (k c : Nat) (a : Option Addr), v29 = .int .i64 (k : Int) ∧ k ≤ n ∧ AccAt WB wr (gc + 1) (gc + 1 + 1) gc k nP a c (fun i => shB (S i))) (fun v29 _ => n - (intOf v29).toNat)
    case atStart => exact ⟨0, 0, none, rfl, by omega, A0.out⟩
    case round =>
      obtain ⟨k, cc, ac, rfl, hk, hst⟩ := hrel
      have ST : Hid (AccAt WB wr (gc + 1) (gc + 1 + 1) gc k nP ac cc (fun i => shB (S i))) := hst
      have GR : Hid (W1.grownBy wr none) := grown_new GB.out hst.gr (by have := HG1.out; omega)
      clear hst A0
      by_cases hkn : k < n
      · have qk : (k : Int) < (n : Int) := by omega
        obtain ⟨bb, off, ha, hc⟩ := (HT.out wr (grown_trans G1.out GR.out)).at (k := k) (by rw [Hn.out]; exact hkn)
        subst ha
        obtain ⟨y0, y1, y2⟩ := hc k (by rw [Hn.out]; exact hkn)
        have NOK : Hid (NodeOk L k (T.getD k no0)) := HNo.out k (by rw [Hn.out]; exact hkn)
        have ROW : Hid (∀ q, S k q = ownB S (T.getD k no0) R nR q) := fun q => by rw [HRow.out k (by rw [Hn.out]; exact hkn) q, HnR.out]
        clear hc
        generalize T.getD k no0 = x at *
        obtain ⟨xl, xa, xb⟩ := x
        simp only at y0 y1 y2
        obtain ⟨WA, hWA, gA, sA, bxA⟩ := box3_new wr (.int .i64 xl) (.int .i64 xa) (.int .i64 xb) 50
        have HWA : Hid (WA = _) := hWA
        have GA : Hid (wr.grownBy WA none) := gA
        obtain ⟨gl, gr, fl, fr, kids, hba, hbb⟩ : ∃ gl gr fl fr, Kids WA nP S (xl, xa, xb) gl gr fl fr ∧ (∀ W, WA.grownBy W none → Calls Try.prog 29 #[.int .i64 xa, .pointer (some ⟨gc + 1, 0, none⟩), .pointer (some ⟨gc + 1 + 1, 0, none⟩)] W fun e w' => e = .returned (.slice (some ⟨gl, 0, none⟩) nP nP) ∧ w' = W) ∧ (∀ W, WA.grownBy W none → Calls Try.prog 29 #[.int .i64 xb, .pointer (some ⟨gc + 1, 0, none⟩), .pointer (some ⟨gc + 1 + 1, 0, none⟩)] W fun e w' => e = .returned (.slice (some ⟨gr, 0, none⟩) nP nP) ∧ w' = W) := by
          have hA := ST.out.kept gA
          rcases NOK.out.2 with ⟨e1, e2⟩ | ⟨⟨e1, e2⟩, e3, e4⟩
          · simp only at e1 e2
            subst e1 e2
            refine ⟨gc, gc, chB, chB, kids_leaf hA.none, ?_, ?_⟩
            · intro W hW
              exact below_leaf _ _ _ W (hA.kept hW).cells.2.2 ⟨_, _, rfl⟩
            · intro W hW
              exact below_leaf _ _ _ W (hA.kept hW).cells.2.2 ⟨_, _, rfl⟩
          · simp only at e1 e2 e3 e4
            obtain ⟨ca, rfl⟩ : ∃ ca : Nat, xa = ca := ⟨xa.toNat, by omega⟩
            obtain ⟨cb, rfl⟩ : ∃ cb : Nat, xb = cb := ⟨xb.toNat, by omega⟩
            obtain ⟨g1, j1, ea, q1, r1⟩ := hA.rows.row (j := ca) (by omega)
            obtain ⟨g2, j2, eb, q2, r2⟩ := hA.rows.row (j := cb) (by omega)
            subst ea
            cases eb
            refine ⟨j1, j2, shB (S ca), shB (S cb), kids_both r1 r2, ?_, ?_⟩
            · intro W hW
              exact below_kid _ _ k cc g1 j1 nP ca W (hA.kept hW).cells.1 (hW.cell q1 (by simp)) (by omega) (by omega)
            · intro W hW
              exact below_kid _ _ k cc g1 j2 nP cb W (hA.kept hW).cells.1 (hW.cell q2 (by simp)) (by omega) (by omega)
        have KD : Hid (Kids WA nP S (xl, xa, xb) gl gr fl fr) := kids
        have HBa : Hid (∀ W, WA.grownBy W none → Calls Try.prog 29 #[.int .i64 xa, .pointer (some ⟨gc + 1, 0, none⟩), .pointer (some ⟨gc + 1 + 1, 0, none⟩)] W fun e w' => e = .returned (.slice (some ⟨gl, 0, none⟩) nP nP) ∧ w' = W) := hba
        have HBb : Hid (∀ W, WA.grownBy W none → Calls Try.prog 29 #[.int .i64 xb, .pointer (some ⟨gc + 1, 0, none⟩), .pointer (some ⟨gc + 1 + 1, 0, none⟩)] W fun e w' => e = .returned (.slice (some ⟨gr, 0, none⟩) nP nP) ∧ w' = W) := hbb
        obtain ⟨W5, hmk, hrow, g5, s5⟩ := bools_make WA.drew nP (by have := HnP.out; omega)
        have g5' : WA.grownBy W5 none := grown_trans (grown_drew (grown_refl _ _)) g5
        obtain ⟨go, hgo⟩ : ∃ go, WA.drew.heap.size = go := ⟨_, rfl⟩
        rw [hgo] at hmk hrow s5
        have hgo' : WA.heap.size = go := hgo
        have S5 : Hid (∀ wq, W5.grownBy wq (some go) → WA.grownBy wq none) := fun wq h => grown_new g5' h (by omega)
        have R0 : Hid (BRow W5 go nP (shB (ownB S (xl, xa, xb) R 0))) := own_zero1 hrow
        have BA : Hid (∀ W', W5.grownBy W' (some go) → W'.cell? ⟨wr.heap.size, 0, none⟩ = some (.int .i64 xl) ∧ W'.cell? ⟨wr.heap.size, 1, none⟩ = some (.int .i64 xa) ∧ W'.cell? ⟨wr.heap.size, 2, none⟩ = some (.int .i64 xb)) := fun W' hW' => bxA (some go) W' (grown_trans (grown_some g5') hW') (by simp; omega)
        have KC : Hid (∀ W', WA.grownBy W' none → W'.cell? ⟨wr.heap.size, 1, none⟩ = some (.int .i64 xa) ∧ W'.cell? ⟨wr.heap.size, 2, none⟩ = some (.int .i64 xb) ∧ W'.cell? ⟨w.heap.size, 1, none⟩ = some (.int .i64 (nN : Int))) := fun W' hW' => ⟨(bxA none W' hW' (by simp)).2.1, (bxA none W' hW' (by simp)).2.2, (B0.out W' (grown_trans GR.out (grown_trans gA hW'))).2.1⟩
        have G5 : Hid (WA.grownBy W5 none) := g5'
        clear hrow g5 s5 hgo hgo' hWA gA sA bxA kids hba hbb g5'
        go_wp2_with fail
        rw [← HWA.out]
        clear y0 y1 y2
        go_cut [10, 11, 12] (fun v10 v11 v12 wc => v10 = .slice (some ⟨gl, 0, none⟩) nP nP ∧ v11 = .slice (some ⟨gr, 0, none⟩) nP nP ∧ v12 = .slice (some ⟨go, 0, none⟩) nP nP ∧ wc = W5)
        case first =>
          go_region_held3 (fun W => W.cell? ⟨wr.heap.size, 1, none⟩ = some (.int .i64 xa) ∧ W.cell? ⟨wr.heap.size, 2, none⟩ = some (.int .i64 xb) ∧ W.cell? ⟨w.heap.size, 1, none⟩ = some (.int .i64 (nN : Int)))
            (first | (with_reducible exact KC.out _ (grown_drew (grown_refl _ _))) | (with_reducible exact KC.out _ G5.out) | assumption)
            (first
            | (go_at_call_of 29 (Value.int .i64 xa); refine (HBa.out _ (by first | (with_reducible exact grown_drew (grown_refl _ _)) | (with_reducible exact G5.out))).mono ?_; rintro E w2 ⟨rfl, rfl⟩)
            | (go_at_call_of 29 (Value.int .i64 xb); refine (HBb.out _ (by first | (with_reducible exact grown_drew (grown_refl _ _)) | (with_reducible exact G5.out))).mono ?_; rintro E w2 ⟨rfl, rfl⟩)
            | (go_at_call 28; refine (HP0.out _).mono ?_; rintro E w2 ⟨rfl, rfl⟩))
          all_goals
            go_wp2_with fail
            go_meet
            case rel => exact ⟨rfl, rfl, rfl, rfl⟩
        case rest =>
          obtain ⟨rfl, rfl, rfl, rfl⟩ := hcut
          clear KC HBa HBb hmk
          have xR := (B0.out wc (grown_trans GR.out (grown_trans GA.out G5.out))).2.2.1
          go_wp2_with fail
          clear xR
          go_loopw [48] (fun v48 wq => ∃ j : Nat, v48 = .int .i64 (j : Int) ∧ j ≤ nR ∧ BRow wq go nP (shB (ownB S (xl, xa, xb) R j)) ∧ wc.grownBy wq (some go)) (fun v48 _ => nR - (intOf v48).toNat)
          case atStart => exact ⟨0, rfl, by omega, R0.out, grown_refl _ _⟩
          case round =>
            rename World => wq
            clear R0
            obtain ⟨j, rfl, hj, hrw, hg⟩ := hrel
            have RR : Hid (BRow wq go nP (shB (ownB S (xl, xa, xb) R j))) := hrw
            have GG : Hid (wc.grownBy wq (some go)) := hg
            have GAQ : Hid (WA.grownBy wq none) := S5.out wq hg
            have GQ : Hid (W1.grownBy wq none) := grown_trans GR.out (grown_trans GA.out GAQ.out)
            clear hrw hg
            by_cases hjn : j < nR
            · have qj : (j : Int) < (nR : Int) := by omega
              obtain ⟨b2, off2, hb2, hc⟩ := (HR.out wq (grown_trans G1.out GQ.out)).at (k := j) (by rw [HnR.out]; exact hjn)
              subst hb2
              obtain ⟨y0, y1, y2, y3⟩ := hc j (by rw [HnR.out]; exact hjn)
              have ROK : Hid (RuIn L nN (R.getD j ru0)) := HRu.out j (by rw [HnR.out]; exact hjn)
              have HSk : Hid (∀ W, BRow W go nP (shB (ownB S (xl, xa, xb) R j)) → hitB S (xl, xa, xb) (R.getD j ru0) = false → BRow W go nP (shB (ownB S (xl, xa, xb) R (j + 1)))) := fun W hW hh => own_skip1 hW (by rw [HnR.out]; exact hjn) hh
              have HPt : Hid (∀ W t, BRow W go nP (shB (ownB S (xl, xa, xb) R j)) → hitB S (xl, xa, xb) (R.getD j ru0) = true → (R.getD j ru0).2.2.2 = ((t : Nat) : Int) → t + 1 < nP → BRow (W.setCell ⟨go, t + 1, none⟩ (.bool true)) go nP (shB (ownB S (xl, xa, xb) R (j + 1)))) := fun W t hW hh ht htn => own_put1 hW (by rw [HnR.out]; exact hjn) hh ht htn
              clear hc
              generalize R.getD j ru0 = r at *
              obtain ⟨r0, r1, r2, r3⟩ := r
              simp only at y0 y1 y2 y3
              have hrok := ROK.out
              unfold RuIn at hrok
              simp only at hrok
              obtain ⟨t, ht⟩ : ∃ t : Nat, r3 = t := ⟨r3.toNat, by omega⟩
              subst ht
              obtain ⟨t', ht'⟩ : ∃ t', t + 1 = t' := ⟨_, rfl⟩
              obtain ⟨p, hp⟩ : ∃ p : Nat, r1 + 1 = p := ⟨(r1 + 1).toNat, by omega⟩
              obtain ⟨q, hq⟩ : ∃ q : Nat, r2 + 1 = q := ⟨(r2 + 1).toNat, by omega⟩
              have hnP' := HnP.out
              have htn : t' < nP := by omega
              have hpn : p < nP := by omega
              have hqn : q < nP := by omega
              have HHit : Hid (hitB S (xl, xa, xb) (r0, r1, r2, (t : Int)) = ((r0 == xl) && (fl p && fr q))) := KD.out.2.2 r0 r1 r2 t p q hp hq (by omega)
              have HPp : Hid (∀ W, Calls Try.prog 28 #[.int .i64 r1] W fun e w' => e = .returned (.int .i64 (p : Int)) ∧ w' = W) := HPl.out r1 p hp (by omega)
              have HPq : Hid (∀ W, Calls Try.prog 28 #[.int .i64 r2] W fun e w' => e = .returned (.int .i64 (q : Int)) ∧ w' = W) := HPl.out r2 q hq (by omega)
              have HPt' : Hid (∀ W, Calls Try.prog 28 #[.int .i64 (t : Int)] W fun e w' => e = .returned (.int .i64 (t' : Int)) ∧ w' = W) := HPl.out t t' (by omega) (by omega)
              have it : (t' : Int) < (nP : Int) := by omega
              have ip : (p : Int) < (nP : Int) := by omega
              have iq : (q : Int) < (nP : Int) := by omega
              have HPt2 : Hid (∀ W, BRow W go nP (shB (ownB S (xl, xa, xb) R j)) → hitB S (xl, xa, xb) (r0, r1, r2, (t : Int)) = true → BRow (W.setCell ⟨go, t', none⟩ (.bool true)) go nP (shB (ownB S (xl, xa, xb) R (j + 1)))) := fun W hW hh => by rw [← ht']; exact HPt.out W t hW hh rfl (by omega)
              clear hrok ht' hp hq hnP' HPt ROK
              obtain ⟨WR, hWR⟩ : ∃ WR, WR = wq.alloc (.cells #[.int .i64 r0, .int .i64 r1, .int .i64 r2, .int .i64 (t : Int)] 46) := ⟨_, rfl⟩
              have HWR : Hid (WR = _) := hWR
              have gR : wq.grownBy WR none := by rw [hWR]; exact grown_alloc _ _
              have GGR : Hid (wc.grownBy WR (some go)) := grown_trans GG.out (grown_some gR)
              obtain ⟨n0, _, _⟩ := BA.out WR GGR.out
              have RRR : Hid (BRow WR go nP (shB (ownB S (xl, xa, xb) R j))) := RR.out.kept gR
              have KR : Hid (Kids WR nP S (xl, xa, xb) gl gr fl fr) := (KD.out.kept GAQ.out).kept gR
              have ft := RRR.out.frozen t'
              have xt := RRR.out.cell htn
              have xp := KR.out.1.cell hpn
              have xq := KR.out.2.1.cell hqn
              have GSt : Hid (wc.grownBy (WR.setCell ⟨go, t', none⟩ (.bool true)) (some go)) := grown_trans GGR.out (grown_set _ _ _)
              rw [hWR] at n0 ft xt xp xq
              generalize fl p = vp at *
              generalize fr q = vq at *
              clear gR hWR htn hpn hqn KR
              obtain ⟨lb, hlb⟩ : ∃ b, (r0 == xl) = b := ⟨_, rfl⟩
              rw [hlb] at HHit
              cases lb
              · have HN : Hid _ := HSk.out WR RRR.out HHit.out
                clear HSk HPt2
                go_wp2_with fail
                rw [← HWR.out]
                go_roundw
                case rel => exact ⟨j + 1, by go_num, by omega, HN.out, GGR.out⟩
                case measure => simp [intOf]; omega
              · go_wp2_with fail
                refine (HPp.out _).mono ?_
                rintro E w2 ⟨rfl, rfl⟩
                cases vp
                · have HN : Hid _ := HSk.out WR RRR.out HHit.out
                  clear HSk HPt2
                  go_wp2_with fail
                  rw [← HWR.out]
                  go_roundw
                  case rel => exact ⟨j + 1, by go_num, by omega, HN.out, GGR.out⟩
                  case measure => simp [intOf]; omega
                · go_wp2_with fail
                  refine (HPq.out _).mono ?_
                  rintro E w2 ⟨rfl, rfl⟩
                  cases vq
                  · have HN : Hid _ := HSk.out WR RRR.out HHit.out
                    clear HSk HPt2
                    go_wp2_with fail
                    rw [← HWR.out]
                    go_roundw
                    case rel => exact ⟨j + 1, by go_num, by omega, HN.out, GGR.out⟩
                    case measure => simp [intOf]; omega
                  · have HN : Hid _ := HPt2.out WR RRR.out HHit.out
                    clear HSk HPt2
                    go_wp2_with fail
                    refine (HPt'.out _).mono ?_
                    rintro E w2 ⟨rfl, rfl⟩
                    go_wp2_with fail
                    rw [← HWR.out]
                    go_roundw
                    case rel => exact ⟨j + 1, by go_num, by omega, HN.out, GSt.out⟩
                    case measure => simp [intOf]; omega
            · have qj : ¬ (j : Int) < (nR : Int) := by omega
              obtain rfl : j = nR := by omega
              have RF : BRow wq go nP (shB (S k)) := RR.out.congr fun i hi => by
                have : S k = ownB S (xl, xa, xb) R j := funext ROW.out
                rw [this]
              have AQ := (ST.out.kept GA.out).kept GAQ.out
              have xq := AQ.cells.1
              obtain ⟨gA, cA, wA, hrun, xw, fw, hst2⟩ := AQ.app RF (by omega)
              have STA : Hid (AccAt WB (wA.setCell ⟨gc + 1 + 1, 0, none⟩ (.slice (some ⟨gA, 0, none⟩) (k + 1) cA)) (gc + 1) (gc + 1 + 1) gc (k + 1) nP (some ⟨gA, 0, none⟩) cA (fun i => shB (S i))) := hst2
              clear hst2 RF AQ
              have xq' : ∀ o, (wq.alloc o).cell? ⟨gc + 1 + 1, 0, none⟩ = some (.slice ac k cc) := fun o => (grown_alloc _ o).cell xq (by simp)
              go_wp2_with fail
              go_roundw
              case rel => exact ⟨k + 1, cA, some ⟨gA, 0, none⟩, by go_num, by omega, STA.out⟩
              case measure => simp [intOf]; omega
      · have qk : ¬ (k : Int) < (n : Int) := by omega
        obtain rfl : k = n := by omega
        obtain ⟨p, hp⟩ : ∃ p, k - 1 = p := ⟨_, rfl⟩
        have hwp : IntKind.i64.wrap ((k : Int) - 1) = (p : Int) := by rw [IntKind.wrap_i64]; omega
        obtain ⟨gs, gj, ea, z1, hb⟩ := ST.out.rows.row (j := p) (by omega)
        subst ea
        have z0 := ST.out.cells.1
        have RB : Hid (BRow wr gj nP (shB (S p))) := hb
        have hpk : (p : Int) < (k : Int) := by omega
        have GF : Hid (w.grownBy wr none) := grown_trans G1.out GR.out
        have HZ2 : Hid (rootB (S p) M nM = z) := by
          show _ = _
          rw [← HZ.out, HnM.out, Hn.out, hp]
        have HMN : Hid (nM + 1 = nP) := by show _ = _; rw [← HnP.out, ← HML.out, HnM.out]
        have IM : Hid (Ints wr e M) := HM.out wr GF.out
        have x4 := (B0.out wr GR.out).2.2.2.2
        clear hb hp HR HM HT HRu HNo HRow HZ ST HP0 HP1
        go_wp2_with fail
        clear z0 z1 x4
        go_loop [93] (fun v => ∃ q : Nat, q ≤ nM ∧ v = .int .i64 q ∧ rootB (S p) M q = false) (fun v => nM - (intOf v).toNat)
        case atStart => exact ⟨0, by omega, rfl, rootB_zero _ _⟩
        case round =>
          obtain ⟨q, hq, rfl, hroot⟩ := hrel
          have RO : Hid (rootB (S p) M q = false) := hroot
          clear hroot
          by_cases hqn : q < nM
          · have qq : (q : Int) < (nM : Int) := by omega
            obtain ⟨be, offe, he, hc⟩ := IM.out.at (k := q) (by rw [HnM.out]; exact hqn)
            subst he
            have y4 := hc q (by rw [HnM.out]; exact hqn)
            obtain ⟨q', hq'⟩ : ∃ q', q + 1 = q' := ⟨_, rfl⟩
            have hqP : q' < nP := by have := HMN.out; omega
            have iq : (q' : Int) < (nP : Int) := by omega
            have y5 := RB.out.cell hqP
            rw [← hq', shB_succ, hq'] at y5
            have HPq : Hid (∀ W, Calls Try.prog 28 #[.int .i64 (q : Int)] W fun e w' => e = .returned (.int .i64 (q' : Int)) ∧ w' = W) := HPl.out q q' (by omega) (by omega)
            have HSu : Hid (rootB (S p) M (q + 1) = (M.getD q 0 == 1 && S p q)) := by show _ = _; rw [rootB_succ, RO.out]; simp
            have HHi : Hid ((M.getD q 0 == 1 && S p q) = true → z = true) := fun hh => by rw [← HZ2.out]; exact rootB_hit hqn hh
            generalize S p q = sv at *
            generalize M.getD q 0 = mv at *
            clear hc hq'
            obtain ⟨mb, hmb⟩ : ∃ m, (mv == 1) = m := ⟨_, rfl⟩
            rw [hmb] at HSu HHi
            cases mb
            · have HN : Hid (rootB (S p) M (q + 1) = false) := HSu.out
              clear HSu HHi
              go_wp2_with fail
              go_round
              case rel => exact ⟨q + 1, by omega, by go_num, HN.out⟩
              case measure => simp [intOf]; omega
            · go_wp2_with fail
              refine (HPq.out _).mono ?_
              rintro E w2 ⟨rfl, hw2⟩
              subst hw2
              cases sv
              · have HN : Hid (rootB (S p) M (q + 1) = false) := HSu.out
                clear HSu HHi
                go_wp2_with fail
                go_round
                case rel => exact ⟨q + 1, by omega, by go_num, HN.out⟩
                case measure => simp [intOf]; omega
              · have Hz : Hid (z = true) := HHi.out rfl
                clear HSu HHi
                go_wp2_with fail
                go_ret
                exact ⟨ret_bool Hz.out.symm, GF.out⟩
          · have qq : ¬ (q : Int) < (nM : Int) := by omega
            obtain rfl : q = nM := by omega
            have Hz : Hid (z = false) := by show _ = _; rw [← HZ2.out, RO.out]
            go_wp2_with fail
            go_ret
            exact ⟨ret_bool Hz.out.symm, GF.out⟩

end Go.Proofs.Ytofjmakmbmndoaa
