/- One behind another: the reference's Behind. -/
import Derived.Test.YtodcmlcpicabaaaTpRefB0
import Derived.Test.YtodcmlcpicabaaaTpCan
import Derived.Test.YtodcmlcpicabaaaTnCk
namespace Go.Proofs.Ytodcmlcpicabaaa
open Go.RowKit
set_option linter.unusedVariables false
set_option linter.unusedSimpArgs false

theorem wrap_smallB {z : Nat} (h : z < 4611686018427387904) : IntKind.i64.wrap (z : Int) = (z : Int) := by rw [IntKind.wrap_i64]; omega
/-- The second one's box; three cells on the way to a word of the first. -/
structure SBh (bt bu : Nat) (y : TrI) (e3 e4 e5 e6 : Option Addr) (d3 d4 d5 d6 : Nat) (i : Nat) (v : Value) (b5 o5 : Nat) (v5 : Value) (b6 o6 : Nat) (v6 : Value) (W : World) : Prop where
  k0 : W.cell? ⟨bu, 0, none⟩ = some (.int .i64 y.I)
  k1 : W.cell? ⟨bu, 1, none⟩ = some (.int .i64 y.O)
  k2 : W.cell? ⟨bu, 2, none⟩ = some (.int .i64 y.S)
  k3 : W.cell? ⟨bu, 3, none⟩ = some (.slice e3 y.F.length d3)
  k4 : W.cell? ⟨bu, 4, none⟩ = some (.slice e4 y.N.length d4)
  k5 : W.cell? ⟨bu, 5, none⟩ = some (.slice e5 y.Y.length d5)
  k6 : W.cell? ⟨bu, 6, none⟩ = some (.slice e6 y.E.length d6)
  q5 : W.cell? ⟨bt, i, none⟩ = some v
  q6 : W.cell? ⟨b5, o5, none⟩ = some v5
  q7 : W.cell? ⟨b6, o6, none⟩ = some v6
theorem SBh.kept {bt bu : Nat} {y : TrI} {e3 e4 e5 e6 : Option Addr} {d3 d4 d5 d6 : Nat} {i : Nat} {v : Value} {b5 o5 : Nat} {v5 : Value} {b6 o6 : Nat} {v6 : Value} {W W' : World} (h : SBh bt bu y e3 e4 e5 e6 d3 d4 d5 d6 i v b5 o5 v5 b6 o6 v6 W) (k : W.grownBy W' none) : SBh bt bu y e3 e4 e5 e6 d3 d4 d5 d6 i v b5 o5 v5 b6 o6 v6 W' :=
  ⟨k.cell h.k0 (by simp), k.cell h.k1 (by simp), k.cell h.k2 (by simp), k.cell h.k3 (by simp), k.cell h.k4 (by simp), k.cell h.k5 (by simp), k.cell h.k6 (by simp), k.cell h.q5 (by simp), k.cell h.q6 (by simp), k.cell h.q7 (by simp)⟩
def rowNB (x y : TrI) (I s : Nat) : List Int := (List.range I).map fun a => ((bD x y s a : Nat) : Int)
def rowYB (x y : TrI) (I s : Nat) : List (List Int) := (List.range I).map (bS x y s)
def NewE (B : Nat) (es : List Trip) : Prop := ∀ t, t ∈ es → t.2.2.length ≤ t.2.1 ∧ ∀ z, t.1 = some z → B ≤ z.block
/-- What is written down of c pairs. -/
def BhSt (x y : TrI) (I B : Nat) (W1 : World) (aF : Option Addr) (nF cF c : Nat) (W : World) : Prop := ∃ aN aY aE cN cY cE rs ys es, BhT B W (I : Int) y.O ((bX x y : Nat) : Int) (.slice aF nF cF) (.slice aN c cN) (.slice aY c cY) (.slice aE c cE) (bF x y) rs ys es [] [] ∧ rs.length = c ∧ ys.length = c ∧ es.length = c ∧ rs.map (·.2) = (List.range c).map (rowNB x y I) ∧ ys.map (fun p => wordsT p.2) = (List.range c).map (rowYB x y I) ∧ wordsT es = (List.range c).map (bE x y) ∧ NewE B es ∧ W1.grownBy W none
def RLeastE3 (x : TrI) (I : Nat) (D : Nat → Prop) (w : World) (e : Ending) (w' : World) : Prop := ∃ L a3 a4 a5 a6 c3 c4 c5 c6, RefIs x I L ∧ w.grownBy w' none ∧ e = .returned (tnV L.I L.O L.S a3 L.F.length c3 a4 L.N.length c4 a5 L.Y.length c5 a6 L.E.length c6) ∧ TnAt w' L a3 a4 a5 a6 ∧ ∀ W b, D b → w'.grownBy W (some b) → TnAt W L a3 a4 a5 a6
theorem RLeastP.three {x : TrI} {I : Nat} {D : Nat → Prop} {w w' : World} {e : Ending} (h : RLeastP x I D w e w') : RLeastE3 x I D w e w' := by
  obtain ⟨B, cls, k3, a3, a4, a5, a6, c3, c4, c5, c6, h1, h2, h3, h4, h5, h6, h7, h8⟩ := h
  have hlen := ofK_len (κ := cls) (O := x.O) (F := (pushT x I B).F) (l := I) (δ := nxT x) (σ := syT (pushT x I B)) (ε := fun q => (pushT x I B).E.getD q []) (xs := bfsL cls (nxT x) I x.S.toNat k3)
  rw [h3.len] at hlen
  refine ⟨refL x I B cls k3, a3, a4, a5, a6, c3, c4, c5, c6, ⟨B, cls, k3, h1, h2, h3, rfl⟩, h7, ?_, h6, h8⟩
  rw [h5, show (refL x I B cls k3).N.length = k3 from hlen.1, show (refL x I B cls k3).Y.length = k3 from hlen.2.1, show (refL x I B cls k3).E.length = k3 from hlen.2.2]
  rfl
/-- All pairs are written down. -/
theorem BhSt.end {x y : TrI} {I M B : Nat} {W1 W : World} {aF : Option Addr} {nF cF c : Nat} (h : BhSt x y I B W1 aF nF cF c W) (hB : BehG x y I M) (hc : c = x.N.length * y.N.length) (hn : (bF x y).length = nF) (hNN : x.N.length * y.N.length ≤ 36) (hI : I ≤ 4) :
    ∃ aN aY aE cN cY cE, (W.cell? ⟨B, 0, none⟩ = some (.int .i64 (I : Int)) ∧ W.cell? ⟨B, 1, none⟩ = some (.int .i64 y.O) ∧ W.cell? ⟨B, 2, none⟩ = some (.int .i64 ((bX x y : Nat) : Int)) ∧ W.cell? ⟨B, 3, none⟩ = some (.slice aF nF cF) ∧ W.cell? ⟨B, 4, none⟩ = some (.slice aN c cN) ∧ W.cell? ⟨B, 5, none⟩ = some (.slice aY c cY) ∧ W.cell? ⟨B, 6, none⟩ = some (.slice aE c cE)) ∧
      TnAt W (refB x y I) aF aN aY aE ∧ CapsAt W aE (refB x y I).E ∧ FarA W aE (refB x y I).E (fun b => b < B) ∧ W1.grownBy W none := by
  obtain ⟨aN, aY, aE, cN, cY, cE, rs, ys, es, hb, h1, h2, h3, h4, h5, h6, h7, h8⟩ := h
  obtain ⟨q0, q1, q2, q3, q4, q5, q6, _⟩ := hb.cells
  have o := hb.own.own
  have hwl : ∀ t, t ∈ es ++ ys.flatMap (·.2) → Ints W t.1 t.2.2 := fun t ht => hb.own.lie t (by simpa using ht)
  obtain ⟨aF', cF', eF, iF, _⟩ := item_ints (o.1 (3, .slice aF nF cF, vals (bF x y)) (by simp))
  obtain ⟨aN', cN', eN, lN, kN⟩ := item_cells (o.1 (22, .slice aN c cN, rs.map (·.1)) (by simp))
  obtain ⟨aY', cY', eY, lY, kY⟩ := item_cells (o.1 (23, .slice aY c cY, ys.map (·.1)) (by simp))
  obtain ⟨aE', cE', eE, lE, kE⟩ := item_cells (o.1 (22, .slice aE c cE, valsT es) (by simp))
  simp only [Value.slice.injEq] at eF eN eY eE
  obtain ⟨rfl, _, rfl⟩ := eF
  obtain ⟨rfl, _, rfl⟩ := eN
  obtain ⟨rfl, _, rfl⟩ := eY
  obtain ⟨rfl, _, rfl⟩ := eE
  have hN' : (refB x y I).N = (List.range c).map (rowNB x y I) := by rw [hc]; rfl
  have hY' : (refB x y I).Y = (List.range c).map (rowYB x y I) := by rw [hc]; rfl
  have hE' : (refB x y I).E = wordsT es := by rw [h6, hc]; rfl
  have hc0 : c ≠ 0 := by have := hB.x0; omega
  have sm : ∀ t, t ∈ es → t.2.2.length ≤ 72 := fun t ht => by
    have h9 : t.2.2 ∈ wordsT es := List.mem_map.2 ⟨t, ht, rfl⟩
    rw [h6] at h9
    obtain ⟨s, hs, e⟩ := List.mem_map.1 h9
    rw [← e]
    exact hB.e72 (by rw [← hc]; exact List.mem_range.1 hs)
  have smY : ∀ i, (hi : i < ys.length) → ∀ t, t ∈ ys[i].2 → t.2.2.length ≤ 64 := fun i hi t ht => by
    have h9 : t.2.2 ∈ wordsT ys[i].2 := List.mem_map.2 ⟨t, ht, rfl⟩
    have h10 : wordsT ys[i].2 = rowYB x y I i := by
      have := congrArg (fun l => l[i]?) h5
      simpa [hi, show i < c by omega] using this
    rw [h10] at h9
    obtain ⟨a, ha, e⟩ := List.mem_map.1 h9
    rw [← e]
    exact hB.s64 (by omega) (List.mem_range.1 ha)
  have tE : TripAt W aE es := by
    rcases kE with kE | ⟨g, rfl, kE⟩
    · left; simpa [valsT] using kE
    · exact .inr ⟨g, 0, rfl, fun i hi => by rw [Nat.zero_add]; exact kE i _ (by simp [valsT, List.getD, hi])⟩
  have lE' : LieT W es := fun t ht => ⟨hwl t (List.mem_append.2 (.inl ht)), by have := sm t ht; unfold maxLen; omega⟩
  refine ⟨aN, aY, aE, cN, cY, cE, ⟨q0, q1, q2, q3, q4, q5, q6⟩, ⟨iF, ?_, ?_, by rw [hE']; exact tE.rows lE', by show (bF x y).length ≤ maxLen; have := hB.f72; unfold maxLen; omega, ?_, ?_, ?_⟩, ?_, ?_, h8⟩
  · rw [hN', ← h4]
    rcases kN with kN | ⟨g, rfl, kN⟩
    · left
      have : rs = [] := by simpa using kN
      rw [this]; rfl
    · refine .inr ⟨g, 0, rfl, fun i hi => ?_⟩
      have hi' : i < rs.length := by simpa using hi
      obtain ⟨ay, cy, ey, ty, ly⟩ := item_ints (o.1 (3, rs[i].1, vals rs[i].2) (by
        have : (3, rs[i].1, vals rs[i].2) ∈ rowItems rs := List.mem_map.2 ⟨rs[i], List.getElem_mem hi', rfl⟩
        simp only [List.mem_cons, List.mem_append, List.nil_append]
        exact .inr (.inr (.inr (.inr (.inr (.inl this)))))))
      have e1 : (rs.map (·.2)).getD i [] = rs[i].2 := by simp [List.getD, hi']
      rw [e1]
      refine ⟨ay, cy, ?_, ty, ly⟩
      rw [Nat.zero_add, kN i rs[i].1 (by simp [hi'])]
      exact congrArg some ey
  · rw [hY', ← h5]
    rcases kY with kY | ⟨g, rfl, kY⟩
    · left
      have : ys = [] := by simpa using kY
      rw [this]; rfl
    · refine .inr ⟨g, 0, rfl, fun i hi => ?_⟩
      have hi' : i < ys.length := by simpa using hi
      obtain ⟨ay, cy, ey, ty, ly⟩ := item_trip (o.1 (22, ys[i].1, valsT ys[i].2) (by
        have : (22, ys[i].1, valsT ys[i].2) ∈ sayItems ys := List.mem_map.2 ⟨ys[i], List.getElem_mem hi', rfl⟩
        simp only [List.mem_cons, List.mem_append, List.nil_append]
        exact .inr (.inr (.inr (.inr (.inr (.inr this)))))))
      have e1 : (ys.map (fun p => wordsT p.2)).getD i [] = wordsT ys[i].2 := by simp [List.getD, hi']
      have hly : LieT W ys[i].2 := fun t ht => ⟨hwl t (List.mem_append.2 (.inr (List.mem_flatMap.2 ⟨ys[i], List.getElem_mem hi', ht⟩))), by have := smY i hi' t ht; unfold maxLen; omega⟩
      rw [e1, wordsT_len]
      refine ⟨ay, cy, ?_, ty.rows hly, ly⟩
      rw [Nat.zero_add, kY i ys[i].1 (by simp [hi'])]
      exact congrArg some ey
  · rw [refB_len.1]; unfold maxLen; omega
  · rw [refB_len.2.1]; unfold maxLen; omega
  · rw [refB_len.2.2]; unfold maxLen; omega
  · rw [hE']
    rcases tE with e | ⟨g, off, e1, e2⟩
    · left; rw [e]; rfl
    · refine .inr ⟨g, off, e1, fun i hi => ?_⟩
      rw [wordsT_len] at hi
      have h9 := e2 i hi
      rw [← words_at hi]
      exact ⟨_, _, h9, (h7 _ (OwnS.mem hi)).1⟩
  · rw [hE']
    intro ps hps hT t ht hne z hz hlt
    obtain ⟨i, hi, rfl⟩ := List.getElem_of_mem ht
    have hl : ps.length = es.length := by have := congrArg List.length hps; simpa [wordsT] using this
    have hi2 : i < es.length := by omega
    rcases hT with e | ⟨g, off, e1, e2⟩
    · rw [e] at hi; simp at hi
    · rcases tE with e | ⟨g', off', e3, e4⟩
      · rw [e] at hi2; simp at hi2
      · rw [e1] at e3
        cases e3
        have h9 := e2 i hi
        rw [e4 i hi2] at h9
        have e5 : ps.getD i (none, 0, []) = ps[i] := by simp [List.getD, hi]
        have e6 : es.getD i (none, 0, []) = es[i] := by simp [List.getD, hi2]
        rw [e5, e6] at h9
        simp only [valT, Option.some.injEq, Value.slice.injEq] at h9
        have h10 := (h7 es[i] (List.getElem_mem hi2)).2 z (by rw [h9.1]; exact hz)
        omega

attribute [local go_sem ↓] appY_fold in
set_option maxHeartbeats 3200000 in
set_option maxRecDepth 100000 in
theorem behR_any (x y : TrI) (I M : Nat) (hB : BehG x y I M) (a3 a4 a5 a6 : Option Addr) (c3 c4 c5 c6 : Nat) (e3 e4 e5 e6 : Option Addr) (d3 d4 d5 d6 : Nat) (w : World) (hx : TnAt w x a3 a4 a5 a6) (hy : TnAt w y e3 e4 e5 e6) (hxI : x.I = (I : Int)) (hI : I ≤ 4) (hM : M ≤ 4) (hn6 : x.N.length ≤ 6) (hm6 : y.N.length ≤ 6) :
    Calls Try.prog 8 #[tnV x.I x.O x.S a3 x.F.length c3 a4 x.N.length c4 a5 x.Y.length c5 a6 x.E.length c6, tnV y.I y.O y.S e3 y.F.length d3 e4 y.N.length d4 e5 y.Y.length d5 e6 y.E.length d6] w (RLeastE2 (refB x y I) I w) := by
  obtain ⟨W0, hW0, g0, s0, bx, bz⟩ := two_boxes7 w x y a3 a4 a5 a6 c3 c4 c5 c6 e3 e4 e5 e6 d3 d4 d5 d6
  obtain ⟨W1, hW1⟩ : ∃ W, W = W0.alloc tnZO := ⟨_, rfl⟩
  have g1 : W0.grownBy W1 none := by rw [hW1]; exact grown_alloc _ _
  have s00 : W0.heap.size = w.heap.size + 1 + 1 := by omega
  have hrb : W1.heap[w.heap.size + 1 + 1]? = some (.cells #[.int .i64 0, .int .i64 0, .int .i64 0, .slice none 0 0, .slice none 0 0, .slice none 0 0, .slice none 0 0] 26 (0, 0)) := by
    have := heap_alloc_new W0 tnZO
    rw [← hW1, s00] at this
    exact this
  have HW1 : Hid (W1 = ((w.alloc (tnO x.I x.O x.S a3 x.F.length c3 a4 x.N.length c4 a5 x.Y.length c5 a6 x.E.length c6)).alloc (tnO y.I y.O y.S e3 y.F.length d3 e4 y.N.length d4 e5 y.Y.length d5 e6 y.E.length d6)).alloc tnZO) := by show _ = _; rw [hW1, hW0]
  have G1 : Hid (w.grownBy W1 none) := grown_trans g0 g1
  have HSz : Hid (W1.heap.size = w.heap.size + 1 + 1 + 1) := by show _ = _; rw [hW1, World.size_alloc, s00]
  have HLe : Hid (∀ W, W1.grownBy W none → w.heap.size + 1 + 1 + 1 ≤ W.heap.size) := fun W hW => by have h1 := HSz.out; have h2 := hW.size; omega
  have HLb : Hid (W1.heap.size ≤ w.heap.size + 1 + 1 + 1) := Nat.le_of_eq HSz.out
  have HRB : Hid (∀ W, W1.grownBy W none → W.heap[w.heap.size + 1 + 1]? = some (.cells #[.int .i64 0, .int .i64 0, .int .i64 0, .slice none 0 0, .slice none 0 0, .slice none 0 0, .slice none 0 0] 26 (0, 0))) := fun W hW => (hW.block _ (by have := HSz.out; omega) (by simp)).trans hrb
  have HX : Hid (∀ W, W1.grownBy W none → Box7 W w.heap.size (I : Int) x.O x.S a3 x.F.length c3 a4 x.N.length c4 a5 x.Y.length c5 a6 x.E.length c6) := fun W hW => by rw [← hxI]; exact (bx.grown g1).grown hW
  have HY : Hid (∀ W, W1.grownBy W none → Box7 W (w.heap.size + 1) y.I y.O y.S e3 y.F.length d3 e4 y.N.length d4 e5 y.Y.length d5 e6 y.E.length d6) := fun W hW => (bz.grown g1).grown hW
  have HB : Hid (BehG x y I M) := hB
  have HR : Hid (ReadT x I) := hB.rx
  have HRY : Hid (ReadT y M) := hB.ry
  have HTX : Hid (∀ W, w.grownBy W none → TnAt W x a3 a4 a5 a6) := fun W hW => hx.grown hW
  have HTY : Hid (∀ W, w.grownBy W none → TnAt W y e3 e4 e5 e6) := fun W hW => hy.grown hW
  have HFr : Hid (∀ (W : World) (q : Nat) (u : List Int) (a : Option Addr) (c : Nat), w.grownBy W none → q < y.N.length → Ints W a u → (∀ j, j ∈ u → 0 ≤ j ∧ j < (M : Int)) → u.length ≤ 1000 → Calls Try.prog 24 #[tnV y.I y.O y.S e3 y.F.length d3 e4 y.N.length d4 e5 y.Y.length d5 e6 y.E.length d6, .int .i64 (q : Int), .slice a u.length c] W (FromP y q (tnsT u) W)) := fun W q u a c hW hq hu hm hl => by
    have h1 := fromR_any y M e3 e4 e5 e6 d3 d4 d5 d6 W (hy.grown hW) hB.ry hM (by omega) q hq (tnsT u) (tns_lt hm) (by rw [tnsT_len]; exact hl) a c (by rw [nsT_tns (fun j hj => (hm j hj).1)]; exact hu)
    rw [tnsT_len] at h1
    exact h1
  have hk := hB.st
  have hsx := hB.rx.st
  have hsy := hB.ry.st
  unfold StT at hsx hsy
  obtain ⟨sx, hsx0⟩ : ∃ s : Nat, x.S = (s : Int) := ⟨x.S.toNat, by omega⟩
  obtain ⟨sy, hsy0⟩ : ∃ s : Nat, y.S = (s : Int) := ⟨y.S.toNat, by omega⟩
  have tx : x.S.toNat = sx := by omega
  have ty : y.S.toNat = sy := by omega
  rw [tx, ty] at hk
  have hNN : x.N.length * y.N.length ≤ 36 := Nat.mul_le_mul hn6 hm6
  have HNN : Hid (x.N.length * y.N.length ≤ 36) := hNN
  have HCw : Hid (∀ q r, q < x.N.length → r < y.N.length → ∃ xk c, q * y.N.length = xk ∧ q * y.N.length + r = c ∧ c < x.N.length * y.N.length ∧ IntKind.i64.wrap ((q : Int) * (y.N.length : Int)) = (xk : Int) ∧ IntKind.i64.wrap ((xk : Int) + (r : Int)) = (c : Int)) := fun q r hq hr => by
    have h1 := pair_lt hq hr
    refine ⟨_, _, rfl, rfl, h1, ?_, ?_⟩
    · have h2 := wrap_smallB (z := q * y.N.length) (by omega)
      rw [← h2]; simp
    · have h2 := wrap_smallB (z := q * y.N.length + r) (by omega)
      rw [← h2]; simp
  have hf8 := hB.rx.f8
  have hyf8 := hB.ry.f8
  -- what the first word comes to
  obtain ⟨u1, hu1⟩ : ∃ u, ruT y sy (tnsT x.F) = u := ⟨_, rfl⟩
  obtain ⟨g, hg⟩ : ∃ g, goT y sy (tnsT x.F) = g := ⟨_, rfl⟩
  have hl1 : u1.length ≤ 64 := by
    have h1 := hB.ry.len _ (tns_lt hB.f) hk.1
    rw [tnsT_len, hu1] at h1
    omega
  have hgn : g < y.N.length := by rw [← hg]; exact hB.ry.go _ (tns_lt hB.f) hk.1
  obtain ⟨xk, cs, hxk, hcs, _, wr1, wr2⟩ := HCw.out sx g hk.2 hgn
  have HbX : Hid (bX x y = cs) := by show _ = _; unfold bX; rw [tx, ty, hg]; exact hcs
  have HbF : Hid (bF x y = y.F ++ u1) := by show _ = _; unfold bF; rw [ty, hu1]
  have HF1 : Hid (∀ W, w.grownBy W none → Calls Try.prog 24 #[tnV y.I y.O y.S e3 y.F.length d3 e4 y.N.length d4 e5 y.Y.length d5 e6 y.E.length d6, .int .i64 y.S, .slice a3 x.F.length c3] W (fun e w' => ∃ a c, e = .returned (.tuple #[.slice a u1.length c, .int .i64 (g : Int)]) ∧ OwnW W w' a c u1)) := fun W hW => by
    have h1 := HFr.out W sy x.F a3 c3 hW hk.1 (hx.first.grown hW) hB.f (by omega)
    rw [← hsy0] at h1
    unfold FromP at h1
    rw [hu1, hg] at h1
    exact h1
  obtain ⟨W2, hW2⟩ : ∃ W, W = W1.alloc (.cells #[.int .i64 (I : Int), .int .i64 y.O, .int .i64 0, .slice none 0 0, .slice none 0 0, .slice none 0 0, .slice none 0 0] 26) := ⟨_, rfl⟩
  have HW2 : Hid (W2 = _) := hW2
  have g12 : W1.grownBy W2 none := by rw [hW2]; exact grown_alloc _ _
  have G12 : Hid (W1.grownBy W2 none) := g12
  have HB2 : Hid (BhT (w.heap.size + 1 + 1 + 1) W2 (I : Int) y.O 0 (.slice none 0 0) (.slice none 0 0) (.slice none 0 0) (.slice none 0 0) [] [] [] [] [] []) := by
    have := BhT.start (w := W1) (I := (I : Int)) (O := y.O) (S := 0)
    rw [← hW2, HSz.out] at this
    exact this
  have b1x := HX.out W1 (grown_refl _ _)
  have b1y := HY.out W1 (grown_refl _ _)
  have b2x := HX.out W2 g12
  have b2y := HY.out W2 g12
  have x0 := b1x.b0
  have z1 := b1y.b1
  have z4 := b1y.b4
  have x3 := b2x.b3
  have y0 := b2y.b0
  have y1 := b2y.b1
  have y2 := b2y.b2
  have y3 := b2y.b3
  have y4 := b2y.b4
  have y5 := b2y.b5
  have y6 := b2y.b6
  obtain ⟨Po, hPo⟩ : ∃ P, P = RLeastE2 (refB x y I) I w := ⟨_, rfl⟩
  have HPo : Hid (Po = RLeastE2 (refB x y I) I w) := hPo
  rw [← hPo]
  rw [hW2] at x3 y0 y1 y2 y3 y4 y5 y6
  rw [HW1.out] at HW2 x0 z1 z4 x3 y0 y1 y2 y3 y4 y5 y6
  rw [hxI]
  rw [hxI] at HW1 HW2 x0 z1 z4 x3 y0 y1 y2 y3 y4 y5 y6
  have HS0 : Hid (x.S = (sx : Int)) := hsx0
  clear hW0 hW1 g0 g1 s0 s00 bx bz hx hy hrb hB hxI hW2 g12 b1x b1y b2x b2y hPo hsx hsy hsx0 hsy0 tx ty hk hu1 hg hcs hxk hNN
  go_enter Try.func8, Try.ntmps8
  go_wp2_with fail
  rw [← HW2.out]
  clear x0 z1 z4 x3 y0 y1 y2 y3 y4 y5 y6
  refine (HF1.out W2 (grown_trans G1.out G12.out)).mono ?_
  rintro E w3 ⟨aW, cW, rfl, hoW⟩
  have G3 : Hid (W1.grownBy w3 none) := grown_trans G12.out hoW.gr
  have hb3 := HB2.out.kept hoW.gr
  have hb3w := HB2.out.word (w' := w3) (zs := u1) hoW.gr hoW.ints (fun _ z hz => hoW.new z hz) cW
  obtain ⟨aG, cG, w4, hrunF, ⟨p3, f3⟩, hB4, hG4, hs4⟩ := hb3w.putF (d := d3) (us := y.F) (w0 := W1) rfl ((HTY.out w3 (grown_trans G1.out G3.out)).first) (HLe.out _ G3.out) (by omega) HLb.out G3.out
  simp only [Nat.zero_add, List.nil_append] at hrunF hB4 hG4
  obtain ⟨W4, hW4⟩ : ∃ W, W = w4.setCell ⟨w.heap.size + 1 + 1 + 1, 3, none⟩ (.slice aG y.F.length cG) := ⟨_, rfl⟩
  have HW4 : Hid (W4 = _) := hW4
  rw [← hW4] at hB4 hG4
  have hi4 : Ints W4 aW u1 := by
    have h1 := hB4.own.lie (aW, cW, u1) (by simp)
    exact h1
  obtain ⟨aF, cF, w5, hrunG, ⟨p3b, f3b⟩, hB5', hG5, hs5⟩ := hB4.putF (d := cW) (us := u1) (w0 := W1) rfl hi4 (HLe.out _ hG4) (by omega) HLb.out hG4
  obtain ⟨W5, hW5⟩ : ∃ W, W = w5.setCell ⟨w.heap.size + 1 + 1 + 1, 3, none⟩ (.slice aF (y.F.length + u1.length) cF) := ⟨_, rfl⟩
  have HW5 : Hid (W5 = _) := hW5
  have hB5 := hB5'.less
  rw [← hW5] at hB5 hG5
  obtain ⟨hB6, hG6⟩ := hB5.setS (w0 := W1) (cs : Int) HLb.out hG5
  obtain ⟨W6, hW6⟩ : ∃ W, W = W5.setCell ⟨w.heap.size + 1 + 1 + 1, 2, none⟩ (.int .i64 (cs : Int)) := ⟨_, rfl⟩
  have HW6 : Hid (W6 = _) := hW6
  rw [← hW6] at hB6 hG6
  obtain ⟨nF, hnF⟩ : ∃ n, y.F.length + u1.length = n := ⟨_, rfl⟩
  have HnF : Hid ((bF x y).length = nF) := by show _ = _; rw [HbF.out, List.length_append]; exact hnF
  rw [hnF] at hB6 hrunG HW5
  have HSt : Hid (BhSt x y I (w.heap.size + 1 + 1 + 1) W1 aF nF cF 0 W6) := by
    refine ⟨none, none, none, 0, 0, 0, [], [], [], ?_, rfl, rfl, rfl, rfl, rfl, rfl, fun t ht => by simp at ht, hG6⟩
    rw [HbX.out, HbF.out]; exact hB6
  have v3 := hb3.cells.2.2.2.1
  have v3b := hB4.cells.2.2.2.1
  have v2 := hB5.cells.2.2.1
  have f2 := hB5.cells.2.2.2.2.2.2.2 2
  have z3 := (HY.out w3 G3.out).b3
  have x2 := (HX.out W5 hG5).b2
  rw [HS0.out] at x2
  obtain ⟨nu, hnu⟩ : ∃ n, u1.length = n := ⟨_, rfl⟩
  rw [hnu] at hrunG
  rw [hnu]
  rw [hnF] at hW5
  rw [hW4] at hrunG v3b
  rw [hW5] at x2 v2 f2
  rw [hW5] at hW6
  have HW6' : Hid (W6 = _) := hW6
  clear hoW hb3 hb3w hB4 hG4 hs4 hB5 hB5' hG5 hs5 hB6 hG6 HW4 HW5 HW6 hi4 hnF hnu hW4 hW5 hW6
  go_wp2_with fail
  rw [← HW6'.out]
  clear hrunF p3 f3 v3 z3 hrunG p3b f3b v3b x2 v2 f2 wr1 wr2 HB2 HW6'
  go_loopw [9] (fun v W => ∃ p : Nat, v = .int .i64 (p : Int) ∧ p ≤ x.N.length ∧ BhSt x y I (w.heap.size + 1 + 1 + 1) W1 aF nF cF (p * y.N.length) W) (fun v _ => x.N.length - (intOf v).toNat)
  case atStart => exact ⟨0, rfl, Nat.zero_le _, by rw [Nat.zero_mul]; exact HSt.out⟩
  case round =>
    clear HSt
    obtain ⟨wp, hwp⟩ : ∃ W, W = wr := ⟨_, rfl⟩
    subst hwp
    obtain ⟨p, rfl, hp, hst⟩ := hrel
    have HST : Hid (BhSt x y I (w.heap.size + 1 + 1 + 1) W1 aF nF cF (p * y.N.length) wp) := hst
    have GP : Hid (W1.grownBy wp none) := by obtain ⟨_, _, _, _, _, _, _, _, _, _, _, _, _, _, _, _, _, h⟩ := hst; exact h
    have x4 := (HX.out wp GP.out).b4
    clear hst
    by_cases hpn : p < x.N.length
    · have ip : (p : Int) < (x.N.length : Int) := by omega
      go_wp2_with fail
      clear x4
      go_loopw [10] (fun v W => ∃ r : Nat, v = .int .i64 (r : Int) ∧ r ≤ y.N.length ∧ BhSt x y I (w.heap.size + 1 + 1 + 1) W1 aF nF cF (p * y.N.length + r) W) (fun v _ => y.N.length - (intOf v).toNat)
      case atStart => exact ⟨0, rfl, Nat.zero_le _, HST.out⟩
      case round =>
        clear HST GP
        obtain ⟨wq, hwq⟩ : ∃ W, W = wr := ⟨_, rfl⟩
        subst hwq
        obtain ⟨r, rfl, hr, hst⟩ := hrel
        by_cases hrn : r < y.N.length
        · have ir : (r : Int) < (y.N.length : Int) := by omega
          obtain ⟨s, hs⟩ : ∃ s, p * y.N.length + r = s := ⟨_, rfl⟩
          have HSC : Hid (p * y.N.length + r = s) := hs
          have hsl : s < x.N.length * y.N.length := by rw [← hs]; exact pair_lt hpn hrn
          have hdv : s / y.N.length = p ∧ s % y.N.length = r := by rw [← hs]; exact pair_div hrn
          have HBD : Hid (∀ a, bD x y s a = nxT x p a * y.N.length + goT y r (tnsT (syT x p a))) := fun a => by unfold bD; rw [hdv.1, hdv.2]
          have HBS : Hid (∀ a, bS x y s a = ruT y r (tnsT (syT x p a))) := fun a => by unfold bS; rw [hdv.1, hdv.2]
          have HBE : Hid (bE x y s = ruT y r (tnsT (x.E.getD p [])) ++ y.E.getD (goT y r (tnsT (x.E.getD p []))) []) := by show _ = _; unfold bE; rw [hdv.1, hdv.2]
          rw [hs] at hst
          obtain ⟨aN, aY, aE, cN, cY, cE, rs, ys, es, hb, h1, h2, h3, h4, h5, h6, h7, h8⟩ := hst
          obtain ⟨c, hc⟩ : ∃ c, s = c := ⟨_, rfl⟩
          have HCS : Hid (s = c) := hc
          rw [hc] at hb h1 h2 h3 h4 h5 h6
          have hc36 : c < 36 := by have := HNN.out; omega
          have HC : Hid (rs.length = c ∧ ys.length = c ∧ es.length = c ∧ rs.map (·.2) = (List.range c).map (rowNB x y I) ∧ ys.map (fun p => wordsT p.2) = (List.range c).map (rowYB x y I) ∧ wordsT es = (List.range c).map (bE x y) ∧ NewE (w.heap.size + 1 + 1 + 1) es) := ⟨h1, h2, h3, h4, h5, h6, h7⟩
          have HBb : Hid (BhT (w.heap.size + 1 + 1 + 1) wq (I : Int) y.O ((bX x y : Nat) : Int) (.slice aF nF cF) (.slice aN c cN) (.slice aY c cY) (.slice aE c cE) (bF x y) rs ys es [(3, .slice none 0 0, vals []), (22, .slice none 0 0, valsT [])] []) := hb.begin
          have GQ : Hid (W1.grownBy wq none) := h8
          clear hs hb h1 h2 h3 h4 h5 h6 h7 h8 hc hdv hsl
          go_wp2_with fail
          go_loopw [13, 11, 12] (fun v v11 v12 W => ∃ (a : Nat) (zs : List Int) (qs : List Trip) (aZ aQ : Option Addr) (cZ cQ : Nat), v = .int .i64 (a : Int) ∧ v11 = .slice aZ a cZ ∧ v12 = .slice aQ a cQ ∧ a ≤ I ∧ BhT (w.heap.size + 1 + 1 + 1) W (I : Int) y.O ((bX x y : Nat) : Int) (.slice aF nF cF) (.slice aN c cN) (.slice aY c cY) (.slice aE c cE) (bF x y) rs ys es [(3, .slice aZ a cZ, vals zs), (22, .slice aQ a cQ, valsT qs)] qs ∧ (zs.length = a ∧ qs.length = a ∧ wordsT qs = (List.range a).map (bS x y s)) ∧ zs = (List.range a).map (fun b => ((bD x y s b : Nat) : Int)) ∧ W1.grownBy W none) (fun v _ _ _ => I - (intOf v).toNat)
          case atStart => exact ⟨0, [], [], none, none, 0, 0, rfl, rfl, rfl, Nat.zero_le _, HBb.out, ⟨rfl, rfl, rfl⟩, rfl, GQ.out⟩
          case round =>
            clear HBb GQ
            obtain ⟨wi, hwi⟩ : ∃ W, W = wr := ⟨_, rfl⟩
            subst hwi
            obtain ⟨a, zs, qs, aZ, aQ, cZ, cQ, rfl, rfl, rfl, ha, hb, hq, hzs, hg⟩ := hrel
            have HB2 : Hid (BhT (w.heap.size + 1 + 1 + 1) wi (I : Int) y.O ((bX x y : Nat) : Int) (.slice aF nF cF) (.slice aN c cN) (.slice aY c cY) (.slice aE c cE) (bF x y) rs ys es [(3, .slice aZ a cZ, vals zs), (22, .slice aQ a cQ, valsT qs)] qs) := hb
            have HQl : Hid (zs.length = a ∧ qs.length = a ∧ wordsT qs = (List.range a).map (bS x y s)) := hq
            have HZs : Hid (zs = (List.range a).map (fun b => ((bD x y s b : Nat) : Int))) := hzs
            have GI : Hid (W1.grownBy wi none) := hg
            have G1I : Hid (w.grownBy wi none) := grown_trans G1.out hg
            have GW1I : Hid (W1.grownBy wi none) := hg
            have bx := HX.out wi hg
            have bz := HY.out wi hg
            have x0 := bx.b0
            clear hb hq hzs hg
            by_cases hal : a < I
            · have il : (a : Int) < (I : Int) := by omega
              obtain ⟨b5, o5, k5, b6, o6, k6, r6, f5e, h8, hs5⟩ := read_say (HTX.out wi G1I.out) HR.out hpn hal
              obtain ⟨c5a, c5b, i5⟩ := hs5 wi (grown_refl _ _)
              obtain ⟨u, hu⟩ : ∃ u, syT x p a = u := ⟨_, rfl⟩
              have HInM : Hid (∀ j, j ∈ u → 0 ≤ j ∧ j < (M : Int)) := by rw [← hu]; exact HB.out.s p hpn a hal
              have HBSa : Hid (ruT y r (tnsT u) = bS x y s a) := by show _ = _; rw [← hu]; exact (HBS.out a).symm
              have HBDa : Hid (bD x y s a = nxT x p a * y.N.length + goT y r (tnsT u)) := by show _ = _; rw [← hu]; exact HBD.out a
              clear HBS HBD
              have HBS : Hid (ruT y r (tnsT u) = bS x y s a) := HBSa.out
              have HBD : Hid (bD x y s a = nxT x p a * y.N.length + goT y r (tnsT u)) := HBDa.out
              clear HBSa HBDa
              rw [hu] at c5b i5 h8
              have HIW : Hid (∀ W, wi.grownBy W none → Ints W r6 u) := fun W hW => i5.grown hW
              have hu8 : u.length ≤ 8 := h8
              have x5 := bx.b5
              rw [f5e] at x5
              obtain ⟨nW, hnW⟩ : ∃ n, u.length = n := ⟨_, rfl⟩
              rw [hnW] at c5b
              have HS0 : Hid (SBh w.heap.size (w.heap.size + 1) y e3 e4 e5 e6 d3 d4 d5 d6 5 (.slice (some ⟨b5, o5, none⟩) x.Y.length c5) b5 (o5 + p) (.slice (some ⟨b6, o6, none⟩) I k5) b6 (o6 + a) (.slice r6 nW k6) wi) := ⟨bz.b0, bz.b1, bz.b2, bz.b3, bz.b4, bz.b5, bz.b6, x5, c5a, c5b⟩
              have HFr2 : Hid (∀ W, w.grownBy W none → r < y.N.length → Ints W r6 u → Calls Try.prog 24 #[tnV y.I y.O y.S e3 y.F.length d3 e4 y.N.length d4 e5 y.Y.length d5 e6 y.E.length d6, .int .i64 (r : Int), .slice r6 nW k6] W (FromP y r (tnsT u) W)) := fun W hW h1 h2 => by rw [← hnW]; exact HFr.out W r u r6 k6 hW h1 h2 HInM.out (by omega)
              have ip5 : (p : Int) < (x.Y.length : Int) := by rw [HR.out.hy]; omega
              clear bx bz hs5 i5 f5e x5 c5a c5b hnW hu h8
              go_wp2_with fail
              clear x0
              refine wp_region_held_drew (S := SBh w.heap.size (w.heap.size + 1) y e3 e4 e5 e6 d3 d4 d5 d6 5 (.slice (some ⟨b5, o5, none⟩) x.Y.length c5) b5 (o5 + p) (.slice (some ⟨b6, o6, none⟩) I k5) b6 (o6 + a) (.slice r6 nW k6)) (by kernel_rfl) (HS0.out.kept (grown_drew (grown_refl _ _))) (fun hHeld => ?_)
              refine wpAnyH_take (i := 0) (v := ?_) rfl (by kernel_rfl) (by kernel_rfl) (by kernel_rfl) (fun _ _ _ h => h) (Or.inl ⟨by rfl, ?_⟩) (by assumption) ?_
              rotate_left
              · intro W hSw
                obtain ⟨z0, z1, z2, z3, z4, z5, z6, q5, q6, q7⟩ := hSw
                go_simp
                with_reducible rfl
              try simp only [Act.put, List.getElem_toArray, List.getElem_cons_succ, List.getElem_cons_zero, List.setIfInBounds_toArray, List.set_cons_zero, List.set_cons_succ]
              refine wpAnyH_take (i := 1) (v := ?_) rfl (by kernel_rfl) (by kernel_rfl) (by kernel_rfl) (fun _ _ _ h => h) (Or.inl ⟨by rfl, ?_⟩) (by assumption) ?_
              rotate_left
              · intro W hSw
                obtain ⟨z0, z1, z2, z3, z4, z5, z6, q5, q6, q7⟩ := hSw
                go_simp
                with_reducible rfl
              try simp only [Act.put, List.getElem_toArray, List.getElem_cons_succ, List.getElem_cons_zero, List.setIfInBounds_toArray, List.set_cons_zero, List.set_cons_succ]
              refine wpAnyH_take (i := 2) (v := ?_) rfl (by kernel_rfl) (by kernel_rfl) (by kernel_rfl) (fun _ _ _ h => h) (Or.inl ⟨by rfl, ?_⟩) (by assumption) ?_
              rotate_left
              · intro W hSw
                obtain ⟨z0, z1, z2, z3, z4, z5, z6, q5, q6, q7⟩ := hSw
                go_simp
                with_reducible rfl
              try simp only [Act.put, List.getElem_toArray, List.getElem_cons_succ, List.getElem_cons_zero, List.setIfInBounds_toArray, List.set_cons_zero, List.set_cons_succ]
              refine wpAnyH_take (i := 3) (v := ?_) rfl (by kernel_rfl) (by kernel_rfl) (by kernel_rfl) (fun _ _ _ h => h) (Or.inl ⟨by rfl, ?_⟩) (by assumption) ?_
              rotate_left
              · intro W hSw
                obtain ⟨z0, z1, z2, z3, z4, z5, z6, q5, q6, q7⟩ := hSw
                go_simp
                with_reducible rfl
              try simp only [Act.put, List.getElem_toArray, List.getElem_cons_succ, List.getElem_cons_zero, List.setIfInBounds_toArray, List.set_cons_zero, List.set_cons_succ]
              refine wpAnyH_take (i := 4) (v := ?_) rfl (by kernel_rfl) (by kernel_rfl) (by kernel_rfl) (fun _ _ _ h => h) (Or.inl ⟨by rfl, ?_⟩) (by assumption) ?_
              rotate_left
              · intro W hSw
                obtain ⟨z0, z1, z2, z3, z4, z5, z6, q5, q6, q7⟩ := hSw
                go_simp
                with_reducible rfl
              try simp only [Act.put, List.getElem_toArray, List.getElem_cons_succ, List.getElem_cons_zero, List.setIfInBounds_toArray, List.set_cons_zero, List.set_cons_succ]
              refine wpAnyH_take (i := 5) (v := ?_) rfl (by kernel_rfl) (by kernel_rfl) (by kernel_rfl) (fun _ _ _ h => h) (Or.inl ⟨by rfl, ?_⟩) (by assumption) ?_
              rotate_left
              · intro W hSw
                obtain ⟨z0, z1, z2, z3, z4, z5, z6, q5, q6, q7⟩ := hSw
                go_simp
                with_reducible rfl
              try simp only [Act.put, List.getElem_toArray, List.getElem_cons_succ, List.getElem_cons_zero, List.setIfInBounds_toArray, List.set_cons_zero, List.set_cons_succ]
              refine wpAnyH_take (i := 6) (v := ?_) rfl (by kernel_rfl) (by kernel_rfl) (by kernel_rfl) (fun _ _ _ h => h) (Or.inl ⟨by rfl, ?_⟩) (by assumption) ?_
              rotate_left
              · intro W hSw
                obtain ⟨z0, z1, z2, z3, z4, z5, z6, q5, q6, q7⟩ := hSw
                go_simp
                with_reducible rfl
              try simp only [Act.put, List.getElem_toArray, List.getElem_cons_succ, List.getElem_cons_zero, List.setIfInBounds_toArray, List.set_cons_zero, List.set_cons_succ]
              refine wpAnyH_take (i := 7) (v := ?_) rfl (by kernel_rfl) (by kernel_rfl) (by kernel_rfl) (fun _ _ _ h => h) (Or.inl ⟨by rfl, ?_⟩) (by assumption) ?_
              rotate_left
              · intro W hSw
                obtain ⟨z0, z1, z2, z3, z4, z5, z6, q5, q6, q7⟩ := hSw
                go_simp
                with_reducible rfl
              try simp only [Act.put, List.getElem_toArray, List.getElem_cons_succ, List.getElem_cons_zero, List.setIfInBounds_toArray, List.set_cons_zero, List.set_cons_succ]
              refine wpAnyH_take (i := 8) (v := ?_) rfl (by kernel_rfl) (by kernel_rfl) (by kernel_rfl) (fun _ _ _ h => h) (Or.inl ⟨by rfl, ?_⟩) (by assumption) ?_
              rotate_left
              · intro W hSw
                obtain ⟨z0, z1, z2, z3, z4, z5, z6, q5, q6, q7⟩ := hSw
                go_simp
                with_reducible rfl
              try simp only [Act.put, List.getElem_toArray, List.getElem_cons_succ, List.getElem_cons_zero, List.setIfInBounds_toArray, List.set_cons_zero, List.set_cons_succ]
              refine wpAnyH_take (i := 9) (v := ?_) rfl (by kernel_rfl) (by kernel_rfl) (by kernel_rfl) (fun _ _ _ h => h) (Or.inl ⟨by rfl, ?_⟩) (by assumption) ?_
              rotate_left
              · intro W hSw
                obtain ⟨z0, z1, z2, z3, z4, z5, z6, q5, q6, q7⟩ := hSw
                go_simp
                with_reducible rfl
              try simp only [Act.put, List.getElem_toArray, List.getElem_cons_succ, List.getElem_cons_zero, List.setIfInBounds_toArray, List.set_cons_zero, List.set_cons_succ]
              refine wpAnyH_ready (rs := [10]) (by kernel_rfl) (by simp) ?_
              refine AllReadyH.cons (o := _) rfl (fun K' hK => ?_) ?_
              · go_simp
                refine (HFr2.out _ (grown_trans G1I.out (grown_drew (grown_refl _ _))) hrn (HIW.out _ (grown_drew (grown_refl _ _)))).mono ?_
                rintro E w2 ⟨aW, cW, rfl, hoW⟩
                have G2 : Hid (wi.grownBy w2 none) := grown_trans (grown_drew (grown_refl _ _)) hoW.gr
                have H2 : Hid (SBh w.heap.size (w.heap.size + 1) y e3 e4 e5 e6 d3 d4 d5 d6 5 (.slice (some ⟨b5, o5, none⟩) x.Y.length c5) b5 (o5 + p) (.slice (some ⟨b6, o6, none⟩) I k5) b6 (o6 + a) (.slice r6 nW k6) w2) := SBh.kept HS0.out G2.out
                have OW : Hid (OwnW wi.drew w2 aW cW (ruT y r (tnsT u))) := hoW
                clear hoW
                go_wp2_with fail
                refine hK.out _ _ (H2.out) (fun hHeld => ?_)
                clear hK K'
                try simp only [Act.put, List.getElem_toArray, List.getElem_cons_succ, List.getElem_cons_zero, List.setIfInBounds_toArray, List.set_cons_zero, List.set_cons_succ]
                refine wpAnyH_take (i := 11) (v := ?_) rfl (by kernel_rfl) (by kernel_rfl) (by kernel_rfl) (fun _ _ _ h => h) (Or.inl ⟨by rfl, ?_⟩) (by assumption) ?_
                rotate_left
                · intro W hSw
                  obtain ⟨z0, z1, z2, z3, z4, z5, z6, q5, q6, q7⟩ := hSw
                  go_simp
                  with_reducible rfl
                try simp only [Act.put, List.getElem_toArray, List.getElem_cons_succ, List.getElem_cons_zero, List.setIfInBounds_toArray, List.set_cons_zero, List.set_cons_succ]
                refine wpAnyH_take (i := 12) (v := ?_) rfl (by kernel_rfl) (by kernel_rfl) (by kernel_rfl) (fun _ _ _ h => h) (Or.inl ⟨by rfl, ?_⟩) (by assumption) ?_
                rotate_left
                · intro W hSw
                  obtain ⟨z0, z1, z2, z3, z4, z5, z6, q5, q6, q7⟩ := hSw
                  go_simp
                  with_reducible rfl
                try simp only [Act.put, List.getElem_toArray, List.getElem_cons_succ, List.getElem_cons_zero, List.setIfInBounds_toArray, List.set_cons_zero, List.set_cons_succ]
                refine wpAnyH_take (i := 13) (v := ?_) rfl (by kernel_rfl) (by kernel_rfl) (by kernel_rfl) (fun _ _ _ h => h) (Or.inl ⟨by rfl, ?_⟩) (by assumption) ?_
                rotate_left
                · intro W hSw
                  obtain ⟨z0, z1, z2, z3, z4, z5, z6, q5, q6, q7⟩ := hSw
                  go_simp
                  with_reducible rfl
                try simp only [Act.put, List.getElem_toArray, List.getElem_cons_succ, List.getElem_cons_zero, List.setIfInBounds_toArray, List.set_cons_zero, List.set_cons_succ]
                refine wpAnyH_take (i := 14) (v := ?_) rfl (by kernel_rfl) (by kernel_rfl) (by kernel_rfl) (fun _ _ _ h => h) (Or.inl ⟨by rfl, ?_⟩) (by assumption) ?_
                rotate_left
                · intro W hSw
                  obtain ⟨z0, z1, z2, z3, z4, z5, z6, q5, q6, q7⟩ := hSw
                  go_simp
                  with_reducible rfl
                try simp only [Act.put, List.getElem_toArray, List.getElem_cons_succ, List.getElem_cons_zero, List.setIfInBounds_toArray, List.set_cons_zero, List.set_cons_succ]
                refine wpAnyH_take (i := 15) (v := ?_) rfl (by kernel_rfl) (by kernel_rfl) (by kernel_rfl) (fun _ _ _ h => h) (Or.inl ⟨by rfl, ?_⟩) (by assumption) ?_
                rotate_left
                · intro W hSw
                  obtain ⟨z0, z1, z2, z3, z4, z5, z6, q5, q6, q7⟩ := hSw
                  go_simp
                  with_reducible rfl
                try simp only [Act.put, List.getElem_toArray, List.getElem_cons_succ, List.getElem_cons_zero, List.setIfInBounds_toArray, List.set_cons_zero, List.set_cons_succ]
                refine wpAnyH_done (by kernel_rfl) ?_ _
                clear HS0
                have rsn : ruT y r (tnsT u) = bS x y s a := HBS.out
                obtain ⟨g, hgg⟩ : ∃ g, goT y r (tnsT u) = g := ⟨_, rfl⟩
                have hgn : g < y.N.length := by rw [← hgg]; exact HRY.out.go _ (tns_lt HInM.out) hrn
                obtain ⟨nu, hnu⟩ : ∃ n, (ruT y r (tnsT u)).length = n := ⟨_, rfl⟩
                have hDD : bD x y s a = nxT x p a * y.N.length + g := by rw [HBD.out, hgg]
                rw [hgg, hnu]
                obtain ⟨b4, o4, k4, bn, on, f4e, hs4⟩ := read_next (HTX.out w2 (grown_trans G1I.out G2.out)) HR.out hpn hal
                obtain ⟨c4a, c4b⟩ := hs4 w2 (grown_refl _ _)
                have y4 := (HX.out w2 (grown_trans GW1I.out G2.out)).b4
                rw [f4e] at y4
                obtain ⟨hnx, _⟩ := HR.out.lt hpn hal
                obtain ⟨nx, hnxn⟩ : ∃ nx, nxT x p a = nx := ⟨_, rfl⟩
                rw [hnxn] at c4b hnx hDD
                obtain ⟨xk, cc, hxk, hcc, _, wr1, wr2⟩ := HCw.out nx g hnx hgn
                have hDc : bD x y s a = cc := by rw [hDD]; exact hcc
                have hlenW : (ruT y r (tnsT u)).length = nu := hnu
                have h1 := HB2.out.word (w' := w2) (zs := ruT y r (tnsT u)) G2.out OW.out.ints (fun _ z hz => by have h3 := OW.out.new z hz; simpa using h3) cW
                obtain ⟨gZ, cZ, w3, hrunZ, hB3, hG3, hs3⟩ := h1.putZ (w0 := W1) (z := (cc : Int)) (by simp [HQl.out.1]) (HLe.out _ (grown_trans GI.out G2.out)) (by omega) HLb.out (grown_trans GI.out G2.out)
                obtain ⟨gR, cR', w4, hrunR, hB4, hG4, hs4'⟩ := hB3.putR (w0 := W1) (n := nu) hnu hs3 (by rw [HQl.out.2.1]; omega) HLb.out hG3
                rw [HQl.out.2.1] at hrunR hB4
                have HB4 : Hid (BhT (w.heap.size + 1 + 1 + 1) w4 (I : Int) y.O ((bX x y : Nat) : Int) (.slice aF nF cF) (.slice aN c cN) (.slice aY c cY) (.slice aE c cE) (bF x y) rs ys es [(3, .slice (some ⟨gZ, 0, none⟩) (a + 1) cZ, vals (zs ++ [(cc : Int)])), (22, .slice (some ⟨gR, 0, none⟩) (a + 1) cR', valsT (qs ++ [(aW, cW, ruT y r (tnsT u))]))] (qs ++ [(aW, cW, ruT y r (tnsT u))])) := hB4
                have HG4 : Hid (W1.grownBy w4 none) := hG4
                have HQ4 : Hid ((zs ++ [(cc : Int)]) = (List.range (a + 1)).map (fun b => ((bD x y s b : Nat) : Int)) ∧ (qs ++ [(aW, cW, ruT y r (tnsT u))]).length = a + 1 ∧ wordsT (qs ++ [(aW, cW, ruT y r (tnsT u))]) = (List.range (a + 1)).map (bS x y s)) := by
                  refine ⟨?_, by rw [List.length_append, HQl.out.2.1]; rfl, ?_⟩
                  · rw [List.range_succ, List.map_append, ← HZs.out, List.map_cons, List.map_nil, hDc]
                  · rw [List.range_succ, List.map_append, ← HQl.out.2.2, List.map_cons, List.map_nil, ← rsn]; simp [wordsT]
                have inx : (nx : Int) < (x.N.length : Int) := by omega
                have ipn : (p : Int) < (x.N.length : Int) := by omega
                clear h1 hB3 hG3 hs3 hB4 hG4 hs4' hs4 f4e hDD hDc hxk hcc hgg hnu hlenW hnxn rsn OW HB2
                go_wp2_with fail
                go_roundw
                case rel => exact ⟨a + 1, _, _, _, _, _, _, by go_num, rfl, rfl, by omega, HB4.out, ⟨by rw [HQ4.out.1]; simp, HQ4.out.2.1, HQ4.out.2.2⟩, HQ4.out.1, HG4.out⟩
                case measure => simp [intOf]; omega
              exact AllReadyH.nil
            · have il : ¬ (a : Int) < (I : Int) := by omega
              have hae : a = I := by omega
              obtain ⟨b6, o6, k6, r6, f6e, h8, hs6⟩ := read_last (HTX.out wi G1I.out) HR.out hpn
              obtain ⟨c6a, i6⟩ := hs6 wi (grown_refl _ _)
              obtain ⟨u, hu⟩ : ∃ u, x.E.getD p [] = u := ⟨_, rfl⟩
              have HInM : Hid (∀ j, j ∈ u → 0 ≤ j ∧ j < (M : Int)) := by rw [← hu]; exact HB.out.e p hpn
              have HBE2 : Hid (ruT y r (tnsT u) ++ y.E.getD (goT y r (tnsT u)) [] = bE x y s) := by show _ = _; rw [← hu]; exact HBE.out.symm
              clear HBE
              have HBE : Hid (ruT y r (tnsT u) ++ y.E.getD (goT y r (tnsT u)) [] = bE x y s) := HBE2.out
              clear HBE2 HBS HBD
              rw [hu] at c6a i6 h8
              have HIW : Hid (∀ W, wi.grownBy W none → Ints W r6 u) := fun W hW => i6.grown hW
              have hu8 : u.length ≤ 8 := h8
              have x6 := bx.b6
              rw [f6e] at x6
              obtain ⟨nW, hnW⟩ : ∃ n, u.length = n := ⟨_, rfl⟩
              rw [hnW] at c6a
              have HS0 : Hid (SBh w.heap.size (w.heap.size + 1) y e3 e4 e5 e6 d3 d4 d5 d6 6 (.slice (some ⟨b6, o6, none⟩) x.E.length c6) b6 (o6 + p) (.slice r6 nW k6) b6 (o6 + p) (.slice r6 nW k6) wi) := ⟨bz.b0, bz.b1, bz.b2, bz.b3, bz.b4, bz.b5, bz.b6, x6, c6a, c6a⟩
              have HFr2 : Hid (∀ W, w.grownBy W none → r < y.N.length → Ints W r6 u → Calls Try.prog 24 #[tnV y.I y.O y.S e3 y.F.length d3 e4 y.N.length d4 e5 y.Y.length d5 e6 y.E.length d6, .int .i64 (r : Int), .slice r6 nW k6] W (FromP y r (tnsT u) W)) := fun W hW h1 h2 => by rw [← hnW]; exact HFr.out W r u r6 k6 hW h1 h2 HInM.out (by omega)
              have ip6 : (p : Int) < (x.E.length : Int) := by rw [HR.out.he]; omega
              clear bx bz hs6 i6 f6e x6 c6a hnW hu h8
              subst hae
              go_wp2_with fail
              clear x0
              refine wp_region_held_drew (S := SBh w.heap.size (w.heap.size + 1) y e3 e4 e5 e6 d3 d4 d5 d6 6 (.slice (some ⟨b6, o6, none⟩) x.E.length c6) b6 (o6 + p) (.slice r6 nW k6) b6 (o6 + p) (.slice r6 nW k6)) (by kernel_rfl) (HS0.out.kept (grown_drew (grown_refl _ _))) (fun hHeld => ?_)
              refine wpAnyH_take (i := 0) (v := ?_) rfl (by kernel_rfl) (by kernel_rfl) (by kernel_rfl) (fun _ _ _ h => h) (Or.inl ⟨by rfl, ?_⟩) (by assumption) ?_
              rotate_left
              · intro W hSw
                obtain ⟨z0, z1, z2, z3, z4, z5, z6, q5, q6, q7⟩ := hSw
                go_simp
                with_reducible rfl
              try simp only [Act.put, List.getElem_toArray, List.getElem_cons_succ, List.getElem_cons_zero, List.setIfInBounds_toArray, List.set_cons_zero, List.set_cons_succ]
              refine wpAnyH_take (i := 1) (v := ?_) rfl (by kernel_rfl) (by kernel_rfl) (by kernel_rfl) (fun _ _ _ h => h) (Or.inl ⟨by rfl, ?_⟩) (by assumption) ?_
              rotate_left
              · intro W hSw
                obtain ⟨z0, z1, z2, z3, z4, z5, z6, q5, q6, q7⟩ := hSw
                go_simp
                with_reducible rfl
              try simp only [Act.put, List.getElem_toArray, List.getElem_cons_succ, List.getElem_cons_zero, List.setIfInBounds_toArray, List.set_cons_zero, List.set_cons_succ]
              refine wpAnyH_take (i := 2) (v := ?_) rfl (by kernel_rfl) (by kernel_rfl) (by kernel_rfl) (fun _ _ _ h => h) (Or.inl ⟨by rfl, ?_⟩) (by assumption) ?_
              rotate_left
              · intro W hSw
                obtain ⟨z0, z1, z2, z3, z4, z5, z6, q5, q6, q7⟩ := hSw
                go_simp
                with_reducible rfl
              try simp only [Act.put, List.getElem_toArray, List.getElem_cons_succ, List.getElem_cons_zero, List.setIfInBounds_toArray, List.set_cons_zero, List.set_cons_succ]
              refine wpAnyH_take (i := 3) (v := ?_) rfl (by kernel_rfl) (by kernel_rfl) (by kernel_rfl) (fun _ _ _ h => h) (Or.inl ⟨by rfl, ?_⟩) (by assumption) ?_
              rotate_left
              · intro W hSw
                obtain ⟨z0, z1, z2, z3, z4, z5, z6, q5, q6, q7⟩ := hSw
                go_simp
                with_reducible rfl
              try simp only [Act.put, List.getElem_toArray, List.getElem_cons_succ, List.getElem_cons_zero, List.setIfInBounds_toArray, List.set_cons_zero, List.set_cons_succ]
              refine wpAnyH_take (i := 4) (v := ?_) rfl (by kernel_rfl) (by kernel_rfl) (by kernel_rfl) (fun _ _ _ h => h) (Or.inl ⟨by rfl, ?_⟩) (by assumption) ?_
              rotate_left
              · intro W hSw
                obtain ⟨z0, z1, z2, z3, z4, z5, z6, q5, q6, q7⟩ := hSw
                go_simp
                with_reducible rfl
              try simp only [Act.put, List.getElem_toArray, List.getElem_cons_succ, List.getElem_cons_zero, List.setIfInBounds_toArray, List.set_cons_zero, List.set_cons_succ]
              refine wpAnyH_take (i := 5) (v := ?_) rfl (by kernel_rfl) (by kernel_rfl) (by kernel_rfl) (fun _ _ _ h => h) (Or.inl ⟨by rfl, ?_⟩) (by assumption) ?_
              rotate_left
              · intro W hSw
                obtain ⟨z0, z1, z2, z3, z4, z5, z6, q5, q6, q7⟩ := hSw
                go_simp
                with_reducible rfl
              try simp only [Act.put, List.getElem_toArray, List.getElem_cons_succ, List.getElem_cons_zero, List.setIfInBounds_toArray, List.set_cons_zero, List.set_cons_succ]
              refine wpAnyH_take (i := 6) (v := ?_) rfl (by kernel_rfl) (by kernel_rfl) (by kernel_rfl) (fun _ _ _ h => h) (Or.inl ⟨by rfl, ?_⟩) (by assumption) ?_
              rotate_left
              · intro W hSw
                obtain ⟨z0, z1, z2, z3, z4, z5, z6, q5, q6, q7⟩ := hSw
                go_simp
                with_reducible rfl
              try simp only [Act.put, List.getElem_toArray, List.getElem_cons_succ, List.getElem_cons_zero, List.setIfInBounds_toArray, List.set_cons_zero, List.set_cons_succ]
              refine wpAnyH_ready (rs := [7]) (by kernel_rfl) (by simp) ?_
              refine AllReadyH.cons (o := _) rfl (fun K' hK => ?_) ?_
              · go_simp
                refine (HFr2.out _ (grown_trans G1I.out (grown_drew (grown_refl _ _))) hrn (HIW.out _ (grown_drew (grown_refl _ _)))).mono ?_
                rintro E w2 ⟨aW, cW, rfl, hoW⟩
                have G2 : Hid (wi.grownBy w2 none) := grown_trans (grown_drew (grown_refl _ _)) hoW.gr
                have H2 : Hid (SBh w.heap.size (w.heap.size + 1) y e3 e4 e5 e6 d3 d4 d5 d6 6 (.slice (some ⟨b6, o6, none⟩) x.E.length c6) b6 (o6 + p) (.slice r6 nW k6) b6 (o6 + p) (.slice r6 nW k6) w2) := SBh.kept HS0.out G2.out
                have OW : Hid (OwnW wi.drew w2 aW cW (ruT y r (tnsT u))) := hoW
                clear hoW
                go_wp2_with fail
                refine hK.out _ _ (H2.out) (fun hHeld => ?_)
                clear hK K'
                try simp only [Act.put, List.getElem_toArray, List.getElem_cons_succ, List.getElem_cons_zero, List.setIfInBounds_toArray, List.set_cons_zero, List.set_cons_succ]
                refine wpAnyH_take (i := 8) (v := ?_) rfl (by kernel_rfl) (by kernel_rfl) (by kernel_rfl) (fun _ _ _ h => h) (Or.inl ⟨by rfl, ?_⟩) (by assumption) ?_
                rotate_left
                · intro W hSw
                  obtain ⟨z0, z1, z2, z3, z4, z5, z6, q5, q6, q7⟩ := hSw
                  go_simp
                  with_reducible rfl
                try simp only [Act.put, List.getElem_toArray, List.getElem_cons_succ, List.getElem_cons_zero, List.setIfInBounds_toArray, List.set_cons_zero, List.set_cons_succ]
                refine wpAnyH_take (i := 9) (v := ?_) rfl (by kernel_rfl) (by kernel_rfl) (by kernel_rfl) (fun _ _ _ h => h) (Or.inl ⟨by rfl, ?_⟩) (by assumption) ?_
                rotate_left
                · intro W hSw
                  obtain ⟨z0, z1, z2, z3, z4, z5, z6, q5, q6, q7⟩ := hSw
                  go_simp
                  with_reducible rfl
                try simp only [Act.put, List.getElem_toArray, List.getElem_cons_succ, List.getElem_cons_zero, List.setIfInBounds_toArray, List.set_cons_zero, List.set_cons_succ]
                refine wpAnyH_take (i := 10) (v := ?_) rfl (by kernel_rfl) (by kernel_rfl) (by kernel_rfl) (fun _ _ _ h => h) (Or.inl ⟨by rfl, ?_⟩) (by assumption) ?_
                rotate_left
                · intro W hSw
                  obtain ⟨z0, z1, z2, z3, z4, z5, z6, q5, q6, q7⟩ := hSw
                  go_simp
                  with_reducible rfl
                try simp only [Act.put, List.getElem_toArray, List.getElem_cons_succ, List.getElem_cons_zero, List.setIfInBounds_toArray, List.set_cons_zero, List.set_cons_succ]
                refine wpAnyH_take (i := 11) (v := ?_) rfl (by kernel_rfl) (by kernel_rfl) (by kernel_rfl) (fun _ _ _ h => h) (Or.inl ⟨by rfl, ?_⟩) (by assumption) ?_
                rotate_left
                · intro W hSw
                  obtain ⟨z0, z1, z2, z3, z4, z5, z6, q5, q6, q7⟩ := hSw
                  go_simp
                  with_reducible rfl
                try simp only [Act.put, List.getElem_toArray, List.getElem_cons_succ, List.getElem_cons_zero, List.setIfInBounds_toArray, List.set_cons_zero, List.set_cons_succ]
                refine wpAnyH_take (i := 12) (v := ?_) rfl (by kernel_rfl) (by kernel_rfl) (by kernel_rfl) (fun _ _ _ h => h) (Or.inl ⟨by rfl, ?_⟩) (by assumption) ?_
                rotate_left
                · intro W hSw
                  obtain ⟨z0, z1, z2, z3, z4, z5, z6, q5, q6, q7⟩ := hSw
                  go_simp
                  with_reducible rfl
                try simp only [Act.put, List.getElem_toArray, List.getElem_cons_succ, List.getElem_cons_zero, List.setIfInBounds_toArray, List.set_cons_zero, List.set_cons_succ]
                refine wpAnyH_done (by kernel_rfl) ?_ _
                clear HS0
                obtain ⟨g, hgg⟩ : ∃ g, goT y r (tnsT u) = g := ⟨_, rfl⟩
                have hgn : g < y.N.length := by rw [← hgg]; exact HRY.out.go _ (tns_lt HInM.out) hrn
                have hru64 : (ruT y r (tnsT u)).length ≤ 64 := by
                  have h1 := HRY.out.len _ (tns_lt HInM.out) hrn
                  rw [tnsT_len] at h1
                  omega
                have hEE : ruT y r (tnsT u) ++ y.E.getD g [] = bE x y s := by rw [← hgg]; exact HBE.out
                obtain ⟨b7, o7, k7, r7, e7, h87, hs7⟩ := read_last (HTY.out w2 (grown_trans G1I.out G2.out)) HRY.out hgn
                obtain ⟨c7a, i7⟩ := hs7 w2 (grown_refl _ _)
                obtain ⟨aV, cV, w3, hrunV, oV⟩ := OW.out.putZ (d := k7) i7 (by omega)
                have z6 := (HY.out w2 (grown_trans GW1I.out G2.out)).b6
                rw [e7] at z6
                obtain ⟨nu, hnu⟩ : ∃ n, (ruT y r (tnsT u)).length = n := ⟨_, rfl⟩
                obtain ⟨nE, hnE⟩ : ∃ n, (y.E.getD g []).length = n := ⟨_, rfl⟩
                obtain ⟨nV, hnV⟩ : ∃ n, (ruT y r (tnsT u) ++ y.E.getD g []).length = n := ⟨_, rfl⟩
                rw [hnu, hnE, hnV] at hrunV
                rw [hnE] at c7a
                rw [hgg, hnu]
                have G23 : Hid (wi.grownBy w3 none) := grown_trans (grown_drew (grown_refl _ _)) oV.gr
                have hcapV := (row_lt oV.own).2
                have hnewV : ∀ z, aV = some z → wi.heap.size ≤ z.block := fun z hz => by have h3 := oV.new z hz; simpa using h3
                have h1 := HB2.out.word (w' := w3) (zs := ruT y r (tnsT u) ++ y.E.getD g []) G23.out oV.ints (fun _ z hz => hnewV z hz) cV
                have hg3 : W1.grownBy w3 none := grown_trans GI.out G23.out
                obtain ⟨gN, cN', w4, hrunN, ⟨p4, f4⟩, hB4, hG4, hs4⟩ := h1.putN (w0 := W1) rfl HC.out.1 (HLe.out _ hg3) (by omega) HLb.out hg3
                have hb4 := h1.cells.2.2.2.2.1
                have hb4' := fun o => (grown_alloc w3 o).cell hb4 (by simp)
                obtain ⟨W4, hW4⟩ : ∃ W, W = w4.setCell ⟨w.heap.size + 1 + 1 + 1, 4, none⟩ (.slice (some ⟨gN, 0, none⟩) (c + 1) cN') := ⟨_, rfl⟩
                have HW4 : Hid (W4 = _) := hW4
                rw [← hW4] at hB4 hG4
                obtain ⟨gY, cY', w5, hrunY, ⟨p5, f5⟩, hB5, hG5, hs5⟩ := hB4.putY (w0 := W1) rfl HC.out.2.1 (HLe.out _ hG4) (by omega) HLb.out hG4
                have hb5 := hB4.cells.2.2.2.2.2.1
                have hb5' := fun o => (grown_alloc W4 o).cell hb5 (by simp)
                obtain ⟨W5, hW5⟩ : ∃ W, W = w5.setCell ⟨w.heap.size + 1 + 1 + 1, 5, none⟩ (.slice (some ⟨gY, 0, none⟩) (c + 1) cY') := ⟨_, rfl⟩
                have HW5 : Hid (W5 = _) := hW5
                rw [← hW5] at hB5 hG5
                obtain ⟨gE, cE', w6, hrunE, ⟨p6, f6⟩, hB6, hG6, hs6⟩ := hB5.putE (w0 := W1) (m := nV) hnV HC.out.2.2.1 (HLe.out _ hG5) (by omega) HLb.out hG5
                have hb6 := hB5.cells.2.2.2.2.2.2.1
                have hb6' := fun o => (grown_alloc W5 o).cell hb6 (by simp)
                obtain ⟨W6, hW6⟩ : ∃ W, W = w6.setCell ⟨w.heap.size + 1 + 1 + 1, 6, none⟩ (.slice (some ⟨gE, 0, none⟩) (c + 1) cE') := ⟨_, rfl⟩
                have HW6 : Hid (W6 = _) := hW6
                rw [← hW6] at hB6 hG6
                have HF : Hid (BhSt x y a (w.heap.size + 1 + 1 + 1) W1 aF nF cF (c + 1) W6) := by
                  refine ⟨some ⟨gN, 0, none⟩, some ⟨gY, 0, none⟩, some ⟨gE, 0, none⟩, cN', cY', cE', rs ++ [(.slice aZ a cZ, zs)], ys ++ [(.slice aQ a cQ, qs)], es ++ [(aV, cV, ruT y r (tnsT u) ++ y.E.getD g [])], hB6, by rw [List.length_append, HC.out.1]; rfl, by rw [List.length_append, HC.out.2.1]; rfl, by rw [List.length_append, HC.out.2.2.1]; rfl, ?_, ?_, ?_, ?_, hG6⟩
                  · rw [List.range_succ, List.map_append, List.map_append, HC.out.2.2.2.1, List.map_cons, List.map_nil, List.map_cons, List.map_nil, HZs.out, ← HCS.out]; rfl
                  · rw [List.range_succ, List.map_append, List.map_append, HC.out.2.2.2.2.1, List.map_cons, List.map_nil, List.map_cons, List.map_nil, HQl.out.2.2, ← HCS.out]; rfl
                  · rw [List.range_succ, List.map_append, ← HC.out.2.2.2.2.2.1, List.map_cons, List.map_nil, ← HCS.out, ← hEE]; simp [wordsT]
                  · intro t ht
                    rcases List.mem_append.1 ht with ht | ht
                    · exact HC.out.2.2.2.2.2.2 t ht
                    · rw [List.mem_singleton.1 ht]
                      exact ⟨hcapV, fun z hz => Nat.le_trans (HLe.out _ GI.out) (hnewV z hz)⟩
                have ign : (g : Int) < (y.E.length : Int) := by rw [HRY.out.he]; omega
                have hz4 : W4.heap.size = w4.heap.size := by rw [hW4]; simp [World.setCell]
                have hz5 : W5.heap.size = w5.heap.size := by rw [hW5]; simp [World.setCell]
                rw [hz4] at hrunY
                rw [hz5] at hrunE
                rw [hW4] at hrunY hb5 hb5'
                rw [hW5] at hrunE hb6 hb6'
                clear h1 hg3 hB4 hG4 hs4 hB5 hG5 hs5 hB6 hG6 hs6 hW4 hW5 hW6 hz4 hz5 HW4 HW5 hs7 e7 i7 oV hgg hEE hnu hnE hnV OW HB2 hcapV hnewV HC hru64 h87
                go_wp2_with fail
                rw [← HW6.out]
                go_roundw
                case rel => exact ⟨r + 1, by go_num, by omega, by rw [← Nat.add_assoc, HSC.out, HCS.out]; exact HF.out⟩
                case measure => simp [intOf]; omega
              exact AllReadyH.nil
        · have ir : ¬ (r : Int) < (y.N.length : Int) := by omega
          have hre : r = y.N.length := by omega
          have HSN : Hid (BhSt x y I (w.heap.size + 1 + 1 + 1) W1 aF nF cF ((p + 1) * y.N.length) wq) := by
            show BhSt _ _ _ _ _ _ _ _ _ _
            rw [Nat.add_mul, Nat.one_mul, ← hre]; rw [hre] at hst ⊢; exact hst
          clear hst hre
          go_wp2_with fail
          go_roundw
          case rel => exact ⟨p + 1, by go_num, by omega, HSN.out⟩
          case measure => simp [intOf]; omega
    · have ip : ¬ (p : Int) < (x.N.length : Int) := by omega
      have hpe : p = x.N.length := by omega
      obtain ⟨aN, aY, aE, cN, cY, cE, ⟨q0, q1, q2, q3, q4, q5, q6⟩, hT, hCp, hFa, hgW⟩ := HST.out.end HB.out (by rw [hpe]) HnF.out HNN.out hI
      obtain ⟨c, hc⟩ : ∃ c, p * y.N.length = c := ⟨_, rfl⟩
      have hcN : x.N.length * y.N.length = c := by rw [← hc, hpe]
      rw [hc] at q4 q5 q6
      have hL := (leastR16_any (refB x y I) I aF aN aY aE cF cN cY cE wp hT hCp (refB_read HB.out) (by omega) rfl hI (by rw [refB_len.1]; have := HNN.out; omega) (fun b => b < w.heap.size + 1 + 1 + 1) hFa (fun b hb => Nat.lt_of_lt_of_le hb (HLe.out _ hgW))).mono fun _ _ => RLeastP.three
      obtain ⟨l1, l2, l3⟩ := refB_len (x := x) (y := y) (I := I)
      rw [l1, l2, l3, hcN] at hL
      have HL : Hid (Calls Try.prog 25 #[tnV (I : Int) y.O ((bX x y : Nat) : Int) aF nF cF aN c cN aY c cY aE c cE] wp (RLeastE3 (refB x y I) I (fun b => b < w.heap.size + 1 + 1 + 1) wp)) := by rw [← HnF.out]; exact hL
      clear hL hT hCp hFa hgW hc hcN l1 l2 l3 HST
      go_wp2_with fail
      clear q0 q1 q2 q3 q4 q5 q6 x4
      refine HL.out.mono ?_
      rintro E w8 ⟨L, a3', a4', a5', a6', c3', c4', c5', c6', hRis, hg8, rfl, hT', hOut⟩
      obtain ⟨⟨p0, p1, p2, p3, p4, p5, p6⟩, fz, W9, hW9, g9, q0, q1, q2, q3, q4, q5, q6⟩ := seven_store (HRB.out w8 (grown_trans GP.out hg8)) (.int .i64 L.I) (.int .i64 L.O) (.int .i64 L.S) (.slice a3' L.F.length c3') (.slice a4' L.N.length c4') (.slice a5' L.Y.length c5') (.slice a6' L.E.length c6')
      have HW9 : Hid (W9 = _) := hW9
      have F : Hid (Po (.returned (tnV L.I L.O L.S a3' L.F.length c3' a4' L.N.length c4' a5' L.Y.length c5' a6' L.E.length c6')) W9) := by
        show Po _ _
        rw [HPo.out]
        exact ⟨L, a3', a4', a5', a6', c3', c4', c5', c6', hRis, grown_new (grown_trans G1.out (grown_trans GP.out hg8)) g9 (by omega), rfl, hOut W9 _ (by show _ < _; omega) g9⟩
      have f0 := fz 0
      have f1 := fz 1
      have f2 := fz 2
      have f3 := fz 3
      have f4 := fz 4
      have f5 := fz 5
      have f6 := fz 6
      clear g9 fz hW9 hRis hg8 hT' hOut HL
      go_wp2_with fail
      rw [← HW9.out]
      exact bodyPost_ret (v := tnV L.I L.O L.S a3' L.F.length c3' a4' L.N.length c4' a5' L.Y.length c5' a6' L.E.length c6') (by simp [results, Try.results8, go_sem, q0, q1, q2, q3, q4, q5, q6]) rfl F.out

end Go.Proofs.Ytodcmlcpicabaaa
