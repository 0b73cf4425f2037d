/- One that says ahead what it is sure to say: the reference's Pushed, its walk. -/
import Derived.Test.YtodcmlcpicabaaaTlRefP0
namespace Go.Proofs.Ytodcmlcpicabaaa
open Go.RowKit
set_option linter.unusedVariables false
set_option linter.unusedSimpArgs false

/-- Where rows and last words lie, state by state. -/
def FixAt (x : TrI) (a5 a6 : Option Addr) (yx : Nat → Option Addr) (yc : Nat → Nat) (ex : Nat → Option Addr) (ec : Nat → Nat) (W : World) : Prop := ∃ b5 o5 b6 o6, a5 = some ⟨b5, o5, none⟩ ∧ a6 = some ⟨b6, o6, none⟩ ∧ ∀ q, q < x.N.length → (W.cell? ⟨b5, o5 + q, none⟩ = some (.slice (yx q) (x.Y.getD q []).length (yc q)) ∧ RowsAt W (yx q) (x.Y.getD q [])) ∧ (W.cell? ⟨b6, o6 + q, none⟩ = some (.slice (ex q) (x.E.getD q []).length (ec q)) ∧ Ints W (ex q) (x.E.getD q []))
/-- Words that lie in no block of D. -/
def FarD (D : Nat → Prop) (ps : List Trip) : Prop := ∀ p, p ∈ ps → p.2.2 ≠ [] → ∀ y, p.1 = some y → ¬ D y.block
def FarA (w : World) (a : Option Addr) (R : List (List Int)) (D : Nat → Prop) : Prop := ∀ ps, wordsT ps = R → TripAt w a ps → FarD D ps
theorem FarA.none (w : World) (a : Option Addr) (R : List (List Int)) : FarA w a R (fun _ => False) := fun _ _ _ _ _ _ _ _ h => h
theorem OwnsP.farD {B lo hi b : Nat} {w w' : World} {its : List Item} {ps : List Trip} {D : Nat → Prop} (h : OwnsP B lo hi w its ps) (g : w.grownBy w' (some b)) (hb : b < B) (hD : D b) (hp : FarD D ps) : OwnsP B lo hi w' its ps :=
  ⟨h.own.far g (fun it hm hc => by have := ((h.own.1 it hm).1.lt b hc).1; omega), fun p hq => ints_far (h.lie p hq) (fun hn y hy e => hp p hq hn y hy (e ▸ hD)) g, h.apt⟩
def RPushP (x : TrI) (I : Nat) (a4 : Option Addr) (c4 : Nat) (D : Nat → Prop) (w0 w : World) (e : Ending) (w' : World) : Prop := ∃ B a3 a5 a6 c3 c5 c6 yx yc ex ec, SureIs x I B ∧ e = .returned (tnV (I : Int) x.O x.S a3 (pushT x I B).F.length c3 a4 x.N.length c4 a5 x.N.length c5 a6 x.N.length c6) ∧ w.grownBy w' none ∧
  ∃ P : World → Prop, P w' ∧ (∀ W, P W → TnAt W (pushT x I B) a3 a4 a5 a6 ∧ FixAt (pushT x I B) a5 a6 yx yc ex ec W) ∧ (∀ W W' b, P W → w0.heap.size ≤ b → b < w.heap.size + 1 + 1 → W.grownBy W' (some b) → P W') ∧ (∀ W W', P W → W.grownBy W' none → P W') ∧
  ∃ Q : World → Prop, (∀ W, P W → Q W) ∧ (∀ W, Q W → Ints W a3 (pushT x I B).F ∧ FixAt (pushT x I B) a5 a6 yx yc ex ec W) ∧ (∀ W W' b, Q W → D b → W.grownBy W' (some b) → Q W') ∧ ∀ W W', Q W → W.grownBy W' none → Q W'
theorem push_lens (x : TrI) (I : Nat) (B : List (List Int)) : (pushT x I B).Y.length = x.N.length ∧ (pushT x I B).E.length = x.N.length ∧ ∀ s, s < x.N.length → ((pushT x I B).Y.getD s []).length = I := by
  refine ⟨by simp [pushT], by simp [pushT], fun s hs => ?_⟩
  simp [pushT, List.getD, hs]
/-- What is written down, once all is there. -/
theorem PuT.end {B lo n : Nat} {w : World} {I O S : Int} {aF aY aE a4 : Option Addr} {cF cY cE c4 : Nat} {F : List Int} {ys : List (Value × List Trip)} {es : List Trip} {x : TrI} (h : PuT B lo w I O S (.slice aF F.length cF) (.slice a4 n c4) (.slice aY n cY) (.slice aE n cE) F ys es [] []) (hN : RowsAt w a4 x.N) (hNl : x.N.length ≤ maxLen) (hF : F = x.F) (hY : ys.map (fun p => wordsT p.2) = x.Y) (hE : wordsT es = x.E) (hl : ∀ p, p ∈ es ++ ys.flatMap (·.2) → p.2.2.length ≤ maxLen) : TnAt w x aF a4 aY aE := by
  have o := h.own.own
  have m3 := o.1 (3, .slice aF F.length cF, vals F) (by simp)
  have m5 := o.1 (23, .slice aY n cY, ys.map (·.1)) (by simp)
  have m6 := o.1 (22, .slice aE n cE, valsT es) (by simp)
  obtain ⟨a3', c3', e3, i3, l3⟩ := item_ints m3
  simp only [Value.slice.injEq] at e3
  obtain ⟨rfl, _, rfl⟩ := e3
  obtain ⟨a6', c6', e6, t6, l6⟩ := item_trip m6
  simp only [Value.slice.injEq] at e6
  obtain ⟨rfl, _, rfl⟩ := e6
  obtain ⟨a5', c5', e5, l5, k5⟩ := item_cells m5
  simp only [Value.slice.injEq] at e5
  obtain ⟨rfl, _, rfl⟩ := e5
  have hlie : LieT w es := fun p hp => ⟨h.own.lie p (by simp [hp]), hl p (by simp [hp])⟩
  refine ⟨by rw [← hF]; exact i3, hN, ?_, by rw [← hE]; exact t6.rows hlie, by rw [← hF]; exact l3, hNl, by rw [← hY]; simpa using l5, by rw [← hE, wordsT_len]; exact l6⟩
  rcases k5 with k5 | ⟨g, rfl, k5⟩
  · left
    have : ys = [] := by simpa using k5
    rw [← hY, this]; rfl
  · refine .inr ⟨g, 0, rfl, fun i hi => ?_⟩
    rw [← hY] at hi ⊢
    have hi' : i < ys.length := by simpa using hi
    have e1 : (ys.map fun p => wordsT p.2).getD i [] = wordsT ys[i].2 := by simp [List.getD, hi']
    have m := o.1 (22, ys[i].1, valsT ys[i].2) (by
      have : (22, ys[i].1, valsT ys[i].2) ∈ sayItems ys := List.mem_map.2 ⟨ys[i], List.getElem_mem hi', rfl⟩
      simp only [List.mem_cons, List.mem_append, List.nil_append]
      exact .inr (.inr (.inr (.inr this))))
    obtain ⟨ay, cy, ey, ty, ly⟩ := item_trip m
    have hly : LieT w ys[i].2 := fun p hp => by
      have hm : p ∈ ys.flatMap (·.2) := List.mem_flatMap.2 ⟨ys[i], List.getElem_mem hi', hp⟩
      exact ⟨h.own.lie p (by simp only [List.nil_append, List.mem_append]; exact .inr hm), hl p (List.mem_append.2 (.inr hm))⟩
    rw [e1]
    refine ⟨ay, cy, ?_, ty.rows hly, by rw [wordsT_len]; exact ly⟩
    rw [wordsT_len, Nat.zero_add, k5 i ys[i].1 (by simp [hi'])]
    exact congrArg some ey

theorem PuT.fix {B lo n : Nat} {w : World} {I O S : Int} {aF aY aE a4 : Option Addr} {cF cY cE c4 nF : Nat} {F : List Int} {ys : List (Value × List Trip)} {es : List Trip} {x : TrI} (h : PuT B lo w I O S (.slice aF nF cF) (.slice a4 n c4) (.slice aY n cY) (.slice aE n cE) F ys es [] []) (hn : x.N.length = n) (h1 : 1 ≤ n) (hy : ys.length = n) (he : es.length = n) (hY : ys.map (fun p => wordsT p.2) = x.Y) (hE : wordsT es = x.E) (hl : ∀ p, p ∈ es ++ ys.flatMap (·.2) → p.2.2.length ≤ maxLen) :
    ∃ yx yc ex ec, ∀ W, PuT B lo W I O S (.slice aF nF cF) (.slice a4 n c4) (.slice aY n cY) (.slice aE n cE) F ys es [] [] → FixAt x aY aE yx yc ex ec W := by
  have mi : ∀ {W : World}, PuT B lo W I O S (.slice aF nF cF) (.slice a4 n c4) (.slice aY n cY) (.slice aE n cE) F ys es [] [] → ∀ i, (hi : i < ys.length) → OwnsI B W (22, ys[i].1, valsT ys[i].2) := fun hW i hi => hW.own.own.1 _ (by
    have : (22, ys[i].1, valsT ys[i].2) ∈ sayItems ys := List.mem_map.2 ⟨ys[i], List.getElem_mem hi, rfl⟩
    simp only [List.mem_cons, List.mem_append, List.nil_append]
    exact .inr (.inr (.inr (.inr this))))
  have each : ∀ i, i < n → ∃ q : Option Addr × Nat, (ys.getD i (.slice none 0 0, [])).1 = .slice q.1 (ys.getD i (.slice none 0 0, [])).2.length q.2 := fun i hi => by
    have hi' : i < ys.length := by omega
    obtain ⟨ay, cy, ey, _, _⟩ := item_trip (mi h i hi')
    have e : ys.getD i (.slice none 0 0, []) = ys[i] := by simp [List.getD, hi']
    rw [e]
    exact ⟨(ay, cy), ey⟩
  obtain ⟨f, hf⟩ := choose_ltN each
  refine ⟨fun i => (f i).1, fun i => (f i).2, fun i => (es.getD i (none, 0, [])).1, fun i => (es.getD i (none, 0, [])).2.1, fun W hW => ?_⟩
  obtain ⟨a5', c5', e5, _, k5⟩ := item_cells (hW.own.own.1 (23, .slice aY n cY, ys.map (·.1)) (by simp))
  obtain ⟨a6', c6', e6, _, k6⟩ := item_cells (hW.own.own.1 (22, .slice aE n cE, valsT es) (by simp))
  simp only [Value.slice.injEq] at e5 e6
  obtain ⟨rfl, _, rfl⟩ := e5
  obtain ⟨rfl, _, rfl⟩ := e6
  rcases k5 with k5 | ⟨g5, rfl, k5⟩
  · have : ys.length = 0 := by simpa using congrArg List.length k5
    omega
  rcases k6 with k6 | ⟨g6, rfl, k6⟩
  · have : es.length = 0 := by simpa [valsT] using congrArg List.length k6
    omega
  refine ⟨g5, 0, g6, 0, rfl, rfl, fun q hq => ?_⟩
  have hq5 : q < ys.length := by omega
  have hq6 : q < es.length := by omega
  have e1 : x.Y.getD q [] = wordsT ys[q].2 := by rw [← hY]; simp [List.getD, hq5]
  have e2 : ys.getD q (.slice none 0 0, []) = ys[q] := by simp [List.getD, hq5]
  have e3 : es.getD q (none, 0, []) = es[q] := by simp [List.getD, hq6]
  have e4 : x.E.getD q [] = es[q].2.2 := by rw [← hE]; simp [wordsT, List.getD, hq6]
  have hfq := hf q (by omega)
  rw [e2] at hfq
  obtain ⟨ay, cy, ey, ty, ly⟩ := item_trip (mi hW q hq5)
  rw [hfq] at ey
  simp only [Value.slice.injEq] at ey
  obtain ⟨ea, _, ec⟩ := ey
  subst ea ec
  have hly : LieT W ys[q].2 := fun p hp => by
    have hm : p ∈ ys.flatMap (·.2) := List.mem_flatMap.2 ⟨ys[q], List.getElem_mem hq5, hp⟩
    exact ⟨hW.own.lie p (by simp only [List.nil_append, List.mem_append]; exact .inr hm), hl p (List.mem_append.2 (.inr hm))⟩
  dsimp only
  rw [e1, e3, e4, wordsT_len, Nat.zero_add, ← hfq]
  refine ⟨⟨k5 q _ (by simp [hq5]), ty.rows hly⟩, k6 q _ (by simp [valsT, hq6, valT]), hW.own.lie _ (by simp only [List.nil_append, List.mem_append]; exact .inl (List.getElem_mem hq6))⟩

attribute [local go_sem ↓] appY_fold in
set_option maxHeartbeats 3200000 in
set_option maxRecDepth 100000 in
theorem pushedR_any (x : TrI) (I : Nat) (a3 a4 a5 a6 : Option Addr) (c3 c4 c5 c6 : Nat) (w0 w : World) (g0 : w0.grownBy w none) (h : TnAt w0 x a3 a4 a5 a6) (hk : CapsAt w0 a6 x.E) {mb : Nat} (hr : ReadT x I mb) (hmb : mb ≤ 100) (hxI : x.I = (I : Int)) (hI : I ≤ 4) (hN : x.N.length ≤ 100) (D : Nat → Prop) (hDf : FarA w0 a6 x.E D) (hDl : ∀ b, D b → b < w0.heap.size) :
    Calls Try.prog 41 #[tnV x.I x.O x.S a3 x.F.length c3 a4 x.N.length c4 a5 x.Y.length c5 a6 x.E.length c6] w (RPushP x I a4 c4 D w0 w) := by
  obtain ⟨W0, hW0, gg0, s0, bx⟩ := box7_new w x.I x.O x.S a3 x.F.length c3 a4 x.N.length c4 a5 x.Y.length c5 a6 x.E.length c6
  obtain ⟨W1, hW1⟩ : ∃ W, W = W0.alloc tnZO := ⟨_, rfl⟩
  have g1 : W0.grownBy W1 none := by rw [hW1]; exact grown_alloc _ _
  have hrb : W1.heap[w.heap.size + 1]? = some (.cells #[.int .i64 0, .int .i64 0, .int .i64 0, .slice none 0 0, .slice none 0 0, .slice none 0 0, .slice none 0 0] 26 (0, 0)) := by
    have := heap_alloc_new W0 tnZO
    rw [← hW1, s0] at this
    exact this
  have sW : W1.heap.size = w.heap.size + 1 + 1 := by rw [hW1, World.size_alloc, s0]
  have HW1 : Hid (W1 = (w.alloc (tnO x.I x.O x.S a3 x.F.length c3 a4 x.N.length c4 a5 x.Y.length c5 a6 x.E.length c6)).alloc tnZO) := by show _ = _; rw [hW1, hW0]
  have G0 : Hid (w0.grownBy w none) := g0
  have G1 : Hid (w.grownBy W1 none) := grown_trans gg0 g1
  have HT0 : Hid (TnAt w0 x a3 a4 a5 a6) := h
  have HDf : Hid (FarA w0 a6 x.E D) := hDf
  have HDl : Hid (∀ b, D b → b < w0.heap.size) := hDl
  clear hDf hDl
  have HK0 : Hid (CapsAt w0 a6 x.E) := hk
  have HT : Hid (TnAt W1 x a3 a4 a5 a6) := h.grown (grown_trans g0 G1.out)
  have HR : Hid (ReadT x I mb) := hr
  have HSz : Hid (W1.heap.size = w.heap.size + 1 + 1) := sW
  have HEL : Hid (x.E.length = x.N.length ∧ x.Y.length = x.N.length) := ⟨hr.he, hr.hy⟩
  have n1 := hr.n1
  have HX : Hid (∀ W, W1.grownBy W none → Box7 W w.heap.size (I : Int) x.O x.S a3 x.F.length c3 a4 x.N.length c4 a5 x.Y.length c5 a6 x.E.length c6) := fun W hW => by rw [← hxI]; exact (bx.grown g1).grown hW
  have HRB : Hid (∀ W, W1.grownBy W none → W.heap[w.heap.size + 1]? = some (.cells #[.int .i64 0, .int .i64 0, .int .i64 0, .slice none 0 0, .slice none 0 0, .slice none 0 0, .slice none 0 0] 26 (0, 0))) := fun W hW => (hW.block _ (by omega) (by simp)).trans hrb
  obtain ⟨w2, ps0, hcp, hw0, ho0⟩ := copyRows x.E a6 c6 x.N.length W1 HT.out.last (hk.grown (grown_trans g0 G1.out)) hr.he (by omega) (by omega)
  obtain ⟨g, hg⟩ : ∃ g, W1.heap.size = g := ⟨_, rfl⟩
  rw [hg] at ho0
  obtain ⟨Po, hPo⟩ : ∃ P, P = RPushP x I a4 c4 D w0 w := ⟨_, rfl⟩
  have HPo : Hid (Po = RPushP x I a4 c4 D w0 w) := hPo
  have HO0 : Hid (OwnS W1 w2 g x.N.length ps0) := ho0
  have HW0 : Hid (wordsT ps0 = x.E) := hw0
  obtain ⟨mu, hmu⟩ := size_read W1 g x.N.length x.N.length
  have HMU : Hid (∀ W ps, List.length ps = x.N.length → OwnS W1 W g x.N.length ps → mu W = sizeW (wordsT ps)) := hmu
  have hmk := make_rowsT W1 x.N.length (by omega)
  have z4 := (bx.grown g1).b4
  have z6 := fun o => (grown_alloc W1 o).cell (bx.grown g1).b6 (by simp)
  rw [HEL.out.1] at z6
  rw [hg] at hmk hcp
  rw [HW1.out] at z4 z6 hmk hcp
  rw [hxI]
  rw [hxI] at z4 z6 hmk hcp HW1
  have hEL1 : x.E.length = x.N.length := HEL.out.1
  simp only [hEL1]
  simp only [hEL1] at z4 z6 hmk hcp HW1
  have HG : Hid (W1.heap.size = g) := hg
  rw [← hPo]
  clear hW0 hW1 gg0 g1 s0 bx h hk hr hrb sW hPo g0 hg ho0 hw0 hmu hxI hEL1
  go_enter Try.func41, Try.ntmps41
  go_wp2_with fail
  clear hcp hmk z4 z6
  go_loopw [5] (fun v W => ∃ (b : Bool) (k : Nat) (ps : List Trip), v = .bool b ∧ wordsT ps = rndT x I x.N.length k x.E ∧ OwnS W1 W g x.N.length ps ∧ (b = false → cutA x I x.N.length (wordsT ps) = wordsT ps)) (fun v W => 2 * mu W + btN v)
  case atStart => exact ⟨true, 0, ps0, rfl, HW0.out, HO0.out, fun e => by cases e⟩
  case round =>
    obtain ⟨wo, hwo⟩ : ∃ W, W = wr := ⟨_, rfl⟩
    subst hwo
    obtain ⟨b, k, psO, rfl, hwA, hoA, hst⟩ := hrel
    have HOA : Hid (OwnS W1 wo g x.N.length psO) := hoA
    have HWA : Hid (wordsT psO = rndT x I x.N.length k x.E) := hwA
    have hlA : psO.length = x.N.length := by
      have := congrArg List.length hwA
      rwa [wordsT_len, rndT_len, HEL.out.1] at this
    have HLA : Hid (psO.length = x.N.length) := hlA
    have HMo : Hid (mu wo = sizeW (wordsT psO)) := HMU.out wo psO hlA hoA
    have HST : Hid (b = false → cutA x I x.N.length (wordsT psO) = wordsT psO) := hst
    clear hwA hoA hst hlA
    cases b with
    | false =>
      have hsi : SureIs x I (wordsT psO) := ⟨⟨k, HWA.out⟩, HST.out rfl⟩
      have HSI : Hid (SureIs x I (wordsT psO)) := hsi
      have hsu := hsi.sure HR.out.he
      have HSU : Hid (SureT x I (wordsT psO)) := hsu
      have HSA : Hid (∀ W, wo.grownBy W none → SureAt W x I g psO mb) := fun W hW => (sure_at HR.out HSI.out HOA.out).grown hW
      have HCp : Hid (∀ p, p ∈ psO → p.2.2.length ≤ p.2.1) := HOA.out.cap
      have GWo : Hid (W1.grownBy wo none) := HOA.out.gr
      have hst := HR.out.st
      unfold StT at hst
      obtain ⟨s0, hs0⟩ : ∃ s0 : Nat, x.S = (s0 : Int) := ⟨x.S.toNat, by omega⟩
      have HS0 : Hid (x.S = (s0 : Int)) := hs0
      have hs0n : s0 < x.N.length := by omega
      have HX2 : Hid (∀ W, wo.grownBy W none → W.cell? ⟨w.heap.size, 0, none⟩ = some (.int .i64 (I : Int)) ∧ W.cell? ⟨w.heap.size, 1, none⟩ = some (.int .i64 x.O) ∧ W.cell? ⟨w.heap.size, 2, none⟩ = some (.int .i64 (s0 : Int)) ∧ W.cell? ⟨w.heap.size, 3, none⟩ = some (.slice a3 x.F.length c3) ∧ W.cell? ⟨w.heap.size, 4, none⟩ = some (.slice a4 x.N.length c4) ∧ W.cell? ⟨w.heap.size, 5, none⟩ = some (.slice a5 x.N.length c5) ∧ W.cell? ⟨w.heap.size, 6, none⟩ = some (.slice a6 x.N.length c6)) := fun W hW => by
        have hx := HX.out W (grown_trans GWo.out hW)
        have e1 := hx.b5
        have e2 := hx.b6
        rw [HEL.out.2] at e1
        rw [HEL.out.1] at e2
        exact ⟨hx.b0, hx.b1, by rw [← HS0.out]; exact hx.b2, hx.b3, hx.b4, e1, e2⟩
      have HTo : Hid (∀ W, wo.grownBy W none → TnAt W x a3 a4 a5 a6) := fun W hW => HT.out.grown (grown_trans GWo.out hW)
      have HloB : Hid (w0.heap.size ≤ wo.heap.size) := by have h1 := G0.out.size; have h2 := G1.out.size; have h3 := GWo.out.size; show _ ≤ _; omega
      obtain ⟨v0, v1, v2, v3, v4, _, _⟩ := HX2.out wo (grown_refl _ _)
      obtain ⟨Wb, hWb⟩ : ∃ W, W = wo.alloc (.cells #[.int .i64 (I : Int), .int .i64 x.O, .int .i64 (s0 : Int), .slice none 0 0, .slice a4 x.N.length c4, .slice none 0 0, .slice none 0 0] 26) := ⟨_, rfl⟩
      have HWb : Hid (Wb = _) := hWb
      have Gb : Hid (wo.grownBy Wb none) := by rw [hWb]; exact grown_alloc _ _
      have P0 : Hid (PuT wo.heap.size w0.heap.size Wb (I : Int) x.O (s0 : Int) (.slice none 0 0) (.slice a4 x.N.length c4) (.slice none 0 0) (.slice none 0 0) [] [] [] [] []) := by
        have := PuT.start (w := wo) (lo := w0.heap.size) (I := (I : Int)) (O := x.O) (S := (s0 : Int)) (n := x.N.length) (c4 := c4) (a4 := a4)
        rw [← hWb] at this
        exact this
      have HBb : Hid (wo.heap.size ≤ Wb.heap.size) := by show _ ≤ _; exact Gb.out.size
      have hF8 := HR.out.f8
      -- the first word
      obtain ⟨aF, cF, Wf, hrunF, ⟨pF, fF⟩, hPF, hGF, hBF⟩ := P0.out.putF (d := c3) (us := x.F) (w0 := wo) rfl ((HTo.out Wb Gb.out).first) HBb.out (by omega) (Nat.le_refl _) Gb.out
      simp only [Nat.zero_add, List.nil_append] at hrunF hPF hGF
      obtain ⟨Wg, hWg⟩ : ∃ W, W = Wf.setCell ⟨wo.heap.size, 3, none⟩ (.slice aF x.F.length cF) := ⟨_, rfl⟩
      have HWg : Hid (Wg = _) := hWg
      rw [← hWg] at hPF hGF
      have PF : Hid (PuT wo.heap.size w0.heap.size Wg (I : Int) x.O (s0 : Int) (.slice aF x.F.length cF) (.slice a4 x.N.length c4) (.slice none 0 0) (.slice none 0 0) x.F [] [] [] []) := hPF
      have GF : Hid (wo.grownBy Wg none) := hGF
      have HBg : Hid (wo.heap.size ≤ Wg.heap.size) := by rw [hWg]; exact Nat.le_trans hBF (grown_set _ _ _).size
      -- what is sure to be said
      have sa := HSA.out Wg GF.out
      have hsp : s0 < psO.length := by rw [sa.len]; exact hs0n
      have zg := sa.cell s0 hsp
      have zl := (sa.lie _ (OwnS.mem hsp)).1
      have zw := words_at hsp
      have z8 := sa.l8 s0 hsp
      obtain ⟨t, ht⟩ : ∃ t, psO.getD s0 (none, 0, []) = t := ⟨_, rfl⟩
      rw [ht] at zg zl zw
      rw [← zw] at z8
      have HFX : Hid ((pushT x I (wordsT psO)).F = x.F ++ t.2.2) := by
        show x.F ++ (wordsT psO).getD x.S.toNat [] = _
        rw [HS0.out, Int.toNat_natCast, ← zw]
      obtain ⟨aH, cH, Wh, hrunH0, ⟨pH, fH⟩, hPH, hGH, hBH⟩ := (PF.out.kept (grown_drew (grown_refl _ _))).putF (d := t.2.1) (us := t.2.2) (w0 := wo) rfl (zl.grown (grown_drew (grown_refl _ _))) HBg.out (by omega) (Nat.le_refl _) (grown_drew GF.out)
      obtain ⟨Wi, hWi⟩ : ∃ W, W = Wh.setCell ⟨wo.heap.size, 3, none⟩ (.slice aH (x.F.length + t.2.2.length) cH) := ⟨_, rfl⟩
      have HWi : Hid (Wi = _) := hWi
      rw [← hWi] at hPH hGH
      have hrunH : (AppY #[22, 22] 22 #[.slice aF x.F.length cF, .slice t.1 t.2.2.length t.2.1]).run Try.prog Wg.drew = .ok (.slice aH (x.F.length + t.2.2.length) cH) Wh := hrunH0
      have GH : Hid (wo.grownBy Wi none) := hGH
      have HBi : Hid (wo.heap.size ≤ Wi.heap.size) := by rw [hWi]; exact Nat.le_trans hBH (grown_set _ _ _).size
      obtain ⟨nH, hnH⟩ : ∃ n, x.F.length + t.2.2.length = n := ⟨_, rfl⟩
      have HnH : Hid ((x.F ++ t.2.2).length = nH) := by show _ = _; rw [List.length_append]; exact hnH
      rw [hnH] at hPH hrunH
      have PH : Hid (PuT wo.heap.size w0.heap.size Wi (I : Int) x.O (s0 : Int) (.slice aH nH cH) (.slice a4 x.N.length c4) (.slice none 0 0) (.slice none 0 0) (x.F ++ t.2.2) [] [] [] []) := hPH
      rw [hnH] at hWi HWi
      obtain ⟨nF, hnF⟩ : ∃ n, x.F.length = n := ⟨_, rfl⟩
      obtain ⟨nt, hnt⟩ : ∃ n, t.2.2.length = n := ⟨_, rfl⟩
      simp only [valT] at zg
      rw [hnt] at zg hrunH
      rw [hnF] at hrunH hrunF v3 HWg
      have hq3 := (PF.out.cells).2.2.2.1
      rw [hnF] at hq3
      have w3 := (HX2.out Wg GF.out).2.2.1
      have w3b := (HX2.out Wb Gb.out).2.2.2.1
      have hb3 := (P0.out.cells).2.2.2.1
      rw [hnF] at w3b
      rw [hWb] at hrunF w3b hb3
      have isn : (s0 : Int) < (x.N.length : Int) := by omega
      rw [hnF] at pH
      have HG2 : Hid (∀ a b : Nat, a = b → True) := fun _ _ _ => trivial
      clear hsi hsu hst hs0 hPF hGF hBF hWg hPH hGH hBH hWi hrunH0 sa hsp zl zw z8 ht hnH hnF hnt hF8 hWb
      obtain ⟨Yp, hYp⟩ : ∃ Y, (pushT x I (wordsT psO)).Y = Y := ⟨_, rfl⟩
      obtain ⟨Ep, hEp⟩ : ∃ E, (pushT x I (wordsT psO)).E = E := ⟨_, rfl⟩
      have hpl := push_lens x I (wordsT psO)
      have HYp : Hid ((pushT x I (wordsT psO)).Y = Yp ∧ Yp.length = x.N.length ∧ ∀ q, q < x.N.length → (Yp.getD q []).length = I ∧ ∀ a, a < I → (Yp.getD q []).getD a [] = (syT x q a ++ (wordsT psO).getD (nxT x q a) []).drop ((wordsT psO).getD q []).length) := by
        refine ⟨hYp, by rw [← hYp]; exact hpl.1, fun q hq => ⟨by rw [← hYp]; exact hpl.2.2 q hq, fun a ha => ?_⟩⟩
        have h1 := pushT_sy (x := x) (I := I) (B := wordsT psO) hq ha
        rw [← hYp]; exact h1
      have HEp : Hid ((pushT x I (wordsT psO)).E = Ep ∧ Ep.length = x.N.length ∧ ∀ q, q < x.N.length → Ep.getD q [] = (x.E.getD q []).drop ((wordsT psO).getD q []).length) := by
        refine ⟨hEp, by rw [← hEp]; exact hpl.2.1, fun q hq => ?_⟩
        have h1 := pushT_last (x := x) (I := I) (B := wordsT psO) hq
        rw [← hEp]; exact h1
      clear hYp hEp hpl HMo HWA HST HMU HO0 HW0
      obtain ⟨qs6, hq1, hq2, hq3', hq4⟩ := rows_tripC HT0.out.last HK0.out
      have HQ : Hid (wordsT qs6 = x.E ∧ TripAt w0 a6 qs6 ∧ LieT w0 qs6 ∧ ∀ p, p ∈ qs6 → p.2.2.length ≤ p.2.1) := ⟨hq1, hq2, hq3', hq4⟩
      have HQD : Hid (FarD D qs6) := HDf.out qs6 hq1 hq2
      clear hq1 hq2 hq3' hq4
      go_wp2_with fail
      rw [← HWg.out]
      clear hrunF pF fF w3b hb3 v0 v1 v2 v3 v4
      go_region
      go_wp2_with fail
      rw [← HWi.out]
      clear hrunH hq3 w3 zg pH fH
      obtain ⟨F', hF'⟩ : ∃ F', x.F ++ t.2.2 = F' := ⟨_, rfl⟩
      rw [hF'] at HFX PH HnH
      clear hF'
      go_loopw [11] (fun v W => ∃ (q : Nat) (ys : List (Value × List Trip)) (es : List Trip) (aY aE : Option Addr) (cY cE : Nat), v = .int .i64 (q : Int) ∧ q ≤ x.N.length ∧ PuT wo.heap.size w0.heap.size W (I : Int) x.O (s0 : Int) (.slice aH nH cH) (.slice a4 x.N.length c4) (.slice aY q cY) (.slice aE q cE) F' ys es [] [] ∧ ys.length = q ∧ es.length = q ∧ ys.map (fun p => wordsT p.2) = Yp.take q ∧ wordsT es = Ep.take q ∧ wo.grownBy W none ∧ FarD D (es ++ ys.flatMap (·.2))) (fun v _ => x.N.length - (intOf v).toNat)
      case atStart => exact ⟨0, [], [], none, none, 0, 0, rfl, Nat.zero_le _, PH.out, rfl, rfl, rfl, rfl, GH.out, fun p hp => by simp at hp⟩
      case round =>
        obtain ⟨wq, hwq⟩ : ∃ W, W = wr := ⟨_, rfl⟩
        subst hwq
        obtain ⟨q, ys, es, aY, aE, cY, cE, rfl, hq, hP, hyl, hel, hyW, heW, hg, hfd⟩ := hrel
        have HFD : Hid (FarD D (es ++ ys.flatMap (·.2))) := hfd
        have HP : Hid (PuT wo.heap.size w0.heap.size wq (I : Int) x.O (s0 : Int) (.slice aH nH cH) (.slice a4 x.N.length c4) (.slice aY q cY) (.slice aE q cE) F' ys es [] []) := hP
        have HYl : Hid (ys.length = q ∧ es.length = q ∧ ys.map (fun p => wordsT p.2) = Yp.take q ∧ wordsT es = Ep.take q) := ⟨hyl, hel, hyW, heW⟩
        have GQ : Hid (wo.grownBy wq none) := hg
        have HBq : Hid (wo.heap.size ≤ wq.heap.size) := hg.size
        clear hP hyl hel hyW heW hg hfd PH GH HBi
        by_cases hqn : q < x.N.length
        · have iq : (q : Int) < (x.N.length : Int) := by omega
          go_wp2_with fail
          go_loopw [13, 12] (fun v v12 W => ∃ (a : Nat) (qs : List Trip) (aR : Option Addr) (cR : Nat), v = .int .i64 (a : Int) ∧ v12 = .slice aR a cR ∧ a ≤ I ∧ PuT wo.heap.size w0.heap.size W (I : Int) x.O (s0 : Int) (.slice aH nH cH) (.slice a4 x.N.length c4) (.slice aY q cY) (.slice aE q cE) F' ys es [(22, .slice aR a cR, valsT qs)] qs ∧ qs.length = a ∧ wordsT qs = (Yp.getD q []).take a ∧ wo.grownBy W none ∧ FarD D qs) (fun v _ _ => I - (intOf v).toNat)
          case atStart => exact ⟨0, [], none, 0, rfl, rfl, Nat.zero_le _, HP.out.begin, rfl, rfl, GQ.out, fun p hp => by simp at hp⟩
          case round =>
            obtain ⟨wi, hwi⟩ : ∃ W, W = wr := ⟨_, rfl⟩
            subst hwi
            obtain ⟨a, qs, aR, cR, rfl, rfl, ha, hP, hql, hqW, hg, hfq⟩ := hrel
            have HFQ : Hid (FarD D qs) := hfq
            have HP2 : Hid (PuT wo.heap.size w0.heap.size wi (I : Int) x.O (s0 : Int) (.slice aH nH cH) (.slice a4 x.N.length c4) (.slice aY q cY) (.slice aE q cE) F' ys es [(22, .slice aR a cR, valsT qs)] qs) := hP
            have HQl : Hid (qs.length = a ∧ wordsT qs = (Yp.getD q []).take a) := ⟨hql, hqW⟩
            have GI : Hid (wo.grownBy wi none) := hg
            clear hP hql hqW hg hfq HP GQ HBq
            by_cases hal : a < I
            · have il : (a : Int) < (I : Int) := by omega
              have y0 := (HX2.out wi GI.out).1
              obtain ⟨b5, o5, k5, b6, o6, k6, r6, e5, h8, hs5⟩ := read_say (HTo.out wi GI.out) HR.out hqn hal
              obtain ⟨b4, o4, k4, bn, on, e4, hs4⟩ := read_next (HTo.out wi GI.out) HR.out hqn hal
              obtain ⟨hnx, hnxe⟩ := HR.out.lt hqn hal
              have sa := HSA.out wi GI.out
              have hsp : q < psO.length := by rw [sa.len]; exact hqn
              have hnp : nxT x q a < psO.length := by rw [sa.len]; exact hnx
              have w1 := words_at hsp
              have w2' := words_at hnp
              have l20 := sa.lie _ (OwnS.mem hnp)
              have b1 := sa.l8 q hsp
              have b2 := sa.l8 _ hnp
              obtain ⟨rr, hrr⟩ := HSU.out.step q hqn a hal
              have hat1 := fun (W : World) (hW : wi.grownBy W none) => (HSA.out W (grown_trans GI.out hW)).cell q hsp
              have hat2 := fun (W : World) (hW : wi.grownBy W none) => (HSA.out W (grown_trans GI.out hW)).cell _ hnp
              have hYe := (HYp.out.2.2 q hqn).2 a hal
              obtain ⟨W2, hW2, gW2, o2⟩ := empty_row wi
              obtain ⟨t1, ht1⟩ : ∃ t, psO.getD q (none, 0, []) = t := ⟨_, rfl⟩
              obtain ⟨t2, ht2⟩ : ∃ t, psO.getD (nxT x q a) (none, 0, []) = t := ⟨_, rfl⟩
              rw [ht1] at w1 hat1
              rw [ht2] at w2' l20 hat2
              rw [← w1] at b1 hYe hrr
              rw [← w2'] at b2 hYe hrr
              obtain ⟨aA, cA, WA, hrun1, oA⟩ := o2.put (d := k6) (hs5 W2 gW2).2.2 (by simp; omega)
              obtain ⟨aX, cX, WX, hrun2, oX⟩ := oA.put (d := t2.2.1) (l20.1.grown oA.gr) (by simp only [List.nil_append]; omega)
              simp only [List.nil_append, List.length_nil] at hrun1 hrun2 oX
              obtain ⟨X, hX⟩ : ∃ X, syT x q a ++ t2.2.2 = X := ⟨_, rfl⟩
              have hXl : X.length ≤ 300 := by rw [← hX, List.length_append]; omega
              rw [hX] at hYe hrr oX hrun2
              obtain ⟨n1', hn1'⟩ : ∃ n, t1.2.2.length = n := ⟨_, rfl⟩
              have hn1X : n1' ≤ X.length := by rw [hrr, List.length_append]; omega
              rw [hn1'] at hYe
              have hcX := (row_lt oX.own).2
              have R1 := drop_run aX X.length n1' cX hn1X hcX (by unfold maxLen; omega)
              obtain ⟨gR, cR', w3', hrun3, hP3, hG3, hB3⟩ := HP2.out.putR (w0 := wo) (w1 := WX) (a := dropA aX n1' cX) (c := cX - n1') (n := X.length - n1') (zs := X.drop n1') GI.out.size HloB.out oX.gr (drop_ints oX.ints hn1X hcX) (List.length_drop) (fun _ y hy => by
                obtain ⟨z, e1, e2⟩ := drop_block hy
                rw [e2]; exact .inr (oX.new z e1)) (by rw [HQl.out.1]; omega) (Nat.le_refl _) GI.out
              rw [HQl.out.1] at hrun3 hP3
              have HP3 : Hid (PuT wo.heap.size w0.heap.size w3' (I : Int) x.O (s0 : Int) (.slice aH nH cH) (.slice a4 x.N.length c4) (.slice aY q cY) (.slice aE q cE) F' ys es [(22, .slice (some ⟨gR, 0, none⟩) (a + 1) cR', valsT (qs ++ [(dropA aX n1' cX, cX - n1', X.drop n1')]))] (qs ++ [(dropA aX n1' cX, cX - n1', X.drop n1')])) := hP3
              have HG3 : Hid (wo.grownBy w3' none) := hG3
              have HFQ3 : Hid (FarD D (qs ++ [(dropA aX n1' cX, cX - n1', X.drop n1')])) := fun p hp hne y hy => by
                rcases List.mem_append.1 hp with hp | hp
                · exact HFQ.out p hp hne y hy
                · rw [List.mem_singleton.1 hp] at hy
                  obtain ⟨z, e1, e2⟩ := drop_block hy
                  intro hd
                  have h1 := HDl.out _ hd
                  have h2 := oX.new z e1
                  have h3 := HloB.out
                  have h4 := GI.out.size
                  rw [e2] at h1
                  omega
              have HQ3 : Hid (wordsT (qs ++ [(dropA aX n1' cX, cX - n1', X.drop n1')]) = (Yp.getD q []).take (a + 1)) := by
                show _ = _
                rw [takeD_snoc [] (by rw [(HYp.out.2.2 q hqn).1]; exact hal), ← HQl.out.2, hYe]
                simp [wordsT]
              obtain ⟨nE, hnE⟩ : ∃ n, (syT x q a).length = n := ⟨_, rfl⟩
              obtain ⟨n2', hn2'⟩ : ∃ n, t2.2.2.length = n := ⟨_, rfl⟩
              obtain ⟨nX, hnX⟩ : ∃ n, X.length = n := ⟨_, rfl⟩
              rw [hnX, hnE, hn2'] at hrun2
              rw [hnX] at R1 hrun3
              simp only [hnE] at hrun1
              obtain ⟨nx, hnxn⟩ : ∃ nx, nxT x q a = nx := ⟨_, rfl⟩
              have xa := hat2 WA oA.gr
              have xx := hat1 WX oX.gr
              simp only [valT, hn2'] at xa
              simp only [valT, hn1'] at xx
              obtain ⟨c5a, c5b, _⟩ := hs5 W2 gW2
              obtain ⟨c4a, c4b⟩ := hs4 WA oA.gr
              have y5 := (HX2.out W2 (grown_trans GI.out gW2)).2.2.2.2.2.1
              have y4 := (HX2.out WA (grown_trans GI.out oA.gr)).2.2.2.2.1
              rw [e5] at y5
              rw [e4] at y4
              rw [hnE] at c5b
              rw [hnxn] at xa c4b hnx
              rw [hW2] at c5a c5b y5 hrun1
              have inn : (nx : Int) < (x.N.length : Int) := by omega
              have igX : (n1' : Int) ≤ (nX : Int) := by omega
              clear e5 e4 hs5 hs4 sa hsp hnp w1 w2' l20 b1 b2 hrr hat1 hat2 hYe ht1 ht2 hX hcX hP3 hG3 hnE hn1' hn2' hnxn hnxe h8 o2 oA oX hW2 gW2 hnX hn1X
              go_wp2_with fail
              go_roundw
              case rel => exact ⟨a + 1, _, _, _, by go_num, rfl, by omega, HP3.out, by rw [List.length_append, HQl.out.1]; rfl, HQ3.out, HG3.out, HFQ3.out⟩
              case measure => simp [intOf]; omega
            · have il : ¬ (a : Int) < (I : Int) := by omega
              have el : a = I := by omega
              subst el
              have y0 := (HX2.out wi GI.out).1
              have hb5 := HP2.out.cells.2.2.2.2.2.1
              have hb5' := fun o => (grown_alloc wi o).cell hb5 (by simp)
              obtain ⟨gY, cY', w4', hrun4, ⟨p5, f5⟩, hP4, hG4, hB4⟩ := HP2.out.putY (w0 := wo) rfl GI.out.size HYl.out.1 (by omega) (Nat.le_refl _) GI.out
              obtain ⟨W4, hW4⟩ : ∃ W, W = w4'.setCell ⟨wo.heap.size, 5, none⟩ (.slice (some ⟨gY, 0, none⟩) (q + 1) cY') := ⟨_, rfl⟩
              have HW4 : Hid (W4 = _) := hW4
              rw [← hW4] at hP4 hG4
              have HP4 : Hid (PuT wo.heap.size w0.heap.size W4 (a : Int) x.O (s0 : Int) (.slice aH nH cH) (.slice a4 x.N.length c4) (.slice (some ⟨gY, 0, none⟩) (q + 1) cY') (.slice aE q cE) F' (ys ++ [(.slice aR a cR, qs)]) es [] []) := hP4
              have HG4 : Hid (wo.grownBy W4 none) := hG4
              have HYW : Hid ((ys ++ [(Value.slice aR a cR, qs)]).map (fun p => wordsT p.2) = Yp.take (q + 1)) := by
                show _ = _
                rw [takeD_snoc [] (by rw [HYp.out.2.1]; exact hqn), ← HYl.out.2.2.1, List.map_append, List.map_cons, List.map_nil, HQl.out.2, List.take_of_length_le (by rw [(HYp.out.2.2 q hqn).1]; exact Nat.le_refl _)]
              -- the last word
              have hql : q < qs6.length := by rw [← wordsT_len, HQ.out.1, HEL.out.1]; exact hqn
              have sa := HSA.out W4 HG4.out
              have hsp : q < psO.length := by rw [sa.len]; exact hqn
              have w1 := words_at hsp
              have zg := sa.cell q hsp
              obtain ⟨t1, ht1⟩ : ∃ t, psO.getD q (none, 0, []) = t := ⟨_, rfl⟩
              rw [ht1] at w1 zg
              have hEe := HEp.out.2.2 q hqn
              obtain ⟨rr, hrr⟩ := HSU.out.last q hqn
              have w6 := words_at hql
              rw [HQ.out.1] at w6
              have l6 := HQ.out.2.2.1 _ (OwnS.mem hql)
              have cp6 := HQ.out.2.2.2 _ (OwnS.mem hql)
              have y6 := (HX2.out W4 HG4.out).2.2.2.2.2.2
              obtain ⟨b6, o6, e6, hc6⟩ : ∃ b off, a6 = some ⟨b, off, none⟩ ∧ ∀ i, i < qs6.length → w0.cell? ⟨b, off + i, none⟩ = some (valT (qs6.getD i (none, 0, []))) := by
                rcases HQ.out.2.1 with e | h2
                · rw [e] at hql; simp at hql
                · exact h2
              have g04 : w0.grownBy W4 none := grown_trans G0.out (grown_trans G1.out (grown_trans GWo.out HG4.out))
              have z6 := g04.cell (hc6 q hql) (by simp)
              obtain ⟨t6, ht6⟩ : ∃ t, qs6.getD q (none, 0, []) = t := ⟨_, rfl⟩
              rw [ht6] at w6 l6 cp6 z6
              rw [← w1, ← w6] at hEe hrr
              obtain ⟨n1', hn1'⟩ : ∃ n, t1.2.2.length = n := ⟨_, rfl⟩
              obtain ⟨n6, hn6⟩ : ∃ n, t6.2.2.length = n := ⟨_, rfl⟩
              rw [hn1'] at hEe
              have hle : n1' ≤ t6.2.2.length := by rw [hrr, List.length_append]; omega
              have h86 : t6.2.2.length ≤ mb := by rw [w6]; exact HR.out.e8 q hqn
              have R1 := drop_run t6.1 t6.2.2.length n1' t6.2.1 hle cp6 (by unfold maxLen; omega)
              have hi0 := drop_ints l6.1 hle cp6
              obtain ⟨gE, cE', w5', hrun50, ⟨p6, f6⟩, hP5, hG5, hB5⟩ := (HP4.out.kept (grown_drew (grown_refl _ _))).putE (w0 := wo) (a := dropA t6.1 n1' t6.2.1) (c := t6.2.1 - n1') (m := t6.2.2.length - n1') (zs := t6.2.2.drop n1') HG4.out.size HloB.out (hi0.grown (grown_drew g04)) List.length_drop (fun hne y hy => ints_lt hi0 hne hy) HYl.out.2.1 (by omega) (Nat.le_refl _) (grown_drew HG4.out)
              rw [hn6] at hrun50 R1
              have hrun5 : (AppY #[23, 23] 23 #[.slice aE q cE, .slice (some ⟨W4.heap.size, 0, none⟩) 1 1]).run Try.prog (W4.alloc (.cells #[.slice (dropA t6.1 n1' t6.2.1) (n6 - n1') (t6.2.1 - n1')] 22)).drew = .ok (.slice (some ⟨gE, 0, none⟩) (q + 1) cE') w5' := hrun50
              obtain ⟨W5, hW5⟩ : ∃ W, W = w5'.setCell ⟨wo.heap.size, 6, none⟩ (.slice (some ⟨gE, 0, none⟩) (q + 1) cE') := ⟨_, rfl⟩
              have HW5 : Hid (W5 = _) := hW5
              rw [← hW5] at hP5 hG5
              have HP5 : Hid (PuT wo.heap.size w0.heap.size W5 (a : Int) x.O (s0 : Int) (.slice aH nH cH) (.slice a4 x.N.length c4) (.slice (some ⟨gY, 0, none⟩) (q + 1) cY') (.slice (some ⟨gE, 0, none⟩) (q + 1) cE') F' (ys ++ [(.slice aR a cR, qs)]) (es ++ [(dropA t6.1 n1' t6.2.1, t6.2.1 - n1', t6.2.2.drop n1')]) [] []) := hP5
              have HG5 : Hid (wo.grownBy W5 none) := hG5
              have hm6 : t6 ∈ qs6 := by rw [← ht6]; exact OwnS.mem hql
              have HFD5 : Hid (FarD D ((es ++ [(dropA t6.1 n1' t6.2.1, t6.2.1 - n1', t6.2.2.drop n1')]) ++ (ys ++ [(Value.slice aR a cR, qs)]).flatMap (·.2))) := fun p hp hne y hy => by
                simp only [List.flatMap_append, List.flatMap_cons, List.flatMap_nil, List.append_nil, List.mem_append, List.mem_singleton] at hp
                rcases hp with (hp | hp) | hp | hp
                · exact HFD.out p (List.mem_append.2 (.inl hp)) hne y hy
                · rw [hp] at hy hne
                  obtain ⟨z, e1, e2⟩ := drop_block hy
                  rw [e2]
                  exact HQD.out t6 hm6 (fun e => hne (by simp [e])) z e1
                · exact HFD.out p (List.mem_append.2 (.inr hp)) hne y hy
                · exact HFQ.out p hp hne y hy
              have HEW : Hid (wordsT (es ++ [(dropA t6.1 n1' t6.2.1, t6.2.1 - n1', t6.2.2.drop n1')]) = Ep.take (q + 1)) := by
                show _ = _
                rw [takeD_snoc [] (by rw [HEp.out.2.1]; exact hqn), ← HYl.out.2.2.2, hEe]
                simp [wordsT]
              have hb6 := HP4.out.cells.2.2.2.2.2.2.1
              have hb6' := fun o => (grown_alloc W4 o).cell hb6 (by simp)
              simp only [valT, hn1'] at zg
              simp only [valT, hn6] at z6
              rw [e6] at y6
              have igX : (n1' : Int) ≤ (n6 : Int) := by omega
              clear e6 hP4 hG4 hW4 hql hm6 sa hsp w1 ht1 hEe hrr w6 l6 cp6 hc6 g04 ht6 hn1' hn6 hle h86 hi0 hrun50 hW5 hP5 hG5
              go_wp2_with fail
              rw [← HW4.out]
              clear y0 hb5 hb5' p5 f5 hrun4
              go_region
              all_goals
                go_wp2_with fail
                rw [← HW5.out]
                go_roundw
                case rel => exact ⟨q + 1, _, _, _, _, _, _, by go_num, by omega, HP5.out, by rw [List.length_append, HYl.out.1]; rfl, by rw [List.length_append, HYl.out.2.1]; rfl, HYW.out, HEW.out, HG5.out, HFD5.out⟩
                case measure => simp [intOf]; omega
        · have iq : ¬ (q : Int) < (x.N.length : Int) := by omega
          have eq : q = x.N.length := by omega
          have hx := HP.out.cells
          obtain ⟨c0, c1, c2, c3b, c4b, c5b, c6b, _⟩ := hx
          obtain ⟨⟨p0, p1, p2, p3, p4, p5, p6⟩, fz, W9, hW9, g9, q0, q1, q2, q3, q4, q5, q6⟩ := seven_store (HRB.out wq (grown_trans GWo.out GQ.out)) (.int .i64 (I : Int)) (.int .i64 x.O) (.int .i64 (s0 : Int)) (.slice aH nH cH) (.slice a4 x.N.length c4) (.slice aY q cY) (.slice aE q cE)
          have HW9 : Hid (W9 = _) := hW9
          have F : Hid (Po (.returned (tnV (I : Int) x.O (s0 : Int) aH nH cH a4 x.N.length c4 aY q cY aE q cE)) W9) := by
            show Po _ _
            rw [HPo.out]
            have hPq := HP.out
            rw [eq] at hPq ⊢
            have hwW : wordsT es = Ep := by rw [HYl.out.2.2.2, eq]; exact List.take_of_length_le (by rw [HEp.out.2.1]; exact Nat.le_refl _)
            have hwY : ys.map (fun p => wordsT p.2) = Yp := by rw [HYl.out.2.2.1, eq]; exact List.take_of_length_le (by rw [HYp.out.2.1]; exact Nat.le_refl _)
            have hsm : ∀ p, p ∈ es ++ ys.flatMap (·.2) → p.2.2.length ≤ maxLen := fun p hp => by
              have : p.2.2.length ≤ 1000 := by
                rcases List.mem_append.1 hp with h3 | h3
                · have h4 : p.2.2 ∈ wordsT es := List.mem_map.2 ⟨p, h3, rfl⟩
                  rw [hwW] at h4
                  obtain ⟨i, hi, e⟩ := List.getElem_of_mem h4
                  have hi' : i < x.N.length := by rw [← HEp.out.2.1]; exact hi
                  have h5 := HEp.out.2.2 i hi'
                  have h6 : Ep.getD i [] = Ep[i] := by simp [List.getD, hi]
                  rw [h6, e] at h5
                  rw [h5, List.length_drop]
                  have := HR.out.e8 i hi'
                  omega
                · obtain ⟨y, hy, hpy⟩ := List.mem_flatMap.1 h3
                  have h4 : wordsT y.2 ∈ ys.map (fun p => wordsT p.2) := List.mem_map.2 ⟨y, hy, rfl⟩
                  rw [hwY] at h4
                  obtain ⟨i, hi, e⟩ := List.getElem_of_mem h4
                  have hi' : i < x.N.length := by rw [← HYp.out.2.1]; exact hi
                  have h7 : p.2.2 ∈ wordsT y.2 := List.mem_map.2 ⟨p, hpy, rfl⟩
                  obtain ⟨h8, h9⟩ := HYp.out.2.2 i hi'
                  have h6 : Yp.getD i [] = Yp[i] := by simp [List.getD, hi]
                  rw [h6, e] at h8 h9
                  obtain ⟨a, ha, e2⟩ := List.getElem_of_mem h7
                  have h10 := h9 a (by omega)
                  have h11 : (wordsT y.2).getD a [] = (wordsT y.2)[a] := by simp [List.getD, ha]
                  rw [h11, e2] at h10
                  rw [h10, List.length_drop, List.length_append]
                  have h12 := HR.out.y8 i hi' a (by omega)
                  have h13 := (HSA.out wo (grown_refl _ _)).l8 (nxT x i a) (by rw [(HSA.out wo (grown_refl _ _)).len]; exact (HR.out.lt hi' (by omega)).1)
                  omega
              unfold maxLen; omega
            have hw0q : w0.grownBy wq none := grown_trans G0.out (grown_trans G1.out (grown_trans GWo.out GQ.out))
            have hsz := HSz.out
            have hs1 := GWo.out.size
            have hs0 := G0.out.size
            have hPT : ∀ W, (PuT wo.heap.size w0.heap.size W (I : Int) x.O (s0 : Int) (.slice aH nH cH) (.slice a4 x.N.length c4) (.slice aY x.N.length cY) (.slice aE x.N.length cE) F' ys es [] [] ∧ w0.grownBy W none) → TnAt W (pushT x I (wordsT psO)) aH a4 aY aE := fun W hW => by
              have h1 := hW.1
              rw [← HnH.out] at h1
              exact h1.end (x := pushT x I (wordsT psO)) ((HT0.out.next).grown hW.2) (by show x.N.length ≤ maxLen; unfold maxLen; omega) HFX.out.symm (by rw [hwY]; exact HYp.out.1.symm) (by rw [hwW]; exact HEp.out.1.symm) hsm
            have h9 : w.grownBy W9 none := grown_new (grown_trans G1.out (grown_trans GWo.out GQ.out)) g9 (by omega)
            have hP9 := hPq.below g9 (by omega) (by omega)
            obtain ⟨yx, yc, ex, ec, hfx⟩ := hP9.fix (x := pushT x I (wordsT psO)) rfl (by show 1 ≤ x.N.length; omega) (by rw [HYl.out.1]; exact eq) (by rw [HYl.out.2.1]; exact eq) (by rw [hwY]; exact HYp.out.1.symm) (by rw [hwW]; exact HEp.out.1.symm) hsm
            refine ⟨wordsT psO, aH, aY, aE, cH, cY, cE, yx, yc, ex, ec, HSI.out, by rw [HFX.out, HnH.out, HS0.out], h9, _, ⟨hP9, grown_trans G0.out h9⟩, fun W hW => ⟨hPT W hW, hfx W hW.1⟩, fun W W' b h1 h2 h3 h4 => ⟨h1.1.below h4 h2 (by omega), grown_new h1.2 h4 h2⟩, fun W W' h1 h2 => ⟨h1.1.kept h2, grown_trans h1.2 h2⟩, fun W => PuT wo.heap.size w0.heap.size W (I : Int) x.O (s0 : Int) (.slice aH nH cH) (.slice a4 x.N.length c4) (.slice aY x.N.length cY) (.slice aE x.N.length cE) F' ys es [] [], fun W hW => hW.1, fun W hW => ⟨?_, hfx W hW⟩, fun W W' b h1 h2 h3 => ⟨h1.own.farD h3 (by have := HDl.out b h2; omega) h2 (by simpa using HFD.out)⟩, fun W W' h1 h2 => h1.kept h2⟩
            obtain ⟨ay, cy, ey, iy, _⟩ := item_ints (hW.own.own.1 (3, .slice aH nH cH, vals F') (by simp))
            simp only [Value.slice.injEq] at ey
            rw [HFX.out, ey.1]
            exact iy
          have f0 := fz 0
          have f1 := fz 1
          have f2 := fz 2
          have f3 := fz 3
          have f4 := fz 4
          have f5 := fz 5
          have f6 := fz 6
          clear g9 fz hW9 eq
          go_wp2_with fail
          rw [← HW9.out]
          exact bodyPost_ret (v := tnV (I : Int) x.O (s0 : Int) aH nH cH a4 x.N.length c4 aY q cY aE q cE) (by simp [results, Try.results41, go_sem, q0, q1, q2, q3, q4, q5, q6]) rfl F.out
    | true =>
      obtain ⟨A, hA⟩ : ∃ A, wordsT psO = A := ⟨_, rfl⟩
      have HAA : Hid (wordsT psO = A) := hA
      rw [hA] at HMo HST
      have HAl : Hid (A.length = x.N.length) := by show _ = _; rw [← hA, wordsT_len]; exact HLA.out
      clear hA
      go_wp2_with fail
      go_loopw [6, 5] (fun v v4 W => ∃ (s : Nat) (ps : List Trip) (bc : Bool), s ≤ x.N.length ∧ v = .int .i64 (s : Int) ∧ v4 = .bool bc ∧ wordsT ps = cutA x I s A ∧ OwnS W1 W g x.N.length ps ∧ (bc = true ↔ sizeW (cutA x I s A) < sizeW A)) (fun v _ _ => x.N.length - (intOf v).toNat)
      case atStart => exact ⟨0, psO, false, Nat.zero_le _, rfl, rfl, HAA.out, HOA.out, ⟨(fun e => by cases e), fun e => absurd e (Nat.lt_irrefl _)⟩⟩
      case round =>
        obtain ⟨wm, hwm⟩ : ∃ W, W = wr := ⟨_, rfl⟩
        subst hwm
        obtain ⟨s, psM, bm, hs, rfl, rfl, hwM, hoM, hbM⟩ := hrel
        have HOM : Hid (OwnS W1 wm g x.N.length psM) := hoM
        have HWM : Hid (wordsT psM = cutA x I s A) := hwM
        have HBM : Hid (bm = true ↔ sizeW (cutA x I s A) < sizeW A) := hbM
        clear hwM hoM hbM
        by_cases hsl : s < x.N.length
        · have is : (s : Int) < (x.N.length : Int) := by omega
          go_wp2_with fail
          go_loopw [7, 5] (fun v v4 W => ∃ (l : Nat) (ps : List Trip) (bc : Bool), l ≤ I ∧ v = .int .i64 (l : Int) ∧ v4 = .bool bc ∧ wordsT ps = cutR x s l (cutA x I s A) ∧ OwnS W1 W g x.N.length ps ∧ (bc = true ↔ sizeW (cutR x s l (cutA x I s A)) < sizeW A)) (fun v _ _ => I - (intOf v).toNat)
          case atStart => exact ⟨0, psM, bm, Nat.zero_le _, rfl, rfl, HWM.out, HOM.out, HBM.out⟩
          case round =>
            obtain ⟨wi, hwi⟩ : ∃ W, W = wr := ⟨_, rfl⟩
            subst hwi
            obtain ⟨l, ps, bc, hl, rfl, rfl, hwI, hoI, hbI⟩ := hrel
            have HO : Hid (OwnS W1 wi g x.N.length ps) := hoI
            have y0 := (HX.out wi hoI.gr).b0
            have hlp : ps.length = x.N.length := by
              have := congrArg List.length hwI
              rwa [wordsT_len, cutR_len, cutA_len, HAl.out] at this
            by_cases hll : l < I
            · have il : (l : Int) < (I : Int) := by omega
              have hsp : s < ps.length := by omega
              obtain ⟨b5, o5, k5, b6, o6, k6, r6, e5, h8, hs5⟩ := read_say HT.out HR.out hsl hll
              obtain ⟨b4, o4, k4, bn, on, e4, hs4⟩ := read_next HT.out HR.out hsl hll
              subst e5 e4
              obtain ⟨hnx, hnxe⟩ := HR.out.lt hsl hll
              have hwB : BegT (wordsT ps) x.E := by
                rw [hwI, ← HAA.out, HWA.out]
                exact (cutR_beg _ _ _ _).trans ((cutA_beg _ _ _ _).trans (rndT_beg _ _ _ _ _))
              have hbl : ∀ q, q < x.N.length → ((wordsT ps).getD q []).length ≤ mb := fun q hq => by
                obtain ⟨r, hr⟩ := hwB.2 q (by rw [HEL.out.1]; exact hq)
                have h1 := HR.out.e8 q hq
                rw [hr, List.length_append] at h1
                omega
              have hcu := cutP_words (x := x) (l := l) hsp
              have hfl := cutR_flag (x := x) (A := wordsT ps) (A0 := A) (s := s) (l := l) (by rw [wordsT_len]; exact hsp) (bc := bc) (by rw [hwI]; exact hbI) (by
                rw [hwI]
                exact Nat.le_trans (cutR_size (by rw [cutA_len, HAl.out]; exact hsl) l) (cutA_size s (by rw [HAl.out]; omega)))
              have hsame := cutT_same (x := x) (A := wordsT ps) (s := s) (l := l) (by rw [wordsT_len]; exact hsp)
              obtain ⟨W2, hW2, gW2, o2⟩ := empty_row wi
              obtain ⟨nx, hnxn⟩ : ∃ nx, nxT x s l = nx := ⟨_, rfl⟩
              rw [hnxn] at hs4 hnx hcu hfl hsame
              have hnp : nx < ps.length := by omega
              have w1 := words_at hsp
              have w2' := words_at hnp
              have l10 := hoI.lie _ (OwnS.mem hsp)
              have l20 := hoI.lie _ (OwnS.mem hnp)
              have cap10 := hoI.cap _ (OwnS.mem hsp)
              have hat1 := fun (W : World) (hW : wi.grownBy W none) => (hoI.grown hW).at hsp
              have hat2 := fun (W : World) (hW : wi.grownBy W none) => ((hoI.grown hW).at hnp).1
              obtain ⟨t1, ht1⟩ : ∃ t, ps.getD s (none, 0, []) = t := ⟨_, rfl⟩
              obtain ⟨t2, ht2⟩ : ∃ t, ps.getD nx (none, 0, []) = t := ⟨_, rfl⟩
              have ht1' : Hid (ps.getD s (none, 0, []) = t1) := ht1
              rw [ht1] at w1 l10 cap10 hat1
              rw [ht2] at w2' l20 hat2
              rw [← w1, ← w2'] at hcu hfl hsame
              have hb1 := hbl s hsl
              have hb2 := hbl nx hnx
              rw [← w1] at hb1
              rw [← w2'] at hb2
              obtain ⟨aA, cA, WA, hrun1, oA⟩ := o2.put (d := k6) (hs5 W2 (grown_trans hoI.gr gW2)).2.2 (by simp; omega)
              obtain ⟨aX, cX, WX, hrun2, oX⟩ := oA.put (d := t2.2.1) ((l20.1.grown hoI.gr).grown oA.gr) (by simp only [List.nil_append]; omega)
              simp only [List.nil_append, List.length_nil] at hrun1 hrun2 oX
              obtain ⟨X, hX⟩ : ∃ X, syT x s l ++ t2.2.2 = X := ⟨_, rfl⟩
              have hXl : X.length ≤ 300 := by rw [← hX, List.length_append]; omega
              rw [hX] at hcu hfl hsame oX hrun2
              obtain ⟨cm, hcm⟩ : ∃ cm, comT t1.2.2 X = cm := ⟨_, rfl⟩
              have hcmle : cm ≤ t1.2.2.length := by rw [← hcm]; exact (comT_le _ _).1
              rw [hcm] at hcu hfl hsame
              have CTC0 : Calls Try.prog 58 #[.slice t1.1 t1.2.2.length t1.2.1, .slice aX X.length cX] WX (Says (.int .i64 (cm : Int)) WX) := by
                rw [← hcm]; exact beginR_any t1.2.2 X t1.1 aX t1.2.1 cX WX ((l10.1.grown hoI.gr).grown oX.gr) oX.ints l10.2 (by unfold maxLen; omega)
              have GX : Hid (wi.grownBy WX none) := oX.gr
              obtain ⟨nE, hnE⟩ : ∃ n, (syT x s l).length = n := ⟨_, rfl⟩
              obtain ⟨n1', hn1'⟩ : ∃ n, t1.2.2.length = n := ⟨_, rfl⟩
              obtain ⟨n2', hn2'⟩ : ∃ n, t2.2.2.length = n := ⟨_, rfl⟩
              obtain ⟨nX, hnX⟩ : ∃ n, X.length = n := ⟨_, rfl⟩
              have hn1 : Hid (t1.2.2.length = n1') := hn1'
              rw [hn1', hnX] at CTC0
              rw [hn1'] at hcmle cap10 hfl
              rw [hnX, hnE, hn2'] at hrun2
              simp only [hnE] at hrun1
              have CTC : Hid (Calls Try.prog 58 #[.slice t1.1 n1' t1.2.1, .slice aX nX cX] WX (Says (.int .i64 (cm : Int)) WX)) := CTC0
              have HAT1 : Hid (∀ W, wi.grownBy W none → W.cell? ⟨g, s, none⟩ = some (.slice t1.1 n1' t1.2.1) ∧ W.frozen? ⟨g, s, none⟩ = false) := fun W hW => by have := hat1 W hW; simp only [valT, hn1'] at this; exact this
              have xa := hat2 WA oA.gr
              have xx := HAT1.out WX oX.gr
              simp only [valT, hn2'] at xa
              obtain ⟨c5a, c5b, _⟩ := hs5 W2 (grown_trans hoI.gr gW2)
              obtain ⟨c4a, c4b⟩ := hs4 WA (grown_trans hoI.gr oA.gr)
              have y5 := (HX.out W2 (grown_trans hoI.gr gW2)).b5
              have y4 := (HX.out WA (grown_trans hoI.gr oA.gr)).b4
              rw [hnE] at c5b
              rw [hW2] at c5a c5b y5 hrun1
              have HCU : Hid (wordsT (cutP ps s cm) = cutR x s (l + 1) (cutA x I s A)) := by show _ = _; rw [hcu, cutR, hwI]
              have HBC : Hid ((bc = true ∨ cm < n1') ↔ sizeW (cutR x s (l + 1) (cutA x I s A)) < sizeW A) := by show _ ↔ _; rw [hfl, cutR, hwI]
              have HSM : Hid (n1' ≤ cm → wordsT ps = cutR x s (l + 1) (cutA x I s A)) := fun h => by
                have h1 := hsame (by rw [hn1']; omega)
                show _ = cutT x (cutR x s l (cutA x I s A)) s l
                rw [← hwI, h1]
              have hcap1 : Hid (n1' ≤ t1.2.1) := cap10
              have ip5 : (s : Int) < (x.Y.length : Int) := by rw [HEL.out.2]; omega
              have inn : (nx : Int) < (x.N.length : Int) := by omega
              have xx1 := xx.1
              clear hs5 hs4 hwB hbl hcu hfl hsame w1 w2' l10 l20 cap10 hat1 hat2 ht1 ht2 hX hcm CTC0 hnE hn1' hn2' hnX hwI hbI hnxe hnxn hb1 hb2 h8 o2 oA oX xx hW2 gW2
              go_wp2_with fail
              refine CTC.out.mono ?_
              rintro E w7 ⟨rfl, hg7⟩
              obtain ⟨y7, z7⟩ := HAT1.out w7 (grown_trans GX.out hg7)
              have O7 : Hid (OwnS W1 w7 g x.N.length ps) := HO.out.grown (grown_trans GX.out hg7)
              have icap : (cm : Int) ≤ (t1.2.1 : Int) := by have := hcap1.out; omega
              clear xx1 hg7
              by_cases hlt : cm < n1'
              · have d1 : (cm : Int) < (n1' : Int) := by omega
                have HN : Hid (sizeW (cutR x s (l + 1) (cutA x I s A)) < sizeW A) := HBC.out.1 (.inr hlt)
                have F : Hid (OwnS W1 (w7.setCell ⟨g, s, none⟩ (.slice t1.1 cm t1.2.1)) g x.N.length (cutP ps s cm)) := by
                  have h1 := O7.out.cut hsp (n := cm) (by rw [ht1'.out, hn1.out]; exact hcmle)
                  rw [ht1'.out] at h1
                  exact h1
                clear hcmle
                go_wp2_with fail
                go_roundw
                case rel => exact ⟨l + 1, _, true, by omega, by go_num, rfl, HCU.out, F.out, ⟨fun _ => HN.out, fun _ => rfl⟩⟩
                case measure => simp [intOf]; omega
              · have d1 : ¬ (cm : Int) < (n1' : Int) := by omega
                have HB2 : Hid (bc = true ↔ sizeW (cutR x s (l + 1) (cutA x I s A)) < sizeW A) := by
                  show _ ↔ _
                  rw [← HBC.out]
                  exact ⟨.inl, fun h => h.elim id (fun h => absurd h hlt)⟩
                have HS2 : Hid (wordsT ps = cutR x s (l + 1) (cutA x I s A)) := HSM.out (by omega)
                clear hcmle
                go_wp2_with fail
                go_roundw
                case rel => exact ⟨l + 1, ps, bc, by omega, by go_num, rfl, HS2.out, O7.out, HB2.out⟩
                case measure => simp [intOf]; omega
            · have il : ¬ (l : Int) < (I : Int) := by omega
              have el : l = I := by omega
              subst el
              have HN : Hid (wordsT ps = cutA x l (s + 1) A ∧ OwnS W1 wi g x.N.length ps ∧ (bc = true ↔ sizeW (cutA x l (s + 1) A) < sizeW A)) := ⟨hwI, hoI, hbI⟩
              clear hwI hoI hbI
              go_wp2_with fail
              go_roundw
              case rel => exact ⟨s + 1, ps, bc, by omega, by go_num, rfl, HN.out⟩
              case measure => simp [intOf]; omega
        · have is : ¬ (s : Int) < (x.N.length : Int) := by omega
          have es : s = x.N.length := by omega
          subst es
          have HN : Hid (∃ (b : Bool) (k : Nat) (ps : List Trip), Value.bool bm = .bool b ∧ wordsT ps = rndT x I x.N.length k x.E ∧ OwnS W1 wm g x.N.length ps ∧ (b = false → cutA x I x.N.length (wordsT ps) = wordsT ps)) := by
            refine ⟨bm, k + 1, psM, rfl, by rw [HWM.out, ← HAA.out, HWA.out, rndT], HOM.out, fun e => ?_⟩
            have h1 := cutA_size (x := x) (I := I) (A := A) x.N.length (by rw [HAl.out]; exact Nat.le_refl _)
            have h2 : ¬ sizeW (cutA x I x.N.length A) < sizeW A := fun h => by rw [HBM.out.2 h] at e; cases e
            have h3 := (cutA_still (x := x) (I := I) (A := A) x.N.length (by rw [HAl.out]; exact Nat.le_refl _) (by omega)).1
            rw [HWM.out, h3, h3]
          have HM2 : Hid (2 * mu wm + btN (.bool bm) < 2 * mu wo + btN (.bool true)) := by
            have h1 := HMU.out wm psM (by have := congrArg List.length HWM.out; rwa [wordsT_len, cutA_len, HAl.out] at this) HOM.out
            have h2 := cutA_size (x := x) (I := I) (A := A) x.N.length (by rw [HAl.out]; exact Nat.le_refl _)
            show 2 * mu wm + _ < 2 * mu wo + 1
            rw [h1, HMo.out, HWM.out]
            cases bm with
            | true => have := HBM.out.1 rfl; show _ + 1 < _; omega
            | false => show _ + 0 < _; omega
          go_wp2_with fail
          go_roundw
          case rel => exact HN.out
          case measure => exact HM2.out

end Go.Proofs.Ytodcmlcpicabaaa
