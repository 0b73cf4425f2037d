/- The automaton of the other trees: the program's others. -/
import Derived.Test.YtofjmakmbmndoaaTrOthD
import Derived.Test.YtofjmakmbmndoaaTrCome
namespace Go.Proofs.Ytofjmakmbmndoaa
open Go.RowKit Go.Maps
set_option linter.unusedVariables false

def OthPost (x : Trs) (L N : Nat) (w : World) (E : Ending) (w' : World) : Prop :=
  ∃ X ar cr am cm, Closed x.R L X ∧ AreS N X ∧ E = .returned (trsV x.L (List.length X) ar (othT x X L).R.length cr 0 am (othT x X L).M.length cm) ∧ TrsAt w' (othT x X L) ar am ∧ w.grownBy w' none ∧ (∀ y, ar = some y → w.heap.size ≤ y.block) ∧ (∀ y, am = some y → w.heap.size ≤ y.block)

/-- What the loops of others go by. -/
structure OI (X : List Nat) (W wr : World) (bo : Nat) (L : Int) (Q : List RuleI) (K : List Int) (nQ nK : Nat) (ar : Option Addr) (cr : Nat) (am : Option Addr) (cm : Nat) : Prop where
  out : OutAt W wr bo L X.length Q K ar cr am cm
  lq : Q.length = nQ
  lk : K.length = nK

theorem pre_len (R : List RuleI) (X : List Nat) {l p q : Nat} (hl : l ≤ 2) (hX : X.length ≤ 64) (hp : p ≤ 64) (hq : q ≤ 64) : (othR R X l ++ othLet R X l p ++ othRow R X l p q).length ≤ 100000 := by
  rw [List.length_append, List.length_append, othR_len, othLet_len, othRow_len]
  have h1 : X.length * X.length ≤ 64 * 64 := Nat.mul_le_mul hX hX
  have h2 : l * (1 + X.length * X.length) ≤ 2 * (1 + 64 * 64) := Nat.mul_le_mul hl (by omega)
  have h3 : p * X.length ≤ 64 * 64 := Nat.mul_le_mul hp hX
  omega
theorem othLet_zero (R : List RuleI) (X : List Nat) (l : Nat) : othLet R X l 0 = [((l : Int), -1, -1, ((X.idxOf (nxA R l 1 1) : Nat) : Int))] := by simp [othLet]
theorem othRow_zero (R : List RuleI) (X : List Nat) (l p : Nat) : othRow R X l p 0 = [] := by simp [othRow]
theorem take_map_succ {X : List Nat} {f : Nat → Int} {k : Nat} (hk : k < X.length) : (X.take (k + 1)).map f = (X.take k).map f ++ [f (X.getD k 0)] := by
  rw [List.take_succ_eq_append_getElem hk, List.map_append]
  simp [List.getD, hk]

attribute [local go_sem ↓] app_fold in
set_option maxHeartbeats 12800000 in
set_option maxRecDepth 100000 in
theorem others_any (x : Trs) (b e : Option Addr) (d f : Nat) (w : World) (h : TrsAt w x b e) (hx : GoodT x) (L N : Nat) (hL : x.L = L) (hN : x.N = N) (hN6 : N ≤ 6) (hL2 : L ≤ 2) :
    Calls Try.prog 26 #[trsV x.L x.N b x.R.length d x.S e x.M.length f] w (OthPost x L N w) := by
  have hR : InRu x.R x.L N := hN ▸ hx.ru
  have hr4 := hx.r4
  have hMN := hx.m
  have HPost : Hid (∀ X ar cr am cm (W' : World), Closed x.R L X → AreS N X → RulesAt W' ar (othR x.R X L) → Ints W' am (X.map (unmS x.M)) → w.grownBy W' none → (∀ y, ar = some y → w.heap.size ≤ y.block) → (∀ y, am = some y → w.heap.size ≤ y.block) → OthPost x L N w (.returned (trsV x.L (List.length X) ar (othR x.R X L).length cr 0 am (X.map (unmS x.M)).length cm)) W') := fun X ar cr am cm W' h1 h2 h3 h4 h5 h6 h7 => by
    have hl := h2.len hN6
    have hsq : X.length * X.length ≤ 64 * 64 := Nat.mul_le_mul hl hl
    have hrl : (othR x.R X L).length ≤ 40000 := by
      rw [othR_len]
      have : L * (1 + X.length * X.length) ≤ 2 * (1 + 64 * 64) := Nat.mul_le_mul hL2 (by omega)
      omega
    exact ⟨X, ar, cr, am, cm, h1, h2, rfl, ⟨h3, h4, by show (othR x.R X L).length ≤ _; unfold maxLen; omega, by show (X.map (unmS x.M)).length ≤ _; rw [List.length_map]; unfold maxLen; omega⟩, h5, h6, h7⟩
  have HNx : Hid (∀ (b0 : Nat) (l s t : Nat) (W : World), w.grownBy W none → W.cell? ⟨b0, 2, none⟩ = some (.slice b x.R.length d) → s < 4096 → t < 4096 → Calls Try.prog 32 #[.int .i64 (l : Int), .int .i64 (s : Int), .int .i64 (t : Int), .pointer (some ⟨b0, 0, none⟩)] W (Says (.int .i64 ((nxA x.R l s t : Nat) : Int)) W)) := fun b0 l s t W hW hc hs ht => next_any x.R x.L N x.R.length d b0 s t l b W hR hN6 rfl (by omega) (h.grown hW).rules hc hs ht
  have HUn : Hid (∀ (s : Nat) (W : World), w.grownBy W none → s < 4096 → Calls Try.prog 36 #[trsV x.L x.N b x.R.length d x.S e x.M.length f, .int .i64 (s : Int)] W (Says (.int .i64 (unmS x.M s)) W)) := fun s W hW hs => unmarked_any x.L x.N x.S b e x.R.length d f s x.M W (h.grown hW).marks (by omega) hs
  have HCo : Hid (∀ (b0 : Nat) (W : World), (∀ (l s t : Nat) (V : World), W.grownBy V none → s < 4096 → t < 4096 → Calls Try.prog 32 #[.int .i64 (l : Int), .int .i64 (s : Int), .int .i64 (t : Int), .pointer (some ⟨b0, 0, none⟩)] V (Says (.int .i64 ((nxA x.R l s t : Nat) : Int)) V)) → Calls Try.prog 35 #[.int .i64 (L : Int), .func (.func 32) #[] #[.pointer (some ⟨b0, 0, none⟩)]] W (ComeToPost x.R L N W)) := fun b0 W hh => comeTo_any x.R x.L L N b0 W hR hN6 (by omega) hh
  have HA : Hid (∀ W, Calls Try.prog 34 #[.int .i64 (-1)] W fun e w' => e = .returned (.int .i64 1) ∧ w' = W) := fun W => alone_any (-1) 0 1 (by omega) (by omega) rfl W
  have HIn : Hid (∀ X, AreS N X → ∀ i, i < X.length → X.getD i 0 < 4096) := fun X hX i hi => by
    have h2 : 2 ^ (N + 1) ≤ 2 ^ 7 := Nat.pow_le_pow_right (by decide) (by omega)
    have := (hX.lt (X.getD i 0) (by simp [List.getD, hi])).1
    omega
  have HSl : Hid (∀ l s t : Nat, nxA x.R l s t < 4096) := fun l s t => by
    have h2 : 2 ^ (N + 1) ≤ 2 ^ 7 := Nat.pow_le_pow_right (by decide) (by omega)
    have := nxS_lt hR (l := (l : Int)) (s := s) (t := t) (Nat.le_refl _)
    have h3 : nxA x.R l s t < 2 ^ (N + 1) := this
    omega
  obtain ⟨P, hP⟩ : ∃ P, P = OthPost x L N w := ⟨_, rfl⟩
  rw [← hP] at HPost ⊢
  obtain ⟨Lz, Nz, R, S0, M⟩ := x
  simp only at *
  subst hL hN
  generalize R.length = nR at *
  generalize M.length = nM at *
  obtain ⟨W1, hW1⟩ : ∃ W1, W1 = (w.alloc (.cells #[.int .i64 (L : Int), .int .i64 (N : Int), .slice b nR d, .int .i64 S0, .slice e nM f] 25)).alloc (.cells #[.int .i64 0, .int .i64 0, .slice none 0 0, .int .i64 0, .slice none 0 0] 25) := ⟨_, rfl⟩
  have HW1 : Hid (W1 = _) := hW1
  obtain ⟨W0, hW0, g0, s0, bx0⟩ := box5_new w (.int .i64 (L : Int)) (.int .i64 (N : Int)) (.slice b nR d) (.int .i64 S0) (.slice e nM f) 25
  have g1 : W0.grownBy W1 none := by rw [hW1, hW0]; exact grown_alloc _ _
  have hrb := heap_alloc_new W0 (.cells #[.int .i64 0, .int .i64 0, .slice none 0 0, .int .i64 0, .slice none 0 0] 25)
  rw [s0, hW0, ← hW1] at hrb
  have s1 : W1.heap.size = w.heap.size + 1 + 1 := by rw [hW1, World.size_alloc, World.size_alloc]
  have G1 : Hid (w.grownBy W1 none) := grown_trans g0 g1
  have HRB : Hid (W1.heap[w.heap.size + 1]? = some (.cells #[.int .i64 0, .int .i64 0, .slice none 0 0, .int .i64 0, .slice none 0 0] 25 (0, 0)) ∧ W1.heap.size = w.heap.size + 1 + 1) := ⟨hrb, s1⟩
  have B0 : Hid (∀ W', W1.grownBy W' none → W'.cell? ⟨w.heap.size, 0, none⟩ = some (.int .i64 (L : Int)) ∧ W'.cell? ⟨w.heap.size, 1, none⟩ = some (.int .i64 (N : Int)) ∧ W'.cell? ⟨w.heap.size, 2, none⟩ = some (.slice b nR d) ∧ W'.cell? ⟨w.heap.size, 3, none⟩ = some (.int .i64 S0) ∧ W'.cell? ⟨w.heap.size, 4, none⟩ = some (.slice e nM f)) := fun W' hW' => bx0 W' (grown_trans g1 hW')
  have HN1 : Hid (∀ (l s t : Nat) (V : World), W1.grownBy V none → s < 4096 → t < 4096 → Calls Try.prog 32 #[.int .i64 (l : Int), .int .i64 (s : Int), .int .i64 (t : Int), .pointer (some ⟨w.heap.size, 0, none⟩)] V (Says (.int .i64 ((nxA R l s t : Nat) : Int)) V)) := fun l s t V hV hs ht => HNx.out w.heap.size l s t V (grown_trans G1.out hV) (B0.out V hV).2.2.1 hs ht
  have CCo : Hid (Calls Try.prog 35 #[.int .i64 (L : Int), .func (.func 32) #[] #[.pointer (some ⟨w.heap.size, 0, none⟩)]] W1 (ComeToPost R L N W1)) := HCo.out w.heap.size W1 HN1.out
  have hmf : ∀ (fn : Fn) (first cap : Array Value) (w : World), (Instr.makeFunc fn first cap).run Try.prog w = .ok (.func fn first cap) w := fun _ _ _ _ => rfl
  obtain ⟨x0, x1, x2, x3, x4⟩ := B0.out W1 (grown_refl _ _)
  rw [hW1] at x0 x1 x2 x3 x4
  clear h hx hR hW0 g0 s0 bx0 g1 hrb s1 hW1 HNx HCo hP
  go_enter Try.func26, Try.ntmps26
  go_wp2_with fail
  rw [← HW1.out]
  clear x0 x1 x2 x3 x4 hmf
  refine CCo.out.mono ?_
  rintro E w2 ⟨X, a, c, bs, rfl, hCl, hAr, hCA, hbs⟩
  have CL : Hid (Closed R L X) := hCl
  have AR : Hid (AreS N X) := hAr
  have G2 : Hid (W1.grownBy w2 none) := grown_of_below (hbs ▸ hCA.bel)
  have h64 := hAr.len hN6
  obtain ⟨W3, hW3, hO3, g3⟩ := outAt_start w2 (L : Int) X.length
  have HW3 : Hid (W3 = _) := hW3
  have G3 : Hid (W1.grownBy W3 none) := grown_trans G2.out g3
  have CA3 : Hid (ComeAt W1 W3 bs a c X) := hCA.kept g3
  have HBs : Hid (bs + 1 < w2.heap.size ∧ w.heap.size + 1 < w2.heap.size) := ⟨by have := hCA.big; omega, by have := HRB.out.2; have := G2.out.size; omega⟩
  have OO : Hid (OI X W3 W3 w2.heap.size (L : Int) [] [] 0 0 none 0 none 0) := ⟨hO3, rfl, rfl⟩
  obtain ⟨x0, x1, x2, x3, x4⟩ := B0.out w2 G2.out
  obtain ⟨z0, z1, z2, z3, z4⟩ := B0.out W3 G3.out
  rw [hW3] at z0 z1 z2 z3 z4
  clear hCl hAr hCA hW3 hO3 g3 CCo hbs
  obtain ⟨bo, hbo⟩ : ∃ bo, w2.heap.size = bo := ⟨_, rfl⟩
  obtain ⟨n, hn⟩ : ∃ n, X.length = n := ⟨_, rfl⟩
  have Hn : Hid (X.length = n) := hn
  have Hbo : Hid (w2.heap.size = bo) := hbo
  -- facts while the loops go
  have FR : Hid (∀ wr, W3.grownBy wr (some bo) → W1.grownBy wr none) := fun wr hw => grown_new G3.out hw (by have := HBs.out.2; have := HRB.out.2; omega)
  have FN : Hid (∀ wr, W3.grownBy wr (some bo) → NumS wr (bs + 1) X) := fun wr hw => CA3.out.num.kept hw (by have := HBs.out.1; simp; omega)
  have FS : Hid (∀ wr i, W3.grownBy wr (some bo) → i < n → ∃ g, a = some ⟨g, 0, none⟩ ∧ wr.cell? ⟨g, i, none⟩ = some (.int .i64 ((X.getD i 0 : Nat) : Int))) := fun wr i hw hi => by
    obtain ⟨g, ea, hc⟩ := CA3.out.at (i := i) (by rw [Hn.out]; exact hi)
    refine ⟨g, ea, hw.cell hc ?_⟩
    subst ea
    have h5 := (CA3.out.row.lt g rfl).2
    intro e
    have e' : bo = g := by simpa using e.symm
    subst e'
    have := OO.out.out.box
    rw [Hbo.out] at this
    rcases CA3.out.row.2 with ⟨e1, _⟩ | ⟨g', cap', cur, e1, _, e3, _⟩
    · cases e1
    · cases e1
      rw [e3] at this
      cases this
  have HNs : Hid (∀ (wr : World) (s : Nat), W3.grownBy wr (some bo) → s < 4096 → s ∈ X → (Instr.lookup 72 (.map (some (bs + 1))) (.int .i64 (s : Int)) false).run Try.prog wr = .ok (.int .i64 ((X.idxOf s : Nat) : Int)) wr) := fun wr s hw hs hm => (FN.out wr hw).num (by omega) hm
  have HGet : Hid (∀ i, i < n → X.getD i 0 < 4096 ∧ X.getD i 0 ∈ X) := fun i hi => by
    have hi' : i < X.length := by rw [Hn.out]; exact hi
    exact ⟨HIn.out X AR.out i hi', by simp [List.getD, hi']⟩
  rw [hn] at HW3 h64 z0 z1 z2 z3 z4 ⊢
  rw [hbo] at OO
  clear hn hbo FN
  go_wp2_with fail
  rw [← HW3.out, Hbo.out]
  clear x0 x1 x2 x3 x4 z0 z1 z2 z3 z4
  go_loopw [30] (fun v wr => ∃ (l nQ cr : Nat) (ar : Option Addr), v = .int .i64 (l : Int) ∧ l ≤ L ∧ OI X W3 wr bo (L : Int) (othR R X l) [] nQ 0 ar cr none 0) (fun v _ => L - (intOf v).toNat)
  case atStart => exact ⟨0, 0, 0, none, rfl, by omega, OO.out⟩
  case round =>
    obtain ⟨l, nQ, cr, ar, rfl, hl, hO⟩ := hrel
    have O1 : Hid (OI X W3 wr bo (L : Int) (othR R X l) [] nQ 0 ar cr none 0) := hO
    clear hO OO
    by_cases hlL : l < L
    · have ql : (l : Int) < (L : Int) := by omega
      have GR1 : Hid (W1.grownBy wr none) := FR.out wr O1.out.out.gr
      have C1 : Hid (Calls Try.prog 32 #[.int .i64 (l : Int), .int .i64 1, .int .i64 1, .pointer (some ⟨w.heap.size, 0, none⟩)] wr (Says (.int .i64 ((nxA R l 1 1 : Nat) : Int)) wr)) := HN1.out l 1 1 wr GR1.out (by omega) (by omega)
      have HSm : Hid (nxA R l 1 1 < 4096 ∧ nxA R l 1 1 ∈ X) := ⟨HSl.out l 1 1, CL.out.leaf l hlL⟩
      have HQ1 : Hid (othR R X l ++ [((l : Int), -1, -1, ((X.idxOf (nxA R l 1 1) : Nat) : Int))] = othR R X l ++ othLet R X l 0) := by show _ = _; rw [othLet_zero]
      have HQl : Hid ((othR R X l).length ≤ 100000) := by
        have := pre_len R X (l := l) (p := 0) (q := 0) (by omega) (by rw [Hn.out]; exact h64) (by omega) (by omega)
        rw [List.length_append, List.length_append] at this
        show _ ≤ _
        omega
      generalize nxA R l 1 1 = s at *
      generalize hix : X.idxOf s = ix at *
      have HIx : Hid (X.idxOf s = ix) := hix
      clear hix
      go_wp2_with fail
      refine (HA.out _).mono ?_
      rintro E w4 ⟨rfl, hw4⟩
      have hw4' := hw4.symm
      subst hw4'
      go_wp2_with fail
      refine (HA.out _).mono ?_
      rintro E w4 ⟨rfl, hw4⟩
      have hw4' := hw4.symm
      subst hw4'
      go_wp2_with fail
      refine C1.out.mono ?_
      rintro E w4 ⟨rfl, hg4⟩
      have hO4 := O1.out.out.kept hg4
      have hlk := HNs.out w4 s hO4.gr HSm.out.1 HSm.out.2
      rw [HIx.out] at hlk
      obtain ⟨xo, _⟩ := hO4.cells
      obtain ⟨g5, c5, w5, hrun, xo5, fo5, hO5⟩ := hO4.rule ((l : Int), -1, -1, (ix : Int)) HQl.out
      have xo' : ∀ o, (w4.alloc o).cell? ⟨bo, 2, none⟩ = some (.slice ar (othR R X l).length cr) := fun o => (grown_alloc _ o).cell xo (by simp)
      rw [HQ1.out] at hO5
      have OO5 : Hid (OI X W3 (w5.setCell ⟨bo, 2, none⟩ (.slice (some ⟨g5, 0, none⟩) (nQ + 1) c5)) bo (L : Int) (othR R X l ++ othLet R X l 0) [] (nQ + 1) 0 (some ⟨g5, 0, none⟩) c5 none 0) := by
        rw [O1.out.lq] at hO5
        exact ⟨hO5, by rw [← HQ1.out, List.length_append, O1.out.lq]; rfl, rfl⟩
      rw [O1.out.lq] at hrun xo xo' xo5
      clear hO4 hO5 hg4 HIx HQl
      go_wp2_with fail
      clear hlk hrun xo xo' xo5 fo5
      go_loopw [50] (fun v wr => ∃ (p nQ cr : Nat) (ar : Option Addr), v = .int .i64 (p : Int) ∧ p ≤ n ∧ OI X W3 wr bo (L : Int) (othR R X l ++ othLet R X l p) [] nQ 0 ar cr none 0) (fun v _ => n - (intOf v).toNat)
      case atStart => exact ⟨0, nQ + 1, c5, _, rfl, by omega, OO5.out⟩
      case round =>
        rename World => wp
        clear OO5 O1 GR1 C1 HQ1
        obtain ⟨p, nQ, cr, ar, rfl, hp, hO⟩ := hrel
        have O1 : Hid (OI X W3 wp bo (L : Int) (othR R X l ++ othLet R X l p) [] nQ 0 ar cr none 0) := hO
        clear hO
        by_cases hpn : p < n
        · have qp : (p : Int) < (n : Int) := by omega
          obtain ⟨g, ea, cp⟩ := FS.out wp p O1.out.out.gr hpn
          subst ea
          have O2 : Hid (OI X W3 wp bo (L : Int) (othR R X l ++ othLet R X l p ++ othRow R X l p 0) [] nQ 0 ar cr none 0) := by
            show OI _ _ _ _ _ _ _ _ _ _ _ _ _
            rw [othRow_zero, List.append_nil]; exact O1.out
          obtain ⟨sp, hsp⟩ : ∃ s, X.getD p 0 = s := ⟨_, rfl⟩
          rw [hsp] at cp
          have HSp : Hid (X.getD p 0 = sp) := hsp
          clear hsp
          go_wp2_with fail
          clear cp
          go_loopw [57] (fun v wr => ∃ (q nQ cr : Nat) (ar : Option Addr), v = .int .i64 (q : Int) ∧ q ≤ n ∧ OI X W3 wr bo (L : Int) (othR R X l ++ othLet R X l p ++ othRow R X l p q) [] nQ 0 ar cr none 0) (fun v _ => n - (intOf v).toNat)
          case atStart => exact ⟨0, nQ, cr, ar, rfl, by omega, O2.out⟩
          case round =>
            rename World => wq
            clear O2 O1
            obtain ⟨q, nQ, cr, ar, rfl, hq, hO⟩ := hrel
            have O1 : Hid (OI X W3 wq bo (L : Int) (othR R X l ++ othLet R X l p ++ othRow R X l p q) [] nQ 0 ar cr none 0) := hO
            clear hO
            by_cases hqn : q < n
            · have qq : (q : Int) < (n : Int) := by omega
              obtain ⟨g', ea', cq⟩ := FS.out wq q O1.out.out.gr hqn
              cases ea'
              obtain ⟨sq, hsq⟩ : ∃ s, X.getD q 0 = s := ⟨_, rfl⟩
              rw [hsq] at cq
              have hgp := HGet.out p hpn
              have hgq := HGet.out q hqn
              rw [HSp.out] at hgp
              rw [hsq] at hgq
              obtain ⟨s, hs⟩ : ∃ s, nxA R l sp sq = s := ⟨_, rfl⟩
              have C1 : Hid (∀ W, W1.grownBy W none → Calls Try.prog 32 #[.int .i64 (l : Int), .int .i64 (sp : Int), .int .i64 (sq : Int), .pointer (some ⟨w.heap.size, 0, none⟩)] W (Says (.int .i64 (s : Int)) W)) := fun W hW => hs ▸ HN1.out l sp sq W hW hgp.1 hgq.1
              have HSm : Hid (s < 4096 ∧ s ∈ X) := hs ▸ ⟨HSl.out l sp sq, CL.out.node l hlL sp hgp.2 sq hgq.2⟩
              obtain ⟨ix, hix⟩ : ∃ ix, X.idxOf s = ix := ⟨_, rfl⟩
              have HIx : Hid (X.idxOf s = ix) := hix
              have HQ1 : Hid (othR R X l ++ othLet R X l p ++ othRow R X l p q ++ [((l : Int), (p : Int), (q : Int), (ix : Int))] = othR R X l ++ othLet R X l p ++ othRow R X l p (q + 1)) := by
                show _ = _
                rw [othRow_succ, HSp.out, hsq, hs, hix, List.append_assoc]
              have HQl : Hid ((othR R X l ++ othLet R X l p ++ othRow R X l p q).length ≤ 100000) := pre_len R X (by omega) (by rw [Hn.out]; exact h64) (by omega) (by omega)
              have GQ1 : Hid (W1.grownBy wq none) := FR.out wq O1.out.out.gr
              have HAp : Hid (∀ w4, wq.grownBy w4 none → w4.cell? ⟨bo, 2, none⟩ = some (.slice ar nQ cr) ∧ (∀ o, (w4.alloc o).cell? ⟨bo, 2, none⟩ = some (.slice ar nQ cr)) ∧ (Instr.lookup 72 (.map (some (bs + 1))) (.int .i64 (s : Int)) false).run Try.prog w4 = .ok (.int .i64 (ix : Int)) w4 ∧ ∃ g c' w2, (AppS #[22, 22] 22 #[.slice ar nQ cr, .slice (some ⟨w4.heap.size, 0, none⟩) 1 1]).run Try.prog (w4.alloc (.cells #[.int .i64 (l : Int), .int .i64 (p : Int), .int .i64 (q : Int), .int .i64 (ix : Int)] 46)) = .ok (.slice (some ⟨g, 0, none⟩) (nQ + 1) c') w2 ∧ w2.cell? ⟨bo, 2, none⟩ = some (.slice ar nQ cr) ∧ w2.frozen? ⟨bo, 2, none⟩ = false ∧ Hid (OI X W3 (w2.setCell ⟨bo, 2, none⟩ (.slice (some ⟨g, 0, none⟩) (nQ + 1) c')) bo (L : Int) (othR R X l ++ othLet R X l p ++ othRow R X l p (q + 1)) [] (nQ + 1) 0 (some ⟨g, 0, none⟩) c' none 0)) := fun w4 hg4 => by
                have hO4 := O1.out.out.kept hg4
                have hlk := HNs.out w4 s hO4.gr HSm.out.1 HSm.out.2
                rw [HIx.out] at hlk
                obtain ⟨xo, _⟩ := hO4.cells
                obtain ⟨g5, c5, w5, hrun, xo5, fo5, hO5⟩ := hO4.rule ((l : Int), (p : Int), (q : Int), (ix : Int)) HQl.out
                rw [HQ1.out] at hO5
                rw [O1.out.lq] at hrun xo xo5 hO5
                exact ⟨xo, fun o => (grown_alloc _ o).cell xo (by simp), hlk, g5, c5, w5, hrun, xo5, fo5, hO5, by rw [← HQ1.out, List.length_append, O1.out.lq]; rfl, rfl⟩
              have xoq := (HAp.out wq (grown_refl _ _)).1
              have GD : Hid (wq.grownBy wq.drew none) := grown_drew (grown_refl _ _)
              clear hsq hgp hgq hs hix HIx HQ1 HQl HSm
              go_wp2_with fail
              go_region_with (go_at_call 32; refine (C1.out _ (by first | exact grown_trans GQ1.out GD.out | exact GQ1.out)).mono ?_; rintro E w4 ⟨rfl, hg4⟩; have hg4' := grown_trans GD.out hg4; have hap := HAp.out w4 hg4'; obtain ⟨xo4, xo4', hlk, g5, c5, w5, hrun, xo5, fo5, HO5⟩ := hap; clear hg4 hg4')
              all_goals
                go_wp2_with fail
                go_roundw
                case rel => exact ⟨q + 1, nQ + 1, c5, some ⟨g5, 0, none⟩, by go_num, by omega, HO5.out⟩
                case measure => simp [intOf]; omega
            · have qq : ¬ (q : Int) < (n : Int) := by omega
              obtain rfl : q = n := by omega
              have O3 : Hid (OI X W3 wq bo (L : Int) (othR R X l ++ othLet R X l (p + 1)) [] nQ 0 ar cr none 0) := by
                have := O1.out
                have e1 : othR R X l ++ othLet R X l p ++ othRow R X l p q = othR R X l ++ othLet R X l (p + 1) := by rw [othLet_succ, List.append_assoc, Hn.out]
                rw [e1] at this
                exact this
              go_wp2_with fail
              go_roundw
              case rel => exact ⟨p + 1, nQ, cr, ar, by go_num, by omega, O3.out⟩
              case measure => simp [intOf]; omega
        · have qp : ¬ (p : Int) < (n : Int) := by omega
          obtain rfl : p = n := by omega
          have O3 : Hid (OI X W3 wp bo (L : Int) (othR R X (l + 1)) [] nQ 0 ar cr none 0) := by
            have := O1.out
            have e1 : othR R X l ++ othLet R X l p = othR R X (l + 1) := by rw [othR_succ, Hn.out]
            rw [e1] at this
            exact this
          go_wp2_with fail
          go_roundw
          case rel => exact ⟨l + 1, nQ, cr, ar, by go_num, by omega, O3.out⟩
          case measure => simp [intOf]; omega
    · have ql : ¬ (l : Int) < (L : Int) := by omega
      obtain rfl : l = L := by omega
      have O0 : Hid (OI X W3 wr bo (l : Int) (othR R X l) ((X.take 0).map (unmS M)) nQ 0 ar cr none 0) := O1.out
      go_wp2_with fail
      go_loopw [83] (fun v wr => ∃ (k nK cm : Nat) (am : Option Addr), v = .int .i64 (k : Int) ∧ k ≤ n ∧ OI X W3 wr bo (l : Int) (othR R X l) ((X.take k).map (unmS M)) nQ nK ar cr am cm) (fun v _ => n - (intOf v).toNat)
      case atStart => exact ⟨0, 0, 0, none, rfl, by omega, O0.out⟩
      case round =>
        rename World => wp
        clear O0 O1
        obtain ⟨k, nK, cm, am, rfl, hk, hO⟩ := hrel
        have O1 : Hid (OI X W3 wp bo (l : Int) (othR R X l) ((X.take k).map (unmS M)) nQ nK ar cr am cm) := hO
        have GP1 : Hid (W1.grownBy wp none) := FR.out wp hO.out.gr
        clear hO
        by_cases hkn : k < n
        · have qk : (k : Int) < (n : Int) := by omega
          obtain ⟨g, ea, ck⟩ := FS.out wp k O1.out.out.gr hkn
          subst ea
          obtain ⟨s, hs⟩ : ∃ s, X.getD k 0 = s := ⟨_, rfl⟩
          rw [hs] at ck
          have hgk := (HGet.out k hkn).1
          rw [hs] at hgk
          obtain ⟨z, hz⟩ : ∃ z, unmS M s = z := ⟨_, rfl⟩
          have C1 : Hid (∀ W, w.grownBy W none → Calls Try.prog 36 #[trsV (l : Int) (N : Int) b nR d S0 e nM f, .int .i64 (s : Int)] W (Says (.int .i64 z) W)) := fun W hW => hz ▸ HUn.out s W hW hgk
          have HK1 : Hid ((X.take (k + 1)).map (unmS M) = (X.take k).map (unmS M) ++ [z]) := by show _ = _; rw [take_map_succ (by rw [Hn.out]; exact hkn), hs, hz]
          have hnK : nK = k := by rw [← O1.out.lk, List.length_map, List.length_take, Hn.out]; omega
          have HAp : Hid (∀ w4, wp.grownBy w4 none → w4.cell? ⟨bo, 4, none⟩ = some (.slice am nK cm) ∧ (∀ o, (w4.alloc o).cell? ⟨bo, 4, none⟩ = some (.slice am nK cm)) ∧ ∃ g c' w2, (AppS #[23, 23] 23 #[.slice am nK cm, .slice (some ⟨w4.heap.size, 0, none⟩) 1 1]).run Try.prog (w4.alloc (.cells #[.int .i64 z] 3)) = .ok (.slice (some ⟨g, 0, none⟩) (nK + 1) c') w2 ∧ w2.cell? ⟨bo, 4, none⟩ = some (.slice am nK cm) ∧ w2.frozen? ⟨bo, 4, none⟩ = false ∧ Hid (OI X W3 (w2.setCell ⟨bo, 4, none⟩ (.slice (some ⟨g, 0, none⟩) (nK + 1) c')) bo (l : Int) (othR R X l) ((X.take (k + 1)).map (unmS M)) nQ (nK + 1) ar cr (some ⟨g, 0, none⟩) c')) := fun w4 hg4 => by
            have hO4 := O1.out.out.kept hg4
            obtain ⟨_, xo⟩ := hO4.cells
            obtain ⟨g5, c5, w5, hrun, xo5, fo5, hO5⟩ := hO4.mark z (by rw [O1.out.lk]; omega)
            rw [← HK1.out] at hO5
            rw [O1.out.lk] at hrun xo xo5 hO5
            exact ⟨xo, fun o => (grown_alloc _ o).cell xo (by simp), g5, c5, w5, hrun, xo5, fo5, hO5, O1.out.lq, by rw [HK1.out, List.length_append, O1.out.lk]; rfl⟩
          have xoq := (HAp.out wp (grown_refl _ _)).1
          obtain ⟨x0, x1, x2, x3, x4⟩ := B0.out wp GP1.out
          have GD : Hid (wp.grownBy wp.drew none) := grown_drew (grown_refl _ _)
          have GW : Hid (w.grownBy wp none) := grown_trans G1.out GP1.out
          have hk64 : nK ≤ 64 := by omega
          clear hs hgk hz HK1 hnK
          go_wp2_with fail
          go_region_with (go_at_call 36; refine (C1.out _ (by first | exact grown_trans GW.out GD.out | exact GW.out)).mono ?_; rintro E w4 ⟨rfl, hg4⟩; have hg4' := grown_trans GD.out hg4; have hap := HAp.out w4 hg4'; obtain ⟨xo4, xo4', g5, c5, w5, hrun, xo5, fo5, HO5⟩ := hap; clear hg4 hg4')
          all_goals
            go_wp2_with fail
            go_roundw
            case rel => exact ⟨k + 1, nK + 1, c5, some ⟨g5, 0, none⟩, by go_num, by omega, HO5.out⟩
            case measure => simp [intOf]; omega
        · have qk : ¬ (k : Int) < (n : Int) := by omega
          obtain rfl : k = n := by omega
          have hT : X.take k = X := by rw [← Hn.out, List.take_length]
          have hO := O1.out.out
          rw [hT] at hO
          have hlk : (X.map (unmS M)).length = nK := by have := O1.out.lk; rwa [hT] at this
          have hlq := O1.out.lq
          obtain ⟨v0, v1, v2, v3, v4, _⟩ := block_cells5T hO.box
          have hr6 : wp.heap[w.heap.size + 1]? = some (.cells #[.int .i64 0, .int .i64 0, .slice none 0 0, .int .i64 0, .slice none 0 0] 25 (0, 0)) := (GP1.out.block _ (by have := HRB.out.2; omega) (by simp)).trans HRB.out.1
          obtain ⟨r0, r1, r2, r3, r4, rf⟩ := block_cells5T hr6
          obtain ⟨W7, hW7, hg7, R7⟩ := five_storeT hr6 (.int .i64 (l : Int)) (.int .i64 (X.length : Int)) (.slice ar (othR R X l).length cr) (.int .i64 0) (.slice am (X.map (unmS M)).length cm)
          obtain ⟨y0, y1, y2, y3, y4, _⟩ := block_cells5T R7
          have rf0 := rf 0
          have rf1 := rf 1
          have rf2 := rf 2
          have rf3 := rf 3
          have rf4 := rf 4
          obtain ⟨hru, hin⟩ := hO.trs hg7 (by have := HBs.out.2; have := Hbo.out; omega)
          have Fin : Hid (P (.returned (trsV (l : Int) (X.length : Int) ar (othR R X l).length cr 0 am (X.map (unmS M)).length cm)) W7) := HPost.out X ar cr am cm W7 CL.out AR.out hru hin (grown_new (grown_trans G1.out GP1.out) hg7 (by omega)) (fun y hy => by have := (hO.rul.lt y.block (by rw [hy]; rfl)).1; have := HBs.out.2; have := Hbo.out; omega) (fun y hy => by have := (hO.mar.lt y.block (by rw [hy]; rfl)).1; have := HBs.out.2; have := Hbo.out; omega)
          rw [hlk] at v4 hW7 y4 Fin
          rw [hlq] at v2 hW7 y2 Fin
          rw [Hn.out] at v1 hW7 y1 Fin
          clear hT hO hlk hlq hr6 rf hg7 R7 hru hin
          go_wp2_with fail
          rw [← hW7]
          exact bodyPost_ret (v := trsV (l : Int) (k : Int) ar nQ cr 0 am nK cm) (by simp [results, Try.results26, go_sem, y0, y1, y2, y3, y4]) rfl Fin.out

end Go.Proofs.Ytofjmakmbmndoaa
