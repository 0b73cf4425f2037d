/- What holds while 'of' goes over pairs. -/
import Derived.Test.YtodcmlcpicabaaaTlOfR
import Derived.Test.YtodcmlcpicabaaaTpOfD
namespace Go.Proofs.Ytodcmlcpicabaaa
open Go.RowKit
set_option linter.unusedVariables false

/-- What is said by a letter, and where it leads. -/
def StpQ (kk : Nat) (zs : List Int) (d : Nat) (W : World) (e : Ending) (w' : World) : Prop := ∃ a k, e = .returned (.tuple #[.slice a zs.length k, pvl kk d]) ∧ Ints w' a zs ∧ W.grownBy w' none ∧ ∀ y, a = some y → W.heap.size ≤ y.block
def SOfQ (kk gS k x : Nat) (W : World) : Prop := W.cell? ⟨gS, k * 2, none⟩ = some (.int .i64 ((pxx kk x : Nat) : Int)) ∧ W.cell? ⟨gS, k * 2 + 1, none⟩ = some (.int .i64 ((pyy kk x : Nat) : Int))
theorem own_first {B lo hi : Nat} {w : World} {its : List Item} {ps : List Trip} (h : OwnsP B lo hi w its ps) : OwnsP B lo hi w ((3, .slice none 0 0, vals (natInts [])) :: its) ps :=
  ⟨h.own.empty 3, h.lie, fun p hp hn y hy => ⟨(h.apt p hp hn y hy).1, fun it hm => by
    rcases List.mem_cons.1 hm with rfl | hm
    · simp [Value.ownBlock]
    · exact (h.apt p hp hn y hy).2 it hm⟩⟩
theorem SOfQ.kept {kk gS k x : Nat} {W W' : World} (h : SOfQ kk gS k x W) (g : W.grownBy W' none) : SOfQ kk gS k x W' := ⟨g.cell h.1 (by simp), g.cell h.2 (by simp)⟩

def OutQ (lo bm kk : Nat) (δ : Nat → Nat → Nat) (σ : Nat → Nat → List Int) (ε : Nat → List Int) (l x0 : Nat) (w : World) (v i : Value) (wr : World) : Prop :=
  ∃ (k : Nat) (xs : List Nat) (aS : Option Addr) (cS : Nat) (aN : Option Addr) (cN : Nat) (aY : Option Addr) (cY : Nat) (aE : Option Addr) (cE : Nat) (rs : List (Value × List Int)) (ys : List (Value × List Trip)) (es : List Trip), bfsL id δ l x0 k = xs ∧ v = .slice aS xs.length cS ∧ i = .int .i64 (k : Int) ∧ k ≤ xs.length ∧ (∀ j, j < k → j < (bfsL id δ l x0 j).length) ∧ OutT δ σ ε l x0 k rs ys es ∧
    OfQ lo (w.heap.size + 1) bm l kk wr (.slice aS xs.length cS) (.slice aN k cN) (.slice aY k cY) (.slice aE k cE) xs rs ys es [] [] ∧ w.grownBy wr none
theorem OutQ.start {lo bm kk : Nat} {δ : Nat → Nat → Nat} {σ : Nat → Nat → List Int} {ε : Nat → List Int} {l x0 : Nat} {w W4 : World} {aS : Option Addr} (h : OfQ lo (w.heap.size + 1) bm l kk W4 (.slice aS 1 1) (.slice none 0 0) (.slice none 0 0) (.slice none 0 0) [x0] [] [] [] [] []) (g : w.grownBy W4 none) : OutQ lo bm kk δ σ ε l x0 w (.slice aS 1 1) (.int .i64 0) W4 :=
  ⟨0, [x0], aS, 1, none, 0, none, 0, none, 0, [], [], [], rfl, rfl, rfl, by simp, fun j hj => by omega, ⟨by simp [partR], rfl, rfl, rfl, by simp [partW], by simp [partW, wordsT], fun p hp => by simp at hp⟩, h, g⟩
/-- Two new rows. -/
def TwoQ (lo B bm l kk : Nat) (w : World) (vS vN vY vE : Value) (xs : List Nat) (rs : List (Value × List Int)) (ys : List (Value × List Trip)) (es : List Trip) (v13 v14 : Value) (wc : World) : Prop :=
  ∃ gr gy, v13 = .slice (some ⟨gr, 0, none⟩) l l ∧ v14 = .slice (some ⟨gy, 0, none⟩) l l ∧ OfQ lo B bm l kk wc vS vN vY vE xs rs ys es [(3, .slice (some ⟨gr, 0, none⟩) l l, vals (List.replicate l 0)), (22, .slice (some ⟨gy, 0, none⟩) l l, valsT (List.replicate l (none, 0, [])))] [] ∧ w.grownBy wc none
section
variable {lo B bm l kk : Nat} {w wr : World} {vS vN vY vE : Value} {xs : List Nat} {rs : List (Value × List Int)} {ys : List (Value × List Trip)} {es : List Trip}
theorem TwoQ.ab (h : OfQ lo B bm l kk wr vS vN vY vE xs rs ys es [] []) (g : w.grownBy wr none) (hl : l ≤ 4) : TwoQ lo B bm l kk w vS vN vY vE xs rs ys es (.slice (some ⟨wr.heap.size, 0, none⟩) l l) (.slice (some ⟨wr.heap.size + 1, 0, none⟩) l l) ((wr.alloc (.cells (Array.replicate l (Value.int .i64 0)) 3)).alloc (.cells (Array.replicate l (Value.slice none 0 0)) 22)).drew := by
  have h1 := h.made (arr := Array.replicate l (Value.int .i64 0)) (n := l) 3 (by simp) (by unfold maxLen; omega)
  have h2 := h1.made (arr := Array.replicate l (Value.slice none 0 0)) (n := l) 22 (by simp) (by unfold maxLen; omega)
  rw [zero_ints, zero_rows, World.size_alloc] at h2
  exact ⟨_, _, rfl, rfl, h2.swap.kept (grown_drew (grown_refl _ _)), grown_drew (grown_trans g (grown_trans (grown_alloc _ _) (grown_alloc _ _)))⟩
theorem TwoQ.ba (h : OfQ lo B bm l kk wr vS vN vY vE xs rs ys es [] []) (g : w.grownBy wr none) (hl : l ≤ 4) : TwoQ lo B bm l kk w vS vN vY vE xs rs ys es (.slice (some ⟨wr.heap.size + 1, 0, none⟩) l l) (.slice (some ⟨wr.heap.size, 0, none⟩) l l) ((wr.alloc (.cells (Array.replicate l (Value.slice none 0 0)) 22)).alloc (.cells (Array.replicate l (Value.int .i64 0)) 3)).drew := by
  have h1 := h.made (arr := Array.replicate l (Value.slice none 0 0)) (n := l) 22 (by simp) (by unfold maxLen; omega)
  have h2 := h1.made (arr := Array.replicate l (Value.int .i64 0)) (n := l) 3 (by simp) (by unfold maxLen; omega)
  rw [zero_ints, zero_rows, World.size_alloc] at h2
  exact ⟨_, _, rfl, rfl, h2.kept (grown_drew (grown_refl _ _)), grown_drew (grown_trans g (grown_trans (grown_alloc _ _) (grown_alloc _ _)))⟩
end

def InQ (lo bm kk : Nat) (δ : Nat → Nat → Nat) (σ : Nat → Nat → List Int) (l : Nat) (w : World) (vN vY vE : Value) (x : Nat) (xs : List Nat) (rs : List (Value × List Int)) (ys : List (Value × List Trip)) (es : List Trip) (gr gy : Nat) (v i : Value) (wq : World) : Prop :=
  ∃ (a : Nat) (zs : List Nat) (aS : Option Addr) (cS : Nat) (ps : List Trip), rowL id δ x a xs = zs ∧ v = .slice aS zs.length cS ∧ i = .int .i64 (a : Int) ∧ a ≤ l ∧ InT σ l x a ps ∧
    OfQ lo (w.heap.size + 1) bm l kk wq (.slice aS zs.length cS) vN vY vE zs rs ys es [(3, .slice (some ⟨gr, 0, none⟩) l l, vals (nxR δ l x a zs)), (22, .slice (some ⟨gy, 0, none⟩) l l, valsT ps)] ps ∧ w.grownBy wq none
theorem OfQ.empties {lo B bm l kk : Nat} {w : World} {vS vN vY vE : Value} {xs : List Nat} {rs : List (Value × List Int)} {ys : List (Value × List Trip)} {es : List Trip} {more : List Item} {mps : List Trip} (h : OfQ lo B bm l kk w vS vN vY vE xs rs ys es more []) (he : ∀ p, p ∈ mps → p.2.2 = []) : OfQ lo B bm l kk w vS vN vY vE xs rs ys es more mps :=
  ⟨h.res, h.box, h.num, h.own.st, ⟨h.own.own.own, fun p hp => by
    rcases List.mem_append.1 hp with h1 | h1
    · exact .inl (he p h1)
    · exact h.own.own.lie p (by simpa using h1), fun p hp hn => by
    rcases List.mem_append.1 hp with h1 | h1
    · exact absurd (he p h1) hn
    · exact h.own.own.apt p (by simpa using h1) hn⟩, h.own.ap, fun p hp hn => by
    rcases List.mem_append.1 hp with h1 | h1
    · exact absurd (he p h1) hn
    · exact h.own.aw p (by simpa using h1) hn⟩
theorem InQ.start {lo bm kk : Nat} {δ : Nat → Nat → Nat} {σ : Nat → Nat → List Int} {l : Nat} {w wc : World} {vN vY vE : Value} {x : Nat} {xs : List Nat} {rs : List (Value × List Int)} {ys : List (Value × List Trip)} {es : List Trip} {gr gy : Nat} {aS : Option Addr} {cS : Nat}
    (h : OfQ lo (w.heap.size + 1) bm l kk wc (.slice aS xs.length cS) vN vY vE xs rs ys es [(3, .slice (some ⟨gr, 0, none⟩) l l, vals (List.replicate l 0)), (22, .slice (some ⟨gy, 0, none⟩) l l, valsT (List.replicate l (none, 0, [])))] []) (g : w.grownBy wc none) : InQ lo bm kk δ σ l w vN vY vE x xs rs ys es gr gy (.slice aS xs.length cS) (.int .i64 0) wc := by
  refine ⟨0, xs, aS, cS, List.replicate l (none, 0, []), rfl, rfl, rfl, Nat.zero_le _, ⟨by simp, ?_⟩, ?_, g⟩
  · unfold wordsT
    rw [List.map_replicate]
    exact (List.eq_replicate_iff.2 ⟨by simp, by simp⟩).symm
  · have e : nxR δ l x 0 xs = List.replicate l 0 := by unfold nxR; rw [List.eq_replicate_iff]; simp
    rw [e]
    exact h.empties (fun p hp => by rw [(List.mem_replicate.1 hp).2])
section
variable {lo bm kk : Nat} {δ : Nat → Nat → Nat} {σ : Nat → Nat → List Int} {ε : Nat → List Int} {l x x0 a k : Nat} {w w6 : World} {vS vN vY vE : Value} {xs zs : List Nat} {rs : List (Value × List Int)} {ys : List (Value × List Trip)} {es ps : List Trip} {gr gy : Nat}
/-- Both rows are written into. -/
theorem two_putQ {av : Option Addr} {ks : Nat} {us : List Int} {W : World} (A : OfQ lo (w.heap.size + 1) bm l kk W vS vN vY vE zs rs ys es [(3, .slice (some ⟨gr, 0, none⟩) l l, vals (nxR δ l x a zs)), (22, .slice (some ⟨gy, 0, none⟩) l l, valsT ps)] ((av, ks, us) :: ps)) (G : w.grownBy W none) (hI : InT σ l x a ps) (hU : σ x a = us) (hal : a < l) :
    ((∃ u, W.cell? ⟨gr, a, none⟩ = some u) ∧ W.frozen? ⟨gr, a, none⟩ = false) ∧ ((∃ u, (W.setCell ⟨gr, a, none⟩ (.int .i64 ((ix id zs (δ x a) : Nat) : Int))).cell? ⟨gy, a, none⟩ = some u) ∧ (W.setCell ⟨gr, a, none⟩ (.int .i64 ((ix id zs (δ x a) : Nat) : Int))).frozen? ⟨gy, a, none⟩ = false) ∧
    (InT σ l x (a + 1) (ps.set a (av, ks, us)) ∧ OfQ lo (w.heap.size + 1) bm l kk ((W.setCell ⟨gr, a, none⟩ (.int .i64 ((ix id zs (δ x a) : Nat) : Int))).setCell ⟨gy, a, none⟩ (.slice av us.length ks)) vS vN vY vE zs rs ys es [(3, .slice (some ⟨gr, 0, none⟩) l l, vals (nxR δ l x (a + 1) zs)), (22, .slice (some ⟨gy, 0, none⟩) l l, valsT (ps.set a (av, ks, us)))] (ps.set a (av, ks, us))) ∧
    w.grownBy ((W.setCell ⟨gr, a, none⟩ (.int .i64 ((ix id zs (δ x a) : Nat) : Int))).setCell ⟨gy, a, none⟩ (.slice av us.length ks)) none := by
  obtain ⟨⟨u, hu, _⟩, hfz, A7, hB⟩ := A.write hal (.int .i64 ((ix id zs (δ x a) : Nat) : Int))
  obtain ⟨⟨u2, hu2, _⟩, hfz2, A8, hB2⟩ := A7.swap.write hal (.slice av us.length ks)
  refine ⟨⟨⟨u, hu⟩, hfz⟩, ⟨⟨u2, hu2⟩, hfz2⟩, ⟨hI.put hal hU.symm, ?_⟩, ?_⟩
  · have e1 : (vals (nxR δ l x a zs)).set a (.int .i64 ((ix id zs (δ x a) : Nat) : Int)) = vals (nxR δ l x (a + 1) zs) := by rw [vals_set, nxR_put hal]
    have e2 : (valsT ps).set a (.slice av us.length ks) = valsT (ps.set a (av, ks, us)) := by simp [valsT, List.map_set, valT]
    have h3 := A8.swap
    rw [e1, e2] at h3
    exact h3.sub (fun p hp => by
      rcases List.mem_or_eq_of_mem_set hp with h4 | h4
      · exact List.mem_cons_of_mem _ h4
      · rw [h4]; exact List.mem_cons_self)
  · exact grown_new (grown_new G (grown_set _ _ _) (by simp only; omega)) (grown_set _ _ _) (by simp only; omega)
theorem in_oldQ {av : Option Addr} {ks : Nat} {us : List Int} (A : OfQ lo (w.heap.size + 1) bm l kk w6 vS vN vY vE zs rs ys es [(3, .slice (some ⟨gr, 0, none⟩) l l, vals (nxR δ l x a zs)), (22, .slice (some ⟨gy, 0, none⟩) l l, valsT ps)] ((av, ks, us) :: ps)) (G : w.grownBy w6 none) (hy : rowL id δ x a xs = zs) (hI : InT σ l x a ps) (hU : σ x a = us) (hm : δ x a ∈ zs) (hal : a < l) :
    ((∃ u, w6.cell? ⟨gr, a, none⟩ = some u) ∧ w6.frozen? ⟨gr, a, none⟩ = false) ∧ ((∃ u, (w6.setCell ⟨gr, a, none⟩ (.int .i64 ((ix id zs (δ x a) : Nat) : Int))).cell? ⟨gy, a, none⟩ = some u) ∧ (w6.setCell ⟨gr, a, none⟩ (.int .i64 ((ix id zs (δ x a) : Nat) : Int))).frozen? ⟨gy, a, none⟩ = false) ∧
    (InT σ l x (a + 1) (ps.set a (av, ks, us)) ∧ OfQ lo (w.heap.size + 1) bm l kk ((w6.setCell ⟨gr, a, none⟩ (.int .i64 ((ix id zs (δ x a) : Nat) : Int))).setCell ⟨gy, a, none⟩ (.slice av us.length ks)) vS vN vY vE zs rs ys es [(3, .slice (some ⟨gr, 0, none⟩) l l, vals (nxR δ l x (a + 1) zs)), (22, .slice (some ⟨gy, 0, none⟩) l l, valsT (ps.set a (av, ks, us)))] (ps.set a (av, ks, us))) ∧
    w.grownBy ((w6.setCell ⟨gr, a, none⟩ (.int .i64 ((ix id zs (δ x a) : Nat) : Int))).setCell ⟨gy, a, none⟩ (.slice av us.length ks)) none ∧ rowL id δ x (a + 1) xs = zs := by
  obtain ⟨h1, h2, h3, h4⟩ := two_putQ A G hI hU hal
  refine ⟨h1, h2, h3, h4, ?_⟩
  simp only [rowL]
  rw [hy]
  exact ins_old ⟨_, hm, rfl⟩
theorem in_newQ {av : Option Addr} {ks : Nat} {us : List Int} {W7 : World} (A : OfQ lo (w.heap.size + 1) bm l kk w6 vS vN vY vE zs rs ys es [(3, .slice (some ⟨gr, 0, none⟩) l l, vals (nxR δ l x a zs)), (22, .slice (some ⟨gy, 0, none⟩) l l, valsT ps)] ((av, ks, us) :: ps)) (G : w.grownBy w6 none) (hy : rowL id δ x a xs = zs) (hI : InT σ l x a ps) (hU : σ x a = us) (hm : ¬ δ x a ∈ zs) (hal : a < l) (hb : zs.length ≤ 3000) (hN7 : NumQ W7 (w.heap.size + 1) bm kk (zs ++ [δ x a])) (hg7 : w6.grownBy W7 (some bm)) :
    ∃ g cap W8, (AppY #[80, 80] 80 #[vS, .slice (some ⟨W7.heap.size, 0, none⟩) 1 1]).run Try.prog (W7.alloc (.cells #[.int .i64 ((pxx kk (δ x a) : Nat) : Int), .int .i64 ((pyy kk (δ x a) : Nat) : Int)] 56)) = .ok (.slice (some ⟨g, 0, none⟩) (zs.length + 1) cap) W8 ∧
    ((∃ u, W8.cell? ⟨gr, a, none⟩ = some u) ∧ W8.frozen? ⟨gr, a, none⟩ = false) ∧ ((∃ u, (W8.setCell ⟨gr, a, none⟩ (.int .i64 (zs.length : Int))).cell? ⟨gy, a, none⟩ = some u) ∧ (W8.setCell ⟨gr, a, none⟩ (.int .i64 (zs.length : Int))).frozen? ⟨gy, a, none⟩ = false) ∧
    (InT σ l x (a + 1) (ps.set a (av, ks, us)) ∧ OfQ lo (w.heap.size + 1) bm l kk ((W8.setCell ⟨gr, a, none⟩ (.int .i64 (zs.length : Int))).setCell ⟨gy, a, none⟩ (.slice av us.length ks)) (.slice (some ⟨g, 0, none⟩) (zs.length + 1) cap) vN vY vE (zs ++ [δ x a]) rs ys es [(3, .slice (some ⟨gr, 0, none⟩) l l, vals (nxR δ l x (a + 1) (zs ++ [δ x a]))), (22, .slice (some ⟨gy, 0, none⟩) l l, valsT (ps.set a (av, ks, us)))] (ps.set a (av, ks, us))) ∧
    w.grownBy ((W8.setCell ⟨gr, a, none⟩ (.int .i64 (zs.length : Int))).setCell ⟨gy, a, none⟩ (.slice av us.length ks)) none ∧ rowL id δ x (a + 1) xs = zs ++ [δ x a] := by
  obtain ⟨g, cap, W8, hr, A8, G8⟩ := A.appS hN7 hg7 hb (Nat.le_succ _) G
  have hk : ¬ hasK id zs (δ x a) := fun ⟨r, hr, e⟩ => hm (by have e2 : r = δ x a := e; rw [← e2]; exact hr)
  have e1 : nxR δ l x a zs = nxR δ l x a (zs ++ [δ x a]) := by
    unfold nxR
    refine List.map_congr_left fun b _ => ?_
    by_cases hb' : b < a
    · rw [if_pos hb', if_pos hb', ix_append (hy ▸ rowL_has id δ x xs hb')]
    · rw [if_neg hb', if_neg hb']
  rw [e1] at A8
  obtain ⟨h1, h2, h3, h4⟩ := two_putQ A8 G8 hI hU hal
  rw [ix_last hk] at h2 h3 h4
  refine ⟨g, cap, W8, hr, h1, h2, h3, h4, ?_⟩
  simp only [rowL]
  rw [hy]
  exact ins_new hk
/-- A round ends. -/
theorem end_roundQ {W11 : World} {gS cS g1 c1 g2 c2 : Nat} {aE : Option Addr} {cE : Nat} (A : OfQ lo (w.heap.size + 1) bm l kk W11 (.slice (some ⟨gS, 0, none⟩) zs.length cS) (.slice (some ⟨g1, 0, none⟩) (k + 1) c1) (.slice (some ⟨g2, 0, none⟩) (k + 1) c2) (.slice aE k cE) zs (rs ++ [(.slice (some ⟨gr, 0, none⟩) l l, nxR δ l x a zs)]) (ys ++ [(.slice (some ⟨gy, 0, none⟩) l l, ps)]) es [] []) (G : w.grownBy W11 none)
    (hO : OutT δ σ ε l x0 k rs ys es) (hI : InT σ l x a ps) (hx : bfsL id δ l x0 k = xs) (hX : xs.getD k 0 = x) (hy : bfsL id δ l x0 (k + 1) = zs) (hgo : ∀ j, j < k → j < (bfsL id δ l x0 j).length) (hal : a = l) (hlt : k < xs.length) (hkb : k ≤ 1000) (hky : k < zs.length) (hgx : zs.getD k 0 = x) :
    Hid (∀ w12 a12 k12, W11.drew.grownBy w12 none → Ints w12 a12 (ε x) → (ε x ≠ [] → ∀ y, a12 = some y → y.block < min lo w.heap.size ∨ W11.drew.heap.size ≤ y.block) → (ε x).length ≤ k12 → w12.cell? ⟨w.heap.size + 1 + 1, 6, none⟩ = some (.slice aE k cE) ∧ ∃ g4 c4 w13, (AppY #[23, 23] 23 #[.slice aE k cE, .slice (some ⟨w12.heap.size, 0, none⟩) 1 1]).run Try.prog (w12.alloc (.cells #[.slice a12 (ε x).length k12] 22)) = .ok (.slice (some ⟨g4, 0, none⟩) (k + 1) c4) w13 ∧
      w13.cell? ⟨w.heap.size + 1 + 1, 6, none⟩ = some (.slice aE k cE) ∧ w13.frozen? ⟨w.heap.size + 1 + 1, 6, none⟩ = false ∧ Hid (SOfQ kk gS k x w13) ∧ Hid (SOfQ kk gS k x (w13.setCell ⟨w.heap.size + 1 + 1, 6, none⟩ (.slice (some ⟨g4, 0, none⟩) (k + 1) c4))) ∧ Hid (OutQ lo bm kk δ σ ε l x0 w (.slice (some ⟨gS, 0, none⟩) zs.length cS) (.int .i64 ((k : Int) + 1)) (w13.setCell ⟨w.heap.size + 1 + 1, 6, none⟩ (.slice (some ⟨g4, 0, none⟩) (k + 1) c4)))) := by
  intro w12 a12 k12 hg hi hn hc
  have A12 := (A.kept (grown_drew (grown_refl W11 none))).word hg hi (fun hne y hy => (hn hne y hy).imp (fun h => by omega) id) k12
  have hkn : k ≤ es.length := by rw [hO.el]; exact Nat.le_refl _
  have G12 : w.grownBy w12 none := grown_trans (grown_drew G) hg
  have hE := hO.el
  have hbig : es.length ≤ 1000 := by omega
  · obtain ⟨g4, c4, w13, hr, ⟨hc13, hf13⟩, A13, G13⟩ := A12.appE hbig (Nat.le_succ _) G12
    rw [hE] at hr A13 G13
    have hS9 : SOfQ kk gS k x (w13.setCell ⟨w.heap.size + 1 + 1, 6, none⟩ (.slice (some ⟨g4, 0, none⟩) (k + 1) c4)) := by
      obtain ⟨gS', cS', eS, hc1, hc2, _⟩ := A13.state hky
      simp only [Value.slice.injEq, Option.some.injEq, Addr.mk.injEq] at eS
      obtain ⟨⟨rfl, _⟩, _⟩ := eS
      rw [hgx] at hc1 hc2
      exact ⟨hc1, hc2⟩
    have hgS : w.heap.size + 1 + 2 ≤ gS ∧ gS < w13.heap.size := by
      obtain ⟨gS', cS', eS, _, _, h1, h2⟩ := A13.state hky
      simp only [Value.slice.injEq, Option.some.injEq, Addr.mk.injEq] at eS
      obtain ⟨⟨rfl, _⟩, _⟩ := eS
      exact ⟨h1, by simpa using h2⟩
    have hS8 : SOfQ kk gS k x w13 := by
      unfold SOfQ at hS9 ⊢
      have e10 := (grown_set w13 ⟨w.heap.size + 1 + 1, 6, none⟩ (.slice (some ⟨g4, 0, none⟩) (k + 1) c4)).block gS hgS.2 (by simp; omega)
      simp only [World.cell?] at hS9 ⊢
      simpa [e10] using hS9
    refine ⟨A12.cells.2.2.2.2.2.2.1, g4, c4, w13, hr, hc13, hf13, hS8, hS9, ?_⟩
    have hgo2 : ∀ j, j < k + 1 → j < (bfsL id δ l x0 j).length := fun j hj => by
      by_cases e : j = k
      · subst e; rw [hx]; exact hlt
      · exact hgo j (by omega)
    refine ⟨k + 1, zs, some ⟨gS, 0, none⟩, cS, some ⟨g1, 0, none⟩, c1, some ⟨g2, 0, none⟩, c2, some ⟨g4, 0, none⟩, c4, _, _, _, hy, rfl, by simp, by omega, hgo2, ?_, A13, G13⟩
    have hxk : (bfsL id δ l x0 k).getD k 0 = x := by rw [hx]; exact hX
    refine ⟨?_, by simp [hO.rl], by simp [hO.yl], by simp [hO.el], ?_, ?_, fun p hp => ?_⟩
    · rw [partR_step (fun j hj => hgo2 j (by omega)), List.map_append, hO.rR, hy, hxk]
      refine congrArg _ ?_
      show [nxR δ l x a zs] = _
      have : nxR δ l x a zs = rowR id δ l zs x := by
        unfold nxR rowR
        refine List.map_congr_left fun b hb => ?_
        rw [if_pos (by have := List.mem_range.1 hb; omega)]
      rw [this]
    · rw [partW_step _ (hgo2 k (by omega)), List.map_append, hO.yW, hxk]
      refine congrArg _ ?_
      show [wordsT ps] = _
      have : wordsT ps = (List.range l).map (σ x) := by
        rw [hI.wds]
        refine List.map_congr_left fun b hb => ?_
        rw [if_pos (by have := List.mem_range.1 hb; omega)]
      rw [this]
    · rw [partW_step _ (hgo2 k (by omega)), hxk, ← hO.eW]
      simp [wordsT]
    · rcases List.mem_append.1 hp with h1 | h1
      · exact hO.cap p h1
      · rw [List.mem_singleton.1 h1]; exact hc
/-- All is done. -/
theorem end_allQ {wr W9 : World} {aS : Option Addr} {cS n : Nat} {aN aY aE : Option Addr} {cN cY cE : Nat} (A : OfQ lo (w.heap.size + 1) bm l kk wr (.slice aS xs.length cS) (.slice aN k cN) (.slice aY k cY) (.slice aE k cE) xs rs ys es [] []) (G : w.grownBy wr none) (hO : OutT δ σ ε l x0 k rs ys es) (hEnd : IsEnd (bfsL id δ l x0) k) (hx : bfsL id δ l x0 k = xs) (hkn : k ≤ n)
    (hσ : ∀ s a, s < n → a < l → (σ s a).length ≤ 1000) (hε : ∀ s, s < n → (ε s).length ≤ 1000) (hlt : ∀ y, y ∈ bfsL id δ l x0 k → y < n) (g9 : wr.grownBy W9 (some (w.heap.size + 1))) : OfTP lo l x0 n δ σ ε w (.returned (tnV (l : Int) 0 0 none 0 0 aN k cN aY k cY aE k cE)) W9 := by
  have hb := (own_first A.own.own).below g9 (by omega) (by omega) (by omega)
  have eN : rs.map (·.2) = resR id δ l (bfsL id δ l x0 k) := by rw [hO.rR, partR_end hEnd]
  have eY : ys.map (fun p => wordsT p.2) = (bfsL id δ l x0 k).map fun x => (List.range l).map (σ x) := by rw [hO.yW, partW_end _ hEnd]
  have eE : wordsT es = (bfsL id δ l x0 k).map ε := by rw [hO.eW, partW_end _ hEnd]
  have hw : ∀ p, p ∈ es ++ ys.flatMap (·.2) → p.2.2.length ≤ maxLen := (fun p hp => by
    have : p.2.2.length ≤ 1000 := by
      rcases List.mem_append.1 hp with h3 | h3
      · have h4 : p.2.2 ∈ wordsT es := List.mem_map.2 ⟨p, h3, rfl⟩
        rw [eE] at h4
        obtain ⟨y, hy, e⟩ := List.mem_map.1 h4
        rw [← e]
        exact hε y (hlt y hy)
      · obtain ⟨q, hq, hpq⟩ := List.mem_flatMap.1 h3
        have h4 : wordsT q.2 ∈ ys.map (fun p => wordsT p.2) := List.mem_map.2 ⟨q, hq, rfl⟩
        rw [eY] at h4
        obtain ⟨y, hy, e⟩ := List.mem_map.1 h4
        have h5 : p.2.2 ∈ wordsT q.2 := List.mem_map.2 ⟨p, hpq, rfl⟩
        rw [← e] at h5
        obtain ⟨a, ha, e2⟩ := List.mem_map.1 h5
        rw [← e2]
        exact hσ y a (hlt y hy) (List.mem_range.1 ha)
    unfold maxLen; omega)
  obtain ⟨h1, h2⟩ := ownsP_out (l : Int) 0 0 hb eN eY eE hw
  exact ⟨k, aN, aY, aE, cN, cY, cE, es, hEnd, hkn, rfl, h1, grown_new G g9 (Nat.le_succ _), h2, eE, hO.cap, _, hb, fun W h => ownsP_out (l : Int) 0 0 h eN eY eE hw, fun W W' b h h3 h4 h5 => h.below h5 (by omega) (by omega) (by omega), fun W W' h g => h.kept g⟩
end

end Go.Proofs.Ytodcmlcpicabaaa
