/- The reference's Least. -/
/- Whether two automata are the same, number by number, as the reference tells it. -/
import Derived.Test.YtcgkflddipflbaaHLs
import Derived.Test.YtcgkflddipflbaaRCs
import Derived.Test.YtcgkflddipflbaaTls
import Derived.Test.YtcgkflddipflbaaJoins
namespace Go.Proofs.Ytcgkflddipflbaa
open Go.RowKit
set_option linter.unusedVariables false
attribute [local go_sem ↓] app_fold

/-- One number is put behind. -/
theorem push_int {B H : Nat} {w : World} {its : List Item} {aF : Option Addr} {cF nF : Nat} {F : List Int} (h : Owns B w ((3, .slice aF nF cF, vals F) :: its)) (hB : B ≤ w.heap.size) (hH : w.heap.size = H) (hl : F.length ≤ 100000000) (x : Int) :
    ∃ g cap w', (AppS #[23, 23] 23 #[.slice aF nF cF, .slice (some ⟨H, 0, none⟩) 1 1]).run Try.prog (w.alloc (.cells #[.int .i64 x] 3)) = .ok (.slice (some ⟨g, 0, none⟩) (nF + 1) cap) w' ∧
      Owns B w' ((3, .slice (some ⟨g, 0, none⟩) (nF + 1) cap, vals (F ++ [x])) :: its) ∧ Keeps B w w' := by
  have hn := h.len
  rw [vals_len] at hn
  subst hn hH
  obtain ⟨i0, hio, hz0, hz1, hz2⟩ := info_parts Try.info3i
  have h' := h.kept (grown_alloc w (.cells #[.int .i64 x] 3))
  have hr := h'.row
  rw [vals_len] at hr
  obtain ⟨g', cap, w5, hrun, ho5, hg5, hat5, hlt5⟩ := run_append_lies (P := Try.prog) (w.alloc (.cells #[.int .i64 x] 3)) 23 23 B 3 i0 (.int .i64 0) 1 8 Try.underlying23 hio hz0 hz1 hz2 rfl (by decide) (.slice aF F.length cF) F.length (vals F) hr ⟨w.heap.size, 0, none⟩ 1 1 [.int .i64 x] rfl (cell_one_new _ _ _) (by intro u hu; simp at hu; subst hu; rfl) (by omega) (by unfold maxLen; omega) (by omega) (by simp; omega) _ rfl
  refine ⟨g', cap, w5, hrun, ?_, ((Keeps.refl B w).alloc _).trans (Keeps.first h' hg5)⟩
  have h2 := h'.append ho5 (by simp) hg5 hat5 rfl
  rw [vals_snoc] at h2
  exact h2
/-- One row is put behind. -/
theorem push_row {B H : Nat} {w : World} {its : List Item} {aF : Option Addr} {cF nF : Nat} {F : List Value} (h : Owns B w ((23, .slice aF nF cF, F) :: its)) (hB : B ≤ w.heap.size) (hH : w.heap.size = H) (hl : F.length ≤ 100000000) (a1 : Option Addr) (n1 c1 : Nat) :
    ∃ g cap w', (AppS #[34, 34] 34 #[.slice aF nF cF, .slice (some ⟨H, 0, none⟩) 1 1]).run Try.prog (w.alloc (.cells #[.slice a1 n1 c1] 23)) = .ok (.slice (some ⟨g, 0, none⟩) (nF + 1) cap) w' ∧
      Owns B w' ((23, .slice (some ⟨g, 0, none⟩) (nF + 1) cap, F ++ [.slice a1 n1 c1]) :: its) ∧ Keeps B w w' := by
  have hn := h.len
  subst hn hH
  obtain ⟨i0, hio, hz0, hz1, hz2⟩ := info_parts Try.infoS
  have h' := h.kept (grown_alloc w (.cells #[.slice a1 n1 c1] 23))
  have hr := h'.row
  obtain ⟨g', cap, w5, hrun, ho5, hg5, hat5, hlt5⟩ := run_append_lies (P := Try.prog) (w.alloc (.cells #[.slice a1 n1 c1] 23)) 34 34 B 23 i0 (.slice none 0 0) 1 24 Try.underlying34 hio hz0 hz1 hz2 rfl (by decide) (.slice aF F.length cF) F.length F hr ⟨w.heap.size, 0, none⟩ 1 1 [.slice a1 n1 c1] rfl (cell_one_new _ _ _) (by intro u hu; simp at hu; subst hu; rfl) (by omega) (by unfold maxLen; omega) (by omega) (by simp; omega) _ rfl
  exact ⟨g', cap, w5, hrun, h'.append ho5 (by simp) hg5 hat5 rfl, ((Keeps.refl B w).alloc _).trans (Keeps.first h' hg5)⟩

set_option maxHeartbeats 1600000 in
set_option maxRecDepth 100000 in
theorem leastR_any (L S : Int) (R : List (List Int)) (M : List Int) (a a' : Option Addr) (c c' : Nat) (w : World) (h : DetAt w ⟨L, S, R, M⟩ a a') (hG : Good ⟨L, S, R, M⟩) :
    Calls Try.prog 8 #[.agg #[.int .i64 L, .int .i64 S, .slice a R.length c, .slice a' M.length c']] w (LeastPost (Dfa.nx ⟨L, S, R, M⟩) (Dfa.mk1 ⟨L, S, R, M⟩) R.length L.toNat S.toNat w) := by
  have hn1 : 1 ≤ R.length := hG.n1
  have hn3 : R.length ≤ 3000 := hG.n3
  have hL4 : 1 ≤ L ∧ L ≤ 4 := ⟨hG.l1, hG.l4⟩
  have hS2 : 0 ≤ S ∧ S < (R.length : Int) := hG.s
  have HML : Hid (M.length = R.length) := hG.ml
  obtain ⟨l, hl⟩ : ∃ l : Nat, L = l := ⟨L.toNat, by omega⟩
  obtain ⟨st, hst⟩ : ∃ st : Nat, S = st := ⟨S.toNat, by omega⟩
  subst hl hst
  simp only [Int.toNat_natCast]
  have H : Hid (DetAt w ⟨l, st, R, M⟩ a a') := h
  have GD : Hid (Good ⟨l, st, R, M⟩) := hG
  have HC : Hid (∀ W, w.grownBy W none → Calls Try.prog 23 #[.agg #[.int .i64 l, .int .i64 st, .slice a R.length c, .slice a' M.length c']] W (ClassesPost (Dfa.nx ⟨l, st, R, M⟩) (Dfa.mk1 ⟨l, st, R, M⟩) R.length l W)) := fun W hW => by
    have := classesR_any l st R M a a' c c' W (h.grown hW) hG
    simpa using this
  obtain ⟨δ, hδ⟩ : ∃ δ, Dfa.nx ⟨l, st, R, M⟩ = δ := ⟨_, rfl⟩
  obtain ⟨mk, hmk⟩ : ∃ mk, Dfa.mk1 ⟨l, st, R, M⟩ = mk := ⟨_, rfl⟩
  obtain ⟨n, hnR⟩ : ∃ n, R.length = n := ⟨_, rfl⟩
  have HDl : Hid (Dfa.nx ⟨l, st, R, M⟩ = δ) := hδ
  have HMk : Hid (Dfa.mk1 ⟨l, st, R, M⟩ = mk) := hmk
  have HRn : Hid (R.length = n) := hnR
  have HD : Hid (∀ s b, s < n → b < l → δ s b < n) := fun s b hs hb => by
    have := hG.nx_lt (s := s) (a := b) (by rw [HRn.out]; exact hs) (by simp; exact hb)
    rwa [HRn.out, HDl.out] at this
  have hsn : st < n := by omega
  have hn3' : n ≤ 3000 := by omega
  obtain ⟨W1, hW1⟩ : ∃ W1, W1 = (w.alloc (.cells #[.int .i64 l, .int .i64 st, .slice a R.length c, .slice a' M.length c'] 36)).alloc (.cells #[.int .i64 0, .int .i64 0, .slice none 0 0, .slice none 0 0] 36) := ⟨_, rfl⟩
  have HS1 : Hid (W1.heap.size = w.heap.size + 1 + 1) := by show _ = _; rw [hW1]; simp
  have Box : Hid (∀ W, W1.grownBy W none → w.grownBy W none ∧ W.cell? ⟨w.heap.size, 0, none⟩ = some (.int .i64 l) ∧ W.cell? ⟨w.heap.size, 1, none⟩ = some (.int .i64 st) ∧ W.cell? ⟨w.heap.size, 2, none⟩ = some (.slice a R.length c) ∧ W.cell? ⟨w.heap.size, 3, none⟩ = some (.slice a' M.length c')) := fun W hW => by
    have h1 : (w.alloc (.cells #[.int .i64 l, .int .i64 st, .slice a R.length c, .slice a' M.length c'] 36)).grownBy W none := grown_trans (grown_alloc _ _) (hW1 ▸ hW)
    exact ⟨grown_trans (grown_alloc _ _) h1, box4 (w := w) h1⟩
  have HZ1 : Hid (∀ W, W1.grownBy W none → W.heap[w.heap.size + 1]? = some (.cells #[.int .i64 0, .int .i64 0, .slice none 0 0, .slice none 0 0] 36 (0, 0))) := fun W hW => by
    have h1 := heap_alloc_new (w.alloc (.cells #[.int .i64 l, .int .i64 st, .slice a R.length c, .slice a' M.length c'] 36)) (.cells #[.int .i64 0, .int .i64 0, .slice none 0 0, .slice none 0 0] 36)
    rw [World.size_alloc, ← hW1] at h1
    exact (hW.block _ (by rw [HS1.out]; omega) (by simp)).trans h1
  have HC1 : Hid (Calls Try.prog 23 #[.agg #[.int .i64 l, .int .i64 st, .slice a R.length c, .slice a' M.length c']] W1 (ClassesPost δ mk n l W1)) := by
    have h1 := HC.out W1 (Box.out W1 (grown_refl _ _)).1
    rw [HDl.out, HMk.out, HRn.out] at h1
    rw [HRn.out]; exact h1
  have x0 := (Box.out W1 (grown_refl _ _)).2.1
  clear h hG hδ hmk hnR HC
  go_enter Try.func8, Try.ntmps8
  go_wp2_with fail
  rw [← hW1]
  clear hW1 x0
  refine HC1.out.mono ?_
  rintro E w2 ⟨aC, cC, g, rfl, ho2, hner, hgn, hg2⟩
  rw [HS1.out] at ho2
  have HNer : Hid (∀ p q, p < n → q < n → (g p = g q ↔ Ner δ mk l p q)) := hner
  have HGn : Hid (∀ s, s < n → g s < n) := hgn
  have G2 : Hid (W1.grownBy w2 none) := hg2
  obtain ⟨gC, haC⟩ := ho2.formM List.mem_cons_self (by rw [fvals_len]; omega)
  subst haC
  have hmk1 := make_ints w2 n (by omega)
  obtain ⟨w3, hw3⟩ : ∃ w3, w3 = w2.alloc (.cells (Array.replicate n (Value.int .i64 0)) 3) := ⟨_, rfl⟩
  have O3 : Hid (Owns (w.heap.size + 1 + 1) w3 [(3, .slice (some ⟨w2.heap.size, 0, none⟩) n n, ivals n fun j => if j < 0 then -1 else 0), (3, .slice (some ⟨gC, 0, none⟩) n cC, fvals n g)]) := by
    have h1 := ho2.made (arr := Array.replicate n (Value.int .i64 0)) (n := n) (by have := hg2.size; rw [HS1.out] at this; exact this) 3 (by simp) (by unfold maxLen; omega)
    rw [← hw3] at h1
    have e : (Array.replicate n (Value.int .i64 0)).toList = ivals n fun j => if j < 0 then -1 else 0 := by
      apply List.ext_getElem (by simp [ivals])
      intro i h1 h2
      simp [ivals]
    rw [e] at h1
    exact h1
  have G3 : Hid (W1.grownBy w3 none) := by rw [hw3]; exact grown_trans hg2 (grown_alloc _ _)
  rw [← hw3] at hmk1
  clear ho2 hner hgn hg2 HC1 hw3
  go_wp2_with fail
  clear hmk1
  generalize w2.heap.size = gN at *
  go_loopw [5] (fun v5 wr => ∃ (i : Nat), v5 = .int .i64 i ∧ i ≤ n ∧ Owns (w.heap.size + 1 + 1) wr [(3, .slice (some ⟨gN, 0, none⟩) n n, ivals n fun j => if j < i then -1 else 0), (3, .slice (some ⟨gC, 0, none⟩) n cC, fvals n g)] ∧ W1.grownBy wr none) (fun v5 _ => n - (intOf v5).toNat)
  case atStart => exact ⟨0, rfl, by omega, O3.out, G3.out⟩
  case round =>
    clear O3 G3
    obtain ⟨i, rfl, hi, ho, hg⟩ := hrel
    have O : Hid (Owns (w.heap.size + 1 + 1) wr [(3, .slice (some ⟨gN, 0, none⟩) n n, ivals n fun j => if j < i then -1 else 0), (3, .slice (some ⟨gC, 0, none⟩) n cC, fvals n g)]) := ho
    have G : Hid (W1.grownBy wr none) := hg
    have HB : Hid (w.heap.size + 1 + 1 ≤ gN) := ho.ge.1
    clear ho hg
    by_cases hlt : i < n
    · have hii : (i : Int) < (n : Int) := by omega
      have xc := O.out.cell (ivals_get (f := fun j => if j < i then -1 else 0) hlt)
      have xf := O.out.fz i
      have O1 : Hid (Owns (w.heap.size + 1 + 1) (wr.setCell ⟨gN, i, none⟩ (.int .i64 (-1))) [(3, .slice (some ⟨gN, 0, none⟩) n n, ivals n fun j => if j < i + 1 then -1 else 0), (3, .slice (some ⟨gC, 0, none⟩) n cC, fvals n g)]) := by
        have h1 := O.out.set hlt (.int .i64 (-1))
        rw [ivals_set (g := fun j => if j < i + 1 then -1 else 0) hlt (by simp) (fun j _ hj => by
          by_cases e : j < i
          · rw [if_pos e, if_pos (by omega)]
          · rw [if_neg e, if_neg (by omega)])] at h1
        exact h1
      have G1 : Hid (W1.grownBy (wr.setCell ⟨gN, i, none⟩ (.int .i64 (-1))) none) := grown_new G.out (grown_set _ _ _) (by rw [HS1.out]; exact HB.out)
      simp only [Nat.lt_irrefl, if_false] at xc
      go_wp2_with fail
      go_roundw
      case rel => exact ⟨i + 1, by go_num, by omega, O1.out, G1.out⟩
      case measure => simp [intOf]; omega
    · have hii : ¬ (i : Int) < (n : Int) := by omega
      have hin : n = i := by omega
      subst hin
      have hgs : g st < n := HGn.out st hsn
      have y1 := (Box.out wr G.out).2.2.1
      have xg := (own_2 O.out).cell (fvals_get (f := g) hsn)
      have xc := O.out.cell (ivals_get (f := fun j => if j < n then (-1 : Int) else 0) hgs)
      have xf := O.out.fz (g st)
      rw [if_pos hgs] at xc
      have O1 : Hid (Owns (w.heap.size + 1 + 1) (wr.setCell ⟨gN, g st, none⟩ (.int .i64 0)) [(3, .slice (some ⟨gN, 0, none⟩) n n, ivals n (numC g [st])), (3, .slice (some ⟨gC, 0, none⟩) n cC, fvals n g)]) := by
        have h1 := O.out.set hgs (.int .i64 0)
        rw [ivals_set (g := numC g [st]) hgs (by simp [numC, List.findIdx?_cons]) (fun j hj hne => by
          simp only [numC, List.findIdx?_cons, List.findIdx?_nil]
          have : (g st == j) = false := by simp; exact Ne.symm hne
          simp [this, hj])] at h1
        exact h1
      have G1 : Hid (W1.grownBy (wr.setCell ⟨gN, g st, none⟩ (.int .i64 0)) none) := grown_new G.out (grown_set _ _ _) (by rw [HS1.out]; exact HB.out)
      have hgi : ((g st : Nat) : Int) < (n : Int) := by omega
      have hsi : (st : Int) < (n : Int) := by omega
      have y1' := (Box.out _ G1.out).2.2.1
      have y0' := (Box.out _ G1.out).2.1
      have y0'' := fun ob => (Box.out _ (grown_trans G1.out (grown_alloc _ ob))).2.1
      obtain ⟨W4, hW4⟩ : ∃ W4, W4 = ((wr.setCell ⟨gN, g st, none⟩ (.int .i64 0)).alloc (.cells #[.int .i64 (st : Int)] 3)).alloc (.cells #[.int .i64 (l : Int), .int .i64 0, .slice none 0 0, .slice none 0 0] 36) := ⟨_, rfl⟩
      have hszw := G1.out.size
      rw [HS1.out, size_set] at hszw
      have O4 : Hid (Owns (w.heap.size + 1 + 1) W4 ((36, .slice (some ⟨wr.heap.size + 1, 0, none⟩) 4 4, [.int .i64 (l : Int), .int .i64 0, .slice none 0 0, .slice none 0 0]) :: (3, .slice (some ⟨wr.heap.size, 0, none⟩) 1 1, vals (natInts [st])) :: (23, .slice none 0 0, []) :: (3, .slice none 0 0, []) :: (3, .slice (some ⟨gN, 0, none⟩) n n, ivals n (numC g [st])) :: (3, .slice (some ⟨gC, 0, none⟩) n cC, fvals n g) :: [])) := by
        have h1 := O1.out.made (arr := #[.int .i64 (st : Int)]) (n := 1) (by rw [size_set]; exact hszw) 3 rfl (by unfold maxLen; omega)
        have h2 := h1.made (arr := #[.int .i64 (l : Int), .int .i64 0, .slice none 0 0, .slice none 0 0]) (n := 4) (by rw [World.size_alloc, size_set]; omega) 36 rfl (by unfold maxLen; omega)
        rw [← hW4, World.size_alloc, size_set] at h2
        exact to_3 ((to_3 (h2.empty 3)).empty 23)
      have G4 : Hid (W1.grownBy W4 none) := by rw [hW4]; exact grown_trans (grown_trans G1.out (grown_alloc _ _)) (grown_alloc _ _)
      clear O G O1
      go_wp2_with fail
      rw [← hW4]
      clear hW4 xc xg xf y1 y1' y0' y0'' G1
      generalize hbo : wr.heap.size + 1 = bo at *
      generalize wr.heap.size = gS at *
      clear hbo
      go_loopw [6, 8] (fun v6 v8 wr => ∃ (k : Nat) (xs : List Nat) (aS : Option Addr) (cS : Nat) (aR : Option Addr) (cR : Nat) (aM : Option Addr) (cM : Nat) (rs : List (Value × List Int)), bfsL g δ l st k = xs ∧ v6 = .slice aS xs.length cS ∧ v8 = .int .i64 k ∧ k ≤ xs.length ∧ (∀ j, j < k → j < (bfsL g δ l st j).length) ∧ rs.map (·.2) = partR g δ l st k ∧ rs.length = k ∧
        Owns (w.heap.size + 1 + 1) wr ((36, .slice (some ⟨bo, 0, none⟩) 4 4, [.int .i64 (l : Int), .int .i64 0, .slice aR k cR, .slice aM k cM]) :: (3, .slice aS xs.length cS, vals (natInts xs)) :: (23, .slice aR k cR, rs.map (·.1)) :: (3, .slice aM k cM, vals (partM g δ mk l st k)) :: (3, .slice (some ⟨gN, 0, none⟩) n n, ivals n (numC g xs)) :: (3, .slice (some ⟨gC, 0, none⟩) n cC, fvals n g) :: ([] ++ rowItems rs)) ∧ W1.grownBy wr none) (fun _ v8 _ => n - (intOf v8).toNat)
      case atStart => exact ⟨0, [st], _, _, none, 0, none, 0, [], rfl, rfl, rfl, by simp, fun j hj => by omega, by simp [partR], rfl, by simpa [partM] using O4.out, G4.out⟩
      case round =>
        clear O4 G4
        obtain ⟨k, xs, aS, cS, aR, cR, aM, cM, rs, hxs, rfl, rfl, hk, hgo, hrs, hrl, ho, hg⟩ := hrel
        have O : Hid (Owns (w.heap.size + 1 + 1) wr ((36, .slice (some ⟨bo, 0, none⟩) 4 4, [.int .i64 (l : Int), .int .i64 0, .slice aR k cR, .slice aM k cM]) :: (3, .slice aS xs.length cS, vals (natInts xs)) :: (23, .slice aR k cR, rs.map (·.1)) :: (3, .slice aM k cM, vals (partM g δ mk l st k)) :: (3, .slice (some ⟨gN, 0, none⟩) n n, ivals n (numC g xs)) :: (3, .slice (some ⟨gC, 0, none⟩) n cC, fvals n g) :: ([] ++ rowItems rs))) := ho
        have G : Hid (W1.grownBy wr none) := hg
        have hnd : xs.length ≤ n := by
          have h1 := bfsL_nodup g δ l st k
          rw [hxs] at h1
          have h2 := nodup_le n _ h1 (fun y hy => by
            obtain ⟨z, hz, rfl⟩ := List.mem_map.1 hy
            exact HGn.out z (bfsL_lt g HD.out hsn k z (by rw [hxs]; exact hz)))
          simpa using h2
        have HXS : Hid (bfsL g δ l st k = xs) := hxs
        have HGo : Hid (∀ j, j < k → j < (bfsL g δ l st j).length) := hgo
        have HRS : Hid (rs.map (·.2) = partR g δ l st k) := hrs
        have HRL : Hid (rs.length = k) := hrl
        clear hxs hgo hrs hrl ho hg
        obtain ⟨_, y0, y1, y2, y3⟩ := Box.out wr G.out
        by_cases hlt : k < xs.length
        · have hki : (k : Int) < (xs.length : Int) := by omega
          have hsn2 : xs.getD k 0 < n := bfsL_lt g HD.out hsn k _ (by rw [HXS.out]; exact getD_mem hlt)
          obtain ⟨s, hs⟩ : ∃ s, xs.getD k 0 = s := ⟨_, rfl⟩
          rw [hs] at hsn2
          have HX : Hid (xs.getD k 0 = s) := hs
          clear hs
          have hmk2 := make_ints wr l (by omega)
          obtain ⟨w5, hw5⟩ : ∃ w5, w5 = wr.alloc (.cells (Array.replicate l (Value.int .i64 0)) 3) := ⟨_, rfl⟩
          have hszr := G.out.size
          rw [HS1.out] at hszr
          have O5 : Hid (Owns (w.heap.size + 1 + 1) w5 ((36, .slice (some ⟨bo, 0, none⟩) 4 4, [.int .i64 (l : Int), .int .i64 0, .slice aR k cR, .slice aM k cM]) :: (3, .slice aS xs.length cS, vals (natInts xs)) :: (23, .slice aR k cR, rs.map (·.1)) :: (3, .slice aM k cM, vals (partM g δ mk l st k)) :: (3, .slice (some ⟨gN, 0, none⟩) n n, ivals n (numC g xs)) :: (3, .slice (some ⟨gC, 0, none⟩) n cC, fvals n g) :: ([(3, .slice (some ⟨wr.heap.size, 0, none⟩) l l, vals (List.replicate l 0))] ++ rowItems rs))) := by
            have h1 := O.out.made (arr := Array.replicate l (Value.int .i64 0)) (n := l) hszr 3 (by simp) (by unfold maxLen; omega)
            rw [← hw5, vals_zero] at h1
            exact to_7 h1
          have G5 : Hid (W1.grownBy w5 none) := by rw [hw5]; exact grown_trans G.out (grown_alloc _ _)
          rw [← hw5] at hmk2
          clear hw5 O G
          go_wp2_with fail
          clear hmk2 y0 y1 y2 y3
          generalize wr.heap.size = gr at *
          go_loopw [6, 10] (fun v6 v10 wr => ∃ (x : Nat) (ys : List Nat) (aS : Option Addr) (cS : Nat), rowL g δ s x xs = ys ∧ v6 = .slice aS ys.length cS ∧ v10 = .int .i64 x ∧ x ≤ l ∧ Owns (w.heap.size + 1 + 1) wr ((36, .slice (some ⟨bo, 0, none⟩) 4 4, [.int .i64 (l : Int), .int .i64 0, .slice aR k cR, .slice aM k cM]) :: (3, .slice aS ys.length cS, vals (natInts ys)) :: (23, .slice aR k cR, rs.map (·.1)) :: (3, .slice aM k cM, vals (partM g δ mk l st k)) :: (3, .slice (some ⟨gN, 0, none⟩) n n, ivals n (numC g ys)) :: (3, .slice (some ⟨gC, 0, none⟩) n cC, fvals n g) :: ([(3, .slice (some ⟨gr, 0, none⟩) l l, vals ((List.range l).map fun b => if b < x then ((ix g ys (δ s b) : Nat) : Int) else 0))] ++ rowItems rs)) ∧ W1.grownBy wr none) (fun _ v10 _ => l - (intOf v10).toNat)
          case atStart =>
            refine ⟨0, xs, aS, cS, rfl, rfl, rfl, by omega, ?_, G5.out⟩
            have e : ((List.range l).map fun b => if b < 0 then ((ix g xs (δ s b) : Nat) : Int) else 0) = List.replicate l 0 := by rw [List.eq_replicate_iff]; simp
            rw [e]
            exact O5.out
          case round =>
            clear O5 G5
            obtain ⟨x, ys, aS, cS, hys, rfl, rfl, hx, ho, hg⟩ := hrel
            obtain ⟨zs, hzs⟩ := rowL_more g δ s x xs
            have hyn : ∀ y, y ∈ ys → y < n := fun y hy => rowL_lt (κ := g) HD.out hsn2 (fun z hz => bfsL_lt g HD.out hsn k z (by rw [HXS.out]; exact hz)) hx y (by rw [hys]; exact hy)
            have hynd : ys.length ≤ n := by
              have h1 := bfsL_nodup g δ l st k
              rw [HXS.out] at h1
              have h2 := rowL_nodup (κ := g) (δ := δ) (x := s) h1 x
              rw [hys] at h2
              have h3 := nodup_le n _ h2 (fun y hy => by
                obtain ⟨z, hz, rfl⟩ := List.mem_map.1 hy
                exact HGn.out z (hyn z hz))
              simpa using h3
            have hky : k < ys.length := by rw [← hys, hzs]; simp; omega
            have hgx : ys.getD k 0 = s := by rw [← hys, hzs, getD_app _ hlt]; exact HX.out
            have HYS : Hid (rowL g δ s x xs = ys) := hys
            have O : Hid (Owns (w.heap.size + 1 + 1) wr ((36, .slice (some ⟨bo, 0, none⟩) 4 4, [.int .i64 (l : Int), .int .i64 0, .slice aR k cR, .slice aM k cM]) :: (3, .slice aS ys.length cS, vals (natInts ys)) :: (23, .slice aR k cR, rs.map (·.1)) :: (3, .slice aM k cM, vals (partM g δ mk l st k)) :: (3, .slice (some ⟨gN, 0, none⟩) n n, ivals n (numC g ys)) :: (3, .slice (some ⟨gC, 0, none⟩) n cC, fvals n g) :: ([(3, .slice (some ⟨gr, 0, none⟩) l l, vals ((List.range l).map fun b => if b < x then ((ix g ys (δ s b) : Nat) : Int) else 0))] ++ rowItems rs))) := ho
            have G : Hid (W1.grownBy wr none) := hg
            obtain ⟨gS, haS⟩ := O.out.formM (List.mem_append_right [_] List.mem_cons_self) (by rw [natInts_len]; omega)
            subst haS
            have xS := (at_2 O.out).cell (natInts_get hky)
            rw [hgx] at xS
            obtain ⟨hgw, y0, y1, y2, y3⟩ := Box.out wr hg
            clear hys ho hg hgx hzs
            by_cases hxl : x < l
            · have hxi : (x : Int) < (l : Int) := by omega
              have hkyi : (k : Int) < (ys.length : Int) := by omega
              obtain ⟨bR, oR, bx, ox, cx, rfl, hr1, hr2⟩ := step_reads (l := x) (H.out.grown hgw) GD.out (show s < R.length by rw [HRn.out]; exact hsn2) hxi
              rw [HDl.out] at hr2
              simp only [Int.toNat_natCast] at hr1
              have hyd : δ s x < n := HD.out s x hsn2 hxl
              have hgy : g (δ s x) < n := HGn.out _ hyd
              have xC := (at_6 O.out).cell (fvals_get (f := g) hyd)
              have xN := (at_5 O.out).cell (ivals_get (f := numC g ys) hgy)
              have fN := (at_5 O.out).fz (g (δ s x))
              have hsi : (s : Int) < (R.length : Int) := by rw [HRn.out]; omega
              have hydi : ((δ s x : Nat) : Int) < (n : Int) := by omega
              have hgyi : ((g (δ s x) : Nat) : Int) < (n : Int) := by omega
              by_cases hK : hasK g ys (δ s x)
              · have hI := ix_lt hK
                rw [numC_has hK] at xN
                have hneg : ¬ ((ix g ys (δ s x) : Nat) : Int) < 0 := by omega
                have xW := (at_7 O.out).cell (vals_get (i := x) (zs := (List.range l).map fun b => if b < x then ((ix g ys (δ s b) : Nat) : Int) else 0) (by simp; exact hxl))
                have fW := (at_7 O.out).fz x
                have O7 : Hid (Owns (w.heap.size + 1 + 1) (wr.setCell ⟨gr, x, none⟩ (.int .i64 ((ix g ys (δ s x) : Nat) : Int))) ((36, .slice (some ⟨bo, 0, none⟩) 4 4, [.int .i64 (l : Int), .int .i64 0, .slice aR k cR, .slice aM k cM]) :: (3, .slice (some ⟨gS, 0, none⟩) ys.length cS, vals (natInts ys)) :: (23, .slice aR k cR, rs.map (·.1)) :: (3, .slice aM k cM, vals (partM g δ mk l st k)) :: (3, .slice (some ⟨gN, 0, none⟩) n n, ivals n (numC g ys)) :: (3, .slice (some ⟨gC, 0, none⟩) n cC, fvals n g) :: ([(3, .slice (some ⟨gr, 0, none⟩) l l, vals ((List.range l).map fun b => if b < x + 1 then ((ix g ys (δ s b) : Nat) : Int) else 0))] ++ rowItems rs))) := by
                  have h1 := (at_7 O.out).set hxl (.int .i64 ((ix g ys (δ s x) : Nat) : Int))
                  rw [vals_set, row_write hxl] at h1
                  exact to_7 h1
                have G7 : Hid (W1.grownBy (wr.setCell ⟨gr, x, none⟩ (.int .i64 ((ix g ys (δ s x) : Nat) : Int))) none) := grown_new G.out (grown_set _ _ _) (by rw [HS1.out]; exact (at_7 O.out).ge.1)
                have HY1 : Hid (rowL g δ s (x + 1) xs = ys) := by
                  show _ = _
                  simp only [rowL]
                  rw [HYS.out]
                  exact ins_old hK
                clear hK hgw y1 y3 O
                generalize ix g ys (δ s x) = iy at *
                generalize List.getD _ x 0 = oldv at xW
                generalize g (δ s x) = gy at *
                generalize δ s x = y at *
                go_wp2_with fail
                go_region
                all_goals
                  go_wp2_with fail
                  go_roundw
                  case rel => exact ⟨x + 1, ys, _, _, HY1.out, rfl, by go_num, by omega, O7.out.kept (grown_drew (grown_refl _ _)), grown_drew G7.out⟩
                  case measure => simp [intOf]; omega
              · rw [numC_none hK] at xN
                have HNK : Hid (¬ hasK g ys (δ s x)) := hK
                have O8 : Hid (Owns (w.heap.size + 1 + 1) (wr.setCell ⟨gN, g (δ s x), none⟩ (.int .i64 (ys.length : Int))) ((36, .slice (some ⟨bo, 0, none⟩) 4 4, [.int .i64 (l : Int), .int .i64 0, .slice aR k cR, .slice aM k cM]) :: (3, .slice (some ⟨gS, 0, none⟩) ys.length cS, vals (natInts ys)) :: (23, .slice aR k cR, rs.map (·.1)) :: (3, .slice aM k cM, vals (partM g δ mk l st k)) :: (3, .slice (some ⟨gN, 0, none⟩) n n, ivals n (numC g (ys ++ [δ s x]))) :: (3, .slice (some ⟨gC, 0, none⟩) n cC, fvals n g) :: ([(3, .slice (some ⟨gr, 0, none⟩) l l, vals ((List.range l).map fun b => if b < x then ((ix g ys (δ s b) : Nat) : Int) else 0))] ++ rowItems rs))) := by
                  have h1 := (at_5 O.out).set hgy (.int .i64 (ys.length : Int))
                  rw [ivals_set (g := numC g (ys ++ [δ s x])) hgy (by rw [numC_snoc HNK.out, if_pos rfl]) (fun j hj hne => by rw [numC_snoc HNK.out, if_neg hne])] at h1
                  exact to_5 h1
                have K8 : Hid (Keeps (w.heap.size + 1 + 1) W1 (wr.setCell ⟨gN, g (δ s x), none⟩ (.int .i64 (ys.length : Int)))) := (Keeps.grown G.out).set (at_5 O.out).ge.1 _ _
                have hszr := G.out.size
                rw [HS1.out] at hszr
                obtain ⟨g9, c9, w9, hrun0, ho9, hk9⟩ := push_int (w := (wr.setCell ⟨gN, g (δ s x), none⟩ (.int .i64 (ys.length : Int))).drew) (at_2 (O8.out.kept (grown_drew (grown_refl _ _)))) (by show _ ≤ (wr.setCell _ _).heap.size; rw [size_set]; exact hszr) (size_set _ _ _) (by simp; omega) (((δ s x : Nat)) : Int)
                have hrun : (AppS #[23, 23] 23 #[.slice (some ⟨gS, 0, none⟩) ys.length cS, .slice (some ⟨wr.heap.size, 0, none⟩) 1 1]).run Try.prog ((wr.setCell ⟨gN, g (δ s x), none⟩ (.int .i64 (ys.length : Int))).alloc (.cells #[.int .i64 ((δ s x : Nat) : Int)] 3)).drew = .ok (.slice (some ⟨g9, 0, none⟩) (ys.length + 1) c9) w9 := hrun0
                have O9 : Hid (Owns (w.heap.size + 1 + 1) w9 ((36, .slice (some ⟨bo, 0, none⟩) 4 4, [.int .i64 (l : Int), .int .i64 0, .slice aR k cR, .slice aM k cM]) :: (3, .slice (some ⟨g9, 0, none⟩) (ys.length + 1) c9, vals (natInts (ys ++ [δ s x]))) :: (23, .slice aR k cR, rs.map (·.1)) :: (3, .slice aM k cM, vals (partM g δ mk l st k)) :: (3, .slice (some ⟨gN, 0, none⟩) n n, ivals n (numC g (ys ++ [δ s x]))) :: (3, .slice (some ⟨gC, 0, none⟩) n cC, fvals n g) :: ([(3, .slice (some ⟨gr, 0, none⟩) l l, vals ((List.range l).map fun b => if b < x then ((ix g ys (δ s b) : Nat) : Int) else 0))] ++ rowItems rs))) := by
                  have h1 := to_2 ho9
                  rw [show natInts ys ++ [((δ s x : Nat) : Int)] = natInts (ys ++ [δ s x]) by simp] at h1
                  exact h1
                have K9 : Hid (Keeps (w.heap.size + 1 + 1) W1 w9) := K8.out.drew.trans hk9
                have xN9 := (at_5 O9.out).cell (ivals_get (f := numC g (ys ++ [δ s x])) hgy)
                rw [numC_snoc HNK.out, if_pos rfl] at xN9
                have xC9 := (at_6 O9.out).cell (fvals_get (f := g) hyd)
                have xW := (at_7 O9.out).cell (vals_get (i := x) (zs := (List.range l).map fun b => if b < x then ((ix g ys (δ s b) : Nat) : Int) else 0) (by simp; exact hxl))
                have fW := (at_7 O9.out).fz x
                have O10 : Hid (Owns (w.heap.size + 1 + 1) (w9.setCell ⟨gr, x, none⟩ (.int .i64 (ys.length : Int))) ((36, .slice (some ⟨bo, 0, none⟩) 4 4, [.int .i64 (l : Int), .int .i64 0, .slice aR k cR, .slice aM k cM]) :: (3, .slice (some ⟨g9, 0, none⟩) (ys.length + 1) c9, vals (natInts (ys ++ [δ s x]))) :: (23, .slice aR k cR, rs.map (·.1)) :: (3, .slice aM k cM, vals (partM g δ mk l st k)) :: (3, .slice (some ⟨gN, 0, none⟩) n n, ivals n (numC g (ys ++ [δ s x]))) :: (3, .slice (some ⟨gC, 0, none⟩) n cC, fvals n g) :: ([(3, .slice (some ⟨gr, 0, none⟩) l l, vals ((List.range l).map fun b => if b < x + 1 then ((ix g (ys ++ [δ s x]) (δ s b) : Nat) : Int) else 0))] ++ rowItems rs))) := by
                  have h1 := (at_7 O9.out).set hxl (.int .i64 (ys.length : Int))
                  have e1 : ((List.range l).map fun b => if b < x then ((ix g ys (δ s b) : Nat) : Int) else 0) = (List.range l).map fun b => if b < x then ((ix g (ys ++ [δ s x]) (δ s b) : Nat) : Int) else 0 := by
                    refine List.map_congr_left fun b _ => ?_
                    by_cases hb : b < x
                    · rw [if_pos hb, if_pos hb, ix_append (HYS.out ▸ rowL_has g δ s xs hb)]
                    · rw [if_neg hb, if_neg hb]
                  have e2 : ys.length = ix g (ys ++ [δ s x]) (δ s x) := (ix_last HNK.out).symm
                  rw [vals_set, e1] at h1
                  conv at h1 => arg 3; arg 1; arg 2; arg 2; arg 1; arg 3; rw [e2]
                  rw [row_write hxl] at h1
                  exact to_7 h1
                have G10 : Hid (W1.grownBy (w9.setCell ⟨gr, x, none⟩ (.int .i64 (ys.length : Int))) none) := (K9.out.set (at_7 O9.out).ge.1 _ _) W1 (by rw [HS1.out]; exact Nat.le_refl _) (grown_refl _ _)
                have HY1 : Hid (rowL g δ s (x + 1) xs = ys ++ [δ s x]) := by
                  show _ = _
                  simp only [rowL]
                  rw [HYS.out]
                  exact ins_new HNK.out
                have HE : Hid ((ys ++ [δ s x]).length = ys.length + 1) := by show _ = _; simp
                have hneg : (-1 : Int) < 0 := by omega
                have xC8 := (at_6 O8.out).cell (fvals_get (f := g) hyd)
                clear hK hgw y1 y3 O O8 O9 ho9 hk9 K8 K9 HNK hrun0
                generalize List.getD _ x 0 = oldv at xW
                generalize g (δ s x) = gy at *
                generalize hyy : δ s x = y at *
                go_wp2_with fail
                go_region
                all_goals
                  go_wp2_with fail
                  go_roundw
                  case rel => exact ⟨x + 1, ys ++ [y], some ⟨g9, 0, none⟩, c9, HY1.out, by rw [HE.out], by go_num, by omega, by rw [HE.out]; exact O10.out, G10.out⟩
                  case measure => simp [intOf]; omega
            · have hxe : l = x := by omega
              subst hxe
              have hxi : ¬ (l : Int) < (l : Int) := by omega
              have HY1 : Hid (bfsL g δ l st (k + 1) = ys) := by
                show _ = _
                simp only [bfsL]
                rw [HXS.out, if_pos hlt, HX.out]
                exact HYS.out
              have HRow : Hid (((List.range l).map fun b => if b < l then ((ix g ys (δ s b) : Nat) : Int) else 0) = rowR g δ l ys s) := by
                show _ = _
                unfold rowR
                refine List.map_congr_left fun b hb => ?_
                rw [if_pos (List.mem_range.1 hb)]
              rw [HRow.out] at O
              have hszr := G.out.size
              rw [HS1.out] at hszr
              have hb2 := O.out.cell (i := 2) rfl
              obtain ⟨gA, cA, wA, hrunA, hoA, hkA⟩ := push_row (at_3 O.out) hszr rfl (by simp [HRL.out]; omega) (some ⟨gr, 0, none⟩) l l
              have oA := to_3 hoA
              have xA := oA.cell (i := 2) rfl
              have fA := oA.fz 2
              have oA2 := oA.set (i := 2) (by decide) (.slice (some ⟨gA, 0, none⟩) (k + 1) cA)
              have OA : Hid (Owns (w.heap.size + 1 + 1) (wA.setCell ⟨bo, 2, none⟩ (.slice (some ⟨gA, 0, none⟩) (k + 1) cA)) ((36, .slice (some ⟨bo, 0, none⟩) 4 4, [.int .i64 (l : Int), .int .i64 0, .slice (some ⟨gA, 0, none⟩) (k + 1) cA, .slice aM k cM]) :: (3, .slice (some ⟨gS, 0, none⟩) ys.length cS, vals (natInts ys)) :: (23, .slice (some ⟨gA, 0, none⟩) (k + 1) cA, (rs ++ [(Value.slice (some ⟨gr, 0, none⟩) l l, rowR g δ l ys s)]).map (·.1)) :: (3, .slice aM k cM, vals (partM g δ mk l st k)) :: (3, .slice (some ⟨gN, 0, none⟩) n n, ivals n (numC g ys)) :: (3, .slice (some ⟨gC, 0, none⟩) n cC, fvals n g) :: ([] ++ rowItems (rs ++ [(Value.slice (some ⟨gr, 0, none⟩) l l, rowR g δ l ys s)])))) := by
                refine oA2.perm (List.Perm.cons _ (List.Perm.cons _ ?_))
                simp only [List.map_append, List.map_cons, List.map_nil, List.nil_append]
                refine List.Perm.cons _ (List.Perm.cons _ (List.Perm.cons _ (List.Perm.cons _ ?_)))
                exact List.perm_append_comm (l₁ := [(3, .slice (some ⟨gr, 0, none⟩) l l, vals (rowR g δ l ys s))]) (l₂ := rowItems rs)
              have KA : Hid (Keeps (w.heap.size + 1 + 1) W1 (wA.setCell ⟨bo, 2, none⟩ (.slice (some ⟨gA, 0, none⟩) (k + 1) cA))) := ((Keeps.grown G.out).trans hkA).set oA.ge.1 _ _
              have GA := KA.out W1 (by rw [HS1.out]; exact Nat.le_refl _) (grown_refl _ _)
              obtain ⟨hgwA, z0, z1, z2, z3⟩ := Box.out _ GA
              obtain ⟨bm, om, ham, hm1⟩ := mark_reads (H.out.grown hgwA) GD.out (show s < R.length by rw [HRn.out]; exact hsn2)
              subst ham
              have xS2 := (at_2 OA.out).cell (natInts_get hky)
              have hgx2 : ys.getD k 0 = s := by
                obtain ⟨zs, hzs⟩ := rowL_more g δ s l xs
                rw [← HYS.out, hzs, getD_app _ hlt]; exact HX.out
              rw [hgx2] at xS2
              have xB3 := OA.out.cell (i := 3) rfl
              have HMv : Hid (M.getD s 0 = if mk s = true then 1 else 0) := by
                show _ = _
                have h1 := GD.out.m s (by show s < M.length; rw [HML.out, HRn.out]; exact hsn2)
                have h2 : mk s = decide (M.getD s 0 = 1) := by rw [← HMk.out]; rfl
                have h3 : M.getD s 0 = 0 ∨ M.getD s 0 = 1 := h1
                rw [h2]
                rcases h3 with h3 | h3 <;> rw [h3] <;> simp
              have HPM : Hid (partM g δ mk l st (k + 1) = partM g δ mk l st k ++ [M.getD s 0]) := by
                show _ = _
                rw [partM_step (by rw [HXS.out]; exact hlt), HXS.out, HX.out, HMv.out]
              have hszA := GA.size
              rw [HS1.out] at hszA
              generalize M.getD s 0 = mv at *
              have hsm : (s : Int) < (M.length : Int) := by rw [HML.out, HRn.out]; omega
              have hkyi : (k : Int) < (ys.length : Int) := by omega
              clear O hoA hkA oA2 hgwA hgw
              go_wp2_with fail
              obtain ⟨WA, hWA⟩ : ∃ WA, WA = wA.setCell ⟨bo, 2, none⟩ (.slice (some ⟨gA, 0, none⟩) (k + 1) cA) := ⟨_, rfl⟩
              rw [← hWA] at OA KA GA z0 z1 z2 z3 hm1 xS2 xB3 hszA
              rw [← hWA]
              clear hWA xA fA hrunA hb2 oA xS y0 y1 y2 y3
              have hMl2 : (partM g δ mk l st k).length = k := by simp [partM, HXS.out]; omega
              obtain ⟨gB, cB, wB, hrun0, hoB, hkB⟩ := push_int (w := WA.drew) (at_4 (OA.out.kept (grown_drew (grown_refl _ _)))) hszA rfl (by rw [hMl2]; omega) mv
              have hrun : (AppS #[23, 23] 23 #[.slice aM k cM, .slice (some ⟨WA.heap.size, 0, none⟩) 1 1]).run Try.prog (WA.alloc (.cells #[.int .i64 mv] 3)).drew = .ok (.slice (some ⟨gB, 0, none⟩) (k + 1) cB) wB := hrun0
              have oB := to_4 hoB
              have wB3 := oB.cell (i := 3) rfl
              have fB3 := oB.fz 3
              have oB2 := oB.set (i := 3) (by decide) (.slice (some ⟨gB, 0, none⟩) (k + 1) cB)
              rw [← HPM.out] at oB2
              have OB : Hid (Owns (w.heap.size + 1 + 1) (wB.setCell ⟨bo, 3, none⟩ (.slice (some ⟨gB, 0, none⟩) (k + 1) cB)) ((36, .slice (some ⟨bo, 0, none⟩) 4 4, [.int .i64 (l : Int), .int .i64 0, .slice (some ⟨gA, 0, none⟩) (k + 1) cA, .slice (some ⟨gB, 0, none⟩) (k + 1) cB]) :: (3, .slice (some ⟨gS, 0, none⟩) ys.length cS, vals (natInts ys)) :: (23, .slice (some ⟨gA, 0, none⟩) (k + 1) cA, (rs ++ [(Value.slice (some ⟨gr, 0, none⟩) l l, rowR g δ l ys s)]).map (·.1)) :: (3, .slice (some ⟨gB, 0, none⟩) (k + 1) cB, vals (partM g δ mk l st (k + 1))) :: (3, .slice (some ⟨gN, 0, none⟩) n n, ivals n (numC g ys)) :: (3, .slice (some ⟨gC, 0, none⟩) n cC, fvals n g) :: ([] ++ rowItems (rs ++ [(Value.slice (some ⟨gr, 0, none⟩) l l, rowR g δ l ys s)])))) := oB2
              have GB : Hid (W1.grownBy (wB.setCell ⟨bo, 3, none⟩ (.slice (some ⟨gB, 0, none⟩) (k + 1) cB)) none) := ((KA.out.drew.trans hkB).set oB.ge.1 _ _) W1 (by rw [HS1.out]; exact Nat.le_refl _) (grown_refl _ _)
              have xB3' := fun ob => (grown_alloc WA ob).cell xB3 (by simp)
              have HRS2 : Hid ((rs ++ [(Value.slice (some ⟨gr, 0, none⟩) l l, rowR g δ l ys s)]).map (·.2) = partR g δ l st (k + 1)) := by
                show _ = _
                rw [partR_step (fun j hj => by
                  by_cases e : j = k
                  · subst e; rw [HXS.out]; exact hlt
                  · exact HGo.out j (by omega)), List.map_append, HRS.out, HY1.out, HXS.out, HX.out]
                rfl
              have HGo2 : Hid (∀ j, j < k + 1 → j < (bfsL g δ l st j).length) := fun j hj => by
                by_cases e : j = k
                · subst e; rw [HXS.out]; exact hlt
                · exact HGo.out j (by omega)
              have HRL2 : Hid ((rs ++ [(Value.slice (some ⟨gr, 0, none⟩) l l, rowR g δ l ys s)]).length = k + 1) := by show _ = _; simp [HRL.out]
              clear OA KA GA hrun0 hoB hkB oB oB2
              go_region
              all_goals
                go_wp2_with fail
                go_roundw
                case rel => exact ⟨k + 1, ys, _, _, _, _, _, _, _, HY1.out, rfl, by go_num, by omega, HGo2.out, HRS2.out, HRL2.out, OB.out, GB.out⟩
                case measure => simp [intOf]; omega
        · have hki : ¬ (k : Int) < (xs.length : Int) := by omega
          have hke : k = xs.length := by omega
          have HEnd : Hid (IsEnd (bfsL g δ l st) k) := ⟨by rw [HXS.out]; exact hke.symm, HGo.out⟩
          have b0 := O.out.cell (i := 0) rfl
          have b1 := O.out.cell (i := 1) rfl
          have b2 := O.out.cell (i := 2) rfl
          have b3 := O.out.cell (i := 3) rfl
          obtain ⟨r0, r1, r2, r3, rz⟩ := block_cells (HZ1.out wr G.out)
          have rz0 := rz 0
          have rz1 := rz 1
          have rz2 := rz 2
          have rz3 := rz 3
          obtain ⟨W9, hW9, hg9, p0, p1, p2, p3⟩ := det_store (HZ1.out wr G.out) (.int .i64 (l : Int)) (.int .i64 0) (.slice aR k cR) (.slice aM k cM)
          have G9 : Hid (w.grownBy W9 none) := grown_new (Box.out wr G.out).1 hg9 (by omega)
          have O9 : Hid (Owns w.heap.size W9 ((23, .slice aR k cR, rs.map (·.1)) :: (3, .slice aM k cM, vals (partM g δ mk l st k)) :: rowItems rs)) := by
            have h1 := O.out.below hg9 (by omega)
            have h2 := h1.sublist (its' := (23, .slice aR k cR, rs.map (·.1)) :: (3, .slice aM k cM, vals (partM g δ mk l st k)) :: rowItems rs) (.cons _ (.cons _ (.cons_cons _ (.cons_cons _ (.cons _ (.cons _ (List.Sublist.refl _)))))))
            exact h2.base (by omega)
          have HL : Hid (LeastOf δ mk n l st (rs.map (·.2)) (partM g δ mk l st k)) := by
            show LeastOf _ _ _ _ _ _ _
            rw [HRS.out, partR_end HEnd.out, partM_end HEnd.out]
            exact LeastOf.of HD.out hsn HNer.out HEnd.out
          have HMl : Hid ((partM g δ mk l st k).length = k) := by show _ = _; simp [partM, HXS.out]; omega
          have HRr : Hid (∀ x, x ∈ rs → x.2.length = l) := fun x hx => by
            have h1 : x.2 ∈ rs.map (·.2) := List.mem_map.2 ⟨x, hx, rfl⟩
            rw [HRS.out] at h1
            unfold partR at h1
            obtain ⟨y, _, hy⟩ := List.mem_map.1 h1
            rw [← hy]; simp [rowR]
          clear hg9 rz O G y0 y1 y2 y3 hke
          go_wp2_with fail
          rw [← hW9]
          refine bodyPost_ret (v := .agg #[.int .i64 (l : Int), .int .i64 0, .slice aR k cR, .slice aM k cM]) (by simp [results, Try.results8, go_sem, p0, p1, p2, p3]) rfl ⟨aR, cR, aM, cM, rs, partM g δ mk l st k, by rw [HRL.out, HMl.out], by rw [HDl.out, HMk.out, HRn.out]; exact HL.out, by rw [HRL.out, HRn.out]; omega, by rw [HMl.out, HRL.out], HRr.out, by rw [HRL.out, HMl.out]; exact O9.out, G9.out⟩

end Go.Proofs.Ytcgkflddipflbaa

namespace Go.Proofs.Ytcgkflddipflbaa
open Go.RowKit
set_option linter.unusedVariables false

def SameD (d d' : Dfa) : Prop := d = d'
set_option maxHeartbeats 6400000 in
set_option maxRecDepth 100000 in
theorem same_any (L S L2 S2 : Int) (R R2 : List (List Int)) (M M2 : List Int) (a a' b b' : Option Addr) (c c' d d' : Nat) (w : World) (h : DetAt w ⟨L, S, R, M⟩ a a') (h2 : DetAt w ⟨L2, S2, R2, M2⟩ b b') :
    Calls Try.prog 9 #[.agg #[.int .i64 L, .int .i64 S, .slice a R.length c, .slice a' M.length c'], .agg #[.int .i64 L2, .int .i64 S2, .slice b R2.length d, .slice b' M2.length d']] w (TellsB (SameD ⟨L, S, R, M⟩ ⟨L2, S2, R2, M2⟩) w) := by
  have hm := h.rm
  have hm' := h.mm
  have hm2 := h2.rm
  have hm2' := h2.mm
  unfold maxLen at hm hm' hm2 hm2'
  simp only at hm hm' hm2 hm2'
  have H1 : Hid (DetAt w ⟨L, S, R, M⟩ a a') := h
  have H2 : Hid (DetAt w ⟨L2, S2, R2, M2⟩ b b') := h2
  clear h h2
  obtain ⟨W0, hW0⟩ : ∃ W0, W0 = w.alloc (.cells #[.int .i64 L, .int .i64 S, .slice a R.length c, .slice a' M.length c'] 36) := ⟨_, rfl⟩
  obtain ⟨W1, hW1⟩ : ∃ W1, W1 = W0.alloc (.cells #[.int .i64 L2, .int .i64 S2, .slice b R2.length d, .slice b' M2.length d'] 36) := ⟨_, rfl⟩
  have hs0 : W0.heap.size = w.heap.size + 1 := by rw [hW0]; simp
  have Box : Hid (∀ W, W1.grownBy W none → w.grownBy W none ∧ (W.cell? ⟨w.heap.size, 0, none⟩ = some (.int .i64 L) ∧ W.cell? ⟨w.heap.size, 1, none⟩ = some (.int .i64 S) ∧ W.cell? ⟨w.heap.size, 2, none⟩ = some (.slice a R.length c) ∧ W.cell? ⟨w.heap.size, 3, none⟩ = some (.slice a' M.length c'))
      ∧ W.cell? ⟨w.heap.size + 1, 0, none⟩ = some (.int .i64 L2) ∧ W.cell? ⟨w.heap.size + 1, 1, none⟩ = some (.int .i64 S2) ∧ W.cell? ⟨w.heap.size + 1, 2, none⟩ = some (.slice b R2.length d) ∧ W.cell? ⟨w.heap.size + 1, 3, none⟩ = some (.slice b' M2.length d')) := fun W hW => by
    have g1 : W0.grownBy W none := grown_trans (hW1 ▸ grown_alloc _ _) hW
    have k1 := box4 (w := w) (hW0 ▸ g1)
    have k2 := box4 (w := W0) (hW1 ▸ hW)
    rw [hs0] at k2
    exact ⟨grown_trans (hW0 ▸ grown_alloc _ _) g1, k1, k2⟩
  have HG : Hid (w.grownBy W1 none) := (Box.out W1 (grown_refl _ _)).1
  have HE : Hid (W1 = (w.alloc (.cells #[.int .i64 L, .int .i64 S, .slice a R.length c, .slice a' M.length c'] 36)).alloc (.cells #[.int .i64 L2, .int .i64 S2, .slice b R2.length d, .slice b' M2.length d'] 36)) := by show _ = _; rw [hW1, hW0]
  clear hW0 hW1 hs0
  by_cases e1 : ¬ L = L2
  · have e1' : (L != L2) = true := by simpa using e1
    go_enter Try.func9, Try.ntmps9
    go_wp2_with fail
    go_ret
    exact tellsB false rfl ⟨(fun e => by cases e), fun e => absurd (by simpa [SameD] using congrArg Dfa.L e) e1⟩ (by rw [← HE.out]; exact HG.out)
  by_cases e2 : ¬ S = S2
  · have e1' : (L != L2) = false := by simpa using e1
    have e2' : (S != S2) = true := by simpa using e2
    go_enter Try.func9, Try.ntmps9
    go_wp2_with fail
    go_ret
    exact tellsB false rfl ⟨(fun e => by cases e), fun e => absurd (by simpa [SameD] using congrArg Dfa.S e) e2⟩ (by rw [← HE.out]; exact HG.out)
  by_cases e3 : ¬ R.length = R2.length
  · have e1' : (L != L2) = false := by simpa using e1
    have e2' : (S != S2) = false := by simpa using e2
    have e3' : ((R.length : Int) != (R2.length : Int)) = true := by simp; omega
    go_enter Try.func9, Try.ntmps9
    go_wp2_with fail
    go_ret
    exact tellsB false rfl ⟨(fun e => by cases e), fun e => absurd (congrArg (fun x => x.R.length) e) e3⟩ (by rw [← HE.out]; exact HG.out)
  by_cases e4 : ¬ M.length = M2.length
  · have e1' : (L != L2) = false := by simpa using e1
    have e2' : (S != S2) = false := by simpa using e2
    have e3' : ((R.length : Int) != (R2.length : Int)) = false := by simp; omega
    have e4' : ((M.length : Int) != (M2.length : Int)) = true := by simp; omega
    have HE3 : Hid (¬¬ R.length = R2.length) := e3
    clear e3
    go_enter Try.func9, Try.ntmps9
    go_wp2_with fail
    go_ret
    exact tellsB false rfl ⟨(fun e => by cases e), fun e => absurd (congrArg (fun x => x.M.length) e) e4⟩ (by rw [← HE.out]; exact HG.out)
  have e1' : (L != L2) = false := by simpa using e1
  have e2' : (S != S2) = false := by simpa using e2
  have e3' : ((R.length : Int) != (R2.length : Int)) = false := by simp; omega
  have e4' : ((M.length : Int) != (M2.length : Int)) = false := by simp; omega
  have E12 : Hid (L = L2 ∧ S = S2) := by show _ ∧ _; omega
  have E3 : Hid (R.length = R2.length) := by show _ = _; omega
  have E4 : Hid (M.length = M2.length) := by show _ = _; omega
  clear e1 e2 e3 e4
  go_enter Try.func9, Try.ntmps9
  go_wp2_with fail
  rw [← HE.out]
  go_loopw [5] (fun v wr => ∃ k : Nat, v = .int .i64 k ∧ k ≤ M.length ∧ W1.grownBy wr none ∧ ∀ j, j < k → M.getD j 0 = M2.getD j 0) (fun v _ => M.length - (intOf v).toNat)
  case atStart => exact ⟨0, rfl, by omega, grown_refl _ _, fun j hj => by omega⟩
  case round =>
    obtain ⟨k, rfl, hk, hg, hl⟩ := hrel
    have G : Hid (W1.grownBy wr none) := hg
    have HJ : Hid (∀ j, j < k → M.getD j 0 = M2.getD j 0) := hl
    obtain ⟨hgw, ⟨b0, b1, b2, b3⟩, d0, d1, d2, d3⟩ := Box.out wr hg
    have HGw : Hid (w.grownBy wr none) := hgw
    clear hg hl
    by_cases hlt : k < M.length
    · have hlt2 : k < M2.length := by rw [← E4.out]; exact hlt
      obtain ⟨bm, om, rfl, hc⟩ := H1.out.marks.at hlt
      obtain ⟨bn, on, rfl, hc2⟩ := H2.out.marks.at hlt2
      have hck : wr.cell? ⟨bm, om + k, none⟩ = some (.int .i64 (M.getD k 0)) := HGw.out.cell (hc k hlt) (by simp)
      have hck2 : wr.cell? ⟨bn, on + k, none⟩ = some (.int .i64 (M2.getD k 0)) := HGw.out.cell (hc2 k hlt2) (by simp)
      clear hc hc2
      generalize hx : M.getD k 0 = x at hck
      generalize hy : M2.getD k 0 = y at hck2
      have HX : Hid (M.getD k 0 = x) := hx
      have HY : Hid (M2.getD k 0 = y) := hy
      clear hx hy
      have hl1 : (k : Int) < (M.length : Int) := by omega
      have hl2 : (k : Int) < (M2.length : Int) := by omega
      by_cases hxy : x = y
      · have hxy' : (x != y) = false := by simpa using hxy
        go_wp2_with fail
        go_quiet (fail)
        go_wp2_with fail
        go_roundw
        case rel =>
          refine ⟨k + 1, by go_num, by omega, grown_drewN G.out _, fun j hj => ?_⟩
          by_cases e : j = k
          · subst e; rw [HX.out, HY.out]; exact hxy
          · exact HJ.out j (by omega)
        case measure => simp [intOf]; omega
      · have hxy' : (x != y) = true := by simpa using hxy
        go_wp2_with fail
        go_quiet (fail)
        go_wp2_with fail
        go_ret
        exact tellsB false rfl ⟨(fun e => by cases e), fun e => absurd (by rw [← HX.out, ← HY.out]; exact congrArg (fun q => q.M.getD k 0) e) hxy⟩ (grown_drewN HGw.out _)
    · have EM : Hid (M = M2) := getD_ext E4.out (fun i hi => HJ.out i (by omega))
      clear HJ
      go_wp2_with fail
      clear b0 b1 b2 b3 d0 d1 d2 d3
      go_loopw [6] (fun v wr => ∃ k : Nat, v = .int .i64 k ∧ k ≤ R.length ∧ W1.grownBy wr none ∧ ∀ j, j < k → R.getD j [] = R2.getD j []) (fun v _ => R.length - (intOf v).toNat)
      case atStart => exact ⟨0, rfl, by omega, G.out, fun j hj => by omega⟩
      case round =>
        clear G HGw hgw
        obtain ⟨i, rfl, hi, hg, hl⟩ := hrel
        have G : Hid (W1.grownBy wr none) := hg
        have HJ : Hid (∀ j, j < i → R.getD j [] = R2.getD j []) := hl
        obtain ⟨hgw, ⟨b0, b1, b2, b3⟩, d0, d1, d2, d3⟩ := Box.out wr hg
        have HGw : Hid (w.grownBy wr none) := hgw
        clear hg hl
        by_cases hlt : i < R.length
        · have hlt2 : i < R2.length := by rw [← E3.out]; exact hlt
          obtain ⟨br, or1, rfl, hc⟩ := H1.out.rows.at hlt
          obtain ⟨bs, os1, rfl, hc2⟩ := H2.out.rows.at hlt2
          obtain ⟨x, cx, hx1, hx2, hx3⟩ := hc i hlt
          obtain ⟨y, cy, hy1, hy2, hy3⟩ := hc2 i hlt2
          simp only at hx1 hx2 hx3 hy1 hy2 hy3
          have HX1 : Hid (w.cell? ⟨br, or1 + i, none⟩ = some (.slice x (R.getD i []).length cx)) := hx1
          have HY1 : Hid (w.cell? ⟨bs, os1 + i, none⟩ = some (.slice y (R2.getD i []).length cy)) := hy1
          have HX2 : Hid (Ints w x (R.getD i [])) := hx2
          have HY2 : Hid (Ints w y (R2.getD i [])) := hy2
          unfold maxLen at hx3 hy3
          clear hc hc2 hx1 hy1 hx2 hy2
          generalize hzs : R.getD i [] = zs at HX1 HX2 hx3
          generalize hzt : R2.getD i [] = zt at HY1 HY2 hy3
          have HZ : Hid (R.getD i [] = zs) := hzs
          have HT : Hid (R2.getD i [] = zt) := hzt
          clear hzs hzt
          have c1 : wr.cell? ⟨br, or1 + i, none⟩ = some (.slice x zs.length cx) := HGw.out.cell HX1.out (by simp)
          have c2 : wr.cell? ⟨bs, os1 + i, none⟩ = some (.slice y zt.length cy) := HGw.out.cell HY1.out (by simp)
          have hl1 : (i : Int) < (R.length : Int) := by omega
          have hl2 : (i : Int) < (R2.length : Int) := by omega
          by_cases hne : ¬ zs.length = zt.length
          · have hne' : ((zs.length : Int) != (zt.length : Int)) = true := by simp; omega
            go_wp2_with fail
            go_quiet (fail)
            go_wp2_with fail
            go_ret
            exact tellsB false rfl ⟨(fun e => by cases e), fun e => absurd (by rw [← HZ.out, ← HT.out]; exact congrArg (fun q => (q.R.getD i []).length) e) hne⟩ (grown_drewN HGw.out _)
          have hne' : ((zs.length : Int) != (zt.length : Int)) = false := by simp; omega
          have HLn : Hid (zs.length = zt.length) := by show _ = _; omega
          clear hne
          go_wp2_with fail
          go_quiet (fail)
          go_wp2_with fail
          clear b0 b1 b2 b3 d0 d1 d2 d3 c1 c2
          go_loopw [7] (fun v wr => ∃ k : Nat, v = .int .i64 k ∧ k ≤ zs.length ∧ W1.grownBy wr none ∧ ∀ j, j < k → zs.getD j 0 = zt.getD j 0) (fun v _ => zs.length - (intOf v).toNat)
          case atStart => exact ⟨0, rfl, by omega, grown_drewN G.out _, fun j hj => by omega⟩
          case round =>
            clear G HGw hgw
            obtain ⟨k, rfl, hk, hg, hl⟩ := hrel
            have G : Hid (W1.grownBy wr none) := hg
            have HK : Hid (∀ j, j < k → zs.getD j 0 = zt.getD j 0) := hl
            obtain ⟨hgw, ⟨b0, b1, b2, b3⟩, d0, d1, d2, d3⟩ := Box.out wr hg
            have HGw : Hid (w.grownBy wr none) := hgw
            have c1 : wr.cell? ⟨br, or1 + i, none⟩ = some (.slice x zs.length cx) := HGw.out.cell HX1.out (by simp)
            have c2 : wr.cell? ⟨bs, os1 + i, none⟩ = some (.slice y zt.length cy) := HGw.out.cell HY1.out (by simp)
            clear hg hl hgw
            by_cases hkl : k < zs.length
            · have hkl2 : k < zt.length := by rw [← HLn.out]; exact hkl
              obtain ⟨bx, ox, rfl, hcx⟩ := HX2.out.at hkl
              obtain ⟨bY, oY, rfl, hcy⟩ := HY2.out.at hkl2
              have c3 : wr.cell? ⟨bx, ox + k, none⟩ = some (.int .i64 (zs.getD k 0)) := HGw.out.cell (hcx k hkl) (by simp)
              have c4 : wr.cell? ⟨bY, oY + k, none⟩ = some (.int .i64 (zt.getD k 0)) := HGw.out.cell (hcy k hkl2) (by simp)
              clear hcx hcy
              generalize hu : zs.getD k 0 = u at c3
              generalize hv : zt.getD k 0 = v at c4
              have HU : Hid (zs.getD k 0 = u) := hu
              have HV : Hid (zt.getD k 0 = v) := hv
              clear hu hv
              have hk1 : (k : Int) < (zs.length : Int) := by omega
              have hk2 : (k : Int) < (zt.length : Int) := by omega
              by_cases huv : u = v
              · have huv' : (u != v) = false := by simpa using huv
                go_wp2_with fail
                go_quiet (fail)
                go_wp2_with fail
                go_roundw
                case rel =>
                  refine ⟨k + 1, by go_num, by omega, grown_drewN G.out _, fun j hj => ?_⟩
                  by_cases e : j = k
                  · subst e; rw [HU.out, HV.out]; exact huv
                  · exact HK.out j (by omega)
                case measure => simp [intOf]; omega
              · have huv' : (u != v) = true := by simpa using huv
                go_wp2_with fail
                go_quiet (fail)
                go_wp2_with fail
                go_ret
                exact tellsB false rfl ⟨(fun e => by cases e), fun e => absurd (by rw [← HU.out, ← HV.out, ← HZ.out, ← HT.out]; exact congrArg (fun q => (q.R.getD i []).getD k 0) e) huv⟩ (grown_drewN HGw.out _)
            · have hkl' : ¬ (k : Int) < (zs.length : Int) := by omega
              have EZ : Hid (zs = zt) := getD_ext HLn.out (fun j hj => HK.out j (by omega))
              clear HK
              go_wp2_with fail
              go_roundw
              case rel =>
                refine ⟨i + 1, by go_num, by omega, G.out, fun j hj => ?_⟩
                by_cases e : j = i
                · subst e; rw [HZ.out, HT.out]; exact EZ.out
                · exact HJ.out j (by omega)
              case measure => simp [intOf]; omega
        · have ER : Hid (R = R2) := getD_ext E3.out (fun j hj => HJ.out j (by omega))
          have hlt' : ¬ (i : Int) < (R.length : Int) := by omega
          clear HJ
          go_wp2_with fail
          go_ret
          exact tellsB true rfl ⟨fun _ => by unfold SameD; rw [E12.out.1, E12.out.2, ER.out, EM.out], fun _ => rfl⟩ HGw.out

end Go.Proofs.Ytcgkflddipflbaa
