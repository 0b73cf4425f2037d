/- A tree is grown: the program's grow. -/
import Derived.Test.YtofjmakmbmndoaaTrSeed
import Derived.Test.YtofjmakmbmndoaaTrGrow
import Derived.BigRegion
namespace Go.Proofs.Ytofjmakmbmndoaa
open Go.RowKit
set_option linter.unusedVariables false
set_option linter.unusedSimpArgs false

def flatN (T : List NodeI) : List Value := T.flatMap fun x => [.int .i64 x.1, .int .i64 x.2.1, .int .i64 x.2.2]
theorem flatN_len (T : List NodeI) : (flatN T).length = T.length * 3 := by
  induction T with
  | nil => rfl
  | cons x T ih => simp only [flatN, List.flatMap_cons, List.length_append, List.length_cons, List.length_nil] at ih ⊢; rw [ih]; omega
theorem flatN_snoc (T : List NodeI) (x : NodeI) : flatN (T ++ [x]) = flatN T ++ [.int .i64 x.1, .int .i64 x.2.1, .int .i64 x.2.2] := by simp [flatN]
theorem flatN_get (T : List NodeI) {i : Nat} (hi : i < T.length) : (flatN T)[i * 3]? = some (.int .i64 (T.getD i no0).1) ∧ (flatN T)[i * 3 + 1]? = some (.int .i64 (T.getD i no0).2.1) ∧ (flatN T)[i * 3 + 2]? = some (.int .i64 (T.getD i no0).2.2) := by
  induction T generalizing i with
  | nil => simp at hi
  | cons x T ih =>
    cases i with
    | zero => exact ⟨rfl, rfl, rfl⟩
    | succ i =>
      have := ih (i := i) (by simpa using hi)
      simp only [flatN, List.flatMap_cons, List.cons_append, List.nil_append] at this ⊢
      rw [show (i + 1) * 3 = i * 3 + 3 by omega, show i * 3 + 3 + 1 = (i * 3 + 1) + 3 by omega, show i * 3 + 3 + 2 = (i * 3 + 2) + 3 by omega]
      simp only [List.getElem?_cons_succ, List.getD_cons_succ]
      exact this

/-- The nodes so far are one's own, and their slice lies in a box. -/
structure NodAt (w : World) (bt : Nat) (T : List NodeI) (a : Option Addr) (c : Nat) : Prop where
  box : w.heap[bt]? = some (.cells #[.slice a T.length c] 28 (0, 0))
  own : w.ownsRow (bt + 1) 50 3 (.slice a T.length c) T.length (flatN T)
/-- Nothing has turned but the box and the row of nodes. -/
structure GFr (bt : Nat) (w w' : World) (v v' : Value) : Prop where
  os : w'.os = w.os
  tape : w'.tape = w.tape
  output : w'.output = w.output
  size : w.heap.size ≤ w'.heap.size
  block : ∀ k, k < w.heap.size → k ≠ bt → some k ≠ v.ownBlock → w'.heap[k]? = w.heap[k]?
  at' : v'.ownBlock = v.ownBlock ∨ ∃ g, v'.ownBlock = some g ∧ w.heap.size ≤ g
theorem GFr.refl (bt : Nat) (w : World) (v : Value) : GFr bt w w v v := ⟨rfl, rfl, rfl, Nat.le_refl _, fun _ _ _ _ => rfl, .inl rfl⟩
theorem GFr.trans {bt : Nat} {w w' w'' : World} {v v' v'' : Value} (h : GFr bt w w' v v') (k : GFr bt w' w'' v' v'') : GFr bt w w'' v v'' := by
  refine ⟨k.os.trans h.os, k.tape.trans h.tape, k.output.trans h.output, Nat.le_trans h.size k.size, fun i hi h1 h2 => ?_, ?_⟩
  · refine (k.block i (Nat.lt_of_lt_of_le hi h.size) h1 ?_).trans (h.block i hi h1 h2)
    rcases h.at' with e | ⟨g, e, hg⟩
    · rw [e]; exact h2
    · rw [e]; intro e2; have := Option.some.inj e2; omega
  · rcases k.at' with e | ⟨g, e, hg⟩
    · rcases h.at' with e' | h'
      · exact .inl (e.trans e')
      · right; rw [e]; exact h'
    · exact .inr ⟨g, e, Nat.le_trans h.size hg⟩
theorem GFr.grown {bt : Nat} {w w' : World} {v : Value} (hg : w.grownBy w' none) : GFr bt w w' v v := ⟨hg.os, hg.tape, hg.output, hg.size, fun k hk _ _ => hg.block k hk (by simp), .inl rfl⟩
theorem NodAt.lt {w : World} {bt : Nat} {T : List NodeI} {a : Option Addr} {c : Nat} (h : NodAt w bt T a c) : bt < w.heap.size := (Array.getElem?_eq_some_iff.1 h.box).1
theorem NodAt.kept {w w' : World} {bt : Nat} {T : List NodeI} {a : Option Addr} {c : Nat} (h : NodAt w bt T a c) (hg : w.grownBy w' none) : NodAt w' bt T a c := ⟨(hg.block _ h.lt (by simp)).trans h.box, h.own.kept hg (by cases (Value.slice a T.length c).ownBlock <;> simp)⟩
theorem Try.infoNode : (Try.prog.info? 50).map (fun i => (i.zero, i.size, i.bytes)) = some (some (.agg #[.int .i64 0, .int .i64 0, .int .i64 0]), 3, 24) := by kernel_rfl
/-- A node is put behind. -/
theorem NodAt.app {w : World} {bt : Nat} {T : List NodeI} {a : Option Addr} {c : Nat} (h : NodAt w bt T a c) (x : NodeI) (hT : T.length ≤ 1000) :
    ∃ g c' w2, (AppS #[26, 26] 26 #[.slice a T.length c, .slice (some ⟨w.heap.size, 0, none⟩) 1 1]).run Try.prog (w.alloc (.cells #[.int .i64 x.1, .int .i64 x.2.1, .int .i64 x.2.2] 50)).drew = .ok (.slice (some ⟨g, 0, none⟩) (T.length + 1) c') w2 ∧
      w2.cell? ⟨bt, 0, none⟩ = some (.slice a T.length c) ∧ w2.frozen? ⟨bt, 0, none⟩ = false ∧ NodAt (w2.setCell ⟨bt, 0, none⟩ (.slice (some ⟨g, 0, none⟩) (T.length + 1) c')) bt (T ++ [x]) (some ⟨g, 0, none⟩) c' ∧ GFr bt w (w2.setCell ⟨bt, 0, none⟩ (.slice (some ⟨g, 0, none⟩) (T.length + 1) c')) (.slice a T.length c) (.slice (some ⟨g, 0, none⟩) (T.length + 1) c') := by
  obtain ⟨W, hW⟩ : ∃ W, W = (w.alloc (.cells #[.int .i64 x.1, .int .i64 x.2.1, .int .i64 x.2.2] 50)).drew := ⟨_, rfl⟩
  rw [← hW]
  have gW : w.grownBy W none := by rw [hW]; exact grown_drew (grown_alloc _ _)
  have hnew : W.heap[w.heap.size]? = some (.cells #[.int .i64 x.1, .int .i64 x.2.1, .int .i64 x.2.2] 50) := by rw [hW]; exact heap_alloc_new w _
  have hsz : W.heap.size = w.heap.size + 1 := by rw [hW]; exact World.size_alloc _ _
  have h1 := h.kept gW
  have hlt := h.lt
  obtain ⟨i0, hi0, hz0, hz1, hz2⟩ := info_partsW Try.infoNode
  obtain ⟨g, c', w2, hr, r2, r3, r4, _⟩ := run_append_lies (P := Try.prog) W 26 26 (bt + 1) 50 i0 (.agg #[.int .i64 0, .int .i64 0, .int .i64 0]) 3 24 Try.underlying26 hi0 hz0 hz1 hz2 rfl (by decide) (.slice a T.length c) T.length (flatN T) h1.own ⟨w.heap.size, 0, none⟩ 1 1 [.int .i64 x.1, .int .i64 x.2.1, .int .i64 x.2.2] rfl (fun j u hu => World.news_of_block hnew j u (by simpa using hu)) (by intro u hu; simp at hu; rcases hu with rfl | rfl | rfl <;> rfl) (by omega) (by unfold maxLen; omega) (by omega) (by omega) _ rfl
  have hgB : ∀ k, (Value.slice a T.length c).ownBlock = some k → bt + 1 ≤ k := fun k hk => (h1.own.lt k hk).1
  have hbox2 : w2.heap[bt]? = some (.cells #[.slice a T.length c] 28 (0, 0)) := (r3.block bt (by omega) (fun e => by have := hgB bt e.symm; omega)).trans h1.box
  have hgs : w2.grownBy (w2.setCell ⟨bt, 0, none⟩ (.slice (some ⟨g, 0, none⟩) (T.length + 1) c')) (some bt) := grown_set _ _ _
  have hg1 : bt + 1 ≤ g := (r2.lt g rfl).1
  refine ⟨g, c', w2, hr, by rw [cell_of_row _ _ 0 _ _ (0, 0) hbox2]; rfl, frozen_of_row w2 bt 0 _ _ hbox2, ⟨?_, ?_⟩, ⟨?_, ?_, ?_, ?_, ?_, ?_⟩⟩
  · rw [heap_setCell_same w2 bt 0 _ _ _ hbox2]; simp
  · rw [flatN_snoc, show (T ++ [x]).length = T.length + 1 by simp]
    exact r2.kept hgs (.inr (by simp [Value.ownBlock]; omega))
  · exact hgs.os.trans (r3.os.trans gW.os)
  · exact hgs.tape.trans (r3.tape.trans gW.tape)
  · exact hgs.output.trans (r3.output.trans gW.output)
  · exact Nat.le_trans gW.size (Nat.le_trans r3.size hgs.size)
  · intro k hk h2 h3
    refine (hgs.block k (by have := r3.size; omega) (by simpa using h2)).trans ((r3.block k (by omega) h3).trans (gW.block k hk (by simp)))
  · rcases r4 with e | e
    · left; rw [e]; rfl
    · exact .inr ⟨g, rfl, by omega⟩

theorem grow_none (v : Value) (bt : Nat) (w : World) (hv : ∃ g n, v = .slice (some ⟨g, 0, none⟩) n n) : Calls Try.prog 31 #[v, .pointer (some ⟨bt, 0, none⟩), .int .i64 (-1)] w fun e w' => e = .returned (.int .i64 (-1)) ∧ w' = w := by
  obtain ⟨g, n, rfl⟩ := hv
  go_enter Try.func31, Try.ntmps31
  go_wp2_with fail
  go_ret
  exact ⟨rfl, rfl⟩

def GrowPost (R : List RuleI) (L : Int) (bt : Nat) (T : List NodeI) (v0 : Value) (q : Int) (v : Nat) (w : World) (E : Ending) (w' : World) : Prop :=
  ∃ T' a c, E = .returned (.int .i64 ((T'.length : Int) - 1)) ∧ GrowP R L T q v T' ∧ NodAt w' bt T' a c ∧ GFr bt w w' v0 (.slice a T'.length c)

attribute [local go_sem ↓] app_fold in
set_option maxHeartbeats 6400000 in
set_option maxRecDepth 100000 in
/-- The last statement of grow. -/
theorem grow_any {R : List RuleI} {L : Int} {nN : Nat} (hR : InRu R L nN) (hN : nN ≤ 300) {F : Nat → Nat} {ρ : Nat → RuleI} (hI : SeedI R F ρ) (hF : Fixed R F) (g bt : Nat) (hgb : g < bt) :
    ∀ (v : Nat) (q : Nat) (T : List NodeI) (a : Option Addr) (c : Nat) (w : World), F (q + 1) = v → v ≤ 60 → q < nN → SRow w g (nN + 1) F ρ → NodAt w bt T a c → T.length + v ≤ 500 →
      Calls Try.prog 31 #[.slice (some ⟨g, 0, none⟩) (nN + 1) (nN + 1), .pointer (some ⟨bt, 0, none⟩), .int .i64 (q : Int)] w (GrowPost R L bt T (.slice a T.length c) q v w) := by
  intro v
  induction v using Nat.strongRecOn with
  | ind v ih =>
    intro q T a c w hv hv6 hq hS hNo hlen
    obtain ⟨_, hmem, hto, hsum⟩ := fixed_der hR hI hF v (q : Int) (by omega) (by rw [plc_nat]; exact hv) hv6
    rw [plc_nat] at hmem hto hsum
    have hin := hR.mem hmem
    obtain ⟨nP, hnP⟩ : ∃ p, nN + 1 = p := ⟨_, rfl⟩
    have HnP : Hid (nN + 1 = nP) := hnP
    obtain ⟨t, ht⟩ : ∃ t, q + 1 = t := ⟨_, rfl⟩
    rw [ht] at hmem hto hsum hin
    rw [hnP] at hS ⊢
    have HPt : Hid (∀ W, Calls Try.prog 28 #[.int .i64 (q : Int)] W fun e w' => e = .returned (.int .i64 (t : Int)) ∧ w' = W) := place_any q t (by omega) (by omega)
    have HNone : Hid (∀ W, Calls Try.prog 31 #[.slice (some ⟨g, 0, none⟩) nP nP, .pointer (some ⟨bt, 0, none⟩), .int .i64 (-1)] W fun e w' => e = .returned (.int .i64 (-1)) ∧ w' = W) := fun W => grow_none _ bt W ⟨_, _, rfl⟩
    have HIH : Hid (∀ (u q' : Nat) (T : List NodeI) (a : Option Addr) (c : Nat) (W : World), u < v → F (q' + 1) = u → q' < nN → SRow W g nP F ρ → NodAt W bt T a c → T.length + u ≤ 500 → Calls Try.prog 31 #[.slice (some ⟨g, 0, none⟩) nP nP, .pointer (some ⟨bt, 0, none⟩), .int .i64 (q' : Int)] W (GrowPost R L bt T (.slice a T.length c) q' u W)) := fun u q' T a c W h1 h2 h3 h4 h5 h6 => by
      have := ih u h1 q' T a c W h2 (by omega) h3 (by rw [hnP]; exact h4) h5 h6
      rwa [hnP] at this
    have HLeaf : Hid ((ρ t).2.1 = -1 → GrowP R L T q v (T ++ [((ρ t).1, -1, -1)])) := fun e => by
      have e2 : (ρ t).2.2.1 = -1 := by unfold RuIn at hin; omega
      have := growP_leaf hR (T := T) hmem e
      rw [hto] at this
      rw [e, e2, plc_none, hI.zero] at hsum
      rwa [show v = 1 by omega]
    have HNode : Hid (∀ T1 T2 x y, (ρ t).2.1 ≠ -1 → GrowP R L T (ρ t).2.1 x T1 → GrowP R L T1 (ρ t).2.2.1 y T2 → 1 + x + y = v → GrowP R L T q v (T2 ++ [((ρ t).1, (T1.length : Int) - 1, (T2.length : Int) - 1)])) := fun T1 T2 x y e h1 h2 h3 => by
      have := growP_node hR hmem e h1 h2
      rw [hto] at this
      rwa [h3] at this
    have HSum : Hid (1 + F (plc (ρ t).2.1) + F (plc (ρ t).2.2.1) = v) := hsum
    have HIn : Hid (RuIn L nN (ρ t)) := hin
    have itp : (t : Int) < (nP : Int) := by omega
    obtain ⟨y1, y2, y3, y4⟩ := hS.rule (i := t) (by omega)
    have SS : Hid (SRow w g nP F ρ) := hS
    have NN : Hid (NodAt w bt T a c) := hNo
    have qn : ((q : Int) == -1) = false := by rw [beq_eq_false_iff_ne]; omega
    clear hmem hto hsum hin hv ih hS hNo ht hnP hI hF hR
    generalize ρ t = r at *
    obtain ⟨r0, r1, r2, r3⟩ := r
    simp only [Nat.add_assoc, Nat.reduceAdd] at y1 y2 y3 y4
    simp only at *
    obtain ⟨WR, hWR⟩ : ∃ WR, WR = w.alloc (.cells #[.int .i64 r0, .int .i64 r1, .int .i64 r2, .int .i64 r3] 46) := ⟨_, rfl⟩
    have HWR : Hid (WR = _) := hWR
    have gR : w.grownBy WR none := by rw [hWR]; exact grown_alloc _ _
    have GR : Hid (w.grownBy WR none) := gR
    have hrb := heap_alloc_new w (.cells #[.int .i64 r0, .int .i64 r1, .int .i64 r2, .int .i64 r3] 46)
    rw [← hWR] at hrb
    have NR : Hid (NodAt WR bt T a c) := NN.out.kept gR
    have SR : Hid (SRow WR g nP F ρ) := SS.out.kept gR
    have hbl := NN.out.lt
    have Hbl : Hid (bt < w.heap.size) := hbl
    have HRB : Hid (∀ (W : World) (v' : Value), GFr bt WR W (.slice a T.length c) v' → W.cell? ⟨w.heap.size, 0, none⟩ = some (.int .i64 r0) ∧ W.cell? ⟨w.heap.size, 1, none⟩ = some (.int .i64 r1) ∧ W.cell? ⟨w.heap.size, 2, none⟩ = some (.int .i64 r2) ∧ SRow W g nP F ρ) := fun W v' hW => by
      have hk : W.heap[w.heap.size]? = WR.heap[w.heap.size]? := hW.block _ (by rw [hWR, World.size_alloc]; omega) (by omega) (fun e => by have := (NN.out.own.lt _ e.symm).2; omega)
      rw [hrb] at hk
      refine ⟨by rw [cell_of_row _ _ 0 _ _ (0, 0) hk]; rfl, by rw [cell_of_row _ _ 1 _ _ (0, 0) hk]; rfl, by rw [cell_of_row _ _ 2 _ _ (0, 0) hk]; rfl, SR.out.block (hW.block g SR.out.lt (by omega) (fun e => by have := (NN.out.own.lt _ e.symm).1; omega))⟩
    clear hWR gR hrb hbl
    go_enter Try.func31, Try.ntmps31
    go_wp2_with fail
    refine (HPt.out _).mono ?_
    rintro E w2 ⟨rfl, hw2⟩
    have hw2' := hw2.symm
    subst hw2'
    by_cases e1 : r1 = -1
    · have hin := HIn.out
      unfold RuIn at hin
      simp only at hin
      have e2 : r2 = -1 := by omega
      subst e1 e2
      have HP : Hid _ := HLeaf.out rfl
      obtain ⟨g2, c2, w5, hrun, xb, fb, hN5, hG5⟩ := NR.out.app (r0, -1, -1) (by omega)
      have xc := (HRB.out WR _ (GFr.refl _ _ _)).1
      have xb0 : WR.cell? ⟨bt, 0, none⟩ = some (.slice a T.length c) := by rw [cell_of_row _ _ 0 _ _ (0, 0) NR.out.box]; rfl
      have xb1 : ∀ o, (WR.alloc o).cell? ⟨bt, 0, none⟩ = some (.slice a T.length c) := fun o => (grown_alloc _ o).cell xb0 (by simp)
      have xb5 : (w5.setCell ⟨bt, 0, none⟩ (.slice (some ⟨g2, 0, none⟩) (T.length + 1) c2)).cell? ⟨bt, 0, none⟩ = some (.slice (some ⟨g2, 0, none⟩) (T.length + 1) c2) := by
        have := hN5.box
        rw [cell_of_row _ _ 0 _ _ (0, 0) this]; simp
      have Fin : Hid (GrowPost R L bt T (.slice a T.length c) q v w (.returned (.int .i64 (T.length : Int))) (w5.setCell ⟨bt, 0, none⟩ (.slice (some ⟨g2, 0, none⟩) (T.length + 1) c2))) := ⟨_, _, _, by simp, HP.out, hN5, by
        have := (GFr.grown GR.out).trans hG5
        simpa using this⟩
      have hnl : T.length ≤ 500 := by omega
      clear hin HLeaf HNode HIH hN5 hG5 hlen NN
      generalize T.length = n at *
      go_wp2_with fail
      rw [← HWR.out]
      refine (HNone.out _).mono ?_
      rintro E w3 ⟨rfl, hw3⟩
      have hw3' := hw3.symm
      subst hw3'
      obtain ⟨_, xc1, xc2, _⟩ := HRB.out WR _ (GFr.refl _ _ _)
      go_wp2_with fail
      refine (HNone.out _).mono ?_
      rintro E w3 ⟨rfl, hw3⟩
      have hw3' := hw3.symm
      subst hw3'
      go_wp2_with fail
      go_region
      all_goals
        go_wp2_with fail
        go_ret
        exact Fin.out
    · have hin := HIn.out
      unfold RuIn at hin
      simp only at hin
      obtain ⟨p, hp⟩ : ∃ p : Nat, r1 = p := ⟨r1.toNat, by omega⟩
      obtain ⟨s, hs⟩ : ∃ s : Nat, r2 = s := ⟨r2.toNat, by omega⟩
      subst hp hs
      have hsum := HSum.out
      rw [plc_nat, plc_nat] at hsum
      have HN1 : Hid (∀ T1 T2 x y, GrowP R L T (p : Int) x T1 → GrowP R L T1 (s : Int) y T2 → 1 + x + y = v → GrowP R L T q v (T2 ++ [(r0, (T1.length : Int) - 1, (T2.length : Int) - 1)])) := fun T1 T2 x y => HNode.out T1 T2 x y e1
      obtain ⟨x, hx⟩ : ∃ x, F (p + 1) = x := ⟨_, rfl⟩
      obtain ⟨y, hy⟩ : ∃ y, F (s + 1) = y := ⟨_, rfl⟩
      rw [hx, hy] at hsum
      have C1 : Hid (Calls Try.prog 31 #[.slice (some ⟨g, 0, none⟩) nP nP, .pointer (some ⟨bt, 0, none⟩), .int .i64 (p : Int)] WR (GrowPost R L bt T (.slice a T.length c) p x WR)) := HIH.out x p T a c WR (by omega) hx (by omega) SR.out NR.out (by omega)
      have C2 : Hid (∀ (W : World) (T1 : List NodeI) (a1 : Option Addr) (c1 : Nat), T1.length = T.length + x → SRow W g nP F ρ → NodAt W bt T1 a1 c1 → Calls Try.prog 31 #[.slice (some ⟨g, 0, none⟩) nP nP, .pointer (some ⟨bt, 0, none⟩), .int .i64 (s : Int)] W (GrowPost R L bt T1 (.slice a1 T1.length c1) s y W)) := fun W T1 a1 c1 hl h1 h2 => HIH.out y s T1 a1 c1 W (by omega) hy (by omega) h1 h2 (by omega)
      have HV : Hid (1 + x + y = v) := hsum
      have HB5 : Hid (T.length + v ≤ 500) := hlen
      clear hin hsum hx hy HIH HLeaf HNode e1 HNone hlen
      go_wp2_with fail
      rw [← HWR.out]
      refine C1.out.mono ?_
      rintro E w3 ⟨T1, a1, c1, rfl, hP1, hN1, hG1⟩
      obtain ⟨xc0, xc1, xc2, hS3⟩ := HRB.out w3 _ hG1
      have C2' : Hid (Calls Try.prog 31 #[.slice (some ⟨g, 0, none⟩) nP nP, .pointer (some ⟨bt, 0, none⟩), .int .i64 (s : Int)] w3 (GrowPost R L bt T1 (.slice a1 T1.length c1) s y w3)) := C2.out w3 T1 a1 c1 hP1.len hS3 hN1
      have P1 : Hid (GrowP R L T (p : Int) x T1) := hP1
      have G1 : Hid (GFr bt WR w3 (.slice a T.length c) (.slice a1 T1.length c1)) := hG1
      clear hP1 hN1 hG1 hS3 C1 C2
      obtain ⟨z1, hz1⟩ : ∃ z, (T1.length : Int) - 1 = z := ⟨_, rfl⟩
      rw [hz1]
      have HZ1 : Hid ((T1.length : Int) - 1 = z1) := hz1
      clear hz1
      go_wp2_with fail
      clear xc0 xc1 xc2
      refine C2'.out.mono ?_
      rintro E w4 ⟨T2, a2, c2, rfl, hP2, hN2, hG2⟩
      have hG := G1.out.trans hG2
      obtain ⟨xc0, _, _, _⟩ := HRB.out w4 _ hG
      have hl1 := P1.out.len
      have hl2 := hP2.len
      have hb5 := HB5.out
      have hvv := HV.out
      have HF : Hid _ := HN1.out T1 T2 x y P1.out hP2 HV.out
      rw [HZ1.out] at HF
      obtain ⟨z2, hz2⟩ : ∃ z, (T2.length : Int) - 1 = z := ⟨_, rfl⟩
      rw [hz2] at HF ⊢
      obtain ⟨g2, c3, w5, hrun, xb, fb, hN5, hG5⟩ := hN2.app (r0, z1, z2) (by omega)
      have xb0 : w4.cell? ⟨bt, 0, none⟩ = some (.slice a2 T2.length c2) := by rw [cell_of_row _ _ 0 _ _ (0, 0) hN2.box]; rfl
      have xb1 : ∀ o, (w4.alloc o).cell? ⟨bt, 0, none⟩ = some (.slice a2 T2.length c2) := fun o => (grown_alloc _ o).cell xb0 (by simp)
      have xb5 : (w5.setCell ⟨bt, 0, none⟩ (.slice (some ⟨g2, 0, none⟩) (T2.length + 1) c3)).cell? ⟨bt, 0, none⟩ = some (.slice (some ⟨g2, 0, none⟩) (T2.length + 1) c3) := by
        have := hN5.box
        rw [cell_of_row _ _ 0 _ _ (0, 0) this]; simp
      have Fin : Hid (GrowPost R L bt T (.slice a T.length c) q v w (.returned (.int .i64 (T2.length : Int))) (w5.setCell ⟨bt, 0, none⟩ (.slice (some ⟨g2, 0, none⟩) (T2.length + 1) c3))) := ⟨_, _, _, by simp, HF.out, hN5, by
        have := ((GFr.grown GR.out).trans hG).trans hG5
        simpa using this⟩
      have hnl : T2.length ≤ 500 := by omega
      clear hP2 hN2 hG2 hG hl1 hl2 hb5 hvv hz2 hN5 hG5 C2' HZ1 HF HN1 P1 G1 HV
      generalize T2.length = n at *
      go_wp2_with fail
      go_region
      all_goals
        go_wp2_with fail
        go_ret
        exact Fin.out

end Go.Proofs.Ytofjmakmbmndoaa
