/- The fewest rules that lead to the end: rows while the program's way goes. (Written by wip/tools/sgway.py.) -/
/- The fewest rules that lead to the end: the program's way. (Written by wip/tools/sgway.py.) -/
import Derived.Test.YtcgkflddipflbaaSgC
import Derived.Test.YtcgkflddipflbaaYSk
namespace Go.Proofs.Ytcgkflddipflbaa
open Go.RowKit Go.Maps
set_option linter.unusedVariables false
set_option linter.unusedSimpArgs false

theorem rows_apart {w : World} {B B' : Nat} {e e' : TypeId} {size size' n n' : Nat} {v v' : Value} {xs ys : List Value} (h : w.ownsRow B e size v n xs) (h' : w.ownsRow B' e' size' v' n' ys) (hne : e ≠ e') : v.ownBlock = none ∨ v.ownBlock ≠ v'.ownBlock := by
  rcases h.2 with ⟨rfl, _⟩ | ⟨g, cap, cur, rfl, _, hh, _⟩
  · exact .inl rfl
  · right
    rcases h'.2 with ⟨rfl, _⟩ | ⟨g', cap', cur', rfl, _, hh', _⟩
    · simp [Value.ownBlock]
    · intro e0
      have : g = g' := by simpa [Value.ownBlock] using e0
      subst this
      rw [hh] at hh'
      cases hh'
      exact hne rfl
/-- The last ones are cut off. -/
theorem row_cut {w : World} {B g n n' cap : Nat} {e : TypeId} {size : Nat} {xs : List Value} (h : w.ownsRow B e size (.slice (some ⟨g, 0, none⟩) n cap) n xs) (hn : n' ≤ n) : w.ownsRow B e size (.slice (some ⟨g, 0, none⟩) n' cap) n' (xs.take (n' * size)) := by
  have hl := h.1
  have hm := Nat.mul_le_mul_right size hn
  rcases h.2 with ⟨h1, _⟩ | ⟨g', cap', cur, h1, h2, h3, h4, h5, h6, h7⟩
  · cases h1
  · cases h1
    refine ⟨by rw [List.length_take]; omega, .inr ⟨g, cap, cur, rfl, h2, h3, by omega, h5, h6, ?_⟩⟩
    rw [← h7, List.take_take, Nat.min_eq_left hm]
theorem edges_cut (ys : List Ed3) (e : Ed3) : (edgesL (ys ++ [e])).take (ys.length * 3) = edgesL ys := by
  rw [edgesL_app, ← edgesL_len ys, List.take_left']
  rfl
theorem edges_last (ys : List Ed3) (e : Ed3) : (edgesL (ys ++ [e]))[ys.length * 3]? = some (.int .i64 (e.1 : Int)) ∧ (edgesL (ys ++ [e]))[ys.length * 3 + 1]? = some (.int .i64 (e.2.1 : Int)) ∧ (edgesL (ys ++ [e]))[ys.length * 3 + 2]? = some (.int .i64 (e.2.2 : Int)) := by
  rw [edgesL_app]
  refine ⟨?_, ?_, ?_⟩
  · rw [List.getElem?_append_right (by rw [edgesL_len]; omega), edgesL_len, Nat.sub_self]; rfl
  · rw [List.getElem?_append_right (by rw [edgesL_len]; omega), edgesL_len, Nat.add_sub_cancel_left]; rfl
  · rw [List.getElem?_append_right (by rw [edgesL_len]; omega), edgesL_len, Nat.add_sub_cancel_left]; rfl
set_option maxRecDepth 100000 in
/-- The last one is left away. -/
theorem head_run (g p cap : Nat) (hp : p ≤ cap) (hp2 : p < 1000000) (W : World) : (Instr.slice 70 (.slice (some ⟨g, 0, none⟩) (p + 1) cap) none (some (.int .i64 (p : Int))) none).run Try.prog W = .ok (.slice (some ⟨g, 0, none⟩) p cap) W := by
  obtain ⟨i0, hi0, hz0, hz1, hz2⟩ := info_partsY Try.infoEd
  rw [run_slice_h (w := W) (t := 70) (a := some ⟨g, 0, none⟩) (len := p + 1) (cap := cap) (ht := Try.underlying70) (kh := .i64) (h := (p : Int)) (by omega) (by omega)]
  have e : Try.prog.elem 70 = 66 := by kernel_rfl
  simp [e, sizeOf, typeInfo, hi0, hz1, sliced, Result.andThen, Addr.add]
/-- Edges, or none, are put behind edges. -/
theorem app_run {w : World} {B B2 g cap c2 : Nat} {a2 : Option Addr} {es ys : List Ed3} (ho : w.ownsRow B 66 3 (.slice (some ⟨g, 0, none⟩) es.length cap) es.length (edgesL es)) (hB : B ≤ w.heap.size) (hl : es.length + ys.length ≤ 100000) (ho2 : w.ownsRow B2 66 3 (.slice a2 ys.length c2) ys.length (edgesL ys)) :
    ∃ g' cap' w', (AppY #[70, 70] 70 #[.slice (some ⟨g, 0, none⟩) es.length cap, .slice a2 ys.length c2]).run Try.prog w = .ok (.slice (some ⟨g', 0, none⟩) (es.length + ys.length) cap') w' ∧
      w'.ownsRow B 66 3 (.slice (some ⟨g', 0, none⟩) (es.length + ys.length) cap') (es.length + ys.length) (edgesL (es ++ ys)) ∧ w.grownBy w' (Value.slice (some ⟨g, 0, none⟩) es.length cap).ownBlock := by
  by_cases h0 : ys = []
  · subst h0
    refine ⟨g, cap, w, ?_, by simpa using ho, grown_refl _ _⟩
    obtain ⟨i0, hi0, hz0, hz1, hz2⟩ := info_partsY Try.infoEd
    rcases ho.2 with ⟨h1, _⟩ | ⟨g', cap', cur, h1, _, _, h4, _⟩
    · cases h1
    · cases h1
      have h5 : ¬ cap < es.length := by omega
      cases a2 with
      | none => simp [AppY, Builtin.append_, run_underlying Try.underlying70, sizeOf, typeInfo, zeroValue, hi0, hz0, Builtin.lenOf, run_firstCells_none, storeCells, h5, h4]
      | some b =>
        have hf := run_firstCells_some (P := Try.prog) w i0.size 0 b 0 c2 [] (by simp) (by simp)
        simp [AppY, Builtin.append_, run_underlying Try.underlying70, sizeOf, typeInfo, zeroValue, hi0, hz0, Builtin.lenOf, hf, storeCells, h5, h4]
  · have hlen : 0 < ys.length := List.length_pos_iff.2 h0
    obtain ⟨g2, cap2, e2, _⟩ := ho2.form hlen
    simp only [Value.slice.injEq] at e2
    obtain ⟨rfl, _, rfl⟩ := e2
    exact app_edges ho hB hl hlen (fun j u hu => by
      have hj : j < ys.length * 3 := by have := (List.getElem?_eq_some_iff.1 hu).1; rwa [edgesL_len] at this
      have e : (⟨g2, 0, none⟩ : Addr).add j = ⟨g2, j, none⟩ := by by_cases hj0 : j = 0 <;> simp [Addr.add, hj0]
      rw [e, ho2.cellAt j hj, hu])
theorem app_rule {w : World} {B : Nat} {v : Value} {xs : List Int} {x : Int} (ho : w.ownsRow B 3 1 v xs.length (numsI xs)) (hB : B ≤ w.heap.size) (hl : xs.length ≤ 10000) :
    ∃ g cap w', (AppY #[23, 23] 23 #[v, .slice (some ⟨w.heap.size, 0, none⟩) 1 1]).run Try.prog (w.alloc (.cells #[.int .i64 x] 3)) = .ok (.slice (some ⟨g, 0, none⟩) (xs.length + 1) cap) w' ∧
      w'.ownsRow B 3 1 (.slice (some ⟨g, 0, none⟩) (xs.length + 1) cap) (xs.length + 1) (numsI (xs ++ [x])) ∧ (w.alloc (.cells #[.int .i64 x] 3)).grownBy w' v.ownBlock := by
  obtain ⟨i0, hi0, hz0, hz1, hz2⟩ := info_partsY Try.infoI64Y
  obtain ⟨g, cap, w', h1, h2, h3, _⟩ := run_append_lies (P := Try.prog) (w.alloc (.cells #[.int .i64 x] 3)) 23 23 B 3 i0 (.int .i64 0) 1 8 Try.underlying23 hi0 hz0 hz1 hz2 rfl (by decide) v xs.length (numsI xs) (ho.kept (grown_alloc _ _) (by cases v.ownBlock <;> simp)) ⟨w.heap.size, 0, none⟩ 1 1 [.int .i64 x] rfl (fun j u hu => by
      have e : (⟨w.heap.size, 0, none⟩ : Addr).add j = ⟨w.heap.size, j, none⟩ := by by_cases hj0 : j = 0 <;> simp [Addr.add, hj0]
      rw [e, cell_of_row _ _ j _ _ (0, 0) (heap_alloc_new w _), ← hu]
      simp) (fun u hu => by simp at hu; subst hu; rfl) (by decide) (by unfold maxLen; omega) (by omega) (by simp; omega) _ rfl
  exact ⟨g, cap, w', h1, by rw [show numsI (xs ++ [x]) = numsI xs ++ [.int .i64 x] by simp [numsI]]; exact h2, h3⟩

/-- The rules, one behind the other, lead from a config to a config. -/
def RunsTo (L : List Psh) : List Int → Cfg → Cfg → Prop
  | [], c, c' => c = c'
  | r :: rs, c, c' => 0 ≤ r ∧ r.toNat < L.length ∧ CanSk (L.getD r.toNat pu0) c ∧ RunsTo L rs (behSk (L.getD r.toNat pu0) c) c'
theorem runs_snoc {L : List Psh} {i : Nat} (hi : i < L.length) : ∀ {rs : List Int} {c c' : Cfg}, RunsTo L rs c c' → CanSk (L.getD i pu0) c' → RunsTo L (rs ++ [(i : Int)]) c (behSk (L.getD i pu0) c')
  | [], c, c', h, hc => by
    have e : c = c' := h
    subst e
    exact ⟨by omega, by rw [Int.toNat_natCast]; exact hi, by rw [Int.toNat_natCast]; exact hc, by rw [Int.toNat_natCast]; exact rfl⟩
  | r :: rs, c, c', h, hc => ⟨h.1, h.2.1, h.2.2.1, runs_snoc hi h.2.2.2 hc⟩
theorem getD_i (l : List Int) (j : Nat) (hj : j < l.length) : l.getD j 0 = l[j] := by simp [List.getD, hj]
/-- A config whose numbers are right, however deep. -/
def CfOk (c : Cfg) : Prop := (0 ≤ c.1 ∧ c.1 < 3) ∧ ∀ z, z ∈ c.2 → 0 ≤ z ∧ z < 3
/-- The config that is come to, and the edges that read it. -/
def WayAt (L : List Psh) (cc : Cfg) (en : Nat) (rs : List Int) (es : List Ed3) : Prop := ∃ cf : Cfg, RunsTo L rs cc cf ∧ CfOk cf ∧ ChainE cf.1.toNat es.reverse cf.2 en
theorem way_step {L : List Psh} {cc : Cfg} {en : Nat} {rs : List Int} {ys es2 : List Ed3} {f s t i : Nat} (h : WayAt L cc en rs (ys ++ [(f, s, t)])) (hi : i < L.length) (hP : PshSk (L.getD i pu0)) (hF : (L.getD i pu0).F.toNat = f) (hT : (L.getD i pu0).T.toNat = s) (h2 : ChainE (L.getD i pu0).O.toNat es2.reverse (L.getD i pu0).P t) : WayAt L cc en (rs ++ [(i : Int)]) (ys ++ es2) := by
  obtain ⟨cf, h1, hok, hch⟩ := h
  obtain ⟨n1, n2, n3, n4⟩ := hP
  rw [oneSk_iff] at n1 n2 n3
  rw [List.reverse_append] at hch
  obtain ⟨c1, c2⟩ := cf
  cases c2 with
  | nil => exact hch.elim
  | cons z tl =>
    obtain ⟨k1, k2, k3⟩ := hch
    simp only at k1 k2 k3
    have hz := hok.2 z (by simp)
    have hc := hok.1
    simp only at hc
    have hcan : CanSk (L.getD i pu0) (c1, z :: tl) := ⟨by simp only; omega, by simp, by show z = _; omega⟩
    refine ⟨_, runs_snoc hi h1 hcan, ⟨n3, fun x hx => ?_⟩, ?_⟩
    · simp only [behSk, List.drop_succ_cons, List.drop_zero, List.mem_append] at hx
      rcases hx with hx | hx
      · obtain ⟨j, hj, rfl⟩ := List.getElem_of_mem hx
        have := (oneSk_iff _).1 (n4 j hj)
        have e : (L.getD i pu0).P.getD j 0 = (L.getD i pu0).P[j] := getD_i _ j hj
        rw [e] at this
        exact this
      · exact hok.2 x (by simp [hx])
    · rw [List.reverse_append]
      exact chain_app h2 k3
/-- While the way is gone. -/
structure WaySt (L : List Psh) (cc : Cfg) (en : Nat) (E : Edg) (T0 : Nat) (w : World) (b : Nat) (a9 ar : Option Addr) (c9 cr : Nat) (rs : List Int) (es : List Ed3) (W : World) : Prop where
  rules : W.ownsRow w.heap.size 3 1 (.slice a9 rs.length c9) rs.length (numsI rs)
  run : W.ownsRow w.heap.size 66 3 (.slice ar es.length cr) es.length (edgesL es)
  cost : cstE E es + rs.length = T0
  ins : InE es
  len : es.length + rs.length ≤ 100 + 3 * rs.length
  gr : w.grownBy W none
  here : WayAt L cc en rs es
theorem WaySt.kept {L : List Psh} {cc : Cfg} {en : Nat} {E : Edg} {T0 : Nat} {w : World} {b : Nat} {a9 ar : Option Addr} {c9 cr : Nat} {rs : List Int} {es : List Ed3} {W W' : World} (h : WaySt L cc en E T0 w b a9 ar c9 cr rs es W) (hg : W.grownBy W' none) : WaySt L cc en E T0 w b a9 ar c9 cr rs es W' :=
  ⟨h.rules.kept hg (by cases (Value.slice a9 rs.length c9).ownBlock <;> simp), h.run.kept hg (by cases (Value.slice ar es.length cr).ownBlock <;> simp), h.cost, h.ins, h.len, grown_trans h.gr hg, h.here⟩

def SWay (bb off i be oN t : Nat) (ap : Option Addr) (n cp : Nat) (W : World) : Prop := W.cell? ⟨bb, off + i * 4 + 2, none⟩ = some (.int .i64 (oN : Int)) ∧ W.cell? ⟨bb, off + i * 4 + 3, none⟩ = some (.slice ap n cp) ∧ W.cell? ⟨be, 2, none⟩ = some (.int .i64 (t : Int))
theorem SWay.kept {bb off i be oN t : Nat} {ap : Option Addr} {n cp : Nat} {W W' : World} (h : SWay bb off i be oN t ap n cp W) (hg : W.grownBy W' none) : SWay bb off i be oN t ap n cp W' := ⟨hg.cell h.1 (by simp), hg.cell h.2.1 (by simp), hg.cell h.2.2 (by simp)⟩

/-- How long a slice is. -/
def lenV : Value → Nat
  | .slice _ n _ => n
  | _ => 0

end Go.Proofs.Ytcgkflddipflbaa

namespace Go.Proofs.Ytcgkflddipflbaa
open Go.RowKit Go.Maps
set_option linter.unusedVariables false
set_option linter.unusedSimpArgs false

def WayRun (L : List Psh) (cc gc : Cfg) (w : World) (e : Ending) (w' : World) : Prop := ∃ a9 rs c9, e = .returned (.slice a9 (List.length rs) c9) ∧ Ints w' a9 rs ∧ rs.length ≤ 2000 ∧ RunsTo L rs cc gc ∧ w.grownBy w' none
attribute [local go_sem ↓] appY_fold in
set_option maxHeartbeats 12800000 in
set_option maxRecDepth 100000 in
theorem way_full (L : List Psh) (b c0 en gN : Nat) (gz : List Int) (a : Option Addr) (d : Nat) (E : Edg) (az : Option Addr) (cz : Nat) (zs : List Int) (w : World) (h : EdgesAt w b E) (hC : ClosedC L E) (hM : MadeC L E) (hG : GoodSk L) (hP : PushAt w a L) (hc0 : c0 < 3) (hz : Ints w az zs) (hn : zs.length ≤ 20) (hs : OnesSk zs) (hen : en < 6) (hT : readC E c0 zs en ≤ 2000) (hgN : gN < 3) (hgz : OnesSk gz) (hee : en = behC gN gz.length) (hZr : ZeroC gN gz E) :
    Calls Try.prog 19 #[.map (some b), .slice a L.length d, .agg #[.int .i64 (c0 : Int), .slice az zs.length cz], .int .i64 (en : Int)] w (WayRun L ((c0 : Int), zs) ((gN : Int), gz) w) := by
  have HE : Hid (∀ V, w.grownBy V none → EdgesAt V b E) := fun V hV => h.kept hV (by simp)
  have HP : Hid (PushAt w a L) := hP
  have HG : Hid (GoodSk L) := hG
  have HC : Hid (ClosedC L E) := hC
  have HM : Hid (MadeC L E) := hM
  have HT : Hid (Top E) := h.top
  have hL := hG.len
  have HOk : Hid (CfOk ((c0 : Int), zs)) := ⟨⟨by simp only; omega, by simp only; omega⟩, fun z hz' => by
    obtain ⟨j, hj, rfl⟩ := List.getElem_of_mem hz'
    have := (oneSk_iff _).1 (hs j hj)
    rw [show zs.getD j 0 = zs[j] by simp [List.getD, hj]] at this
    exact this⟩
  have HEnd : Hid (∀ rs es, WayAt L ((c0 : Int), zs) en rs es → (∀ e, e ∈ es → E e.1 e.2.1 e.2.2 < 2002) → (∀ e, es.reverse.head? = some e → E e.1 e.2.1 e.2.2 = 0) → RunsTo L rs ((c0 : Int), zs) ((gN : Int), gz)) := fun rs es hat hfin h0 => by
    obtain ⟨cf, h1, hok, hch⟩ := hat
    rw [hee] at hch
    obtain ⟨e1, e2⟩ := chain_end hgN hZr hM (fun i hi => by have := (oneSk_iff _).1 (hG.num i hi).1; omega) (fun j hj => ((oneSk_iff _).1 (hgz j hj)).1) (by have := hok.1; omega) (fun e he => hfin e (by simpa using he)) (fun z hz' => (hok.2 z hz').1) hch h0
    have e3 : cf = ((gN : Int), gz) := by
      obtain ⟨x, y⟩ := cf
      have := hok.1
      simp only at e1 e2 this ⊢
      rw [e2, show x = (gN : Int) by omega]
    rw [← e3]; exact h1
  obtain ⟨T0, hT0⟩ : ∃ T0, readC E c0 zs en = T0 := ⟨_, rfl⟩
  have HT0 : Hid (readC E c0 zs en = T0) := hT0
  rw [hT0] at hT
  obtain ⟨q0, q1⟩ := (cfgB_new w c0 (.slice az zs.length cz)).get
  have CH0 : Hid (∀ V, w.grownBy V none → Calls Try.prog 31 #[.map (some b), .int .i64 (c0 : Int), .slice az zs.length cz, .int .i64 (en : Int)] V (CheapPost E c0 zs en V)) := fun V hV => cheapest_any b c0 en E az cz zs V (HE.out V hV) (by omega) (hz.grown hV) (by omega) hs hen (by rw [hT0]; exact hT)
  clear h hC hM hG hP hz hs hT0 hgz hee hZr
  go_enter Try.func19, Try.ntmps19
  go_wp2_with fail
  refine (CH0.out _ (grown_alloc _ _)).mono ?_
  rintro e w2 ⟨ar, cr, es, rfl, ho, hl, hc, hi, hch, hg2⟩
  have X0 : Hid (WaySt L ((c0 : Int), zs) en E T0 w b none ar 0 cr [] es w2) := ⟨World.ownsRow_nil _ _ _ _, row_mono ho (by simp), by rw [hc, HT0.out]; rfl, hi, by simp; omega, grown_trans (grown_alloc _ _) hg2, _, rfl, HOk.out, by simp only [Int.toNat_natCast]; exact hch⟩
  clear ho hl hc hi hch hg2 q0 q1 CH0 HT0
  go_wp2_with fail
  go_loopw [9, 10] (fun v9 v10 wr => ∃ (a9 ar : Option Addr) (c9 cr : Nat) (rs : List Int) (es : List Ed3), v9 = .slice a9 rs.length c9 ∧ v10 = .slice ar es.length cr ∧ WaySt L ((c0 : Int), zs) en E T0 w b a9 ar c9 cr rs es wr) (fun v9 _ _ => 2001 - lenV v9)
  case atStart => exact ⟨none, ar, 0, cr, [], es, rfl, rfl, X0.out⟩
  case round =>
    clear X0
    obtain ⟨a9, ar, c9, cr, rs, es, rfl, rfl, hS⟩ := hrel
    have X : Hid (WaySt L ((c0 : Int), zs) en E T0 w b a9 ar c9 cr rs es wr) := hS
    have GR : Hid (w.grownBy wr none) := hS.gr
    rcases List.eq_nil_or_concat es with rfl | ⟨ys, top, rfl⟩
    · have h0 : ¬ (0 : Int) < 0 := by omega
      have F : Hid (WayRun L ((c0 : Int), zs) ((gN : Int), gz) w (.returned (.slice a9 rs.length c9)) wr) := ⟨a9, rs, c9, rfl, ints_of_row hS.rules, by have := hS.cost; omega, HEnd.out rs [] hS.here (fun e he => by simp at he) (fun e he => by simp at he), hS.gr⟩
      clear hS
      go_wp2_with fail
      go_ret
      exact F.out
    · obtain ⟨f, s, t⟩ := top
      have hmem : (f, s, t) ∈ ys.concat (f, s, t) := by simp
      obtain ⟨hf, hs3, ht⟩ := hS.ins _ hmem
      have hle := cstE_mem (E := E) hmem
      simp only at hf hs3 ht hle
      have hco := hS.cost
      rw [List.concat_eq_append] at X hS
      have hrun := hS.run
      rw [List.length_append] at hrun
      obtain ⟨g, cap, e1, hBg, hgl⟩ := hrun.form (by simp)
      simp only [Value.slice.injEq] at e1
      obtain ⟨rfl, _, rfl⟩ := e1
      obtain ⟨l0, l1, l2⟩ := edges_last ys (f, s, t)
      have k0 := hrun.cellAt (ys.length * 3) (by rw [List.length_singleton]; omega)
      have k1 := hrun.cellAt (ys.length * 3 + 1) (by rw [List.length_singleton]; omega)
      have k2 := hrun.cellAt (ys.length * 3 + 2) (by rw [List.length_singleton]; omega)
      rw [l0] at k0
      rw [l1] at k1
      rw [l2] at k2
      simp only at k0 k1 k2
      have hfin : E f s t ≤ 2000 := by omega
      have hget := (HE.out wr GR.out).get hf hs3 ht (by omega)
      have hcap : ys.length + 1 ≤ cr := by
        rcases hrun.2 with ⟨h1, _⟩ | ⟨g', cap', cur, h1, _, _, h4, _⟩
        · cases h1
        · cases h1; simpa using h4
      have hlenb := hS.len
      rw [List.length_append] at hlenb
      simp only [List.length_singleton] at hlenb
      have hrs : rs.length ≤ 2000 := by omega
      have hwm : IntKind.i64.wrap ((ys.length : Int) + 1 - 1) = (ys.length : Int) := by rw [IntKind.wrap_i64]; omega
      have hwm2 : IntKind.i64.wrap (ys.length : Int) = (ys.length : Int) := by rw [IntKind.wrap_i64]; omega
      have hpos : (0 : Int) < (ys.length : Int) + 1 := by omega
      have hyi : (ys.length : Int) < (ys.length : Int) + 1 := by omega
      rw [List.length_concat]
      clear hmem hle l0 l1 l2 hrun hS
      by_cases hz0 : E f s t = 0
      · rw [hz0] at hget
        have F : Hid (WayRun L ((c0 : Int), zs) ((gN : Int), gz) w (.returned (.slice a9 rs.length c9)) wr) := ⟨a9, rs, c9, rfl, ints_of_row X.out.rules, hrs, HEnd.out rs _ X.out.here (fun e he => by have := cstE_mem (E := E) he; have := X.out.cost; omega) (fun e he => by
          rw [List.reverse_append] at he
          simp at he
          subst he
          exact hz0), X.out.gr⟩
        go_wp2_with fail
        go_ret
        exact F.out
      · have hE0 : (0 : Int) < (E f s t : Int) := by omega
        obtain ⟨W5, hW5⟩ : ∃ W5, W5 = wr.alloc (.cells #[.int .i64 (f : Int), .int .i64 (s : Int), .int .i64 (t : Int)] 66) := ⟨_, rfl⟩
        have HW5 : Hid (W5 = _) := hW5
        have g5 : wr.grownBy W5 none := by rw [hW5]; exact grown_alloc _ _
        have G5 : Hid (wr.grownBy W5 none) := g5
        have B5 : Hid (BoxE W5 wr.heap.size f s t) := by rw [hW5]; exact boxE_new wr f s t
        obtain ⟨p0, p1, p2⟩ := B5.out.get
        rw [hW5] at p0 p1 p2
        have CU : Hid (∀ V, w.grownBy V none → Calls Try.prog 32 #[.map (some b), .slice a L.length d, vE f s t] V (RulePost L E f s t V)) := fun V hV => ruleOf_any L b f s t a d E V (HE.out V hV) HG.out (HP.out.grown hV) hf hs3 ht (by omega) (made_rule HC.out HM.out (by omega) (by omega))
        have HFin : Hid (E f s t ≤ 2000 ∧ E f s t ≠ 0) := ⟨hfin, hz0⟩
        obtain ⟨ec, hec⟩ : ∃ ec, E f s t = ec := ⟨_, rfl⟩
        rw [hec] at hget hE0
        have HEc : Hid (E f s t = ec) := hec
        clear hW5 g5 hz0 hfin hec
        go_wp2_with fail
        rw [← HW5.out]
        refine (CU.out W5 (grown_trans GR.out G5.out)).mono ?_
        rintro e w6 ⟨i, rfl, hi, hg6⟩
        clear HW5 p0 p1 p2 k0 k1 k2 hget
        have G6 : Hid (wr.grownBy w6 none) := grown_trans G5.out hg6
        have X6 := X.out.kept G6.out
        have B6 := B5.out.kept hg6
        obtain ⟨g9, cap9, w7, hrun7, ho7, hg7⟩ := app_rule (x := (i : Int)) X6.rules X6.gr.size (by omega)
        obtain ⟨V7, hV7⟩ : ∃ V7, w6.alloc (.cells #[.int .i64 (i : Int)] 3) = V7 := ⟨_, rfl⟩
        have X7 := X6.kept (grown_alloc w6 (.cells #[.int .i64 (i : Int)] 3))
        have run7 := X7.run.kept hg7 (rows_apart X7.run X7.rules (by decide))
        have gr7 : w.grownBy w7 none := row_frame X7.rules (Nat.le_refl _) X7.gr hg7
        have B7 : BoxE w7 wr.heap.size f s t := by
          have h1 := B6.kept (grown_alloc w6 (.cells #[.int .i64 (i : Int)] 3))
          refine (hg7.block _ h1.lt ?_).trans h1
          intro e
          have := (X.out.rules.lt _ e.symm).2
          omega
        obtain ⟨hiL, hiF, hiT, hiC⟩ := hi
        have hii : (i : Int) < (L.length : Int) := by omega
        obtain ⟨bb, off, hab, hc⟩ := HP.out.at hiL
        obtain ⟨y0, y1, y2, ap, cp, y3, y4, y5⟩ := hc i hiL
        have hpl := HG.out.put i hiL
        obtain ⟨n1, n2, n3, n4⟩ := HG.out.num i hiL
        rw [oneSk_iff] at n3
        obtain ⟨r, hr⟩ : ∃ r, L.getD i pu0 = r := ⟨_, rfl⟩
        rw [hr] at y2 y3 y4 hpl n3 n4 hiC
        obtain ⟨oN, hoN⟩ : ∃ oN : Nat, r.O = (oN : Int) := ⟨r.O.toNat, by omega⟩
        rw [hoN] at y2 hiC
        rw [Int.toNat_natCast] at hiC
        have hrd := sumC_exact (x := readC E oN r.P t) (y := 1) (by rw [hiC]; exact HFin.out.1) (readC_top _ _ _ _) (by omega)
        have hrd2 : readC E oN r.P t + 1 = E f s t := by omega
        have CH : Hid (∀ V, w7.grownBy V none → Calls Try.prog 31 #[.map (some b), .int .i64 (oN : Int), .slice ap r.P.length cp, .int .i64 (t : Int)] V (CheapPost E oN r.P t V)) := fun V hV => cheapest_any b oN t E ap cp r.P V (HE.out V (grown_trans gr7 hV)) (by omega) (y4.grown (grown_trans gr7 hV)) (by omega) n4 ht (by have := HFin.out.1; omega)
        obtain ⟨be, hbe⟩ : ∃ be, wr.heap.size = be := ⟨_, rfl⟩
        rw [hbe] at B7
        have S0 : Hid (SWay bb off i be oN t ap r.P.length cp w7) := ⟨gr7.cell y2 (by simp), gr7.cell y3 (by simp), B7.get.2.2⟩
        have PX : Hid (∀ (V : World) (ar2 : Option Addr) (cr2 : Nat) (es2 : List Ed3), w7.grownBy V none → V.ownsRow w7.heap.size 66 3 (.slice ar2 es2.length cr2) es2.length (edgesL es2) → es2.length = r.P.length → cstE E es2 = readC E oN r.P t → InE es2 → ChainE oN es2.reverse r.P t → ∃ g3 cr3 w8, (AppY #[70, 70] 70 #[.slice (some ⟨g, 0, none⟩) ys.length cr, .slice ar2 es2.length cr2]).run Try.prog V = .ok (.slice (some ⟨g3, 0, none⟩) (ys.length + es2.length) cr3) w8 ∧ WaySt L ((c0 : Int), zs) en E T0 w b (some ⟨g9, 0, none⟩) (some ⟨g3, 0, none⟩) cap9 cr3 (rs ++ [(i : Int)]) (ys ++ es2) w8 ∧ SWay bb off i be oN t ap r.P.length cp w8) := fun V ar2 cr2 es2 hV ho2 hl2 hc2 hi2 hch2 => by
          have runV := run7.kept hV (.inr (by simp [Value.ownBlock]))
          rw [List.length_append] at runV
          have cutV := row_cut (n' := ys.length) runV (by simp)
          rw [edges_cut] at cutV
          have grV := grown_trans gr7 hV
          obtain ⟨g3, cr3, w8, h1, h2, h3⟩ := app_run cutV grV.size (by omega) ho2
          have gr8 : w.grownBy w8 none := row_frame cutV (Nat.le_refl _) grV h3
          have rulV := ho7.kept hV (.inr (by simp [Value.ownBlock]))
          have rul8 := rulV.kept h3 (rows_apart rulV cutV (by decide))
          have hco2 := X.out.cost
          rw [cstE_app] at hco2
          have e1 : cstE E [(f, s, t)] = E f s t := by unfold cstE; simp
          have bV := B7.kept hV
          have b8 : BoxE w8 be f s t := by
            refine (h3.block be bV.lt ?_).trans bV
            simp only [Value.ownBlock, ne_eq, Option.some.injEq]
            omega
          refine ⟨g3, cr3, w8, h1, ⟨by rw [List.length_append]; exact rul8, by rw [List.length_append]; exact h2, ?_, ?_, ?_, gr8, way_step X.out.here hiL (HG.out.num i hiL) hiF hiT (by rw [hr, hoN, Int.toNat_natCast]; exact hch2)⟩, gr8.cell y2 (by simp), gr8.cell y3 (by simp), b8.get.2.2⟩
          · rw [cstE_app, List.length_append, hc2]
            rw [e1] at hco2
            simp only [List.length_singleton]
            omega
          · intro e he
            rcases List.mem_append.1 he with he | he
            · exact X.out.ins e (List.mem_append_left _ he)
            · exact hi2 e he
          · rw [List.length_append, List.length_append]
            simp only [List.length_singleton]
            omega
        have hhd := head_run g ys.length cr (by omega) (by omega)
        have hmea : rs.length < 2001 := by omega
        clear X6 B6 ho7 hg7 X7 run7 gr7 B7 hiF hiT hiC hc y0 y1 y4 y5 hpl n1 n2 n3 n4 hr hoN hrd hrd2 hg6 hV7
        subst hab
        go_wp2_with fail
        refine wp_region_held_drew (S := SWay bb off i be oN t ap r.P.length cp) (by kernel_rfl) (S0.out.kept (grown_drew (grown_refl _ _))) (fun hHeld => ?_)
        refine wpAnyH_take (i := 0) (v := ?_) rfl (by kernel_rfl) (by kernel_rfl) (by kernel_rfl) (fun _ _ _ h => h) (Or.inl ⟨by rfl, ?_⟩) (by assumption) ?_
        rotate_left
        · intro W hSw
          obtain ⟨t1, t2, t3⟩ := hSw
          go_simp
          with_reducible rfl
        try simp only [Act.put, List.getElem_toArray, List.getElem_cons_succ, List.getElem_cons_zero, List.setIfInBounds_toArray, List.set_cons_zero, List.set_cons_succ]
        refine wpAnyH_take (i := 1) (v := ?_) rfl (by kernel_rfl) (by kernel_rfl) (by kernel_rfl) (fun _ _ _ h => h) (Or.inl ⟨by rfl, ?_⟩) (by assumption) ?_
        rotate_left
        · intro W hSw
          obtain ⟨t1, t2, t3⟩ := hSw
          go_simp
          with_reducible rfl
        try simp only [Act.put, List.getElem_toArray, List.getElem_cons_succ, List.getElem_cons_zero, List.setIfInBounds_toArray, List.set_cons_zero, List.set_cons_succ]
        refine wpAnyH_take (i := 2) (v := ?_) rfl (by kernel_rfl) (by kernel_rfl) (by kernel_rfl) (fun _ _ _ h => h) (Or.inl ⟨by rfl, ?_⟩) (by assumption) ?_
        rotate_left
        · intro W hSw
          obtain ⟨t1, t2, t3⟩ := hSw
          go_simp
          with_reducible rfl
        try simp only [Act.put, List.getElem_toArray, List.getElem_cons_succ, List.getElem_cons_zero, List.setIfInBounds_toArray, List.set_cons_zero, List.set_cons_succ]
        refine wpAnyH_take (i := 3) (v := ?_) rfl (by kernel_rfl) (by kernel_rfl) (by kernel_rfl) (fun _ _ _ h => h) (Or.inl ⟨by rfl, ?_⟩) (by assumption) ?_
        rotate_left
        · intro W hSw
          obtain ⟨t1, t2, t3⟩ := hSw
          go_simp
          with_reducible rfl
        try simp only [Act.put, List.getElem_toArray, List.getElem_cons_succ, List.getElem_cons_zero, List.setIfInBounds_toArray, List.set_cons_zero, List.set_cons_succ]
        refine wpAnyH_take (i := 4) (v := ?_) rfl (by kernel_rfl) (by kernel_rfl) (by kernel_rfl) (fun _ _ _ h => h) (Or.inl ⟨by rfl, ?_⟩) (by assumption) ?_
        rotate_left
        · intro W hSw
          obtain ⟨t1, t2, t3⟩ := hSw
          go_simp
          with_reducible rfl
        try simp only [Act.put, List.getElem_toArray, List.getElem_cons_succ, List.getElem_cons_zero, List.setIfInBounds_toArray, List.set_cons_zero, List.set_cons_succ]
        refine wpAnyH_take (i := 5) (v := ?_) rfl (by kernel_rfl) (by kernel_rfl) (by kernel_rfl) (fun _ _ _ h => h) (Or.inl ⟨by rfl, ?_⟩) (by assumption) ?_
        rotate_left
        · intro W hSw
          obtain ⟨t1, t2, t3⟩ := hSw
          go_simp
          with_reducible rfl
        try simp only [Act.put, List.getElem_toArray, List.getElem_cons_succ, List.getElem_cons_zero, List.setIfInBounds_toArray, List.set_cons_zero, List.set_cons_succ]
        refine wpAnyH_take (i := 6) (v := ?_) rfl (by kernel_rfl) (by kernel_rfl) (by kernel_rfl) (fun _ _ _ h => h) (Or.inl ⟨by rfl, ?_⟩) (by assumption) ?_
        rotate_left
        · intro W hSw
          obtain ⟨t1, t2, t3⟩ := hSw
          go_simp
          with_reducible rfl
        try simp only [Act.put, List.getElem_toArray, List.getElem_cons_succ, List.getElem_cons_zero, List.setIfInBounds_toArray, List.set_cons_zero, List.set_cons_succ]
        refine wpAnyH_take (i := 7) (v := ?_) rfl (by kernel_rfl) (by kernel_rfl) (by kernel_rfl) (fun _ _ _ h => h) (Or.inl ⟨by rfl, ?_⟩) (by assumption) ?_
        rotate_left
        · intro W hSw
          obtain ⟨t1, t2, t3⟩ := hSw
          go_simp
          with_reducible rfl
        try simp only [Act.put, List.getElem_toArray, List.getElem_cons_succ, List.getElem_cons_zero, List.setIfInBounds_toArray, List.set_cons_zero, List.set_cons_succ]
        refine wpAnyH_take (i := 8) (v := ?_) rfl (by kernel_rfl) (by kernel_rfl) (by kernel_rfl) (fun _ _ _ h => h) (Or.inl ⟨by rfl, ?_⟩) (by assumption) ?_
        rotate_left
        · intro W hSw
          obtain ⟨t1, t2, t3⟩ := hSw
          go_simp
          with_reducible rfl
        try simp only [Act.put, List.getElem_toArray, List.getElem_cons_succ, List.getElem_cons_zero, List.setIfInBounds_toArray, List.set_cons_zero, List.set_cons_succ]
        refine wpAnyH_take (i := 9) (v := ?_) rfl (by kernel_rfl) (by kernel_rfl) (by kernel_rfl) (fun _ _ _ h => h) (Or.inl ⟨by rfl, ?_⟩) (by assumption) ?_
        rotate_left
        · intro W hSw
          obtain ⟨t1, t2, t3⟩ := hSw
          go_simp
          with_reducible rfl
        try simp only [Act.put, List.getElem_toArray, List.getElem_cons_succ, List.getElem_cons_zero, List.setIfInBounds_toArray, List.set_cons_zero, List.set_cons_succ]
        refine wpAnyH_take (i := 10) (v := ?_) rfl (by kernel_rfl) (by kernel_rfl) (by kernel_rfl) (fun _ _ _ h => h) (Or.inl ⟨by rfl, ?_⟩) (by assumption) ?_
        rotate_left
        · intro W hSw
          obtain ⟨t1, t2, t3⟩ := hSw
          go_simp
          with_reducible rfl
        try simp only [Act.put, List.getElem_toArray, List.getElem_cons_succ, List.getElem_cons_zero, List.setIfInBounds_toArray, List.set_cons_zero, List.set_cons_succ]
        refine wpAnyH_take (i := 11) (v := ?_) rfl (by kernel_rfl) (by kernel_rfl) (by kernel_rfl) (fun _ _ _ h => h) (Or.inl ⟨by rfl, ?_⟩) (by assumption) ?_
        rotate_left
        · intro W hSw
          obtain ⟨t1, t2, t3⟩ := hSw
          go_simp
          with_reducible rfl
        try simp only [Act.put, List.getElem_toArray, List.getElem_cons_succ, List.getElem_cons_zero, List.setIfInBounds_toArray, List.set_cons_zero, List.set_cons_succ]
        refine wpAnyH_take (i := 12) (v := ?_) rfl (by kernel_rfl) (by kernel_rfl) (by kernel_rfl) (fun _ _ _ h => h) (Or.inl ⟨by rfl, ?_⟩) (by assumption) ?_
        rotate_left
        · intro W hSw
          obtain ⟨t1, t2, t3⟩ := hSw
          go_simp
          with_reducible rfl
        try simp only [Act.put, List.getElem_toArray, List.getElem_cons_succ, List.getElem_cons_zero, List.setIfInBounds_toArray, List.set_cons_zero, List.set_cons_succ]
        refine wpAnyH_take (i := 13) (v := ?_) rfl (by kernel_rfl) (by kernel_rfl) (by kernel_rfl) (fun _ _ _ h => h) (Or.inl ⟨by rfl, ?_⟩) (by assumption) ?_
        rotate_left
        · intro W hSw
          obtain ⟨t1, t2, t3⟩ := hSw
          go_simp
          with_reducible rfl
        try simp only [Act.put, List.getElem_toArray, List.getElem_cons_succ, List.getElem_cons_zero, List.setIfInBounds_toArray, List.set_cons_zero, List.set_cons_succ]
        refine wpAnyH_take (i := 14) (v := ?_) rfl (by kernel_rfl) (by kernel_rfl) (by kernel_rfl) (fun _ _ _ h => h) (Or.inl ⟨by rfl, ?_⟩) (by assumption) ?_
        rotate_left
        · intro W hSw
          obtain ⟨t1, t2, t3⟩ := hSw
          go_simp
          with_reducible rfl
        try simp only [Act.put, List.getElem_toArray, List.getElem_cons_succ, List.getElem_cons_zero, List.setIfInBounds_toArray, List.set_cons_zero, List.set_cons_succ]
        refine wpAnyH_take (i := 15) (v := ?_) rfl (by kernel_rfl) (by kernel_rfl) (by kernel_rfl) (fun _ _ _ h => h) (Or.inl ⟨by rfl, ?_⟩) (by assumption) ?_
        rotate_left
        · intro W hSw
          obtain ⟨t1, t2, t3⟩ := hSw
          go_simp
          with_reducible rfl
        try simp only [Act.put, List.getElem_toArray, List.getElem_cons_succ, List.getElem_cons_zero, List.setIfInBounds_toArray, List.set_cons_zero, List.set_cons_succ]
        refine wpAnyH_take (i := 16) (v := ?_) rfl (by kernel_rfl) (by kernel_rfl) (by kernel_rfl) (fun _ _ _ h => h) (Or.inl ⟨by rfl, ?_⟩) (by assumption) ?_
        rotate_left
        · intro W hSw
          obtain ⟨t1, t2, t3⟩ := hSw
          go_simp
          with_reducible rfl
        try simp only [Act.put, List.getElem_toArray, List.getElem_cons_succ, List.getElem_cons_zero, List.setIfInBounds_toArray, List.set_cons_zero, List.set_cons_succ]
        refine wpAnyH_take (i := 17) (v := ?_) rfl (by kernel_rfl) (by kernel_rfl) (by kernel_rfl) (fun _ _ _ h => h) (Or.inl ⟨by rfl, ?_⟩) (by assumption) ?_
        rotate_left
        · intro W hSw
          obtain ⟨t1, t2, t3⟩ := hSw
          go_simp
          with_reducible rfl
        try simp only [Act.put, List.getElem_toArray, List.getElem_cons_succ, List.getElem_cons_zero, List.setIfInBounds_toArray, List.set_cons_zero, List.set_cons_succ]
        refine wpAnyH_ready (rs := [18]) (by kernel_rfl) (by simp) ?_
        refine AllReadyH.cons (o := _) rfl (fun K' hK => ?_) ?_
        · go_simp
          refine (CH.out _ (grown_drew (grown_refl _ _))).mono ?_
          rintro e w9 ⟨ar2, cr2, es2, rfl, ho2, hl2, hc2, hi2, hch2, hg9⟩
          have HL2 : Hid (es2.length = r.P.length) := hl2
          clear hl2
          go_wp2_with fail
          refine hK.out _ _ (hHeld.kept hg9) (fun hHeld => ?_)
          clear hK K'
          try simp only [Act.put, List.getElem_toArray, List.getElem_cons_succ, List.getElem_cons_zero, List.setIfInBounds_toArray, List.set_cons_zero, List.set_cons_succ]
          refine wpAnyH_ready (rs := [19]) (by kernel_rfl) (by simp) ?_
          refine AllReadyH.cons (o := _) rfl (fun K' hK => ?_) ?_
          · have gA := grown_trans (grown_drew (grown_refl _ _)) hg9
            obtain ⟨g3, cr3, w8, hrun8, hX8, hS8⟩ := PX.out w9 ar2 cr2 es2 gA (row_mono ho2 (show w7.heap.size ≤ w7.heap.size from Nat.le_refl _)) HL2.out hc2 hi2 hch2
            have HX8 : Hid _ := hX8
            clear ho2 hc2 hi2 hch2 hX8
            go_simp
            refine hK.out _ _ (hS8) (fun hHeld => ?_)
            clear hK K'
            try simp only [Act.put, List.getElem_toArray, List.getElem_cons_succ, List.getElem_cons_zero, List.setIfInBounds_toArray, List.set_cons_zero, List.set_cons_succ]
            refine wpAnyH_take (i := 20) (v := ?_) rfl (by kernel_rfl) (by kernel_rfl) (by kernel_rfl) (fun _ _ _ h => h) (Or.inl ⟨by rfl, ?_⟩) (by assumption) ?_
            rotate_left
            · intro W hSw
              obtain ⟨t1, t2, t3⟩ := hSw
              go_simp
              with_reducible rfl
            try simp only [Act.put, List.getElem_toArray, List.getElem_cons_succ, List.getElem_cons_zero, List.setIfInBounds_toArray, List.set_cons_zero, List.set_cons_succ]
            refine wpAnyH_done (by kernel_rfl) ?_ _
            go_wp2_with fail
            go_roundw
            case rel => exact ⟨_, _, _, _, rs ++ [(i : Int)], ys ++ es2, by rw [List.length_append]; rfl, by rw [List.length_append], HX8.out⟩
            case measure => simp [lenV]; omega
          exact AllReadyH.nil
        exact AllReadyH.nil

end Go.Proofs.Ytcgkflddipflbaa
