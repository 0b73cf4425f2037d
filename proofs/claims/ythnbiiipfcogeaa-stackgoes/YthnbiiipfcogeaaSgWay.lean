/- The fewest rules that lead to the end: the program's way. (Written by wip/tools/sgway.py.) -/
import Derived.Test.YthnbiiipfcogeaaSgWayD
namespace Go.Proofs.Ythnbiiipfcogeaa
open Go.RowKit Go.Maps
set_option linter.unusedVariables false
set_option linter.unusedSimpArgs false

attribute [local go_sem ↓] appY_fold in
set_option maxHeartbeats 12800000 in
set_option maxRecDepth 100000 in
theorem way_any (L : List Psh) (b c0 en : Nat) (a : Option Addr) (d : Nat) (E : Edg) (az : Option Addr) (cz : Nat) (zs : List Int) (w : World) (h : EdgesAt w b E) (hC : ClosedC L E) (hM : MadeC L E) (hG : GoodSk L) (hP : PushAt w a L) (hc0 : c0 < 3) (hz : Ints w az zs) (hn : zs.length ≤ 20) (hs : OnesSk zs) (hen : en < 6) (hT : readC E c0 zs en ≤ 2000) :
    Calls Try.prog 10 #[.map (some b), .slice a L.length d, .agg #[.int .i64 (c0 : Int), .slice az zs.length cz], .int .i64 (en : Int)] w fun e w' => ∃ a9 k9 c9, e = .returned (.slice a9 k9 c9) ∧ w.grownBy w' none := by
  have HE : Hid (∀ V, w.grownBy V none → EdgesAt V b E) := fun V hV => h.kept hV (by simp)
  have HP : Hid (PushAt w a L) := hP
  have HG : Hid (GoodSk L) := hG
  have HC : Hid (ClosedC L E) := hC
  have HM : Hid (MadeC L E) := hM
  have HT : Hid (Top E) := h.top
  have hL := hG.len
  obtain ⟨T0, hT0⟩ : ∃ T0, readC E c0 zs en = T0 := ⟨_, rfl⟩
  have HT0 : Hid (readC E c0 zs en = T0) := hT0
  rw [hT0] at hT
  obtain ⟨q0, q1⟩ := (cfgB_new w c0 (.slice az zs.length cz)).get
  have CH0 : Hid (∀ V, w.grownBy V none → Calls Try.prog 18 #[.map (some b), .int .i64 (c0 : Int), .slice az zs.length cz, .int .i64 (en : Int)] V (CheapPost E c0 zs en V)) := fun V hV => cheapest_any b c0 en E az cz zs V (HE.out V hV) (by omega) (hz.grown hV) (by omega) hs hen (by rw [hT0]; exact hT)
  clear h hC hM hG hP hz hs hT0
  go_enter Try.func10, Try.ntmps10
  go_wp2_with fail
  refine (CH0.out _ (grown_alloc _ _)).mono ?_
  rintro e w2 ⟨ar, cr, es, rfl, ho, hl, hc, hi, hg2⟩
  have X0 : Hid (WaySt E T0 w b none ar 0 cr [] es w2) := ⟨World.ownsRow_nil _ _ _ _, row_mono ho (by simp), by rw [hc, HT0.out]; rfl, hi, by simp; omega, grown_trans (grown_alloc _ _) hg2⟩
  clear ho hl hc hi hg2 q0 q1 CH0 HT0
  go_wp2_with fail
  go_loopw [9, 10] (fun v9 v10 wr => ∃ (a9 ar : Option Addr) (c9 cr : Nat) (rs : List Int) (es : List Ed3), v9 = .slice a9 rs.length c9 ∧ v10 = .slice ar es.length cr ∧ WaySt E T0 w b a9 ar c9 cr rs es wr) (fun v9 _ _ => 2001 - lenV v9)
  case atStart => exact ⟨none, ar, 0, cr, [], es, rfl, rfl, X0.out⟩
  case round =>
    clear X0
    obtain ⟨a9, ar, c9, cr, rs, es, rfl, rfl, hS⟩ := hrel
    have X : Hid (WaySt E T0 w b a9 ar c9 cr rs es wr) := hS
    have GR : Hid (w.grownBy wr none) := hS.gr
    rcases List.eq_nil_or_concat es with rfl | ⟨ys, top, rfl⟩
    · have h0 : ¬ (0 : Int) < 0 := by omega
      clear hS
      go_wp2_with fail
      go_ret
      first
        | exact GR.out
        | exact ⟨⟨_, _, _, rfl⟩, GR.out⟩
        | exact ⟨⟨_, _, rfl⟩, GR.out⟩
        | exact ⟨⟨_, rfl⟩, GR.out⟩
        | exact ⟨rfl, GR.out⟩
        | exact ⟨_, _, rfl, GR.out⟩
        | exact ⟨_, rfl, GR.out⟩
        | exact ⟨_, _, _, rfl, GR.out⟩
    · obtain ⟨f, s, t⟩ := top
      have hmem : (f, s, t) ∈ ys.concat (f, s, t) := by simp
      obtain ⟨hf, hs3, ht⟩ := hS.ins _ hmem
      have hle := cstE_mem (E := E) hmem
      simp only at hf hs3 ht hle
      have hco := hS.cost
      rw [List.concat_eq_append] at X hS
      have hrun := hS.run
      rw [List.length_append] at hrun
      obtain ⟨g, cap, e1, hBg, hgl⟩ := hrun.form (by simp)
      simp only [Value.slice.injEq] at e1
      obtain ⟨rfl, _, rfl⟩ := e1
      obtain ⟨l0, l1, l2⟩ := edges_last ys (f, s, t)
      have k0 := hrun.cellAt (ys.length * 3) (by rw [List.length_singleton]; omega)
      have k1 := hrun.cellAt (ys.length * 3 + 1) (by rw [List.length_singleton]; omega)
      have k2 := hrun.cellAt (ys.length * 3 + 2) (by rw [List.length_singleton]; omega)
      rw [l0] at k0
      rw [l1] at k1
      rw [l2] at k2
      simp only at k0 k1 k2
      have hfin : E f s t ≤ 2000 := by omega
      have hget := (HE.out wr GR.out).get hf hs3 ht (by omega)
      have hcap : ys.length + 1 ≤ cr := by
        rcases hrun.2 with ⟨h1, _⟩ | ⟨g', cap', cur, h1, _, _, h4, _⟩
        · cases h1
        · cases h1; simpa using h4
      have hlenb := hS.len
      rw [List.length_append] at hlenb
      simp only [List.length_singleton] at hlenb
      have hrs : rs.length ≤ 2000 := by omega
      have hwm : IntKind.i64.wrap ((ys.length : Int) + 1 - 1) = (ys.length : Int) := by rw [IntKind.wrap_i64]; omega
      have hwm2 : IntKind.i64.wrap (ys.length : Int) = (ys.length : Int) := by rw [IntKind.wrap_i64]; omega
      have hpos : (0 : Int) < (ys.length : Int) + 1 := by omega
      have hyi : (ys.length : Int) < (ys.length : Int) + 1 := by omega
      rw [List.length_concat]
      clear hmem hle l0 l1 l2 hrun hS
      by_cases hz0 : E f s t = 0
      · rw [hz0] at hget
        go_wp2_with fail
        go_ret
        first
          | exact GR.out
          | exact ⟨_, _, _, rfl, GR.out⟩
      · have hE0 : (0 : Int) < (E f s t : Int) := by omega
        obtain ⟨W5, hW5⟩ : ∃ W5, W5 = wr.alloc (.cells #[.int .i64 (f : Int), .int .i64 (s : Int), .int .i64 (t : Int)] 50) := ⟨_, rfl⟩
        have HW5 : Hid (W5 = _) := hW5
        have g5 : wr.grownBy W5 none := by rw [hW5]; exact grown_alloc _ _
        have G5 : Hid (wr.grownBy W5 none) := g5
        have B5 : Hid (BoxE W5 wr.heap.size f s t) := by rw [hW5]; exact boxE_new wr f s t
        obtain ⟨p0, p1, p2⟩ := B5.out.get
        rw [hW5] at p0 p1 p2
        have CU : Hid (∀ V, w.grownBy V none → Calls Try.prog 19 #[.map (some b), .slice a L.length d, vE f s t] V (RulePost L E f s t V)) := fun V hV => ruleOf_any L b f s t a d E V (HE.out V hV) HG.out (HP.out.grown hV) hf hs3 ht (by omega) (made_rule HC.out HM.out (by omega) (by omega))
        have HFin : Hid (E f s t ≤ 2000 ∧ E f s t ≠ 0) := ⟨hfin, hz0⟩
        obtain ⟨ec, hec⟩ : ∃ ec, E f s t = ec := ⟨_, rfl⟩
        rw [hec] at hget hE0
        have HEc : Hid (E f s t = ec) := hec
        clear hW5 g5 hz0 hfin hec
        go_wp2_with fail
        rw [← HW5.out]
        refine (CU.out W5 (grown_trans GR.out G5.out)).mono ?_
        rintro e w6 ⟨i, rfl, hi, hg6⟩
        clear HW5 p0 p1 p2 k0 k1 k2 hget
        have G6 : Hid (wr.grownBy w6 none) := grown_trans G5.out hg6
        have X6 := X.out.kept G6.out
        have B6 := B5.out.kept hg6
        obtain ⟨g9, cap9, w7, hrun7, ho7, hg7⟩ := app_rule (x := (i : Int)) X6.rules X6.gr.size (by omega)
        obtain ⟨V7, hV7⟩ : ∃ V7, w6.alloc (.cells #[.int .i64 (i : Int)] 3) = V7 := ⟨_, rfl⟩
        have X7 := X6.kept (grown_alloc w6 (.cells #[.int .i64 (i : Int)] 3))
        have run7 := X7.run.kept hg7 (rows_apart X7.run X7.rules (by decide))
        have gr7 : w.grownBy w7 none := row_frame X7.rules (Nat.le_refl _) X7.gr hg7
        have B7 : BoxE w7 wr.heap.size f s t := by
          have h1 := B6.kept (grown_alloc w6 (.cells #[.int .i64 (i : Int)] 3))
          refine (hg7.block _ h1.lt ?_).trans h1
          intro e
          have := (X.out.rules.lt _ e.symm).2
          omega
        obtain ⟨hiL, hiF, hiT, hiC⟩ := hi
        have hii : (i : Int) < (L.length : Int) := by omega
        obtain ⟨bb, off, hab, hc⟩ := HP.out.at hiL
        obtain ⟨y0, y1, y2, ap, cp, y3, y4, y5⟩ := hc i hiL
        have hpl := HG.out.put i hiL
        obtain ⟨n1, n2, n3, n4⟩ := HG.out.num i hiL
        rw [oneSk_iff] at n3
        obtain ⟨r, hr⟩ : ∃ r, L.getD i pu0 = r := ⟨_, rfl⟩
        rw [hr] at y2 y3 y4 hpl n3 n4 hiC
        obtain ⟨oN, hoN⟩ : ∃ oN : Nat, r.O = (oN : Int) := ⟨r.O.toNat, by omega⟩
        rw [hoN] at y2 hiC
        rw [Int.toNat_natCast] at hiC
        have hrd := sumC_exact (x := readC E oN r.P t) (y := 1) (by rw [hiC]; exact HFin.out.1) (readC_top _ _ _ _) (by omega)
        have hrd2 : readC E oN r.P t + 1 = E f s t := by omega
        have CH : Hid (∀ V, w7.grownBy V none → Calls Try.prog 18 #[.map (some b), .int .i64 (oN : Int), .slice ap r.P.length cp, .int .i64 (t : Int)] V (CheapPost E oN r.P t V)) := fun V hV => cheapest_any b oN t E ap cp r.P V (HE.out V (grown_trans gr7 hV)) (by omega) (y4.grown (grown_trans gr7 hV)) (by omega) n4 ht (by have := HFin.out.1; omega)
        obtain ⟨be, hbe⟩ : ∃ be, wr.heap.size = be := ⟨_, rfl⟩
        rw [hbe] at B7
        have S0 : Hid (SWay bb off i be oN t ap r.P.length cp w7) := ⟨gr7.cell y2 (by simp), gr7.cell y3 (by simp), B7.get.2.2⟩
        have PX : Hid (∀ (V : World) (ar2 : Option Addr) (cr2 : Nat) (es2 : List Ed3), w7.grownBy V none → V.ownsRow w7.heap.size 50 3 (.slice ar2 es2.length cr2) es2.length (edgesL es2) → es2.length = r.P.length → cstE E es2 = readC E oN r.P t → InE es2 → ∃ g3 cr3 w8, (AppY #[54, 54] 54 #[.slice (some ⟨g, 0, none⟩) ys.length cr, .slice ar2 es2.length cr2]).run Try.prog V = .ok (.slice (some ⟨g3, 0, none⟩) (ys.length + es2.length) cr3) w8 ∧ WaySt E T0 w b (some ⟨g9, 0, none⟩) (some ⟨g3, 0, none⟩) cap9 cr3 (rs ++ [(i : Int)]) (ys ++ es2) w8 ∧ SWay bb off i be oN t ap r.P.length cp w8) := fun V ar2 cr2 es2 hV ho2 hl2 hc2 hi2 => by
          have runV := run7.kept hV (.inr (by simp [Value.ownBlock]))
          rw [List.length_append] at runV
          have cutV := row_cut (n' := ys.length) runV (by simp)
          rw [edges_cut] at cutV
          have grV := grown_trans gr7 hV
          obtain ⟨g3, cr3, w8, h1, h2, h3⟩ := app_run cutV grV.size (by omega) ho2
          have gr8 : w.grownBy w8 none := row_frame cutV (Nat.le_refl _) grV h3
          have rulV := ho7.kept hV (.inr (by simp [Value.ownBlock]))
          have rul8 := rulV.kept h3 (rows_apart rulV cutV (by decide))
          have hco2 := X.out.cost
          rw [cstE_app] at hco2
          have e1 : cstE E [(f, s, t)] = E f s t := by unfold cstE; simp
          have bV := B7.kept hV
          have b8 : BoxE w8 be f s t := by
            refine (h3.block be bV.lt ?_).trans bV
            simp only [Value.ownBlock, ne_eq, Option.some.injEq]
            omega
          refine ⟨g3, cr3, w8, h1, ⟨by rw [List.length_append]; exact rul8, by rw [List.length_append]; exact h2, ?_, ?_, ?_, gr8⟩, gr8.cell y2 (by simp), gr8.cell y3 (by simp), b8.get.2.2⟩
          · rw [cstE_app, List.length_append, hc2]
            rw [e1] at hco2
            simp only [List.length_singleton]
            omega
          · intro e he
            rcases List.mem_append.1 he with he | he
            · exact X.out.ins e (List.mem_append_left _ he)
            · exact hi2 e he
          · rw [List.length_append, List.length_append]
            simp only [List.length_singleton]
            omega
        have hhd := head_run g ys.length cr (by omega) (by omega)
        have hmea : rs.length < 2001 := by omega
        clear X6 B6 ho7 hg7 X7 run7 gr7 B7 hiF hiT hiC hc y0 y1 y4 y5 hpl n1 n2 n3 n4 hr hoN hrd hrd2 hg6 hV7
        subst hab
        go_wp2_with fail
        refine wp_region_held_drew (S := SWay bb off i be oN t ap r.P.length cp) (by kernel_rfl) (S0.out.kept (grown_drew (grown_refl _ _))) (fun hHeld => ?_)
        refine wpAnyH_take (i := 0) (v := ?_) rfl (by kernel_rfl) (by kernel_rfl) (by kernel_rfl) (fun _ _ _ h => h) (Or.inl ⟨by rfl, ?_⟩) (by assumption) ?_
        rotate_left
        · intro W hSw
          obtain ⟨t1, t2, t3⟩ := hSw
          go_simp
          with_reducible rfl
        try simp only [Act.put, List.getElem_toArray, List.getElem_cons_succ, List.getElem_cons_zero, List.setIfInBounds_toArray, List.set_cons_zero, List.set_cons_succ]
        refine wpAnyH_take (i := 1) (v := ?_) rfl (by kernel_rfl) (by kernel_rfl) (by kernel_rfl) (fun _ _ _ h => h) (Or.inl ⟨by rfl, ?_⟩) (by assumption) ?_
        rotate_left
        · intro W hSw
          obtain ⟨t1, t2, t3⟩ := hSw
          go_simp
          with_reducible rfl
        try simp only [Act.put, List.getElem_toArray, List.getElem_cons_succ, List.getElem_cons_zero, List.setIfInBounds_toArray, List.set_cons_zero, List.set_cons_succ]
        refine wpAnyH_take (i := 2) (v := ?_) rfl (by kernel_rfl) (by kernel_rfl) (by kernel_rfl) (fun _ _ _ h => h) (Or.inl ⟨by rfl, ?_⟩) (by assumption) ?_
        rotate_left
        · intro W hSw
          obtain ⟨t1, t2, t3⟩ := hSw
          go_simp
          with_reducible rfl
        try simp only [Act.put, List.getElem_toArray, List.getElem_cons_succ, List.getElem_cons_zero, List.setIfInBounds_toArray, List.set_cons_zero, List.set_cons_succ]
        refine wpAnyH_take (i := 3) (v := ?_) rfl (by kernel_rfl) (by kernel_rfl) (by kernel_rfl) (fun _ _ _ h => h) (Or.inl ⟨by rfl, ?_⟩) (by assumption) ?_
        rotate_left
        · intro W hSw
          obtain ⟨t1, t2, t3⟩ := hSw
          go_simp
          with_reducible rfl
        try simp only [Act.put, List.getElem_toArray, List.getElem_cons_succ, List.getElem_cons_zero, List.setIfInBounds_toArray, List.set_cons_zero, List.set_cons_succ]
        refine wpAnyH_take (i := 4) (v := ?_) rfl (by kernel_rfl) (by kernel_rfl) (by kernel_rfl) (fun _ _ _ h => h) (Or.inl ⟨by rfl, ?_⟩) (by assumption) ?_
        rotate_left
        · intro W hSw
          obtain ⟨t1, t2, t3⟩ := hSw
          go_simp
          with_reducible rfl
        try simp only [Act.put, List.getElem_toArray, List.getElem_cons_succ, List.getElem_cons_zero, List.setIfInBounds_toArray, List.set_cons_zero, List.set_cons_succ]
        refine wpAnyH_take (i := 5) (v := ?_) rfl (by kernel_rfl) (by kernel_rfl) (by kernel_rfl) (fun _ _ _ h => h) (Or.inl ⟨by rfl, ?_⟩) (by assumption) ?_
        rotate_left
        · intro W hSw
          obtain ⟨t1, t2, t3⟩ := hSw
          go_simp
          with_reducible rfl
        try simp only [Act.put, List.getElem_toArray, List.getElem_cons_succ, List.getElem_cons_zero, List.setIfInBounds_toArray, List.set_cons_zero, List.set_cons_succ]
        refine wpAnyH_take (i := 6) (v := ?_) rfl (by kernel_rfl) (by kernel_rfl) (by kernel_rfl) (fun _ _ _ h => h) (Or.inl ⟨by rfl, ?_⟩) (by assumption) ?_
        rotate_left
        · intro W hSw
          obtain ⟨t1, t2, t3⟩ := hSw
          go_simp
          with_reducible rfl
        try simp only [Act.put, List.getElem_toArray, List.getElem_cons_succ, List.getElem_cons_zero, List.setIfInBounds_toArray, List.set_cons_zero, List.set_cons_succ]
        refine wpAnyH_take (i := 7) (v := ?_) rfl (by kernel_rfl) (by kernel_rfl) (by kernel_rfl) (fun _ _ _ h => h) (Or.inl ⟨by rfl, ?_⟩) (by assumption) ?_
        rotate_left
        · intro W hSw
          obtain ⟨t1, t2, t3⟩ := hSw
          go_simp
          with_reducible rfl
        try simp only [Act.put, List.getElem_toArray, List.getElem_cons_succ, List.getElem_cons_zero, List.setIfInBounds_toArray, List.set_cons_zero, List.set_cons_succ]
        refine wpAnyH_take (i := 8) (v := ?_) rfl (by kernel_rfl) (by kernel_rfl) (by kernel_rfl) (fun _ _ _ h => h) (Or.inl ⟨by rfl, ?_⟩) (by assumption) ?_
        rotate_left
        · intro W hSw
          obtain ⟨t1, t2, t3⟩ := hSw
          go_simp
          with_reducible rfl
        try simp only [Act.put, List.getElem_toArray, List.getElem_cons_succ, List.getElem_cons_zero, List.setIfInBounds_toArray, List.set_cons_zero, List.set_cons_succ]
        refine wpAnyH_take (i := 9) (v := ?_) rfl (by kernel_rfl) (by kernel_rfl) (by kernel_rfl) (fun _ _ _ h => h) (Or.inl ⟨by rfl, ?_⟩) (by assumption) ?_
        rotate_left
        · intro W hSw
          obtain ⟨t1, t2, t3⟩ := hSw
          go_simp
          with_reducible rfl
        try simp only [Act.put, List.getElem_toArray, List.getElem_cons_succ, List.getElem_cons_zero, List.setIfInBounds_toArray, List.set_cons_zero, List.set_cons_succ]
        refine wpAnyH_take (i := 10) (v := ?_) rfl (by kernel_rfl) (by kernel_rfl) (by kernel_rfl) (fun _ _ _ h => h) (Or.inl ⟨by rfl, ?_⟩) (by assumption) ?_
        rotate_left
        · intro W hSw
          obtain ⟨t1, t2, t3⟩ := hSw
          go_simp
          with_reducible rfl
        try simp only [Act.put, List.getElem_toArray, List.getElem_cons_succ, List.getElem_cons_zero, List.setIfInBounds_toArray, List.set_cons_zero, List.set_cons_succ]
        refine wpAnyH_take (i := 11) (v := ?_) rfl (by kernel_rfl) (by kernel_rfl) (by kernel_rfl) (fun _ _ _ h => h) (Or.inl ⟨by rfl, ?_⟩) (by assumption) ?_
        rotate_left
        · intro W hSw
          obtain ⟨t1, t2, t3⟩ := hSw
          go_simp
          with_reducible rfl
        try simp only [Act.put, List.getElem_toArray, List.getElem_cons_succ, List.getElem_cons_zero, List.setIfInBounds_toArray, List.set_cons_zero, List.set_cons_succ]
        refine wpAnyH_take (i := 12) (v := ?_) rfl (by kernel_rfl) (by kernel_rfl) (by kernel_rfl) (fun _ _ _ h => h) (Or.inl ⟨by rfl, ?_⟩) (by assumption) ?_
        rotate_left
        · intro W hSw
          obtain ⟨t1, t2, t3⟩ := hSw
          go_simp
          with_reducible rfl
        try simp only [Act.put, List.getElem_toArray, List.getElem_cons_succ, List.getElem_cons_zero, List.setIfInBounds_toArray, List.set_cons_zero, List.set_cons_succ]
        refine wpAnyH_take (i := 13) (v := ?_) rfl (by kernel_rfl) (by kernel_rfl) (by kernel_rfl) (fun _ _ _ h => h) (Or.inl ⟨by rfl, ?_⟩) (by assumption) ?_
        rotate_left
        · intro W hSw
          obtain ⟨t1, t2, t3⟩ := hSw
          go_simp
          with_reducible rfl
        try simp only [Act.put, List.getElem_toArray, List.getElem_cons_succ, List.getElem_cons_zero, List.setIfInBounds_toArray, List.set_cons_zero, List.set_cons_succ]
        refine wpAnyH_take (i := 14) (v := ?_) rfl (by kernel_rfl) (by kernel_rfl) (by kernel_rfl) (fun _ _ _ h => h) (Or.inl ⟨by rfl, ?_⟩) (by assumption) ?_
        rotate_left
        · intro W hSw
          obtain ⟨t1, t2, t3⟩ := hSw
          go_simp
          with_reducible rfl
        try simp only [Act.put, List.getElem_toArray, List.getElem_cons_succ, List.getElem_cons_zero, List.setIfInBounds_toArray, List.set_cons_zero, List.set_cons_succ]
        refine wpAnyH_take (i := 15) (v := ?_) rfl (by kernel_rfl) (by kernel_rfl) (by kernel_rfl) (fun _ _ _ h => h) (Or.inl ⟨by rfl, ?_⟩) (by assumption) ?_
        rotate_left
        · intro W hSw
          obtain ⟨t1, t2, t3⟩ := hSw
          go_simp
          with_reducible rfl
        try simp only [Act.put, List.getElem_toArray, List.getElem_cons_succ, List.getElem_cons_zero, List.setIfInBounds_toArray, List.set_cons_zero, List.set_cons_succ]
        refine wpAnyH_take (i := 16) (v := ?_) rfl (by kernel_rfl) (by kernel_rfl) (by kernel_rfl) (fun _ _ _ h => h) (Or.inl ⟨by rfl, ?_⟩) (by assumption) ?_
        rotate_left
        · intro W hSw
          obtain ⟨t1, t2, t3⟩ := hSw
          go_simp
          with_reducible rfl
        try simp only [Act.put, List.getElem_toArray, List.getElem_cons_succ, List.getElem_cons_zero, List.setIfInBounds_toArray, List.set_cons_zero, List.set_cons_succ]
        refine wpAnyH_take (i := 17) (v := ?_) rfl (by kernel_rfl) (by kernel_rfl) (by kernel_rfl) (fun _ _ _ h => h) (Or.inl ⟨by rfl, ?_⟩) (by assumption) ?_
        rotate_left
        · intro W hSw
          obtain ⟨t1, t2, t3⟩ := hSw
          go_simp
          with_reducible rfl
        try simp only [Act.put, List.getElem_toArray, List.getElem_cons_succ, List.getElem_cons_zero, List.setIfInBounds_toArray, List.set_cons_zero, List.set_cons_succ]
        refine wpAnyH_ready (rs := [18]) (by kernel_rfl) (by simp) ?_
        refine AllReadyH.cons (o := _) rfl (fun K' hK => ?_) ?_
        · go_simp
          refine (CH.out _ (grown_drew (grown_refl _ _))).mono ?_
          rintro e w9 ⟨ar2, cr2, es2, rfl, ho2, hl2, hc2, hi2, hg9⟩
          have HL2 : Hid (es2.length = r.P.length) := hl2
          clear hl2
          go_wp2_with fail
          refine hK.out _ _ (hHeld.kept hg9) (fun hHeld => ?_)
          clear hK K'
          try simp only [Act.put, List.getElem_toArray, List.getElem_cons_succ, List.getElem_cons_zero, List.setIfInBounds_toArray, List.set_cons_zero, List.set_cons_succ]
          refine wpAnyH_ready (rs := [19]) (by kernel_rfl) (by simp) ?_
          refine AllReadyH.cons (o := _) rfl (fun K' hK => ?_) ?_
          · have gA := grown_trans (grown_drew (grown_refl _ _)) hg9
            obtain ⟨g3, cr3, w8, hrun8, hX8, hS8⟩ := PX.out w9 ar2 cr2 es2 gA (row_mono ho2 (show w7.heap.size ≤ w7.heap.size from Nat.le_refl _)) HL2.out hc2 hi2
            have HX8 : Hid _ := hX8
            clear ho2 hc2 hi2 hX8
            go_simp
            refine hK.out _ _ (hS8) (fun hHeld => ?_)
            clear hK K'
            try simp only [Act.put, List.getElem_toArray, List.getElem_cons_succ, List.getElem_cons_zero, List.setIfInBounds_toArray, List.set_cons_zero, List.set_cons_succ]
            refine wpAnyH_take (i := 20) (v := ?_) rfl (by kernel_rfl) (by kernel_rfl) (by kernel_rfl) (fun _ _ _ h => h) (Or.inl ⟨by rfl, ?_⟩) (by assumption) ?_
            rotate_left
            · intro W hSw
              obtain ⟨t1, t2, t3⟩ := hSw
              go_simp
              with_reducible rfl
            try simp only [Act.put, List.getElem_toArray, List.getElem_cons_succ, List.getElem_cons_zero, List.setIfInBounds_toArray, List.set_cons_zero, List.set_cons_succ]
            refine wpAnyH_done (by kernel_rfl) ?_ _
            go_wp2_with fail
            go_roundw
            case rel => exact ⟨_, _, _, _, rs ++ [(i : Int)], ys ++ es2, by rw [List.length_append]; rfl, by rw [List.length_append], HX8.out⟩
            case measure => simp [lenV]; omega
          exact AllReadyH.nil
        exact AllReadyH.nil

end Go.Proofs.Ythnbiiipfcogeaa
