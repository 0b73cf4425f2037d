/- Edges that read signs at the least cost: the program's cheapest. (Written by wip/tools/sgcheap.py.) -/
/- A rule by which an edge came to its cost: the program's ruleOf. (Written by wip/tools/sgrule.py.) -/
import Derived.Test.YtcgkflddipflbaaSgT
import Derived.Deep.CutRange
import Derived.Deep.DeepCutAuto
namespace Go.Proofs.Ytcgkflddipflbaa
open Go.RowKit Go.Maps
set_option linter.unusedVariables false
set_option linter.unusedSimpArgs false

/-- Edges in a row. -/
def edgesL (es : List Ed3) : List Value := es.flatMap fun e => [.int .i64 (e.1 : Int), .int .i64 (e.2.1 : Int), .int .i64 (e.2.2 : Int)]
theorem edgesL_len (es : List Ed3) : (edgesL es).length = es.length * 3 := by
  unfold edgesL
  induction es with
  | nil => rfl
  | cons e es ih => rw [List.flatMap_cons, List.length_append, ih]; simp; omega
theorem edgesL_app (xs ys : List Ed3) : edgesL (xs ++ ys) = edgesL xs ++ edgesL ys := by unfold edgesL; rw [List.flatMap_append]
theorem edgesL_one {es : List Ed3} {u : Value} (h : u ∈ edgesL es) : u.oneCell' = true := by
  unfold edgesL at h
  obtain ⟨e, _, h2⟩ := List.mem_flatMap.1 h
  simp at h2
  rcases h2 with rfl | rfl | rfl <;> rfl
theorem Try.infoEd : (Try.prog.info? 66).map (fun i => (i.zero, i.size, i.bytes)) = some (some (.agg #[.int .i64 0, .int .i64 0, .int .i64 0]), 3, 24) := by kernel_rfl
/-- Edges are put behind edges. -/
theorem app_edges {w : World} {B c : Nat} {v : Value} {es ys : List Ed3} {ad : Addr} (ho : w.ownsRow B 66 3 v es.length (edgesL es)) (hB : B ≤ w.heap.size) (hl : es.length + ys.length ≤ 100000) (hm : 0 < ys.length) (hy : ∀ j u, (edgesL ys)[j]? = some u → w.cell? (ad.add j) = some u) :
    ∃ g cap w', (AppY #[70, 70] 70 #[v, .slice (some ad) ys.length c]).run Try.prog w = .ok (.slice (some ⟨g, 0, none⟩) (es.length + ys.length) cap) w' ∧
      w'.ownsRow B 66 3 (.slice (some ⟨g, 0, none⟩) (es.length + ys.length) cap) (es.length + ys.length) (edgesL (es ++ ys)) ∧ w.grownBy w' v.ownBlock := by
  obtain ⟨i0, hi0, hz0, hz1, hz2⟩ := info_partsY Try.infoEd
  obtain ⟨g, cap, w', h1, h2, h3, _⟩ := run_append_lies (P := Try.prog) w 70 70 B 66 i0 (.agg #[.int .i64 0, .int .i64 0, .int .i64 0]) 3 24 Try.underlying70 hi0 hz0 hz1 hz2 rfl (by decide) v es.length (edgesL es) ho ad ys.length c (edgesL ys) (edgesL_len ys) hy (fun u hu => edgesL_one hu) hm (by unfold maxLen; omega) (by omega) hB _ rfl
  rw [← edgesL_app] at h2
  exact ⟨g, cap, w', h1, h2, h3⟩
theorem app_edge {w : World} {B f s t : Nat} {v : Value} {es : List Ed3} (ho : w.ownsRow B 66 3 v es.length (edgesL es)) (hB : B ≤ w.heap.size) (hl : es.length ≤ 1000) :
    ∃ g cap w', (AppY #[70, 70] 70 #[v, .slice (some ⟨w.heap.size, 0, none⟩) 1 1]).run Try.prog (w.alloc (.cells #[.int .i64 (f : Int), .int .i64 (s : Int), .int .i64 (t : Int)] 66)) = .ok (.slice (some ⟨g, 0, none⟩) (es.length + 1) cap) w' ∧
      w'.ownsRow B 66 3 (.slice (some ⟨g, 0, none⟩) (es.length + 1) cap) (es.length + 1) (edgesL (es ++ [(f, s, t)])) ∧ (w.alloc (.cells #[.int .i64 (f : Int), .int .i64 (s : Int), .int .i64 (t : Int)] 66)).grownBy w' v.ownBlock :=
  app_edges (ys := [(f, s, t)]) (ho.kept (grown_alloc _ _) (by cases v.ownBlock <;> simp)) (by simp; omega) (by simp; omega) (by simp) (fun j u hu => by
    have e : (⟨w.heap.size, 0, none⟩ : Addr).add j = ⟨w.heap.size, j, none⟩ := by by_cases hj0 : j = 0 <;> simp [Addr.add, hj0]
    rw [e, cell_of_row _ _ j _ _ (0, 0) (heap_alloc_new w _), ← hu]
    simp [edgesL])

def S6 (g bz oz k t s cc0 : Nat) (r : Nat → Nat) (W : World) : Prop := W.cell? ⟨g, k * 6, none⟩ = some (.int .i64 (r 0 : Int)) ∧ W.cell? ⟨g, k * 6 + 1, none⟩ = some (.int .i64 (r 1 : Int)) ∧ W.cell? ⟨g, k * 6 + 2, none⟩ = some (.int .i64 (r 2 : Int)) ∧ W.cell? ⟨g, k * 6 + 3, none⟩ = some (.int .i64 (r 3 : Int)) ∧ W.cell? ⟨g, k * 6 + 4, none⟩ = some (.int .i64 (r 4 : Int)) ∧ W.cell? ⟨g, k * 6 + 5, none⟩ = some (.int .i64 (r 5 : Int)) ∧ W.cell? ⟨g, (k + 1) * 6 + t, none⟩ = some (.int .i64 (cc0 : Int)) ∧ W.cell? ⟨bz, oz + k, none⟩ = some (.int .i64 (s : Int))
theorem S6.kept {g bz oz k t s cc0 : Nat} {r : Nat → Nat} {W W' : World} (h : S6 g bz oz k t s cc0 r W) (hg : W.grownBy W' none) : S6 g bz oz k t s cc0 r W' := by
  obtain ⟨h1, h2, h3, h4, h5, h6, h7, h8⟩ := h
  exact ⟨hg.cell h1 (by simp), hg.cell h2 (by simp), hg.cell h3 (by simp), hg.cell h4 (by simp), hg.cell h5 (by simp), hg.cell h6 (by simp), hg.cell h7 (by simp), hg.cell h8 (by simp)⟩
/-- A box for an edge has been made. -/
def MidE (W1 : World) (s t : Nat) (P : Nat → Prop) (v : Value) (W : World) : Prop := ∃ b f, v = .pointer (some ⟨b, 0, none⟩) ∧ BoxE W b f s t ∧ P f ∧ W1.grownBy W none ∧ W1.heap.size ≤ b
theorem MidE.gr {W1 W : World} {s t : Nat} {P : Nat → Prop} {v : Value} (h : MidE W1 s t P v W) : W1.grownBy W none := by obtain ⟨_, _, _, _, _, h, _⟩ := h; exact h
abbrev zEdg : Obj := .cells #[.int .i64 0, .int .i64 0, .int .i64 0] 66
abbrev nEdg (f s t : Nat) : Obj := .cells #[.int .i64 (f : Int), .int .i64 (s : Int), .int .i64 (t : Int)] 66
theorem boxe_z {W1 w9 : World} (hg : (W1.alloc zEdg).drew.grownBy w9 none) : BoxE w9 W1.heap.size 0 0 0 :=
  ((show BoxE (W1.alloc zEdg) W1.heap.size 0 0 0 from heap_alloc_new W1 _).kept (grown_drew (grown_refl _ _))).kept hg
theorem mide_1 {W1 w9 : World} {f s t : Nat} {P : Nat → Prop} (hP : P f) (hg : W1.drew.grownBy w9 none) : MidE W1 s t P (.pointer (some ⟨w9.heap.size, 0, none⟩)) (w9.alloc (nEdg f s t)) := by
  have gg : W1.grownBy w9 none := grown_trans (grown_drew (grown_refl _ _)) hg
  exact ⟨_, f, rfl, heap_alloc_new w9 _, hP, grown_trans gg (grown_alloc _ _), gg.size⟩
theorem mide_2 {W1 w9 : World} {f s t : Nat} {P : Nat → Prop} (hP : P f) (hg : (W1.alloc zEdg).drew.grownBy w9 none) {F : World} (e : F = ((w9.setCell ⟨W1.heap.size, 0, none⟩ (.int .i64 (f : Int))).setCell ⟨W1.heap.size, 1, none⟩ (.int .i64 (s : Int))).setCell ⟨W1.heap.size, 2, none⟩ (.int .i64 (t : Int))) : MidE W1 s t P (.pointer (some ⟨W1.heap.size, 0, none⟩)) F := by
  have c := boxe_z hg
  have gg : W1.grownBy w9 none := grown_trans (grown_trans (grown_alloc _ _) (grown_drew (grown_refl _ _))) hg
  obtain ⟨V, hV, h1, h2⟩ := boxE_store c f s t
  rw [← hV] at e
  subst e
  exact ⟨_, f, rfl, h1, hP, grown_new gg h2 (Nat.le_refl _), Nat.le_refl _⟩

theorem row_mono {w : World} {B B' : Nat} {e : TypeId} {size : Nat} {v : Value} {n : Nat} {xs : List Value} (h : w.ownsRow B e size v n xs) (hb : B' ≤ B) : w.ownsRow B' e size v n xs := by
  refine ⟨h.1, ?_⟩
  rcases h.2 with h1 | ⟨g, cap, cur, h1, h2, h3⟩
  · exact .inl h1
  · exact .inr ⟨g, cap, cur, h1, Nat.le_trans hb h2, h3⟩
/-- What cheapest leaves behind. -/
def CheapPost (E : Edg) (a : Nat) (zs : List Int) (tz : Nat) (w : World) (e : Ending) (w' : World) : Prop := ∃ (ar : Option Addr) (cr : Nat) (es : List Ed3), e = .returned (.slice ar es.length cr) ∧ w'.ownsRow w.heap.size 66 3 (.slice ar es.length cr) es.length (edgesL es) ∧ es.length = zs.length ∧ cstE E es = readC E a zs tz ∧ InE es ∧ ChainE a es.reverse zs tz ∧ w.grownBy w' none

attribute [local go_sem ↓] appY_fold in
set_option maxHeartbeats 6400000 in
set_option maxRecDepth 100000 in
theorem cheapest_any (b a tz : Nat) (E : Edg) (az : Option Addr) (cz : Nat) (zs : List Int) (w : World) (h : EdgesAt w b E) (ha : a < 6) (hz : Ints w az zs) (hn : zs.length ≤ 100) (hs : OnesSk zs) (hto : tz < 6) (hC : readC E a zs tz ≤ 2000) :
    Calls Try.prog 31 #[.map (some b), .int .i64 (a : Int), .slice az zs.length cz, .int .i64 (tz : Int)] w (CheapPost E a zs tz w) := by
  have HE : Hid (∀ V, w.grownBy V none → EdgesAt V b E) := fun V hV => h.kept hV (by simp)
  have HT : Hid (Top E) := h.top
  have HZ : Hid (Ints w az zs) := hz
  have HS : Hid (OnesSk zs) := hs
  have CR : Hid (Calls Try.prog 30 #[.map (some b), .int .i64 (a : Int), .slice az zs.length cz] w (ReadsPost E a zs w)) := reads_any b a E az cz zs w h ha hz hn hs
  obtain ⟨R, hR⟩ : ∃ R : Nat → Nat → Nat, (fun i => readC E a (zs.take i)) = R := ⟨_, rfl⟩
  have HR : Hid (∀ i, readC E a (zs.take i) = R i) := fun i => by rw [← hR]
  have HR0 : Hid (R 0 = row0 a) := by show _ = _; rw [← hR]; exact readC_zero E a zs
  have HRs : Hid (∀ k, k < zs.length → R (k + 1) = byC E (R k) (zs.getD k 0)) := fun k hk => by rw [← hR]; exact readC_take E a zs hk
  have HRt : Hid (∀ k f, R k f ≤ 2002) := fun k f => by rw [← hR]; exact readC_top E a _ f
  have HRn : Hid (R zs.length tz = readC E a zs tz ∧ R zs.length tz ≤ 2000) := by
    have e : R zs.length = readC E a zs := by rw [← hR]; simp
    rw [e]; exact ⟨rfl, hC⟩
  have hwn : IntKind.i64.wrap ((zs.length : Int) - 1) = (zs.length : Int) - 1 := by rw [IntKind.wrap_i64]; omega
  clear h hz hs hR hC
  go_enter Try.func31, Try.ntmps31
  go_wp2_with fail
  refine CR.out.mono ?_
  rintro e w2 ⟨g, cap, rfl, hcl, hle, hg2⟩
  have HCl : Hid (∀ i, i ≤ zs.length → ∀ j, j < 6 → w2.cell? ⟨g, i * 6 + j, none⟩ = some (.int .i64 (R i j : Int))) := fun i hi j hj => by rw [hcl i hi j hj, HR.out i]
  have G2 : Hid (w.grownBy w2 none) := hg2
  clear hcl hle hg2 CR
  go_wp2_with fail
  go_loopw [3, 9, 11] (fun v3 v9 u wr => ∃ (k : Nat) (x : Int) (t : Nat) (ar : Option Addr) (cr : Nat) (es : List Ed3), k ≤ zs.length ∧ x = (k : Int) - 1 ∧ u = .int .i64 x ∧ v3 = .int .i64 t ∧ t < 6 ∧ v9 = .slice ar es.length cr ∧ wr.ownsRow w2.heap.size 66 3 (.slice ar es.length cr) es.length (edgesL es) ∧ es.length + k = zs.length ∧ R k t + cstE E es = R zs.length tz ∧ InE es ∧ ChainE t es.reverse (zs.drop k) tz ∧ w2.grownBy wr none) (fun _ _ u _ => (intOf u + 1).toNat)
  case atStart => exact ⟨zs.length, _, tz, none, 0, [], Nat.le_refl _, rfl, rfl, rfl, hto, rfl, World.ownsRow_nil _ _ _ _, by simp, rfl, (fun e he => by simp at he), (by rw [List.drop_length]; exact rfl), grown_refl _ _⟩
  case round =>
    clear hwn
    obtain ⟨k, x, t, ar, cr, es, hk, hx, rfl, rfl, ht, rfl, ho, hel, hcost, hin, hch, hg⟩ := hrel
    have HCh : Hid (ChainE t es.reverse (zs.drop k) tz) := hch
    clear hch
    have O : Hid (wr.ownsRow w2.heap.size 66 3 (.slice ar es.length cr) es.length (edgesL es)) := ho
    have G : Hid (w2.grownBy wr none) := hg
    have HIn : Hid (InE es) := hin
    have HCo : Hid (R k t + cstE E es = R zs.length tz) := hcost
    clear ho hin hcost
    cases k with
    | succ k =>
      obtain rfl : x = (k : Int) := by omega
      have hx0 : (0 : Int) ≤ (k : Int) := by omega
      have hkz : k < zs.length := by omega
      have hki : (k : Int) < (zs.length : Int) := by omega
      have hki1 : (k : Int) < (zs.length : Int) + 1 := by omega
      have hki3 : (0 : Int) ≤ (k : Int) + 1 := by omega
      have hki2 : (k : Int) + 1 < (zs.length : Int) + 1 := by omega
      have hti : (t : Int) < 6 := by omega
      have hw1 : IntKind.i64.wrap ((k : Int) + 1) = (k : Int) + 1 := by rw [IntKind.wrap_i64]; omega
      have hw2 : IntKind.i64.wrap ((k : Int) - 1) = (k : Int) - 1 := by rw [IntKind.wrap_i64]; omega
      obtain ⟨bz, oz, rfl, hcz⟩ := HZ.out.at hkz
      have hzc := (grown_trans G2.out hg).cell (hcz k hkz) (by simp)
      obtain ⟨s1, s2⟩ := (oneSk_iff _).1 (HS.out k hkz)
      obtain ⟨s, hs⟩ : ∃ s : Nat, zs.getD k 0 = (s : Int) := ⟨(zs.getD k 0).toNat, by omega⟩
      rw [hs] at hzc
      have hs3 : s < 3 := by omega
      obtain ⟨q0, q1, q2, q3, q4, q5⟩ := six_loads (fun j hj => hg.cell (HCl.out k (by omega) j hj) (by simp))
      have q6 := hg.cell (HCl.out (k + 1) (by omega) t ht) (by simp)
      obtain ⟨cc0, hcc⟩ : ∃ cc0, R (k + 1) t = cc0 := ⟨_, rfl⟩
      rw [hcc] at q6
      have hc2 : cc0 ≤ 2002 := by rw [← hcc]; exact HRt.out _ _
      have S0 : Hid (S6 g bz oz k t s cc0 (R k) wr) := ⟨q0, q1, q2, q3, q4, q5, q6, hzc⟩
      have CL : Hid (∀ V, wr.grownBy V none → Calls Try.prog 40 #[.map (some b), rV (R k), .int .i64 (s : Int), .int .i64 (t : Int), .int .i64 (cc0 : Int)] V (LastPost E (R k) s t cc0 V)) := fun V hV => lastOf_any b s t cc0 E (R k) V (HE.out V (grown_trans G2.out (grown_trans hg hV))) (HRt.out k) (by omega) ht hc2
      have CP : Hid (∀ f, f < 6 → ((∃ j, j < 6 ∧ sumC (R k j) (E j s t) = cc0) → sumC (R k f) (E f s t) = cc0) → f < 6 ∧ R k f + E f s t = cc0) := fun f hf hP => by
        have hby : byC E (R k) (s : Int) t = cc0 := by rw [← hcc, HRs.out k hkz, hs]
        have hle : cc0 ≤ 2000 := by have := HCo.out; have := HRn.out.2; omega
        refine ⟨hf, ?_⟩
        have := last_cost (E := E) (row := R k) (s := (s : Int)) (t := t) (f := f) HT.out (HRt.out k) (by omega) (by rw [hby, Int.toNat_natCast]; exact hP)
        rw [hby, Int.toNat_natCast] at this
        exact this
      have HN : Hid (∀ f, f < 6 ∧ R k f + E f s t = cc0 → es.length + 1 + k = zs.length ∧ R k f + cstE E (es ++ [(f, s, t)]) = R zs.length tz ∧ InE (es ++ [(f, s, t)]) ∧ ChainE f (es ++ [(f, s, t)]).reverse (zs.drop k) tz) := fun f hf => by
        refine ⟨by omega, ?_, fun e he => ?_, ?_⟩
        · rw [cstE_app]
          have e1 : cstE E [(f, s, t)] = E f s t := by unfold cstE; simp
          have := HCo.out
          rw [hcc] at this
          rw [e1]; omega
        · rcases List.mem_append.1 he with he | he
          · exact HIn.out e he
          · simp at he; subst he; exact ⟨hf.1, hs3, ht⟩
        · have e1 : zs.drop k = zs.getD k 0 :: zs.drop (k + 1) := by rw [List.drop_eq_getElem_cons hkz]; simp [List.getD, hkz]
          rw [e1, hs, List.reverse_append]
          exact ⟨rfl, (Int.toNat_natCast s).symm, HCh.out⟩
      have hel2 : es.length ≤ 100 := by omega
      clear q0 q1 q2 q3 q4 q5 q6 hzc hcz s1 s2 hs hcc hg hx hs3
      go_wp2_with fail
      go_cut [12] (fun v wc => MidE wr s t (fun f => f < 6 ∧ R k f + E f s t = cc0) v wc)
      case first =>
        refine wp_region_held_drew (S := S6 g bz oz k t s cc0 (R k)) (by kernel_rfl) (S0.out.kept (grown_drew (grown_refl _ _))) (fun hHeld => ?_)
        refine wpAnyH_take (i := 0) (v := ?_) rfl (by kernel_rfl) (by kernel_rfl) (by kernel_rfl) (fun _ _ _ h => h) (Or.inl ⟨by rfl, ?_⟩) (by assumption) ?_
        rotate_left
        · intro W hSw
          obtain ⟨t1, t2, t3, t4, t5, t6, t7, t8⟩ := hSw
          go_simp
          with_reducible rfl
        try simp only [Act.put, List.getElem_toArray, List.getElem_cons_succ, List.getElem_cons_zero, List.setIfInBounds_toArray, List.set_cons_zero, List.set_cons_succ]
        refine wpAnyH_take (i := 1) (v := ?_) rfl (by kernel_rfl) (by kernel_rfl) (by kernel_rfl) (fun _ _ _ h => h) (Or.inl ⟨by rfl, ?_⟩) (by assumption) ?_
        rotate_left
        · intro W hSw
          obtain ⟨t1, t2, t3, t4, t5, t6, t7, t8⟩ := hSw
          go_simp
          with_reducible rfl
        try simp only [Act.put, List.getElem_toArray, List.getElem_cons_succ, List.getElem_cons_zero, List.setIfInBounds_toArray, List.set_cons_zero, List.set_cons_succ]
        refine wpAnyH_take (i := 2) (v := ?_) rfl (by kernel_rfl) (by kernel_rfl) (by kernel_rfl) (fun _ _ _ h => h) (Or.inl ⟨by rfl, ?_⟩) (by assumption) ?_
        rotate_left
        · intro W hSw
          obtain ⟨t1, t2, t3, t4, t5, t6, t7, t8⟩ := hSw
          go_simp
          with_reducible rfl
        try simp only [Act.put, List.getElem_toArray, List.getElem_cons_succ, List.getElem_cons_zero, List.setIfInBounds_toArray, List.set_cons_zero, List.set_cons_succ]
        refine wpAnyH_take (i := 3) (v := ?_) rfl (by kernel_rfl) (by kernel_rfl) (by kernel_rfl) (fun _ _ _ h => h) (Or.inl ⟨by rfl, ?_⟩) (by assumption) ?_
        rotate_left
        · intro W hSw
          obtain ⟨t1, t2, t3, t4, t5, t6, t7, t8⟩ := hSw
          go_simp
          with_reducible rfl
        try simp only [Act.put, List.getElem_toArray, List.getElem_cons_succ, List.getElem_cons_zero, List.setIfInBounds_toArray, List.set_cons_zero, List.set_cons_succ]
        refine wpAnyH_take (i := 4) (v := ?_) rfl (by kernel_rfl) (by kernel_rfl) (by kernel_rfl) (fun _ _ _ h => h) (Or.inl ⟨by rfl, ?_⟩) (by assumption) ?_
        rotate_left
        · intro W hSw
          obtain ⟨t1, t2, t3, t4, t5, t6, t7, t8⟩ := hSw
          go_simp
          with_reducible rfl
        try simp only [Act.put, List.getElem_toArray, List.getElem_cons_succ, List.getElem_cons_zero, List.setIfInBounds_toArray, List.set_cons_zero, List.set_cons_succ]
        refine wpAnyH_take (i := 5) (v := ?_) rfl (by kernel_rfl) (by kernel_rfl) (by kernel_rfl) (fun _ _ _ h => h) (Or.inl ⟨by rfl, ?_⟩) (by assumption) ?_
        rotate_left
        · intro W hSw
          obtain ⟨t1, t2, t3, t4, t5, t6, t7, t8⟩ := hSw
          go_simp
          with_reducible rfl
        try simp only [Act.put, List.getElem_toArray, List.getElem_cons_succ, List.getElem_cons_zero, List.setIfInBounds_toArray, List.set_cons_zero, List.set_cons_succ]
        refine wpAnyH_take (i := 6) (v := ?_) rfl (by kernel_rfl) (by kernel_rfl) (by kernel_rfl) (fun _ _ _ h => h) (Or.inl ⟨by rfl, ?_⟩) (by assumption) ?_
        rotate_left
        · intro W hSw
          obtain ⟨t1, t2, t3, t4, t5, t6, t7, t8⟩ := hSw
          go_simp
          with_reducible rfl
        try simp only [Act.put, List.getElem_toArray, List.getElem_cons_succ, List.getElem_cons_zero, List.setIfInBounds_toArray, List.set_cons_zero, List.set_cons_succ]
        refine wpAnyH_take (i := 7) (v := ?_) rfl (by kernel_rfl) (by kernel_rfl) (by kernel_rfl) (fun _ _ _ h => h) (Or.inl ⟨by rfl, ?_⟩) (by assumption) ?_
        rotate_left
        · intro W hSw
          obtain ⟨t1, t2, t3, t4, t5, t6, t7, t8⟩ := hSw
          go_simp
          with_reducible rfl
        try simp only [Act.put, List.getElem_toArray, List.getElem_cons_succ, List.getElem_cons_zero, List.setIfInBounds_toArray, List.set_cons_zero, List.set_cons_succ]
        refine wpAnyH_take (i := 8) (v := ?_) rfl (by kernel_rfl) (by kernel_rfl) (by kernel_rfl) (fun _ _ _ h => h) (Or.inl ⟨by rfl, ?_⟩) (by assumption) ?_
        rotate_left
        · intro W hSw
          obtain ⟨t1, t2, t3, t4, t5, t6, t7, t8⟩ := hSw
          go_simp
          with_reducible rfl
        try simp only [Act.put, List.getElem_toArray, List.getElem_cons_succ, List.getElem_cons_zero, List.setIfInBounds_toArray, List.set_cons_zero, List.set_cons_succ]
        refine wpAnyH_take (i := 9) (v := ?_) rfl (by kernel_rfl) (by kernel_rfl) (by kernel_rfl) (fun _ _ _ h => h) (Or.inl ⟨by rfl, ?_⟩) (by assumption) ?_
        rotate_left
        · intro W hSw
          obtain ⟨t1, t2, t3, t4, t5, t6, t7, t8⟩ := hSw
          go_simp
          with_reducible rfl
        try simp only [Act.put, List.getElem_toArray, List.getElem_cons_succ, List.getElem_cons_zero, List.setIfInBounds_toArray, List.set_cons_zero, List.set_cons_succ]
        refine wpAnyH_take (i := 10) (v := ?_) rfl (by kernel_rfl) (by kernel_rfl) (by kernel_rfl) (fun _ _ _ h => h) (Or.inl ⟨by rfl, ?_⟩) (by assumption) ?_
        rotate_left
        · intro W hSw
          obtain ⟨t1, t2, t3, t4, t5, t6, t7, t8⟩ := hSw
          go_simp
          with_reducible rfl
        try simp only [Act.put, List.getElem_toArray, List.getElem_cons_succ, List.getElem_cons_zero, List.setIfInBounds_toArray, List.set_cons_zero, List.set_cons_succ]
        refine wpAnyH_take (i := 11) (v := ?_) rfl (by kernel_rfl) (by kernel_rfl) (by kernel_rfl) (fun _ _ _ h => h) (Or.inl ⟨by rfl, ?_⟩) (by assumption) ?_
        rotate_left
        · intro W hSw
          obtain ⟨t1, t2, t3, t4, t5, t6, t7, t8⟩ := hSw
          go_simp
          with_reducible rfl
        try simp only [Act.put, List.getElem_toArray, List.getElem_cons_succ, List.getElem_cons_zero, List.setIfInBounds_toArray, List.set_cons_zero, List.set_cons_succ]
        refine wpAnyH_take (i := 12) (v := ?_) rfl (by kernel_rfl) (by kernel_rfl) (by kernel_rfl) (fun _ _ _ h => h) (Or.inl ⟨by rfl, ?_⟩) (by assumption) ?_
        rotate_left
        · intro W hSw
          obtain ⟨t1, t2, t3, t4, t5, t6, t7, t8⟩ := hSw
          go_simp
          with_reducible rfl
        try simp only [Act.put, List.getElem_toArray, List.getElem_cons_succ, List.getElem_cons_zero, List.setIfInBounds_toArray, List.set_cons_zero, List.set_cons_succ]
        refine wpAnyH_take (i := 13) (v := ?_) rfl (by kernel_rfl) (by kernel_rfl) (by kernel_rfl) (fun _ _ _ h => h) (Or.inl ⟨by rfl, ?_⟩) (by assumption) ?_
        rotate_left
        · intro W hSw
          obtain ⟨t1, t2, t3, t4, t5, t6, t7, t8⟩ := hSw
          go_simp
          with_reducible rfl
        try simp only [Act.put, List.getElem_toArray, List.getElem_cons_succ, List.getElem_cons_zero, List.setIfInBounds_toArray, List.set_cons_zero, List.set_cons_succ]
        refine wpAnyH_take (i := 14) (v := ?_) rfl (by kernel_rfl) (by kernel_rfl) (by kernel_rfl) (fun _ _ _ h => h) (Or.inl ⟨by rfl, ?_⟩) (by assumption) ?_
        rotate_left
        · intro W hSw
          obtain ⟨t1, t2, t3, t4, t5, t6, t7, t8⟩ := hSw
          go_simp
          with_reducible rfl
        try simp only [Act.put, List.getElem_toArray, List.getElem_cons_succ, List.getElem_cons_zero, List.setIfInBounds_toArray, List.set_cons_zero, List.set_cons_succ]
        refine wpAnyH_take (i := 15) (v := ?_) rfl (by kernel_rfl) (by kernel_rfl) (by kernel_rfl) (fun _ _ _ h => h) (Or.inl ⟨by rfl, ?_⟩) (by assumption) ?_
        rotate_left
        · intro W hSw
          obtain ⟨t1, t2, t3, t4, t5, t6, t7, t8⟩ := hSw
          go_simp
          with_reducible rfl
        try simp only [Act.put, List.getElem_toArray, List.getElem_cons_succ, List.getElem_cons_zero, List.setIfInBounds_toArray, List.set_cons_zero, List.set_cons_succ]
        refine wpAnyH_take (i := 16) (v := ?_) rfl (by kernel_rfl) (by kernel_rfl) (by kernel_rfl) (fun _ _ _ h => h) (Or.inl ⟨by rfl, ?_⟩) (by assumption) ?_
        rotate_left
        · intro W hSw
          obtain ⟨t1, t2, t3, t4, t5, t6, t7, t8⟩ := hSw
          go_simp
          with_reducible rfl
        try simp only [Act.put, List.getElem_toArray, List.getElem_cons_succ, List.getElem_cons_zero, List.setIfInBounds_toArray, List.set_cons_zero, List.set_cons_succ]
        refine wpAnyH_ready (rs := [17, 18]) (by kernel_rfl) (by simp) ?_
        refine AllReadyH.cons (o := _) rfl (fun K' hK => ?_) ?_
        · go_simp
          refine (CL.out _ (grown_drew (grown_refl _ _))).mono ?_
          rintro e w7 ⟨f, hf6, rfl, hP6, hg7⟩
          have hP7 := CP.out f hf6 hP6
          clear hP6
          go_wp2_with fail
          refine hK.out _ _ (hHeld.kept hg7) (fun hHeld => ?_)
          clear hK K'
          try simp only [Act.put, List.getElem_toArray, List.getElem_cons_succ, List.getElem_cons_zero, List.setIfInBounds_toArray, List.set_cons_zero, List.set_cons_succ]
          refine wpAnyH_ready (rs := [18]) (by kernel_rfl) (by simp) ?_
          refine AllReadyH.cons (o := _) rfl (fun K' hK => ?_) ?_
          · go_simp
            refine hK.out _ _ (hHeld.kept (grown_alloc _ _)) (fun hHeld => ?_)
            clear hK K'
            try simp only [Act.put, List.getElem_toArray, List.getElem_cons_succ, List.getElem_cons_zero, List.setIfInBounds_toArray, List.set_cons_zero, List.set_cons_succ]
            refine wpAnyH_ready (rs := [19]) (by kernel_rfl) (by simp) ?_
            refine AllReadyH.cons (o := _) rfl (fun K' hK => ?_) ?_
            · go_simp
              refine hK.out _ _ (S0.out.kept (MidE.gr (mide_1 (P := fun f => f < 6 ∧ R k f + E f s t = cc0) hP7 hg7))) (fun hHeld => ?_)
              clear hK K'
              try simp only [Act.put, List.getElem_toArray, List.getElem_cons_succ, List.getElem_cons_zero, List.setIfInBounds_toArray, List.set_cons_zero, List.set_cons_succ]
              refine wpAnyH_done (by kernel_rfl) ?_ _
              go_wp2_with fail
              go_meet
              case rel =>
                exact mide_1 (P := fun f => f < 6 ∧ R k f + E f s t = cc0) hP7 hg7
            exact AllReadyH.nil
          exact AllReadyH.nil
        refine AllReadyH.cons (o := _) rfl (fun K' hK => ?_) ?_
        · go_simp
          refine hK.out _ _ (hHeld.kept (grown_alloc _ _)) (fun hHeld => ?_)
          clear hK K'
          try simp only [Act.put, List.getElem_toArray, List.getElem_cons_succ, List.getElem_cons_zero, List.setIfInBounds_toArray, List.set_cons_zero, List.set_cons_succ]
          refine wpAnyH_ready (rs := [17]) (by kernel_rfl) (by simp) ?_
          refine AllReadyH.cons (o := _) rfl (fun K' hK => ?_) ?_
          · go_simp
            refine (CL.out _ (grown_trans (grown_alloc _ _) (grown_drew (grown_refl _ _)))).mono ?_
            rintro e w7 ⟨f, hf6, rfl, hP6, hg7⟩
            have hP7 := CP.out f hf6 hP6
            clear hP6
            go_wp2_with fail
            refine hK.out _ _ (hHeld.kept hg7) (fun hHeld => ?_)
            clear hK K'
            try simp only [Act.put, List.getElem_toArray, List.getElem_cons_succ, List.getElem_cons_zero, List.setIfInBounds_toArray, List.set_cons_zero, List.set_cons_succ]
            refine wpAnyH_ready (rs := [19]) (by kernel_rfl) (by simp) ?_
            refine AllReadyH.cons (o := _) rfl (fun K' hK => ?_) ?_
            · have cc := boxe_z hg7
              obtain ⟨q0, q1, q2⟩ := cc.get
              have z0 := cc.fz 0
              have z1 := cc.fz 1
              have z2 := cc.fz 2
              clear cc
              go_simp
              refine hK.out _ _ (S0.out.kept (MidE.gr (mide_2 (P := fun f => f < 6 ∧ R k f + E f s t = cc0) hP7 hg7 rfl))) (fun hHeld => ?_)
              clear hK K'
              try simp only [Act.put, List.getElem_toArray, List.getElem_cons_succ, List.getElem_cons_zero, List.setIfInBounds_toArray, List.set_cons_zero, List.set_cons_succ]
              refine wpAnyH_done (by kernel_rfl) ?_ _
              go_wp2_with fail
              go_meet
              case rel =>
                exact mide_2 (P := fun f => f < 6 ∧ R k f + E f s t = cc0) hP7 hg7 rfl
            exact AllReadyH.nil
          exact AllReadyH.nil
        exact AllReadyH.nil
      case rest =>
        clear S0 CL CP
        obtain ⟨be, f, rfl, hbe, hPf, hgc, hlt⟩ := hcut
        obtain ⟨p0, p1, p2⟩ := hbe.get
        have Oc := O.out.kept hgc (by cases (Value.slice ar es.length cr).ownBlock <;> simp)
        have Gc := grown_trans G.out hgc
        obtain ⟨g', cap', w5, hrun, ho5, hg5⟩ := app_edge (f := f) (s := s) (t := t) Oc Gc.size (by omega)
        have G5 : Hid (w2.grownBy w5 none) := row_frame (Oc.kept (grown_alloc _ _) (by cases (Value.slice ar es.length cr).ownBlock <;> simp)) (Nat.le_refl _) (grown_trans Gc (grown_alloc _ _)) hg5
        have hb5 : BoxE w5 be f s t := by
          have h1 := hbe.kept (grown_alloc wc (.cells #[.int .i64 (f : Int), .int .i64 (s : Int), .int .i64 (t : Int)] 66))
          refine (hg5.block be h1.lt ?_).trans h1
          intro e
          have := (O.out.lt be e.symm).2
          omega
        have O5 : Hid (w5.ownsRow w2.heap.size 66 3 (.slice (some ⟨g', 0, none⟩) (es.length + 1) cap') (es.length + 1) (edgesL (es ++ [(f, s, t)]))) := ho5
        obtain ⟨y0, y1, y2⟩ := hb5.get
        obtain ⟨n1, n2, n3, n4⟩ := HN.out f hPf
        have HN2 : Hid (R k f + cstE E (es ++ [(f, s, t)]) = R zs.length tz ∧ InE (es ++ [(f, s, t)]) ∧ ChainE f (es ++ [(f, s, t)]).reverse (zs.drop k) tz) := ⟨n2, n3, n4⟩
        have hf6 := hPf.1
        clear Oc Gc ho5 hg5 hb5 hbe hPf hgc hlt n2 n3 n4 HN
        go_wp2_with fail
        go_roundw
        case rel => exact ⟨k, _, f, some ⟨g', 0, none⟩, cap', es ++ [(f, s, t)], by omega, rfl, rfl, rfl, hf6, by rw [List.length_append]; rfl, by rw [List.length_append]; exact O5.out, by rw [List.length_append]; exact n1, HN2.out.1, HN2.out.2.1, HN2.out.2.2, G5.out⟩
        case measure => simp [intOf]
    | zero =>
      obtain rfl : x = -1 := by omega
      have F : Hid (CheapPost E a zs tz w (.returned (.slice ar es.length cr)) wr) := by
        refine ⟨ar, cr, es, rfl, row_mono O.out G2.out.size, by omega, ?_, HIn.out, ?_, grown_trans G2.out hg⟩
        · have h1 := HCo.out
          have h2 := HRn.out
          rw [HR0.out] at h1
          unfold row0 at h1
          split at h1 <;> omega
        · have h1 := HCo.out
          have h2 := HRn.out
          rw [HR0.out] at h1
          unfold row0 at h1
          have e : t = a := by
            by_cases e : t = a
            · exact e
            · rw [if_neg e] at h1; omega
          have h3 := HCh.out
          rw [e, List.drop_zero] at h3
          exact h3
      clear hg hx
      go_wp2_with fail
      go_ret
      exact F.out

end Go.Proofs.Ytcgkflddipflbaa

namespace Go.Proofs.Ytcgkflddipflbaa
open Go.RowKit Go.Maps
set_option linter.unusedVariables false
set_option linter.unusedSimpArgs false

def SRul (B be b : Nat) (F T O : Int) (a : Option Addr) (n c f s t : Nat) (E : Edg) (W : World) : Prop := BoxP W B F T O a n c ∧ BoxE W be f s t ∧ EdgesAt W b E
theorem SRul.kept {B be b : Nat} {F T O : Int} {a : Option Addr} {n c f s t : Nat} {E : Edg} {W W' : World} (h : SRul B be b F T O a n c f s t E W) (hg : W.grownBy W' none) : SRul B be b F T O a n c f s t E W' := ⟨h.1.kept hg (by simp), h.2.1.kept hg, h.2.2.kept hg (by simp)⟩
/-- The rule makes the edge at its cost. -/
def MatchC (L : List Psh) (E : Edg) (f s t i : Nat) : Prop := i < L.length ∧ (L.getD i pu0).F.toNat = f ∧ (L.getD i pu0).T.toNat = s ∧ sumC (readC E (L.getD i pu0).O.toNat (L.getD i pu0).P t) 1 = E f s t
def RulePost (L : List Psh) (E : Edg) (f s t : Nat) (w : World) (e : Ending) (w' : World) : Prop := ∃ i : Nat, e = .returned (.int .i64 (i : Int)) ∧ MatchC L E f s t i ∧ w.grownBy w' none

set_option maxHeartbeats 12800000 in
set_option maxRecDepth 100000 in
theorem ruleOf_any (L : List Psh) (b f s t : Nat) (a : Option Addr) (c : Nat) (E : Edg) (w : World) (h : EdgesAt w b E) (hG : GoodSk L) (hP : PushAt w a L) (hf : f < 6) (hs : s < 3) (ht : t < 6) (hfin : E f s t < 2002) (hex : ∃ i, MatchC L E f s t i) :
    Calls Try.prog 32 #[.map (some b), .slice a L.length c, vE f s t] w (RulePost L E f s t w) := by
  have HE : Hid (∀ V, w.grownBy V none → EdgesAt V b E) := fun V hV => h.kept hV (by simp)
  have HP : Hid (PushAt w a L) := hP
  have HG : Hid (GoodSk L) := hG
  have HX : Hid (∃ i, MatchC L E f s t i) := hex
  have hL := hG.len
  obtain ⟨W1, hW1⟩ : ∃ W1, W1 = w.alloc (.cells #[.int .i64 (f : Int), .int .i64 (s : Int), .int .i64 (t : Int)] 66) := ⟨_, rfl⟩
  have HW1 : Hid (W1 = _) := hW1
  obtain ⟨be, hbe⟩ : ∃ be, w.heap.size = be := ⟨_, rfl⟩
  have X1 : Hid (w.grownBy W1 none ∧ BoxE W1 be f s t) := by rw [hW1, ← hbe]; exact ⟨grown_alloc _ _, boxE_new w f s t⟩
  have hti : (t : Int) < 6 := by omega
  clear h hG hP hex hW1
  go_enter Try.func32, Try.ntmps32
  go_wp2_with fail
  rw [← HW1.out]
  clear HW1 hbe
  go_loopw [11] (fun u wr => ∃ k : Nat, k ≤ L.length ∧ u = .int .i64 k ∧ (∀ j, j < k → ¬ MatchC L E f s t j) ∧ (w.grownBy wr none ∧ BoxE wr be f s t)) (fun u _ => L.length - (intOf u).toNat)
  case atStart => exact ⟨0, by omega, rfl, fun j hj => by omega, X1.out⟩
  case round =>
    clear X1
    obtain ⟨k, hk, rfl, hno, hg⟩ := hrel
    have G : Hid (w.grownBy wr none ∧ BoxE wr be f s t) := hg
    by_cases hlt : k < L.length
    · have hki : (k : Int) < (L.length : Int) := by omega
      obtain ⟨bb, off, rfl, hc⟩ := (HP.out.grown hg.1).at hlt
      obtain ⟨y0, y1, y2, ap, cp, y3, y4, y5⟩ := hc k hlt
      have hpl := HG.out.put k hlt
      obtain ⟨n1, n2, n3, n4⟩ := HG.out.num k hlt
      rw [oneSk_iff] at n1 n2 n3
      obtain ⟨r, hr⟩ : ∃ r, L.getD k pu0 = r := ⟨_, rfl⟩
      rw [hr] at y0 y1 y2 y3 y4 hpl n1 n2 n3 n4
      obtain ⟨fN, hfN⟩ : ∃ fN : Nat, r.F = (fN : Int) := ⟨r.F.toNat, by omega⟩
      obtain ⟨tN, htN⟩ : ∃ tN : Nat, r.T = (tN : Int) := ⟨r.T.toNat, by omega⟩
      obtain ⟨oN, hoN⟩ : ∃ oN : Nat, r.O = (oN : Int) := ⟨r.O.toNat, by omega⟩
      have e1 : r.F.toNat = fN := by omega
      have e2 : r.T.toNat = tN := by omega
      have e3 : r.O.toNat = oN := by omega
      rw [hfN] at y0
      rw [htN] at y1
      rw [hoN] at y2
      obtain ⟨rj, hrj⟩ : ∃ rj, readC E oN r.P t = rj := ⟨_, rfl⟩
      obtain ⟨sm, hsm⟩ : ∃ sm, sumC rj 1 = sm := ⟨_, rfl⟩
      obtain ⟨row, hrow⟩ : ∃ row, readC E oN r.P = row := ⟨_, rfl⟩
      have HM : Hid (MatchC L E f s t k ↔ fN = f ∧ tN = s ∧ sm = E f s t) := by
        unfold MatchC
        rw [hr, e1, e2, e3, hrj, hsm]
        exact ⟨fun h => h.2, fun h => ⟨hlt, h⟩⟩
      have hrt : rj ≤ 2002 := by rw [← hrj]; exact readC_top _ _ _ _
      have HNoN : Hid (¬ MatchC L E f s t k → ∀ j, j < k + 1 → ¬ MatchC L E f s t j) := fun hx j hj => by
        by_cases e : j = k
        · subst e; exact hx
        · exact hno j (by omega)
      obtain ⟨W4, hW4⟩ : ∃ W4, W4 = wr.alloc (.cells #[.int .i64 (fN : Int), .int .i64 (tN : Int), .int .i64 (oN : Int), .slice ap r.P.length cp] 43) := ⟨_, rfl⟩
      have HW4 : Hid (W4 = _) := hW4
      have g4 : wr.grownBy W4 none := by rw [hW4]; exact grown_alloc _ _
      have G4 : Hid (wr.grownBy W4 none) := g4
      obtain ⟨B, hB⟩ : ∃ B, wr.heap.size = B := ⟨_, rfl⟩
      have S0 : Hid (SRul B be b fN tN oN ap r.P.length cp f s t E W4) := ⟨by rw [hW4, ← hB]; exact heap_alloc_new wr _, hg.2.kept g4, HE.out _ (grown_trans hg.1 g4)⟩
      have CR : Hid (∀ V, W4.grownBy V none → Calls Try.prog 17 #[.map (some b), .int .i64 (oN : Int), .slice ap r.P.length cp] V (Says (rV row) V)) := fun V hV => by
        have := read_any b oN E ap cp r.P V (HE.out V (grown_trans hg.1 (grown_trans g4 hV))) (by omega) (y4.grown (grown_trans g4 hV)) (by omega) n4
        rwa [hrow] at this
      have hrt2 : row t = rj := by rw [← hrow]; exact hrj
      have hix := fun V => index_six row ht V
      rw [hrt2] at hix
      have CS : Hid (∀ V, Calls Try.prog 37 #[.int .i64 (rj : Int), .int .i64 1] V fun e w' => e = .returned (.int .i64 (sm : Int)) ∧ w' = V) := fun V => by
        have := sum_any rj 1 V hrt (by omega)
        rw [hsm] at this
        exact this
      clear hc y4 y5 hr hfN htN hoN n1 n2 n3 n4 e1 e2 e3 hW4 g4 hg hno hrj hsm hrow hrt2 hrt
      go_wp2_with fail
      rw [← HW4.out]
      clear HW4 hB y0 y1 y2 y3
      by_cases hF : fN = f
      · have bF : ((fN : Int) == (f : Int)) = true := by simp [hF]
        by_cases hT : tN = s
        · have bT : ((tN : Int) == (s : Int)) = true := by simp [hT]
          by_cases hV : sm = E f s t
          · have bV : ((sm : Int) == (E f s t : Int)) = true := by simp [hV]
            have HY : Hid (MatchC L E f s t k) := HM.out.2 ⟨hF, hT, hV⟩
            clear hF hT hV HNoN HM
            refine wp_region_held_drew (S := SRul B be b fN tN oN ap r.P.length cp f s t E) (by kernel_rfl) (S0.out.kept (grown_drew (grown_refl _ _))) (fun hHeld => ?_)
            refine wpAnyH_take (i := 0) (v := ?_) rfl (by kernel_rfl) (by kernel_rfl) (by kernel_rfl) (fun _ _ _ h => h) (Or.inl ⟨by rfl, ?_⟩) (by assumption) ?_
            rotate_left
            · intro W hSw
              obtain ⟨hp, he, hm⟩ := hSw
              obtain ⟨t1, t2, t3, t4⟩ := hp.get
              obtain ⟨t5, t6, t7⟩ := he.get
              have t8 := hm.get hf hs ht hfin
              clear hp he hm
              go_simp
              with_reducible rfl
            try simp only [Act.put, List.getElem_toArray, List.getElem_cons_succ, List.getElem_cons_zero, List.setIfInBounds_toArray, List.set_cons_zero, List.set_cons_succ]
            refine wpAnyH_take (i := 1) (v := ?_) rfl (by kernel_rfl) (by kernel_rfl) (by kernel_rfl) (fun _ _ _ h => h) (Or.inl ⟨by rfl, ?_⟩) (by assumption) ?_
            rotate_left
            · intro W hSw
              obtain ⟨hp, he, hm⟩ := hSw
              obtain ⟨t1, t2, t3, t4⟩ := hp.get
              obtain ⟨t5, t6, t7⟩ := he.get
              have t8 := hm.get hf hs ht hfin
              clear hp he hm
              go_simp
              with_reducible rfl
            try simp only [Act.put, List.getElem_toArray, List.getElem_cons_succ, List.getElem_cons_zero, List.setIfInBounds_toArray, List.set_cons_zero, List.set_cons_succ]
            refine wpAnyH_take (i := 2) (v := ?_) rfl (by kernel_rfl) (by kernel_rfl) (by kernel_rfl) (fun _ _ _ h => h) (Or.inl ⟨by rfl, ?_⟩) (by assumption) ?_
            rotate_left
            · intro W hSw
              obtain ⟨hp, he, hm⟩ := hSw
              obtain ⟨t1, t2, t3, t4⟩ := hp.get
              obtain ⟨t5, t6, t7⟩ := he.get
              have t8 := hm.get hf hs ht hfin
              clear hp he hm
              go_simp
              with_reducible rfl
            try simp only [Act.put, List.getElem_toArray, List.getElem_cons_succ, List.getElem_cons_zero, List.setIfInBounds_toArray, List.set_cons_zero, List.set_cons_succ]
            refine wpAnyH_take (i := 3) (v := ?_) rfl (by kernel_rfl) (by kernel_rfl) (by kernel_rfl) (fun _ _ _ h => h) (Or.inl ⟨by rfl, ?_⟩) (by assumption) ?_
            rotate_left
            · intro W hSw
              obtain ⟨hp, he, hm⟩ := hSw
              obtain ⟨t1, t2, t3, t4⟩ := hp.get
              obtain ⟨t5, t6, t7⟩ := he.get
              have t8 := hm.get hf hs ht hfin
              clear hp he hm
              go_simp
              with_reducible rfl
            try simp only [Act.put, List.getElem_toArray, List.getElem_cons_succ, List.getElem_cons_zero, List.setIfInBounds_toArray, List.set_cons_zero, List.set_cons_succ]
            refine wpAnyH_take (i := 4) (v := ?_) rfl (by kernel_rfl) (by kernel_rfl) (by kernel_rfl) (fun _ _ _ h => h) (Or.inl ⟨by rfl, ?_⟩) (by assumption) ?_
            rotate_left
            · intro W hSw
              obtain ⟨hp, he, hm⟩ := hSw
              obtain ⟨t1, t2, t3, t4⟩ := hp.get
              obtain ⟨t5, t6, t7⟩ := he.get
              have t8 := hm.get hf hs ht hfin
              clear hp he hm
              go_simp
              with_reducible rfl
            try simp only [Act.put, List.getElem_toArray, List.getElem_cons_succ, List.getElem_cons_zero, List.setIfInBounds_toArray, List.set_cons_zero, List.set_cons_succ]
            refine wpAnyH_take (i := 5) (v := ?_) rfl (by kernel_rfl) (by kernel_rfl) (by kernel_rfl) (fun _ _ _ h => h) (Or.inl ⟨by rfl, ?_⟩) (by assumption) ?_
            rotate_left
            · intro W hSw
              obtain ⟨hp, he, hm⟩ := hSw
              obtain ⟨t1, t2, t3, t4⟩ := hp.get
              obtain ⟨t5, t6, t7⟩ := he.get
              have t8 := hm.get hf hs ht hfin
              clear hp he hm
              go_simp
              with_reducible rfl
            try simp only [Act.put, List.getElem_toArray, List.getElem_cons_succ, List.getElem_cons_zero, List.setIfInBounds_toArray, List.set_cons_zero, List.set_cons_succ]
            refine wpAnyH_take (i := 6) (v := ?_) rfl (by kernel_rfl) (by kernel_rfl) (by kernel_rfl) (fun _ _ _ h => h) (Or.inl ⟨by rfl, ?_⟩) (by assumption) ?_
            rotate_left
            · intro W hSw
              obtain ⟨hp, he, hm⟩ := hSw
              obtain ⟨t1, t2, t3, t4⟩ := hp.get
              obtain ⟨t5, t6, t7⟩ := he.get
              have t8 := hm.get hf hs ht hfin
              clear hp he hm
              go_simp
              with_reducible rfl
            try simp only [Act.put, List.getElem_toArray, List.getElem_cons_succ, List.getElem_cons_zero, List.setIfInBounds_toArray, List.set_cons_zero, List.set_cons_succ]
            refine wpAnyH_take (i := 7) (v := ?_) rfl (by kernel_rfl) (by kernel_rfl) (by kernel_rfl) (fun _ _ _ h => h) (Or.inl ⟨by rfl, ?_⟩) (by assumption) ?_
            rotate_left
            · intro W hSw
              obtain ⟨hp, he, hm⟩ := hSw
              obtain ⟨t1, t2, t3, t4⟩ := hp.get
              obtain ⟨t5, t6, t7⟩ := he.get
              have t8 := hm.get hf hs ht hfin
              clear hp he hm
              go_simp
              with_reducible rfl
            try simp only [Act.put, List.getElem_toArray, List.getElem_cons_succ, List.getElem_cons_zero, List.setIfInBounds_toArray, List.set_cons_zero, List.set_cons_succ]
            refine wpAnyH_take (i := 8) (v := ?_) rfl (by kernel_rfl) (by kernel_rfl) (by kernel_rfl) (fun _ _ _ h => h) (Or.inl ⟨by rfl, ?_⟩) (by assumption) ?_
            rotate_left
            · intro W hSw
              obtain ⟨hp, he, hm⟩ := hSw
              obtain ⟨t1, t2, t3, t4⟩ := hp.get
              obtain ⟨t5, t6, t7⟩ := he.get
              have t8 := hm.get hf hs ht hfin
              clear hp he hm
              go_simp
              with_reducible rfl
            try simp only [Act.put, List.getElem_toArray, List.getElem_cons_succ, List.getElem_cons_zero, List.setIfInBounds_toArray, List.set_cons_zero, List.set_cons_succ]
            refine wpAnyH_take (i := 9) (v := ?_) rfl (by kernel_rfl) (by kernel_rfl) (by kernel_rfl) (fun _ _ _ h => h) (Or.inl ⟨by rfl, ?_⟩) (by assumption) ?_
            rotate_left
            · intro W hSw
              obtain ⟨hp, he, hm⟩ := hSw
              obtain ⟨t1, t2, t3, t4⟩ := hp.get
              obtain ⟨t5, t6, t7⟩ := he.get
              have t8 := hm.get hf hs ht hfin
              clear hp he hm
              go_simp
              with_reducible rfl
            try simp only [Act.put, List.getElem_toArray, List.getElem_cons_succ, List.getElem_cons_zero, List.setIfInBounds_toArray, List.set_cons_zero, List.set_cons_succ]
            refine wpAnyH_take (i := 10) (v := ?_) rfl (by kernel_rfl) (by kernel_rfl) (by kernel_rfl) (fun _ _ _ h => h) (Or.inl ⟨by rfl, ?_⟩) (by assumption) ?_
            rotate_left
            · intro W hSw
              obtain ⟨hp, he, hm⟩ := hSw
              obtain ⟨t1, t2, t3, t4⟩ := hp.get
              obtain ⟨t5, t6, t7⟩ := he.get
              have t8 := hm.get hf hs ht hfin
              clear hp he hm
              go_simp
              with_reducible rfl
            try simp only [Act.put, List.getElem_toArray, List.getElem_cons_succ, List.getElem_cons_zero, List.setIfInBounds_toArray, List.set_cons_zero, List.set_cons_succ]
            refine wpAnyH_take (i := 11) (v := ?_) rfl (by kernel_rfl) (by kernel_rfl) (by kernel_rfl) (fun _ _ _ h => h) (Or.inl ⟨by rfl, ?_⟩) (by assumption) ?_
            rotate_left
            · intro W hSw
              obtain ⟨hp, he, hm⟩ := hSw
              obtain ⟨t1, t2, t3, t4⟩ := hp.get
              obtain ⟨t5, t6, t7⟩ := he.get
              have t8 := hm.get hf hs ht hfin
              clear hp he hm
              go_simp
              with_reducible rfl
            try simp only [Act.put, List.getElem_toArray, List.getElem_cons_succ, List.getElem_cons_zero, List.setIfInBounds_toArray, List.set_cons_zero, List.set_cons_succ]
            refine wpAnyH_take (i := 12) (v := ?_) rfl (by kernel_rfl) (by kernel_rfl) (by kernel_rfl) (fun _ _ _ h => h) (Or.inl ⟨by rfl, ?_⟩) (by assumption) ?_
            rotate_left
            · intro W hSw
              obtain ⟨hp, he, hm⟩ := hSw
              obtain ⟨t1, t2, t3, t4⟩ := hp.get
              obtain ⟨t5, t6, t7⟩ := he.get
              have t8 := hm.get hf hs ht hfin
              clear hp he hm
              go_simp
              with_reducible rfl
            try simp only [Act.put, List.getElem_toArray, List.getElem_cons_succ, List.getElem_cons_zero, List.setIfInBounds_toArray, List.set_cons_zero, List.set_cons_succ]
            refine wpAnyH_take (i := 13) (v := ?_) rfl (by kernel_rfl) (by kernel_rfl) (by kernel_rfl) (fun _ _ _ h => h) (Or.inl ⟨by rfl, ?_⟩) (by assumption) ?_
            rotate_left
            · intro W hSw
              obtain ⟨hp, he, hm⟩ := hSw
              obtain ⟨t1, t2, t3, t4⟩ := hp.get
              obtain ⟨t5, t6, t7⟩ := he.get
              have t8 := hm.get hf hs ht hfin
              clear hp he hm
              go_simp
              with_reducible rfl
            try simp only [Act.put, List.getElem_toArray, List.getElem_cons_succ, List.getElem_cons_zero, List.setIfInBounds_toArray, List.set_cons_zero, List.set_cons_succ]
            refine wpAnyH_take (i := 14) (v := ?_) rfl (by kernel_rfl) (by kernel_rfl) (by kernel_rfl) (fun _ _ _ h => h) (Or.inl ⟨by rfl, ?_⟩) (by assumption) ?_
            rotate_left
            · intro W hSw
              obtain ⟨hp, he, hm⟩ := hSw
              obtain ⟨t1, t2, t3, t4⟩ := hp.get
              obtain ⟨t5, t6, t7⟩ := he.get
              have t8 := hm.get hf hs ht hfin
              clear hp he hm
              go_simp
              with_reducible rfl
            try simp only [Act.put, List.getElem_toArray, List.getElem_cons_succ, List.getElem_cons_zero, List.setIfInBounds_toArray, List.set_cons_zero, List.set_cons_succ]
            refine wpAnyH_take (i := 15) (v := ?_) rfl (by kernel_rfl) (by kernel_rfl) (by kernel_rfl) (fun _ _ _ h => h) (Or.inl ⟨by rfl, ?_⟩) (by assumption) ?_
            rotate_left
            · intro W hSw
              obtain ⟨hp, he, hm⟩ := hSw
              obtain ⟨t1, t2, t3, t4⟩ := hp.get
              obtain ⟨t5, t6, t7⟩ := he.get
              have t8 := hm.get hf hs ht hfin
              clear hp he hm
              go_simp
              with_reducible rfl
            try simp only [Act.put, List.getElem_toArray, List.getElem_cons_succ, List.getElem_cons_zero, List.setIfInBounds_toArray, List.set_cons_zero, List.set_cons_succ]
            refine wpAnyH_take (i := 16) (v := ?_) rfl (by kernel_rfl) (by kernel_rfl) (by kernel_rfl) (fun _ _ _ h => h) (Or.inl ⟨by rfl, ?_⟩) (by assumption) ?_
            rotate_left
            · intro W hSw
              obtain ⟨hp, he, hm⟩ := hSw
              obtain ⟨t1, t2, t3, t4⟩ := hp.get
              obtain ⟨t5, t6, t7⟩ := he.get
              have t8 := hm.get hf hs ht hfin
              clear hp he hm
              go_simp
              with_reducible rfl
            try simp only [Act.put, List.getElem_toArray, List.getElem_cons_succ, List.getElem_cons_zero, List.setIfInBounds_toArray, List.set_cons_zero, List.set_cons_succ]
            refine wpAnyH_take (i := 17) (v := ?_) rfl (by kernel_rfl) (by kernel_rfl) (by kernel_rfl) (fun _ _ _ h => h) (Or.inl ⟨by rfl, ?_⟩) (by assumption) ?_
            rotate_left
            · intro W hSw
              obtain ⟨hp, he, hm⟩ := hSw
              obtain ⟨t1, t2, t3, t4⟩ := hp.get
              obtain ⟨t5, t6, t7⟩ := he.get
              have t8 := hm.get hf hs ht hfin
              clear hp he hm
              go_simp
              with_reducible rfl
            try simp only [Act.put, List.getElem_toArray, List.getElem_cons_succ, List.getElem_cons_zero, List.setIfInBounds_toArray, List.set_cons_zero, List.set_cons_succ]
            refine wpAnyH_take (i := 19) (v := ?_) rfl (by kernel_rfl) (by kernel_rfl) (by kernel_rfl) (fun _ _ _ h => h) (Or.inl ⟨by rfl, ?_⟩) (by assumption) ?_
            rotate_left
            · intro W hSw
              obtain ⟨hp, he, hm⟩ := hSw
              obtain ⟨t1, t2, t3, t4⟩ := hp.get
              obtain ⟨t5, t6, t7⟩ := he.get
              have t8 := hm.get hf hs ht hfin
              clear hp he hm
              go_simp
              with_reducible rfl
            try simp only [Act.put, List.getElem_toArray, List.getElem_cons_succ, List.getElem_cons_zero, List.setIfInBounds_toArray, List.set_cons_zero, List.set_cons_succ]
            refine wpAnyH_take (i := 20) (v := ?_) rfl (by kernel_rfl) (by kernel_rfl) (by kernel_rfl) (fun _ _ _ h => h) (Or.inl ⟨by rfl, ?_⟩) (by assumption) ?_
            rotate_left
            · intro W hSw
              obtain ⟨hp, he, hm⟩ := hSw
              obtain ⟨t1, t2, t3, t4⟩ := hp.get
              obtain ⟨t5, t6, t7⟩ := he.get
              have t8 := hm.get hf hs ht hfin
              clear hp he hm
              go_simp
              with_reducible rfl
            try simp only [Act.put, List.getElem_toArray, List.getElem_cons_succ, List.getElem_cons_zero, List.setIfInBounds_toArray, List.set_cons_zero, List.set_cons_succ]
            refine wpAnyH_take (i := 23) (v := ?_) rfl (by kernel_rfl) (by kernel_rfl) (by kernel_rfl) (fun _ _ _ h => h) (Or.inl ⟨by rfl, ?_⟩) (by assumption) ?_
            rotate_left
            · intro W hSw
              obtain ⟨hp, he, hm⟩ := hSw
              obtain ⟨t1, t2, t3, t4⟩ := hp.get
              obtain ⟨t5, t6, t7⟩ := he.get
              have t8 := hm.get hf hs ht hfin
              clear hp he hm
              go_simp
              with_reducible rfl
            try simp only [Act.put, List.getElem_toArray, List.getElem_cons_succ, List.getElem_cons_zero, List.setIfInBounds_toArray, List.set_cons_zero, List.set_cons_succ]
            refine wpAnyH_take (i := 24) (v := ?_) rfl (by kernel_rfl) (by kernel_rfl) (by kernel_rfl) (fun _ _ _ h => h) (Or.inl ⟨by rfl, ?_⟩) (by assumption) ?_
            rotate_left
            · intro W hSw
              obtain ⟨hp, he, hm⟩ := hSw
              obtain ⟨t1, t2, t3, t4⟩ := hp.get
              obtain ⟨t5, t6, t7⟩ := he.get
              have t8 := hm.get hf hs ht hfin
              clear hp he hm
              go_simp
              with_reducible rfl
            try simp only [Act.put, List.getElem_toArray, List.getElem_cons_succ, List.getElem_cons_zero, List.setIfInBounds_toArray, List.set_cons_zero, List.set_cons_succ]
            refine wpAnyH_take (i := 25) (v := ?_) rfl (by kernel_rfl) (by kernel_rfl) (by kernel_rfl) (fun _ _ _ h => h) (Or.inl ⟨by rfl, ?_⟩) (by assumption) ?_
            rotate_left
            · intro W hSw
              obtain ⟨hp, he, hm⟩ := hSw
              obtain ⟨t1, t2, t3, t4⟩ := hp.get
              obtain ⟨t5, t6, t7⟩ := he.get
              have t8 := hm.get hf hs ht hfin
              clear hp he hm
              go_simp
              with_reducible rfl
            try simp only [Act.put, List.getElem_toArray, List.getElem_cons_succ, List.getElem_cons_zero, List.setIfInBounds_toArray, List.set_cons_zero, List.set_cons_succ]
            refine wpAnyH_ready (rs := [18]) (by kernel_rfl) (by simp) ?_
            refine AllReadyH.cons (o := _) rfl (fun K' hK => ?_) ?_
            · go_simp
              refine (CR.out _ (grown_drew (grown_refl _ _))).mono ?_
              rintro e w7 ⟨rfl, hg7⟩
              go_wp2_with fail
              refine hK.out _ _ (hHeld.kept hg7) (fun hHeld => ?_)
              clear hK K'
              try simp only [Act.put, List.getElem_toArray, List.getElem_cons_succ, List.getElem_cons_zero, List.setIfInBounds_toArray, List.set_cons_zero, List.set_cons_succ]
              refine wpAnyH_take (i := 21) (v := ?_) rfl (by kernel_rfl) (by kernel_rfl) (by kernel_rfl) (fun _ _ _ h => h) (Or.inl ⟨by rfl, ?_⟩) (by assumption) ?_
              rotate_left
              · intro W hSw
                obtain ⟨hp, he, hm⟩ := hSw
                obtain ⟨t1, t2, t3, t4⟩ := hp.get
                obtain ⟨t5, t6, t7⟩ := he.get
                have t8 := hm.get hf hs ht hfin
                clear hp he hm
                go_simp
                with_reducible rfl
              try simp only [Act.put, List.getElem_toArray, List.getElem_cons_succ, List.getElem_cons_zero, List.setIfInBounds_toArray, List.set_cons_zero, List.set_cons_succ]
              refine wpAnyH_ready (rs := [22]) (by kernel_rfl) (by simp) ?_
              refine AllReadyH.cons (o := _) rfl (fun K' hK => ?_) ?_
              · go_simp
                refine (CS.out _).mono ?_
                rintro e w8 ⟨rfl, hw8⟩
                rw [hw8]
                clear hw8
                go_wp2_with fail
                refine hK.out _ _ (hHeld) (fun hHeld => ?_)
                clear hK K'
                try simp only [Act.put, List.getElem_toArray, List.getElem_cons_succ, List.getElem_cons_zero, List.setIfInBounds_toArray, List.set_cons_zero, List.set_cons_succ]
                refine wpAnyH_take (i := 26) (v := ?_) rfl (by kernel_rfl) (by kernel_rfl) (by kernel_rfl) (fun _ _ _ h => h) (Or.inl ⟨by rfl, ?_⟩) (by assumption) ?_
                rotate_left
                · intro W hSw
                  obtain ⟨hp, he, hm⟩ := hSw
                  obtain ⟨t1, t2, t3, t4⟩ := hp.get
                  obtain ⟨t5, t6, t7⟩ := he.get
                  have t8 := hm.get hf hs ht hfin
                  clear hp he hm
                  go_simp
                  with_reducible rfl
                try simp only [Act.put, List.getElem_toArray, List.getElem_cons_succ, List.getElem_cons_zero, List.setIfInBounds_toArray, List.set_cons_zero, List.set_cons_succ]
                refine wpAnyH_take (i := 27) (v := ?_) rfl (by kernel_rfl) (by kernel_rfl) (by kernel_rfl) (fun _ _ _ h => h) (Or.inl ⟨by rfl, ?_⟩) (by assumption) ?_
                rotate_left
                · intro W hSw
                  obtain ⟨hp, he, hm⟩ := hSw
                  obtain ⟨t1, t2, t3, t4⟩ := hp.get
                  obtain ⟨t5, t6, t7⟩ := he.get
                  have t8 := hm.get hf hs ht hfin
                  clear hp he hm
                  go_simp
                  with_reducible rfl
                try simp only [Act.put, List.getElem_toArray, List.getElem_cons_succ, List.getElem_cons_zero, List.setIfInBounds_toArray, List.set_cons_zero, List.set_cons_succ]
                refine wpAnyH_done (by kernel_rfl) ?_ _
                go_wp2_with fail
                go_ret
                exact ⟨k, rfl, HY.out, grown_trans G.out.1 (grown_trans G4.out (grown_trans (grown_drew (grown_refl _ _)) hg7))⟩
              exact AllReadyH.nil
            exact AllReadyH.nil
          · have bV : ((sm : Int) == (E f s t : Int)) = false := by simp; omega
            have HNo : Hid (∀ j, j < k + 1 → ¬ MatchC L E f s t j) := HNoN.out (fun h => hV (HM.out.1 h).2.2)
            clear hF hT hV HNoN HM
            refine wp_region_held_drew (S := SRul B be b fN tN oN ap r.P.length cp f s t E) (by kernel_rfl) (S0.out.kept (grown_drew (grown_refl _ _))) (fun hHeld => ?_)
            refine wpAnyH_take (i := 0) (v := ?_) rfl (by kernel_rfl) (by kernel_rfl) (by kernel_rfl) (fun _ _ _ h => h) (Or.inl ⟨by rfl, ?_⟩) (by assumption) ?_
            rotate_left
            · intro W hSw
              obtain ⟨hp, he, hm⟩ := hSw
              obtain ⟨t1, t2, t3, t4⟩ := hp.get
              obtain ⟨t5, t6, t7⟩ := he.get
              have t8 := hm.get hf hs ht hfin
              clear hp he hm
              go_simp
              with_reducible rfl
            try simp only [Act.put, List.getElem_toArray, List.getElem_cons_succ, List.getElem_cons_zero, List.setIfInBounds_toArray, List.set_cons_zero, List.set_cons_succ]
            refine wpAnyH_take (i := 1) (v := ?_) rfl (by kernel_rfl) (by kernel_rfl) (by kernel_rfl) (fun _ _ _ h => h) (Or.inl ⟨by rfl, ?_⟩) (by assumption) ?_
            rotate_left
            · intro W hSw
              obtain ⟨hp, he, hm⟩ := hSw
              obtain ⟨t1, t2, t3, t4⟩ := hp.get
              obtain ⟨t5, t6, t7⟩ := he.get
              have t8 := hm.get hf hs ht hfin
              clear hp he hm
              go_simp
              with_reducible rfl
            try simp only [Act.put, List.getElem_toArray, List.getElem_cons_succ, List.getElem_cons_zero, List.setIfInBounds_toArray, List.set_cons_zero, List.set_cons_succ]
            refine wpAnyH_take (i := 2) (v := ?_) rfl (by kernel_rfl) (by kernel_rfl) (by kernel_rfl) (fun _ _ _ h => h) (Or.inl ⟨by rfl, ?_⟩) (by assumption) ?_
            rotate_left
            · intro W hSw
              obtain ⟨hp, he, hm⟩ := hSw
              obtain ⟨t1, t2, t3, t4⟩ := hp.get
              obtain ⟨t5, t6, t7⟩ := he.get
              have t8 := hm.get hf hs ht hfin
              clear hp he hm
              go_simp
              with_reducible rfl
            try simp only [Act.put, List.getElem_toArray, List.getElem_cons_succ, List.getElem_cons_zero, List.setIfInBounds_toArray, List.set_cons_zero, List.set_cons_succ]
            refine wpAnyH_take (i := 3) (v := ?_) rfl (by kernel_rfl) (by kernel_rfl) (by kernel_rfl) (fun _ _ _ h => h) (Or.inl ⟨by rfl, ?_⟩) (by assumption) ?_
            rotate_left
            · intro W hSw
              obtain ⟨hp, he, hm⟩ := hSw
              obtain ⟨t1, t2, t3, t4⟩ := hp.get
              obtain ⟨t5, t6, t7⟩ := he.get
              have t8 := hm.get hf hs ht hfin
              clear hp he hm
              go_simp
              with_reducible rfl
            try simp only [Act.put, List.getElem_toArray, List.getElem_cons_succ, List.getElem_cons_zero, List.setIfInBounds_toArray, List.set_cons_zero, List.set_cons_succ]
            refine wpAnyH_take (i := 4) (v := ?_) rfl (by kernel_rfl) (by kernel_rfl) (by kernel_rfl) (fun _ _ _ h => h) (Or.inl ⟨by rfl, ?_⟩) (by assumption) ?_
            rotate_left
            · intro W hSw
              obtain ⟨hp, he, hm⟩ := hSw
              obtain ⟨t1, t2, t3, t4⟩ := hp.get
              obtain ⟨t5, t6, t7⟩ := he.get
              have t8 := hm.get hf hs ht hfin
              clear hp he hm
              go_simp
              with_reducible rfl
            try simp only [Act.put, List.getElem_toArray, List.getElem_cons_succ, List.getElem_cons_zero, List.setIfInBounds_toArray, List.set_cons_zero, List.set_cons_succ]
            refine wpAnyH_take (i := 5) (v := ?_) rfl (by kernel_rfl) (by kernel_rfl) (by kernel_rfl) (fun _ _ _ h => h) (Or.inl ⟨by rfl, ?_⟩) (by assumption) ?_
            rotate_left
            · intro W hSw
              obtain ⟨hp, he, hm⟩ := hSw
              obtain ⟨t1, t2, t3, t4⟩ := hp.get
              obtain ⟨t5, t6, t7⟩ := he.get
              have t8 := hm.get hf hs ht hfin
              clear hp he hm
              go_simp
              with_reducible rfl
            try simp only [Act.put, List.getElem_toArray, List.getElem_cons_succ, List.getElem_cons_zero, List.setIfInBounds_toArray, List.set_cons_zero, List.set_cons_succ]
            refine wpAnyH_take (i := 6) (v := ?_) rfl (by kernel_rfl) (by kernel_rfl) (by kernel_rfl) (fun _ _ _ h => h) (Or.inl ⟨by rfl, ?_⟩) (by assumption) ?_
            rotate_left
            · intro W hSw
              obtain ⟨hp, he, hm⟩ := hSw
              obtain ⟨t1, t2, t3, t4⟩ := hp.get
              obtain ⟨t5, t6, t7⟩ := he.get
              have t8 := hm.get hf hs ht hfin
              clear hp he hm
              go_simp
              with_reducible rfl
            try simp only [Act.put, List.getElem_toArray, List.getElem_cons_succ, List.getElem_cons_zero, List.setIfInBounds_toArray, List.set_cons_zero, List.set_cons_succ]
            refine wpAnyH_take (i := 7) (v := ?_) rfl (by kernel_rfl) (by kernel_rfl) (by kernel_rfl) (fun _ _ _ h => h) (Or.inl ⟨by rfl, ?_⟩) (by assumption) ?_
            rotate_left
            · intro W hSw
              obtain ⟨hp, he, hm⟩ := hSw
              obtain ⟨t1, t2, t3, t4⟩ := hp.get
              obtain ⟨t5, t6, t7⟩ := he.get
              have t8 := hm.get hf hs ht hfin
              clear hp he hm
              go_simp
              with_reducible rfl
            try simp only [Act.put, List.getElem_toArray, List.getElem_cons_succ, List.getElem_cons_zero, List.setIfInBounds_toArray, List.set_cons_zero, List.set_cons_succ]
            refine wpAnyH_take (i := 8) (v := ?_) rfl (by kernel_rfl) (by kernel_rfl) (by kernel_rfl) (fun _ _ _ h => h) (Or.inl ⟨by rfl, ?_⟩) (by assumption) ?_
            rotate_left
            · intro W hSw
              obtain ⟨hp, he, hm⟩ := hSw
              obtain ⟨t1, t2, t3, t4⟩ := hp.get
              obtain ⟨t5, t6, t7⟩ := he.get
              have t8 := hm.get hf hs ht hfin
              clear hp he hm
              go_simp
              with_reducible rfl
            try simp only [Act.put, List.getElem_toArray, List.getElem_cons_succ, List.getElem_cons_zero, List.setIfInBounds_toArray, List.set_cons_zero, List.set_cons_succ]
            refine wpAnyH_take (i := 9) (v := ?_) rfl (by kernel_rfl) (by kernel_rfl) (by kernel_rfl) (fun _ _ _ h => h) (Or.inl ⟨by rfl, ?_⟩) (by assumption) ?_
            rotate_left
            · intro W hSw
              obtain ⟨hp, he, hm⟩ := hSw
              obtain ⟨t1, t2, t3, t4⟩ := hp.get
              obtain ⟨t5, t6, t7⟩ := he.get
              have t8 := hm.get hf hs ht hfin
              clear hp he hm
              go_simp
              with_reducible rfl
            try simp only [Act.put, List.getElem_toArray, List.getElem_cons_succ, List.getElem_cons_zero, List.setIfInBounds_toArray, List.set_cons_zero, List.set_cons_succ]
            refine wpAnyH_take (i := 10) (v := ?_) rfl (by kernel_rfl) (by kernel_rfl) (by kernel_rfl) (fun _ _ _ h => h) (Or.inl ⟨by rfl, ?_⟩) (by assumption) ?_
            rotate_left
            · intro W hSw
              obtain ⟨hp, he, hm⟩ := hSw
              obtain ⟨t1, t2, t3, t4⟩ := hp.get
              obtain ⟨t5, t6, t7⟩ := he.get
              have t8 := hm.get hf hs ht hfin
              clear hp he hm
              go_simp
              with_reducible rfl
            try simp only [Act.put, List.getElem_toArray, List.getElem_cons_succ, List.getElem_cons_zero, List.setIfInBounds_toArray, List.set_cons_zero, List.set_cons_succ]
            refine wpAnyH_take (i := 11) (v := ?_) rfl (by kernel_rfl) (by kernel_rfl) (by kernel_rfl) (fun _ _ _ h => h) (Or.inl ⟨by rfl, ?_⟩) (by assumption) ?_
            rotate_left
            · intro W hSw
              obtain ⟨hp, he, hm⟩ := hSw
              obtain ⟨t1, t2, t3, t4⟩ := hp.get
              obtain ⟨t5, t6, t7⟩ := he.get
              have t8 := hm.get hf hs ht hfin
              clear hp he hm
              go_simp
              with_reducible rfl
            try simp only [Act.put, List.getElem_toArray, List.getElem_cons_succ, List.getElem_cons_zero, List.setIfInBounds_toArray, List.set_cons_zero, List.set_cons_succ]
            refine wpAnyH_take (i := 12) (v := ?_) rfl (by kernel_rfl) (by kernel_rfl) (by kernel_rfl) (fun _ _ _ h => h) (Or.inl ⟨by rfl, ?_⟩) (by assumption) ?_
            rotate_left
            · intro W hSw
              obtain ⟨hp, he, hm⟩ := hSw
              obtain ⟨t1, t2, t3, t4⟩ := hp.get
              obtain ⟨t5, t6, t7⟩ := he.get
              have t8 := hm.get hf hs ht hfin
              clear hp he hm
              go_simp
              with_reducible rfl
            try simp only [Act.put, List.getElem_toArray, List.getElem_cons_succ, List.getElem_cons_zero, List.setIfInBounds_toArray, List.set_cons_zero, List.set_cons_succ]
            refine wpAnyH_take (i := 13) (v := ?_) rfl (by kernel_rfl) (by kernel_rfl) (by kernel_rfl) (fun _ _ _ h => h) (Or.inl ⟨by rfl, ?_⟩) (by assumption) ?_
            rotate_left
            · intro W hSw
              obtain ⟨hp, he, hm⟩ := hSw
              obtain ⟨t1, t2, t3, t4⟩ := hp.get
              obtain ⟨t5, t6, t7⟩ := he.get
              have t8 := hm.get hf hs ht hfin
              clear hp he hm
              go_simp
              with_reducible rfl
            try simp only [Act.put, List.getElem_toArray, List.getElem_cons_succ, List.getElem_cons_zero, List.setIfInBounds_toArray, List.set_cons_zero, List.set_cons_succ]
            refine wpAnyH_take (i := 14) (v := ?_) rfl (by kernel_rfl) (by kernel_rfl) (by kernel_rfl) (fun _ _ _ h => h) (Or.inl ⟨by rfl, ?_⟩) (by assumption) ?_
            rotate_left
            · intro W hSw
              obtain ⟨hp, he, hm⟩ := hSw
              obtain ⟨t1, t2, t3, t4⟩ := hp.get
              obtain ⟨t5, t6, t7⟩ := he.get
              have t8 := hm.get hf hs ht hfin
              clear hp he hm
              go_simp
              with_reducible rfl
            try simp only [Act.put, List.getElem_toArray, List.getElem_cons_succ, List.getElem_cons_zero, List.setIfInBounds_toArray, List.set_cons_zero, List.set_cons_succ]
            refine wpAnyH_take (i := 15) (v := ?_) rfl (by kernel_rfl) (by kernel_rfl) (by kernel_rfl) (fun _ _ _ h => h) (Or.inl ⟨by rfl, ?_⟩) (by assumption) ?_
            rotate_left
            · intro W hSw
              obtain ⟨hp, he, hm⟩ := hSw
              obtain ⟨t1, t2, t3, t4⟩ := hp.get
              obtain ⟨t5, t6, t7⟩ := he.get
              have t8 := hm.get hf hs ht hfin
              clear hp he hm
              go_simp
              with_reducible rfl
            try simp only [Act.put, List.getElem_toArray, List.getElem_cons_succ, List.getElem_cons_zero, List.setIfInBounds_toArray, List.set_cons_zero, List.set_cons_succ]
            refine wpAnyH_take (i := 16) (v := ?_) rfl (by kernel_rfl) (by kernel_rfl) (by kernel_rfl) (fun _ _ _ h => h) (Or.inl ⟨by rfl, ?_⟩) (by assumption) ?_
            rotate_left
            · intro W hSw
              obtain ⟨hp, he, hm⟩ := hSw
              obtain ⟨t1, t2, t3, t4⟩ := hp.get
              obtain ⟨t5, t6, t7⟩ := he.get
              have t8 := hm.get hf hs ht hfin
              clear hp he hm
              go_simp
              with_reducible rfl
            try simp only [Act.put, List.getElem_toArray, List.getElem_cons_succ, List.getElem_cons_zero, List.setIfInBounds_toArray, List.set_cons_zero, List.set_cons_succ]
            refine wpAnyH_take (i := 17) (v := ?_) rfl (by kernel_rfl) (by kernel_rfl) (by kernel_rfl) (fun _ _ _ h => h) (Or.inl ⟨by rfl, ?_⟩) (by assumption) ?_
            rotate_left
            · intro W hSw
              obtain ⟨hp, he, hm⟩ := hSw
              obtain ⟨t1, t2, t3, t4⟩ := hp.get
              obtain ⟨t5, t6, t7⟩ := he.get
              have t8 := hm.get hf hs ht hfin
              clear hp he hm
              go_simp
              with_reducible rfl
            try simp only [Act.put, List.getElem_toArray, List.getElem_cons_succ, List.getElem_cons_zero, List.setIfInBounds_toArray, List.set_cons_zero, List.set_cons_succ]
            refine wpAnyH_take (i := 19) (v := ?_) rfl (by kernel_rfl) (by kernel_rfl) (by kernel_rfl) (fun _ _ _ h => h) (Or.inl ⟨by rfl, ?_⟩) (by assumption) ?_
            rotate_left
            · intro W hSw
              obtain ⟨hp, he, hm⟩ := hSw
              obtain ⟨t1, t2, t3, t4⟩ := hp.get
              obtain ⟨t5, t6, t7⟩ := he.get
              have t8 := hm.get hf hs ht hfin
              clear hp he hm
              go_simp
              with_reducible rfl
            try simp only [Act.put, List.getElem_toArray, List.getElem_cons_succ, List.getElem_cons_zero, List.setIfInBounds_toArray, List.set_cons_zero, List.set_cons_succ]
            refine wpAnyH_take (i := 20) (v := ?_) rfl (by kernel_rfl) (by kernel_rfl) (by kernel_rfl) (fun _ _ _ h => h) (Or.inl ⟨by rfl, ?_⟩) (by assumption) ?_
            rotate_left
            · intro W hSw
              obtain ⟨hp, he, hm⟩ := hSw
              obtain ⟨t1, t2, t3, t4⟩ := hp.get
              obtain ⟨t5, t6, t7⟩ := he.get
              have t8 := hm.get hf hs ht hfin
              clear hp he hm
              go_simp
              with_reducible rfl
            try simp only [Act.put, List.getElem_toArray, List.getElem_cons_succ, List.getElem_cons_zero, List.setIfInBounds_toArray, List.set_cons_zero, List.set_cons_succ]
            refine wpAnyH_take (i := 23) (v := ?_) rfl (by kernel_rfl) (by kernel_rfl) (by kernel_rfl) (fun _ _ _ h => h) (Or.inl ⟨by rfl, ?_⟩) (by assumption) ?_
            rotate_left
            · intro W hSw
              obtain ⟨hp, he, hm⟩ := hSw
              obtain ⟨t1, t2, t3, t4⟩ := hp.get
              obtain ⟨t5, t6, t7⟩ := he.get
              have t8 := hm.get hf hs ht hfin
              clear hp he hm
              go_simp
              with_reducible rfl
            try simp only [Act.put, List.getElem_toArray, List.getElem_cons_succ, List.getElem_cons_zero, List.setIfInBounds_toArray, List.set_cons_zero, List.set_cons_succ]
            refine wpAnyH_take (i := 24) (v := ?_) rfl (by kernel_rfl) (by kernel_rfl) (by kernel_rfl) (fun _ _ _ h => h) (Or.inl ⟨by rfl, ?_⟩) (by assumption) ?_
            rotate_left
            · intro W hSw
              obtain ⟨hp, he, hm⟩ := hSw
              obtain ⟨t1, t2, t3, t4⟩ := hp.get
              obtain ⟨t5, t6, t7⟩ := he.get
              have t8 := hm.get hf hs ht hfin
              clear hp he hm
              go_simp
              with_reducible rfl
            try simp only [Act.put, List.getElem_toArray, List.getElem_cons_succ, List.getElem_cons_zero, List.setIfInBounds_toArray, List.set_cons_zero, List.set_cons_succ]
            refine wpAnyH_take (i := 25) (v := ?_) rfl (by kernel_rfl) (by kernel_rfl) (by kernel_rfl) (fun _ _ _ h => h) (Or.inl ⟨by rfl, ?_⟩) (by assumption) ?_
            rotate_left
            · intro W hSw
              obtain ⟨hp, he, hm⟩ := hSw
              obtain ⟨t1, t2, t3, t4⟩ := hp.get
              obtain ⟨t5, t6, t7⟩ := he.get
              have t8 := hm.get hf hs ht hfin
              clear hp he hm
              go_simp
              with_reducible rfl
            try simp only [Act.put, List.getElem_toArray, List.getElem_cons_succ, List.getElem_cons_zero, List.setIfInBounds_toArray, List.set_cons_zero, List.set_cons_succ]
            refine wpAnyH_ready (rs := [18]) (by kernel_rfl) (by simp) ?_
            refine AllReadyH.cons (o := _) rfl (fun K' hK => ?_) ?_
            · go_simp
              refine (CR.out _ (grown_drew (grown_refl _ _))).mono ?_
              rintro e w7 ⟨rfl, hg7⟩
              go_wp2_with fail
              refine hK.out _ _ (hHeld.kept hg7) (fun hHeld => ?_)
              clear hK K'
              try simp only [Act.put, List.getElem_toArray, List.getElem_cons_succ, List.getElem_cons_zero, List.setIfInBounds_toArray, List.set_cons_zero, List.set_cons_succ]
              refine wpAnyH_take (i := 21) (v := ?_) rfl (by kernel_rfl) (by kernel_rfl) (by kernel_rfl) (fun _ _ _ h => h) (Or.inl ⟨by rfl, ?_⟩) (by assumption) ?_
              rotate_left
              · intro W hSw
                obtain ⟨hp, he, hm⟩ := hSw
                obtain ⟨t1, t2, t3, t4⟩ := hp.get
                obtain ⟨t5, t6, t7⟩ := he.get
                have t8 := hm.get hf hs ht hfin
                clear hp he hm
                go_simp
                with_reducible rfl
              try simp only [Act.put, List.getElem_toArray, List.getElem_cons_succ, List.getElem_cons_zero, List.setIfInBounds_toArray, List.set_cons_zero, List.set_cons_succ]
              refine wpAnyH_ready (rs := [22]) (by kernel_rfl) (by simp) ?_
              refine AllReadyH.cons (o := _) rfl (fun K' hK => ?_) ?_
              · go_simp
                refine (CS.out _).mono ?_
                rintro e w8 ⟨rfl, hw8⟩
                rw [hw8]
                clear hw8
                go_wp2_with fail
                refine hK.out _ _ (hHeld) (fun hHeld => ?_)
                clear hK K'
                try simp only [Act.put, List.getElem_toArray, List.getElem_cons_succ, List.getElem_cons_zero, List.setIfInBounds_toArray, List.set_cons_zero, List.set_cons_succ]
                refine wpAnyH_take (i := 26) (v := ?_) rfl (by kernel_rfl) (by kernel_rfl) (by kernel_rfl) (fun _ _ _ h => h) (Or.inl ⟨by rfl, ?_⟩) (by assumption) ?_
                rotate_left
                · intro W hSw
                  obtain ⟨hp, he, hm⟩ := hSw
                  obtain ⟨t1, t2, t3, t4⟩ := hp.get
                  obtain ⟨t5, t6, t7⟩ := he.get
                  have t8 := hm.get hf hs ht hfin
                  clear hp he hm
                  go_simp
                  with_reducible rfl
                try simp only [Act.put, List.getElem_toArray, List.getElem_cons_succ, List.getElem_cons_zero, List.setIfInBounds_toArray, List.set_cons_zero, List.set_cons_succ]
                refine wpAnyH_take (i := 27) (v := ?_) rfl (by kernel_rfl) (by kernel_rfl) (by kernel_rfl) (fun _ _ _ h => h) (Or.inl ⟨by rfl, ?_⟩) (by assumption) ?_
                rotate_left
                · intro W hSw
                  obtain ⟨hp, he, hm⟩ := hSw
                  obtain ⟨t1, t2, t3, t4⟩ := hp.get
                  obtain ⟨t5, t6, t7⟩ := he.get
                  have t8 := hm.get hf hs ht hfin
                  clear hp he hm
                  go_simp
                  with_reducible rfl
                try simp only [Act.put, List.getElem_toArray, List.getElem_cons_succ, List.getElem_cons_zero, List.setIfInBounds_toArray, List.set_cons_zero, List.set_cons_succ]
                refine wpAnyH_done (by kernel_rfl) ?_ _
                go_wp2_with fail
                go_roundw
                case rel => exact ⟨k + 1, by omega, by simp, HNo.out, ⟨grown_trans G.out.1 (grown_trans G4.out (grown_trans (grown_drew (grown_refl _ _)) hg7)), G.out.2.kept (grown_trans G4.out (grown_trans (grown_drew (grown_refl _ _)) hg7))⟩⟩
                case measure => simp [intOf]; omega
              exact AllReadyH.nil
            exact AllReadyH.nil
        · have bT : ((tN : Int) == (s : Int)) = false := by simp; omega
          have HNo : Hid (∀ j, j < k + 1 → ¬ MatchC L E f s t j) := HNoN.out (fun h => hT (HM.out.1 h).2.1)
          clear hF hT HNoN HM
          refine wp_region_held_drew (S := SRul B be b fN tN oN ap r.P.length cp f s t E) (by kernel_rfl) (S0.out.kept (grown_drew (grown_refl _ _))) (fun hHeld => ?_)
          refine wpAnyH_take (i := 0) (v := ?_) rfl (by kernel_rfl) (by kernel_rfl) (by kernel_rfl) (fun _ _ _ h => h) (Or.inl ⟨by rfl, ?_⟩) (by assumption) ?_
          rotate_left
          · intro W hSw
            obtain ⟨hp, he, hm⟩ := hSw
            obtain ⟨t1, t2, t3, t4⟩ := hp.get
            obtain ⟨t5, t6, t7⟩ := he.get
            have t8 := hm.get hf hs ht hfin
            clear hp he hm
            go_simp
            with_reducible rfl
          try simp only [Act.put, List.getElem_toArray, List.getElem_cons_succ, List.getElem_cons_zero, List.setIfInBounds_toArray, List.set_cons_zero, List.set_cons_succ]
          refine wpAnyH_take (i := 1) (v := ?_) rfl (by kernel_rfl) (by kernel_rfl) (by kernel_rfl) (fun _ _ _ h => h) (Or.inl ⟨by rfl, ?_⟩) (by assumption) ?_
          rotate_left
          · intro W hSw
            obtain ⟨hp, he, hm⟩ := hSw
            obtain ⟨t1, t2, t3, t4⟩ := hp.get
            obtain ⟨t5, t6, t7⟩ := he.get
            have t8 := hm.get hf hs ht hfin
            clear hp he hm
            go_simp
            with_reducible rfl
          try simp only [Act.put, List.getElem_toArray, List.getElem_cons_succ, List.getElem_cons_zero, List.setIfInBounds_toArray, List.set_cons_zero, List.set_cons_succ]
          refine wpAnyH_take (i := 2) (v := ?_) rfl (by kernel_rfl) (by kernel_rfl) (by kernel_rfl) (fun _ _ _ h => h) (Or.inl ⟨by rfl, ?_⟩) (by assumption) ?_
          rotate_left
          · intro W hSw
            obtain ⟨hp, he, hm⟩ := hSw
            obtain ⟨t1, t2, t3, t4⟩ := hp.get
            obtain ⟨t5, t6, t7⟩ := he.get
            have t8 := hm.get hf hs ht hfin
            clear hp he hm
            go_simp
            with_reducible rfl
          try simp only [Act.put, List.getElem_toArray, List.getElem_cons_succ, List.getElem_cons_zero, List.setIfInBounds_toArray, List.set_cons_zero, List.set_cons_succ]
          refine wpAnyH_take (i := 3) (v := ?_) rfl (by kernel_rfl) (by kernel_rfl) (by kernel_rfl) (fun _ _ _ h => h) (Or.inl ⟨by rfl, ?_⟩) (by assumption) ?_
          rotate_left
          · intro W hSw
            obtain ⟨hp, he, hm⟩ := hSw
            obtain ⟨t1, t2, t3, t4⟩ := hp.get
            obtain ⟨t5, t6, t7⟩ := he.get
            have t8 := hm.get hf hs ht hfin
            clear hp he hm
            go_simp
            with_reducible rfl
          try simp only [Act.put, List.getElem_toArray, List.getElem_cons_succ, List.getElem_cons_zero, List.setIfInBounds_toArray, List.set_cons_zero, List.set_cons_succ]
          refine wpAnyH_take (i := 4) (v := ?_) rfl (by kernel_rfl) (by kernel_rfl) (by kernel_rfl) (fun _ _ _ h => h) (Or.inl ⟨by rfl, ?_⟩) (by assumption) ?_
          rotate_left
          · intro W hSw
            obtain ⟨hp, he, hm⟩ := hSw
            obtain ⟨t1, t2, t3, t4⟩ := hp.get
            obtain ⟨t5, t6, t7⟩ := he.get
            have t8 := hm.get hf hs ht hfin
            clear hp he hm
            go_simp
            with_reducible rfl
          try simp only [Act.put, List.getElem_toArray, List.getElem_cons_succ, List.getElem_cons_zero, List.setIfInBounds_toArray, List.set_cons_zero, List.set_cons_succ]
          refine wpAnyH_take (i := 5) (v := ?_) rfl (by kernel_rfl) (by kernel_rfl) (by kernel_rfl) (fun _ _ _ h => h) (Or.inl ⟨by rfl, ?_⟩) (by assumption) ?_
          rotate_left
          · intro W hSw
            obtain ⟨hp, he, hm⟩ := hSw
            obtain ⟨t1, t2, t3, t4⟩ := hp.get
            obtain ⟨t5, t6, t7⟩ := he.get
            have t8 := hm.get hf hs ht hfin
            clear hp he hm
            go_simp
            with_reducible rfl
          try simp only [Act.put, List.getElem_toArray, List.getElem_cons_succ, List.getElem_cons_zero, List.setIfInBounds_toArray, List.set_cons_zero, List.set_cons_succ]
          refine wpAnyH_take (i := 6) (v := ?_) rfl (by kernel_rfl) (by kernel_rfl) (by kernel_rfl) (fun _ _ _ h => h) (Or.inl ⟨by rfl, ?_⟩) (by assumption) ?_
          rotate_left
          · intro W hSw
            obtain ⟨hp, he, hm⟩ := hSw
            obtain ⟨t1, t2, t3, t4⟩ := hp.get
            obtain ⟨t5, t6, t7⟩ := he.get
            have t8 := hm.get hf hs ht hfin
            clear hp he hm
            go_simp
            with_reducible rfl
          try simp only [Act.put, List.getElem_toArray, List.getElem_cons_succ, List.getElem_cons_zero, List.setIfInBounds_toArray, List.set_cons_zero, List.set_cons_succ]
          refine wpAnyH_take (i := 7) (v := ?_) rfl (by kernel_rfl) (by kernel_rfl) (by kernel_rfl) (fun _ _ _ h => h) (Or.inl ⟨by rfl, ?_⟩) (by assumption) ?_
          rotate_left
          · intro W hSw
            obtain ⟨hp, he, hm⟩ := hSw
            obtain ⟨t1, t2, t3, t4⟩ := hp.get
            obtain ⟨t5, t6, t7⟩ := he.get
            have t8 := hm.get hf hs ht hfin
            clear hp he hm
            go_simp
            with_reducible rfl
          try simp only [Act.put, List.getElem_toArray, List.getElem_cons_succ, List.getElem_cons_zero, List.setIfInBounds_toArray, List.set_cons_zero, List.set_cons_succ]
          refine wpAnyH_take (i := 8) (v := ?_) rfl (by kernel_rfl) (by kernel_rfl) (by kernel_rfl) (fun _ _ _ h => h) (Or.inl ⟨by rfl, ?_⟩) (by assumption) ?_
          rotate_left
          · intro W hSw
            obtain ⟨hp, he, hm⟩ := hSw
            obtain ⟨t1, t2, t3, t4⟩ := hp.get
            obtain ⟨t5, t6, t7⟩ := he.get
            have t8 := hm.get hf hs ht hfin
            clear hp he hm
            go_simp
            with_reducible rfl
          try simp only [Act.put, List.getElem_toArray, List.getElem_cons_succ, List.getElem_cons_zero, List.setIfInBounds_toArray, List.set_cons_zero, List.set_cons_succ]
          refine wpAnyH_take (i := 9) (v := ?_) rfl (by kernel_rfl) (by kernel_rfl) (by kernel_rfl) (fun _ _ _ h => h) (Or.inl ⟨by rfl, ?_⟩) (by assumption) ?_
          rotate_left
          · intro W hSw
            obtain ⟨hp, he, hm⟩ := hSw
            obtain ⟨t1, t2, t3, t4⟩ := hp.get
            obtain ⟨t5, t6, t7⟩ := he.get
            have t8 := hm.get hf hs ht hfin
            clear hp he hm
            go_simp
            with_reducible rfl
          try simp only [Act.put, List.getElem_toArray, List.getElem_cons_succ, List.getElem_cons_zero, List.setIfInBounds_toArray, List.set_cons_zero, List.set_cons_succ]
          refine wpAnyH_take (i := 10) (v := ?_) rfl (by kernel_rfl) (by kernel_rfl) (by kernel_rfl) (fun _ _ _ h => h) (Or.inl ⟨by rfl, ?_⟩) (by assumption) ?_
          rotate_left
          · intro W hSw
            obtain ⟨hp, he, hm⟩ := hSw
            obtain ⟨t1, t2, t3, t4⟩ := hp.get
            obtain ⟨t5, t6, t7⟩ := he.get
            have t8 := hm.get hf hs ht hfin
            clear hp he hm
            go_simp
            with_reducible rfl
          try simp only [Act.put, List.getElem_toArray, List.getElem_cons_succ, List.getElem_cons_zero, List.setIfInBounds_toArray, List.set_cons_zero, List.set_cons_succ]
          refine wpAnyH_take (i := 11) (v := ?_) rfl (by kernel_rfl) (by kernel_rfl) (by kernel_rfl) (fun _ _ _ h => h) (Or.inl ⟨by rfl, ?_⟩) (by assumption) ?_
          rotate_left
          · intro W hSw
            obtain ⟨hp, he, hm⟩ := hSw
            obtain ⟨t1, t2, t3, t4⟩ := hp.get
            obtain ⟨t5, t6, t7⟩ := he.get
            have t8 := hm.get hf hs ht hfin
            clear hp he hm
            go_simp
            with_reducible rfl
          try simp only [Act.put, List.getElem_toArray, List.getElem_cons_succ, List.getElem_cons_zero, List.setIfInBounds_toArray, List.set_cons_zero, List.set_cons_succ]
          refine wpAnyH_take (i := 12) (v := ?_) rfl (by kernel_rfl) (by kernel_rfl) (by kernel_rfl) (fun _ _ _ h => h) (Or.inl ⟨by rfl, ?_⟩) (by assumption) ?_
          rotate_left
          · intro W hSw
            obtain ⟨hp, he, hm⟩ := hSw
            obtain ⟨t1, t2, t3, t4⟩ := hp.get
            obtain ⟨t5, t6, t7⟩ := he.get
            have t8 := hm.get hf hs ht hfin
            clear hp he hm
            go_simp
            with_reducible rfl
          try simp only [Act.put, List.getElem_toArray, List.getElem_cons_succ, List.getElem_cons_zero, List.setIfInBounds_toArray, List.set_cons_zero, List.set_cons_succ]
          refine wpAnyH_take (i := 13) (v := undef) rfl (by kernel_rfl) (by kernel_rfl) (by kernel_rfl) (fun _ _ _ h => h) (Or.inr ⟨by rfl, rfl⟩) (by assumption) ?_
          try simp only [Act.put, List.getElem_toArray, List.getElem_cons_succ, List.getElem_cons_zero, List.setIfInBounds_toArray, List.set_cons_zero, List.set_cons_succ]
          refine wpAnyH_take (i := 14) (v := undef) rfl (by kernel_rfl) (by kernel_rfl) (by kernel_rfl) (fun _ _ _ h => h) (Or.inr ⟨by rfl, rfl⟩) (by assumption) ?_
          try simp only [Act.put, List.getElem_toArray, List.getElem_cons_succ, List.getElem_cons_zero, List.setIfInBounds_toArray, List.set_cons_zero, List.set_cons_succ]
          refine wpAnyH_take (i := 15) (v := undef) rfl (by kernel_rfl) (by kernel_rfl) (by kernel_rfl) (fun _ _ _ h => h) (Or.inr ⟨by rfl, rfl⟩) (by assumption) ?_
          try simp only [Act.put, List.getElem_toArray, List.getElem_cons_succ, List.getElem_cons_zero, List.setIfInBounds_toArray, List.set_cons_zero, List.set_cons_succ]
          refine wpAnyH_take (i := 16) (v := undef) rfl (by kernel_rfl) (by kernel_rfl) (by kernel_rfl) (fun _ _ _ h => h) (Or.inr ⟨by rfl, rfl⟩) (by assumption) ?_
          try simp only [Act.put, List.getElem_toArray, List.getElem_cons_succ, List.getElem_cons_zero, List.setIfInBounds_toArray, List.set_cons_zero, List.set_cons_succ]
          refine wpAnyH_take (i := 17) (v := undef) rfl (by kernel_rfl) (by kernel_rfl) (by kernel_rfl) (fun _ _ _ h => h) (Or.inr ⟨by rfl, rfl⟩) (by assumption) ?_
          try simp only [Act.put, List.getElem_toArray, List.getElem_cons_succ, List.getElem_cons_zero, List.setIfInBounds_toArray, List.set_cons_zero, List.set_cons_succ]
          refine wpAnyH_take (i := 18) (v := undef) rfl (by kernel_rfl) (by kernel_rfl) (by kernel_rfl) (fun _ _ _ h => h) (Or.inr ⟨by rfl, rfl⟩) (by assumption) ?_
          try simp only [Act.put, List.getElem_toArray, List.getElem_cons_succ, List.getElem_cons_zero, List.setIfInBounds_toArray, List.set_cons_zero, List.set_cons_succ]
          refine wpAnyH_take (i := 19) (v := undef) rfl (by kernel_rfl) (by kernel_rfl) (by kernel_rfl) (fun _ _ _ h => h) (Or.inr ⟨by rfl, rfl⟩) (by assumption) ?_
          try simp only [Act.put, List.getElem_toArray, List.getElem_cons_succ, List.getElem_cons_zero, List.setIfInBounds_toArray, List.set_cons_zero, List.set_cons_succ]
          refine wpAnyH_take (i := 20) (v := undef) rfl (by kernel_rfl) (by kernel_rfl) (by kernel_rfl) (fun _ _ _ h => h) (Or.inr ⟨by rfl, rfl⟩) (by assumption) ?_
          try simp only [Act.put, List.getElem_toArray, List.getElem_cons_succ, List.getElem_cons_zero, List.setIfInBounds_toArray, List.set_cons_zero, List.set_cons_succ]
          refine wpAnyH_take (i := 21) (v := undef) rfl (by kernel_rfl) (by kernel_rfl) (by kernel_rfl) (fun _ _ _ h => h) (Or.inr ⟨by rfl, rfl⟩) (by assumption) ?_
          try simp only [Act.put, List.getElem_toArray, List.getElem_cons_succ, List.getElem_cons_zero, List.setIfInBounds_toArray, List.set_cons_zero, List.set_cons_succ]
          refine wpAnyH_take (i := 22) (v := undef) rfl (by kernel_rfl) (by kernel_rfl) (by kernel_rfl) (fun _ _ _ h => h) (Or.inr ⟨by rfl, rfl⟩) (by assumption) ?_
          try simp only [Act.put, List.getElem_toArray, List.getElem_cons_succ, List.getElem_cons_zero, List.setIfInBounds_toArray, List.set_cons_zero, List.set_cons_succ]
          refine wpAnyH_take (i := 23) (v := undef) rfl (by kernel_rfl) (by kernel_rfl) (by kernel_rfl) (fun _ _ _ h => h) (Or.inr ⟨by rfl, rfl⟩) (by assumption) ?_
          try simp only [Act.put, List.getElem_toArray, List.getElem_cons_succ, List.getElem_cons_zero, List.setIfInBounds_toArray, List.set_cons_zero, List.set_cons_succ]
          refine wpAnyH_take (i := 24) (v := undef) rfl (by kernel_rfl) (by kernel_rfl) (by kernel_rfl) (fun _ _ _ h => h) (Or.inr ⟨by rfl, rfl⟩) (by assumption) ?_
          try simp only [Act.put, List.getElem_toArray, List.getElem_cons_succ, List.getElem_cons_zero, List.setIfInBounds_toArray, List.set_cons_zero, List.set_cons_succ]
          refine wpAnyH_take (i := 25) (v := undef) rfl (by kernel_rfl) (by kernel_rfl) (by kernel_rfl) (fun _ _ _ h => h) (Or.inr ⟨by rfl, rfl⟩) (by assumption) ?_
          try simp only [Act.put, List.getElem_toArray, List.getElem_cons_succ, List.getElem_cons_zero, List.setIfInBounds_toArray, List.set_cons_zero, List.set_cons_succ]
          refine wpAnyH_take (i := 26) (v := undef) rfl (by kernel_rfl) (by kernel_rfl) (by kernel_rfl) (fun _ _ _ h => h) (Or.inr ⟨by rfl, rfl⟩) (by assumption) ?_
          try simp only [Act.put, List.getElem_toArray, List.getElem_cons_succ, List.getElem_cons_zero, List.setIfInBounds_toArray, List.set_cons_zero, List.set_cons_succ]
          refine wpAnyH_take (i := 27) (v := ?_) rfl (by kernel_rfl) (by kernel_rfl) (by kernel_rfl) (fun _ _ _ h => h) (Or.inl ⟨by rfl, ?_⟩) (by assumption) ?_
          rotate_left
          · intro W hSw
            obtain ⟨hp, he, hm⟩ := hSw
            obtain ⟨t1, t2, t3, t4⟩ := hp.get
            obtain ⟨t5, t6, t7⟩ := he.get
            have t8 := hm.get hf hs ht hfin
            clear hp he hm
            go_simp
            with_reducible rfl
          try simp only [Act.put, List.getElem_toArray, List.getElem_cons_succ, List.getElem_cons_zero, List.setIfInBounds_toArray, List.set_cons_zero, List.set_cons_succ]
          refine wpAnyH_done (by kernel_rfl) ?_ _
          go_wp2_with fail
          go_roundw
          case rel => exact ⟨k + 1, by omega, by simp, HNo.out, ⟨grown_trans G.out.1 (grown_trans G4.out (grown_drew (grown_refl _ _))), G.out.2.kept (grown_trans G4.out (grown_drew (grown_refl _ _)))⟩⟩
          case measure => simp [intOf]; omega
      · have bF : ((fN : Int) == (f : Int)) = false := by simp; omega
        have HNo : Hid (∀ j, j < k + 1 → ¬ MatchC L E f s t j) := HNoN.out (fun h => hF (HM.out.1 h).1)
        clear hF HNoN HM
        refine wp_region_held_drew (S := SRul B be b fN tN oN ap r.P.length cp f s t E) (by kernel_rfl) (S0.out.kept (grown_drew (grown_refl _ _))) (fun hHeld => ?_)
        refine wpAnyH_take (i := 0) (v := ?_) rfl (by kernel_rfl) (by kernel_rfl) (by kernel_rfl) (fun _ _ _ h => h) (Or.inl ⟨by rfl, ?_⟩) (by assumption) ?_
        rotate_left
        · intro W hSw
          obtain ⟨hp, he, hm⟩ := hSw
          obtain ⟨t1, t2, t3, t4⟩ := hp.get
          obtain ⟨t5, t6, t7⟩ := he.get
          have t8 := hm.get hf hs ht hfin
          clear hp he hm
          go_simp
          with_reducible rfl
        try simp only [Act.put, List.getElem_toArray, List.getElem_cons_succ, List.getElem_cons_zero, List.setIfInBounds_toArray, List.set_cons_zero, List.set_cons_succ]
        refine wpAnyH_take (i := 1) (v := ?_) rfl (by kernel_rfl) (by kernel_rfl) (by kernel_rfl) (fun _ _ _ h => h) (Or.inl ⟨by rfl, ?_⟩) (by assumption) ?_
        rotate_left
        · intro W hSw
          obtain ⟨hp, he, hm⟩ := hSw
          obtain ⟨t1, t2, t3, t4⟩ := hp.get
          obtain ⟨t5, t6, t7⟩ := he.get
          have t8 := hm.get hf hs ht hfin
          clear hp he hm
          go_simp
          with_reducible rfl
        try simp only [Act.put, List.getElem_toArray, List.getElem_cons_succ, List.getElem_cons_zero, List.setIfInBounds_toArray, List.set_cons_zero, List.set_cons_succ]
        refine wpAnyH_take (i := 2) (v := ?_) rfl (by kernel_rfl) (by kernel_rfl) (by kernel_rfl) (fun _ _ _ h => h) (Or.inl ⟨by rfl, ?_⟩) (by assumption) ?_
        rotate_left
        · intro W hSw
          obtain ⟨hp, he, hm⟩ := hSw
          obtain ⟨t1, t2, t3, t4⟩ := hp.get
          obtain ⟨t5, t6, t7⟩ := he.get
          have t8 := hm.get hf hs ht hfin
          clear hp he hm
          go_simp
          with_reducible rfl
        try simp only [Act.put, List.getElem_toArray, List.getElem_cons_succ, List.getElem_cons_zero, List.setIfInBounds_toArray, List.set_cons_zero, List.set_cons_succ]
        refine wpAnyH_take (i := 3) (v := ?_) rfl (by kernel_rfl) (by kernel_rfl) (by kernel_rfl) (fun _ _ _ h => h) (Or.inl ⟨by rfl, ?_⟩) (by assumption) ?_
        rotate_left
        · intro W hSw
          obtain ⟨hp, he, hm⟩ := hSw
          obtain ⟨t1, t2, t3, t4⟩ := hp.get
          obtain ⟨t5, t6, t7⟩ := he.get
          have t8 := hm.get hf hs ht hfin
          clear hp he hm
          go_simp
          with_reducible rfl
        try simp only [Act.put, List.getElem_toArray, List.getElem_cons_succ, List.getElem_cons_zero, List.setIfInBounds_toArray, List.set_cons_zero, List.set_cons_succ]
        refine wpAnyH_take (i := 4) (v := ?_) rfl (by kernel_rfl) (by kernel_rfl) (by kernel_rfl) (fun _ _ _ h => h) (Or.inl ⟨by rfl, ?_⟩) (by assumption) ?_
        rotate_left
        · intro W hSw
          obtain ⟨hp, he, hm⟩ := hSw
          obtain ⟨t1, t2, t3, t4⟩ := hp.get
          obtain ⟨t5, t6, t7⟩ := he.get
          have t8 := hm.get hf hs ht hfin
          clear hp he hm
          go_simp
          with_reducible rfl
        try simp only [Act.put, List.getElem_toArray, List.getElem_cons_succ, List.getElem_cons_zero, List.setIfInBounds_toArray, List.set_cons_zero, List.set_cons_succ]
        refine wpAnyH_take (i := 5) (v := ?_) rfl (by kernel_rfl) (by kernel_rfl) (by kernel_rfl) (fun _ _ _ h => h) (Or.inl ⟨by rfl, ?_⟩) (by assumption) ?_
        rotate_left
        · intro W hSw
          obtain ⟨hp, he, hm⟩ := hSw
          obtain ⟨t1, t2, t3, t4⟩ := hp.get
          obtain ⟨t5, t6, t7⟩ := he.get
          have t8 := hm.get hf hs ht hfin
          clear hp he hm
          go_simp
          with_reducible rfl
        try simp only [Act.put, List.getElem_toArray, List.getElem_cons_succ, List.getElem_cons_zero, List.setIfInBounds_toArray, List.set_cons_zero, List.set_cons_succ]
        refine wpAnyH_take (i := 6) (v := undef) rfl (by kernel_rfl) (by kernel_rfl) (by kernel_rfl) (fun _ _ _ h => h) (Or.inr ⟨by rfl, rfl⟩) (by assumption) ?_
        try simp only [Act.put, List.getElem_toArray, List.getElem_cons_succ, List.getElem_cons_zero, List.setIfInBounds_toArray, List.set_cons_zero, List.set_cons_succ]
        refine wpAnyH_take (i := 7) (v := undef) rfl (by kernel_rfl) (by kernel_rfl) (by kernel_rfl) (fun _ _ _ h => h) (Or.inr ⟨by rfl, rfl⟩) (by assumption) ?_
        try simp only [Act.put, List.getElem_toArray, List.getElem_cons_succ, List.getElem_cons_zero, List.setIfInBounds_toArray, List.set_cons_zero, List.set_cons_succ]
        refine wpAnyH_take (i := 8) (v := undef) rfl (by kernel_rfl) (by kernel_rfl) (by kernel_rfl) (fun _ _ _ h => h) (Or.inr ⟨by rfl, rfl⟩) (by assumption) ?_
        try simp only [Act.put, List.getElem_toArray, List.getElem_cons_succ, List.getElem_cons_zero, List.setIfInBounds_toArray, List.set_cons_zero, List.set_cons_succ]
        refine wpAnyH_take (i := 9) (v := undef) rfl (by kernel_rfl) (by kernel_rfl) (by kernel_rfl) (fun _ _ _ h => h) (Or.inr ⟨by rfl, rfl⟩) (by assumption) ?_
        try simp only [Act.put, List.getElem_toArray, List.getElem_cons_succ, List.getElem_cons_zero, List.setIfInBounds_toArray, List.set_cons_zero, List.set_cons_succ]
        refine wpAnyH_take (i := 10) (v := undef) rfl (by kernel_rfl) (by kernel_rfl) (by kernel_rfl) (fun _ _ _ h => h) (Or.inr ⟨by rfl, rfl⟩) (by assumption) ?_
        try simp only [Act.put, List.getElem_toArray, List.getElem_cons_succ, List.getElem_cons_zero, List.setIfInBounds_toArray, List.set_cons_zero, List.set_cons_succ]
        refine wpAnyH_take (i := 11) (v := ?_) rfl (by kernel_rfl) (by kernel_rfl) (by kernel_rfl) (fun _ _ _ h => h) (Or.inl ⟨by rfl, ?_⟩) (by assumption) ?_
        rotate_left
        · intro W hSw
          obtain ⟨hp, he, hm⟩ := hSw
          obtain ⟨t1, t2, t3, t4⟩ := hp.get
          obtain ⟨t5, t6, t7⟩ := he.get
          have t8 := hm.get hf hs ht hfin
          clear hp he hm
          go_simp
          with_reducible rfl
        try simp only [Act.put, List.getElem_toArray, List.getElem_cons_succ, List.getElem_cons_zero, List.setIfInBounds_toArray, List.set_cons_zero, List.set_cons_succ]
        refine wpAnyH_take (i := 12) (v := ?_) rfl (by kernel_rfl) (by kernel_rfl) (by kernel_rfl) (fun _ _ _ h => h) (Or.inl ⟨by rfl, ?_⟩) (by assumption) ?_
        rotate_left
        · intro W hSw
          obtain ⟨hp, he, hm⟩ := hSw
          obtain ⟨t1, t2, t3, t4⟩ := hp.get
          obtain ⟨t5, t6, t7⟩ := he.get
          have t8 := hm.get hf hs ht hfin
          clear hp he hm
          go_simp
          with_reducible rfl
        try simp only [Act.put, List.getElem_toArray, List.getElem_cons_succ, List.getElem_cons_zero, List.setIfInBounds_toArray, List.set_cons_zero, List.set_cons_succ]
        refine wpAnyH_take (i := 13) (v := undef) rfl (by kernel_rfl) (by kernel_rfl) (by kernel_rfl) (fun _ _ _ h => h) (Or.inr ⟨by rfl, rfl⟩) (by assumption) ?_
        try simp only [Act.put, List.getElem_toArray, List.getElem_cons_succ, List.getElem_cons_zero, List.setIfInBounds_toArray, List.set_cons_zero, List.set_cons_succ]
        refine wpAnyH_take (i := 14) (v := undef) rfl (by kernel_rfl) (by kernel_rfl) (by kernel_rfl) (fun _ _ _ h => h) (Or.inr ⟨by rfl, rfl⟩) (by assumption) ?_
        try simp only [Act.put, List.getElem_toArray, List.getElem_cons_succ, List.getElem_cons_zero, List.setIfInBounds_toArray, List.set_cons_zero, List.set_cons_succ]
        refine wpAnyH_take (i := 15) (v := undef) rfl (by kernel_rfl) (by kernel_rfl) (by kernel_rfl) (fun _ _ _ h => h) (Or.inr ⟨by rfl, rfl⟩) (by assumption) ?_
        try simp only [Act.put, List.getElem_toArray, List.getElem_cons_succ, List.getElem_cons_zero, List.setIfInBounds_toArray, List.set_cons_zero, List.set_cons_succ]
        refine wpAnyH_take (i := 16) (v := undef) rfl (by kernel_rfl) (by kernel_rfl) (by kernel_rfl) (fun _ _ _ h => h) (Or.inr ⟨by rfl, rfl⟩) (by assumption) ?_
        try simp only [Act.put, List.getElem_toArray, List.getElem_cons_succ, List.getElem_cons_zero, List.setIfInBounds_toArray, List.set_cons_zero, List.set_cons_succ]
        refine wpAnyH_take (i := 17) (v := undef) rfl (by kernel_rfl) (by kernel_rfl) (by kernel_rfl) (fun _ _ _ h => h) (Or.inr ⟨by rfl, rfl⟩) (by assumption) ?_
        try simp only [Act.put, List.getElem_toArray, List.getElem_cons_succ, List.getElem_cons_zero, List.setIfInBounds_toArray, List.set_cons_zero, List.set_cons_succ]
        refine wpAnyH_take (i := 18) (v := undef) rfl (by kernel_rfl) (by kernel_rfl) (by kernel_rfl) (fun _ _ _ h => h) (Or.inr ⟨by rfl, rfl⟩) (by assumption) ?_
        try simp only [Act.put, List.getElem_toArray, List.getElem_cons_succ, List.getElem_cons_zero, List.setIfInBounds_toArray, List.set_cons_zero, List.set_cons_succ]
        refine wpAnyH_take (i := 19) (v := undef) rfl (by kernel_rfl) (by kernel_rfl) (by kernel_rfl) (fun _ _ _ h => h) (Or.inr ⟨by rfl, rfl⟩) (by assumption) ?_
        try simp only [Act.put, List.getElem_toArray, List.getElem_cons_succ, List.getElem_cons_zero, List.setIfInBounds_toArray, List.set_cons_zero, List.set_cons_succ]
        refine wpAnyH_take (i := 20) (v := undef) rfl (by kernel_rfl) (by kernel_rfl) (by kernel_rfl) (fun _ _ _ h => h) (Or.inr ⟨by rfl, rfl⟩) (by assumption) ?_
        try simp only [Act.put, List.getElem_toArray, List.getElem_cons_succ, List.getElem_cons_zero, List.setIfInBounds_toArray, List.set_cons_zero, List.set_cons_succ]
        refine wpAnyH_take (i := 21) (v := undef) rfl (by kernel_rfl) (by kernel_rfl) (by kernel_rfl) (fun _ _ _ h => h) (Or.inr ⟨by rfl, rfl⟩) (by assumption) ?_
        try simp only [Act.put, List.getElem_toArray, List.getElem_cons_succ, List.getElem_cons_zero, List.setIfInBounds_toArray, List.set_cons_zero, List.set_cons_succ]
        refine wpAnyH_take (i := 22) (v := undef) rfl (by kernel_rfl) (by kernel_rfl) (by kernel_rfl) (fun _ _ _ h => h) (Or.inr ⟨by rfl, rfl⟩) (by assumption) ?_
        try simp only [Act.put, List.getElem_toArray, List.getElem_cons_succ, List.getElem_cons_zero, List.setIfInBounds_toArray, List.set_cons_zero, List.set_cons_succ]
        refine wpAnyH_take (i := 23) (v := undef) rfl (by kernel_rfl) (by kernel_rfl) (by kernel_rfl) (fun _ _ _ h => h) (Or.inr ⟨by rfl, rfl⟩) (by assumption) ?_
        try simp only [Act.put, List.getElem_toArray, List.getElem_cons_succ, List.getElem_cons_zero, List.setIfInBounds_toArray, List.set_cons_zero, List.set_cons_succ]
        refine wpAnyH_take (i := 24) (v := undef) rfl (by kernel_rfl) (by kernel_rfl) (by kernel_rfl) (fun _ _ _ h => h) (Or.inr ⟨by rfl, rfl⟩) (by assumption) ?_
        try simp only [Act.put, List.getElem_toArray, List.getElem_cons_succ, List.getElem_cons_zero, List.setIfInBounds_toArray, List.set_cons_zero, List.set_cons_succ]
        refine wpAnyH_take (i := 25) (v := undef) rfl (by kernel_rfl) (by kernel_rfl) (by kernel_rfl) (fun _ _ _ h => h) (Or.inr ⟨by rfl, rfl⟩) (by assumption) ?_
        try simp only [Act.put, List.getElem_toArray, List.getElem_cons_succ, List.getElem_cons_zero, List.setIfInBounds_toArray, List.set_cons_zero, List.set_cons_succ]
        refine wpAnyH_take (i := 26) (v := undef) rfl (by kernel_rfl) (by kernel_rfl) (by kernel_rfl) (fun _ _ _ h => h) (Or.inr ⟨by rfl, rfl⟩) (by assumption) ?_
        try simp only [Act.put, List.getElem_toArray, List.getElem_cons_succ, List.getElem_cons_zero, List.setIfInBounds_toArray, List.set_cons_zero, List.set_cons_succ]
        refine wpAnyH_take (i := 27) (v := ?_) rfl (by kernel_rfl) (by kernel_rfl) (by kernel_rfl) (fun _ _ _ h => h) (Or.inl ⟨by rfl, ?_⟩) (by assumption) ?_
        rotate_left
        · intro W hSw
          obtain ⟨hp, he, hm⟩ := hSw
          obtain ⟨t1, t2, t3, t4⟩ := hp.get
          obtain ⟨t5, t6, t7⟩ := he.get
          have t8 := hm.get hf hs ht hfin
          clear hp he hm
          go_simp
          with_reducible rfl
        try simp only [Act.put, List.getElem_toArray, List.getElem_cons_succ, List.getElem_cons_zero, List.setIfInBounds_toArray, List.set_cons_zero, List.set_cons_succ]
        refine wpAnyH_done (by kernel_rfl) ?_ _
        go_wp2_with fail
        go_roundw
        case rel => exact ⟨k + 1, by omega, by simp, HNo.out, ⟨grown_trans G.out.1 (grown_trans G4.out (grown_drew (grown_refl _ _))), G.out.2.kept (grown_trans G4.out (grown_drew (grown_refl _ _)))⟩⟩
        case measure => simp [intOf]; omega
    · exfalso
      obtain ⟨i, hi⟩ := HX.out
      exact hno i (by have := hi.1; omega) hi

end Go.Proofs.Ytcgkflddipflbaa
