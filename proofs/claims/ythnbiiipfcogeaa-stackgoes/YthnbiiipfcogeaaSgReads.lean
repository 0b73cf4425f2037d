/- What it costs to read signs: the program's reads and read. -/
import Derived.Test.YthnbiiipfcogeaaSgBy
import Derived.Test.YthnbiiipfcogeaaYConcat
namespace Go.Proofs.Ythnbiiipfcogeaa
open Go.RowKit Go.Maps
set_option linter.unusedVariables false
set_option linter.unusedSimpArgs false

/-- Rows of six costs, one behind the other. -/
def rowsL (R : Nat → Nat → Nat) : Nat → List Value
  | 0 => []
  | k + 1 => rowsL R k ++ (rArr (R k)).toList
theorem rowsL_len (R : Nat → Nat → Nat) (k : Nat) : (rowsL R k).length = k * 6 := by
  induction k with
  | zero => rfl
  | succ k ih => unfold rowsL; rw [List.length_append, ih]; simp; omega
theorem rowsL_get (R : Nat → Nat → Nat) {k i j : Nat} (hi : i < k) (hj : j < 6) : (rowsL R k)[i * 6 + j]? = some (.int .i64 (R i j : Int)) := by
  induction k with
  | zero => omega
  | succ k ih =>
    unfold rowsL
    by_cases e : i < k
    · rw [List.getElem?_append_left (by rw [rowsL_len]; omega)]
      exact ih e
    · have : i = k := by omega
      subst this
      rw [List.getElem?_append_right (by rw [rowsL_len]; omega), rowsL_len, show i * 6 + j - i * 6 = j by omega]
      have := rArr_get (R i) hj
      simpa using this
theorem rowsL_one {R : Nat → Nat → Nat} {k : Nat} {u : Value} (h : u ∈ rowsL R k) : u.oneCell' = true := by
  induction k with
  | zero => simp [rowsL] at h
  | succ k ih =>
    unfold rowsL at h
    rcases List.mem_append.1 h with h | h
    · exact ih h
    · simp [rArr] at h
      rcases h with rfl | rfl | rfl | rfl | rfl | rfl <;> rfl
theorem Try.infoC6 : (Try.prog.info? 39).map (fun i => (i.zero, i.size, i.bytes)) = some (some (.agg #[.int .i64 0, .int .i64 0, .int .i64 0, .int .i64 0, .int .i64 0, .int .i64 0]), 6, 48) := by kernel_rfl
/-- One more row is put behind. -/
theorem app_row {w : World} {B k : Nat} {v : Value} {R : Nat → Nat → Nat} (ho : w.ownsRow B 39 6 v k (rowsL R k)) (hB : B ≤ w.heap.size) (hk : k ≤ 1000) :
    ∃ g cap w', (AppY #[52, 52] 52 #[v, .slice (some ⟨w.heap.size, 0, none⟩) 1 1]).run Try.prog (w.alloc (.cells (rArr (R k)) 39)) = .ok (.slice (some ⟨g, 0, none⟩) (k + 1) cap) w' ∧
      w'.ownsRow B 39 6 (.slice (some ⟨g, 0, none⟩) (k + 1) cap) (k + 1) (rowsL R (k + 1)) ∧ (w.alloc (.cells (rArr (R k)) 39)).grownBy w' v.ownBlock := by
  obtain ⟨i0, hi0, hz0, hz1, hz2⟩ := info_partsY Try.infoC6
  obtain ⟨g, cap, w', h1, h2, h3, _⟩ := run_append_lies (P := Try.prog) (w.alloc (.cells (rArr (R k)) 39)) 52 52 B 39 i0 (.agg #[.int .i64 0, .int .i64 0, .int .i64 0, .int .i64 0, .int .i64 0, .int .i64 0]) 6 48 Try.underlying52 hi0 hz0 hz1 hz2 rfl (by decide) v k (rowsL R k) (ho.kept (grown_alloc _ _) (by cases v.ownBlock <;> simp)) ⟨w.heap.size, 0, none⟩ 1 1 (rArr (R k)).toList (by simp) (fun j u hu => by
      have e : (⟨w.heap.size, 0, none⟩ : Addr).add j = ⟨w.heap.size, j, none⟩ := by by_cases hj0 : j = 0 <;> simp [Addr.add, hj0]
      rw [e, cell_of_row _ _ j _ _ (0, 0) (heap_alloc_new w _), ← hu]
      simp) (fun u hu => by simp [rArr] at hu; rcases hu with rfl | rfl | rfl | rfl | rfl | rfl <;> rfl) (by decide) (by unfold maxLen; omega) (by omega) (by simp; omega) _ rfl
  exact ⟨g, cap, w', h1, h2, h3⟩
theorem row_frame {e : TypeId} {size B n : Nat} {w0 w w' : World} {v : Value} {ys : List Value} (h : w.ownsRow B e size v n ys) (h0 : w0.heap.size ≤ B) (h1 : w0.grownBy w none) (h2 : w.grownBy w' v.ownBlock) : w0.grownBy w' none := by
  cases hb : v.ownBlock with
  | none => rw [hb] at h2; exact grown_trans h1 h2
  | some g =>
    rw [hb] at h2
    have := (World.ownsRow.lt h g hb).1
    exact grown_new h1 h2 (by omega)
/-- An edge map is another block than a row of one's own. -/
theorem EdgesAt.row {e : TypeId} {size B b n : Nat} {w w' : World} {E : Edg} {v : Value} {ys : List Value} (h : EdgesAt w b E) (ho : w.ownsRow B e size v n ys) (hg : w.grownBy w' v.ownBlock) : EdgesAt w' b E := by
  refine h.kept hg ?_
  rcases ho.2 with ⟨rfl, _⟩ | ⟨g, cap, cur, rfl, _, hh, _⟩
  · simp [Value.ownBlock]
  · have := h.ne hh
    simp only [Value.ownBlock, ne_eq, Option.some.injEq]
    exact fun e => this e.symm

/-- What reads leaves behind. -/
def ReadsPost (E : Edg) (a : Nat) (zs : List Int) (w : World) (e : Ending) (w' : World) : Prop := ∃ g cap, e = .returned (.slice (some ⟨g, 0, none⟩) (zs.length + 1) cap) ∧ (∀ i, i ≤ zs.length → ∀ j, j < 6 → w'.cell? ⟨g, i * 6 + j, none⟩ = some (.int .i64 (readC E a (zs.take i) j : Int))) ∧ w.heap.size ≤ g ∧ w.grownBy w' none
theorem readC_take (E : Edg) (a : Nat) (zs : List Int) {k : Nat} (hk : k < zs.length) : readC E a (zs.take (k + 1)) = byC E (readC E a (zs.take k)) (zs.getD k 0) := by
  have e : zs.take (k + 1) = zs.take k ++ [zs.getD k 0] := by rw [List.take_add_one]; simp [List.getD, hk]
  rw [e]
  exact readsC_snoc E (row0 a) (zs.take k) (zs.getD k 0)
theorem readC_zero (E : Edg) (a : Nat) (zs : List Int) : readC E a (zs.take 0) = row0 a := by rw [List.take_zero]; exact readsC_nil E (row0 a)

attribute [local go_sem ↓] appY_fold in
set_option maxHeartbeats 6400000 in
set_option maxRecDepth 100000 in
theorem reads_any (b a : Nat) (E : Edg) (az : Option Addr) (cz : Nat) (zs : List Int) (w : World) (h : EdgesAt w b E) (ha : a < 6) (hz : Ints w az zs) (hn : zs.length ≤ 100) (hs : OnesSk zs) :
    Calls Try.prog 17 #[.map (some b), .int .i64 (a : Int), .slice az zs.length cz] w (ReadsPost E a zs w) := by
  have HE : Hid (∀ V, w.grownBy V none → EdgesAt V b E) := fun V hV => h.kept hV (by simp)
  have HZ : Hid (Ints w az zs) := hz
  have HS : Hid (OnesSk zs) := hs
  obtain ⟨R, hR⟩ : ∃ R : Nat → Nat → Nat, (fun i => readC E a (zs.take i)) = R := ⟨_, rfl⟩
  have HR : Hid (∀ i, readC E a (zs.take i) = R i) := fun i => by rw [← hR]
  have HR0 : Hid (R 0 = row0 a) := by show _ = _; rw [← hR]; exact readC_zero E a zs
  have HRs : Hid (∀ k, k < zs.length → R (k + 1) = byC E (R k) (zs.getD k 0)) := fun k hk => by rw [← hR]; exact readC_take E a zs hk
  have HRt : Hid (∀ k f, R k f ≤ 2002) := fun k f => by rw [← hR]; exact readC_top E a _ f
  have hai : (a : Int) < 6 := by omega
  clear h hz hs hR
  go_enter Try.func17, Try.ntmps17
  go_wp2_with fail
  refine (nowhere_any w).mono ?_
  rintro e w2 ⟨rfl, hg2⟩
  have ea : ([Value.int .i64 2002, .int .i64 2002, .int .i64 2002, .int .i64 2002, .int .i64 2002, .int .i64 2002].set a (.int .i64 0)).toArray = rArr (R 0) := by
    rw [HR0.out]
    rcases six ha with rfl | rfl | rfl | rfl | rfl | rfl <;> rfl
  have X3 : Hid ((w2.alloc (.cells ([Value.int .i64 2002, .int .i64 2002, .int .i64 2002, .int .i64 2002, .int .i64 2002, .int .i64 2002].set a (.int .i64 0)).toArray 39)).ownsRow w.heap.size 39 6 (.slice (some ⟨w2.heap.size, 0, none⟩) 1 1) 1 (rowsL R 1) ∧ w.grownBy (w2.alloc (.cells ([Value.int .i64 2002, .int .i64 2002, .int .i64 2002, .int .i64 2002, .int .i64 2002, .int .i64 2002].set a (.int .i64 0)).toArray 39)) none) := by
    rw [ea]
    refine ⟨⟨rowsL_len R 1, .inr ⟨w2.heap.size, 1, rArr (R 0), rfl, hg2.size, box6_new w2 (R 0), by omega, by unfold maxLen; omega, by simp, ?_⟩⟩, grown_trans hg2 (grown_alloc _ _)⟩
    simp [rowsL]
  have B2 := box6_new w2 (fun _ => 2002)
  have c0 := B2.cell ha
  have f0 := B2.fz a
  simp only [rArr] at c0 f0
  clear B2 hg2 ea
  go_wp2_with fail
  obtain ⟨W3, hW3⟩ : ∃ W3, w2.alloc (.cells ([Value.int .i64 2002, .int .i64 2002, .int .i64 2002, .int .i64 2002, .int .i64 2002, .int .i64 2002].set a (.int .i64 0)).toArray 39) = W3 := ⟨_, rfl⟩
  rw [hW3] at X3 ⊢
  clear hW3 c0 f0
  go_loopw [7, 18] (fun v i wr => ∃ (k : Nat) (g cap : Nat), i = .int .i64 k ∧ k ≤ zs.length ∧ v = .slice (some ⟨g, 0, none⟩) (k + 1) cap ∧ wr.ownsRow w.heap.size 39 6 (.slice (some ⟨g, 0, none⟩) (k + 1) cap) (k + 1) (rowsL R (k + 1)) ∧ w.grownBy wr none) (fun _ i _ => zs.length - (intOf i).toNat)
  case atStart => exact ⟨0, _, _, rfl, by omega, rfl, X3.out.1, X3.out.2⟩
  case round =>
    clear X3
    obtain ⟨k, g, cap, rfl, hk, rfl, ho, hg⟩ := hrel
    by_cases hlt : k < zs.length
    · have hki : (k : Int) < (zs.length : Int) := by omega
      have hkk : (k : Int) < ((k + 1 : Nat) : Int) := by omega
      obtain ⟨bz, oz, rfl, hcz⟩ := HZ.out.at hlt
      have hz := hg.cell (hcz k hlt) (by simp)
      obtain ⟨s1, s2⟩ := (oneSk_iff _).1 (HS.out k hlt)
      obtain ⟨s, hs⟩ : ∃ s : Nat, zs.getD k 0 = (s : Int) := ⟨(zs.getD k 0).toNat, by omega⟩
      rw [hs] at hz
      have hc : ∀ j, j < 6 → wr.cell? ⟨g, k * 6 + j, none⟩ = some (.int .i64 (R k j : Int)) := fun j hj => by rw [ho.cellAt (k * 6 + j) (by omega)]; exact rowsL_get R (by omega) hj
      have r0 := hc 0 (by omega)
      have r1 := hc 1 (by omega)
      have r2 := hc 2 (by omega)
      have r3 := hc 3 (by omega)
      have r4 := hc 4 (by omega)
      have r5 := hc 5 (by omega)
      rw [Nat.add_zero] at r0
      have CB : Hid (Calls Try.prog 26 #[.map (some b), rV (R k), .int .i64 (s : Int)] wr (Says (rV (R (k + 1))) wr)) := by
        have := by_any b s E (R k) wr (HE.out wr hg) (HRt.out k) (by omega)
        rw [← hs, ← HRs.out k hlt] at this
        rw [← hs]
        exact this
      have O : Hid (wr.ownsRow w.heap.size 39 6 (.slice (some ⟨g, 0, none⟩) (k + 1) cap) (k + 1) (rowsL R (k + 1))) := ho
      have G : Hid (w.grownBy wr none) := hg
      clear hcz hc ho hg s1 s2 hs
      go_wp2_with fail
      refine CB.out.mono ?_
      rintro e w4 ⟨rfl, hg4⟩
      have O4 := O.out.kept hg4 (.inr (by simp [Value.ownBlock]))
      have G4 := grown_trans G.out hg4
      obtain ⟨g', cap', w5, hrun, ho5, hg5⟩ := app_row O4 G4.size (by omega)
      have G5 : Hid (w.grownBy w5 none) := row_frame (O4.kept (grown_alloc _ _) (.inr (by simp [Value.ownBlock]))) (Nat.le_refl _) (grown_trans G4 (grown_alloc _ _)) hg5
      have O5 : Hid (w5.ownsRow w.heap.size 39 6 (.slice (some ⟨g', 0, none⟩) (k + 1 + 1) cap') (k + 1 + 1) (rowsL R (k + 1 + 1))) := ho5
      simp only [rArr] at hrun
      clear O4 G4 ho5 hg5 hg4 r0 r1 r2 r3 r4 r5 hz CB
      go_wp2_with fail
      go_roundw
      case rel => exact ⟨k + 1, g', cap', by go_num, by omega, rfl, O5.out, G5.out⟩
      case measure => simp [intOf]; omega
    · have hki : ¬ (k : Int) < (zs.length : Int) := by omega
      have hke : k = zs.length := by omega
      have HX : Hid (ReadsPost E a zs w (.returned (.slice (some ⟨g, 0, none⟩) (k + 1) cap)) wr) := by
        refine ⟨g, cap, by rw [hke], fun i hi j hj => ?_, (ho.lt g rfl).1, hg⟩
        rw [ho.cellAt (i * 6 + j) (by omega), HR.out i]
        exact rowsL_get R (by omega) hj
      clear ho hg
      go_wp2_with fail
      go_ret
      have := HX.out
      rw [hke] at this
      exact this

/-- Costs as a value are answered. -/
theorem six_loads {w : World} {g o : Nat} {f : Nat → Nat} (h : ∀ j, j < 6 → w.cell? ⟨g, o + j, none⟩ = some (.int .i64 (f j : Int))) : w.cell? ⟨g, o, none⟩ = some (.int .i64 (f 0 : Int)) ∧ w.cell? ⟨g, o + 1, none⟩ = some (.int .i64 (f 1 : Int)) ∧ w.cell? ⟨g, o + 2, none⟩ = some (.int .i64 (f 2 : Int)) ∧ w.cell? ⟨g, o + 3, none⟩ = some (.int .i64 (f 3 : Int)) ∧ w.cell? ⟨g, o + 4, none⟩ = some (.int .i64 (f 4 : Int)) ∧ w.cell? ⟨g, o + 5, none⟩ = some (.int .i64 (f 5 : Int)) :=
  ⟨by have := h 0 (by omega); rwa [Nat.add_zero] at this, h 1 (by omega), h 2 (by omega), h 3 (by omega), h 4 (by omega), h 5 (by omega)⟩
set_option maxHeartbeats 6400000 in
set_option maxRecDepth 100000 in
theorem read_any (b a : Nat) (E : Edg) (az : Option Addr) (cz : Nat) (zs : List Int) (w : World) (h : EdgesAt w b E) (ha : a < 6) (hz : Ints w az zs) (hn : zs.length ≤ 100) (hs : OnesSk zs) :
    Calls Try.prog 8 #[.map (some b), .int .i64 (a : Int), .slice az zs.length cz] w (Says (rV (readC E a zs)) w) := by
  have HC : Hid (∀ V, w.grownBy V none → Calls Try.prog 17 #[.map (some b), .int .i64 (a : Int), .slice az zs.length cz] V (ReadsPost E a zs V)) := fun V hV => reads_any b a E az cz zs V (h.kept hV (by simp)) ha (hz.grown hV) hn hs
  have b0 := box6_new w (fun _ => 0)
  have B0 : Hid (Box6 (w.alloc (.cells #[.int .i64 0, .int .i64 0, .int .i64 0, .int .i64 0, .int .i64 0, .int .i64 0] 39)) w.heap.size (fun _ => 0)) := b0
  clear h hz hs b0
  go_enter Try.func8, Try.ntmps8
  go_wp2_with fail
  refine (HC.out _ (grown_alloc _ _)).mono ?_
  rintro e w2 ⟨g, cap, rfl, hc, hle, hg2⟩
  have hzk : ((zs.length : Nat) : Int) < ((zs.length + 1 : Nat) : Int) := by omega
  obtain ⟨q0, q1, q2, q3, q4, q5⟩ := six_loads (hc zs.length (Nat.le_refl _))
  rw [List.take_length] at q0 q1 q2 q3 q4 q5
  have h0 := B0.out.kept hg2
  obtain ⟨p0, p1, p2, p3, p4, p5⟩ := h0.get
  have z0 := h0.fz 0
  have z1 := h0.fz 1
  have z2 := h0.fz 2
  have z3 := h0.fz 3
  have z4 := h0.fz 4
  have z5 := h0.fz 5
  obtain ⟨f, hf⟩ : ∃ f, readC E a zs = f := ⟨_, rfl⟩
  obtain ⟨W9, hW9, hb9, hg9⟩ := box6_store h0 f
  obtain ⟨r0, r1, r2, r3, r4, r5⟩ := hb9.get
  have G9 : Hid (w.grownBy W9 none) := grown_new (grown_trans (grown_alloc _ _) hg2) hg9 (Nat.le_refl _)
  rw [hf] at q0 q1 q2 q3 q4 q5
  have HF : Hid (readC E a zs = f) := hf
  clear h0 hg2 hg9 hb9 hc hle HC B0 hf
  go_wp2_with fail
  rw [← hW9]
  exact bodyPost_ret (v := rV f) (by simp [results, Try.results8, go_sem, r0, r1, r2, r3, r4, r5]) rfl ⟨by rw [HF.out], G9.out⟩

end Go.Proofs.Ythnbiiipfcogeaa
