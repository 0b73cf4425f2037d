/- What it costs to read signs: the program's reads and read. -/
/- Edges that rules make: the program's grow. -/
import Derived.Test.YtcgkflddipflbaaSgR
import Derived.Test.YtcgkflddipflbaaYSk
namespace Go.Proofs.Ytcgkflddipflbaa
open Go.RowKit Go.Maps
set_option linter.unusedVariables false
set_option linter.unusedSimpArgs false

/-- Rows of six costs, one behind the other. -/
def rowsL (R : Nat → Nat → Nat) : Nat → List Value
  | 0 => []
  | k + 1 => rowsL R k ++ (rArr (R k)).toList
theorem rowsL_len (R : Nat → Nat → Nat) (k : Nat) : (rowsL R k).length = k * 6 := by
  induction k with
  | zero => rfl
  | succ k ih => unfold rowsL; rw [List.length_append, ih]; simp; omega
theorem rowsL_get (R : Nat → Nat → Nat) {k i j : Nat} (hi : i < k) (hj : j < 6) : (rowsL R k)[i * 6 + j]? = some (.int .i64 (R i j : Int)) := by
  induction k with
  | zero => omega
  | succ k ih =>
    unfold rowsL
    by_cases e : i < k
    · rw [List.getElem?_append_left (by rw [rowsL_len]; omega)]
      exact ih e
    · have : i = k := by omega
      subst this
      rw [List.getElem?_append_right (by rw [rowsL_len]; omega), rowsL_len, show i * 6 + j - i * 6 = j by omega]
      have := rArr_get (R i) hj
      simpa using this
theorem rowsL_one {R : Nat → Nat → Nat} {k : Nat} {u : Value} (h : u ∈ rowsL R k) : u.oneCell' = true := by
  induction k with
  | zero => simp [rowsL] at h
  | succ k ih =>
    unfold rowsL at h
    rcases List.mem_append.1 h with h | h
    · exact ih h
    · simp [rArr] at h
      rcases h with rfl | rfl | rfl | rfl | rfl | rfl <;> rfl
theorem Try.infoC6 : (Try.prog.info? 52).map (fun i => (i.zero, i.size, i.bytes)) = some (some (.agg #[.int .i64 0, .int .i64 0, .int .i64 0, .int .i64 0, .int .i64 0, .int .i64 0]), 6, 48) := by kernel_rfl
/-- One more row is put behind. -/
theorem app_row {w : World} {B k : Nat} {v : Value} {R : Nat → Nat → Nat} (ho : w.ownsRow B 52 6 v k (rowsL R k)) (hB : B ≤ w.heap.size) (hk : k ≤ 1000) :
    ∃ g cap w', (AppY #[68, 68] 68 #[v, .slice (some ⟨w.heap.size, 0, none⟩) 1 1]).run Try.prog (w.alloc (.cells (rArr (R k)) 52)) = .ok (.slice (some ⟨g, 0, none⟩) (k + 1) cap) w' ∧
      w'.ownsRow B 52 6 (.slice (some ⟨g, 0, none⟩) (k + 1) cap) (k + 1) (rowsL R (k + 1)) ∧ (w.alloc (.cells (rArr (R k)) 52)).grownBy w' v.ownBlock := by
  obtain ⟨i0, hi0, hz0, hz1, hz2⟩ := info_partsY Try.infoC6
  obtain ⟨g, cap, w', h1, h2, h3, _⟩ := run_append_lies (P := Try.prog) (w.alloc (.cells (rArr (R k)) 52)) 68 68 B 52 i0 (.agg #[.int .i64 0, .int .i64 0, .int .i64 0, .int .i64 0, .int .i64 0, .int .i64 0]) 6 48 Try.underlying68 hi0 hz0 hz1 hz2 rfl (by decide) v k (rowsL R k) (ho.kept (grown_alloc _ _) (by cases v.ownBlock <;> simp)) ⟨w.heap.size, 0, none⟩ 1 1 (rArr (R k)).toList (by simp) (fun j u hu => by
      have e : (⟨w.heap.size, 0, none⟩ : Addr).add j = ⟨w.heap.size, j, none⟩ := by by_cases hj0 : j = 0 <;> simp [Addr.add, hj0]
      rw [e, cell_of_row _ _ j _ _ (0, 0) (heap_alloc_new w _), ← hu]
      simp) (fun u hu => by simp [rArr] at hu; rcases hu with rfl | rfl | rfl | rfl | rfl | rfl <;> rfl) (by decide) (by unfold maxLen; omega) (by omega) (by simp; omega) _ rfl
  exact ⟨g, cap, w', h1, h2, h3⟩
theorem row_frame {e : TypeId} {size B n : Nat} {w0 w w' : World} {v : Value} {ys : List Value} (h : w.ownsRow B e size v n ys) (h0 : w0.heap.size ≤ B) (h1 : w0.grownBy w none) (h2 : w.grownBy w' v.ownBlock) : w0.grownBy w' none := by
  cases hb : v.ownBlock with
  | none => rw [hb] at h2; exact grown_trans h1 h2
  | some g =>
    rw [hb] at h2
    have := (World.ownsRow.lt h g hb).1
    exact grown_new h1 h2 (by omega)
/-- An edge map is another block than a row of one's own. -/
theorem EdgesAt.row {e : TypeId} {size B b n : Nat} {w w' : World} {E : Edg} {v : Value} {ys : List Value} (h : EdgesAt w b E) (ho : w.ownsRow B e size v n ys) (hg : w.grownBy w' v.ownBlock) : EdgesAt w' b E := by
  refine h.kept hg ?_
  rcases ho.2 with ⟨rfl, _⟩ | ⟨g, cap, cur, rfl, _, hh, _⟩
  · simp [Value.ownBlock]
  · have := h.ne hh
    simp only [Value.ownBlock, ne_eq, Option.some.injEq]
    exact fun e => this e.symm

/-- What reads leaves behind. -/
def ReadsPost (E : Edg) (a : Nat) (zs : List Int) (w : World) (e : Ending) (w' : World) : Prop := ∃ g cap, e = .returned (.slice (some ⟨g, 0, none⟩) (zs.length + 1) cap) ∧ (∀ i, i ≤ zs.length → ∀ j, j < 6 → w'.cell? ⟨g, i * 6 + j, none⟩ = some (.int .i64 (readC E a (zs.take i) j : Int))) ∧ w.heap.size ≤ g ∧ w.grownBy w' none
theorem readC_take (E : Edg) (a : Nat) (zs : List Int) {k : Nat} (hk : k < zs.length) : readC E a (zs.take (k + 1)) = byC E (readC E a (zs.take k)) (zs.getD k 0) := by
  have e : zs.take (k + 1) = zs.take k ++ [zs.getD k 0] := by rw [List.take_add_one]; simp [List.getD, hk]
  rw [e]
  exact readsC_snoc E (row0 a) (zs.take k) (zs.getD k 0)
theorem readC_zero (E : Edg) (a : Nat) (zs : List Int) : readC E a (zs.take 0) = row0 a := by rw [List.take_zero]; exact readsC_nil E (row0 a)

attribute [local go_sem ↓] appY_fold in
set_option maxHeartbeats 6400000 in
set_option maxRecDepth 100000 in
theorem reads_any (b a : Nat) (E : Edg) (az : Option Addr) (cz : Nat) (zs : List Int) (w : World) (h : EdgesAt w b E) (ha : a < 6) (hz : Ints w az zs) (hn : zs.length ≤ 100) (hs : OnesSk zs) :
    Calls Try.prog 30 #[.map (some b), .int .i64 (a : Int), .slice az zs.length cz] w (ReadsPost E a zs w) := by
  have HE : Hid (∀ V, w.grownBy V none → EdgesAt V b E) := fun V hV => h.kept hV (by simp)
  have HZ : Hid (Ints w az zs) := hz
  have HS : Hid (OnesSk zs) := hs
  obtain ⟨R, hR⟩ : ∃ R : Nat → Nat → Nat, (fun i => readC E a (zs.take i)) = R := ⟨_, rfl⟩
  have HR : Hid (∀ i, readC E a (zs.take i) = R i) := fun i => by rw [← hR]
  have HR0 : Hid (R 0 = row0 a) := by show _ = _; rw [← hR]; exact readC_zero E a zs
  have HRs : Hid (∀ k, k < zs.length → R (k + 1) = byC E (R k) (zs.getD k 0)) := fun k hk => by rw [← hR]; exact readC_take E a zs hk
  have HRt : Hid (∀ k f, R k f ≤ 2002) := fun k f => by rw [← hR]; exact readC_top E a _ f
  have hai : (a : Int) < 6 := by omega
  clear h hz hs hR
  go_enter Try.func30, Try.ntmps30
  go_wp2_with fail
  refine (nowhere_any w).mono ?_
  rintro e w2 ⟨rfl, hg2⟩
  have ea : ([Value.int .i64 2002, .int .i64 2002, .int .i64 2002, .int .i64 2002, .int .i64 2002, .int .i64 2002].set a (.int .i64 0)).toArray = rArr (R 0) := by
    rw [HR0.out]
    rcases six ha with rfl | rfl | rfl | rfl | rfl | rfl <;> rfl
  have X3 : Hid ((w2.alloc (.cells ([Value.int .i64 2002, .int .i64 2002, .int .i64 2002, .int .i64 2002, .int .i64 2002, .int .i64 2002].set a (.int .i64 0)).toArray 52)).ownsRow w.heap.size 52 6 (.slice (some ⟨w2.heap.size, 0, none⟩) 1 1) 1 (rowsL R 1) ∧ w.grownBy (w2.alloc (.cells ([Value.int .i64 2002, .int .i64 2002, .int .i64 2002, .int .i64 2002, .int .i64 2002, .int .i64 2002].set a (.int .i64 0)).toArray 52)) none) := by
    rw [ea]
    refine ⟨⟨rowsL_len R 1, .inr ⟨w2.heap.size, 1, rArr (R 0), rfl, hg2.size, box6_new w2 (R 0), by omega, by unfold maxLen; omega, by simp, ?_⟩⟩, grown_trans hg2 (grown_alloc _ _)⟩
    simp [rowsL]
  have B2 := box6_new w2 (fun _ => 2002)
  have c0 := B2.cell ha
  have f0 := B2.fz a
  simp only [rArr] at c0 f0
  clear B2 hg2 ea
  go_wp2_with fail
  obtain ⟨W3, hW3⟩ : ∃ W3, w2.alloc (.cells ([Value.int .i64 2002, .int .i64 2002, .int .i64 2002, .int .i64 2002, .int .i64 2002, .int .i64 2002].set a (.int .i64 0)).toArray 52) = W3 := ⟨_, rfl⟩
  rw [hW3] at X3 ⊢
  clear hW3 c0 f0
  go_loopw [7, 18] (fun v i wr => ∃ (k : Nat) (g cap : Nat), i = .int .i64 k ∧ k ≤ zs.length ∧ v = .slice (some ⟨g, 0, none⟩) (k + 1) cap ∧ wr.ownsRow w.heap.size 52 6 (.slice (some ⟨g, 0, none⟩) (k + 1) cap) (k + 1) (rowsL R (k + 1)) ∧ w.grownBy wr none) (fun _ i _ => zs.length - (intOf i).toNat)
  case atStart => exact ⟨0, _, _, rfl, by omega, rfl, X3.out.1, X3.out.2⟩
  case round =>
    clear X3
    obtain ⟨k, g, cap, rfl, hk, rfl, ho, hg⟩ := hrel
    by_cases hlt : k < zs.length
    · have hki : (k : Int) < (zs.length : Int) := by omega
      have hkk : (k : Int) < ((k + 1 : Nat) : Int) := by omega
      obtain ⟨bz, oz, rfl, hcz⟩ := HZ.out.at hlt
      have hz := hg.cell (hcz k hlt) (by simp)
      obtain ⟨s1, s2⟩ := (oneSk_iff _).1 (HS.out k hlt)
      obtain ⟨s, hs⟩ : ∃ s : Nat, zs.getD k 0 = (s : Int) := ⟨(zs.getD k 0).toNat, by omega⟩
      rw [hs] at hz
      have hc : ∀ j, j < 6 → wr.cell? ⟨g, k * 6 + j, none⟩ = some (.int .i64 (R k j : Int)) := fun j hj => by rw [ho.cellAt (k * 6 + j) (by omega)]; exact rowsL_get R (by omega) hj
      have r0 := hc 0 (by omega)
      have r1 := hc 1 (by omega)
      have r2 := hc 2 (by omega)
      have r3 := hc 3 (by omega)
      have r4 := hc 4 (by omega)
      have r5 := hc 5 (by omega)
      rw [Nat.add_zero] at r0
      have CB : Hid (Calls Try.prog 39 #[.map (some b), rV (R k), .int .i64 (s : Int)] wr (Says (rV (R (k + 1))) wr)) := by
        have := by_any b s E (R k) wr (HE.out wr hg) (HRt.out k) (by omega)
        rw [← hs, ← HRs.out k hlt] at this
        rw [← hs]
        exact this
      have O : Hid (wr.ownsRow w.heap.size 52 6 (.slice (some ⟨g, 0, none⟩) (k + 1) cap) (k + 1) (rowsL R (k + 1))) := ho
      have G : Hid (w.grownBy wr none) := hg
      clear hcz hc ho hg s1 s2 hs
      go_wp2_with fail
      refine CB.out.mono ?_
      rintro e w4 ⟨rfl, hg4⟩
      have O4 := O.out.kept hg4 (.inr (by simp [Value.ownBlock]))
      have G4 := grown_trans G.out hg4
      obtain ⟨g', cap', w5, hrun, ho5, hg5⟩ := app_row O4 G4.size (by omega)
      have G5 : Hid (w.grownBy w5 none) := row_frame (O4.kept (grown_alloc _ _) (.inr (by simp [Value.ownBlock]))) (Nat.le_refl _) (grown_trans G4 (grown_alloc _ _)) hg5
      have O5 : Hid (w5.ownsRow w.heap.size 52 6 (.slice (some ⟨g', 0, none⟩) (k + 1 + 1) cap') (k + 1 + 1) (rowsL R (k + 1 + 1))) := ho5
      simp only [rArr] at hrun
      clear O4 G4 ho5 hg5 hg4 r0 r1 r2 r3 r4 r5 hz CB
      go_wp2_with fail
      go_roundw
      case rel => exact ⟨k + 1, g', cap', by go_num, by omega, rfl, O5.out, G5.out⟩
      case measure => simp [intOf]; omega
    · have hki : ¬ (k : Int) < (zs.length : Int) := by omega
      have hke : k = zs.length := by omega
      have HX : Hid (ReadsPost E a zs w (.returned (.slice (some ⟨g, 0, none⟩) (k + 1) cap)) wr) := by
        refine ⟨g, cap, by rw [hke], fun i hi j hj => ?_, (ho.lt g rfl).1, hg⟩
        rw [ho.cellAt (i * 6 + j) (by omega), HR.out i]
        exact rowsL_get R (by omega) hj
      clear ho hg
      go_wp2_with fail
      go_ret
      have := HX.out
      rw [hke] at this
      exact this

/-- Costs as a value are answered. -/
theorem six_loads {w : World} {g o : Nat} {f : Nat → Nat} (h : ∀ j, j < 6 → w.cell? ⟨g, o + j, none⟩ = some (.int .i64 (f j : Int))) : w.cell? ⟨g, o, none⟩ = some (.int .i64 (f 0 : Int)) ∧ w.cell? ⟨g, o + 1, none⟩ = some (.int .i64 (f 1 : Int)) ∧ w.cell? ⟨g, o + 2, none⟩ = some (.int .i64 (f 2 : Int)) ∧ w.cell? ⟨g, o + 3, none⟩ = some (.int .i64 (f 3 : Int)) ∧ w.cell? ⟨g, o + 4, none⟩ = some (.int .i64 (f 4 : Int)) ∧ w.cell? ⟨g, o + 5, none⟩ = some (.int .i64 (f 5 : Int)) :=
  ⟨by have := h 0 (by omega); rwa [Nat.add_zero] at this, h 1 (by omega), h 2 (by omega), h 3 (by omega), h 4 (by omega), h 5 (by omega)⟩
set_option maxHeartbeats 6400000 in
set_option maxRecDepth 100000 in
theorem read_any (b a : Nat) (E : Edg) (az : Option Addr) (cz : Nat) (zs : List Int) (w : World) (h : EdgesAt w b E) (ha : a < 6) (hz : Ints w az zs) (hn : zs.length ≤ 100) (hs : OnesSk zs) :
    Calls Try.prog 17 #[.map (some b), .int .i64 (a : Int), .slice az zs.length cz] w (Says (rV (readC E a zs)) w) := by
  have HC : Hid (∀ V, w.grownBy V none → Calls Try.prog 30 #[.map (some b), .int .i64 (a : Int), .slice az zs.length cz] V (ReadsPost E a zs V)) := fun V hV => reads_any b a E az cz zs V (h.kept hV (by simp)) ha (hz.grown hV) hn hs
  have b0 := box6_new w (fun _ => 0)
  have B0 : Hid (Box6 (w.alloc (.cells #[.int .i64 0, .int .i64 0, .int .i64 0, .int .i64 0, .int .i64 0, .int .i64 0] 52)) w.heap.size (fun _ => 0)) := b0
  clear h hz hs b0
  go_enter Try.func17, Try.ntmps17
  go_wp2_with fail
  refine (HC.out _ (grown_alloc _ _)).mono ?_
  rintro e w2 ⟨g, cap, rfl, hc, hle, hg2⟩
  have hzk : ((zs.length : Nat) : Int) < ((zs.length + 1 : Nat) : Int) := by omega
  obtain ⟨q0, q1, q2, q3, q4, q5⟩ := six_loads (hc zs.length (Nat.le_refl _))
  rw [List.take_length] at q0 q1 q2 q3 q4 q5
  have h0 := B0.out.kept hg2
  obtain ⟨p0, p1, p2, p3, p4, p5⟩ := h0.get
  have z0 := h0.fz 0
  have z1 := h0.fz 1
  have z2 := h0.fz 2
  have z3 := h0.fz 3
  have z4 := h0.fz 4
  have z5 := h0.fz 5
  obtain ⟨f, hf⟩ : ∃ f, readC E a zs = f := ⟨_, rfl⟩
  obtain ⟨W9, hW9, hb9, hg9⟩ := box6_store h0 f
  obtain ⟨r0, r1, r2, r3, r4, r5⟩ := hb9.get
  have G9 : Hid (w.grownBy W9 none) := grown_new (grown_trans (grown_alloc _ _) hg2) hg9 (Nat.le_refl _)
  rw [hf] at q0 q1 q2 q3 q4 q5
  have HF : Hid (readC E a zs = f) := hf
  clear h0 hg2 hg9 hb9 hc hle HC B0 hf
  go_wp2_with fail
  rw [← hW9]
  exact bodyPost_ret (v := rV f) (by simp [results, Try.results17, go_sem, r0, r1, r2, r3, r4, r5]) rfl ⟨by rw [HF.out], G9.out⟩

end Go.Proofs.Ytcgkflddipflbaa

namespace Go.Proofs.Ytcgkflddipflbaa
open Go.RowKit Go.Maps
set_option linter.unusedVariables false
set_option linter.unusedSimpArgs false

theorem muE_mono {E E' : Edg} (h : ∀ f s t, E f s t ≤ E' f s t) : muE E ≤ muE E' := sumF_le fun k _ => h _ _ _
/-- A rule in a box. -/
def BoxP (W : World) (B : Nat) (F T O : Int) (a : Option Addr) (n c : Nat) : Prop := W.heap[B]? = some (.cells #[.int .i64 F, .int .i64 T, .int .i64 O, .slice a n c] 43 (0, 0))
theorem BoxP.lt {W : World} {B : Nat} {F T O : Int} {a : Option Addr} {n c : Nat} (h : BoxP W B F T O a n c) : B < W.heap.size := (Array.getElem?_eq_some_iff.1 h).1
theorem BoxP.kept {W W' : World} {B : Nat} {F T O : Int} {a : Option Addr} {n c : Nat} {row : Option Nat} (h : BoxP W B F T O a n c) (hg : W.grownBy W' row) (hne : some B ≠ row) : BoxP W' B F T O a n c := (hg.block B h.lt hne).trans h
theorem BoxP.get {W : World} {B : Nat} {F T O : Int} {a : Option Addr} {n c : Nat} (h : BoxP W B F T O a n c) : W.cell? ⟨B, 0, none⟩ = some (.int .i64 F) ∧ W.cell? ⟨B, 1, none⟩ = some (.int .i64 T) ∧ W.cell? ⟨B, 2, none⟩ = some (.int .i64 O) ∧ W.cell? ⟨B, 3, none⟩ = some (.slice a n c) :=
  ⟨by rw [cell_of_row _ _ 0 _ _ (0, 0) h]; rfl, by rw [cell_of_row _ _ 1 _ _ (0, 0) h]; rfl, by rw [cell_of_row _ _ 2 _ _ (0, 0) h]; rfl, by rw [cell_of_row _ _ 3 _ _ (0, 0) h]; rfl⟩
/-- An edge in a box. -/
def BoxE (W : World) (B f s t : Nat) : Prop := W.heap[B]? = some (.cells #[.int .i64 (f : Int), .int .i64 (s : Int), .int .i64 (t : Int)] 66 (0, 0))
theorem BoxE.lt {W : World} {B f s t : Nat} (h : BoxE W B f s t) : B < W.heap.size := (Array.getElem?_eq_some_iff.1 h).1
theorem BoxE.kept {W W' : World} {B f s t : Nat} (h : BoxE W B f s t) (hg : W.grownBy W' none) : BoxE W' B f s t := (hg.block B h.lt (by simp)).trans h
theorem BoxE.get {W : World} {B f s t : Nat} (h : BoxE W B f s t) : W.cell? ⟨B, 0, none⟩ = some (.int .i64 (f : Int)) ∧ W.cell? ⟨B, 1, none⟩ = some (.int .i64 (s : Int)) ∧ W.cell? ⟨B, 2, none⟩ = some (.int .i64 (t : Int)) :=
  ⟨by rw [cell_of_row _ _ 0 _ _ (0, 0) h]; rfl, by rw [cell_of_row _ _ 1 _ _ (0, 0) h]; rfl, by rw [cell_of_row _ _ 2 _ _ (0, 0) h]; rfl⟩

/-- While edges grow: by the first i rules, and by the next one up to state j. -/
structure GrowSt (D : Nat → Nat → Nat → Prop) (L : List Psh) (E0 E : Edg) (i j : Nat) (gr : Bool) : Prop where
  zer : ∀ f s t, E f s t = 0 → E0 f s t = 0
  snd : ∀ f s t, E f s t < 2002 → D f s t
  le : ∀ f s t, E f s t ≤ E0 f s t
  made : MadeC L E
  less : gr = true → muE E < muE E0
  same : gr = false → E = E0
  clos : gr = false → ∀ i', i' < i → ∀ t, t < 6 → E0 (L.getD i' pu0).F.toNat (L.getD i' pu0).T.toNat t ≤ sumC (readC E0 (L.getD i' pu0).O.toNat (L.getD i' pu0).P t) 1
  part : gr = false → ∀ t, t < j → E0 (L.getD i pu0).F.toNat (L.getD i pu0).T.toNat t ≤ sumC (readC E0 (L.getD i pu0).O.toNat (L.getD i pu0).P t) 1
theorem GrowSt.start {D : Nat → Nat → Nat → Prop} {L : List Psh} {E0 : Edg} (h : MadeC L E0) (hs : ∀ f s t, E0 f s t < 2002 → D f s t) : GrowSt D L E0 E0 0 0 false :=
  ⟨fun _ _ _ e => e, hs, fun _ _ _ => Nat.le_refl _, h, (fun e => by cases e), fun _ => rfl, (fun _ i hi => by omega), (fun _ t ht => by omega)⟩
theorem GrowSt.next {D : Nat → Nat → Nat → Prop} {L : List Psh} {E0 E : Edg} {i : Nat} {gr : Bool} (h : GrowSt D L E0 E i 6 gr) : GrowSt D L E0 E (i + 1) 0 gr :=
  ⟨h.zer, h.snd, h.le, h.made, h.less, h.same, fun e i' hi' t ht => by
    by_cases e2 : i' = i
    · subst e2; exact h.part e t ht
    · exact h.clos e i' (by omega) t ht, fun _ t ht => by omega⟩
theorem GrowSt.skip {D : Nat → Nat → Nat → Prop} {L : List Psh} {E0 Er E : Edg} {i j : Nat} {gr : Bool} (h : GrowSt D L E0 E i j gr) (hr : gr = false → Er = E0) (hc : ¬ sumC (readC Er (L.getD i pu0).O.toNat (L.getD i pu0).P j) 1 < E (L.getD i pu0).F.toNat (L.getD i pu0).T.toNat j) : GrowSt D L E0 E i (j + 1) gr :=
  ⟨h.zer, h.snd, h.le, h.made, h.less, h.same, h.clos, fun e t ht => by
    by_cases e2 : t = j
    · subst e2
      rw [hr e, h.same e] at hc
      omega
    · exact h.part e t (by omega)⟩
theorem GrowSt.put {D : Nat → Nat → Nat → Prop} {L : List Psh} {E0 Er E : Edg} {i j : Nat} {gr : Bool} (h : GrowSt D L E0 E i j gr) (hD : ClosX L D) (hEs : ∀ f s t, Er f s t < 2002 → D f s t) (hO : (L.getD i pu0).O.toNat < 6) (hE : Top E) (hEr : Top Er) (hle : ∀ f s t, E f s t ≤ Er f s t) (hi : i < L.length) (hF : (L.getD i pu0).F.toNat < 6) (hT : (L.getD i pu0).T.toNat < 3) (hj : j < 6) (hc : sumC (readC Er (L.getD i pu0).O.toNat (L.getD i pu0).P j) 1 < E (L.getD i pu0).F.toNat (L.getD i pu0).T.toNat j) :
    GrowSt D L E0 (updE E (L.getD i pu0).F.toNat (L.getD i pu0).T.toNat j (sumC (readC Er (L.getD i pu0).O.toNat (L.getD i pu0).P j) 1)) i (j + 1) true := by
  have h1 := updE_le (E := E) (Nat.le_of_lt hc)
  refine ⟨fun f s t hz => ?_, fun f s t hfin => ?_, fun f s t => Nat.le_trans (h1 f s t) (h.le f s t), made_upd hE h.made hi hF hT hj (sumC_mono (readC_mono hle hEr _ _ _) (Nat.le_refl _) (readC_top _ _ _ _) (by omega)) hc, fun _ => ?_, (fun e => by cases e), (fun e => by cases e), (fun e => by cases e)⟩
  · by_cases e : f = (L.getD i pu0).F.toNat ∧ s = (L.getD i pu0).T.toNat ∧ t = j
    · obtain ⟨rfl, rfl, rfl⟩ := e
      rw [updE_same] at hz
      unfold sumC at hz
      split at hz <;> omega
    · unfold updE at hz
      rw [if_neg e] at hz
      exact h.zer f s t hz
  · by_cases e : f = (L.getD i pu0).F.toNat ∧ s = (L.getD i pu0).T.toNat ∧ t = j
    · obtain ⟨rfl, rfl, rfl⟩ := e
      rw [updE_same] at hfin
      have h5 := ((sumC_fin (readC_top Er _ (L.getD i pu0).P t) (show 1 ≤ 2002 by omega)).1 hfin).1
      exact hD i hi t hj (PthR.mono hEs _ ((readC_fin hEr hO _ hj).1 h5))
    · unfold updE at hfin
      rw [if_neg e] at hfin
      exact h.snd f s t hfin
  have h2 := muE_lt hF hT hj hc
  have h3 := muE_mono h.le
  omega
theorem GrowSt.end {D : Nat → Nat → Nat → Prop} {L : List Psh} {E0 E : Edg} {gr : Bool} (h : GrowSt D L E0 E L.length 0 gr) (e : gr = false) : ClosedC L E := fun i hi t ht => by rw [h.same e]; exact h.clos e i hi t ht
def GrowPost (D : Nat → Nat → Nat → Prop) (L : List Psh) (b : Nat) (E0 : Edg) (w0 : World) (e : Ending) (w' : World) : Prop := ∃ E gr, e = .returned (.bool gr) ∧ EdgesAt w' b E ∧ (∀ f s t, E f s t < 2002 → D f s t) ∧ (∀ f s t, E f s t = 0 → E0 f s t = 0) ∧ (∀ f s t, E f s t ≤ E0 f s t) ∧ MadeC L E ∧ (gr = true → muE E < muE E0) ∧ (gr = false → ClosedC L E) ∧ w0.grownBy w' none

set_option maxHeartbeats 6400000 in
set_option maxRecDepth 100000 in
theorem grow_edges (D : Nat → Nat → Nat → Prop) (L : List Psh) (b : Nat) (a : Option Addr) (c : Nat) (E0 : Edg) (w0 w : World) (h : EdgesAt w b E0) (hM : MadeC L E0) (hS0 : ∀ f s t, E0 f s t < 2002 → D f s t) (hD : ClosX L D) (hG : GoodSk L) (hP : PushAt w0 a L) (hg : w0.grownBy w none) (hb : w0.heap.size ≤ b) :
    Calls Try.prog 29 #[.map (some b), .slice a L.length c] w (GrowPost D L b E0 w0) := by
  have HP : Hid (PushAt w0 a L) := hP
  have HG : Hid (GoodSk L) := hG
  have HD : Hid (ClosX L D) := hD
  have X0 : Hid (GrowSt D L E0 E0 0 0 false ∧ EdgesAt w b E0 ∧ w0.grownBy w none) := ⟨GrowSt.start hM hS0, h, hg⟩
  have hL := hG.len
  clear h hM hG hP hg hS0 hD
  go_enter Try.func29, Try.ntmps29
  go_wp2_with fail
  go_loopw [5, 14] (fun v u wr => ∃ (i : Nat) (E : Edg) (gr : Bool), i ≤ L.length ∧ u = .int .i64 i ∧ v = .bool gr ∧ GrowSt D L E0 E i 0 gr ∧ EdgesAt wr b E ∧ w0.grownBy wr none) (fun _ u _ => L.length - (intOf u).toNat)
  case atStart => exact ⟨0, E0, false, by omega, rfl, rfl, X0.out.1, X0.out.2.1, X0.out.2.2⟩
  case round =>
    clear X0
    obtain ⟨i, E, gr, hi, rfl, rfl, hS, hE, hg⟩ := hrel
    have S0 : Hid (GrowSt D L E0 E i 0 gr) := hS
    have HE : Hid (EdgesAt wr b E) := hE
    have G : Hid (w0.grownBy wr none) := hg
    clear hS hE
    by_cases hlt : i < L.length
    · have hki : (i : Int) < (L.length : Int) := by omega
      obtain ⟨bb, off, rfl, hc⟩ := (HP.out.grown hg).at hlt
      obtain ⟨y0, y1, y2, ap, cp, y3, y4, y5⟩ := hc i hlt
      have hpl := HG.out.put i hlt
      obtain ⟨n1, n2, n3, n4⟩ := HG.out.num i hlt
      rw [oneSk_iff] at n1 n2 n3
      obtain ⟨r, hr⟩ : ∃ r, L.getD i pu0 = r := ⟨_, rfl⟩
      have HRr : Hid (L.getD i pu0 = r) := hr
      rw [hr] at y0 y1 y2 y3 y4 hpl n1 n2 n3 n4
      obtain ⟨fN, hfN⟩ : ∃ fN : Nat, r.F = (fN : Int) := ⟨r.F.toNat, by omega⟩
      obtain ⟨tN, htN⟩ : ∃ tN : Nat, r.T = (tN : Int) := ⟨r.T.toNat, by omega⟩
      obtain ⟨oN, hoN⟩ : ∃ oN : Nat, r.O = (oN : Int) := ⟨r.O.toNat, by omega⟩
      have HN : Hid (r.F.toNat = fN ∧ r.T.toNat = tN ∧ r.O.toNat = oN) := ⟨by omega, by omega, by omega⟩
      rw [hfN] at y0
      rw [htN] at y1
      rw [hoN] at y2
      have hf6 : fN < 3 := by omega
      have ht3 : tN < 3 := by omega
      have ho6 : oN < 3 := by omega
      have PB : Hid (∀ V, V = wr.alloc (.cells #[.int .i64 (fN : Int), .int .i64 (tN : Int), .int .i64 (oN : Int), .slice ap r.P.length cp] 43) → BoxP V wr.heap.size fN tN oN ap r.P.length cp) := fun V e => by rw [e]; exact heap_alloc_new wr _
      have CR : Hid (∀ V, wr.grownBy V none → Calls Try.prog 17 #[.map (some b), .int .i64 (oN : Int), .slice ap r.P.length cp] V (Says (rV (readC E oN r.P)) V)) := fun V hV => read_any b oN E ap cp r.P V (HE.out.kept hV (by simp)) (by omega) (y4.grown hV) (by omega) n4
      obtain ⟨W4, hW4⟩ : ∃ W4, W4 = wr.alloc (.cells #[.int .i64 (fN : Int), .int .i64 (tN : Int), .int .i64 (oN : Int), .slice ap r.P.length cp] 43) := ⟨_, rfl⟩
      have HW4 : Hid (W4 = _) := hW4
      have g4 : wr.grownBy W4 none := by rw [hW4]; exact grown_alloc _ _
      have G4 : Hid (wr.grownBy W4 none) := g4
      have B4 : Hid (BoxP W4 wr.heap.size fN tN oN ap r.P.length cp) := PB.out W4 hW4
      obtain ⟨q0, q1, q2, q3⟩ := B4.out.get
      rw [hW4] at q0 q1 q2 q3
      clear hc y4 y5 hr hfN htN hoN n1 n2 n3 n4 PB hW4 g4 hg
      go_wp2_with fail
      rw [← HW4.out]
      clear HW4 q0 q1 q2 q3 y0 y1 y2 y3
      refine (CR.out W4 G4.out).mono ?_
      rintro e w5 ⟨rfl, hg5⟩
      obtain ⟨B, hB⟩ : ∃ B, wr.heap.size = B := ⟨_, rfl⟩
      have X5 : Hid (GrowSt D L E0 E i 0 gr ∧ EdgesAt w5 b E ∧ BoxP w5 B fN tN oN ap r.P.length cp ∧ w0.grownBy w5 none) := ⟨S0.out, (HE.out.kept G4.out (by simp)).kept hg5 (by simp), by rw [← hB]; exact B4.out.kept hg5 (by simp), grown_trans G.out (grown_trans G4.out hg5)⟩
      have HbB : Hid (b ≠ B) := by
        have := X5.out.2.1.ne X5.out.2.2.1
        exact this
      have HEr : Hid (Top E) := HE.out.top
      have HSr : Hid (gr = false → E = E0) := S0.out.same
      have HSn : Hid (∀ f s t, E f s t < 2002 → D f s t) := S0.out.snd
      obtain ⟨Er, hEr⟩ : ∃ Er, E = Er := ⟨_, rfl⟩
      obtain ⟨gr0, hgr⟩ : ∃ gr0, gr = gr0 := ⟨_, rfl⟩
      have HLe : Hid (∀ f s t, E f s t ≤ Er f s t) := fun f s t => by rw [hEr]; exact Nat.le_refl _
      have HGr : Hid (gr = false → gr0 = false) := fun e => by rw [← hgr]; exact e
      have HEr2 : Hid (Top Er ∧ (gr0 = false → Er = E0) ∧ ∀ f s t, Er f s t < 2002 → D f s t) := by rw [← hEr, ← hgr]; exact ⟨HEr.out, HSr.out, HSn.out⟩
      obtain ⟨row, hrow⟩ : ∃ row, readC E oN r.P = row := ⟨_, rfl⟩
      have HRow : Hid (∀ t, row t = readC Er oN r.P t) := fun t => by rw [← hrow, hEr]
      have HRt : Hid (∀ t, row t ≤ 2002) := fun t => by rw [← hrow]; exact readC_top _ _ _ _
      clear hg5 B4 CR G4 G HE S0 HEr HSr HSn hEr hgr
      go_wp2_with fail
      all_goals (try rw [hB])
      all_goals (try rw [hrow])
      clear hB hrow
      go_loopw [5, 24] (fun v u wr => ∃ (j : Nat) (E : Edg) (gr : Bool), j ≤ 6 ∧ u = .int .i64 j ∧ v = .bool gr ∧ GrowSt D L E0 E i j gr ∧ (∀ f s t, E f s t ≤ Er f s t) ∧ (gr = false → gr0 = false) ∧ EdgesAt wr b E ∧ BoxP wr B fN tN oN ap r.P.length cp ∧ w0.grownBy wr none) (fun _ u _ => 6 - (intOf u).toNat)
      case atStart => exact ⟨0, E, gr, by omega, rfl, rfl, X5.out.1, HLe.out, HGr.out, X5.out.2.1, X5.out.2.2.1, X5.out.2.2.2⟩
      case round =>
        clear X5 HLe HGr
        obtain ⟨j, E, gr, hj6, rfl, rfl, hS, hle, hgr, hE, hBx, hg⟩ := hrel
        by_cases hj : j < 6
        · have hji : (j : Int) < 6 := by omega
          have hix := index_six row hj wr
          have PUT : Hid (sumC (row j) 1 < E fN tN j → GrowSt D L E0 (updE E fN tN j (sumC (row j) 1)) i (j + 1) true) := fun hc => by
            have := hS.put (Er := Er) HD.out HEr2.out.2.2 (by rw [HRr.out, HN.out.2.2]; omega) hE.top HEr2.out.1 hle hlt (by rw [HRr.out, HN.out.1]; omega) (by rw [HRr.out, HN.out.2.1]; omega) hj
            rw [HRr.out, HN.out.1, HN.out.2.1, HN.out.2.2, ← HRow.out j] at this
            exact this hc
          have SKIP : Hid (¬ sumC (row j) 1 < E fN tN j → GrowSt D L E0 E i (j + 1) gr) := fun hc => by
            have := hS.skip (Er := Er) (fun e => HEr2.out.2.1 (hgr e))
            rw [HRr.out, HN.out.1, HN.out.2.1, HN.out.2.2, ← HRow.out j] at this
            exact this hc
          obtain ⟨q0, q1, q2, q3⟩ := hBx.get
          have hrj := HRt.out j
          obtain ⟨sm, hsm⟩ : ∃ sm, sumC (row j) 1 = sm := ⟨_, rfl⟩
          obtain ⟨rj, hrjj⟩ : ∃ rj, row j = rj := ⟨_, rfl⟩
          obtain ⟨ec, hec⟩ : ∃ ec, E fN tN j = ec := ⟨_, rfl⟩
          have hsm2 := hsm
          have HEc : Hid (E fN tN j = ec) := hec
          rw [hrjj] at hsm2 hix hrj
          have CS : Hid (∀ V, Calls Try.prog 37 #[.int .i64 (rj : Int), .int .i64 1] V fun e w' => e = .returned (.int .i64 (sm : Int)) ∧ w' = V) := fun V => by
            have := sum_any rj 1 V hrj (by omega)
            rw [hsm2] at this
            exact this
          have CC : Hid (∀ V, wr.grownBy V none → Calls Try.prog 33 #[.map (some b), vE fN tN j] V (Says (.int .i64 (ec : Int)) V)) := fun V hV => by
            have := cost_any b E fN tN j V (hE.kept hV (by simp)) (by omega) ht3 hj
            rwa [hec] at this
          have HE : Hid (EdgesAt wr b E) := hE
          have HBx : Hid (BoxP wr B fN tN oN ap r.P.length cp) := hBx
          have HLe : Hid (∀ f s t, E f s t ≤ Er f s t) := hle
          have HGr : Hid (gr = false → gr0 = false) := hgr
          have G : Hid (w0.grownBy wr none) := hg
          obtain ⟨W6, hW6⟩ : ∃ W6, W6 = wr.alloc (.cells #[.int .i64 (fN : Int), .int .i64 (tN : Int), .int .i64 (j : Int)] 66) := ⟨_, rfl⟩
          have HW6 : Hid (W6 = _) := hW6
          have G6 : Hid (wr.grownBy W6 none) := by show World.grownBy _ _ _; rw [hW6]; exact grown_alloc _ _
          have B6 : Hid (BoxE W6 wr.heap.size fN tN j) := by rw [hW6]; exact heap_alloc_new wr _
          obtain ⟨p0, p1, p2⟩ := B6.out.get
          obtain ⟨be, hbe⟩ : ∃ be, wr.heap.size = be := ⟨_, rfl⟩
          rw [hsm, hec] at PUT SKIP
          rw [hbe] at p0 p1 p2 B6
          clear hS hE hBx hle hgr hg hW6 hsm hsm2 hrjj hec
          go_wp2_with fail
          rw [← HW6.out]
          refine (CS.out W6).mono ?_
          rintro e w7 ⟨rfl, hw7⟩
          rw [hw7]
          clear hw7 HW6 q0 q1 q2 q3
          go_wp2_with fail
          refine (CC.out W6 G6.out).mono ?_
          rintro e w8 ⟨rfl, hg8⟩
          have B8 := B6.out.kept hg8
          have G8 := grown_trans G6.out hg8
          clear p0 p1 p2
          obtain ⟨p0, p1, p2⟩ := B8.get
          by_cases hl : sm < ec
          · have hli : (sm : Int) < (ec : Int) := by omega
            have HE8 := HE.out.kept G8 (by simp)
            obtain ⟨w9, hrun, hE9, hg9⟩ := HE8.put (f := fN) (s := tN) (t := j) (c := sm) (by omega) ht3 hj (by rw [HEc.out]; exact hl)
            have X9 : Hid (GrowSt D L E0 (updE E fN tN j sm) i (j + 1) true ∧ (∀ f s t, updE E fN tN j sm f s t ≤ Er f s t) ∧ EdgesAt w9 b (updE E fN tN j sm) ∧ BoxP w9 B fN tN oN ap r.P.length cp ∧ w0.grownBy w9 none) := ⟨PUT.out hl, fun f s t => Nat.le_trans (updE_le (by rw [HEc.out]; omega) f s t) (HLe.out f s t), hE9, (HBx.out.kept G8 (by simp)).kept hg9 (by simpa using fun e => HbB.out e.symm), grown_new (grown_trans G.out G8) hg9 hb⟩
            clear B8 G8 HE8 hE9 hg9 hg8
            go_wp2_with fail
            go_roundw
            case rel => exact ⟨j + 1, _, true, by omega, by simp, rfl, X9.out.1, X9.out.2.1, (fun e => by cases e), X9.out.2.2.1, X9.out.2.2.2.1, X9.out.2.2.2.2⟩
            case measure => simp [intOf]; omega
          · have hli : ¬ (sm : Int) < (ec : Int) := by omega
            have X9 : Hid (GrowSt D L E0 E i (j + 1) gr ∧ EdgesAt w8 b E ∧ BoxP w8 B fN tN oN ap r.P.length cp ∧ w0.grownBy w8 none) := ⟨SKIP.out hl, HE.out.kept G8 (by simp), HBx.out.kept G8 (by simp), grown_trans G.out G8⟩
            clear B8 G8 hg8
            go_wp2_with fail
            go_roundw
            case rel => exact ⟨j + 1, E, gr, by omega, by simp, rfl, X9.out.1, HLe.out, HGr.out, X9.out.2.1, X9.out.2.2.1, X9.out.2.2.2⟩
            case measure => simp [intOf]; omega
        · have hji : ¬ (j : Int) < 6 := by omega
          obtain rfl : j = 6 := by omega
          have HX : Hid (GrowSt D L E0 E (i + 1) 0 gr ∧ EdgesAt wr b E ∧ w0.grownBy wr none) := ⟨hS.next, hE, hg⟩
          clear hS hE hBx hg
          go_wp2_with fail
          exact ⟨⟨i + 1, E, gr, by omega, by simp, rfl, HX.out.1, HX.out.2.1, HX.out.2.2⟩, by simp [intOf]; omega⟩
    · have hki : ¬ (i : Int) < (L.length : Int) := by omega
      have hie : i = L.length := by omega
      have HX : Hid (GrowPost D L b E0 w0 (.returned (.bool gr)) wr) := ⟨E, gr, rfl, HE.out, S0.out.snd, S0.out.zer, S0.out.le, S0.out.made, S0.out.less, fun e => GrowSt.end (by rw [← hie]; exact S0.out) e, G.out⟩
      clear hg hie
      go_wp2_with fail
      go_ret
      exact HX.out

end Go.Proofs.Ytcgkflddipflbaa
