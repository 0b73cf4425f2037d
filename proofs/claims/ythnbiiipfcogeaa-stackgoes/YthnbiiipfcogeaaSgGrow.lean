/- Edges that rules make: the program's grow. -/
import Derived.Test.YthnbiiipfcogeaaSgReads
namespace Go.Proofs.Ythnbiiipfcogeaa
open Go.RowKit Go.Maps
set_option linter.unusedVariables false
set_option linter.unusedSimpArgs false

theorem muE_mono {E E' : Edg} (h : ∀ f s t, E f s t ≤ E' f s t) : muE E ≤ muE E' := sumF_le fun k _ => h _ _ _
/-- A rule in a box. -/
def BoxP (W : World) (B : Nat) (F T O : Int) (a : Option Addr) (n c : Nat) : Prop := W.heap[B]? = some (.cells #[.int .i64 F, .int .i64 T, .int .i64 O, .slice a n c] 27 (0, 0))
theorem BoxP.lt {W : World} {B : Nat} {F T O : Int} {a : Option Addr} {n c : Nat} (h : BoxP W B F T O a n c) : B < W.heap.size := (Array.getElem?_eq_some_iff.1 h).1
theorem BoxP.kept {W W' : World} {B : Nat} {F T O : Int} {a : Option Addr} {n c : Nat} {row : Option Nat} (h : BoxP W B F T O a n c) (hg : W.grownBy W' row) (hne : some B ≠ row) : BoxP W' B F T O a n c := (hg.block B h.lt hne).trans h
theorem BoxP.get {W : World} {B : Nat} {F T O : Int} {a : Option Addr} {n c : Nat} (h : BoxP W B F T O a n c) : W.cell? ⟨B, 0, none⟩ = some (.int .i64 F) ∧ W.cell? ⟨B, 1, none⟩ = some (.int .i64 T) ∧ W.cell? ⟨B, 2, none⟩ = some (.int .i64 O) ∧ W.cell? ⟨B, 3, none⟩ = some (.slice a n c) :=
  ⟨by rw [cell_of_row _ _ 0 _ _ (0, 0) h]; rfl, by rw [cell_of_row _ _ 1 _ _ (0, 0) h]; rfl, by rw [cell_of_row _ _ 2 _ _ (0, 0) h]; rfl, by rw [cell_of_row _ _ 3 _ _ (0, 0) h]; rfl⟩
/-- An edge in a box. -/
def BoxE (W : World) (B f s t : Nat) : Prop := W.heap[B]? = some (.cells #[.int .i64 (f : Int), .int .i64 (s : Int), .int .i64 (t : Int)] 50 (0, 0))
theorem BoxE.lt {W : World} {B f s t : Nat} (h : BoxE W B f s t) : B < W.heap.size := (Array.getElem?_eq_some_iff.1 h).1
theorem BoxE.kept {W W' : World} {B f s t : Nat} (h : BoxE W B f s t) (hg : W.grownBy W' none) : BoxE W' B f s t := (hg.block B h.lt (by simp)).trans h
theorem BoxE.get {W : World} {B f s t : Nat} (h : BoxE W B f s t) : W.cell? ⟨B, 0, none⟩ = some (.int .i64 (f : Int)) ∧ W.cell? ⟨B, 1, none⟩ = some (.int .i64 (s : Int)) ∧ W.cell? ⟨B, 2, none⟩ = some (.int .i64 (t : Int)) :=
  ⟨by rw [cell_of_row _ _ 0 _ _ (0, 0) h]; rfl, by rw [cell_of_row _ _ 1 _ _ (0, 0) h]; rfl, by rw [cell_of_row _ _ 2 _ _ (0, 0) h]; rfl⟩

/-- While edges grow: by the first i rules, and by the next one up to state j. -/
structure GrowSt (D : Nat → Nat → Nat → Prop) (L : List Psh) (E0 E : Edg) (i j : Nat) (gr : Bool) : Prop where
  snd : ∀ f s t, E f s t < 2002 → D f s t
  le : ∀ f s t, E f s t ≤ E0 f s t
  made : MadeC L E
  less : gr = true → muE E < muE E0
  same : gr = false → E = E0
  clos : gr = false → ∀ i', i' < i → ∀ t, t < 6 → E0 (L.getD i' pu0).F.toNat (L.getD i' pu0).T.toNat t ≤ sumC (readC E0 (L.getD i' pu0).O.toNat (L.getD i' pu0).P t) 1
  part : gr = false → ∀ t, t < j → E0 (L.getD i pu0).F.toNat (L.getD i pu0).T.toNat t ≤ sumC (readC E0 (L.getD i pu0).O.toNat (L.getD i pu0).P t) 1
theorem GrowSt.start {D : Nat → Nat → Nat → Prop} {L : List Psh} {E0 : Edg} (h : MadeC L E0) (hs : ∀ f s t, E0 f s t < 2002 → D f s t) : GrowSt D L E0 E0 0 0 false :=
  ⟨hs, fun _ _ _ => Nat.le_refl _, h, (fun e => by cases e), fun _ => rfl, (fun _ i hi => by omega), (fun _ t ht => by omega)⟩
theorem GrowSt.next {D : Nat → Nat → Nat → Prop} {L : List Psh} {E0 E : Edg} {i : Nat} {gr : Bool} (h : GrowSt D L E0 E i 6 gr) : GrowSt D L E0 E (i + 1) 0 gr :=
  ⟨h.snd, h.le, h.made, h.less, h.same, fun e i' hi' t ht => by
    by_cases e2 : i' = i
    · subst e2; exact h.part e t ht
    · exact h.clos e i' (by omega) t ht, fun _ t ht => by omega⟩
theorem GrowSt.skip {D : Nat → Nat → Nat → Prop} {L : List Psh} {E0 Er E : Edg} {i j : Nat} {gr : Bool} (h : GrowSt D L E0 E i j gr) (hr : gr = false → Er = E0) (hc : ¬ sumC (readC Er (L.getD i pu0).O.toNat (L.getD i pu0).P j) 1 < E (L.getD i pu0).F.toNat (L.getD i pu0).T.toNat j) : GrowSt D L E0 E i (j + 1) gr :=
  ⟨h.snd, h.le, h.made, h.less, h.same, h.clos, fun e t ht => by
    by_cases e2 : t = j
    · subst e2
      rw [hr e, h.same e] at hc
      omega
    · exact h.part e t (by omega)⟩
theorem GrowSt.put {D : Nat → Nat → Nat → Prop} {L : List Psh} {E0 Er E : Edg} {i j : Nat} {gr : Bool} (h : GrowSt D L E0 E i j gr) (hD : ClosX L D) (hEs : ∀ f s t, Er f s t < 2002 → D f s t) (hO : (L.getD i pu0).O.toNat < 6) (hE : Top E) (hEr : Top Er) (hle : ∀ f s t, E f s t ≤ Er f s t) (hi : i < L.length) (hF : (L.getD i pu0).F.toNat < 6) (hT : (L.getD i pu0).T.toNat < 3) (hj : j < 6) (hc : sumC (readC Er (L.getD i pu0).O.toNat (L.getD i pu0).P j) 1 < E (L.getD i pu0).F.toNat (L.getD i pu0).T.toNat j) :
    GrowSt D L E0 (updE E (L.getD i pu0).F.toNat (L.getD i pu0).T.toNat j (sumC (readC Er (L.getD i pu0).O.toNat (L.getD i pu0).P j) 1)) i (j + 1) true := by
  have h1 := updE_le (E := E) (Nat.le_of_lt hc)
  refine ⟨fun f s t hfin => ?_, fun f s t => Nat.le_trans (h1 f s t) (h.le f s t), made_upd hE h.made hi hF hT hj (sumC_mono (readC_mono hle hEr _ _ _) (Nat.le_refl _) (readC_top _ _ _ _) (by omega)) hc, fun _ => ?_, (fun e => by cases e), (fun e => by cases e), (fun e => by cases e)⟩
  · by_cases e : f = (L.getD i pu0).F.toNat ∧ s = (L.getD i pu0).T.toNat ∧ t = j
    · obtain ⟨rfl, rfl, rfl⟩ := e
      rw [updE_same] at hfin
      have h5 := ((sumC_fin (readC_top Er _ (L.getD i pu0).P t) (show 1 ≤ 2002 by omega)).1 hfin).1
      exact hD i hi t hj (PthR.mono hEs _ ((readC_fin hEr hO _ hj).1 h5))
    · unfold updE at hfin
      rw [if_neg e] at hfin
      exact h.snd f s t hfin
  have h2 := muE_lt hF hT hj hc
  have h3 := muE_mono h.le
  omega
theorem GrowSt.end {D : Nat → Nat → Nat → Prop} {L : List Psh} {E0 E : Edg} {gr : Bool} (h : GrowSt D L E0 E L.length 0 gr) (e : gr = false) : ClosedC L E := fun i hi t ht => by rw [h.same e]; exact h.clos e i hi t ht
def GrowPost (D : Nat → Nat → Nat → Prop) (L : List Psh) (b : Nat) (E0 : Edg) (w0 : World) (e : Ending) (w' : World) : Prop := ∃ E gr, e = .returned (.bool gr) ∧ EdgesAt w' b E ∧ (∀ f s t, E f s t < 2002 → D f s t) ∧ (∀ f s t, E f s t ≤ E0 f s t) ∧ MadeC L E ∧ (gr = true → muE E < muE E0) ∧ (gr = false → ClosedC L E) ∧ w0.grownBy w' none

set_option maxHeartbeats 6400000 in
set_option maxRecDepth 100000 in
theorem grow_edges (D : Nat → Nat → Nat → Prop) (L : List Psh) (b : Nat) (a : Option Addr) (c : Nat) (E0 : Edg) (w0 w : World) (h : EdgesAt w b E0) (hM : MadeC L E0) (hS0 : ∀ f s t, E0 f s t < 2002 → D f s t) (hD : ClosX L D) (hG : GoodSk L) (hP : PushAt w0 a L) (hg : w0.grownBy w none) (hb : w0.heap.size ≤ b) :
    Calls Try.prog 16 #[.map (some b), .slice a L.length c] w (GrowPost D L b E0 w0) := by
  have HP : Hid (PushAt w0 a L) := hP
  have HG : Hid (GoodSk L) := hG
  have HD : Hid (ClosX L D) := hD
  have X0 : Hid (GrowSt D L E0 E0 0 0 false ∧ EdgesAt w b E0 ∧ w0.grownBy w none) := ⟨GrowSt.start hM hS0, h, hg⟩
  have hL := hG.len
  clear h hM hG hP hg hS0 hD
  go_enter Try.func16, Try.ntmps16
  go_wp2_with fail
  go_loopw [5, 14] (fun v u wr => ∃ (i : Nat) (E : Edg) (gr : Bool), i ≤ L.length ∧ u = .int .i64 i ∧ v = .bool gr ∧ GrowSt D L E0 E i 0 gr ∧ EdgesAt wr b E ∧ w0.grownBy wr none) (fun _ u _ => L.length - (intOf u).toNat)
  case atStart => exact ⟨0, E0, false, by omega, rfl, rfl, X0.out.1, X0.out.2.1, X0.out.2.2⟩
  case round =>
    clear X0
    obtain ⟨i, E, gr, hi, rfl, rfl, hS, hE, hg⟩ := hrel
    have S0 : Hid (GrowSt D L E0 E i 0 gr) := hS
    have HE : Hid (EdgesAt wr b E) := hE
    have G : Hid (w0.grownBy wr none) := hg
    clear hS hE
    by_cases hlt : i < L.length
    · have hki : (i : Int) < (L.length : Int) := by omega
      obtain ⟨bb, off, rfl, hc⟩ := (HP.out.grown hg).at hlt
      obtain ⟨y0, y1, y2, ap, cp, y3, y4, y5⟩ := hc i hlt
      have hpl := HG.out.put i hlt
      obtain ⟨n1, n2, n3, n4⟩ := HG.out.num i hlt
      rw [oneSk_iff] at n1 n2 n3
      obtain ⟨r, hr⟩ : ∃ r, L.getD i pu0 = r := ⟨_, rfl⟩
      have HRr : Hid (L.getD i pu0 = r) := hr
      rw [hr] at y0 y1 y2 y3 y4 hpl n1 n2 n3 n4
      obtain ⟨fN, hfN⟩ : ∃ fN : Nat, r.F = (fN : Int) := ⟨r.F.toNat, by omega⟩
      obtain ⟨tN, htN⟩ : ∃ tN : Nat, r.T = (tN : Int) := ⟨r.T.toNat, by omega⟩
      obtain ⟨oN, hoN⟩ : ∃ oN : Nat, r.O = (oN : Int) := ⟨r.O.toNat, by omega⟩
      have HN : Hid (r.F.toNat = fN ∧ r.T.toNat = tN ∧ r.O.toNat = oN) := ⟨by omega, by omega, by omega⟩
      rw [hfN] at y0
      rw [htN] at y1
      rw [hoN] at y2
      have hf6 : fN < 3 := by omega
      have ht3 : tN < 3 := by omega
      have ho6 : oN < 3 := by omega
      have PB : Hid (∀ V, V = wr.alloc (.cells #[.int .i64 (fN : Int), .int .i64 (tN : Int), .int .i64 (oN : Int), .slice ap r.P.length cp] 27) → BoxP V wr.heap.size fN tN oN ap r.P.length cp) := fun V e => by rw [e]; exact heap_alloc_new wr _
      have CR : Hid (∀ V, wr.grownBy V none → Calls Try.prog 8 #[.map (some b), .int .i64 (oN : Int), .slice ap r.P.length cp] V (Says (rV (readC E oN r.P)) V)) := fun V hV => read_any b oN E ap cp r.P V (HE.out.kept hV (by simp)) (by omega) (y4.grown hV) (by omega) n4
      obtain ⟨W4, hW4⟩ : ∃ W4, W4 = wr.alloc (.cells #[.int .i64 (fN : Int), .int .i64 (tN : Int), .int .i64 (oN : Int), .slice ap r.P.length cp] 27) := ⟨_, rfl⟩
      have HW4 : Hid (W4 = _) := hW4
      have g4 : wr.grownBy W4 none := by rw [hW4]; exact grown_alloc _ _
      have G4 : Hid (wr.grownBy W4 none) := g4
      have B4 : Hid (BoxP W4 wr.heap.size fN tN oN ap r.P.length cp) := PB.out W4 hW4
      obtain ⟨q0, q1, q2, q3⟩ := B4.out.get
      rw [hW4] at q0 q1 q2 q3
      clear hc y4 y5 hr hfN htN hoN n1 n2 n3 n4 PB hW4 g4 hg
      go_wp2_with fail
      rw [← HW4.out]
      clear HW4 q0 q1 q2 q3 y0 y1 y2 y3
      refine (CR.out W4 G4.out).mono ?_
      rintro e w5 ⟨rfl, hg5⟩
      obtain ⟨B, hB⟩ : ∃ B, wr.heap.size = B := ⟨_, rfl⟩
      have X5 : Hid (GrowSt D L E0 E i 0 gr ∧ EdgesAt w5 b E ∧ BoxP w5 B fN tN oN ap r.P.length cp ∧ w0.grownBy w5 none) := ⟨S0.out, (HE.out.kept G4.out (by simp)).kept hg5 (by simp), by rw [← hB]; exact B4.out.kept hg5 (by simp), grown_trans G.out (grown_trans G4.out hg5)⟩
      have HbB : Hid (b ≠ B) := by
        have := X5.out.2.1.ne X5.out.2.2.1
        exact this
      have HEr : Hid (Top E) := HE.out.top
      have HSr : Hid (gr = false → E = E0) := S0.out.same
      have HSn : Hid (∀ f s t, E f s t < 2002 → D f s t) := S0.out.snd
      obtain ⟨Er, hEr⟩ : ∃ Er, E = Er := ⟨_, rfl⟩
      obtain ⟨gr0, hgr⟩ : ∃ gr0, gr = gr0 := ⟨_, rfl⟩
      have HLe : Hid (∀ f s t, E f s t ≤ Er f s t) := fun f s t => by rw [hEr]; exact Nat.le_refl _
      have HGr : Hid (gr = false → gr0 = false) := fun e => by rw [← hgr]; exact e
      have HEr2 : Hid (Top Er ∧ (gr0 = false → Er = E0) ∧ ∀ f s t, Er f s t < 2002 → D f s t) := by rw [← hEr, ← hgr]; exact ⟨HEr.out, HSr.out, HSn.out⟩
      obtain ⟨row, hrow⟩ : ∃ row, readC E oN r.P = row := ⟨_, rfl⟩
      have HRow : Hid (∀ t, row t = readC Er oN r.P t) := fun t => by rw [← hrow, hEr]
      have HRt : Hid (∀ t, row t ≤ 2002) := fun t => by rw [← hrow]; exact readC_top _ _ _ _
      clear hg5 B4 CR G4 G HE S0 HEr HSr HSn hEr hgr
      go_wp2_with fail
      all_goals (try rw [hB])
      all_goals (try rw [hrow])
      clear hB hrow
      go_loopw [5, 24] (fun v u wr => ∃ (j : Nat) (E : Edg) (gr : Bool), j ≤ 6 ∧ u = .int .i64 j ∧ v = .bool gr ∧ GrowSt D L E0 E i j gr ∧ (∀ f s t, E f s t ≤ Er f s t) ∧ (gr = false → gr0 = false) ∧ EdgesAt wr b E ∧ BoxP wr B fN tN oN ap r.P.length cp ∧ w0.grownBy wr none) (fun _ u _ => 6 - (intOf u).toNat)
      case atStart => exact ⟨0, E, gr, by omega, rfl, rfl, X5.out.1, HLe.out, HGr.out, X5.out.2.1, X5.out.2.2.1, X5.out.2.2.2⟩
      case round =>
        clear X5 HLe HGr
        obtain ⟨j, E, gr, hj6, rfl, rfl, hS, hle, hgr, hE, hBx, hg⟩ := hrel
        by_cases hj : j < 6
        · have hji : (j : Int) < 6 := by omega
          have hix := index_six row hj wr
          have PUT : Hid (sumC (row j) 1 < E fN tN j → GrowSt D L E0 (updE E fN tN j (sumC (row j) 1)) i (j + 1) true) := fun hc => by
            have := hS.put (Er := Er) HD.out HEr2.out.2.2 (by rw [HRr.out, HN.out.2.2]; omega) hE.top HEr2.out.1 hle hlt (by rw [HRr.out, HN.out.1]; omega) (by rw [HRr.out, HN.out.2.1]; omega) hj
            rw [HRr.out, HN.out.1, HN.out.2.1, HN.out.2.2, ← HRow.out j] at this
            exact this hc
          have SKIP : Hid (¬ sumC (row j) 1 < E fN tN j → GrowSt D L E0 E i (j + 1) gr) := fun hc => by
            have := hS.skip (Er := Er) (fun e => HEr2.out.2.1 (hgr e))
            rw [HRr.out, HN.out.1, HN.out.2.1, HN.out.2.2, ← HRow.out j] at this
            exact this hc
          obtain ⟨q0, q1, q2, q3⟩ := hBx.get
          have hrj := HRt.out j
          obtain ⟨sm, hsm⟩ : ∃ sm, sumC (row j) 1 = sm := ⟨_, rfl⟩
          obtain ⟨rj, hrjj⟩ : ∃ rj, row j = rj := ⟨_, rfl⟩
          obtain ⟨ec, hec⟩ : ∃ ec, E fN tN j = ec := ⟨_, rfl⟩
          have hsm2 := hsm
          have HEc : Hid (E fN tN j = ec) := hec
          rw [hrjj] at hsm2 hix hrj
          have CS : Hid (∀ V, Calls Try.prog 23 #[.int .i64 (rj : Int), .int .i64 1] V fun e w' => e = .returned (.int .i64 (sm : Int)) ∧ w' = V) := fun V => by
            have := sum_any rj 1 V hrj (by omega)
            rw [hsm2] at this
            exact this
          have CC : Hid (∀ V, wr.grownBy V none → Calls Try.prog 24 #[.map (some b), vE fN tN j] V (Says (.int .i64 (ec : Int)) V)) := fun V hV => by
            have := cost_any b E fN tN j V (hE.kept hV (by simp)) (by omega) ht3 hj
            rwa [hec] at this
          have HE : Hid (EdgesAt wr b E) := hE
          have HBx : Hid (BoxP wr B fN tN oN ap r.P.length cp) := hBx
          have HLe : Hid (∀ f s t, E f s t ≤ Er f s t) := hle
          have HGr : Hid (gr = false → gr0 = false) := hgr
          have G : Hid (w0.grownBy wr none) := hg
          obtain ⟨W6, hW6⟩ : ∃ W6, W6 = wr.alloc (.cells #[.int .i64 (fN : Int), .int .i64 (tN : Int), .int .i64 (j : Int)] 50) := ⟨_, rfl⟩
          have HW6 : Hid (W6 = _) := hW6
          have G6 : Hid (wr.grownBy W6 none) := by show World.grownBy _ _ _; rw [hW6]; exact grown_alloc _ _
          have B6 : Hid (BoxE W6 wr.heap.size fN tN j) := by rw [hW6]; exact heap_alloc_new wr _
          obtain ⟨p0, p1, p2⟩ := B6.out.get
          obtain ⟨be, hbe⟩ : ∃ be, wr.heap.size = be := ⟨_, rfl⟩
          rw [hsm, hec] at PUT SKIP
          rw [hbe] at p0 p1 p2 B6
          clear hS hE hBx hle hgr hg hW6 hsm hsm2 hrjj hec
          go_wp2_with fail
          rw [← HW6.out]
          refine (CS.out W6).mono ?_
          rintro e w7 ⟨rfl, hw7⟩
          rw [hw7]
          clear hw7 HW6 q0 q1 q2 q3
          go_wp2_with fail
          refine (CC.out W6 G6.out).mono ?_
          rintro e w8 ⟨rfl, hg8⟩
          have B8 := B6.out.kept hg8
          have G8 := grown_trans G6.out hg8
          clear p0 p1 p2
          obtain ⟨p0, p1, p2⟩ := B8.get
          by_cases hl : sm < ec
          · have hli : (sm : Int) < (ec : Int) := by omega
            have HE8 := HE.out.kept G8 (by simp)
            obtain ⟨w9, hrun, hE9, hg9⟩ := HE8.put (f := fN) (s := tN) (t := j) (c := sm) (by omega) ht3 hj (by rw [HEc.out]; exact hl)
            have X9 : Hid (GrowSt D L E0 (updE E fN tN j sm) i (j + 1) true ∧ (∀ f s t, updE E fN tN j sm f s t ≤ Er f s t) ∧ EdgesAt w9 b (updE E fN tN j sm) ∧ BoxP w9 B fN tN oN ap r.P.length cp ∧ w0.grownBy w9 none) := ⟨PUT.out hl, fun f s t => Nat.le_trans (updE_le (by rw [HEc.out]; omega) f s t) (HLe.out f s t), hE9, (HBx.out.kept G8 (by simp)).kept hg9 (by simpa using fun e => HbB.out e.symm), grown_new (grown_trans G.out G8) hg9 hb⟩
            clear B8 G8 HE8 hE9 hg9 hg8
            go_wp2_with fail
            go_roundw
            case rel => exact ⟨j + 1, _, true, by omega, by simp, rfl, X9.out.1, X9.out.2.1, (fun e => by cases e), X9.out.2.2.1, X9.out.2.2.2.1, X9.out.2.2.2.2⟩
            case measure => simp [intOf]; omega
          · have hli : ¬ (sm : Int) < (ec : Int) := by omega
            have X9 : Hid (GrowSt D L E0 E i (j + 1) gr ∧ EdgesAt w8 b E ∧ BoxP w8 B fN tN oN ap r.P.length cp ∧ w0.grownBy w8 none) := ⟨SKIP.out hl, HE.out.kept G8 (by simp), HBx.out.kept G8 (by simp), grown_trans G.out G8⟩
            clear B8 G8 hg8
            go_wp2_with fail
            go_roundw
            case rel => exact ⟨j + 1, E, gr, by omega, by simp, rfl, X9.out.1, HLe.out, HGr.out, X9.out.2.1, X9.out.2.2.1, X9.out.2.2.2⟩
            case measure => simp [intOf]; omega
        · have hji : ¬ (j : Int) < 6 := by omega
          obtain rfl : j = 6 := by omega
          have HX : Hid (GrowSt D L E0 E (i + 1) 0 gr ∧ EdgesAt wr b E ∧ w0.grownBy wr none) := ⟨hS.next, hE, hg⟩
          clear hS hE hBx hg
          go_wp2_with fail
          exact ⟨⟨i + 1, E, gr, by omega, by simp, rfl, HX.out.1, HX.out.2.1, HX.out.2.2⟩, by simp [intOf]; omega⟩
    · have hki : ¬ (i : Int) < (L.length : Int) := by omega
      have hie : i = L.length := by omega
      have HX : Hid (GrowPost D L b E0 w0 (.returned (.bool gr)) wr) := ⟨E, gr, rfl, HE.out, S0.out.snd, S0.out.le, S0.out.made, S0.out.less, fun e => GrowSt.end (by rw [← hie]; exact S0.out) e, G.out⟩
      clear hg hie
      go_wp2_with fail
      go_ret
      exact HX.out

end Go.Proofs.Ythnbiiipfcogeaa
