/- A row times a column. -/
import Derived.Test.YtjinibofbpgfjaaDoorNuWide
import Derived.BigRegion
import Derived.Deep.RegionWith
import Derived.Deep.RegionHeld3
import Derived.Deep.RegionLaw
import Derived.Deep.DeepCutAuto
namespace Go.Proofs.YtjinibofbpgfjaaDoor
open Go.RowKit
set_option linter.unusedVariables false
set_option linter.unusedSimpArgs false

theorem grown_drew0N {w w' : World} (h : w.drew.grownBy w' none) : w.grownBy w' none := grown_trans (grown_drew (grown_refl w none)) h
/-- The two numbers that are read. -/
def SDt (g1 g2 i : Nat) (b1 : Bool) (a1 : Option Addr) (n1 c1 : Nat) (b2 : Bool) (a2 : Option Addr) (n2 c2 : Nat) (W : World) : Prop :=
  W.cell? ⟨g1, i * 2, none⟩ = some (.bool b1) ∧ W.cell? ⟨g1, i * 2 + 1, none⟩ = some (.slice a1 n1 c1) ∧ W.cell? ⟨g2, i * 2, none⟩ = some (.bool b2) ∧ W.cell? ⟨g2, i * 2 + 1, none⟩ = some (.slice a2 n2 c2)
theorem SDt.kept {g1 g2 i : Nat} {b1 : Bool} {a1 : Option Addr} {n1 c1 : Nat} {b2 : Bool} {a2 : Option Addr} {n2 c2 : Nat} {W W' : World} (h : SDt g1 g2 i b1 a1 n1 c1 b2 a2 n2 c2 W) (k : W.grownBy W' none) : SDt g1 g2 i b1 a1 n1 c1 b2 a2 n2 c2 W' := by
  obtain ⟨h0, h1, h2, h3⟩ := h
  exact ⟨k.cell h0 (by simp), k.cell h1 (by simp), k.cell h2 (by simp), k.cell h3 (by simp)⟩
/-- The product lies in a new box. -/
def DMid (wi : World) (p : Int) (v : Value) (W : World) : Prop := ∃ k b a n c, v = .pointer (some ⟨k, 0, none⟩) ∧ wi.heap.size ≤ k ∧ Box2 W k b a n c ∧ WhAt W b a n c p ∧ wi.grownBy W none
theorem DMid.a {wi w6 : World} {p : Int} {b : Bool} {a : Option Addr} {n c : Nat} (g : wi.grownBy w6 none) (h : WhAt w6 b a n c p) (_ : n ≤ 401) (_ : ∀ y, a = some y → wi.heap.size ≤ y.block) : DMid wi p (.pointer (some ⟨w6.heap.size, 0, none⟩)) (w6.alloc (whO b a n c)) := by
  obtain ⟨W, hW, g1, s1, bx, _⟩ := box2_new w6 b a n c
  rw [← hW]
  exact ⟨_, _, _, _, _, rfl, g.size, bx, h.grown g1, grown_trans g g1⟩
theorem DMid.b {wi w6 W9 : World} {p : Int} {b : Bool} {a : Option Addr} {n c : Nat} (g : wi.grownBy w6 none) (g9 : w6.grownBy W9 (some wi.heap.size)) (h : WhAt w6 b a n c p) (_ : n ≤ 401) (hn : ∀ y, a = some y → wi.heap.size + 1 ≤ y.block) (hb : W9.heap[wi.heap.size]? = some (.cells #[.bool b, .slice a n c] 32 (0, 0))) : DMid wi p (.pointer (some ⟨wi.heap.size, 0, none⟩)) W9 :=
  ⟨_, _, _, _, _, rfl, Nat.le_refl _, (box2_of hb).1, h.far g9 (fun y hy => by have := hn y hy; omega), grown_new g g9 (Nat.le_refl _)⟩
structure DtSt (w : World) (z : Int) (b : Bool) (a : Option Addr) (n c : Nat) (W : World) : Prop where
  sum : W.heap[w.heap.size + 1]? = some (.cells #[.bool b, .slice a n c] 32 (0, 0))
  res : W.heap[w.heap.size]? = some (.cells #[.bool false, .slice none 0 0] 32 (0, 0))
  wh : WhAt W b a n c z
  new : ∀ y, a = some y → w.heap.size + 2 ≤ y.block
  gr : w.grownBy W none
theorem dot_snoc {r c : List Int} {i : Nat} (h1 : i < r.length) (h2 : i < c.length) : dotW (r.take (i + 1)) (c.take (i + 1)) = dotW (r.take i) (c.take i) + r.getD i 0 * c.getD i 0 := by
  rw [take_snocZ h1, take_snocZ h2, dotW_app (by simp; omega)]
  show _ + (r.getD i 0 * c.getD i 0 + 0) = _
  omega
theorem mapz_get {qs : List WhQ} {i : Nat} {q : WhQ} (h : qs[i]? = some q) : (qs.map WhQ.z).getD i 0 = q.z := by simp [List.getD, h]

theorem getD_memZ {l : List Int} {i : Nat} (h : i < l.length) : l.getD i 0 ∈ l := by
  rw [List.getD_eq_getElem?_getD, List.getElem?_eq_getElem h]
  exact List.getElem_mem h
theorem nm_nil : Nm false [] := ⟨fun d hd => (by cases hd), fun h => absurd rfl h, fun h => (by cases h)⟩
set_option maxHeartbeats 3200000 in
set_option maxRecDepth 100000 in
theorem dot_any (qr qc : List WhQ) (ar ac : Option Addr) (kr kc n m : Nat) (w : World) (hr : RowWh w ar qr) (hc : RowWh w ac qc) (l1 : qr.length = n) (l2 : qc.length = n) (hn : n ≤ 8) (hb : BdW (qr.map WhQ.z) m) (hi : InW (qc.map WhQ.z) 9) (hm : m ≤ 90) :
    Calls Tryd.prog 21 #[.slice ar n kr, .slice ac n kc] w (WhN (dotW (qr.map WhQ.z) (qc.map WhQ.z)) w) := by
  obtain ⟨W0, hW0, g0, s0, b0, h0⟩ := box2_new w false none 0 0
  obtain ⟨W1, hW1, g1, s1, b1, h1⟩ := box2_new W0 false none 0 0
  rw [s0] at h1
  have HW1 : Hid (W1 = (w.alloc (whO false none 0 0)).alloc (whO false none 0 0)) := by show _ = _; rw [hW1, hW0]
  have G1 : Hid (w.grownBy W1 none) := grown_trans g0 g1
  have ST : Hid (DtSt w 0 false none 0 0 W1) := ⟨h1, (g1.block _ (by omega) (by simp)).trans h0, ⟨[], rfl, Nat.le_refl _, .inl rfl, nm_nil, rfl⟩, fun y hy => (by cases hy), G1.out⟩
  have HR : Hid (RowWh w ar qr) := hr
  have HC : Hid (RowWh w ac qc) := hc
  have HL : Hid (qr.length = n ∧ qc.length = n) := ⟨l1, l2⟩
  have HBD : Hid (BdW (qr.map WhQ.z) m ∧ InW (qc.map WhQ.z) 9 ∧ m ≤ 90) := ⟨hb, hi, hm⟩
  obtain ⟨r, hr'⟩ : ∃ r, qr.map WhQ.z = r := ⟨_, rfl⟩
  obtain ⟨cc, hc'⟩ : ∃ r, qc.map WhQ.z = r := ⟨_, rfl⟩
  rw [hr', hc'] at HBD
  have HRC : Hid (qr.map WhQ.z = r ∧ qc.map WhQ.z = cc ∧ r.length = n ∧ cc.length = n) := ⟨hr', hc', by rw [← hr', List.length_map, l1], by rw [← hc', List.length_map, l2]⟩
  obtain ⟨Po, hPo⟩ : ∃ P, P = WhN (dotW (qr.map WhQ.z) (qc.map WhQ.z)) w := ⟨_, rfl⟩
  have HPo : Hid (Po = WhN (dotW r cc) w) := by show _ = _; rw [hPo, hr', hc']
  rw [← hPo]
  clear hW0 hW1 g0 g1 s0 s1 b0 b1 h0 h1 hr hc l1 l2 hb hi hm hr' hc' hPo
  go_enter Tryd.func21, Tryd.ntmps21
  go_wp2_with fail
  rw [← HW1.out]
  go_loopw [6] (fun v W => ∃ (i : Nat) (b : Bool) (a : Option Addr) (n' c' : Nat), v = .int .i64 i ∧ i ≤ n ∧ DtSt w (dotW (r.take i) (cc.take i)) b a n' c' W) (fun v _ => n - (intOf v).toNat)
  case atStart => exact ⟨0, false, none, 0, 0, rfl, Nat.zero_le _, ST.out⟩
  case round =>
    obtain ⟨wi, hwi⟩ : ∃ W, W = wr := ⟨_, rfl⟩
    subst hwi
    obtain ⟨i, b0, a0, n0, c0, rfl, hi, hst⟩ := hrel
    have HS : Hid (DtSt w (dotW (r.take i) (cc.take i)) b0 a0 n0 c0 wi) := hst
    clear hst
    by_cases hlt : i < n
    · have i1 : (i : Int) < (n : Int) := by omega
      go_wp2_with fail
      obtain ⟨g1, p, rfl, hp, p0, p1, pl⟩ := (HR.out.grown HS.out.gr).at (i := i) (by rw [HL.out.1]; exact hlt)
      obtain ⟨g2, q, rfl, hq, q0, q1, ql⟩ := (HC.out.grown HS.out.gr).at (i := i) (by rw [HL.out.2]; exact hlt)
      have hpz := mapz_get hp
      have hqz := mapz_get hq
      rw [HRC.out.1] at hpz
      rw [HRC.out.2.1] at hqz
      have pn : p.n ≤ 90 := Nat.le_trans (WhAt.short pl (k := m) (HBD.out.1 _ (by rw [← HRC.out.1]; exact List.mem_map_of_mem (List.mem_of_getElem? hp)))) HBD.out.2.2
      have qn : q.n ≤ 1 := WhAt.short ql (k := 1) (bd_first HBD.out.2.1 _ (by rw [← HRC.out.2.1]; exact List.mem_map_of_mem (List.mem_of_getElem? hq)))
      obtain ⟨b1, a1, n1, c1, z1⟩ := p
      obtain ⟨b2, a2, n2, c2, z2⟩ := q
      simp only at p0 p1 q0 q1 pn qn hpz hqz
      obtain ⟨P, hP⟩ : ∃ P, z1 * z2 = P := ⟨_, rfl⟩
      have HP : Hid (P = r.getD i 0 * cc.getD i 0) := by show _ = _; rw [hpz, hqz, hP]
      have HM0 : ∀ W, wi.grownBy W none → Calls Tryd.prog 35 #[whV b1 a1 n1 c1, whV b2 a2 n2 c2] W (WhN (z1 * z2) W) := fun W hW => mul_any b1 a1 n1 c1 z1 b2 a2 n2 c2 z2 W (WhAt.grown pl hW) (WhAt.grown ql hW) (by omega) (by omega)
      rw [hP] at HM0
      have HM : Hid (∀ W, wi.grownBy W none → Calls Tryd.prog 35 #[whV b1 a1 n1 c1, whV b2 a2 n2 c2] W (WhN P W)) := HM0
      have S5 : Hid (SDt g1 g2 i b1 a1 n1 c1 b2 a2 n2 c2 wi) := ⟨p0, p1, q0, q1⟩
      have GD : Hid (wi.grownBy wi.drew none) := grown_drew (grown_refl _ _)
      have GA : Hid (wi.grownBy (wi.alloc (whO false none 0 0)).drew none) := grown_trans (grown_alloc _ _) (grown_drew (grown_refl _ _))
      have HSZ : Hid ((wi.alloc (whO false none 0 0)).drew.heap.size = wi.heap.size + 1) := by show (wi.alloc (whO false none 0 0)).heap.size = _; simp
      clear hP HM0 hpz hqz pn qn pl ql p0 p1 q0 q1 hp hq
      go_cut [7] (fun v wc => DMid wi P v wc)
      case first =>
        refine wp_region_held_drew (S := SDt g1 g2 i b1 a1 n1 c1 b2 a2 n2 c2) (by kernel_rfl) (S5.out.kept (grown_drew (grown_refl _ _))) (fun hHeld => ?_)
        refine wpAnyH_take (i := 0) (v := ?_) rfl (by kernel_rfl) (by kernel_rfl) (by kernel_rfl) (fun _ _ _ h => h) (Or.inl ⟨by rfl, ?_⟩) (by assumption) ?_
        rotate_left
        · intro W hSw
          obtain ⟨q0, q1, q2, q3⟩ := hSw
          go_simp
          with_reducible rfl
        try simp only [Act.put, List.getElem_toArray, List.getElem_cons_succ, List.getElem_cons_zero, List.setIfInBounds_toArray, List.set_cons_zero, List.set_cons_succ]
        refine wpAnyH_take (i := 1) (v := ?_) rfl (by kernel_rfl) (by kernel_rfl) (by kernel_rfl) (fun _ _ _ h => h) (Or.inl ⟨by rfl, ?_⟩) (by assumption) ?_
        rotate_left
        · intro W hSw
          obtain ⟨q0, q1, q2, q3⟩ := hSw
          go_simp
          with_reducible rfl
        try simp only [Act.put, List.getElem_toArray, List.getElem_cons_succ, List.getElem_cons_zero, List.setIfInBounds_toArray, List.set_cons_zero, List.set_cons_succ]
        refine wpAnyH_take (i := 2) (v := ?_) rfl (by kernel_rfl) (by kernel_rfl) (by kernel_rfl) (fun _ _ _ h => h) (Or.inl ⟨by rfl, ?_⟩) (by assumption) ?_
        rotate_left
        · intro W hSw
          obtain ⟨q0, q1, q2, q3⟩ := hSw
          go_simp
          with_reducible rfl
        try simp only [Act.put, List.getElem_toArray, List.getElem_cons_succ, List.getElem_cons_zero, List.setIfInBounds_toArray, List.set_cons_zero, List.set_cons_succ]
        refine wpAnyH_take (i := 3) (v := ?_) rfl (by kernel_rfl) (by kernel_rfl) (by kernel_rfl) (fun _ _ _ h => h) (Or.inl ⟨by rfl, ?_⟩) (by assumption) ?_
        rotate_left
        · intro W hSw
          obtain ⟨q0, q1, q2, q3⟩ := hSw
          go_simp
          with_reducible rfl
        try simp only [Act.put, List.getElem_toArray, List.getElem_cons_succ, List.getElem_cons_zero, List.setIfInBounds_toArray, List.set_cons_zero, List.set_cons_succ]
        refine wpAnyH_take (i := 4) (v := ?_) rfl (by kernel_rfl) (by kernel_rfl) (by kernel_rfl) (fun _ _ _ h => h) (Or.inl ⟨by rfl, ?_⟩) (by assumption) ?_
        rotate_left
        · intro W hSw
          obtain ⟨q0, q1, q2, q3⟩ := hSw
          go_simp
          with_reducible rfl
        try simp only [Act.put, List.getElem_toArray, List.getElem_cons_succ, List.getElem_cons_zero, List.setIfInBounds_toArray, List.set_cons_zero, List.set_cons_succ]
        refine wpAnyH_take (i := 5) (v := ?_) rfl (by kernel_rfl) (by kernel_rfl) (by kernel_rfl) (fun _ _ _ h => h) (Or.inl ⟨by rfl, ?_⟩) (by assumption) ?_
        rotate_left
        · intro W hSw
          obtain ⟨q0, q1, q2, q3⟩ := hSw
          go_simp
          with_reducible rfl
        try simp only [Act.put, List.getElem_toArray, List.getElem_cons_succ, List.getElem_cons_zero, List.setIfInBounds_toArray, List.set_cons_zero, List.set_cons_succ]
        refine wpAnyH_take (i := 6) (v := ?_) rfl (by kernel_rfl) (by kernel_rfl) (by kernel_rfl) (fun _ _ _ h => h) (Or.inl ⟨by rfl, ?_⟩) (by assumption) ?_
        rotate_left
        · intro W hSw
          obtain ⟨q0, q1, q2, q3⟩ := hSw
          go_simp
          with_reducible rfl
        try simp only [Act.put, List.getElem_toArray, List.getElem_cons_succ, List.getElem_cons_zero, List.setIfInBounds_toArray, List.set_cons_zero, List.set_cons_succ]
        refine wpAnyH_take (i := 7) (v := ?_) rfl (by kernel_rfl) (by kernel_rfl) (by kernel_rfl) (fun _ _ _ h => h) (Or.inl ⟨by rfl, ?_⟩) (by assumption) ?_
        rotate_left
        · intro W hSw
          obtain ⟨q0, q1, q2, q3⟩ := hSw
          go_simp
          with_reducible rfl
        try simp only [Act.put, List.getElem_toArray, List.getElem_cons_succ, List.getElem_cons_zero, List.setIfInBounds_toArray, List.set_cons_zero, List.set_cons_succ]
        refine wpAnyH_ready (rs := [8, 9]) (by kernel_rfl) (by simp) ?_
        refine AllReadyH.cons (o := _) rfl (fun K' hK => ?_) ?_
        · go_simp
          refine (HM.out _ GD.out).mono ?_
          rintro E w6 ⟨b4, a4, n4, c4, rfl, hwh, hn4, hg6, hnew⟩
          have G6 : Hid (wi.grownBy w6 none) := grown_trans GD.out hg6
          have MA : Hid (DMid wi P (.pointer (some ⟨w6.heap.size, 0, none⟩)) (w6.alloc (whO b4 a4 n4 c4))) := DMid.a G6.out hwh hn4 (fun y hy => by have := hnew y hy; have := GD.out.size; omega)
          clear hwh hn4 hg6 hnew
          go_wp2_with fail
          refine hK.out _ _ (S5.out.kept G6.out) (fun hHeld => ?_)
          clear hK K'
          try simp only [Act.put, List.getElem_toArray, List.getElem_cons_succ, List.getElem_cons_zero, List.setIfInBounds_toArray, List.set_cons_zero, List.set_cons_succ]
          refine wpAnyH_ready (rs := [9]) (by kernel_rfl) (by simp) ?_
          refine AllReadyH.cons (o := _) rfl (fun K' hK => ?_) ?_
          · go_simp
            refine hK.out _ _ (S5.out.kept (grown_trans G6.out (grown_alloc _ _))) (fun hHeld => ?_)
            clear hK K'
            try simp only [Act.put, List.getElem_toArray, List.getElem_cons_succ, List.getElem_cons_zero, List.setIfInBounds_toArray, List.set_cons_zero, List.set_cons_succ]
            refine wpAnyH_ready (rs := [10]) (by kernel_rfl) (by simp) ?_
            refine AllReadyH.cons (o := _) rfl (fun K' hK => ?_) ?_
            · go_simp
              refine hK.out _ _ (S5.out.kept (grown_trans G6.out (grown_alloc _ _))) (fun hHeld => ?_)
              clear hK K'
              try simp only [Act.put, List.getElem_toArray, List.getElem_cons_succ, List.getElem_cons_zero, List.setIfInBounds_toArray, List.set_cons_zero, List.set_cons_succ]
              refine wpAnyH_done (by kernel_rfl) ?_ _
              go_wp2_with fail
              go_meet
              case rel => exact MA.out
            exact AllReadyH.nil
          exact AllReadyH.nil
        refine AllReadyH.cons (o := _) rfl (fun K' hK => ?_) ?_
        · go_simp
          refine hK.out _ _ (hHeld.kept (grown_alloc _ _)) (fun hHeld => ?_)
          clear hK K'
          try simp only [Act.put, List.getElem_toArray, List.getElem_cons_succ, List.getElem_cons_zero, List.setIfInBounds_toArray, List.set_cons_zero, List.set_cons_succ]
          refine wpAnyH_ready (rs := [8]) (by kernel_rfl) (by simp) ?_
          refine AllReadyH.cons (o := _) rfl (fun K' hK => ?_) ?_
          · go_simp
            refine (HM.out _ GA.out).mono ?_
            rintro E w6 ⟨b4, a4, n4, c4, rfl, hwh, hn4, hg6, hnew⟩
            have G6 : Hid (wi.grownBy w6 none) := grown_trans GA.out hg6
            have hb6 : w6.heap[wi.heap.size]? = some (.cells #[.bool false, .slice none 0 0] 32 (0, 0)) := (hg6.block wi.heap.size (by show _ < (wi.alloc (whO false none 0 0)).heap.size; simp) (by simp)).trans (heap_alloc_new wi (whO false none 0 0))
            obtain ⟨⟨p0, p1⟩, fz, W9, hW9, g9, y0, y1, hb9⟩ := two_store hb6 (.bool b4) (.slice a4 n4 c4)
            have HW9 : Hid (W9 = _) := hW9
            have MB : Hid (DMid wi P (.pointer (some ⟨wi.heap.size, 0, none⟩)) W9) := DMid.b G6.out g9 hwh hn4 (fun y hy => by have := hnew y hy; have := HSZ.out; omega) hb9
            have G9 : Hid (wi.grownBy W9 none) := grown_new G6.out g9 (Nat.le_refl _)
            have f0 := fz 0
            have f1 := fz 1
            clear hwh hn4 hg6 hnew hb6 fz hW9 g9 hb9 y0 y1
            go_wp2_with fail
            refine hK.out _ _ (S5.out.kept G6.out) (fun hHeld => ?_)
            clear hK K'
            try simp only [Act.put, List.getElem_toArray, List.getElem_cons_succ, List.getElem_cons_zero, List.setIfInBounds_toArray, List.set_cons_zero, List.set_cons_succ]
            refine wpAnyH_ready (rs := [10]) (by kernel_rfl) (by simp) ?_
            refine AllReadyH.cons (o := _) rfl (fun K' hK => ?_) ?_
            · go_simp
              rw [← HW9.out]
              refine hK.out _ _ (S5.out.kept G9.out) (fun hHeld => ?_)
              clear hK K'
              try simp only [Act.put, List.getElem_toArray, List.getElem_cons_succ, List.getElem_cons_zero, List.setIfInBounds_toArray, List.set_cons_zero, List.set_cons_succ]
              refine wpAnyH_done (by kernel_rfl) ?_ _
              go_wp2_with fail
              go_meet
              case rel => exact MB.out
            exact AllReadyH.nil
          exact AllReadyH.nil
        exact AllReadyH.nil
      case rest =>
        clear HM S5 GD GA
        rename World => wc
        obtain ⟨k7, b4, a4, n4, c4, rfl, hk7, bx, hwh, hgc⟩ := hcut
        have HWC : Hid (wi.grownBy wc none) := hgc
        have HSI : Hid (w.heap.size + 2 ≤ wi.heap.size) := by
          have h1 := HS.out.sum
          have := (Array.getElem?_eq_some_iff.1 h1).1
          show _ ≤ _
          omega
        have hsum := (hgc.block _ (by have := HSI.out; omega) (by simp)).trans HS.out.sum
        have hres := (hgc.block _ (by have := HSI.out; omega) (by simp)).trans HS.out.res
        have HSU : Hid (∀ W, wc.grownBy W none → W.heap[w.heap.size + 1]? = some (.cells #[.bool b0, .slice a0 n0 c0] 32 (0, 0)) ∧ W.heap[w.heap.size]? = some (.cells #[.bool false, .slice none 0 0] 32 (0, 0))) := fun W hW => ⟨(hW.block _ (by have := HSI.out; have := hgc.size; omega) (by simp)).trans hsum, (hW.block _ (by have := HSI.out; have := hgc.size; omega) (by simp)).trans hres⟩
        obtain ⟨zs, hzs⟩ : ∃ z, dotW (r.take i) (cc.take i) = z := ⟨_, rfl⟩
        have HZS : Hid (dotW (r.take (i + 1)) (cc.take (i + 1)) = zs + P) := by show _ = _; rw [dot_snoc (by rw [HRC.out.2.2.1]; exact hlt) (by rw [HRC.out.2.2.2]; exact hlt), hzs, HP.out]
        have bz0 : (zs.natAbs : Int) < pwN (m + 1) := by
          rw [← hzs]
          exact bd_dot (fun x hx => HBD.out.1 x (List.mem_of_mem_take hx)) (fun x hx => HBD.out.2.1 x (List.mem_of_mem_take hx)) (by rw [List.length_take]; omega)
        have bP : (P.natAbs : Int) < pwN (m + 1) := by
          have h1 := bd_dot (r := [r.getD i 0]) (c := [cc.getD i 0]) (k := m) (fun x hx => by rw [List.mem_singleton.1 hx]; exact HBD.out.1 _ (getD_memZ (by rw [HRC.out.2.2.1]; exact hlt))) (fun x hx => by rw [List.mem_singleton.1 hx]; exact HBD.out.2.1 _ (getD_memZ (by rw [HRC.out.2.2.2]; exact hlt))) (by simp)
          have e : dotW [r.getD i 0] [cc.getD i 0] = P := by rw [HP.out]; show _ + (0 : Int) = _; omega
          rw [e] at h1
          exact h1
        have n0s := WhAt.short HS.out.wh (k := m + 1) (by rw [hzs]; exact bz0)
        have n4s := WhAt.short hwh (k := m + 1) bP
        have HAd : Hid (Calls Tryd.prog 36 #[whV b0 a0 n0 c0, whV b4 a4 n4 c4] wc (WhN (zs + P) wc)) := add_any b0 a0 n0 c0 zs b4 a4 n4 c4 P wc (hzs ▸ HS.out.wh.grown hgc) hwh (by have := HBD.out.2.2; omega) (by have := HBD.out.2.2; omega)
        have u0 := (box2_of hsum).1.b0
        have u1 := (box2_of hsum).1.b1
        have v0 := bx.b0
        have v1 := bx.b1
        clear hgc hsum hres hzs bz0 bP n0s n4s hwh bx
        go_wp2_with fail
        clear u0 u1 v0 v1
        refine HAd.out.mono ?_
        rintro E w6 ⟨b5, a5, n5, c5, rfl, hwh, hn5, hg6, hnew⟩
        obtain ⟨⟨p0, p1⟩, fz, W9, hW9, g9, y0, y1, hb9⟩ := two_store (HSU.out w6 hg6).1 (.bool b5) (.slice a5 n5 c5)
        have HW9 : Hid (W9 = _) := hW9
        have HS9 : Hid (DtSt w (dotW (r.take (i + 1)) (cc.take (i + 1))) b5 a5 n5 c5 W9) := by
          have hc := HWC.out.size
          have h2 := HSI.out
          refine ⟨hb9, (g9.block _ (by have := hg6.size; omega) (by simp)).trans (HSU.out w6 hg6).2, ?_, fun y hy => by have := hnew y hy; omega, grown_new (grown_trans HS.out.gr (grown_trans HWC.out hg6)) g9 (by omega)⟩
          rw [HZS.out]
          exact hwh.far g9 (fun y hy => by have := hnew y hy; omega)
        have f0 := fz 0
        have f1 := fz 1
        clear hwh hn5 hg6 hnew fz hW9 g9 hb9 y0 y1 HAd
        go_wp2_with fail
        rw [← HW9.out]
        go_roundw
        case rel => exact ⟨i + 1, b5, a5, n5, c5, by go_num, by omega, HS9.out⟩
        case measure => simp [intOf]; omega
    · have i1 : ¬ (i : Int) < (n : Int) := by omega
      have ei : i = n := by omega
      have hz : dotW (r.take i) (cc.take i) = dotW r cc := by
        have e1 : r.take i = r := List.take_of_length_le (by rw [HRC.out.2.2.1]; omega)
        have e2 : cc.take i = cc := List.take_of_length_le (by rw [HRC.out.2.2.2]; omega)
        rw [e1, e2]
      have u0 := (box2_of HS.out.sum).1.b0
      have u1 := (box2_of HS.out.sum).1.b1
      obtain ⟨⟨p0, p1⟩, fz, W9, hW9, g9, y0, y1, hb9⟩ := two_store HS.out.res (.bool b0) (.slice a0 n0 c0)
      have HW9 : Hid (W9 = _) := hW9
      have hwh := HS.out.wh
      rw [hz] at hwh
      have n0s := WhAt.short hwh (k := m + 1) (bd_dot HBD.out.1 HBD.out.2.1 (by rw [HRC.out.2.2.2]; exact hn))
      have F : Hid (Po (.returned (whV b0 a0 n0 c0)) W9) := by
        show Po _ _
        rw [HPo.out]
        exact ⟨b0, a0, n0, c0, rfl, hwh.far g9 (fun y hy => by have := HS.out.new y hy; omega), by have := HBD.out.2.2; omega, grown_new HS.out.gr g9 (Nat.le_refl _), fun y hy => by have := HS.out.new y hy; omega⟩
      have f0 := fz 0
      have f1 := fz 1
      clear hz hwh n0s fz hW9 g9 hb9 ei
      go_wp2_with fail
      rw [← HW9.out]
      exact bodyPost_ret (v := whV b0 a0 n0 c0) (by simp [results, Tryd.results21, go_sem, y0, y1]) rfl F.out

end Go.Proofs.YtjinibofbpgfjaaDoor
