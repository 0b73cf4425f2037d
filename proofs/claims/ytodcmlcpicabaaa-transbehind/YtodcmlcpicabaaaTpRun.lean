/- The reference's Run, of long words; what is said to letters from a state on: the reference's from. -/
import Derived.Test.YtodcmlcpicabaaaTnRefR
import Derived.Test.YtodcmlcpicabaaaCts
namespace Go.Proofs.Ytodcmlcpicabaaa
open Go.RowKit
set_option linter.unusedVariables false
set_option linter.unusedSimpArgs false

theorem app_anyZ {w : World} {B : Nat} {a0 a : Option Addr} {c0 c : Nat} {xs us : List Int} (ho : w.ownsRow B 3 1 (.slice a0 xs.length c0) xs.length (numsI xs)) (hB : B ≤ w.heap.size) (hu : Ints w a us) (hl : xs.length + us.length ≤ 100000) :
    ∃ a1 c1 w', (AppY #[22, 22] 22 #[.slice a0 xs.length c0, .slice a us.length c]).run Try.prog w = .ok (.slice a1 (xs.length + us.length) c1) w' ∧ w'.ownsRow B 3 1 (.slice a1 (xs ++ us).length c1) (xs ++ us).length (numsI (xs ++ us)) ∧ w.grownBy w' (Value.slice a0 xs.length c0).ownBlock := by
  obtain ⟨i0, hi0, hz0, hz1, hz2⟩ := info_partsY Try.infoI64Y
  by_cases he : us = []
  · subst he
    refine ⟨a0, c0, w, ?_, by simpa using ho, grown_refl _ _⟩
    have hc := ho.2
    rcases hc with ⟨h1, _⟩ | ⟨g', cap', cur, h1, _, _, h4, _⟩
    · simp only [Value.slice.injEq] at h1
      obtain ⟨rfl, h2, rfl⟩ := h1
      rw [h2]
      cases a with
      | none => simp [AppY, Builtin.append_, run_underlying Try.underlying22, sizeOf, typeInfo, zeroValue, hi0, hz0, Builtin.lenOf, run_firstCells_none, storeCells]
      | some b =>
        have hf := run_firstCells_some (P := Try.prog) w i0.size 0 b 0 c [] (by simp) (by simp)
        simp [AppY, Builtin.append_, run_underlying Try.underlying22, sizeOf, typeInfo, zeroValue, hi0, hz0, Builtin.lenOf, hf, storeCells]
    · simp only [Value.slice.injEq] at h1
      obtain ⟨rfl, _, rfl⟩ := h1
      have h5 : ¬ c0 < xs.length := by omega
      cases a with
      | none => simp [AppY, Builtin.append_, run_underlying Try.underlying22, sizeOf, typeInfo, zeroValue, hi0, hz0, Builtin.lenOf, run_firstCells_none, storeCells, h5, h4]
      | some b =>
        have hf := run_firstCells_some (P := Try.prog) w i0.size 0 b 0 c [] (by simp) (by simp)
        simp [AppY, Builtin.append_, run_underlying Try.underlying22, sizeOf, typeInfo, zeroValue, hi0, hz0, Builtin.lenOf, hf, storeCells, h5, h4]
  · have hlen : 0 < us.length := List.length_pos_iff.2 he
    obtain ⟨b, off, rfl, hc⟩ := hu.at hlen
    obtain ⟨g1, c1, w1, hr, h2, h3, _, _⟩ := run_append_lies (P := Try.prog) w 22 22 B 3 i0 (.int .i64 0) 1 8 Try.underlying22 hi0 hz0 hz1 hz2 rfl (by decide) (.slice a0 xs.length c0) xs.length (numsI xs) ho ⟨b, off, none⟩ us.length c (numsI us) (by simp [numsI]) (fun j u hu => by
        have hj : j < us.length := by have := (List.getElem?_eq_some_iff.1 hu).1; simpa [numsI] using this
        have e : (⟨b, off, none⟩ : Addr).add j = ⟨b, off + j, none⟩ := by by_cases hj0 : j = 0 <;> simp [Addr.add, hj0]
        rw [e, hc j hj, ← hu]
        simp [numsI, hj, List.getD]) (by intro u hu; simp [numsI] at hu; obtain ⟨x, _, rfl⟩ := hu; rfl) hlen (by unfold maxLen; omega) (by omega) hB _ rfl
    refine ⟨some ⟨g1, 0, none⟩, c1, w1, hr, ?_, h3⟩
    have e : numsI xs ++ numsI us = numsI (xs ++ us) := by simp [numsI]
    rw [List.length_append, ← e]
    exact h2
theorem OwnW.putZ {W1 W : World} {a : Option Addr} {c : Nat} {zs us : List Int} {b : Option Addr} {d : Nat} (h : OwnW W1 W a c zs) (hu : Ints W b us) (hl : zs.length + us.length ≤ 100000) :
    ∃ a1 c1 W', (AppY #[22, 22] 22 #[.slice a zs.length c, .slice b us.length d]).run Try.prog W = .ok (.slice a1 (zs ++ us).length c1) W' ∧ OwnW W1 W' a1 c1 (zs ++ us) := by
  obtain ⟨a1, c1, w', hr, ho, hg⟩ := app_anyZ (c := d) h.own h.gr.size hu hl
  refine ⟨a1, c1, w', ?_, ⟨ho, grown_of_below ((below_of_grown h.gr).grown hg h.gr.size (fun k hk => (h.own.lt k hk).1))⟩⟩
  rw [List.length_append]; exact hr
theorem OwnW.down {W0 W1 W : World} {a : Option Addr} {c : Nat} {zs : List Int} (h : OwnW W1 W a c zs) (g : W0.grownBy W1 none) : OwnW W0 W a c zs := by
  refine ⟨⟨h.own.1, ?_⟩, grown_trans g h.gr⟩
  rcases h.own.2 with h1 | ⟨b, cap, cur, h1, h2, h3⟩
  · exact .inl h1
  · exact .inr ⟨b, cap, cur, h1, Nat.le_trans g.size h2, h3⟩
def FromP (x : TrI) (q : Nat) (us : List Nat) (w : World) (e : Ending) (w' : World) : Prop := ∃ a c, e = .returned (.tuple #[.slice a (ruT x q us).length c, .int .i64 ((goT x q us : Nat) : Int)]) ∧ OwnW w w' a c (ruT x q us)
/-- What holds behind k letters. -/
def FrSt (x : TrI) (q0 : Nat) (us : List Nat) (W1 : World) (k : Nat) (v5 v6 : Value) (W : World) : Prop := ∃ a c, v5 = .slice a (ruT x q0 (us.take k)).length c ∧ v6 = .int .i64 ((goT x q0 (us.take k) : Nat) : Int) ∧ OwnW W1 W a c (ruT x q0 (us.take k))

attribute [local go_sem ↓] appY_fold in
set_option maxHeartbeats 3200000 in
set_option maxRecDepth 100000 in
theorem runR16_long (x : TrI) (I : Nat) (a3 a4 a5 a6 : Option Addr) (c3 c4 c5 c6 : Nat) (w : World) (h : TnAt w x a3 a4 a5 a6) (hr : ReadT x I) (hI : I ≤ 4) (hN : x.N.length ≤ 1000) (us : List Nat) (hu : ∀ l ∈ us, l < I) (hl : us.length ≤ 1000) (au : Option Addr) (cu : Nat) (hi : Ints w au (nsT us)) :
    Calls Try.prog 13 #[tnV x.I x.O x.S a3 x.F.length c3 a4 x.N.length c4 a5 x.Y.length c5 a6 x.E.length c6, .slice au us.length cu] w (RunRP x us w) := by
  obtain ⟨W1, hW1, g1, s1, bx⟩ := box7_new w x.I x.O x.S a3 x.F.length c3 a4 x.N.length c4 a5 x.Y.length c5 a6 x.E.length c6
  obtain ⟨W2, hW2, g2, o2⟩ := empty_row W1
  have HW1 : Hid (W1 = _) := hW1
  have G1 : Hid (w.grownBy W1 none) := g1
  have HT : Hid (TnAt W1 x a3 a4 a5 a6) := h.grown g1
  have HX : Hid (∀ W, W1.grownBy W none → Box7 W w.heap.size x.I x.O x.S a3 x.F.length c3 a4 x.N.length c4 a5 x.Y.length c5 a6 x.E.length c6) := fun W hW => bx.grown hW
  have HI : Hid (Ints W1 au (nsT us)) := hi.grown g1
  have HR : Hid (ReadT x I) := hr
  have HU : Hid (∀ l ∈ us, l < I) := hu
  have HY : Hid (x.Y.length = x.N.length ∧ x.E.length = x.N.length) := ⟨hr.hy, hr.he⟩
  have hS := hr.st
  unfold StT at hS
  have hf8 := hr.f8
  obtain ⟨Po, hPo⟩ : ∃ P, P = RunRP x us w := ⟨_, rfl⟩
  have HP : Hid (∀ a c W, OwnW W1 W a c (saysT x us) → Po (.returned (.slice a (saysT x us).length c)) W) := fun a c W h1 => by
    rw [hPo]; exact ⟨a, c, rfl, h1.ints, grown_trans G1.out h1.gr, fun y hy => Nat.le_trans G1.out.size (h1.new y hy)⟩
  obtain ⟨aF, cF, WF, hrF, oF⟩ := o2.putZ (d := c3) (HT.out.first.grown g2) (by simp; omega)
  simp only [List.nil_append, List.length_nil] at hrF oF
  have HF : Hid (OwnW W1 WF aF cF x.F) := oF
  have x3 := bx.b3
  have y2 := (HX.out WF oF.gr).b2
  rw [hW1] at x3
  rw [s1, hW2, hW1] at hrF
  have S1 : Hid (W1.heap.size = w.heap.size + 1) := s1
  obtain ⟨q0, hq0⟩ : ∃ q0 : Nat, x.S = (q0 : Int) := ⟨x.S.toNat, by omega⟩
  have HQ : Hid (x.S.toNat = q0 ∧ q0 < x.N.length) := ⟨by omega, by omega⟩
  rw [hq0] at y2
  rw [← hPo]
  clear g1 s1 bx h hPo hi hr hu hS g2 o2 oF hq0 hW1 hW2
  go_enter Try.func13, Try.ntmps13
  go_wp2_with fail
  clear hrF x3 y2
  go_loopw [7, 5, 6] (fun v v5 v6 W => ∃ k : Nat, k ≤ us.length ∧ v = .int .i64 k ∧ RrSt x us W1 k v5 v6 W) (fun v _ _ _ => us.length - (intOf v).toNat)
  case atStart => exact ⟨0, Nat.zero_le _, rfl, aF, cF, by simp [ruT], by simp [goT, HQ.out.1], by simpa [ruT] using HF.out⟩
  case round =>
    obtain ⟨k, hk, rfl, a, c, rfl, rfl, ho⟩ := hrel
    have HO : Hid (OwnW W1 wr a c (x.F ++ ruT x x.S.toNat (us.take k))) := ho
    clear ho HF
    rw [HQ.out.1] at HO
    simp only [HQ.out.1]
    by_cases hlt : k < us.length
    · have ik : (k : Int) < (us.length : Int) := by omega
      have hp : goT x q0 (us.take k) < x.N.length := HR.out.go _ (fun l hl' => HU.out l (List.mem_of_mem_take hl')) HQ.out.2
      have hu : us.getD k 0 < I := HU.out _ (mem_getD hlt)
      have hlen := HR.out.len (us.take k) (fun l hl' => HU.out l (List.mem_of_mem_take hl')) HQ.out.2
      rw [List.length_take] at hlen
      have E1 : Hid _ := goT_take x q0 hlt
      have E2 : Hid _ := ruT_take x q0 hlt
      have E3 := nsT_getD hlt
      obtain ⟨zs, hzs⟩ : ∃ zs, x.F ++ ruT x q0 (us.take k) = zs := ⟨_, rfl⟩
      have hzl : zs.length ≤ 8 + 8 * us.length := by rw [← hzs, List.length_append]; omega
      obtain ⟨p, hpp⟩ : ∃ p, goT x q0 (us.take k) = p := ⟨_, rfl⟩
      obtain ⟨u, huu⟩ : ∃ u, us.getD k 0 = u := ⟨_, rfl⟩
      rw [hzs] at HO
      have E4 : Hid (x.F ++ ruT x q0 (us.take (k + 1)) = zs ++ syT x p u) := by
        show _ = _
        rw [E2.out, ← List.append_assoc, hzs, hpp, huu]
      rw [hpp] at hp E1
      rw [huu] at hu E1 E3
      simp only [hzs, hpp]
      clear hzs hpp huu E2
      obtain ⟨b5, o5, k5, b6, o6, k6, r6, rfl, h8, hs5⟩ := read_say HT.out HR.out hp hu
      obtain ⟨b4, o4, k4, b, o, rfl, hs4⟩ := read_next HT.out HR.out hp hu
      obtain ⟨bu, ou, rfl, hcu⟩ := HI.out.at (k := k) (by rw [nsT_len]; exact hlt)
      have cu0 := hcu k (by rw [nsT_len]; exact hlt)
      rw [E3] at cu0
      have od : OwnW W1 wr.drew a c zs := HO.out.grown (grown_drew (grown_refl _ _))
      obtain ⟨a1, c1, W', hrun, ho'⟩ := od.putZ (d := k6) (hs5 wr.drew od.gr).2.2 (by omega)
      have cu1 := HO.out.gr.cell cu0 (by simp)
      have cu2 := ho'.gr.cell cu0 (by simp)
      obtain ⟨c5a, c5b, _⟩ := hs5 wr HO.out.gr
      obtain ⟨c4a, c4b⟩ := hs4 W' ho'.gr
      have y5 := (HX.out wr HO.out.gr).b5
      have y4 := (HX.out W' ho'.gr).b4
      have ip : (p : Int) < (x.N.length : Int) := by omega
      have ip5 : (p : Int) < (x.Y.length : Int) := by rw [HY.out.1]; omega
      have iu : (u : Int) < (I : Int) := by omega
      have F : Hid (∀ W'', W'.grownBy W'' none → RrSt x us W1 (k + 1) (.slice a1 (zs ++ syT x p u).length c1) (.int .i64 ((nxT x p u : Nat) : Int)) W'') := fun W'' g => ⟨a1, c1, by rw [HQ.out.1, E4.out], by rw [HQ.out.1, E1.out], by rw [HQ.out.1, E4.out]; exact ho'.grown g⟩
      generalize (zs ++ syT x p u).length = nn at *
      generalize zs.length = nz at *
      clear hs5 hs4 ho' hcu HO E1 E3 E4 hlen h8 hp hu od cu0
      go_wp2_with fail
      go_region
      all_goals
        go_wp2_with fail
        go_quiet (fail)
        go_wp2_with fail
        go_roundw
        case rel => exact ⟨k + 1, by omega, by go_num, F.out _ (grown_drewN (grown_refl _ _) _)⟩
        case measure => simp [intOf]; omega
    · have ik : ¬ (k : Int) < (us.length : Int) := by omega
      have ek : us.take k = us := List.take_of_length_le (by omega)
      rw [ek] at HO
      simp only [ek]
      have hl2 : goT x q0 us < x.N.length := HR.out.go us HU.out HQ.out.2
      have hl1 := HR.out.len us HU.out HQ.out.2
      obtain ⟨b6, o6, k6, r6, rfl, h8, hs6⟩ := read_last HT.out HR.out hl2
      obtain ⟨c6a, i6⟩ := hs6 wr HO.out.gr
      obtain ⟨a1, c1, W', hrun, ho'⟩ := HO.out.putZ (d := k6) i6 (by rw [List.length_append]; omega)
      have y6 := (HX.out wr HO.out.gr).b6
      have ip : ((goT x q0 us : Nat) : Int) < (x.E.length : Int) := by rw [HY.out.2]; omega
      have F : Hid (Po (.returned (.slice a1 (x.F ++ ruT x q0 us ++ x.E.getD (goT x q0 us) []).length c1)) W') := by
        have h1 := HP.out a1 c1 W'
        unfold saysT at h1
        rw [HQ.out.1] at h1
        exact h1 ho'
      clear HO ek hs6 i6 ho' HP h8 hl1
      generalize (x.F ++ ruT x q0 us ++ x.E.getD (goT x q0 us) []).length = nn at *
      generalize (x.F ++ ruT x q0 us).length = nz at *
      generalize (x.E.getD (goT x q0 us) []).length = ne at *
      generalize goT x q0 us = p at *
      go_wp2_with fail
      first | exact F.out | (go_ret; exact F.out)


attribute [local go_sem ↓] appY_fold in
set_option maxHeartbeats 3200000 in
set_option maxRecDepth 100000 in
theorem fromR_any (x : TrI) (I : Nat) (a3 a4 a5 a6 : Option Addr) (c3 c4 c5 c6 : Nat) (w : World) (h : TnAt w x a3 a4 a5 a6) (hr : ReadT x I) (hI : I ≤ 4) (hN : x.N.length ≤ 1000) (q0 : Nat) (hq0 : q0 < x.N.length) (us : List Nat) (hu : ∀ l ∈ us, l < I) (hl : us.length ≤ 1000) (au : Option Addr) (cu : Nat) (hi : Ints w au (nsT us)) :
    Calls Try.prog 24 #[tnV x.I x.O x.S a3 x.F.length c3 a4 x.N.length c4 a5 x.Y.length c5 a6 x.E.length c6, .int .i64 (q0 : Int), .slice au us.length cu] w (FromP x q0 us w) := by
  obtain ⟨W1, hW1, g1, s1, bx⟩ := box7_new w x.I x.O x.S a3 x.F.length c3 a4 x.N.length c4 a5 x.Y.length c5 a6 x.E.length c6
  have HW1 : Hid (W1 = _) := hW1
  have G1 : Hid (w.grownBy W1 none) := g1
  have HT : Hid (TnAt W1 x a3 a4 a5 a6) := h.grown g1
  have HX : Hid (∀ W, W1.grownBy W none → Box7 W w.heap.size x.I x.O x.S a3 x.F.length c3 a4 x.N.length c4 a5 x.Y.length c5 a6 x.E.length c6) := fun W hW => bx.grown hW
  have HI : Hid (Ints W1 au (nsT us)) := hi.grown g1
  have HR : Hid (ReadT x I) := hr
  have HU : Hid (∀ l ∈ us, l < I) := hu
  have HY : Hid (x.Y.length = x.N.length ∧ x.E.length = x.N.length) := ⟨hr.hy, hr.he⟩
  obtain ⟨Po, hPo⟩ : ∃ P, P = FromP x q0 us w := ⟨_, rfl⟩
  have HP : Hid (∀ a c W, OwnW W1 W a c (ruT x q0 us) → Po (.returned (.tuple #[.slice a (ruT x q0 us).length c, .int .i64 ((goT x q0 us : Nat) : Int)])) W) := fun a c W h1 => by
    rw [hPo]; exact ⟨a, c, rfl, h1.down G1.out⟩
  have HF : Hid (OwnW W1 W1 none 0 []) := OwnW.nil (grown_refl _ _)
  have x3 := bx.b3
  rw [hW1] at x3
  have S1 : Hid (W1.heap.size = w.heap.size + 1) := s1
  have HQ : Hid (q0 < x.N.length) := hq0
  rw [← hPo]
  clear g1 s1 bx h hPo hi hr hu hq0 hW1
  go_enter Try.func24, Try.ntmps24
  go_wp2_with fail
  rw [← HW1.out]
  clear x3
  go_loopw [9, 8, 1] (fun v v5 v6 W => ∃ k : Nat, k ≤ us.length ∧ v = .int .i64 k ∧ FrSt x q0 us W1 k v5 v6 W) (fun v _ _ _ => us.length - (intOf v).toNat)
  case atStart => exact ⟨0, Nat.zero_le _, rfl, none, 0, by simp [ruT], by simp [goT], by simpa [ruT] using HF.out⟩
  case round =>
    obtain ⟨k, hk, rfl, a, c, rfl, rfl, ho⟩ := hrel
    have HO : Hid (OwnW W1 wr a c (ruT x q0 (us.take k))) := ho
    clear ho HF
    by_cases hlt : k < us.length
    · have ik : (k : Int) < (us.length : Int) := by omega
      have hp : goT x q0 (us.take k) < x.N.length := HR.out.go _ (fun l hl' => HU.out l (List.mem_of_mem_take hl')) HQ.out
      have hu : us.getD k 0 < I := HU.out _ (mem_getD hlt)
      have hlen := HR.out.len (us.take k) (fun l hl' => HU.out l (List.mem_of_mem_take hl')) HQ.out
      rw [List.length_take] at hlen
      have E1 : Hid _ := goT_take x q0 hlt
      have E2 : Hid _ := ruT_take x q0 hlt
      have E3 := nsT_getD hlt
      obtain ⟨zs, hzs⟩ : ∃ zs, ruT x q0 (us.take k) = zs := ⟨_, rfl⟩
      have hzl : zs.length ≤ 8 * us.length := by rw [← hzs]; omega
      obtain ⟨p, hpp⟩ : ∃ p, goT x q0 (us.take k) = p := ⟨_, rfl⟩
      obtain ⟨u, huu⟩ : ∃ u, us.getD k 0 = u := ⟨_, rfl⟩
      rw [hzs] at HO
      have E4 : Hid (ruT x q0 (us.take (k + 1)) = zs ++ syT x p u) := by
        show _ = _
        rw [E2.out, hzs, hpp, huu]
      rw [hpp] at hp E1
      rw [huu] at hu E1 E3
      simp only [hzs, hpp]
      clear hzs hpp huu E2
      obtain ⟨b5, o5, k5, b6, o6, k6, r6, rfl, h8, hs5⟩ := read_say HT.out HR.out hp hu
      obtain ⟨b4, o4, k4, b, o, rfl, hs4⟩ := read_next HT.out HR.out hp hu
      obtain ⟨bu, ou, rfl, hcu⟩ := HI.out.at (k := k) (by rw [nsT_len]; exact hlt)
      have cu0 := hcu k (by rw [nsT_len]; exact hlt)
      rw [E3] at cu0
      have od : OwnW W1 wr.drew a c zs := HO.out.grown (grown_drew (grown_refl _ _))
      obtain ⟨a1, c1, W', hrun, ho'⟩ := od.putZ (d := k6) (hs5 wr.drew od.gr).2.2 (by omega)
      have cu1 := HO.out.gr.cell cu0 (by simp)
      have cu2 := ho'.gr.cell cu0 (by simp)
      obtain ⟨c5a, c5b, _⟩ := hs5 wr HO.out.gr
      obtain ⟨c4a, c4b⟩ := hs4 W' ho'.gr
      have y5 := (HX.out wr HO.out.gr).b5
      have y4 := (HX.out W' ho'.gr).b4
      have ip : (p : Int) < (x.N.length : Int) := by omega
      have ip5 : (p : Int) < (x.Y.length : Int) := by rw [HY.out.1]; omega
      have iu : (u : Int) < (I : Int) := by omega
      have F : Hid (∀ W'', W'.grownBy W'' none → FrSt x q0 us W1 (k + 1) (.slice a1 (zs ++ syT x p u).length c1) (.int .i64 ((nxT x p u : Nat) : Int)) W'') := fun W'' g => ⟨a1, c1, by rw [E4.out], by rw [E1.out], by rw [E4.out]; exact ho'.grown g⟩
      generalize (zs ++ syT x p u).length = nn at *
      generalize zs.length = nz at *
      clear hs5 hs4 ho' hcu HO E1 E3 E4 hlen h8 hp hu od cu0
      go_wp2_with fail
      go_region
      all_goals
        go_wp2_with fail
        go_quiet (fail)
        go_wp2_with fail
        go_roundw
        case rel => exact ⟨k + 1, by omega, by go_num, F.out _ (grown_drewN (grown_refl _ _) _)⟩
        case measure => simp [intOf]; omega
    · have ik : ¬ (k : Int) < (us.length : Int) := by omega
      have ek : us.take k = us := List.take_of_length_le (by omega)
      rw [ek] at HO
      simp only [ek]
      have F : Hid (Po (.returned (.tuple #[.slice a (ruT x q0 us).length c, .int .i64 ((goT x q0 us : Nat) : Int)])) wr) := HP.out a c wr HO.out
      clear HO ek HP
      generalize (ruT x q0 us).length = nn at *
      generalize goT x q0 us = p at *
      go_wp2_with fail
      first | exact F.out | (go_ret; exact F.out)

end Go.Proofs.Ytodcmlcpicabaaa
