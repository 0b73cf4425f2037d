/- monoid.seek, of one who looks and wants nothing. -/
import Derived.Test.YtofjboelplknhaaMSeekD
import Derived.Deep.RegionWith
import Derived.Deep.RegionLaw
import Derived.Deep.DeepCutAuto
import Derived.Deep.CutRange
namespace Go.Proofs.Ytofjboelplknhaa
open Go.RowKit
set_option linter.unusedVariables false
attribute [local go_sem ↓] app_fold

/-- A row in a new box. -/
def BoxY (w : World) (y : Nat) (v : Value) (w' : World) : Prop := ∃ bx, v = .pointer (some ⟨bx, 0, none⟩) ∧ w'.heap[bx]? = some (.cells #[.int .i64 ((dg y 0 : Nat) : Int), .int .i64 ((dg y 1 : Nat) : Int), .int .i64 ((dg y 2 : Nat) : Int), .int .i64 ((dg y 3 : Nat) : Int), .int .i64 ((dg y 4 : Nat) : Int)] 83 (0, 0)) ∧ w.grownBy w' none

theorem boxY_a {w w8 : World} {y : Nat} (hg : w.drew.grownBy w8 none) : BoxY w y (.pointer (some ⟨w8.heap.size, 0, none⟩)) (w8.alloc (.cells #[.int .i64 ((dg y 0 : Nat) : Int), .int .i64 ((dg y 1 : Nat) : Int), .int .i64 ((dg y 2 : Nat) : Int), .int .i64 ((dg y 3 : Nat) : Int), .int .i64 ((dg y 4 : Nat) : Int)] 83)) :=
  ⟨_, rfl, heap_alloc_new _ _, grown_trans (grown_trans (grown_drew (grown_refl _ _)) hg) (grown_alloc _ _)⟩
theorem boxY_b {w w8 : World} {y b : Nat} (hk : w8.heap[b]? = some (.cells #[.int .i64 0, .int .i64 0, .int .i64 0, .int .i64 0, .int .i64 0] 83 (0, 0))) (hg : w.grownBy w8 none) (hb : w.heap.size ≤ b) : BoxY w y (.pointer (some ⟨b, 0, none⟩)) (((((w8.setCell ⟨b, 0, none⟩ (.int .i64 ((dg y 0 : Nat) : Int))).setCell ⟨b, 1, none⟩ (.int .i64 ((dg y 1 : Nat) : Int))).setCell ⟨b, 2, none⟩ (.int .i64 ((dg y 2 : Nat) : Int))).setCell ⟨b, 3, none⟩ (.int .i64 ((dg y 3 : Nat) : Int))).setCell ⟨b, 4, none⟩ (.int .i64 ((dg y 4 : Nat) : Int))) := by
  obtain ⟨W', rfl, h1, h2⟩ := store5 hk (.int .i64 ((dg y 0 : Nat) : Int)) (.int .i64 ((dg y 1 : Nat) : Int)) (.int .i64 ((dg y 2 : Nat) : Int)) (.int .i64 ((dg y 3 : Nat) : Int)) (.int .i64 ((dg y 4 : Nat) : Int))
  exact ⟨b, rfl, h2, grown_new hg h1 hb⟩
theorem SkAt.other {w0 : World} {S0 : Nat → Prop} {J : List Nat → World → (Nat → Prop) → Prop} {seen : List Nat} {bd bm : Nat} {v0 v1 v2 v3 : Value} {aS : Option Addr} {cS : Nat} {ss : List Stp} {xs : List Nat} {w : World} (h : SkAt w0 S0 J seen bd bm v0 v1 v2 v3 aS cS ss xs w) {b : Nat} {cs : Array Value} {T : TypeId} {fz : Nat × Nat} (hb : w.heap[b]? = some (.cells cs T fz)) : b ≠ bm := fun e => by
  obtain ⟨_, o, ho, hne⟩ := h.set.block
  rw [e, ho] at hb
  exact hne _ _ _ (Option.some.inj hb)

set_option maxHeartbeats 1600000 in
set_option maxRecDepth 100000 in
theorem seekE_any (S : Int) (l : Nat) (R : List (List Int)) (M : List Int) (a a' : Option Addr) (cc cc' : Nat) (p1 p2 : Value) (w : World) (S0 : Nat → Prop) (J : List Nat → World → (Nat → Prop) → Prop) (v : Nat → Bool) (hv : ∀ c, v c = false)
    (hG : Good ⟨l, S, R, M⟩) (hn : R.length ≤ 5) (hD : ∀ W, Turn S0 w W → DetAt W ⟨l, S, R, M⟩ a a') (hJ : Stable w S0 J) (h0 : J [] w S0) (hS0 : ∀ b, S0 b → b < w.heap.size)
    (hW : ∀ seen c W S', J seen W S' → seen.length ≤ 3125 → (∀ b, S' b → b < W.heap.size) → Turn S0 w W → c < 3125 → (∀ s, s < R.length → dg c s < R.length) → Calls Try.prog 52 #[rowV c, p1, p2] W (LookPost J seen c S' v W)) :
    Calls Try.prog 51 #[detV l S a R.length cc a' M.length cc', .func (.func 52) #[] #[p1, p2]] w (SeekNo (deed (Dfa.nx ⟨l, S, R, M⟩) R.length) l J S0 v w) := by
  have hmm := @run_makeMap Try.prog
  have HI : Hid (∀ W, Calls Try.prog 76 #[] W (Says (rowV idle0) W)) := idle_any
  have hl4 : l ≤ 4 := by have := hG.l4; simp only at this; omega
  have HJ : Hid (Stable w S0 J) := hJ
  have HW : Hid (∀ seen c W S', J seen W S' → seen.length ≤ 3125 → (∀ b, S' b → b < W.heap.size) → Turn S0 w W → c < 3125 → (∀ s, s < R.length → dg c s < R.length) → Calls Try.prog 52 #[rowV c, p1, p2] W (LookPost J seen c S' v W)) := hW
  have HT : Hid (∀ W c x, Turn S0 w W → x < l → (∀ s, s < R.length → dg c s < R.length) → Calls Try.prog 78 #[rowV c, detV l S a R.length cc a' M.length cc', .int .i64 (x : Nat)] W (Says (rowV (thenK (Dfa.nx ⟨l, S, R, M⟩) R.length c x)) W)) := fun W c x ht hx hc => then_any S l R M a a' cc cc' c x W (hD W ht) hG hn hx hc
  have HC : Hid (∀ u : List Nat, (∀ y, y ∈ u → y < l) → deed (Dfa.nx ⟨l, S, R, M⟩) R.length u < 3125 ∧ ∀ s, s < R.length → dg (deed (Dfa.nx ⟨l, S, R, M⟩) R.length u) s < R.length) := fun u hu => by
    obtain ⟨h1, h2, _⟩ := deed_facts hn (fun s a hs ha => hG.nx_lt hs (by simp; exact ha)) u hu
    exact ⟨h1, fun s hs => by rw [(h2 s hs).1]; exact (h2 s hs).2⟩
  have HK : Hid (∀ (u : List Nat) (x : Nat), thenK (Dfa.nx ⟨l, S, R, M⟩) R.length (deed (Dfa.nx ⟨l, S, R, M⟩) R.length u) x = deed (Dfa.nx ⟨l, S, R, M⟩) R.length (u ++ [x])) := fun u x => (deed_snoc u x).symm
  have HK0 : Hid (deed (Dfa.nx ⟨l, S, R, M⟩) R.length [] = idle0) := by show _ = _; rfl
  have H0 : Hid (J [] w S0) := h0
  have HS0 : Hid (∀ b, S0 b → b < w.heap.size) := hS0
  generalize deed (Dfa.nx ⟨l, S, R, M⟩) R.length = κ at *
  generalize thenK (Dfa.nx ⟨l, S, R, M⟩) R.length = τ at *
  obtain ⟨n, hn0⟩ : ∃ n, R.length = n := ⟨_, rfl⟩
  obtain ⟨mn, hmn⟩ : ∃ mn, M.length = mn := ⟨_, rfl⟩
  rw [hn0] at HW HT HC ⊢
  rw [hmn] at HT ⊢
  have HV : Hid (∀ c, v c = false) := hv
  clear hG hn hD hJ h0 hS0 hW hn0 hmn hv
  go_enter Try.func51, Try.ntmps51
  go_wp2_with fail
  refine (HI.out _).mono ?_
  rintro E w2 ⟨rfl, hg2⟩
  have G2 : Hid _ := hg2
  clear hg2
  go_wp2_with fail
  refine (HI.out _).mono ?_
  rintro E w5 ⟨rfl, hg5⟩
  obtain ⟨w6, hrun, hsk⟩ := sk_start (c := idle0) HJ.out H0.out HS0.out G2.out (mkc_lt (fun s h => h)) hg5
  have A6 : Hid (SkAt w S0 J [] w.heap.size (w2.heap.size + 1) (.int .i64 l) (.int .i64 S) (.slice a n cc) (.slice a' mn cc') (some ⟨w2.heap.size, 0, none⟩) 1 [(idle0, -1, 0)] [idle0] w6) := hsk
  clear hsk hg5
  go_wp2_with fail
  obtain ⟨bm, hbm⟩ : ∃ bm, w2.heap.size + 1 = bm := ⟨_, rfl⟩
  rw [hbm] at A6 ⊢
  clear hrun hbm hmm G2
  go_loopw [6, 8] (fun v6 v8 wr => ∃ (k : Nat) (ws : List (List Nat)) (ss : List Stp) (aS : Option Addr) (cS : Nat), v6 = .slice aS ss.length cS ∧ v8 = .int .i64 k ∧ OutB κ l v k ws ss ∧ SkAt w S0 J ((ws.take k).map κ) w.heap.size bm (.int .i64 l) (.int .i64 S) (.slice a n cc) (.slice a' mn cc') aS cS ss (ws.map κ) wr) (fun _ v _ => 3200 - (intOf v).toNat)
  case atStart => exact ⟨0, [[]], [(idle0, -1, 0)], _, _, rfl, rfl, OutB.start _ HK0.out, by simp only [List.take_zero, List.map_nil, List.map_cons, HK0.out]; exact A6.out⟩
  case round =>
    clear A6
    rename World => wo
    obtain ⟨k, ws, ss, aS, cS, rfl, rfl, hB, hA⟩ := hrel
    have hlen : ss.length ≤ ws.length ∧ ws.length ≤ ss.length := by rw [hB.len]; exact ⟨Nat.le_refl _, Nat.le_refl _⟩
    have hle := hB.le
    have hws := words_few hB.nodup (fun u hu => (HC.out u (hB.letters u hu)).1)
    by_cases hlt : k < ws.length
    · have hki : (k : Int) < (ss.length : Int) := by omega
      obtain ⟨s, hs, hsc⟩ := hB.at hlt
      obtain ⟨u, hu⟩ : ∃ u, ws.getD k [] = u := ⟨_, rfl⟩
      have hul : ∀ y, y ∈ u → y < l := by rw [← hu]; exact hB.letters _ (getDL_mem hlt)
      obtain ⟨hc1, hc2⟩ := HC.out u hul
      have hb := hB.row hlt (by rw [HV.out])
      rw [hu] at hsc hb
      obtain ⟨g, rfl, hcell⟩ := hA.reads hs
      obtain ⟨S1, hj1, hj2, hj3, hj4⟩ := hA.ex
      have c0 := hcell 0 _ rfl (by omega)
      have c1 := hcell 1 _ rfl (by omega)
      have c2 := hcell 2 _ rfl (by omega)
      have c3 := hcell 3 _ rfl (by omega)
      have c4 := hcell 4 _ rfl (by omega)
      rw [hsc] at c0 c1 c2 c3 c4
      simp only [Nat.add_zero] at c0
      have HC1 := HW.out _ (κ u) wo S1 hj1 (by rw [List.length_map, List.length_take]; omega) hj2 hA.turn hc1 hc2
      have IB : Hid (InB κ l v k 0 u ws ss) := hb
      have HCall : Hid (Calls Try.prog 52 #[rowV (κ u), p1, p2] wo (LookPost J ((ws.take k).map κ) (κ u) S1 v wo)) := HC1
      have HA : Hid (SkAt w S0 J ((ws.take k).map κ) w.heap.size bm (.int .i64 l) (.int .i64 S) (.slice a n cc) (.slice a' mn cc') (some ⟨g, 0, none⟩) cS ss (ws.map κ) wo) := hA
      have HJ3 : Hid (∀ b, S1 b → S0 b ∨ w.heap.size ≤ b) := hj3
      have HJ4 : Hid (∀ b, S1 b → (Value.slice (some ⟨g, 0, none⟩) ss.length cS).ownBlock ≠ some b ∧ b ≠ bm ∧ b ≠ w.heap.size) := hj4
      have hk3 : k ≤ 3125 := by omega
      clear hA hB hb hcell hj1 hj2 hj3 hj4 HC1 hs hsc
      go_wp2_with fail
      refine HCall.out.mono ?_
      rintro E w7 ⟨hE, S2, hj5, ht7, hs7, hl7⟩
      rw [HV.out] at hE
      subst hE
      have hA7 := HA.out.looked hj5 ht7 hs7 hl7 HJ3.out HJ4.out
      have A7 : Hid (SkAt w S0 J (((ws.take k).map κ) ++ [κ u]) w.heap.size bm (.int .i64 l) (.int .i64 S) (.slice a n cc) (.slice a' mn cc') (some ⟨g, 0, none⟩) cS ss (ws.map κ) w7) := hA7
      obtain ⟨d0, d1, d2, d3⟩ := hA7.cells
      clear hj5 ht7 hs7 hl7 hA7 HCall HA HJ3 HJ4 c0 c1 c2 c3 c4
      go_wp2_with fail
      clear d0 d1 d2 d3
      go_loopw [6, 38] (fun v6 v38 wr => ∃ (x : Nat) (zs : List (List Nat)) (ts : List Stp) (aT : Option Addr) (cT : Nat), v6 = .slice aT ts.length cT ∧ v38 = .int .i64 x ∧ x ≤ l ∧ InB κ l v k x u zs ts ∧ SkAt w S0 J (((ws.take k).map κ) ++ [κ u]) w.heap.size bm (.int .i64 l) (.int .i64 S) (.slice a n cc) (.slice a' mn cc') aT cT ts (zs.map κ) wr) (fun _ v _ => l - (intOf v).toNat)
      case atStart => exact ⟨0, ws, ss, _, _, rfl, rfl, by omega, IB.out, A7.out⟩
      case round =>
        clear A7 
        obtain ⟨x, zs, ts, aT, cT, rfl, rfl, hx, hI, hA⟩ := hrel
        obtain ⟨d0, d1, d2, d3⟩ := hA.cells
        have hzs := words_few hI.nodup (fun z hz => (HC.out z ((hI.letters hx).2 z hz)).1)
        have htl : ts.length ≤ zs.length ∧ zs.length ≤ ts.length := by rw [hI.par.1]; exact ⟨Nat.le_refl _, Nat.le_refl _⟩
        by_cases hxl : x < l
        · have hxi : (x : Int) < (l : Int) := by omega
          obtain ⟨hkz, hzu, s, hs, hsc⟩ := hI.at
          have hki2 : (k : Int) < (ts.length : Int) := by omega
          obtain ⟨g2, rfl, hcell⟩ := hA.reads hs
          have c0 := hcell 0 _ rfl (by omega)
          have c1 := hcell 1 _ rfl (by omega)
          have c2 := hcell 2 _ rfl (by omega)
          have c3 := hcell 3 _ rfl (by omega)
          have c4 := hcell 4 _ rfl (by omega)
          rw [hsc] at c0 c1 c2 c3 c4
          simp only [Nat.add_zero] at c0
          have c0' := fun ob => (grown_alloc wr ob).cell c0 (by simp)
          have c1' := fun ob => (grown_alloc wr ob).cell c1 (by simp)
          have c2' := fun ob => (grown_alloc wr ob).cell c2 (by simp)
          have c3' := fun ob => (grown_alloc wr ob).cell c3 (by simp)
          have c4' := fun ob => (grown_alloc wr ob).cell c4 (by simp)
          have d0' := fun ob => (grown_alloc wr ob).cell d0 (by simp)
          have d1' := fun ob => (grown_alloc wr ob).cell d1 (by simp)
          have d2' := fun ob => (grown_alloc wr ob).cell d2 (by simp)
          have d3' := fun ob => (grown_alloc wr ob).cell d3 (by simp)
          have hul2 : ∀ y, y ∈ u ++ [x] → y < l := fun y hy => by
            rcases List.mem_append.1 hy with hy | hy
            · exact hul y hy
            · simp only [List.mem_singleton] at hy; omega
          obtain ⟨hy1, hy2⟩ := HC.out (u ++ [x]) hul2
          have HY : Hid (τ (κ u) x = κ (u ++ [x])) := HK.out u x
          obtain ⟨y, hy⟩ : ∃ y, κ (u ++ [x]) = y := ⟨_, rfl⟩
          rw [hy] at hy1
          have HYe : Hid (κ (u ++ [x]) = y) := hy
          have HT1 : Hid (∀ W, Turn S0 w W → Calls Try.prog 78 #[rowV (κ u), detV l S a n cc a' mn cc', .int .i64 (x : Nat)] W (Says (rowV y) W)) := fun W ht => by
            have h1 := HT.out W (κ u) x ht hxl hc2
            rw [HY.out, hy] at h1
            exact h1
          have T1 : Hid (Turn S0 w wr.drew) := hA.turn.grow (grown_drew (grown_refl _ _))
          have T2 : Hid (Turn S0 w (wr.alloc (.cells #[.int .i64 0, .int .i64 0, .int .i64 0, .int .i64 0, .int .i64 0] 83)).drew) := hA.turn.grow (grown_drew (grown_alloc _ _))
          have HI2 : Hid (InB κ l v k x u zs ts) := hI
          have HA2 : Hid (SkAt w S0 J (((ws.take k).map κ) ++ [κ u]) w.heap.size bm (.int .i64 l) (.int .i64 S) (.slice a n cc) (.slice a' mn cc') (some ⟨g2, 0, none⟩) cT ts (zs.map κ) wr) := hA
          have Z1 : Hid (∀ W, (wr.alloc (.cells #[.int .i64 0, .int .i64 0, .int .i64 0, .int .i64 0, .int .i64 0] 83)).drew.grownBy W none → W.heap[wr.heap.size]? = some (.cells #[.int .i64 0, .int .i64 0, .int .i64 0, .int .i64 0, .int .i64 0] 83 (0, 0)) ∧ wr.grownBy W none) := fun W hW => ⟨(hW.block _ (by show _ < (wr.alloc _).heap.size; simp) (by simp)).trans (heap_alloc_new wr _), grown_trans (grown_drew (grown_alloc _ _)) hW⟩
          clear hA hI hcell hs hsc hy hul2 hy2 hzu
          go_wp2_with fail
          go_cut [10] (fun v10 wc => BoxY wr y v10 wc)
          case first =>
            go_region_with (go_at_call 78; refine (HT1.out _ (by first | exact T1.out | exact T2.out)).mono ?_; rintro E w8 ⟨rfl, hg8⟩; first | (have z8 := Z1.out w8 hg8; have zk8 := z8.1; have z0 := (block_cells5 zk8).1; have z1 := (block_cells5 zk8).2.1; have z2 := (block_cells5 zk8).2.2.1; have z3 := (block_cells5 zk8).2.2.2.1; have z4 := (block_cells5 zk8).2.2.2.2.1; have zf := (block_cells5 zk8).2.2.2.2.2; have y0 := zf 0; have y1 := zf 1; have y2 := zf 2; have y3 := zf 3; have y4 := zf 4) | skip)
            all_goals
              go_wp2_with fail
              go_meet
              case rel => first | (with_reducible exact boxY_b z8.1 z8.2 (Nat.le_refl _)) | (with_reducible exact boxY_a hg8)
          case rest =>
            clear c0 c1 c2 c3 c4 c0' c1' c2' c3' c4' d0 d1 d2 d3 d0' d1' d2' d3' T1 T2 Z1 HT1
            obtain ⟨bx, rfl, hkx, hgx⟩ := hcut
            have hA8 := HA2.out.grow HJ.out hgx
            have hbx : bx ≠ bm := hA8.other hkx
            obtain ⟨q0, q1, q2, q3, q4, _⟩ := block_cells5 hkx
            have hlook := hA8.set.look hy1
            have A9 := hA8.grow HJ.out (grown_alloc wc (.cells #[] 116))
            have hkx9 := ((grown_alloc wc (.cells #[] 116)).block _ (Array.getElem?_eq_some_iff.1 hkx).1 (by simp)).trans hkx
            have HA9 : Hid (SkAt w S0 J (((ws.take k).map κ) ++ [κ u]) w.heap.size bm (.int .i64 l) (.int .i64 S) (.slice a n cc) (.slice a' mn cc') (some ⟨g2, 0, none⟩) cT ts (zs.map κ) (wc.alloc (.cells #[] 116))) := A9
            have hm9 := A9.set.look hy1
            by_cases hm : y ∈ zs.map κ
            · rw [decide_eq_true hm] at hlook
              have HI3 : Hid (InB κ l v k (x + 1) u zs ts) := HI2.out.old (by rw [HYe.out]; exact hm)
              clear hA8 A9 hkx hkx9 hgx hm9 HI2 HA2 hm
              go_wp2_with fail
              go_roundw
              case rel => exact ⟨x + 1, zs, ts, _, _, rfl, by go_num, by omega, HI3.out, HA9.out⟩
              case measure => simp [intOf]; omega
            · rw [decide_eq_false hm] at hlook
              have HI3 : Hid (InB κ l v k (x + 1) u (zs ++ [u ++ [x]]) (ts ++ [(y, (k : Int), x)])) := by
                have h1 := HI2.out.new (by rw [HYe.out]; exact hm)
                rw [HYe.out] at h1
                exact h1
              obtain ⟨w10, hrun10, hA10, hg10⟩ := A9.know HJ.out hy1 (by rw [List.length_map]; omega)
              have hkx10 := (hg10.block _ (Array.getElem?_eq_some_iff.1 hkx9).1 (by simpa using hbx)).trans hkx9
              obtain ⟨r0, r1, r2, r3, r4, _⟩ := block_cells5 hkx9
              obtain ⟨t0, t1, t2, t3, t4, _⟩ := block_cells5 hkx10
              obtain ⟨g11, c11, w11, hrun11, hA11⟩ := hA10.push (y, (k : Int), x) HJ.out rfl (by omega)
              have A11 : Hid (SkAt w S0 J (((ws.take k).map κ) ++ [κ u]) w.heap.size bm (.int .i64 l) (.int .i64 S) (.slice a n cc) (.slice a' mn cc') (some ⟨g11, 0, none⟩) c11 (ts ++ [(y, (k : Int), x)]) ((zs ++ [u ++ [x]]).map κ) w11) := by
                show SkAt _ _ _ _ _ _ _ _ _ _ _ _ _ _ _
                rw [List.map_append, List.map_cons, List.map_nil, HYe.out]
                exact hA11
              simp only at hrun11
              have HL : Hid (ts.length + 1 = (ts ++ [(y, (k : Int), x)]).length) := by show _ = _; simp
              clear hA8 A9 hkx hkx9 hkx10 hgx hm9 HI2 HA2 hm hA10 hA11 hg10
              go_wp2_with fail
              go_roundw
              case rel => exact ⟨x + 1, zs ++ [u ++ [x]], ts ++ [(y, (k : Int), x)], _, _, by rw [HL.out], by go_num, by omega, HI3.out, A11.out⟩
              case measure => simp [intOf]; omega
        · have hxi : ¬ (x : Int) < (l : Int) := by omega
          have hxe : x = l := by omega
          subst hxe
          have HO : Hid (OutB κ x v (k + 1) zs ts) := hI.done
          have HS2 : Hid (((ws.take k).map κ) ++ [κ u] = (zs.take (k + 1)).map κ) := by
            show _ = _
            obtain ⟨hkz, hzu, _⟩ := hI.at
            obtain ⟨ys, e1⟩ := hI.pre
            have e2 : bfsW κ x k = ws := IB.out.is
            have e3 : zs.take k = ws.take k := by rw [e1, e2, List.take_append_of_le_length (by omega)]
            have e4 : zs[k]? = some u := by rw [List.getElem?_eq_getElem hkz]; rw [← hzu]; simp [List.getD, hkz]
            rw [List.take_add_one, e4, List.map_append, e3]
            rfl
          have A12 : Hid (SkAt w S0 J ((zs.take (k + 1)).map κ) w.heap.size bm (.int .i64 x) (.int .i64 S) (.slice a n cc) (.slice a' mn cc') aT cT ts (zs.map κ) wr) := by
            show SkAt _ _ _ _ _ _ _ _ _ _ _ _ _ _ _
            rw [← HS2.out]
            exact hA
          clear hA hI d0 d1 d2 d3
          go_wp2_with fail
          go_roundw
          case rel => exact ⟨k + 1, zs, ts, _, _, rfl, by go_num, HO.out, A12.out⟩
          case measure => simp [intOf]; omega
    · have hki : ¬ (k : Int) < (ss.length : Int) := by omega
      have hke : k = ws.length := by omega
      have Fin : Hid (SeekNo κ l J S0 v w (.returned (.tuple #[.slice none 0 0, .bool false])) wo) := by
        obtain ⟨S1, hj1, hj2, hj3, _⟩ := hA.ex
        refine ⟨rfl, k, hB.fin hke, fun u _ => HV.out _, ⟨S1, ?_, hj3, hj2⟩, hA.turn⟩
        rw [hB.is]
        rw [List.take_of_length_le (by omega)] at hj1
        exact hj1
      clear hA hB hke
      go_wp2_with fail
      exact bodyPost_ret (v := .tuple #[.slice none 0 0, .bool false]) (by simp [results, Try.results51, go_sem]) rfl Fin.out

end Go.Proofs.Ytofjboelplknhaa
