/- monoid.wordTo: the word that leads to a step. -/
/- monoid.seek, of one who looks and may want a row. -/
/- monoid.seek, of one who looks and may want a row. -/
import Derived.Test.YtmbbkjpfmmnabaaDoorMSks
import Derived.Test.YtmbbkjpfmmnabaaDoorRLeast
import Derived.Deep.RegionWith
import Derived.Deep.RegionLaw
import Derived.Deep.DeepCutAuto
import Derived.Deep.CutRange
namespace Go.Proofs.YtmbbkjpfmmnabaaDoor
open Go.RowKit
set_option linter.unusedVariables false
attribute [local go_sem ↓] app_fold

def WordToPost (u : List Nat) (w : World) (E : Ending) (w' : World) : Prop :=
  ∃ (az : Option Addr) (cz : Nat), E = .returned (.slice az u.length cz) ∧ Owns w.heap.size w' [(3, .slice az u.length cz, vals (natInts u))] ∧ w.grownBy w' none
/-- The steps lie there. -/
def StpAt (w : World) (g : Nat) (ss : List Stp) : Prop := ∀ i s, ss[i]? = some s → w.cell? ⟨g, i * 7 + 5, none⟩ = some (.int .i64 s.2.1) ∧ w.cell? ⟨g, i * 7 + 6, none⟩ = some (.int .i64 ((s.2.2 : Nat) : Int))
theorem StpAt.grown {w w' : World} {g : Nat} {ss : List Stp} (h : StpAt w g ss) (hg : w.grownBy w' none) : StpAt w' g ss := fun i s hs => ⟨hg.cell (h i s hs).1 (by simp), hg.cell (h i s hs).2 (by simp)⟩

/-- One number is put behind, out of another block. -/
theorem push_at {B b : Nat} {w : World} {its : List Item} {aF : Option Addr} {cF nF : Nat} {F : List Int} {x : Int} (h : Owns B w ((3, .slice aF nF cF, vals F) :: its)) (hB : B ≤ w.heap.size) (hc : w.cell? ⟨b, 0, none⟩ = some (.int .i64 x)) (hl : F.length ≤ 100000000) :
    ∃ g cap w', (AppS #[22, 22] 22 #[.slice aF nF cF, .slice (some ⟨b, 0, none⟩) 1 1]).run Tryd.prog w = .ok (.slice (some ⟨g, 0, none⟩) (nF + 1) cap) w' ∧
      Owns B w' ((3, .slice (some ⟨g, 0, none⟩) (nF + 1) cap, vals (F ++ [x])) :: its) ∧ Keeps B w w' := by
  have hn := h.len
  rw [vals_len] at hn
  subst hn
  obtain ⟨i0, hio, hz0, hz1, hz2⟩ := info_parts Tryd.info3i
  have hr := h.row
  rw [vals_len] at hr
  obtain ⟨g', cap, w5, hrun, ho5, hg5, hat5, hlt5⟩ := run_append_lies (P := Tryd.prog) w 22 22 B 3 i0 (.int .i64 0) 1 8 Tryd.underlying22 hio hz0 hz1 hz2 rfl (by decide) (.slice aF F.length cF) F.length (vals F) hr ⟨b, 0, none⟩ 1 1 [.int .i64 x] rfl (fun j u hu => by
    cases j with
    | zero => simp only [List.getElem?_cons_zero, Option.some.injEq] at hu; subst hu; rw [addr_add]; exact hc
    | succ j => simp at hu) (by intro u hu; simp at hu; subst hu; rfl) (by omega) (by unfold maxLen; omega) (by omega) hB _ rfl
  refine ⟨g', cap, w5, hrun, ?_, Keeps.first h hg5⟩
  have h2 := h.append ho5 (by simp) hg5 hat5 rfl
  rw [vals_snoc] at h2
  exact h2

set_option maxHeartbeats 1600000 in
set_option maxRecDepth 100000 in
theorem wordToM_any (ws : List (List Nat)) (ss : List Stp) (g cS : Nat) (hp : ParW ws ss) (hl : ss.length ≤ 4000) : ∀ (i : Nat), i < ws.length → ∀ (w : World), StpAt w g ss → Calls Tryd.prog 76 #[.slice (some ⟨g, 0, none⟩) ss.length cS, .int .i64 (i : Nat)] w (WordToPost (ws.getD i []) w) := by
  intro i
  induction i using Nat.strongRecOn with
  | ind i ih =>
    intro hi w hS
    obtain ⟨s, hs, hcase⟩ := hp.2 i hi
    obtain ⟨c5, c6⟩ := hS i s hs
    have hil : i < ss.length := (List.getElem?_eq_some_iff.1 hs).1
    have hii : (i : Int) < (ss.length : Int) := by omega
    rcases hcase with ⟨hu, hs1⟩ | ⟨p, hpi, hs1, hu⟩
    · rw [hu]
      rw [hs1] at c5
      clear ih hp hS hs hu hs1 c6
      go_enter Tryd.func76, Tryd.ntmps76
      go_wp2_with fail
      go_ret
      exact ⟨none, 0, rfl, (Owns.no _ _).empty 3, grown_refl _ _⟩
    · rw [hu]
      rw [hs1] at c5
      have HIH : Hid (∀ W, w.grownBy W none → Calls Tryd.prog 76 #[.slice (some ⟨g, 0, none⟩) ss.length cS, .int .i64 (p : Nat)] W (WordToPost (ws.getD p []) W)) := fun W hW => ih p hpi (by omega) W (hS.grown hW)
      have hlen : (ws.getD p []).length ≤ 4000 := by
        have := parW_long hp p (by omega)
        omega
      generalize ws.getD p [] = u at *
      obtain ⟨x, hx⟩ : ∃ x, s.2.2 = x := ⟨_, rfl⟩
      rw [hx] at c6 ⊢
      have c5' := fun ob => (grown_alloc w ob).cell c5 (by simp)
      have c6' := fun ob => (grown_alloc w ob).cell c6 (by simp)
      have GA : Hid (w.grownBy w.drew none) := grown_drew (grown_refl _ _)
      have GB : Hid (w.grownBy (w.alloc (.cells #[.int .i64 ((x : Nat) : Int)] 3)).drew none) := grown_drew (grown_alloc _ _)
      have PA : Hid (∀ az cz w3, Owns w.drew.heap.size w3 [(3, .slice az u.length cz, vals (natInts u))] → w.drew.grownBy w3 none → w3.cell? ⟨g, i * 7 + 6, none⟩ = some (.int .i64 ((x : Nat) : Int)) ∧ ∃ g' c' w5, (AppS #[22, 22] 22 #[.slice az u.length cz, .slice (some ⟨w3.heap.size, 0, none⟩) 1 1]).run Tryd.prog (w3.alloc (.cells #[.int .i64 ((x : Nat) : Int)] 3)) = .ok (.slice (some ⟨g', 0, none⟩) (u.length + 1) c') w5 ∧ WordToPost (u ++ [x]) w (.returned (.slice (some ⟨g', 0, none⟩) (u.length + 1) c')) w5) := fun az cz w3 ho hg => by
        obtain ⟨g', c', w5, hr, ho5, hk5⟩ := push_int ho hg.size rfl (by rw [List.length_map]; omega) ((x : Nat) : Int)
        have e1 : natInts u ++ [((x : Nat) : Int)] = natInts (u ++ [x]) := by simp [natInts]
        rw [e1] at ho5
        exact ⟨hg.cell c6 (by simp), g', c', w5, hr, ⟨some ⟨g', 0, none⟩, c', by rw [List.length_append, List.length_singleton], by rw [List.length_append, List.length_singleton]; exact ho5, hk5 w (Nat.le_refl _) (grown_trans GA.out hg)⟩⟩
      have PB : Hid (∀ az cz w3, Owns (w.alloc (.cells #[.int .i64 ((x : Nat) : Int)] 3)).drew.heap.size w3 [(3, .slice az u.length cz, vals (natInts u))] → (w.alloc (.cells #[.int .i64 ((x : Nat) : Int)] 3)).drew.grownBy w3 none → ∃ g' c' w5, (AppS #[22, 22] 22 #[.slice az u.length cz, .slice (some ⟨w.heap.size, 0, none⟩) 1 1]).run Tryd.prog w3 = .ok (.slice (some ⟨g', 0, none⟩) (u.length + 1) c') w5 ∧ WordToPost (u ++ [x]) w (.returned (.slice (some ⟨g', 0, none⟩) (u.length + 1) c')) w5) := fun az cz w3 ho hg => by
        have hc : w3.cell? ⟨w.heap.size, 0, none⟩ = some (.int .i64 ((x : Nat) : Int)) := by
          have h1 := (hg.block w.heap.size (by show _ < (w.alloc _).heap.size; simp) (by simp)).trans (heap_alloc_new w (.cells #[.int .i64 ((x : Nat) : Int)] 3))
          rw [cell_of_row _ _ _ _ _ (0, 0) h1]; rfl
        obtain ⟨g', c', w5, hr, ho5, hk5⟩ := push_at (b := w.heap.size) ho hg.size hc (by rw [List.length_map]; omega)
        have e1 : natInts u ++ [((x : Nat) : Int)] = natInts (u ++ [x]) := by simp [natInts]
        rw [e1] at ho5
        have hs : w.heap.size ≤ (w.alloc (.cells #[.int .i64 ((x : Nat) : Int)] 3)).drew.heap.size := by show _ ≤ (w.alloc _).heap.size; simp
        exact ⟨g', c', w5, hr, ⟨some ⟨g', 0, none⟩, c', by rw [List.length_append, List.length_singleton], by rw [List.length_append, List.length_singleton]; exact ho5.base hs, hk5 w hs (grown_trans GB.out hg)⟩⟩
      clear ih hp hS hs hu hs1 hx
      go_enter Tryd.func76, Tryd.ntmps76
      go_wp2_with fail
      go_region_with (go_at_call 76; refine (HIH.out _ (by first | exact GA.out | exact GB.out)).mono ?_; rintro E w3 ⟨az, cz, rfl, ho3, hg3⟩; first | (have z3 := PB.out az cz w3 ho3 hg3; obtain ⟨g', c', w5, hrun5, fin⟩ := z3; have Fin : Hid _ := fin; clear fin ho3 hg3) | (have z3 := PA.out az cz w3 ho3 hg3; obtain ⟨y6, g', c', w5, hrun5, fin⟩ := z3; have Fin : Hid _ := fin; clear fin ho3 hg3))
      all_goals
        go_wp2_with fail
        exact bodyPost_ret (v := .slice (some ⟨g', 0, none⟩) (u.length + 1) c') (by simp [results, Tryd.results76, go_sem]) rfl Fin.out

end Go.Proofs.YtmbbkjpfmmnabaaDoor

namespace Go.Proofs.YtmbbkjpfmmnabaaDoor
open Go.RowKit
set_option linter.unusedVariables false
attribute [local go_sem ↓] app_fold

set_option maxHeartbeats 1600000 in
set_option maxRecDepth 100000 in
theorem seekA_any (S : Int) (l : Nat) (R : List (List Int)) (M : List Int) (a a' : Option Addr) (cc cc' : Nat) (p1 p2 p3 p4 p5 : Value) (w : World) (S0 : Nat → Prop) (J : List Nat → World → (Nat → Prop) → Prop) (v : Nat → Bool)
    (hG : Good ⟨l, S, R, M⟩) (hn : R.length ≤ 5) (hD : ∀ W, Turn S0 w W → DetAt W ⟨l, S, R, M⟩ a a') (hJ : Stable w S0 J) (h0 : J [] w S0) (hS0 : ∀ b, S0 b → b < w.heap.size)
    (hW : ∀ seen c W S', J seen W S' → seen.length ≤ 3125 → (∀ b, S' b → b < W.heap.size) → Turn S0 w W → c < 3125 → (∀ s, s < R.length → dg c s < R.length) → Calls Tryd.prog 47 #[rowV c, p1, p2, p3, p4, p5] W (LookPost J seen c S' v W)) :
    Calls Tryd.prog 42 #[detV l S a R.length cc a' M.length cc', .func (.func 47) #[] #[p1, p2, p3, p4, p5]] w (SeekPost (deed (Dfa.nx ⟨l, S, R, M⟩) R.length) l J S0 v w) := by
  have hmm := @run_makeMap Tryd.prog
  have HI : Hid (∀ W, Calls Tryd.prog 75 #[] W (Says (rowV idle0) W)) := idle_any
  have hl4 : l ≤ 4 := by have := hG.l4; simp only at this; omega
  have HJ : Hid (Stable w S0 J) := hJ
  have HW : Hid (∀ seen c W S', J seen W S' → seen.length ≤ 3125 → (∀ b, S' b → b < W.heap.size) → Turn S0 w W → c < 3125 → (∀ s, s < R.length → dg c s < R.length) → Calls Tryd.prog 47 #[rowV c, p1, p2, p3, p4, p5] W (LookPost J seen c S' v W)) := hW
  have HT : Hid (∀ W c x, Turn S0 w W → x < l → (∀ s, s < R.length → dg c s < R.length) → Calls Tryd.prog 77 #[rowV c, detV l S a R.length cc a' M.length cc', .int .i64 (x : Nat)] W (Says (rowV (thenK (Dfa.nx ⟨l, S, R, M⟩) R.length c x)) W)) := fun W c x ht hx hc => then_any S l R M a a' cc cc' c x W (hD W ht) hG hn hx hc
  have HC : Hid (∀ u : List Nat, (∀ y, y ∈ u → y < l) → deed (Dfa.nx ⟨l, S, R, M⟩) R.length u < 3125 ∧ ∀ s, s < R.length → dg (deed (Dfa.nx ⟨l, S, R, M⟩) R.length u) s < R.length) := fun u hu => by
    obtain ⟨h1, h2, _⟩ := deed_facts hn (fun s a hs ha => hG.nx_lt hs (by simp; exact ha)) u hu
    exact ⟨h1, fun s hs => by rw [(h2 s hs).1]; exact (h2 s hs).2⟩
  have HK : Hid (∀ (u : List Nat) (x : Nat), thenK (Dfa.nx ⟨l, S, R, M⟩) R.length (deed (Dfa.nx ⟨l, S, R, M⟩) R.length u) x = deed (Dfa.nx ⟨l, S, R, M⟩) R.length (u ++ [x])) := fun u x => (deed_snoc u x).symm
  have HK0 : Hid (deed (Dfa.nx ⟨l, S, R, M⟩) R.length [] = idle0) := by show _ = _; rfl
  have H0 : Hid (J [] w S0) := h0
  have HS0 : Hid (∀ b, S0 b → b < w.heap.size) := hS0
  generalize deed (Dfa.nx ⟨l, S, R, M⟩) R.length = κ at *
  generalize thenK (Dfa.nx ⟨l, S, R, M⟩) R.length = τ at *
  obtain ⟨n, hn0⟩ : ∃ n, R.length = n := ⟨_, rfl⟩
  obtain ⟨mn, hmn⟩ : ∃ mn, M.length = mn := ⟨_, rfl⟩
  rw [hn0] at HW HT HC ⊢
  rw [hmn] at HT ⊢
  clear hG hn hD hJ h0 hS0 hW hn0 hmn
  go_enter Tryd.func42, Tryd.ntmps42
  go_wp2_with fail
  refine (HI.out _).mono ?_
  rintro E w2 ⟨rfl, hg2⟩
  have G2 : Hid _ := hg2
  clear hg2
  go_wp2_with fail
  refine (HI.out _).mono ?_
  rintro E w5 ⟨rfl, hg5⟩
  obtain ⟨w6, hrun, hsk⟩ := sk_start (c := idle0) HJ.out H0.out HS0.out G2.out (mkc_lt (fun s h => h)) hg5
  have A6 : Hid (SkAt w S0 J [] w.heap.size (w2.heap.size + 1) (.int .i64 l) (.int .i64 S) (.slice a n cc) (.slice a' mn cc') (some ⟨w2.heap.size, 0, none⟩) 1 [(idle0, -1, 0)] [idle0] w6) := hsk
  clear hsk hg5
  go_wp2_with fail
  obtain ⟨bm, hbm⟩ : ∃ bm, w2.heap.size + 1 = bm := ⟨_, rfl⟩
  rw [hbm] at A6 ⊢
  clear hrun hbm hmm G2
  go_loopw [6, 8] (fun v6 v8 wr => ∃ (k : Nat) (ws : List (List Nat)) (ss : List Stp) (aS : Option Addr) (cS : Nat), v6 = .slice aS ss.length cS ∧ v8 = .int .i64 k ∧ OutB κ l v k ws ss ∧ SkAt w S0 J ((ws.take k).map κ) w.heap.size bm (.int .i64 l) (.int .i64 S) (.slice a n cc) (.slice a' mn cc') aS cS ss (ws.map κ) wr) (fun _ v _ => 3200 - (intOf v).toNat)
  case atStart => exact ⟨0, [[]], [(idle0, -1, 0)], _, _, rfl, rfl, OutB.start _ HK0.out, by simp only [List.take_zero, List.map_nil, List.map_cons, HK0.out]; exact A6.out⟩
  case round =>
    clear A6
    rename World => wo
    obtain ⟨k, ws, ss, aS, cS, rfl, rfl, hB, hA⟩ := hrel
    have hlen : ss.length ≤ ws.length ∧ ws.length ≤ ss.length := by rw [hB.len]; exact ⟨Nat.le_refl _, Nat.le_refl _⟩
    have hle := hB.le
    have hws := words_few hB.nodup (fun u hu => (HC.out u (hB.letters u hu)).1)
    by_cases hlt : k < ws.length
    · have hki : (k : Int) < (ss.length : Int) := by omega
      obtain ⟨s, hs, hsc⟩ := hB.at hlt
      obtain ⟨u, hu⟩ : ∃ u, ws.getD k [] = u := ⟨_, rfl⟩
      have hul : ∀ y, y ∈ u → y < l := by rw [← hu]; exact hB.letters _ (getDL_mem hlt)
      obtain ⟨hc1, hc2⟩ := HC.out u hul
      rw [hu] at hsc
      obtain ⟨g, rfl, hcell⟩ := hA.reads hs
      obtain ⟨S1, hj1, hj2, hj3, hj4⟩ := hA.ex
      have c0 := hcell 0 _ rfl (by omega)
      have c1 := hcell 1 _ rfl (by omega)
      have c2 := hcell 2 _ rfl (by omega)
      have c3 := hcell 3 _ rfl (by omega)
      have c4 := hcell 4 _ rfl (by omega)
      rw [hsc] at c0 c1 c2 c3 c4
      simp only [Nat.add_zero] at c0
      have HC1 := HW.out _ (κ u) wo S1 hj1 (by rw [List.length_map, List.length_take]; omega) hj2 hA.turn hc1 hc2
      have HBo : Hid (OutB κ l v k ws ss) := hB
      have HUk : Hid (ws.getD k [] = u) := hu
      have HCall : Hid (Calls Tryd.prog 47 #[rowV (κ u), p1, p2, p3, p4, p5] wo (LookPost J ((ws.take k).map κ) (κ u) S1 v wo)) := HC1
      have HA : Hid (SkAt w S0 J ((ws.take k).map κ) w.heap.size bm (.int .i64 l) (.int .i64 S) (.slice a n cc) (.slice a' mn cc') (some ⟨g, 0, none⟩) cS ss (ws.map κ) wo) := hA
      have HJ3 : Hid (∀ b, S1 b → S0 b ∨ w.heap.size ≤ b) := hj3
      have HJ4 : Hid (∀ b, S1 b → (Value.slice (some ⟨g, 0, none⟩) ss.length cS).ownBlock ≠ some b ∧ b ≠ bm ∧ b ≠ w.heap.size) := hj4
      have hk3 : k ≤ 3125 := by omega
      clear hA hB hu hcell hj1 hj2 hj3 hj4 HC1 hs hsc
      go_wp2_with fail
      refine HCall.out.mono ?_
      rintro E w7 ⟨hE, S2, hj5, ht7, hs7, hl7⟩
      have hA7 := HA.out.looked hj5 ht7 hs7 hl7 HJ3.out HJ4.out
      have A7 : Hid (SkAt w S0 J (((ws.take k).map κ) ++ [κ u]) w.heap.size bm (.int .i64 l) (.int .i64 S) (.slice a n cc) (.slice a' mn cc') (some ⟨g, 0, none⟩) cS ss (ws.map κ) w7) := hA7
      cases hvu : v (κ u) with
      | true =>
        rw [hvu] at hE
        subst hE
        have St7 : StpAt w7 g ss := fun i s' hs' => by
          obtain ⟨g', eg, hc'⟩ := hA7.reads hs'
          cases eg
          exact ⟨hc' 5 _ rfl (by omega), hc' 6 _ rfl (by omega)⟩
        have HWt : Hid (Calls Tryd.prog 76 #[.slice (some ⟨g, 0, none⟩) ss.length cS, .int .i64 (k : Nat)] w7 (WordToPost u w7)) := by
          have h1 := wordToM_any ws ss g cS HBo.out.par (by omega) k hlt w7 St7
          rw [HUk.out] at h1
          exact h1
        clear hj5 ht7 hs7 hl7 hA7 HCall HA HJ3 HJ4 c0 c1 c2 c3 c4 St7
        go_wp2_with fail
        refine HWt.out.mono ?_
        rintro E w8 ⟨az, cz, rfl, ho8, hg8⟩
        have Fin : Hid (SeekPost κ l J S0 v w (.returned (.tuple #[.slice az u.length cz, .bool true])) w8) := by
          have e1 : bfsW κ l k = ws := HBo.out.is
          have hA8 := A7.out.grow HJ.out hg8
          obtain ⟨S8, k1, k2, k3, _⟩ := hA8.ex
          have e2 : ((ws.take k).map κ) ++ [κ u] = (ws.take (k + 1)).map κ := by
            have e3 : ws[k]? = some u := by rw [List.getElem?_eq_getElem hlt, ← HUk.out]; simp [List.getD, hlt]
            rw [List.take_add_one, e3, List.map_append]
            rfl
          rw [e2] at k1
          refine .inr ⟨k, az, cz, by rw [e1]; exact hlt, HBo.out.go, fun j hj => by rw [e1]; exact HBo.out.no j hj, by rw [e1, HUk.out]; exact hvu, by rw [e1, HUk.out], by rw [e1, HUk.out]; exact ho8.ints.2, ⟨S8, by rw [e1]; exact k1, k3, k2⟩, hA8.turn⟩
        clear ho8 hg8 A7 HWt
        generalize u.length = ul at *
        go_wp2_with fail
        exact bodyPost_ret (v := .tuple #[.slice az ul cz, .bool true]) (by simp [results, Tryd.results42, go_sem]) rfl Fin.out
      | false =>
        rw [hvu] at hE
        subst hE
        have IB : Hid (InB κ l v k 0 u ws ss) := by
          have h1 := HBo.out.row hlt (by rw [HUk.out]; exact hvu)
          rw [HUk.out] at h1
          exact h1
        clear HBo HUk hvu
        obtain ⟨d0, d1, d2, d3⟩ := hA7.cells
        clear hj5 ht7 hs7 hl7 hA7 HCall HA HJ3 HJ4 c0 c1 c2 c3 c4
        go_wp2_with fail
        clear d0 d1 d2 d3
        go_loopw [6, 38] (fun v6 v38 wr => ∃ (x : Nat) (zs : List (List Nat)) (ts : List Stp) (aT : Option Addr) (cT : Nat), v6 = .slice aT ts.length cT ∧ v38 = .int .i64 x ∧ x ≤ l ∧ InB κ l v k x u zs ts ∧ SkAt w S0 J (((ws.take k).map κ) ++ [κ u]) w.heap.size bm (.int .i64 l) (.int .i64 S) (.slice a n cc) (.slice a' mn cc') aT cT ts (zs.map κ) wr) (fun _ v _ => l - (intOf v).toNat)
        case atStart => exact ⟨0, ws, ss, _, _, rfl, rfl, by omega, IB.out, A7.out⟩
        case round =>
          clear A7 
          obtain ⟨x, zs, ts, aT, cT, rfl, rfl, hx, hI, hA⟩ := hrel
          obtain ⟨d0, d1, d2, d3⟩ := hA.cells
          have hzs := words_few hI.nodup (fun z hz => (HC.out z ((hI.letters hx).2 z hz)).1)
          have htl : ts.length ≤ zs.length ∧ zs.length ≤ ts.length := by rw [hI.par.1]; exact ⟨Nat.le_refl _, Nat.le_refl _⟩
          by_cases hxl : x < l
          · have hxi : (x : Int) < (l : Int) := by omega
            obtain ⟨hkz, hzu, s, hs, hsc⟩ := hI.at
            have hki2 : (k : Int) < (ts.length : Int) := by omega
            obtain ⟨g2, rfl, hcell⟩ := hA.reads hs
            have c0 := hcell 0 _ rfl (by omega)
            have c1 := hcell 1 _ rfl (by omega)
            have c2 := hcell 2 _ rfl (by omega)
            have c3 := hcell 3 _ rfl (by omega)
            have c4 := hcell 4 _ rfl (by omega)
            rw [hsc] at c0 c1 c2 c3 c4
            simp only [Nat.add_zero] at c0
            have c0' := fun ob => (grown_alloc wr ob).cell c0 (by simp)
            have c1' := fun ob => (grown_alloc wr ob).cell c1 (by simp)
            have c2' := fun ob => (grown_alloc wr ob).cell c2 (by simp)
            have c3' := fun ob => (grown_alloc wr ob).cell c3 (by simp)
            have c4' := fun ob => (grown_alloc wr ob).cell c4 (by simp)
            have d0' := fun ob => (grown_alloc wr ob).cell d0 (by simp)
            have d1' := fun ob => (grown_alloc wr ob).cell d1 (by simp)
            have d2' := fun ob => (grown_alloc wr ob).cell d2 (by simp)
            have d3' := fun ob => (grown_alloc wr ob).cell d3 (by simp)
            have hul2 : ∀ y, y ∈ u ++ [x] → y < l := fun y hy => by
              rcases List.mem_append.1 hy with hy | hy
              · exact hul y hy
              · simp only [List.mem_singleton] at hy; omega
            obtain ⟨hy1, hy2⟩ := HC.out (u ++ [x]) hul2
            have HY : Hid (τ (κ u) x = κ (u ++ [x])) := HK.out u x
            obtain ⟨y, hy⟩ : ∃ y, κ (u ++ [x]) = y := ⟨_, rfl⟩
            rw [hy] at hy1
            have HYe : Hid (κ (u ++ [x]) = y) := hy
            have HT1 : Hid (∀ W, Turn S0 w W → Calls Tryd.prog 77 #[rowV (κ u), detV l S a n cc a' mn cc', .int .i64 (x : Nat)] W (Says (rowV y) W)) := fun W ht => by
              have h1 := HT.out W (κ u) x ht hxl hc2
              rw [HY.out, hy] at h1
              exact h1
            have T1 : Hid (Turn S0 w wr.drew) := hA.turn.grow (grown_drew (grown_refl _ _))
            have T2 : Hid (Turn S0 w (wr.alloc (.cells #[.int .i64 0, .int .i64 0, .int .i64 0, .int .i64 0, .int .i64 0] 86)).drew) := hA.turn.grow (grown_drew (grown_alloc _ _))
            have HI2 : Hid (InB κ l v k x u zs ts) := hI
            have HA2 : Hid (SkAt w S0 J (((ws.take k).map κ) ++ [κ u]) w.heap.size bm (.int .i64 l) (.int .i64 S) (.slice a n cc) (.slice a' mn cc') (some ⟨g2, 0, none⟩) cT ts (zs.map κ) wr) := hA
            have Z1 : Hid (∀ W, (wr.alloc (.cells #[.int .i64 0, .int .i64 0, .int .i64 0, .int .i64 0, .int .i64 0] 86)).drew.grownBy W none → W.heap[wr.heap.size]? = some (.cells #[.int .i64 0, .int .i64 0, .int .i64 0, .int .i64 0, .int .i64 0] 86 (0, 0)) ∧ wr.grownBy W none) := fun W hW => ⟨(hW.block _ (by show _ < (wr.alloc _).heap.size; simp) (by simp)).trans (heap_alloc_new wr _), grown_trans (grown_drew (grown_alloc _ _)) hW⟩
            clear hA hI hcell hs hsc hy hul2 hy2 hzu
            go_wp2_with fail
            go_cut [10] (fun v10 wc => BoxY wr y v10 wc)
            case first =>
              go_region_with (go_at_call 77; refine (HT1.out _ (by first | exact T1.out | exact T2.out)).mono ?_; rintro E w8 ⟨rfl, hg8⟩; first | (have z8 := Z1.out w8 hg8; have zk8 := z8.1; have z0 := (block_cells5 zk8).1; have z1 := (block_cells5 zk8).2.1; have z2 := (block_cells5 zk8).2.2.1; have z3 := (block_cells5 zk8).2.2.2.1; have z4 := (block_cells5 zk8).2.2.2.2.1; have zf := (block_cells5 zk8).2.2.2.2.2; have y0 := zf 0; have y1 := zf 1; have y2 := zf 2; have y3 := zf 3; have y4 := zf 4) | skip)
              all_goals
                go_wp2_with fail
                go_meet
                case rel => first | (with_reducible exact boxY_b z8.1 z8.2 (Nat.le_refl _)) | (with_reducible exact boxY_a hg8)
            case rest =>
              clear c0 c1 c2 c3 c4 c0' c1' c2' c3' c4' d0 d1 d2 d3 d0' d1' d2' d3' T1 T2 Z1 HT1
              obtain ⟨bx, rfl, hkx, hgx⟩ := hcut
              have hA8 := HA2.out.grow HJ.out hgx
              have hbx : bx ≠ bm := hA8.other hkx
              obtain ⟨q0, q1, q2, q3, q4, _⟩ := block_cells5 hkx
              have hlook := hA8.set.look hy1
              have A9 := hA8.grow HJ.out (grown_alloc wc (.cells #[] 141))
              have hkx9 := ((grown_alloc wc (.cells #[] 141)).block _ (Array.getElem?_eq_some_iff.1 hkx).1 (by simp)).trans hkx
              have HA9 : Hid (SkAt w S0 J (((ws.take k).map κ) ++ [κ u]) w.heap.size bm (.int .i64 l) (.int .i64 S) (.slice a n cc) (.slice a' mn cc') (some ⟨g2, 0, none⟩) cT ts (zs.map κ) (wc.alloc (.cells #[] 141))) := A9
              have hm9 := A9.set.look hy1
              by_cases hm : y ∈ zs.map κ
              · rw [decide_eq_true hm] at hlook
                have HI3 : Hid (InB κ l v k (x + 1) u zs ts) := HI2.out.old (by rw [HYe.out]; exact hm)
                clear hA8 A9 hkx hkx9 hgx hm9 HI2 HA2 hm
                go_wp2_with fail
                go_roundw
                case rel => exact ⟨x + 1, zs, ts, _, _, rfl, by go_num, by omega, HI3.out, HA9.out⟩
                case measure => simp [intOf]; omega
              · rw [decide_eq_false hm] at hlook
                have HI3 : Hid (InB κ l v k (x + 1) u (zs ++ [u ++ [x]]) (ts ++ [(y, (k : Int), x)])) := by
                  have h1 := HI2.out.new (by rw [HYe.out]; exact hm)
                  rw [HYe.out] at h1
                  exact h1
                obtain ⟨w10, hrun10, hA10, hg10⟩ := A9.know HJ.out hy1 (by rw [List.length_map]; omega)
                have hkx10 := (hg10.block _ (Array.getElem?_eq_some_iff.1 hkx9).1 (by simpa using hbx)).trans hkx9
                obtain ⟨r0, r1, r2, r3, r4, _⟩ := block_cells5 hkx9
                obtain ⟨t0, t1, t2, t3, t4, _⟩ := block_cells5 hkx10
                obtain ⟨g11, c11, w11, hrun11, hA11⟩ := hA10.push (y, (k : Int), x) HJ.out rfl (by omega)
                have A11 : Hid (SkAt w S0 J (((ws.take k).map κ) ++ [κ u]) w.heap.size bm (.int .i64 l) (.int .i64 S) (.slice a n cc) (.slice a' mn cc') (some ⟨g11, 0, none⟩) c11 (ts ++ [(y, (k : Int), x)]) ((zs ++ [u ++ [x]]).map κ) w11) := by
                  show SkAt _ _ _ _ _ _ _ _ _ _ _ _ _ _ _
                  rw [List.map_append, List.map_cons, List.map_nil, HYe.out]
                  exact hA11
                simp only at hrun11
                have HL : Hid (ts.length + 1 = (ts ++ [(y, (k : Int), x)]).length) := by show _ = _; simp
                clear hA8 A9 hkx hkx9 hkx10 hgx hm9 HI2 HA2 hm hA10 hA11 hg10
                go_wp2_with fail
                go_roundw
                case rel => exact ⟨x + 1, zs ++ [u ++ [x]], ts ++ [(y, (k : Int), x)], _, _, by rw [HL.out], by go_num, by omega, HI3.out, A11.out⟩
                case measure => simp [intOf]; omega
          · have hxi : ¬ (x : Int) < (l : Int) := by omega
            have hxe : x = l := by omega
            subst hxe
            have HO : Hid (OutB κ x v (k + 1) zs ts) := hI.done
            have HS2 : Hid (((ws.take k).map κ) ++ [κ u] = (zs.take (k + 1)).map κ) := by
              show _ = _
              obtain ⟨hkz, hzu, _⟩ := hI.at
              obtain ⟨ys, e1⟩ := hI.pre
              have e2 : bfsW κ x k = ws := IB.out.is
              have e3 : zs.take k = ws.take k := by rw [e1, e2, List.take_append_of_le_length (by omega)]
              have e4 : zs[k]? = some u := by rw [List.getElem?_eq_getElem hkz]; rw [← hzu]; simp [List.getD, hkz]
              rw [List.take_add_one, e4, List.map_append, e3]
              rfl
            have A12 : Hid (SkAt w S0 J ((zs.take (k + 1)).map κ) w.heap.size bm (.int .i64 x) (.int .i64 S) (.slice a n cc) (.slice a' mn cc') aT cT ts (zs.map κ) wr) := by
              show SkAt _ _ _ _ _ _ _ _ _ _ _ _ _ _ _
              rw [← HS2.out]
              exact hA
            clear hA hI d0 d1 d2 d3
            go_wp2_with fail
            go_roundw
            case rel => exact ⟨k + 1, zs, ts, _, _, rfl, by go_num, HO.out, A12.out⟩
            case measure => simp [intOf]; omega
    · have hki : ¬ (k : Int) < (ss.length : Int) := by omega
      have hke : k = ws.length := by omega
      have Fin : Hid (SeekPost κ l J S0 v w (.returned (.tuple #[.slice none 0 0, .bool false])) wo) := by
        obtain ⟨S1, hj1, hj2, hj3, _⟩ := hA.ex
        refine .inl ⟨rfl, k, hB.fin hke, fun u hu => ?_, ⟨S1, ?_, hj3, hj2⟩, hA.turn⟩
        · rw [hB.is] at hu
          obtain ⟨j, hj, rfl⟩ := List.getElem_of_mem hu
          have h1 := hB.no j (by omega)
          simpa [List.getD, hj] using h1
        rw [hB.is]
        rw [List.take_of_length_le (by omega)] at hj1
        exact hj1
      clear hA hB hke
      go_wp2_with fail
      exact bodyPost_ret (v := .tuple #[.slice none 0 0, .bool false]) (by simp [results, Tryd.results42, go_sem]) rfl Fin.out

end Go.Proofs.YtmbbkjpfmmnabaaDoor

namespace Go.Proofs.YtmbbkjpfmmnabaaDoor
open Go.RowKit
set_option linter.unusedVariables false
attribute [local go_sem ↓] app_fold

set_option maxHeartbeats 1600000 in
set_option maxRecDepth 100000 in
theorem seekC_any (S : Int) (l : Nat) (R : List (List Int)) (M : List Int) (a a' : Option Addr) (cc cc' : Nat) (p1 : Value) (w : World) (S0 : Nat → Prop) (J : List Nat → World → (Nat → Prop) → Prop) (v : Nat → Bool)
    (hG : Good ⟨l, S, R, M⟩) (hn : R.length ≤ 5) (hD : ∀ W, Turn S0 w W → DetAt W ⟨l, S, R, M⟩ a a') (hJ : Stable w S0 J) (h0 : J [] w S0) (hS0 : ∀ b, S0 b → b < w.heap.size)
    (hW : ∀ seen c W S', J seen W S' → seen.length ≤ 3125 → (∀ b, S' b → b < W.heap.size) → Turn S0 w W → c < 3125 → (∀ s, s < R.length → dg c s < R.length) → Calls Tryd.prog 43 #[rowV c, p1] W (LookPost J seen c S' v W)) :
    Calls Tryd.prog 42 #[detV l S a R.length cc a' M.length cc', .func (.func 43) #[] #[p1]] w (SeekPost (deed (Dfa.nx ⟨l, S, R, M⟩) R.length) l J S0 v w) := by
  have hmm := @run_makeMap Tryd.prog
  have HI : Hid (∀ W, Calls Tryd.prog 75 #[] W (Says (rowV idle0) W)) := idle_any
  have hl4 : l ≤ 4 := by have := hG.l4; simp only at this; omega
  have HJ : Hid (Stable w S0 J) := hJ
  have HW : Hid (∀ seen c W S', J seen W S' → seen.length ≤ 3125 → (∀ b, S' b → b < W.heap.size) → Turn S0 w W → c < 3125 → (∀ s, s < R.length → dg c s < R.length) → Calls Tryd.prog 43 #[rowV c, p1] W (LookPost J seen c S' v W)) := hW
  have HT : Hid (∀ W c x, Turn S0 w W → x < l → (∀ s, s < R.length → dg c s < R.length) → Calls Tryd.prog 77 #[rowV c, detV l S a R.length cc a' M.length cc', .int .i64 (x : Nat)] W (Says (rowV (thenK (Dfa.nx ⟨l, S, R, M⟩) R.length c x)) W)) := fun W c x ht hx hc => then_any S l R M a a' cc cc' c x W (hD W ht) hG hn hx hc
  have HC : Hid (∀ u : List Nat, (∀ y, y ∈ u → y < l) → deed (Dfa.nx ⟨l, S, R, M⟩) R.length u < 3125 ∧ ∀ s, s < R.length → dg (deed (Dfa.nx ⟨l, S, R, M⟩) R.length u) s < R.length) := fun u hu => by
    obtain ⟨h1, h2, _⟩ := deed_facts hn (fun s a hs ha => hG.nx_lt hs (by simp; exact ha)) u hu
    exact ⟨h1, fun s hs => by rw [(h2 s hs).1]; exact (h2 s hs).2⟩
  have HK : Hid (∀ (u : List Nat) (x : Nat), thenK (Dfa.nx ⟨l, S, R, M⟩) R.length (deed (Dfa.nx ⟨l, S, R, M⟩) R.length u) x = deed (Dfa.nx ⟨l, S, R, M⟩) R.length (u ++ [x])) := fun u x => (deed_snoc u x).symm
  have HK0 : Hid (deed (Dfa.nx ⟨l, S, R, M⟩) R.length [] = idle0) := by show _ = _; rfl
  have H0 : Hid (J [] w S0) := h0
  have HS0 : Hid (∀ b, S0 b → b < w.heap.size) := hS0
  generalize deed (Dfa.nx ⟨l, S, R, M⟩) R.length = κ at *
  generalize thenK (Dfa.nx ⟨l, S, R, M⟩) R.length = τ at *
  obtain ⟨n, hn0⟩ : ∃ n, R.length = n := ⟨_, rfl⟩
  obtain ⟨mn, hmn⟩ : ∃ mn, M.length = mn := ⟨_, rfl⟩
  rw [hn0] at HW HT HC ⊢
  rw [hmn] at HT ⊢
  clear hG hn hD hJ h0 hS0 hW hn0 hmn
  go_enter Tryd.func42, Tryd.ntmps42
  go_wp2_with fail
  refine (HI.out _).mono ?_
  rintro E w2 ⟨rfl, hg2⟩
  have G2 : Hid _ := hg2
  clear hg2
  go_wp2_with fail
  refine (HI.out _).mono ?_
  rintro E w5 ⟨rfl, hg5⟩
  obtain ⟨w6, hrun, hsk⟩ := sk_start (c := idle0) HJ.out H0.out HS0.out G2.out (mkc_lt (fun s h => h)) hg5
  have A6 : Hid (SkAt w S0 J [] w.heap.size (w2.heap.size + 1) (.int .i64 l) (.int .i64 S) (.slice a n cc) (.slice a' mn cc') (some ⟨w2.heap.size, 0, none⟩) 1 [(idle0, -1, 0)] [idle0] w6) := hsk
  clear hsk hg5
  go_wp2_with fail
  obtain ⟨bm, hbm⟩ : ∃ bm, w2.heap.size + 1 = bm := ⟨_, rfl⟩
  rw [hbm] at A6 ⊢
  clear hrun hbm hmm G2
  go_loopw [6, 8] (fun v6 v8 wr => ∃ (k : Nat) (ws : List (List Nat)) (ss : List Stp) (aS : Option Addr) (cS : Nat), v6 = .slice aS ss.length cS ∧ v8 = .int .i64 k ∧ OutB κ l v k ws ss ∧ SkAt w S0 J ((ws.take k).map κ) w.heap.size bm (.int .i64 l) (.int .i64 S) (.slice a n cc) (.slice a' mn cc') aS cS ss (ws.map κ) wr) (fun _ v _ => 3200 - (intOf v).toNat)
  case atStart => exact ⟨0, [[]], [(idle0, -1, 0)], _, _, rfl, rfl, OutB.start _ HK0.out, by simp only [List.take_zero, List.map_nil, List.map_cons, HK0.out]; exact A6.out⟩
  case round =>
    clear A6
    rename World => wo
    obtain ⟨k, ws, ss, aS, cS, rfl, rfl, hB, hA⟩ := hrel
    have hlen : ss.length ≤ ws.length ∧ ws.length ≤ ss.length := by rw [hB.len]; exact ⟨Nat.le_refl _, Nat.le_refl _⟩
    have hle := hB.le
    have hws := words_few hB.nodup (fun u hu => (HC.out u (hB.letters u hu)).1)
    by_cases hlt : k < ws.length
    · have hki : (k : Int) < (ss.length : Int) := by omega
      obtain ⟨s, hs, hsc⟩ := hB.at hlt
      obtain ⟨u, hu⟩ : ∃ u, ws.getD k [] = u := ⟨_, rfl⟩
      have hul : ∀ y, y ∈ u → y < l := by rw [← hu]; exact hB.letters _ (getDL_mem hlt)
      obtain ⟨hc1, hc2⟩ := HC.out u hul
      rw [hu] at hsc
      obtain ⟨g, rfl, hcell⟩ := hA.reads hs
      obtain ⟨S1, hj1, hj2, hj3, hj4⟩ := hA.ex
      have c0 := hcell 0 _ rfl (by omega)
      have c1 := hcell 1 _ rfl (by omega)
      have c2 := hcell 2 _ rfl (by omega)
      have c3 := hcell 3 _ rfl (by omega)
      have c4 := hcell 4 _ rfl (by omega)
      rw [hsc] at c0 c1 c2 c3 c4
      simp only [Nat.add_zero] at c0
      have HC1 := HW.out _ (κ u) wo S1 hj1 (by rw [List.length_map, List.length_take]; omega) hj2 hA.turn hc1 hc2
      have HBo : Hid (OutB κ l v k ws ss) := hB
      have HUk : Hid (ws.getD k [] = u) := hu
      have HCall : Hid (Calls Tryd.prog 43 #[rowV (κ u), p1] wo (LookPost J ((ws.take k).map κ) (κ u) S1 v wo)) := HC1
      have HA : Hid (SkAt w S0 J ((ws.take k).map κ) w.heap.size bm (.int .i64 l) (.int .i64 S) (.slice a n cc) (.slice a' mn cc') (some ⟨g, 0, none⟩) cS ss (ws.map κ) wo) := hA
      have HJ3 : Hid (∀ b, S1 b → S0 b ∨ w.heap.size ≤ b) := hj3
      have HJ4 : Hid (∀ b, S1 b → (Value.slice (some ⟨g, 0, none⟩) ss.length cS).ownBlock ≠ some b ∧ b ≠ bm ∧ b ≠ w.heap.size) := hj4
      have hk3 : k ≤ 3125 := by omega
      clear hA hB hu hcell hj1 hj2 hj3 hj4 HC1 hs hsc
      go_wp2_with fail
      refine HCall.out.mono ?_
      rintro E w7 ⟨hE, S2, hj5, ht7, hs7, hl7⟩
      have hA7 := HA.out.looked hj5 ht7 hs7 hl7 HJ3.out HJ4.out
      have A7 : Hid (SkAt w S0 J (((ws.take k).map κ) ++ [κ u]) w.heap.size bm (.int .i64 l) (.int .i64 S) (.slice a n cc) (.slice a' mn cc') (some ⟨g, 0, none⟩) cS ss (ws.map κ) w7) := hA7
      cases hvu : v (κ u) with
      | true =>
        rw [hvu] at hE
        subst hE
        have St7 : StpAt w7 g ss := fun i s' hs' => by
          obtain ⟨g', eg, hc'⟩ := hA7.reads hs'
          cases eg
          exact ⟨hc' 5 _ rfl (by omega), hc' 6 _ rfl (by omega)⟩
        have HWt : Hid (Calls Tryd.prog 76 #[.slice (some ⟨g, 0, none⟩) ss.length cS, .int .i64 (k : Nat)] w7 (WordToPost u w7)) := by
          have h1 := wordToM_any ws ss g cS HBo.out.par (by omega) k hlt w7 St7
          rw [HUk.out] at h1
          exact h1
        clear hj5 ht7 hs7 hl7 hA7 HCall HA HJ3 HJ4 c0 c1 c2 c3 c4 St7
        go_wp2_with fail
        refine HWt.out.mono ?_
        rintro E w8 ⟨az, cz, rfl, ho8, hg8⟩
        have Fin : Hid (SeekPost κ l J S0 v w (.returned (.tuple #[.slice az u.length cz, .bool true])) w8) := by
          have e1 : bfsW κ l k = ws := HBo.out.is
          have hA8 := A7.out.grow HJ.out hg8
          obtain ⟨S8, k1, k2, k3, _⟩ := hA8.ex
          have e2 : ((ws.take k).map κ) ++ [κ u] = (ws.take (k + 1)).map κ := by
            have e3 : ws[k]? = some u := by rw [List.getElem?_eq_getElem hlt, ← HUk.out]; simp [List.getD, hlt]
            rw [List.take_add_one, e3, List.map_append]
            rfl
          rw [e2] at k1
          refine .inr ⟨k, az, cz, by rw [e1]; exact hlt, HBo.out.go, fun j hj => by rw [e1]; exact HBo.out.no j hj, by rw [e1, HUk.out]; exact hvu, by rw [e1, HUk.out], by rw [e1, HUk.out]; exact ho8.ints.2, ⟨S8, by rw [e1]; exact k1, k3, k2⟩, hA8.turn⟩
        clear ho8 hg8 A7 HWt
        generalize u.length = ul at *
        go_wp2_with fail
        exact bodyPost_ret (v := .tuple #[.slice az ul cz, .bool true]) (by simp [results, Tryd.results42, go_sem]) rfl Fin.out
      | false =>
        rw [hvu] at hE
        subst hE
        have IB : Hid (InB κ l v k 0 u ws ss) := by
          have h1 := HBo.out.row hlt (by rw [HUk.out]; exact hvu)
          rw [HUk.out] at h1
          exact h1
        clear HBo HUk hvu
        obtain ⟨d0, d1, d2, d3⟩ := hA7.cells
        clear hj5 ht7 hs7 hl7 hA7 HCall HA HJ3 HJ4 c0 c1 c2 c3 c4
        go_wp2_with fail
        clear d0 d1 d2 d3
        go_loopw [6, 38] (fun v6 v38 wr => ∃ (x : Nat) (zs : List (List Nat)) (ts : List Stp) (aT : Option Addr) (cT : Nat), v6 = .slice aT ts.length cT ∧ v38 = .int .i64 x ∧ x ≤ l ∧ InB κ l v k x u zs ts ∧ SkAt w S0 J (((ws.take k).map κ) ++ [κ u]) w.heap.size bm (.int .i64 l) (.int .i64 S) (.slice a n cc) (.slice a' mn cc') aT cT ts (zs.map κ) wr) (fun _ v _ => l - (intOf v).toNat)
        case atStart => exact ⟨0, ws, ss, _, _, rfl, rfl, by omega, IB.out, A7.out⟩
        case round =>
          clear A7 
          obtain ⟨x, zs, ts, aT, cT, rfl, rfl, hx, hI, hA⟩ := hrel
          obtain ⟨d0, d1, d2, d3⟩ := hA.cells
          have hzs := words_few hI.nodup (fun z hz => (HC.out z ((hI.letters hx).2 z hz)).1)
          have htl : ts.length ≤ zs.length ∧ zs.length ≤ ts.length := by rw [hI.par.1]; exact ⟨Nat.le_refl _, Nat.le_refl _⟩
          by_cases hxl : x < l
          · have hxi : (x : Int) < (l : Int) := by omega
            obtain ⟨hkz, hzu, s, hs, hsc⟩ := hI.at
            have hki2 : (k : Int) < (ts.length : Int) := by omega
            obtain ⟨g2, rfl, hcell⟩ := hA.reads hs
            have c0 := hcell 0 _ rfl (by omega)
            have c1 := hcell 1 _ rfl (by omega)
            have c2 := hcell 2 _ rfl (by omega)
            have c3 := hcell 3 _ rfl (by omega)
            have c4 := hcell 4 _ rfl (by omega)
            rw [hsc] at c0 c1 c2 c3 c4
            simp only [Nat.add_zero] at c0
            have c0' := fun ob => (grown_alloc wr ob).cell c0 (by simp)
            have c1' := fun ob => (grown_alloc wr ob).cell c1 (by simp)
            have c2' := fun ob => (grown_alloc wr ob).cell c2 (by simp)
            have c3' := fun ob => (grown_alloc wr ob).cell c3 (by simp)
            have c4' := fun ob => (grown_alloc wr ob).cell c4 (by simp)
            have d0' := fun ob => (grown_alloc wr ob).cell d0 (by simp)
            have d1' := fun ob => (grown_alloc wr ob).cell d1 (by simp)
            have d2' := fun ob => (grown_alloc wr ob).cell d2 (by simp)
            have d3' := fun ob => (grown_alloc wr ob).cell d3 (by simp)
            have hul2 : ∀ y, y ∈ u ++ [x] → y < l := fun y hy => by
              rcases List.mem_append.1 hy with hy | hy
              · exact hul y hy
              · simp only [List.mem_singleton] at hy; omega
            obtain ⟨hy1, hy2⟩ := HC.out (u ++ [x]) hul2
            have HY : Hid (τ (κ u) x = κ (u ++ [x])) := HK.out u x
            obtain ⟨y, hy⟩ : ∃ y, κ (u ++ [x]) = y := ⟨_, rfl⟩
            rw [hy] at hy1
            have HYe : Hid (κ (u ++ [x]) = y) := hy
            have HT1 : Hid (∀ W, Turn S0 w W → Calls Tryd.prog 77 #[rowV (κ u), detV l S a n cc a' mn cc', .int .i64 (x : Nat)] W (Says (rowV y) W)) := fun W ht => by
              have h1 := HT.out W (κ u) x ht hxl hc2
              rw [HY.out, hy] at h1
              exact h1
            have T1 : Hid (Turn S0 w wr.drew) := hA.turn.grow (grown_drew (grown_refl _ _))
            have T2 : Hid (Turn S0 w (wr.alloc (.cells #[.int .i64 0, .int .i64 0, .int .i64 0, .int .i64 0, .int .i64 0] 86)).drew) := hA.turn.grow (grown_drew (grown_alloc _ _))
            have HI2 : Hid (InB κ l v k x u zs ts) := hI
            have HA2 : Hid (SkAt w S0 J (((ws.take k).map κ) ++ [κ u]) w.heap.size bm (.int .i64 l) (.int .i64 S) (.slice a n cc) (.slice a' mn cc') (some ⟨g2, 0, none⟩) cT ts (zs.map κ) wr) := hA
            have Z1 : Hid (∀ W, (wr.alloc (.cells #[.int .i64 0, .int .i64 0, .int .i64 0, .int .i64 0, .int .i64 0] 86)).drew.grownBy W none → W.heap[wr.heap.size]? = some (.cells #[.int .i64 0, .int .i64 0, .int .i64 0, .int .i64 0, .int .i64 0] 86 (0, 0)) ∧ wr.grownBy W none) := fun W hW => ⟨(hW.block _ (by show _ < (wr.alloc _).heap.size; simp) (by simp)).trans (heap_alloc_new wr _), grown_trans (grown_drew (grown_alloc _ _)) hW⟩
            clear hA hI hcell hs hsc hy hul2 hy2 hzu
            go_wp2_with fail
            go_cut [10] (fun v10 wc => BoxY wr y v10 wc)
            case first =>
              go_region_with (go_at_call 77; refine (HT1.out _ (by first | exact T1.out | exact T2.out)).mono ?_; rintro E w8 ⟨rfl, hg8⟩; first | (have z8 := Z1.out w8 hg8; have zk8 := z8.1; have z0 := (block_cells5 zk8).1; have z1 := (block_cells5 zk8).2.1; have z2 := (block_cells5 zk8).2.2.1; have z3 := (block_cells5 zk8).2.2.2.1; have z4 := (block_cells5 zk8).2.2.2.2.1; have zf := (block_cells5 zk8).2.2.2.2.2; have y0 := zf 0; have y1 := zf 1; have y2 := zf 2; have y3 := zf 3; have y4 := zf 4) | skip)
              all_goals
                go_wp2_with fail
                go_meet
                case rel => first | (with_reducible exact boxY_b z8.1 z8.2 (Nat.le_refl _)) | (with_reducible exact boxY_a hg8)
            case rest =>
              clear c0 c1 c2 c3 c4 c0' c1' c2' c3' c4' d0 d1 d2 d3 d0' d1' d2' d3' T1 T2 Z1 HT1
              obtain ⟨bx, rfl, hkx, hgx⟩ := hcut
              have hA8 := HA2.out.grow HJ.out hgx
              have hbx : bx ≠ bm := hA8.other hkx
              obtain ⟨q0, q1, q2, q3, q4, _⟩ := block_cells5 hkx
              have hlook := hA8.set.look hy1
              have A9 := hA8.grow HJ.out (grown_alloc wc (.cells #[] 141))
              have hkx9 := ((grown_alloc wc (.cells #[] 141)).block _ (Array.getElem?_eq_some_iff.1 hkx).1 (by simp)).trans hkx
              have HA9 : Hid (SkAt w S0 J (((ws.take k).map κ) ++ [κ u]) w.heap.size bm (.int .i64 l) (.int .i64 S) (.slice a n cc) (.slice a' mn cc') (some ⟨g2, 0, none⟩) cT ts (zs.map κ) (wc.alloc (.cells #[] 141))) := A9
              have hm9 := A9.set.look hy1
              by_cases hm : y ∈ zs.map κ
              · rw [decide_eq_true hm] at hlook
                have HI3 : Hid (InB κ l v k (x + 1) u zs ts) := HI2.out.old (by rw [HYe.out]; exact hm)
                clear hA8 A9 hkx hkx9 hgx hm9 HI2 HA2 hm
                go_wp2_with fail
                go_roundw
                case rel => exact ⟨x + 1, zs, ts, _, _, rfl, by go_num, by omega, HI3.out, HA9.out⟩
                case measure => simp [intOf]; omega
              · rw [decide_eq_false hm] at hlook
                have HI3 : Hid (InB κ l v k (x + 1) u (zs ++ [u ++ [x]]) (ts ++ [(y, (k : Int), x)])) := by
                  have h1 := HI2.out.new (by rw [HYe.out]; exact hm)
                  rw [HYe.out] at h1
                  exact h1
                obtain ⟨w10, hrun10, hA10, hg10⟩ := A9.know HJ.out hy1 (by rw [List.length_map]; omega)
                have hkx10 := (hg10.block _ (Array.getElem?_eq_some_iff.1 hkx9).1 (by simpa using hbx)).trans hkx9
                obtain ⟨r0, r1, r2, r3, r4, _⟩ := block_cells5 hkx9
                obtain ⟨t0, t1, t2, t3, t4, _⟩ := block_cells5 hkx10
                obtain ⟨g11, c11, w11, hrun11, hA11⟩ := hA10.push (y, (k : Int), x) HJ.out rfl (by omega)
                have A11 : Hid (SkAt w S0 J (((ws.take k).map κ) ++ [κ u]) w.heap.size bm (.int .i64 l) (.int .i64 S) (.slice a n cc) (.slice a' mn cc') (some ⟨g11, 0, none⟩) c11 (ts ++ [(y, (k : Int), x)]) ((zs ++ [u ++ [x]]).map κ) w11) := by
                  show SkAt _ _ _ _ _ _ _ _ _ _ _ _ _ _ _
                  rw [List.map_append, List.map_cons, List.map_nil, HYe.out]
                  exact hA11
                simp only at hrun11
                have HL : Hid (ts.length + 1 = (ts ++ [(y, (k : Int), x)]).length) := by show _ = _; simp
                clear hA8 A9 hkx hkx9 hkx10 hgx hm9 HI2 HA2 hm hA10 hA11 hg10
                go_wp2_with fail
                go_roundw
                case rel => exact ⟨x + 1, zs ++ [u ++ [x]], ts ++ [(y, (k : Int), x)], _, _, by rw [HL.out], by go_num, by omega, HI3.out, A11.out⟩
                case measure => simp [intOf]; omega
          · have hxi : ¬ (x : Int) < (l : Int) := by omega
            have hxe : x = l := by omega
            subst hxe
            have HO : Hid (OutB κ x v (k + 1) zs ts) := hI.done
            have HS2 : Hid (((ws.take k).map κ) ++ [κ u] = (zs.take (k + 1)).map κ) := by
              show _ = _
              obtain ⟨hkz, hzu, _⟩ := hI.at
              obtain ⟨ys, e1⟩ := hI.pre
              have e2 : bfsW κ x k = ws := IB.out.is
              have e3 : zs.take k = ws.take k := by rw [e1, e2, List.take_append_of_le_length (by omega)]
              have e4 : zs[k]? = some u := by rw [List.getElem?_eq_getElem hkz]; rw [← hzu]; simp [List.getD, hkz]
              rw [List.take_add_one, e4, List.map_append, e3]
              rfl
            have A12 : Hid (SkAt w S0 J ((zs.take (k + 1)).map κ) w.heap.size bm (.int .i64 x) (.int .i64 S) (.slice a n cc) (.slice a' mn cc') aT cT ts (zs.map κ) wr) := by
              show SkAt _ _ _ _ _ _ _ _ _ _ _ _ _ _ _
              rw [← HS2.out]
              exact hA
            clear hA hI d0 d1 d2 d3
            go_wp2_with fail
            go_roundw
            case rel => exact ⟨k + 1, zs, ts, _, _, rfl, by go_num, HO.out, A12.out⟩
            case measure => simp [intOf]; omega
    · have hki : ¬ (k : Int) < (ss.length : Int) := by omega
      have hke : k = ws.length := by omega
      have Fin : Hid (SeekPost κ l J S0 v w (.returned (.tuple #[.slice none 0 0, .bool false])) wo) := by
        obtain ⟨S1, hj1, hj2, hj3, _⟩ := hA.ex
        refine .inl ⟨rfl, k, hB.fin hke, fun u hu => ?_, ⟨S1, ?_, hj3, hj2⟩, hA.turn⟩
        · rw [hB.is] at hu
          obtain ⟨j, hj, rfl⟩ := List.getElem_of_mem hu
          have h1 := hB.no j (by omega)
          simpa [List.getD, hj] using h1
        rw [hB.is]
        rw [List.take_of_length_le (by omega)] at hj1
        exact hj1
      clear hA hB hke
      go_wp2_with fail
      exact bodyPost_ret (v := .tuple #[.slice none 0 0, .bool false]) (by simp [results, Tryd.results42, go_sem]) rfl Fin.out

end Go.Proofs.YtmbbkjpfmmnabaaDoor
