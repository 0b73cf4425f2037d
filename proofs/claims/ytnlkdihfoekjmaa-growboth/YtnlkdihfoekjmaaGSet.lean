/- Sets of places: whether one is empty, copies, what is left without another, its places in order; whether two are one. -/
import Derived.Test.YtnlkdihfoekjmaaGMem
import Derived.BigRegion
import Derived.RegionTactic
namespace Go.Proofs.Ytnlkdihfoekjmaa
open Go.RowKit
set_option linter.unusedVariables false

def anyB (n : Nat) (o : Nat → Bool) : Bool := (List.range n).any o
theorem anyB_iff {n : Nat} {o : Nat → Bool} : anyB n o = true ↔ ∃ p, p < n ∧ o p = true := by
  simp [anyB, List.any_eq_true]
theorem anyB_no {n : Nat} {o : Nat → Bool} : anyB n o = false ↔ ∀ p, p < n → o p = false := by
  simp [anyB]
def IdxPost (n : Nat) (o : Nat → Bool) (w : World) (E : Ending) (w' : World) : Prop := ∃ k : Int, E = .returned (.int .i64 k) ∧ decide (0 ≤ k) = anyB n o ∧ w' = w

set_option maxHeartbeats 800000 in
theorem index_any (n g c : Nat) (o : Nat → Bool) (w : World) (h : BRow w g n c o) (hn : n ≤ 100) : Calls Try.prog 52 #[.slice (some ⟨g, 0, none⟩) n c, .bool true] w (IdxPost n o w) := by
  have H : Hid (BRow w g n c o) := h
  clear h
  go_enter Try.func52, Try.ntmps52
  go_wp2
  go_loop [8] (fun i => ∃ k : Nat, k ≤ n ∧ i = .int .i64 k ∧ ∀ j, j < k → o j = false) (fun i => n - (intOf i).toNat)
  case atStart => exact ⟨0, Nat.zero_le _, rfl, fun j hj => by omega⟩
  case round =>
    obtain ⟨k, hk, rfl, hg⟩ := hrel
    have HJ : Hid (∀ j, j < k → o j = false) := hg
    clear hg
    by_cases hlt : k < n
    · have hck := H.out.cell hlt
      cases ho : o k with
      | true =>
        rw [ho] at hck
        go_wp2_with fail
        go_ret
        exact ⟨k, rfl, by rw [(anyB_iff (n := n) (o := o)).2 ⟨k, hlt, ho⟩]; simp, rfl⟩
      | false =>
        rw [ho] at hck
        have HK : Hid (o k = false) := ho
        clear ho
        go_wp2_with fail
        go_round
        case rel =>
          refine ⟨k + 1, by omega, by go_num, fun j hj => ?_⟩
          by_cases hjk : j = k
          · subst hjk; exact HK.out
          · exact HJ.out j (by omega)
        case measure => simp [intOf]; omega
    · go_wp2_with fail
      go_ret
      exact ⟨-1, rfl, by rw [(anyB_no (n := n) (o := o)).2 (fun p hp => HJ.out p (by omega))]; simp, rfl⟩

set_option maxHeartbeats 800000 in
theorem contains_any (n g c : Nat) (o : Nat → Bool) (w : World) (h : BRow w g n c o) (hn : n ≤ 100) : Calls Try.prog 46 #[.slice (some ⟨g, 0, none⟩) n c, .bool true] w fun e w' => e = .returned (.bool (anyB n o)) ∧ w' = w := by
  have H : Hid (Calls Try.prog 52 #[.slice (some ⟨g, 0, none⟩) n c, .bool true] w (IdxPost n o w)) := index_any n g c o w h hn
  obtain ⟨b, hb⟩ : ∃ b, b = anyB n o := ⟨_, rfl⟩
  have HB : Hid (b = anyB n o) := hb
  rw [← hb]
  clear hb h
  go_enter Try.func46, Try.ntmps46
  go_wp2_with fail
  refine H.out.mono ?_
  rintro E w2 ⟨k, rfl, hk, rfl⟩
  rw [← HB.out] at hk
  cases b with
  | true =>
    have h0 : (0 : Int) ≤ k := by simpa using hk
    clear hk
    go_wp2_with fail
    go_ret
    exact ⟨ret_bool (by simp), rfl⟩
  | false =>
    have h0 : ¬ (0 : Int) ≤ k := by simpa using hk
    clear hk
    go_wp2_with fail
    go_ret
    exact ⟨ret_bool (by simp [h0]), rfl⟩

set_option maxHeartbeats 800000 in
theorem isEmpty_any (n g c : Nat) (o : Nat → Bool) (w : World) (h : BRow w g n c o) (hn : n ≤ 100) : Calls Try.prog 35 #[.slice (some ⟨g, 0, none⟩) n c] w fun e w' => e = .returned (.bool (!anyB n o)) ∧ w' = w := by
  have H : Hid (Calls Try.prog 46 #[.slice (some ⟨g, 0, none⟩) n c, .bool true] w fun e w' => e = .returned (.bool (anyB n o)) ∧ w' = w) := contains_any n g c o w h hn
  clear h
  generalize anyB n o = b at *
  go_enter Try.func35, Try.ntmps35
  go_wp2_with fail
  refine H.out.mono ?_
  rintro E w2 ⟨rfl, rfl⟩
  go_wp2_with fail
  go_ret
  exact ⟨rfl, rfl⟩

set_option maxHeartbeats 1600000 in
set_option maxRecDepth 100000 in
theorem cloneS_any (n g c : Nat) (o : Nat → Bool) (w : World) (h : BRow w g n c o) (h1 : 1 ≤ n) (hn : n ≤ 100) : Calls Try.prog 48 #[.slice (some ⟨g, 0, none⟩) n c] w (SetPost n o w) := by
  obtain ⟨i0, hio, hz0, hz1, hz2⟩ := info_parts Try.infoB4
  obtain ⟨xs, hxs⟩ : ∃ xs : List Value, xs = (List.range n).map fun i => .bool (o i) := ⟨_, rfl⟩
  have hxl : xs.length = n := by rw [hxs]; simp
  have O0 : Hid (Owns w.heap.size (w.alloc (.cells #[] 4)) [(4, .slice (some ⟨w.heap.size, 0, none⟩) 0 0, [])]) := (Owns.no w.heap.size w).made (arr := #[]) (n := 0) (Nat.le_refl _) 4 rfl (by unfold maxLen; omega)
  have hO : Hid ((w.alloc (.cells #[] 4)).ownsRow w.heap.size 4 1 (.slice (some ⟨w.heap.size, 0, none⟩) 0 0) 0 []) := O0.out.row
  have HN : Hid (∀ j u, xs[j]? = some u → (w.alloc (.cells #[] 4)).cell? ((⟨g, 0, none⟩ : Addr).add j) = some u) := fun j u hu => by
    have hj : j < n := by have := (List.getElem?_eq_some_iff.1 hu).1; omega
    rw [addr_add]
    have := (h.alloc (.cells #[] 4)).cell hj
    rw [this]
    rw [hxs] at hu
    simpa [hj] using hu
  have HC : Hid (∀ u, u ∈ xs → u.cells.size = 1) := fun u hu => by rw [hxs] at hu; obtain ⟨x, _, rfl⟩ := List.mem_map.1 hu; rfl
  have HX : Hid (xs = (List.range n).map fun i => .bool (o i)) := hxs
  have HXL : Hid (xs.length = n) := hxl
  have hnil := fun (W : World) => Lib.run_eql_slice_nil (P := Try.prog) W 66 4 (some ⟨g, 0, none⟩) n c 0 0 Try.underlying66
  clear h hxs hxl
  go_enter Try.func48, Try.ntmps48
  go_wp2_with (at_builtin; refine wpList_append_lies _ rfl _ _ 66 rfl w.heap.size 4 i0 (.bool false) 1 1 Try.underlying66 hio hz0 hz1 hz2 rfl (by decide) (.slice (some ⟨w.heap.size, 0, none⟩) 0 0) 0 [] rfl hO.out ⟨g, 0, none⟩ n c xs rfl (by rw [HXL.out]; omega) HN.out (by intro u hu; rw [HX.out] at hu; simp at hu; obtain ⟨x, _, rfl⟩ := hu; rfl) (by omega) (by unfold maxLen; omega) (by omega) (by simp) (w.heap.size + 1) (by simp) ?_; intro g3 cap w3 ho3 hg3 hat3 _)
  have O3 : Hid (Owns w.heap.size w3 [(4, .slice (some ⟨g3, 0, none⟩) n cap, (List.range n).map fun i => .bool (o i))]) := by
    have h2 := O0.out.append (news := xs) (n := n) (by simpa [HXL.out] using ho3) (by simp [HXL.out]) hg3 hat3 (by simp)
    show Owns _ _ _
    rw [← HX.out]
    simpa using h2
  have G3 : Hid (w.grownBy w3 none) := O0.out.frame (Nat.le_refl _) (grown_alloc _ _) hg3
  clear ho3 hg3 hat3
  go_ret
  exact ⟨g3, cap, by simp, RowB.of_owns O3.out, (O3.out.row.lt g3 rfl).1, G3.out⟩

set_option maxHeartbeats 1600000 in
theorem without_any (n g c g' c' : Nat) (o o' : Nat → Bool) (w : World) (h : BRow w g n c o) (h' : BRow w g' n c' o') (h1 : 1 ≤ n) (hn : n ≤ 100) : Calls Try.prog 38 #[.slice (some ⟨g, 0, none⟩) n c, .slice (some ⟨g', 0, none⟩) n c'] w (SetPost n (less o o') w) := by
  have HC : Hid (Calls Try.prog 48 #[.slice (some ⟨g, 0, none⟩) n c] w (SetPost n o w)) := cloneS_any n g c o w h h1 hn
  have H' : Hid (BRow w g' n c' o') := h'
  clear h h'
  go_enter Try.func38, Try.ntmps38
  go_wp2_with fail
  refine HC.out.mono ?_
  rintro E w2 ⟨g2, c2, rfl, hr2, hb2, hg2⟩
  have R2 : Hid (BRow w2 g2 n c2 o) := hr2
  have G2 : Hid (w.grownBy w2 none) := hg2
  clear HC hr2 hg2
  go_wp2_with fail
  go_loopw [12] (fun v wr => ∃ k : Nat, k ≤ n ∧ v = .int .i64 k ∧ BRow wr g2 n c2 (fun p => o p && !(decide (p < k) && o' p)) ∧ w.grownBy wr none) (fun v _ => n - (intOf v).toNat)
  case atStart => exact ⟨0, by omega, rfl, R2.out.congr (fun i hi => by simp), G2.out⟩
  case round =>
    clear R2 G2
    rename World => wr
    obtain ⟨k, hk, rfl, hr, hg⟩ := hrel
    have R : Hid (BRow wr g2 n c2 (fun p => o p && !(decide (p < k) && o' p))) := hr
    have G : Hid (w.grownBy wr none) := hg
    clear hr hg
    by_cases hlt : k < n
    · have hki : (k : Int) < (n : Int) := by omega
      have c0 := R.out.cell hlt
      have c1 := (H'.out.kept G.out).cell hlt
      have f0 := R.out.frozen k
      have e0 : (o k && !(decide (k < k) && o' k)) = o k := by simp
      simp only [e0] at c0 c1
      have R3 : Hid (∀ b, (o k && !o' k) = b → BRow (wr.setCell ⟨g2, k, none⟩ (.bool b)) g2 n c2 (fun p => o p && !(decide (p < k + 1) && o' p))) := fun b hb => R.out.put hlt (by simpa using hb) (fun j hj => by
        have : decide (j < k + 1) = decide (j < k) := by simp; omega
        simp [this])
      have G3 : Hid (∀ v, w.grownBy (wr.setCell ⟨g2, k, none⟩ v) none) := fun v => grown_new G.out (grown_set _ _ _) hb2
      clear R e0
      cases ho : o k <;> cases ho' : o' k <;> rw [ho] at c0 R3 <;> rw [ho'] at c1 R3 <;> clear ho ho' <;> go_wp2_with fail
      all_goals
        go_roundw
        case rel => exact ⟨k + 1, by omega, by go_num, R3.out _ rfl, G3.out _⟩
        case measure => simp [intOf]; omega
    · have hki : ¬ (k : Int) < (n : Int) := by omega
      have hkn : k = n := by omega
      subst hkn
      go_wp2_with fail
      go_ret
      exact ⟨g2, c2, rfl, R.out.congr (fun i hi => by simp [less, hi]), hb2, G.out⟩

def plcs (n : Nat) (o : Nat → Bool) : List Nat := (List.range n).filter o
theorem plcs_mem {n : Nat} {o : Nat → Bool} {p : Nat} : p ∈ plcs n o ↔ p < n ∧ o p = true := by simp [plcs]
theorem plcs_succ (k : Nat) (o : Nat → Bool) : plcs (k + 1) o = plcs k o ++ (if o k = true then [k] else []) := by
  unfold plcs
  rw [List.range_succ, List.filter_append]
  by_cases h : o k = true <;> simp [h]
theorem plcs_len (k : Nat) (o : Nat → Bool) : (plcs k o).length ≤ k := by
  have := List.length_filter_le o (List.range k)
  simpa [plcs] using this
theorem plcs_nodup (k : Nat) (o : Nat → Bool) : (plcs k o).Nodup := List.Nodup.sublist List.filter_sublist List.nodup_range
/-- Places as numbers. -/
abbrev nvals (l : List Nat) : List Value := l.map fun (q : Nat) => .int .i64 (q : Int)
theorem nvals_get {l : List Nat} {i : Nat} (h : i < l.length) : (nvals l)[i]? = some (.int .i64 ((l.getD i 0 : Nat) : Int)) := by simp [nvals, List.getD, h]
theorem nvals_len (l : List Nat) : (nvals l).length = l.length := by simp [nvals]
theorem Owns.nats {B : Nat} {w : World} {r : List Item} {a : Option Addr} {n c : Nat} {l : List Nat} (h : Owns B w ((3, .slice a n c, nvals l) :: r)) : n = l.length ∧ NatsAt w a l := by
  have hn := h.len
  rw [nvals_len] at hn
  refine ⟨hn, ?_⟩
  by_cases h0 : l.length = 0
  · left; exact List.length_eq_zero_iff.1 h0
  · right
    obtain ⟨g, cap, e, _⟩ := h.form (by rw [nvals_len]; omega)
    cases e
    exact ⟨g, 0, rfl, fun i hi => by rw [Nat.zero_add]; exact h.cell (nvals_get hi)⟩
/-- The places of a set, in order. -/
def PlcsPost (n : Nat) (o : Nat → Bool) (w : World) (E : Ending) (w' : World) : Prop :=
  ∃ a c m, m = (plcs n o).length ∧ E = .returned (.slice a m c) ∧ Owns w.heap.size w' [(3, .slice a m c, nvals (plcs n o))] ∧ w.grownBy w' none

set_option maxHeartbeats 1600000 in
set_option maxRecDepth 100000 in
theorem places_any (n g c : Nat) (o : Nat → Bool) (w : World) (h : BRow w g n c o) (hn : n ≤ 100) : Calls Try.prog 47 #[.slice (some ⟨g, 0, none⟩) n c] w (PlcsPost n o w) := by
  have H : Hid (BRow w g n c o) := h
  clear h
  obtain ⟨i0, hio, hz0, hz1, hz2⟩ := info_parts Try.infoI3
  go_enter Try.func47, Try.ntmps47
  go_wp2_with fail
  go_loopw [3, 8] (fun u v wr => ∃ (k m : Nat) (a : Option Addr) (ca : Nat), k ≤ n ∧ v = .int .i64 k ∧ m = (plcs k o).length ∧ u = .slice a m ca ∧ Owns w.heap.size wr [(3, .slice a m ca, nvals (plcs k o))] ∧ w.grownBy wr none) (fun _ v _ => n - (intOf v).toNat)
  case atStart => exact ⟨0, 0, none, 0, by omega, rfl, rfl, rfl, by simpa [plcs, nvals] using (Owns.no w.heap.size w).empty 3, grown_refl _ _⟩
  case round =>
    rename World => wr
    obtain ⟨k, m, a, ca, hk, rfl, hm, rfl, ho, hg⟩ := hrel
    have O : Hid (Owns w.heap.size wr [(3, .slice a m ca, nvals (plcs k o))]) := ho
    have G : Hid (w.grownBy wr none) := hg
    have hm60 : m ≤ 100 := by have := plcs_len k o; omega
    have HM : Hid (m = (plcs k o).length) := hm
    clear ho hg hm
    by_cases hlt : k < n
    · have hki : (k : Int) < (n : Int) := by omega
      have c0 := (H.out.kept G.out).cell hlt
      cases hok : o k with
      | false =>
        rw [hok] at c0
        have HE : Hid (plcs (k + 1) o = plcs k o) := by show _ = _; rw [plcs_succ, hok]; simp
        clear hok
        go_wp2_with fail
        go_roundw
        case rel => exact ⟨k + 1, m, a, ca, by omega, by go_num, by rw [HE.out]; exact HM.out, rfl, by rw [HE.out]; exact O.out, G.out⟩
        case measure => simp [intOf]; omega
      | true =>
        rw [hok] at c0
        have HE : Hid (plcs (k + 1) o = plcs k o ++ [k]) := by show _ = _; rw [plcs_succ, hok]; simp
        have hO : Hid ((wr.alloc (.cells #[.int .i64 (k : Int)] 3)).ownsRow w.heap.size 3 1 (.slice a m ca) m (nvals (plcs k o))) := by
          have := (O.out.kept (grown_alloc wr (.cells #[.int .i64 (k : Int)] 3))).row
          rw [nvals_len, ← HM.out] at this
          exact this
        have HSz : Hid (w.heap.size ≤ wr.heap.size) := G.out.size
        clear hok
        go_wp2_with (at_builtin; refine wpList_append_lies _ rfl _ _ 23 rfl w.heap.size 3 i0 (.int .i64 0) 1 8 Try.underlying23 hio hz0 hz1 hz2 rfl (by decide) (.slice a m ca) m (nvals (plcs k o)) rfl hO.out ⟨wr.heap.size, 0, none⟩ 1 1 [.int .i64 (k : Int)] rfl rfl (cell_one_new wr _ _) (by intro u hu; simp at hu; subst hu; rfl) (by omega) (by unfold maxLen; omega) (by omega) (by have := HSz.out; simp; omega) (wr.heap.size + 1) (by simp) ?_; intro g3 cap w3 ho3 hg3 hat3 _)
        have O3 : Hid (Owns w.heap.size w3 [(3, .slice (some ⟨g3, 0, none⟩) (m + 1) cap, nvals (plcs (k + 1) o))]) := by
          have h2 := (O.out.kept (grown_alloc wr (.cells #[.int .i64 (k : Int)] 3))).append (news := [.int .i64 (k : Int)]) (n := m + 1) ho3 (by rw [nvals_len, ← HM.out]; simp) hg3 hat3 (by simp)
          show Owns _ _ _
          rw [HE.out]
          simpa [nvals] using h2
        have G3 : Hid (w.grownBy w3 none) := (O.out.kept (grown_alloc wr (.cells #[.int .i64 (k : Int)] 3))).frame (Nat.le_refl _) (grown_trans G.out (grown_alloc _ _)) hg3
        clear ho3 hg3 hat3 hO
        go_roundw
        case rel => exact ⟨k + 1, m + 1, _, cap, by omega, by go_num, by rw [HE.out, List.length_append, ← HM.out]; rfl, rfl, O3.out, G3.out⟩
        case measure => simp [intOf]; omega
    · have hki : ¬ (k : Int) < (n : Int) := by omega
      have hkn : k = n := by omega
      subst hkn
      go_wp2_with fail
      go_ret
      exact ⟨a, ca, m, HM.out, rfl, O.out, G.out⟩

def eqB (n : Nat) (o o' : Nat → Bool) : Bool := (List.range n).all fun p => o p == o' p
theorem eqB_iff {n : Nat} {o o' : Nat → Bool} : eqB n o o' = true ↔ ∀ p, p < n → o p = o' p := by simp [eqB]
theorem eqB_no {n : Nat} {o o' : Nat → Bool} {p : Nat} (hp : p < n) (h : o p ≠ o' p) : eqB n o o' = false := by
  cases e : eqB n o o' with
  | false => rfl
  | true => exact absurd (eqB_iff.1 e p hp) h

set_option maxHeartbeats 1600000 in
theorem equal_any (n g c g' c' : Nat) (o o' : Nat → Bool) (w : World) (h : BRow w g n c o) (h' : BRow w g' n c' o') (hn : n ≤ 100) : Calls Try.prog 42 #[.slice (some ⟨g, 0, none⟩) n c, .slice (some ⟨g', 0, none⟩) n c'] w fun e w' => e = .returned (.bool (eqB n o o')) ∧ w.grownBy w' none := by
  have H : Hid (BRow w g n c o) := h
  have H' : Hid (BRow w g' n c' o') := h'
  obtain ⟨b, hb⟩ : ∃ b, b = eqB n o o' := ⟨_, rfl⟩
  have HB : Hid (b = eqB n o o') := hb
  rw [← hb]
  clear h h' hb
  go_enter Try.func42, Try.ntmps42
  go_wp2_with fail
  go_loopw [13] (fun v wr => ∃ k : Nat, k ≤ n ∧ v = .int .i64 k ∧ (∀ p, p < k → o p = o' p) ∧ w.grownBy wr none) (fun v _ => n - (intOf v).toNat)
  case atStart => exact ⟨0, by omega, rfl, fun p hp => by omega, grown_refl _ _⟩
  case round =>
    rename World => wr
    obtain ⟨k, hk, rfl, he, hg⟩ := hrel
    have HE : Hid (∀ p, p < k → o p = o' p) := he
    have G : Hid (w.grownBy wr none) := hg
    clear he hg
    by_cases hlt : k < n
    · have hki : (k : Int) < (n : Int) := by omega
      have c0 := (H.out.kept G.out).cell hlt
      have c1 := (H'.out.kept G.out).cell hlt
      by_cases e : o k = o' k
      · rw [← e] at c1
        have HE2 : Hid (∀ p, p < k + 1 → o p = o' p) := fun p hp => by
          by_cases ep : p = k
          · subst ep; exact e
          · exact HE.out p (by omega)
        clear e
        generalize o k = bo at *
        cases bo
        all_goals
          go_wp2_with fail
          go_quiet (fail)
          go_wp2_with fail
          go_roundw
          case rel => exact ⟨k + 1, by omega, by go_num, HE2.out, grown_drewN G.out _⟩
          case measure => simp [intOf]; omega
      · have HN : Hid (eqB n o o' = false) := eqB_no hlt e
        have e2 : o' k = !o k := by cases hh : o k <;> cases hh' : o' k <;> simp_all
        rw [e2] at c1
        clear e e2
        generalize o k = bo at *
        cases bo
        all_goals
          go_wp2_with fail
          go_quiet (fail)
          go_wp2_with fail
          go_ret
          exact ⟨ret_bool (by rw [HB.out, HN.out]), grown_drewN G.out _⟩
    · have hki : ¬ (k : Int) < (n : Int) := by omega
      have hkn : k = n := by omega
      subst hkn
      have HT : Hid (eqB k o o' = true) := eqB_iff.2 HE.out
      go_wp2_with fail
      go_ret
      exact ⟨ret_bool (by rw [HB.out, HT.out]), G.out⟩

end Go.Proofs.Ytnlkdihfoekjmaa
