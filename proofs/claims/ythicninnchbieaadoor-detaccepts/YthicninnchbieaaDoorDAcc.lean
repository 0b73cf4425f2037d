/- Whether a word is accepted: the program's Accepts, the reference's After and Accepts. -/
import Derived.Test.YthicninnchbieaaDoorDRCheck
import Derived.Test.YthicninnchbieaaDoorMay
namespace Go.Proofs.YthicninnchbieaaDoor
open Go.RowKit
set_option linter.unusedVariables false

theorem mayF_letters {n : Int} {zs : List Int} (h : mayF n zs = 0) : zs.length ≤ 60 ∧ ∀ k, k < zs.length → 0 ≤ zs.getD k 0 ∧ zs.getD k 0 < n := by
  unfold mayF at h
  split at h
  · cases h
  · split at h
    · cases h
    · split at h
      · next h1 =>
        refine ⟨by omega, fun k hk => ?_⟩
        have := List.all_eq_true.1 h1 (zs.getD k 0) (by rw [getD_lt hk]; exact List.getElem_mem hk)
        simpa using this
      · cases h

theorem go_take (d : Dfa) (s : Nat) (z : List Int) {k : Nat} (hk : k < z.length) : d.go s (z.take (k + 1)) = d.nx (d.go s (z.take k)) (z.getD k 0).toNat := by
  unfold Dfa.go
  rw [List.take_add_one, List.foldl_append, getD_lt hk]
  simp [hk]

theorem go_take_lt {d : Dfa} (hG : Good d) {s : Nat} (hs : s < d.R.length) {z : List Int} (hz : ∀ k, k < z.length → 0 ≤ z.getD k 0 ∧ z.getD k 0 < d.L) (k : Nat) : d.go s (z.take k) < d.R.length := by
  refine hG.go_lt hs _ fun x hx => ?_
  obtain ⟨i, hi, rfl⟩ := List.getElem_of_mem (List.mem_of_mem_take hx)
  have := hz i hi
  rwa [getD_lt hi] at this

/-- What is answered of an automaton and a word: the fault, and whether it is accepted. -/
def accE (d : Dfa) (z : List Int) : Int := if checkF d = 0 then mayF d.L z else checkF d
def accB (d : Dfa) (z : List Int) : Bool := d.mk1 (d.go d.S.toNat z)

/-- What a step reads. -/
theorem step_reads {w : World} {L S : Int} {R : List (List Int)} {M : List Int} {a a' : Option Addr} (h : DetAt w ⟨L, S, R, M⟩ a a') (hG : Good ⟨L, S, R, M⟩) {s l : Nat} (hs : s < R.length) (hl : (l : Int) < L) :
    ∃ b off bx ox cx, a = some ⟨b, off, none⟩ ∧ w.cell? ⟨b, off + s, none⟩ = some (.slice (some ⟨bx, ox, none⟩) L.toNat cx) ∧ w.cell? ⟨bx, ox + l, none⟩ = some (.int .i64 ((Dfa.nx ⟨L, S, R, M⟩ s l : Nat) : Int)) := by
  obtain ⟨b, off, ha, hc⟩ := h.rows.at hs
  obtain ⟨x, cx, hck, hix, hlx⟩ := hc s hs
  have hrow := hG.row hs
  have hl' : l < L.toNat := by omega
  simp only at hrow hck hix
  rw [hrow] at hck
  obtain ⟨bx, ox, rfl, hcx⟩ := hix.at (k := l) (by rw [hrow]; exact hl')
  have := hcx l (by rw [hrow]; exact hl')
  have e := hG.nx_eq hs hl'
  simp only at e
  rw [e] at this
  exact ⟨b, off, bx, ox, cx, ha, hck, this⟩

theorem mark_reads {w : World} {L S : Int} {R : List (List Int)} {M : List Int} {a a' : Option Addr} (h : DetAt w ⟨L, S, R, M⟩ a a') (hG : Good ⟨L, S, R, M⟩) {s : Nat} (hs : s < R.length) :
    ∃ b off, a' = some ⟨b, off, none⟩ ∧ w.cell? ⟨b, off + s, none⟩ = some (.int .i64 (M.getD s 0)) := by
  have hl : s < M.length := by have := hG.ml; simp only at this; omega
  obtain ⟨b, off, ha, hc⟩ := h.marks.at hl
  exact ⟨b, off, ha, hc s hl⟩

set_option maxHeartbeats 1600000 in
set_option maxRecDepth 100000 in
theorem accepts_any (L S : Int) (R : List (List Int)) (M : List Int) (a a' az : Option Addr) (c c' cz : Nat) (z : List Int) (w : World) (h : DetAt w ⟨L, S, R, M⟩ a a') (hz : Ints w az z) (hzm : z.length ≤ maxLen) :
    Calls Tryd.prog 19 #[.agg #[.int .i64 L, .int .i64 S, .slice a R.length c, .slice a' M.length c'], .slice az z.length cz] w fun e w' => e = .returned (.tuple #[.bool (decide (accE ⟨L, S, R, M⟩ z = 0) && accB ⟨L, S, R, M⟩ z), .int .i64 (accE ⟨L, S, R, M⟩ z)]) ∧ w.grownBy w' none := by
  have HG : Hid (∀ o, w.grownBy (w.alloc o) none) := fun o => grown_alloc w o
  have HC : Hid (∀ W, w.grownBy W none → Calls Tryd.prog 17 #[.agg #[.int .i64 L, .int .i64 S, .slice a R.length c, .slice a' M.length c']] W fun e w' => e = .returned (.int .i64 (checkF ⟨L, S, R, M⟩)) ∧ W.grownBy w' none) := fun W hW => check_any L S R M a a' c c' W (h.grown hW)
  have HY : Hid (∀ W, w.grownBy W none → Calls Tryd.prog 44 #[.int .i64 L, .slice az z.length cz] W fun e w' => e = .returned (.int .i64 (mayF L z)) ∧ w' = W) := fun W hW => may_any L az cz z W (hz.grown hW) hzm
  have H : Hid (DetAt w ⟨L, S, R, M⟩ a a') := h
  have HZ : Hid (Ints w az z) := hz
  unfold maxLen at hzm
  clear h hz
  by_cases h1 : checkF ⟨L, S, R, M⟩ = 0
  · have hG := good_of_check h1
    rw [h1] at HC
    have e1 : accE ⟨L, S, R, M⟩ z = mayF L z := by unfold accE; rw [if_pos h1]
    rw [e1]
    clear e1
    by_cases h2 : mayF L z = 0
    · obtain ⟨hz60, hlet⟩ := mayF_letters h2
      rw [h2] at HY ⊢
      simp only [decide_true, Bool.true_and]
      obtain ⟨bb, hbb⟩ : ∃ bb, accB ⟨L, S, R, M⟩ z = bb := ⟨_, rfl⟩
      rw [hbb]
      have HB : Hid (accB ⟨L, S, R, M⟩ z = bb) := hbb
      have GD : Hid (Good ⟨L, S, R, M⟩) := hG
      have HL : Hid (∀ k, k < z.length → 0 ≤ z.getD k 0 ∧ z.getD k 0 < L) := hlet
      have hS : 0 ≤ S ∧ S < R.length := hG.s
      have hn3 : R.length ≤ 3000 := hG.n3
      have hL4 : 1 ≤ L ∧ L ≤ 4 := ⟨hG.l1, hG.l4⟩
      clear h1 h2 hbb hG hlet
      go_enter Tryd.func19, Tryd.ntmps19
      go_wp2_with fail
      refine (HC.out _ (HG.out _)).mono ?_
      rintro e w2 ⟨rfl, hg2⟩
      obtain ⟨b0, b1, b2, b3⟩ := box4 hg2
      have G2 : Hid (w.grownBy w2 none) := grown_trans (HG.out _) hg2
      clear hg2
      go_wp2_with fail
      refine (HY.out _ G2.out).mono ?_
      rintro e w3 ⟨rfl, rfl⟩
      go_wp2_with fail
      go_loop [8, 27] (fun v i => ∃ k : Nat, k ≤ z.length ∧ i = .int .i64 k ∧ v = .int .i64 ((Dfa.go ⟨L, S, R, M⟩ S.toNat (z.take k) : Nat) : Int)) (fun _ i => z.length - (intOf i).toNat)
      case atStart => exact ⟨0, Nat.zero_le _, rfl, by simp [Dfa.go]; omega⟩
      case round =>
        obtain ⟨k, hk, rfl, rfl⟩ := hrel
        have hgl : Dfa.go ⟨L, S, R, M⟩ S.toNat (z.take k) < R.length := go_take_lt GD.out (by simp only; omega) HL.out k
        by_cases hlt : k < z.length
        · obtain ⟨hx0, hx1⟩ := HL.out k hlt
          have HT : Hid (_ = _) := go_take ⟨L, S, R, M⟩ S.toNat z hlt
          obtain ⟨bz, oz, rfl, hcz⟩ := HZ.out.at hlt
          have hcz' : w3.cell? ⟨bz, oz + k, none⟩ = some (.int .i64 (z.getD k 0)) := G2.out.cell (hcz k hlt) (by simp)
          obtain ⟨b, off, bx, ox, cx, rfl, hr1, hr2⟩ := step_reads (l := (z.getD k 0).toNat) (H.out.grown G2.out) GD.out hgl (by omega)
          clear hcz
          generalize hgk : Dfa.go ⟨L, S, R, M⟩ S.toNat (z.take k) = s at *
          have ht0 : (z.getD k 0) = ((z.getD k 0).toNat : Int) := by omega
          generalize hlk : (z.getD k 0).toNat = l at *
          rw [ht0] at hcz' hx1 hx0
          have hnx : Dfa.nx ⟨L, S, R, M⟩ s l < R.length := GD.out.nx_lt hgl (by simp only; omega)
          generalize hn' : Dfa.nx ⟨L, S, R, M⟩ s l = t at *
          have hLt : (L.toNat : Int) = L := by omega
          have hlL : (l : Int) < (L.toNat : Int) := by omega
          clear hn' hgk ht0 hlk
          go_wp2_with fail
          go_round
          case rel => exact ⟨k + 1, by omega, by go_num, by rw [HT.out]⟩
          case measure => simp [intOf]; omega
        · have hkz : k = z.length := by omega
          obtain ⟨b, off, rfl, hm⟩ := mark_reads (H.out.grown G2.out) GD.out hgl
          have hsM : Dfa.go ⟨L, S, R, M⟩ S.toNat (z.take k) < M.length := by have := GD.out.ml; simp only at this; rw [this]; exact hgl
          have hBB := HB.out
          unfold accB at hBB
          rw [hkz, List.take_length] at hm hgl hsM
          rw [hkz, List.take_length]
          have hbd : ((M.getD (Dfa.go ⟨L, S, R, M⟩ S.toNat z) 0) == 1) = bb := by rw [← hBB]; simp [Dfa.mk1]; rfl
          generalize Dfa.go ⟨L, S, R, M⟩ S.toNat z = s at *
          generalize M.getD s 0 = x at *
          have hsM' : (s : Int) < (M.length : Int) := by omega
          clear hBB
          subst hkz
          go_wp2_with fail
          first | (go_ret2; exact ⟨by simp, G2.out⟩) | exact bodyPost_ret (v := .tuple #[.bool bb, .int .i64 0]) (by simp [results, Tryd.results19, go_sem, hbd]) rfl ⟨rfl, G2.out⟩
    · obtain ⟨y, hy⟩ : ∃ y, mayF L z = y := ⟨_, rfl⟩
      rw [hy] at HY h2 ⊢
      have hy' : (y != 0) = true := by simpa using h2
      have hy'' : (y == 0) = false := by simpa using h2
      have hy3 : (decide (y = 0) && accB ⟨L, S, R, M⟩ z) = false := by simp [h2]
      rw [hy3]
      clear h1 hG hy hy3
      go_enter Tryd.func19, Tryd.ntmps19
      go_wp2_with fail
      refine (HC.out _ (HG.out _)).mono ?_
      rintro e w2 ⟨rfl, hg2⟩
      obtain ⟨b0, b1, b2, b3⟩ := box4 hg2
      have G2 : Hid (w.grownBy w2 none) := grown_trans (HG.out _) hg2
      clear hg2
      go_wp2_with fail
      refine (HY.out _ G2.out).mono ?_
      rintro e w3 ⟨rfl, rfl⟩
      go_wp2_with fail
      first | (go_ret2; exact ⟨rfl, G2.out⟩) | exact bodyPost_ret (v := .tuple #[.bool false, .int .i64 y]) (by simp [results, Tryd.results19, go_sem]) rfl ⟨rfl, G2.out⟩
  · have e1 : accE ⟨L, S, R, M⟩ z = checkF ⟨L, S, R, M⟩ := by unfold accE; rw [if_neg h1]
    rw [e1]
    obtain ⟨y, hy⟩ : ∃ y, checkF ⟨L, S, R, M⟩ = y := ⟨_, rfl⟩
    rw [hy] at HC h1 ⊢
    have hy' : (y != 0) = true := by simpa using h1
    have hy'' : (y == 0) = false := by simpa using h1
    have hy3 : (decide (y = 0) && accB ⟨L, S, R, M⟩ z) = false := by simp [h1]
    rw [hy3]
    clear hy e1 hy3
    go_enter Tryd.func19, Tryd.ntmps19
    go_wp2_with fail
    refine (HC.out _ (HG.out _)).mono ?_
    rintro e w2 ⟨rfl, hg2⟩
    have G2 : Hid (w.grownBy w2 none) := grown_trans (HG.out _) hg2
    clear hg2
    go_wp2_with fail
    first | (go_ret2; exact ⟨rfl, G2.out⟩) | exact bodyPost_ret (v := .tuple #[.bool false, .int .i64 y]) (by simp [results, Tryd.results19, go_sem]) rfl ⟨rfl, G2.out⟩

set_option maxHeartbeats 1600000 in
set_option maxRecDepth 100000 in
theorem after_any (L S : Int) (q : Nat) (R : List (List Int)) (M : List Int) (a a' az : Option Addr) (c c' cz : Nat) (z : List Int) (w : World) (h : DetAt w ⟨L, S, R, M⟩ a a') (hG : Good ⟨L, S, R, M⟩) (hz : Ints w az z) (hzm : z.length ≤ maxLen)
    (hlet : ∀ k, k < z.length → 0 ≤ z.getD k 0 ∧ z.getD k 0 < L) (hq : q < R.length) :
    Calls Tryd.prog 34 #[.agg #[.int .i64 L, .int .i64 S, .slice a R.length c, .slice a' M.length c'], .int .i64 q, .slice az z.length cz] w fun e w' => e = .returned (.int .i64 ((Dfa.go ⟨L, S, R, M⟩ q z : Nat) : Int)) ∧ w.grownBy w' none := by
  have HG : Hid (∀ o, w.grownBy (w.alloc o) none) := fun o => grown_alloc w o
  have H : Hid (DetAt w ⟨L, S, R, M⟩ a a') := h
  have HZ : Hid (Ints w az z) := hz
  have GD : Hid (Good ⟨L, S, R, M⟩) := hG
  have HL : Hid (∀ k, k < z.length → 0 ≤ z.getD k 0 ∧ z.getD k 0 < L) := hlet
  have hn3 : R.length ≤ 3000 := hG.n3
  have hL4 : 1 ≤ L ∧ L ≤ 4 := ⟨hG.l1, hG.l4⟩
  unfold maxLen at hzm
  clear h hz hG hlet
  obtain ⟨y, hy⟩ : ∃ y, Dfa.go ⟨L, S, R, M⟩ q z = y := ⟨_, rfl⟩
  rw [hy]
  have HY : Hid (Dfa.go ⟨L, S, R, M⟩ q z = y) := hy
  clear hy
  go_enter Tryd.func34, Tryd.ntmps34
  go_wp2_with fail
  generalize hO : Obj.cells #[Value.int IntKind.i64 L, Value.int IntKind.i64 S, Value.slice a R.length c, Value.slice a' M.length c'] 25 = O
  have HO : Hid (Obj.cells #[Value.int IntKind.i64 L, Value.int IntKind.i64 S, Value.slice a R.length c, Value.slice a' M.length c'] 25 = O) := hO
  clear hO
  go_loopw [1, 7] (fun v i wr => ∃ k : Nat, k ≤ z.length ∧ i = .int .i64 k ∧ v = .int .i64 ((Dfa.go ⟨L, S, R, M⟩ q (z.take k) : Nat) : Int) ∧ (w.alloc O).grownBy wr none) (fun _ i _ => z.length - (intOf i).toNat)
  case atStart => exact ⟨0, Nat.zero_le _, rfl, by simp [Dfa.go], grown_refl _ _⟩
  case round =>
    obtain ⟨k, hk, rfl, rfl, hg⟩ := hrel
    have hgl : Dfa.go ⟨L, S, R, M⟩ q (z.take k) < R.length := go_take_lt GD.out (by simp only; omega) HL.out k
    have G : Hid ((w.alloc O).grownBy wr none) := hg
    have G2 : Hid (w.grownBy wr none) := grown_trans (HG.out _) hg
    obtain ⟨b0, b1, b2, b3⟩ := box4 (HO.out ▸ hg)
    clear hg
    by_cases hlt : k < z.length
    · obtain ⟨hx0, hx1⟩ := HL.out k hlt
      have HT : Hid (_ = _) := go_take ⟨L, S, R, M⟩ q z hlt
      obtain ⟨bz, oz, rfl, hcz⟩ := HZ.out.at hlt
      have hcz' : wr.cell? ⟨bz, oz + k, none⟩ = some (.int .i64 (z.getD k 0)) := G2.out.cell (hcz k hlt) (by simp)
      obtain ⟨b, off, bx, ox, cx, rfl, hr1, hr2⟩ := step_reads (l := (z.getD k 0).toNat) (H.out.grown G2.out) GD.out hgl (by omega)
      clear hcz
      generalize hgk : Dfa.go ⟨L, S, R, M⟩ q (z.take k) = s at *
      have ht0 : (z.getD k 0) = ((z.getD k 0).toNat : Int) := by omega
      generalize hlk : (z.getD k 0).toNat = l at *
      rw [ht0] at hcz' hx1 hx0
      have hnx : Dfa.nx ⟨L, S, R, M⟩ s l < R.length := GD.out.nx_lt hgl (by simp only; omega)
      generalize hn' : Dfa.nx ⟨L, S, R, M⟩ s l = t at *
      have hLt : (L.toNat : Int) = L := by omega
      have hlL : (l : Int) < (L.toNat : Int) := by omega
      clear hn' hgk ht0 hlk
      go_wp2_with fail
      go_quiet (fail)
      go_wp2_with fail
      go_roundw
      case rel => exact ⟨k + 1, by omega, by go_num, by rw [HT.out], grown_drewN G.out _⟩
      case measure => simp [intOf]; omega
    · have hkz : k = z.length := by omega
      subst hkz
      rw [List.take_length, HY.out]
      go_wp2_with fail
      go_ret
      exact ⟨rfl, G2.out⟩

set_option maxHeartbeats 1600000 in
set_option maxRecDepth 100000 in
theorem acceptsR_any (L S : Int) (R : List (List Int)) (M : List Int) (a a' az : Option Addr) (c c' cz : Nat) (z : List Int) (w : World) (h : DetAt w ⟨L, S, R, M⟩ a a') (hG : Good ⟨L, S, R, M⟩) (hz : Ints w az z) (hzm : z.length ≤ maxLen)
    (hlet : ∀ k, k < z.length → 0 ≤ z.getD k 0 ∧ z.getD k 0 < L) :
    Calls Tryd.prog 12 #[.agg #[.int .i64 L, .int .i64 S, .slice a R.length c, .slice a' M.length c'], .slice az z.length cz] w fun e w' => e = .returned (.bool (accB ⟨L, S, R, M⟩ z)) ∧ w.grownBy w' none := by
  have HG : Hid (∀ o, w.grownBy (w.alloc o) none) := fun o => grown_alloc w o
  have hS : 0 ≤ S ∧ S < R.length := hG.s
  have hn3 : R.length ≤ 3000 := hG.n3
  have hgl : Dfa.go ⟨L, S, R, M⟩ S.toNat z < R.length := by have := go_take_lt hG (s := S.toNat) (by simp only; omega) hlet z.length; rwa [List.take_length] at this
  have HA : Hid (∀ W, w.grownBy W none → Calls Tryd.prog 34 #[.agg #[.int .i64 L, .int .i64 S, .slice a R.length c, .slice a' M.length c'], .int .i64 S, .slice az z.length cz] W fun e w' => e = .returned (.int .i64 ((Dfa.go ⟨L, S, R, M⟩ S.toNat z : Nat) : Int)) ∧ W.grownBy w' none) := fun W hW => by
    have := after_any L S S.toNat R M a a' az c c' cz z W (h.grown hW) hG (hz.grown hW) hzm hlet (by omega)
    rwa [Int.toNat_of_nonneg hS.1] at this
  obtain ⟨b, off, rfl, hm⟩ := mark_reads h hG hgl
  have HM : Hid (w.cell? ⟨b, off + Dfa.go ⟨L, S, R, M⟩ S.toNat z, none⟩ = some (.int .i64 (M.getD (Dfa.go ⟨L, S, R, M⟩ S.toNat z) 0))) := hm
  have hsM : Dfa.go ⟨L, S, R, M⟩ S.toNat z < M.length := by have := hG.ml; simp only at this; rw [this]; exact hgl
  have hbd : ((M.getD (Dfa.go ⟨L, S, R, M⟩ S.toNat z) 0) == 1) = accB ⟨L, S, R, M⟩ z := by simp [accB, Dfa.mk1]; rfl
  generalize accB ⟨L, S, R, M⟩ z = bb at *
  generalize Dfa.go ⟨L, S, R, M⟩ S.toNat z = s at *
  generalize M.getD s 0 = x at *
  have hsM' : (s : Int) < (M.length : Int) := by omega
  clear h hG hz hlet hm
  unfold maxLen at hzm
  go_enter Tryd.func12, Tryd.ntmps12
  go_wp2_with fail
  refine (HA.out _ (HG.out _)).mono ?_
  rintro e w2 ⟨rfl, hg2⟩
  obtain ⟨b0, b1, b2, b3⟩ := box4 hg2
  have G2 : Hid (w.grownBy w2 none) := grown_trans (HG.out _) hg2
  have hm2 : w2.cell? ⟨b, off + s, none⟩ = some (.int .i64 x) := G2.out.cell HM.out (by simp)
  clear hg2
  go_wp2_with fail
  go_ret
  exact ⟨by simp, G2.out⟩

end Go.Proofs.YthicninnchbieaaDoor
