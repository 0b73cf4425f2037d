/- Whether a word may be. -/
/- Whether a word may be: the reference's function answers mayF, too. -/
/- Whether a word is accepted: the reference's After and Accepts. -/
import Derived.Test.YticmfgclkepgoaaGrow
import Derived.Test.YticmfgclkepgoaaTls
import Derived.Test.YticmfgclkepgoaaDRead
namespace Go.Proofs.Yticmfgclkepgoaa
open Go.RowKit
set_option linter.unusedVariables false

/-- What a function on words answers of one: 0, 1 (too long), 2 (a letter, or how many there are). -/
def mayF (n : Int) (zs : List Int) : Int :=
  if n < 1 ∨ 4 < n then 2 else if 60 < zs.length then 1 else if zs.all (fun x => decide (0 ≤ x) && decide (x < n)) then 0 else 2

theorem mayF_bad {n : Int} {zs : List Int} {k : Nat} (h1 : 1 ≤ n) (h2 : n ≤ 4) (h3 : zs.length ≤ 60) (hk : k < zs.length) (h : zs.getD k 0 < 0 ∨ n ≤ zs.getD k 0) : mayF n zs = 2 := by
  unfold mayF
  rw [if_neg (by omega), if_neg (by omega), if_neg]
  intro ha
  have := List.all_eq_true.1 ha (zs.getD k 0) (by rw [getD_lt hk]; exact List.getElem_mem hk)
  simp at this
  simp at h
  omega

theorem mayF_good {n : Int} {zs : List Int} (h1 : 1 ≤ n) (h2 : n ≤ 4) (h3 : zs.length ≤ 60) (h : ∀ k, k < zs.length → 0 ≤ zs.getD k 0 ∧ zs.getD k 0 < n) : mayF n zs = 0 := by
  unfold mayF
  rw [if_neg (by omega), if_neg (by omega), if_pos]
  refine List.all_eq_true.2 fun x hx => ?_
  obtain ⟨k, hk, rfl⟩ := List.getElem_of_mem hx
  have := h k hk
  rw [getD_lt hk] at this
  simp [this]

end Go.Proofs.Yticmfgclkepgoaa

namespace Go.Proofs.Yticmfgclkepgoaa
open Go.RowKit
set_option linter.unusedVariables false

set_option maxHeartbeats 400000 in
theorem mayR_any (n : Int) (a : Option Addr) (c : Nat) (zs : List Int) (w : World) (h : Ints w a zs) (hm : zs.length ≤ maxLen) :
    Calls Try.prog 12 #[.int .i64 n, .slice a zs.length c] w fun e w' => e = .returned (.int .i64 (mayF n zs)) ∧ w' = w := by
  unfold maxLen at hm
  by_cases h1 : n < 1
  · have hd : decide (n < 1) = true := by simpa using h1
    go_enter Try.func12, Try.ntmps12
    go_wp2
    go_ret
    exact ⟨ret_int (by unfold mayF; rw [if_pos (by omega)]), rfl⟩
  · by_cases h2 : 4 < n
    · have hd : decide (n < 1) = false := by simpa using h1
      go_enter Try.func12, Try.ntmps12
      go_wp2
      go_ret
      exact ⟨ret_int (by unfold mayF; rw [if_pos (by omega)]), rfl⟩
    · by_cases h3 : 60 < zs.length
      · have h3' : (60 : Int) < (zs.length : Int) := by omega
        go_enter Try.func12, Try.ntmps12
        go_wp2
        go_ret
        exact ⟨ret_int (by unfold mayF; rw [if_neg (by omega), if_pos (by omega)]), rfl⟩
      · have h3' : ¬ (60 : Int) < (zs.length : Int) := by omega
        go_enter Try.func12, Try.ntmps12
        go_wp2
        go_loop [5] (fun i => ∃ k : Nat, k ≤ zs.length ∧ i = .int .i64 k ∧ ∀ j, j < k → 0 ≤ zs.getD j 0 ∧ zs.getD j 0 < n) (fun i => zs.length - (intOf i).toNat)
        case atStart => exact ⟨0, Nat.zero_le _, rfl, fun j hj => by omega⟩
        case round =>
          obtain ⟨k, hk, rfl, hg⟩ := hrel
          have HG : Hid (∀ j, j < k → 0 ≤ zs.getD j 0 ∧ zs.getD j 0 < n) := hg
          clear hg
          by_cases hlt : k < zs.length
          · obtain ⟨b, off, rfl, hc⟩ := h.at hlt
            have hck := hc k hlt
            clear hc h
            generalize hx : zs.getD k 0 = x at hck
            have HX : Hid (zs.getD k 0 = x) := hx
            clear hx
            by_cases g1 : x < 0
            · have hd : decide (x < 0) = true := by simpa using g1
              go_wp2
              go_ret
              exact ⟨ret_int (mayF_bad (by omega) (by omega) (by omega) hlt (by rw [HX.out]; omega)).symm, rfl⟩
            · have hd : decide (x < 0) = false := by simpa using g1
              by_cases g2 : n ≤ x
              · go_wp2
                go_ret
                exact ⟨ret_int (mayF_bad (by omega) (by omega) (by omega) hlt (by rw [HX.out]; omega)).symm, rfl⟩
              · go_wp2
                go_round
                case rel =>
                  refine ⟨k + 1, by omega, by go_num, fun j hj => ?_⟩
                  by_cases hjk : j = k
                  · subst hjk; rw [HX.out]; omega
                  · exact HG.out j (by omega)
                case measure => simp [intOf]; omega
          · go_wp2
            go_ret
            exact ⟨ret_int (mayF_good (by omega) (by omega) (by omega) (fun j hj => HG.out j (by omega))).symm, rfl⟩

end Go.Proofs.Yticmfgclkepgoaa

namespace Go.Proofs.Yticmfgclkepgoaa
open Go.RowKit
set_option linter.unusedVariables false

theorem mayF_letters {n : Int} {zs : List Int} (h : mayF n zs = 0) : zs.length ≤ 60 ∧ ∀ k, k < zs.length → 0 ≤ zs.getD k 0 ∧ zs.getD k 0 < n := by
  unfold mayF at h
  split at h
  · cases h
  · split at h
    · cases h
    · split at h
      · next h1 =>
        refine ⟨by omega, fun k hk => ?_⟩
        have := List.all_eq_true.1 h1 (zs.getD k 0) (by rw [getD_lt hk]; exact List.getElem_mem hk)
        simpa using this
      · cases h

theorem go_take (d : Dfa) (s : Nat) (z : List Int) {k : Nat} (hk : k < z.length) : d.go s (z.take (k + 1)) = d.nx (d.go s (z.take k)) (z.getD k 0).toNat := by
  unfold Dfa.go
  rw [List.take_add_one, List.foldl_append, getD_lt hk]
  simp [hk]

theorem go_take_lt {d : Dfa} (hG : Good d) {s : Nat} (hs : s < d.R.length) {z : List Int} (hz : ∀ k, k < z.length → 0 ≤ z.getD k 0 ∧ z.getD k 0 < d.L) (k : Nat) : d.go s (z.take k) < d.R.length := by
  refine hG.go_lt hs _ fun x hx => ?_
  obtain ⟨i, hi, rfl⟩ := List.getElem_of_mem (List.mem_of_mem_take hx)
  have := hz i hi
  rwa [getD_lt hi] at this

def accB (d : Dfa) (z : List Int) : Bool := d.mk1 (d.go d.S.toNat z)

set_option maxHeartbeats 1600000 in
set_option maxRecDepth 100000 in
theorem after_any (L S : Int) (q : Nat) (R : List (List Int)) (M : List Int) (a a' az : Option Addr) (c c' cz : Nat) (z : List Int) (w : World) (h : DetAt w ⟨L, S, R, M⟩ a a') (hG : Good ⟨L, S, R, M⟩) (hz : Ints w az z) (hzm : z.length ≤ maxLen)
    (hlet : ∀ k, k < z.length → 0 ≤ z.getD k 0 ∧ z.getD k 0 < L) (hq : q < R.length) :
    Calls Try.prog 19 #[.agg #[.int .i64 L, .int .i64 S, .slice a R.length c, .slice a' M.length c'], .int .i64 q, .slice az z.length cz] w fun e w' => e = .returned (.int .i64 ((Dfa.go ⟨L, S, R, M⟩ q z : Nat) : Int)) ∧ w.grownBy w' none := by
  have HG : Hid (∀ o, w.grownBy (w.alloc o) none) := fun o => grown_alloc w o
  have H : Hid (DetAt w ⟨L, S, R, M⟩ a a') := h
  have HZ : Hid (Ints w az z) := hz
  have GD : Hid (Good ⟨L, S, R, M⟩) := hG
  have HL : Hid (∀ k, k < z.length → 0 ≤ z.getD k 0 ∧ z.getD k 0 < L) := hlet
  have hn3 : R.length ≤ 3000 := hG.n3
  have hL4 : 1 ≤ L ∧ L ≤ 4 := ⟨hG.l1, hG.l4⟩
  unfold maxLen at hzm
  clear h hz hG hlet
  obtain ⟨y, hy⟩ : ∃ y, Dfa.go ⟨L, S, R, M⟩ q z = y := ⟨_, rfl⟩
  rw [hy]
  have HY : Hid (Dfa.go ⟨L, S, R, M⟩ q z = y) := hy
  clear hy
  go_enter Try.func19, Try.ntmps19
  go_wp2_with fail
  generalize hO : Obj.cells #[Value.int IntKind.i64 L, Value.int IntKind.i64 S, Value.slice a R.length c, Value.slice a' M.length c'] 25 = O
  have HO : Hid (Obj.cells #[Value.int IntKind.i64 L, Value.int IntKind.i64 S, Value.slice a R.length c, Value.slice a' M.length c'] 25 = O) := hO
  clear hO
  go_loopw [1, 7] (fun v i wr => ∃ k : Nat, k ≤ z.length ∧ i = .int .i64 k ∧ v = .int .i64 ((Dfa.go ⟨L, S, R, M⟩ q (z.take k) : Nat) : Int) ∧ (w.alloc O).grownBy wr none) (fun _ i _ => z.length - (intOf i).toNat)
  case atStart => exact ⟨0, Nat.zero_le _, rfl, by simp [Dfa.go], grown_refl _ _⟩
  case round =>
    obtain ⟨k, hk, rfl, rfl, hg⟩ := hrel
    have hgl : Dfa.go ⟨L, S, R, M⟩ q (z.take k) < R.length := go_take_lt GD.out (by simp only; omega) HL.out k
    have G : Hid ((w.alloc O).grownBy wr none) := hg
    have G2 : Hid (w.grownBy wr none) := grown_trans (HG.out _) hg
    obtain ⟨b0, b1, b2, b3⟩ := box4 (HO.out ▸ hg)
    clear hg
    by_cases hlt : k < z.length
    · obtain ⟨hx0, hx1⟩ := HL.out k hlt
      have HT : Hid (_ = _) := go_take ⟨L, S, R, M⟩ q z hlt
      obtain ⟨bz, oz, rfl, hcz⟩ := HZ.out.at hlt
      have hcz' : wr.cell? ⟨bz, oz + k, none⟩ = some (.int .i64 (z.getD k 0)) := G2.out.cell (hcz k hlt) (by simp)
      obtain ⟨b, off, bx, ox, cx, rfl, hr1, hr2⟩ := step_reads (l := (z.getD k 0).toNat) (H.out.grown G2.out) GD.out hgl (by omega)
      clear hcz
      generalize hgk : Dfa.go ⟨L, S, R, M⟩ q (z.take k) = s at *
      have ht0 : (z.getD k 0) = ((z.getD k 0).toNat : Int) := by omega
      generalize hlk : (z.getD k 0).toNat = l at *
      rw [ht0] at hcz' hx1 hx0
      have hnx : Dfa.nx ⟨L, S, R, M⟩ s l < R.length := GD.out.nx_lt hgl (by simp only; omega)
      generalize hn' : Dfa.nx ⟨L, S, R, M⟩ s l = t at *
      have hLt : (L.toNat : Int) = L := by omega
      have hlL : (l : Int) < (L.toNat : Int) := by omega
      clear hn' hgk ht0 hlk
      go_wp2_with fail
      go_quiet (fail)
      go_wp2_with fail
      go_roundw
      case rel => exact ⟨k + 1, by omega, by go_num, by rw [HT.out], grown_drewN G.out _⟩
      case measure => simp [intOf]; omega
    · have hkz : k = z.length := by omega
      subst hkz
      rw [List.take_length, HY.out]
      go_wp2_with fail
      go_ret
      exact ⟨rfl, G2.out⟩

set_option maxHeartbeats 1600000 in
set_option maxRecDepth 100000 in
theorem acceptsR_any (L S : Int) (R : List (List Int)) (M : List Int) (a a' az : Option Addr) (c c' cz : Nat) (z : List Int) (w : World) (h : DetAt w ⟨L, S, R, M⟩ a a') (hG : Good ⟨L, S, R, M⟩) (hz : Ints w az z) (hzm : z.length ≤ maxLen)
    (hlet : ∀ k, k < z.length → 0 ≤ z.getD k 0 ∧ z.getD k 0 < L) :
    Calls Try.prog 9 #[.agg #[.int .i64 L, .int .i64 S, .slice a R.length c, .slice a' M.length c'], .slice az z.length cz] w fun e w' => e = .returned (.bool (accB ⟨L, S, R, M⟩ z)) ∧ w.grownBy w' none := by
  have HG : Hid (∀ o, w.grownBy (w.alloc o) none) := fun o => grown_alloc w o
  have hS : 0 ≤ S ∧ S < R.length := hG.s
  have hn3 : R.length ≤ 3000 := hG.n3
  have hgl : Dfa.go ⟨L, S, R, M⟩ S.toNat z < R.length := by have := go_take_lt hG (s := S.toNat) (by simp only; omega) hlet z.length; rwa [List.take_length] at this
  have HA : Hid (∀ W, w.grownBy W none → Calls Try.prog 19 #[.agg #[.int .i64 L, .int .i64 S, .slice a R.length c, .slice a' M.length c'], .int .i64 S, .slice az z.length cz] W fun e w' => e = .returned (.int .i64 ((Dfa.go ⟨L, S, R, M⟩ S.toNat z : Nat) : Int)) ∧ W.grownBy w' none) := fun W hW => by
    have := after_any L S S.toNat R M a a' az c c' cz z W (h.grown hW) hG (hz.grown hW) hzm hlet (by omega)
    rwa [Int.toNat_of_nonneg hS.1] at this
  obtain ⟨b, off, rfl, hm⟩ := mark_reads h hG hgl
  have HM : Hid (w.cell? ⟨b, off + Dfa.go ⟨L, S, R, M⟩ S.toNat z, none⟩ = some (.int .i64 (M.getD (Dfa.go ⟨L, S, R, M⟩ S.toNat z) 0))) := hm
  have hsM : Dfa.go ⟨L, S, R, M⟩ S.toNat z < M.length := by have := hG.ml; simp only at this; rw [this]; exact hgl
  have hbd : ((M.getD (Dfa.go ⟨L, S, R, M⟩ S.toNat z) 0) == 1) = accB ⟨L, S, R, M⟩ z := by simp [accB, Dfa.mk1]; rfl
  generalize accB ⟨L, S, R, M⟩ z = bb at *
  generalize Dfa.go ⟨L, S, R, M⟩ S.toNat z = s at *
  generalize M.getD s 0 = x at *
  have hsM' : (s : Int) < (M.length : Int) := by omega
  clear h hG hz hlet hm
  unfold maxLen at hzm
  go_enter Try.func9, Try.ntmps9
  go_wp2_with fail
  refine (HA.out _ (HG.out _)).mono ?_
  rintro e w2 ⟨rfl, hg2⟩
  obtain ⟨b0, b1, b2, b3⟩ := box4 hg2
  have G2 : Hid (w.grownBy w2 none) := grown_trans (HG.out _) hg2
  have hm2 : w2.cell? ⟨b, off + s, none⟩ = some (.int .i64 x) := G2.out.cell HM.out (by simp)
  clear hg2
  go_wp2_with fail
  go_ret
  exact ⟨by simp, G2.out⟩

end Go.Proofs.Yticmfgclkepgoaa
