/- Whether a word is accepted: the reference's After and Accepts. -/
import Derived.Test.YtkfhdbapfpongaaDoorDTells
import Derived.Test.YtkfhdbapfpongaaDoorDRead
import Derived.Test.YtkfhdbapfpongaaDoorMay
namespace Go.Proofs.YtkfhdbapfpongaaDoor
open Go.RowKit
set_option linter.unusedVariables false

theorem mayF_letters {n : Int} {zs : List Int} (h : mayF n zs = 0) : zs.length ≤ 60 ∧ ∀ k, k < zs.length → 0 ≤ zs.getD k 0 ∧ zs.getD k 0 < n := by
  unfold mayF at h
  split at h
  · cases h
  · split at h
    · cases h
    · split at h
      · next h1 =>
        refine ⟨by omega, fun k hk => ?_⟩
        have := List.all_eq_true.1 h1 (zs.getD k 0) (by rw [getD_lt hk]; exact List.getElem_mem hk)
        simpa using this
      · cases h

theorem go_take (d : Dfa) (s : Nat) (z : List Int) {k : Nat} (hk : k < z.length) : d.go s (z.take (k + 1)) = d.nx (d.go s (z.take k)) (z.getD k 0).toNat := by
  unfold Dfa.go
  rw [List.take_add_one, List.foldl_append, getD_lt hk]
  simp [hk]

theorem go_take_lt {d : Dfa} (hG : Good d) {s : Nat} (hs : s < d.R.length) {z : List Int} (hz : ∀ k, k < z.length → 0 ≤ z.getD k 0 ∧ z.getD k 0 < d.L) (k : Nat) : d.go s (z.take k) < d.R.length := by
  refine hG.go_lt hs _ fun x hx => ?_
  obtain ⟨i, hi, rfl⟩ := List.getElem_of_mem (List.mem_of_mem_take hx)
  have := hz i hi
  rwa [getD_lt hi] at this

def accB (d : Dfa) (z : List Int) : Bool := d.mk1 (d.go d.S.toNat z)

set_option maxHeartbeats 1600000 in
set_option maxRecDepth 100000 in
theorem after_any (L S : Int) (q : Nat) (R : List (List Int)) (M : List Int) (a a' az : Option Addr) (c c' cz : Nat) (z : List Int) (w : World) (h : DetAt w ⟨L, S, R, M⟩ a a') (hG : Good ⟨L, S, R, M⟩) (hz : Ints w az z) (hzm : z.length ≤ maxLen)
    (hlet : ∀ k, k < z.length → 0 ≤ z.getD k 0 ∧ z.getD k 0 < L) (hq : q < R.length) :
    Calls Tryd.prog 15 #[.agg #[.int .i64 L, .int .i64 S, .slice a R.length c, .slice a' M.length c'], .int .i64 q, .slice az z.length cz] w fun e w' => e = .returned (.int .i64 ((Dfa.go ⟨L, S, R, M⟩ q z : Nat) : Int)) ∧ w.grownBy w' none := by
  have HG : Hid (∀ o, w.grownBy (w.alloc o) none) := fun o => grown_alloc w o
  have H : Hid (DetAt w ⟨L, S, R, M⟩ a a') := h
  have HZ : Hid (Ints w az z) := hz
  have GD : Hid (Good ⟨L, S, R, M⟩) := hG
  have HL : Hid (∀ k, k < z.length → 0 ≤ z.getD k 0 ∧ z.getD k 0 < L) := hlet
  have hn3 : R.length ≤ 3000 := hG.n3
  have hL4 : 1 ≤ L ∧ L ≤ 4 := ⟨hG.l1, hG.l4⟩
  unfold maxLen at hzm
  clear h hz hG hlet
  obtain ⟨y, hy⟩ : ∃ y, Dfa.go ⟨L, S, R, M⟩ q z = y := ⟨_, rfl⟩
  rw [hy]
  have HY : Hid (Dfa.go ⟨L, S, R, M⟩ q z = y) := hy
  clear hy
  go_enter Tryd.func15, Tryd.ntmps15
  go_wp2_with fail
  generalize hO : Obj.cells #[Value.int IntKind.i64 L, Value.int IntKind.i64 S, Value.slice a R.length c, Value.slice a' M.length c'] 25 = O
  have HO : Hid (Obj.cells #[Value.int IntKind.i64 L, Value.int IntKind.i64 S, Value.slice a R.length c, Value.slice a' M.length c'] 25 = O) := hO
  clear hO
  go_loopw [1, 7] (fun v i wr => ∃ k : Nat, k ≤ z.length ∧ i = .int .i64 k ∧ v = .int .i64 ((Dfa.go ⟨L, S, R, M⟩ q (z.take k) : Nat) : Int) ∧ (w.alloc O).grownBy wr none) (fun _ i _ => z.length - (intOf i).toNat)
  case atStart => exact ⟨0, Nat.zero_le _, rfl, by simp [Dfa.go], grown_refl _ _⟩
  case round =>
    obtain ⟨k, hk, rfl, rfl, hg⟩ := hrel
    have hgl : Dfa.go ⟨L, S, R, M⟩ q (z.take k) < R.length := go_take_lt GD.out (by simp only; omega) HL.out k
    have G : Hid ((w.alloc O).grownBy wr none) := hg
    have G2 : Hid (w.grownBy wr none) := grown_trans (HG.out _) hg
    obtain ⟨b0, b1, b2, b3⟩ := box4 (HO.out ▸ hg)
    clear hg
    by_cases hlt : k < z.length
    · obtain ⟨hx0, hx1⟩ := HL.out k hlt
      have HT : Hid (_ = _) := go_take ⟨L, S, R, M⟩ q z hlt
      obtain ⟨bz, oz, rfl, hcz⟩ := HZ.out.at hlt
      have hcz' : wr.cell? ⟨bz, oz + k, none⟩ = some (.int .i64 (z.getD k 0)) := G2.out.cell (hcz k hlt) (by simp)
      obtain ⟨b, off, bx, ox, cx, rfl, hr1, hr2⟩ := step_reads (l := (z.getD k 0).toNat) (H.out.grown G2.out) GD.out hgl (by omega)
      clear hcz
      generalize hgk : Dfa.go ⟨L, S, R, M⟩ q (z.take k) = s at *
      have ht0 : (z.getD k 0) = ((z.getD k 0).toNat : Int) := by omega
      generalize hlk : (z.getD k 0).toNat = l at *
      rw [ht0] at hcz' hx1 hx0
      have hnx : Dfa.nx ⟨L, S, R, M⟩ s l < R.length := GD.out.nx_lt hgl (by simp only; omega)
      generalize hn' : Dfa.nx ⟨L, S, R, M⟩ s l = t at *
      have hLt : (L.toNat : Int) = L := by omega
      have hlL : (l : Int) < (L.toNat : Int) := by omega
      clear hn' hgk ht0 hlk
      go_wp2_with fail
      go_quiet (fail)
      go_wp2_with fail
      go_roundw
      case rel => exact ⟨k + 1, by omega, by go_num, by rw [HT.out], grown_drewN G.out _⟩
      case measure => simp [intOf]; omega
    · have hkz : k = z.length := by omega
      subst hkz
      rw [List.take_length, HY.out]
      go_wp2_with fail
      go_ret
      exact ⟨rfl, G2.out⟩

set_option maxHeartbeats 1600000 in
set_option maxRecDepth 100000 in
theorem acceptsR_any (L S : Int) (R : List (List Int)) (M : List Int) (a a' az : Option Addr) (c c' cz : Nat) (z : List Int) (w : World) (h : DetAt w ⟨L, S, R, M⟩ a a') (hG : Good ⟨L, S, R, M⟩) (hz : Ints w az z) (hzm : z.length ≤ maxLen)
    (hlet : ∀ k, k < z.length → 0 ≤ z.getD k 0 ∧ z.getD k 0 < L) :
    Calls Tryd.prog 9 #[.agg #[.int .i64 L, .int .i64 S, .slice a R.length c, .slice a' M.length c'], .slice az z.length cz] w fun e w' => e = .returned (.bool (accB ⟨L, S, R, M⟩ z)) ∧ w.grownBy w' none := by
  have HG : Hid (∀ o, w.grownBy (w.alloc o) none) := fun o => grown_alloc w o
  have hS : 0 ≤ S ∧ S < R.length := hG.s
  have hn3 : R.length ≤ 3000 := hG.n3
  have hgl : Dfa.go ⟨L, S, R, M⟩ S.toNat z < R.length := by have := go_take_lt hG (s := S.toNat) (by simp only; omega) hlet z.length; rwa [List.take_length] at this
  have HA : Hid (∀ W, w.grownBy W none → Calls Tryd.prog 15 #[.agg #[.int .i64 L, .int .i64 S, .slice a R.length c, .slice a' M.length c'], .int .i64 S, .slice az z.length cz] W fun e w' => e = .returned (.int .i64 ((Dfa.go ⟨L, S, R, M⟩ S.toNat z : Nat) : Int)) ∧ W.grownBy w' none) := fun W hW => by
    have := after_any L S S.toNat R M a a' az c c' cz z W (h.grown hW) hG (hz.grown hW) hzm hlet (by omega)
    rwa [Int.toNat_of_nonneg hS.1] at this
  obtain ⟨b, off, rfl, hm⟩ := mark_reads h hG hgl
  have HM : Hid (w.cell? ⟨b, off + Dfa.go ⟨L, S, R, M⟩ S.toNat z, none⟩ = some (.int .i64 (M.getD (Dfa.go ⟨L, S, R, M⟩ S.toNat z) 0))) := hm
  have hsM : Dfa.go ⟨L, S, R, M⟩ S.toNat z < M.length := by have := hG.ml; simp only at this; rw [this]; exact hgl
  have hbd : ((M.getD (Dfa.go ⟨L, S, R, M⟩ S.toNat z) 0) == 1) = accB ⟨L, S, R, M⟩ z := by simp [accB, Dfa.mk1]; rfl
  generalize accB ⟨L, S, R, M⟩ z = bb at *
  generalize Dfa.go ⟨L, S, R, M⟩ S.toNat z = s at *
  generalize M.getD s 0 = x at *
  have hsM' : (s : Int) < (M.length : Int) := by omega
  clear h hG hz hlet hm
  unfold maxLen at hzm
  go_enter Tryd.func9, Tryd.ntmps9
  go_wp2_with fail
  refine (HA.out _ (HG.out _)).mono ?_
  rintro e w2 ⟨rfl, hg2⟩
  obtain ⟨b0, b1, b2, b3⟩ := box4 hg2
  have G2 : Hid (w.grownBy w2 none) := grown_trans (HG.out _) hg2
  have hm2 : w2.cell? ⟨b, off + s, none⟩ = some (.int .i64 x) := G2.out.cell HM.out (by simp)
  clear hg2
  go_wp2_with fail
  go_ret
  exact ⟨by simp, G2.out⟩

end Go.Proofs.YtkfhdbapfpongaaDoor
