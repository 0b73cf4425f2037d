/- How many letters stand in a text, and the greatest of them. -/
import Derived.Test.YtmbbkjpfmmnabaaDoorPAdds
import Derived.Test.YtmbbkjpfmmnabaaDoorRdp
import Derived.BigRegion
import Derived.RegionTactic
namespace Go.Proofs.YtmbbkjpfmmnabaaDoor
open Go.RowKit
set_option linter.unusedVariables false

def isL (c : Nat) : Bool := decide (97 ≤ c) && decide (c ≤ 100)
def manyL (s : ByteArray) : Nat → Nat
  | 0 => 0
  | k + 1 => if isL (byteAt s k) = true then manyL s k + 1 else manyL s k
/-- One more than the greatest letter (0: there is none). -/
def greatL (s : ByteArray) : Nat → Nat
  | 0 => 0
  | k + 1 => if isL (byteAt s k) = true then max (greatL s k) (byteAt s k - 96) else greatL s k
theorem manyL_le (s : ByteArray) : ∀ k, manyL s k ≤ k
  | 0 => Nat.le_refl _
  | k + 1 => by
    have := manyL_le s k
    unfold manyL
    split <;> omega
theorem greatL_le (s : ByteArray) : ∀ k, greatL s k ≤ 4
  | 0 => by simp [greatL]
  | k + 1 => by
    have := greatL_le s k
    unfold greatL
    split
    · next h => simp [isL] at h; omega
    · exact this

set_option maxHeartbeats 3200000 in
set_option maxRecDepth 100000 in
theorem lettersOf_any (s : ByteArray) (w : World) (hs : s.size ≤ 4000) :
    Calls Tryd.prog 22 #[.string s] w fun E w' => E = .returned (.tuple #[.int .i64 ((manyL s s.size : Nat) : Int), .int .i64 ((greatL s s.size : Nat) - 1 : Int)]) ∧ w' = w := by
  go_enter Tryd.func22, Tryd.ntmps22
  go_wp2_with fail
  go_loopw [2, 3, 7] (fun u v i wr => ∃ k : Nat, i = .int .i64 (k : Int) ∧ k ≤ s.size ∧ u = .int .i64 ((manyL s k : Nat) : Int) ∧ v = .int .i64 ((greatL s k : Nat) - 1 : Int) ∧ wr = w) (fun _ _ i _ => s.size - (intOf i).toNat)
  case atStart => exact ⟨0, rfl, by omega, rfl, rfl, rfl⟩
  case round =>
    obtain ⟨k, rfl, hk, rfl, rfl, rfl⟩ := hrel
    have hm := manyL_le s k
    have hg := greatL_le s k
    by_cases h1 : k < s.size
    · have h1' : (k : Int) < (s.size : Int) := by omega
      have em : manyL s (k + 1) = if isL (byteAt s k) = true then manyL s k + 1 else manyL s k := rfl
      have eg : greatL s (k + 1) = if isL (byteAt s k) = true then max (greatL s k) (byteAt s k - 96) else greatL s k := rfl
      obtain ⟨m, hm2⟩ : ∃ m, manyL s k = m := ⟨_, rfl⟩
      obtain ⟨g, hg2⟩ : ∃ g, greatL s k = g := ⟨_, rfl⟩
      rw [hm2] at hm em ⊢
      rw [hg2] at hg eg ⊢
      clear hm2 hg2
      have eb : byteAt s k = s[k].toNat := by simp [byteAt, h1]
      rw [eb] at em eg
      have hcl : s[k].toNat < 256 := UInt8.toNat_lt _
      by_cases hL : isL (s[k].toNat) = true
      · have hL2 : 97 ≤ s[k].toNat ∧ s[k].toNat ≤ 100 := by simpa [isL] using hL
        rw [if_pos hL] at em eg
        have i1 : (97 : Int) ≤ (s[k].toNat : Int) := by omega
        have i2 : (s[k].toNat : Int) ≤ 100 := by omega
        go_wp2_with fail
        refine ⟨⟨k + 1, by simp, by omega, by rw [em]; simp, ?_, trivial⟩, by simp [intOf]; omega⟩
        rw [eg]
        congr 1
        split <;> omega
      · have hL2 : s[k].toNat < 97 ∨ 100 < s[k].toNat := by
          rcases Nat.lt_or_ge (s[k].toNat) 97 with h | h
          · exact .inl h
          · exact .inr (Nat.lt_of_not_le fun h2 => hL (by simp [isL, h, h2]))
        rw [if_neg hL] at em eg
        rcases hL2 with h | h
        · have i1 : ¬ (97 : Int) ≤ (s[k].toNat : Int) := by omega
          go_wp2_with fail
          exact ⟨⟨k + 1, by simp, by omega, by rw [em], by rw [eg], trivial⟩, by simp [intOf]; omega⟩
        · have i1 : (97 : Int) ≤ (s[k].toNat : Int) := by omega
          have i2 : ¬ (s[k].toNat : Int) ≤ 100 := by omega
          go_wp2_with fail
          exact ⟨⟨k + 1, by simp, by omega, by rw [em], by rw [eg], trivial⟩, by simp [intOf]; omega⟩
    · have h1' : ¬ (k : Int) < (s.size : Int) := by omega
      have hke : k = s.size := by omega
      go_wp2_with fail
      exact bodyPost_ret (v := .tuple #[.int .i64 ((manyL s s.size : Nat) : Int), .int .i64 ((greatL s s.size : Nat) - 1 : Int)]) (by simp [results, Tryd.results22, go_sem]) rfl ⟨rfl, rfl⟩

end Go.Proofs.YtmbbkjpfmmnabaaDoor
