/- How many letters stand in a text, and the greatest of them. -/
/- How many letters are read; and what comes of a text that is put together from texts. No program is in it. -/
import Derived.Test.YtkkmdcnbifepjaaDoorPAdds
import Derived.Test.YtkkmdcnbifepjaaDoorRdp
import Derived.BigRegion
import Derived.RegionTactic
namespace Go.Proofs.YtkkmdcnbifepjaaDoor
open Go.RowKit
set_option linter.unusedVariables false

def isL (c : Nat) : Bool := decide (97 ≤ c) && decide (c ≤ 100)
def manyL (s : ByteArray) : Nat → Nat
  | 0 => 0
  | k + 1 => if isL (byteAt s k) = true then manyL s k + 1 else manyL s k
/-- One more than the greatest letter (0: there is none). -/
def greatL (s : ByteArray) : Nat → Nat
  | 0 => 0
  | k + 1 => if isL (byteAt s k) = true then max (greatL s k) (byteAt s k - 96) else greatL s k
theorem manyL_le (s : ByteArray) : ∀ k, manyL s k ≤ k
  | 0 => Nat.le_refl _
  | k + 1 => by
    have := manyL_le s k
    unfold manyL
    split <;> omega
theorem greatL_le (s : ByteArray) : ∀ k, greatL s k ≤ 4
  | 0 => by simp [greatL]
  | k + 1 => by
    have := greatL_le s k
    unfold greatL
    split
    · next h => simp [isL] at h; omega
    · exact this

set_option maxHeartbeats 3200000 in
set_option maxRecDepth 100000 in
theorem lettersOf_any (s : ByteArray) (w : World) (hs : s.size ≤ 4000) :
    Calls Tryd.prog 17 #[.string s] w fun E w' => E = .returned (.tuple #[.int .i64 ((manyL s s.size : Nat) : Int), .int .i64 ((greatL s s.size : Nat) - 1 : Int)]) ∧ w' = w := by
  go_enter Tryd.func17, Tryd.ntmps17
  go_wp2_with fail
  go_loopw [2, 3, 7] (fun u v i wr => ∃ k : Nat, i = .int .i64 (k : Int) ∧ k ≤ s.size ∧ u = .int .i64 ((manyL s k : Nat) : Int) ∧ v = .int .i64 ((greatL s k : Nat) - 1 : Int) ∧ wr = w) (fun _ _ i _ => s.size - (intOf i).toNat)
  case atStart => exact ⟨0, rfl, by omega, rfl, rfl, rfl⟩
  case round =>
    obtain ⟨k, rfl, hk, rfl, rfl, rfl⟩ := hrel
    have hm := manyL_le s k
    have hg := greatL_le s k
    by_cases h1 : k < s.size
    · have h1' : (k : Int) < (s.size : Int) := by omega
      have em : manyL s (k + 1) = if isL (byteAt s k) = true then manyL s k + 1 else manyL s k := rfl
      have eg : greatL s (k + 1) = if isL (byteAt s k) = true then max (greatL s k) (byteAt s k - 96) else greatL s k := rfl
      obtain ⟨m, hm2⟩ : ∃ m, manyL s k = m := ⟨_, rfl⟩
      obtain ⟨g, hg2⟩ : ∃ g, greatL s k = g := ⟨_, rfl⟩
      rw [hm2] at hm em ⊢
      rw [hg2] at hg eg ⊢
      clear hm2 hg2
      have eb : byteAt s k = s[k].toNat := by simp [byteAt, h1]
      rw [eb] at em eg
      have hcl : s[k].toNat < 256 := UInt8.toNat_lt _
      by_cases hL : isL (s[k].toNat) = true
      · have hL2 : 97 ≤ s[k].toNat ∧ s[k].toNat ≤ 100 := by simpa [isL] using hL
        rw [if_pos hL] at em eg
        have i1 : (97 : Int) ≤ (s[k].toNat : Int) := by omega
        have i2 : (s[k].toNat : Int) ≤ 100 := by omega
        go_wp2_with fail
        refine ⟨⟨k + 1, by simp, by omega, by rw [em]; simp, ?_, trivial⟩, by simp [intOf]; omega⟩
        rw [eg]
        congr 1
        split <;> omega
      · have hL2 : s[k].toNat < 97 ∨ 100 < s[k].toNat := by
          rcases Nat.lt_or_ge (s[k].toNat) 97 with h | h
          · exact .inl h
          · exact .inr (Nat.lt_of_not_le fun h2 => hL (by simp [isL, h, h2]))
        rw [if_neg hL] at em eg
        rcases hL2 with h | h
        · have i1 : ¬ (97 : Int) ≤ (s[k].toNat : Int) := by omega
          go_wp2_with fail
          exact ⟨⟨k + 1, by simp, by omega, by rw [em], by rw [eg], trivial⟩, by simp [intOf]; omega⟩
        · have i1 : (97 : Int) ≤ (s[k].toNat : Int) := by omega
          have i2 : ¬ (s[k].toNat : Int) ≤ 100 := by omega
          go_wp2_with fail
          exact ⟨⟨k + 1, by simp, by omega, by rw [em], by rw [eg], trivial⟩, by simp [intOf]; omega⟩
    · have h1' : ¬ (k : Int) < (s.size : Int) := by omega
      have hke : k = s.size := by omega
      go_wp2_with fail
      exact bodyPost_ret (v := .tuple #[.int .i64 ((manyL s s.size : Nat) : Int), .int .i64 ((greatL s s.size : Nat) - 1 : Int)]) (by simp [results, Tryd.results17, go_sem]) rfl ⟨rfl, rfl⟩

end Go.Proofs.YtkkmdcnbifepjaaDoor

namespace Go.Proofs.YtkkmdcnbifepjaaDoor
open Go.RowKit
set_option linter.unusedVariables false

section count
variable {s : ByteArray}
/-- As many letters are read as stand there. -/
def Cnt (s : ByteArray) (S : Nat → Nat → Res) : Prop := ∀ i d m j, S i d = .good m j → manyL s j = manyL s i + nlet m
theorem manyL_no {i c : Nat} (h : byteAt s i = c) (hc : isL c = false) : manyL s (i + 1) = manyL s i := by
  show (if isL (byteAt s i) = true then _ else _) = _
  rw [h, if_neg (by simp [hc])]
theorem manyL_yes {i : Nat} (h : isL (byteAt s i) = true) : manyL s (i + 1) = manyL s i + 1 := by
  show (if isL (byteAt s i) = true then _ else _) = _
  rw [if_pos h]
theorem begins_letter {c : Nat} (h : beginsF c = true) (h1 : c ≠ 40) (h2 : c ≠ 48) (h3 : c ≠ 49) : isL c = true := by
  simp only [beginsF, Bool.or_eq_true, beq_iff_eq] at h
  rcases h with ((h | h) | h) | h
  · exact absurd h h2
  · exact absurd h h3
  · exact absurd h h1
  · exact h
theorem nlet_rowS {ms : List Rx} (h : 0 < ms.length) (m : Rx) : nlet (rowOf (ms ++ [m])) = nlet (rowOf ms) + nlet m := by rw [rowOf_snoc h]; rfl
theorem nlet_eitherS {ms : List Rx} (h : 0 < ms.length) (m : Rx) : nlet (eitherOf (ms ++ [m])) = nlet (eitherOf ms) + nlet m := by rw [eitherOf_snoc h]; rfl
theorem cnt_part {W : Nat → Nat → Res} (hW : Cnt s W) : Cnt s (partS s W) := by
  intro i d m j h
  unfold partS at h
  split at h
  · cases h
  · rename_i hb
    have hb' : beginsF (byteAt s i) = true := by simpa using hb
    split at h
    · rename_i h40
      unfold bracketS at h
      split at h
      · cases h
      · split at h
        · cases h
        · rename_i m' j' hw
          split at h
          · rename_i hc
            cases h
            rw [manyL_no hc (by decide), hW _ _ _ _ hw, manyL_no h40 (by decide)]
          · cases h
    · rename_i h40
      split at h
      · rename_i h48
        cases h
        rw [manyL_no h48 (by decide)]; rfl
      · rename_i h48
        split at h
        · rename_i h49
          cases h
          rw [manyL_no h49 (by decide)]; rfl
        · rename_i h49
          cases h
          rw [manyL_yes (begins_letter hb' h40 h48 h49)]; rfl
theorem cnt_star : ∀ (k : Nat) (m : Rx) (j : Nat) (m' : Rx) (j' : Nat), starL s k m j = .good m' j' → manyL s j' + nlet m = manyL s j + nlet m'
  | 0, m, j, m', j', h => by cases h; rfl
  | k + 1, m, j, m', j', h => by
    unfold starL at h
    split at h
    · rename_i hc
      have := cnt_star k _ _ _ _ h
      rw [manyL_no hc (by decide), nlet_star] at this
      exact this
    · cases h; rfl
theorem cnt_one {P : Nat → Nat → Res} (hP : Cnt s P) : Cnt s (oneS s P) := by
  intro i d m j h
  unfold oneS at h
  split at h
  · cases h
  · rename_i m' j' hp
    have h1 := hP _ _ _ _ hp
    have h2 := cnt_star _ _ _ _ _ h
    omega
theorem cnt_rowX {O : Nat → Nat → Res} (hO : Cnt s O) (d : Nat) : ∀ (k : Nat) (ms : List Rx) (j : Nat) (m' : Rx) (j' : Nat), 0 < ms.length → rowX s O d k ms j = .good m' j' → manyL s j' + nlet (rowOf ms) = manyL s j + nlet m'
  | 0, ms, j, m', j', hl, h => by cases h
  | k + 1, ms, j, m', j', hl, h => by
    unfold rowX at h
    split at h
    · split at h
      · cases h
      · rename_i m1 j1 ho
        have h1 := hO _ _ _ _ ho
        have h2 := cnt_rowX hO d k _ _ _ _ (by simp) h
        rw [nlet_rowS hl] at h2
        omega
    · cases h; rfl
theorem cnt_row {O : Nat → Nat → Res} (hO : Cnt s O) : Cnt s (rowS s O) := by
  intro i d m j h
  unfold rowS at h
  split at h
  · cases h
  · rename_i m' j' hp
    have h1 := hO _ _ _ _ hp
    have h2 := cnt_rowX hO _ _ _ _ _ _ (by simp) h
    rw [rowOf_one] at h2
    omega
theorem cnt_eitherL {O : Nat → Nat → Res} (hO : Cnt s O) (d : Nat) : ∀ (k : Nat) (ms : List Rx) (j : Nat) (m' : Rx) (j' : Nat), 0 < ms.length → eitherL s O d k ms j = .good m' j' → manyL s j' + nlet (eitherOf ms) = manyL s j + nlet m'
  | 0, ms, j, m', j', hl, h => by cases h
  | k + 1, ms, j, m', j', hl, h => by
    unfold eitherL at h
    split at h
    · rename_i hc
      split at h
      · cases h
      · rename_i m1 j1 ho
        have h1 := hO _ _ _ _ ho
        have h2 := cnt_eitherL hO d k _ _ _ _ (by simp) h
        rw [nlet_eitherS hl] at h2
        rw [manyL_no hc (by decide)] at h1
        omega
    · cases h; rfl
theorem cnt_either {O : Nat → Nat → Res} (hO : Cnt s O) : Cnt s (eitherS s O) := by
  intro i d m j h
  unfold eitherS at h
  split at h
  · cases h
  · rename_i m' j' hp
    have h1 := hO _ _ _ _ hp
    have h2 := cnt_eitherL hO _ _ _ _ _ _ (by simp) h
    rw [eitherOf_one] at h2
    omega
theorem cnt_whole : ∀ n, Cnt s (wholeF s n)
  | 0 => fun _ _ _ _ h => by cases h
  | n + 1 => cnt_either (cnt_row (cnt_one (cnt_part (cnt_whole n))))
theorem parse_end {m : Rx} {j : Nat} (h : parseR s = .good m j) : s.size ≤ 4000 ∧ j = s.size ∧ wholeF s (s.size + 1) 0 0 = .good m s.size := by
  unfold parseR at h
  split at h
  · cases h
  · rename_i hs
    split at h
    · cases h
    · rename_i m' j' hw
      split at h
      · cases h
      · rename_i hj
        cases h
        have := (adv_whole (s.size + 1) _ _ _ _ hw).2 (Nat.zero_le _)
        have e : j = s.size := by omega
        subst e
        exact ⟨by omega, rfl, hw⟩
/-- The letters of what is read are those of the text. -/
theorem parse_many {m : Rx} {j : Nat} (h : parseR s = .good m j) : nlet m = manyL s s.size := by
  obtain ⟨_, _, hw⟩ := parse_end h
  have := cnt_whole _ _ _ _ _ hw
  simp only [manyL] at this
  omega
end count

/-- The text s stands in S, from place o on, and a closing bracket behind it. -/
structure EmbR (o : Nat) (s S : ByteArray) : Prop where
  same : ∀ i, i < s.size → byteAt S (o + i) = byteAt s i
  close : byteAt S (o + s.size) = 41
theorem byteAt_end {s : ByteArray} {i : Nat} (h : s.size ≤ i) : byteAt s i = 0 := by
  rcases Nat.eq_zero_or_pos (byteAt s i) with h0 | h0
  · exact h0
  · have := byteAt_pos (s := s) (i := i) (by omega); omega
section sim
variable {o : Nat} {s S : ByteArray}
theorem EmbR.iff (h : EmbR o s S) {i c : Nat} (hi : i ≤ s.size) (h0 : c ≠ 0) (h1 : c ≠ 41) : byteAt s i = c ↔ byteAt S (o + i) = c := by
  by_cases e : i < s.size
  · rw [h.same i e]
  · obtain rfl : i = s.size := by omega
    rw [h.close, byteAt_end (Nat.le_refl _)]
    constructor <;> intro h' <;> omega
theorem EmbR.begins (h : EmbR o s S) {i : Nat} (hi : i ≤ s.size) : beginsF (byteAt S (o + i)) = beginsF (byteAt s i) := by
  by_cases e : i < s.size
  · rw [h.same i e]
  · obtain rfl : i = s.size := by omega
    rw [h.close, byteAt_end (Nat.le_refl _)]; rfl
/-- Both readers read the same, if both read. -/
def SimR (o : Nat) (s : ByteArray) (P Q : Nat → Nat → Res) : Prop := ∀ i d m j D g J, P i d = .good m j → Q (o + i) D = .good g J → i ≤ s.size → g = m ∧ J = o + j ∧ j ≤ s.size
theorem sim_part (h : EmbR o s S) {P Q : Nat → Nat → Res} (hP : SimR o s P Q) : SimR o s (partS s P) (partS S Q) := by
  intro i d m j D g J e1 e2 hi
  unfold partS at e1 e2
  rw [h.begins hi] at e2
  by_cases hb : beginsF (byteAt s i) = false
  · rw [if_pos hb] at e1; cases e1
  · rw [if_neg hb] at e1 e2
    have hlt : i < s.size := begins_lt (s := s) (i := i) (by simpa using hb)
    rw [h.same i hlt] at e2
    by_cases h40 : byteAt s i = 40
    · rw [if_pos h40] at e1 e2
      unfold bracketS at e1 e2
      by_cases hd : d = 40
      · rw [if_pos hd] at e1; cases e1
      · rw [if_neg hd] at e1
        by_cases hD : D = 40
        · rw [if_pos hD] at e2; cases e2
        · rw [if_neg hD] at e2
          cases hp : P (i + 1) (d + 1) with
          | bad c j' => rw [hp] at e1; cases e1
          | good m' j' =>
            cases hq : Q (o + i + 1) (D + 1) with
            | bad c j' => rw [hq] at e2; cases e2
            | good g' J' =>
              rw [hp] at e1
              rw [hq] at e2
              obtain ⟨rfl, rfl, q⟩ := hP _ _ _ _ _ _ _ hp hq (by omega)
              simp only at e1 e2
              by_cases hc : byteAt s j' = 41
              · have hjl : j' < s.size := byte_lt hc (by omega)
                rw [if_pos hc] at e1
                rw [if_pos (by rw [h.same j' hjl]; exact hc)] at e2
                cases e1; cases e2
                exact ⟨rfl, by omega, by omega⟩
              · rw [if_neg hc] at e1; cases e1
    · rw [if_neg h40] at e1 e2
      by_cases h48 : byteAt s i = 48
      · rw [if_pos h48] at e1 e2; cases e1; cases e2; exact ⟨rfl, by omega, by omega⟩
      · rw [if_neg h48] at e1 e2
        by_cases h49 : byteAt s i = 49
        · rw [if_pos h49] at e1 e2; cases e1; cases e2; exact ⟨rfl, by omega, by omega⟩
        · rw [if_neg h49] at e1 e2; cases e1; cases e2; exact ⟨rfl, by omega, by omega⟩
theorem sim_starL (h : EmbR o s S) : ∀ (k k' : Nat) (m : Rx) (j : Nat) (m' : Rx) (j' : Nat) (g : Rx) (J : Nat), s.size < k + j → s.size < k' + j → j ≤ s.size → starL s k m j = .good m' j' → starL S k' m (o + j) = .good g J → g = m' ∧ J = o + j' ∧ j' ≤ s.size
  | 0, k', m, j, m', j', g, J, hk, hk', hj, e1, e2 => by omega
  | k + 1, 0, m, j, m', j', g, J, hk, hk', hj, e1, e2 => by omega
  | k + 1, k' + 1, m, j, m', j', g, J, hk, hk', hj, e1, e2 => by
    unfold starL at e1 e2
    by_cases hc : byteAt s j = 42
    · have hjl : j < s.size := byte_lt hc (by omega)
      rw [if_pos hc] at e1
      rw [if_pos (by rw [h.same j hjl]; exact hc)] at e2
      exact sim_starL h k k' _ (j + 1) _ _ _ _ (by omega) (by omega) (by omega) e1 e2
    · rw [if_neg hc] at e1
      rw [if_neg (fun x => hc ((h.iff hj (by omega) (by omega)).2 x))] at e2
      cases e1; cases e2
      exact ⟨rfl, rfl, hj⟩
theorem sim_one (h : EmbR o s S) (hS : s.size ≤ S.size) {P Q : Nat → Nat → Res} (hP : SimR o s P Q) : SimR o s (oneS s P) (oneS S Q) := by
  intro i d m j D g J e1 e2 hi
  unfold oneS at e1 e2
  cases hp : P i d with
  | bad c j' => rw [hp] at e1; cases e1
  | good m' j' =>
    cases hq : Q (o + i) D with
    | bad c j' => rw [hq] at e2; cases e2
    | good g' J' =>
      rw [hp] at e1
      rw [hq] at e2
      obtain ⟨rfl, rfl, q⟩ := hP _ _ _ _ _ _ _ hp hq hi
      exact sim_starL h _ _ _ _ _ _ _ _ (by omega) (by omega) q e1 e2
theorem sim_rowX (h : EmbR o s S) {P Q : Nat → Nat → Res} (hP : SimR o s P Q) (d D : Nat) : ∀ (k k' : Nat) (ms : List Rx) (j : Nat) (m' : Rx) (j' : Nat) (g : Rx) (J : Nat), j ≤ s.size → rowX s P d k ms j = .good m' j' → rowX S Q D k' ms (o + j) = .good g J → g = m' ∧ J = o + j' ∧ j' ≤ s.size
  | 0, k', ms, j, m', j', g, J, hj, e1, e2 => by cases e1
  | k + 1, 0, ms, j, m', j', g, J, hj, e1, e2 => by cases e2
  | k + 1, k' + 1, ms, j, m', j', g, J, hj, e1, e2 => by
    unfold rowX at e1 e2
    rw [h.begins hj] at e2
    by_cases hb : beginsF (byteAt s j) = true
    · rw [if_pos hb] at e1 e2
      cases hp : P j d with
      | bad c j' => rw [hp] at e1; cases e1
      | good m1 j1 =>
        cases hq : Q (o + j) D with
        | bad c j' => rw [hq] at e2; cases e2
        | good g1 J1 =>
          rw [hp] at e1
          rw [hq] at e2
          obtain ⟨rfl, rfl, q⟩ := hP _ _ _ _ _ _ _ hp hq hj
          exact sim_rowX h hP d D k k' _ _ _ _ _ _ q e1 e2
    · rw [if_neg hb] at e1 e2
      cases e1; cases e2
      exact ⟨rfl, rfl, hj⟩
theorem sim_row (h : EmbR o s S) {P Q : Nat → Nat → Res} (hP : SimR o s P Q) : SimR o s (rowS s P) (rowS S Q) := by
  intro i d m j D g J e1 e2 hi
  unfold rowS at e1 e2
  cases hp : P i d with
  | bad c j' => rw [hp] at e1; cases e1
  | good m' j' =>
    cases hq : Q (o + i) D with
    | bad c j' => rw [hq] at e2; cases e2
    | good g' J' =>
      rw [hp] at e1
      rw [hq] at e2
      obtain ⟨rfl, rfl, q⟩ := hP _ _ _ _ _ _ _ hp hq hi
      exact sim_rowX h hP _ _ _ _ _ _ _ _ _ _ q e1 e2
theorem sim_eitherL (h : EmbR o s S) {P Q : Nat → Nat → Res} (hP : SimR o s P Q) (d D : Nat) : ∀ (k k' : Nat) (ms : List Rx) (j : Nat) (m' : Rx) (j' : Nat) (g : Rx) (J : Nat), j ≤ s.size → eitherL s P d k ms j = .good m' j' → eitherL S Q D k' ms (o + j) = .good g J → g = m' ∧ J = o + j' ∧ j' ≤ s.size
  | 0, k', ms, j, m', j', g, J, hj, e1, e2 => by cases e1
  | k + 1, 0, ms, j, m', j', g, J, hj, e1, e2 => by cases e2
  | k + 1, k' + 1, ms, j, m', j', g, J, hj, e1, e2 => by
    unfold eitherL at e1 e2
    by_cases hb : byteAt s j = 43
    · have hjl : j < s.size := byte_lt hb (by omega)
      rw [if_pos hb] at e1
      rw [if_pos (by rw [h.same j hjl]; exact hb)] at e2
      cases hp : P (j + 1) d with
      | bad c j' => rw [hp] at e1; cases e1
      | good m1 j1 =>
        cases hq : Q (o + j + 1) D with
        | bad c j' => rw [hq] at e2; cases e2
        | good g1 J1 =>
          rw [hp] at e1
          rw [hq] at e2
          obtain ⟨rfl, rfl, q⟩ := hP _ _ _ _ _ _ _ hp hq (by omega)
          exact sim_eitherL h hP d D k k' _ _ _ _ _ _ q e1 e2
    · rw [if_neg hb] at e1
      rw [if_neg (fun x => hb ((h.iff hj (by omega) (by omega)).2 x))] at e2
      cases e1; cases e2
      exact ⟨rfl, rfl, hj⟩
theorem sim_either (h : EmbR o s S) {P Q : Nat → Nat → Res} (hP : SimR o s P Q) : SimR o s (eitherS s P) (eitherS S Q) := by
  intro i d m j D g J e1 e2 hi
  unfold eitherS at e1 e2
  cases hp : P i d with
  | bad c j' => rw [hp] at e1; cases e1
  | good m' j' =>
    cases hq : Q (o + i) D with
    | bad c j' => rw [hq] at e2; cases e2
    | good g' J' =>
      rw [hp] at e1
      rw [hq] at e2
      obtain ⟨rfl, rfl, q⟩ := hP _ _ _ _ _ _ _ hp hq hi
      exact sim_eitherL h hP _ _ _ _ _ _ _ _ _ _ q e1 e2
theorem sim_whole (h : EmbR o s S) (hS : s.size ≤ S.size) : ∀ n N, SimR o s (wholeF s n) (wholeF S N)
  | 0, N => fun i d m j D g J e1 => by cases e1
  | n + 1, 0 => fun i d m j D g J e1 e2 => by cases e2
  | n + 1, N + 1 => sim_either h (sim_row h (sim_one h hS (sim_part h (sim_whole h hS n N))))
end sim

/-- From place i to place j stands this, as far as it can be read. -/
def PartIs (S : ByteArray) (i j : Nat) (m : Rx) : Prop := ∀ N D g J, partF S N i D = .good g J → g = m ∧ J = j
def OneIs (S : ByteArray) (i j : Nat) (m : Rx) : Prop := ∀ N D g J, oneF S N i D = .good g J → g = m ∧ J = j
def RowIs (S : ByteArray) (i j : Nat) (m : Rx) : Prop := ∀ N D g J, rowF S N i D = .good g J → g = m ∧ J = j
def WholeIs (S : ByteArray) (i j : Nat) (m : Rx) : Prop := ∀ N D g J, wholeF S N i D = .good g J → g = m ∧ J = j
section texts
variable {S : ByteArray} {i j k : Nat} {m m' : Rx}
theorem whole_emb {s : ByteArray} {js : Nat} (h : EmbR i s S) (hS : s.size ≤ S.size) (hp : parseR s = .good m js) (e : j = i + s.size) : WholeIs S i j m := by
  intro N D g J hg
  obtain ⟨_, _, hw⟩ := parse_end hp
  obtain ⟨h1, h2, _⟩ := sim_whole h hS _ N 0 0 _ _ D g J hw hg (Nat.zero_le _)
  exact ⟨h1, by omega⟩
theorem part_br (h1 : byteAt S i = 40) (h2 : WholeIs S (i + 1) j m) (h3 : byteAt S j = 41) (e : k = j + 1) : PartIs S i k m := by
  intro N D g J hg
  unfold partF partS at hg
  rw [h1, if_neg (by decide), if_pos rfl] at hg
  unfold bracketS at hg
  split at hg
  · cases hg
  · split at hg
    · cases hg
    · rename_i m1 j1 hw
      obtain ⟨rfl, rfl⟩ := h2 N _ _ _ hw
      rw [if_pos h3] at hg
      cases hg
      exact ⟨rfl, by omega⟩
theorem part_empty (h1 : byteAt S i = 49) (e : k = i + 1) : PartIs S i k .empty := by
  intro N D g J hg
  unfold partF partS at hg
  rw [h1, if_neg (by decide), if_neg (by decide), if_neg (by decide), if_pos rfl] at hg
  cases hg
  exact ⟨rfl, by omega⟩
theorem one_plain (h : PartIs S i j m) (hj : byteAt S j ≠ 42) : OneIs S i j m := by
  intro N D g J hg
  unfold oneF oneS at hg
  split at hg
  · cases hg
  · rename_i m1 j1 hp
    obtain ⟨rfl, rfl⟩ := h N _ _ _ hp
    unfold starL at hg
    rw [if_neg hj] at hg
    cases hg
    exact ⟨rfl, rfl⟩
theorem one_star (h : PartIs S i j m) (hS : 1 ≤ S.size) (hj : byteAt S j = 42) (hk : byteAt S k ≠ 42) (e : k = j + 1) : OneIs S i k (starS m) := by
  intro N D g J hg
  subst e
  unfold oneF oneS at hg
  split at hg
  · cases hg
  · rename_i m1 j1 hp
    obtain ⟨rfl, rfl⟩ := h N _ _ _ hp
    obtain ⟨z, hz⟩ : ∃ z, S.size = z + 1 := ⟨S.size - 1, by omega⟩
    rw [hz] at hg
    unfold starL at hg
    rw [if_pos hj] at hg
    unfold starL at hg
    rw [if_neg hk] at hg
    cases hg
    exact ⟨rfl, rfl⟩
theorem row_one (h : OneIs S i j m) (hj : beginsF (byteAt S j) = false) : RowIs S i j m := by
  intro N D g J hg
  unfold rowF rowS at hg
  split at hg
  · cases hg
  · rename_i m1 j1 hp
    obtain ⟨rfl, rfl⟩ := h N _ _ _ hp
    unfold rowX at hg
    rw [if_neg (by rw [hj]; decide)] at hg
    cases hg
    exact ⟨rfl, rfl⟩
theorem row_two (h : OneIs S i j m) (hS : 1 ≤ S.size) (hj : beginsF (byteAt S j) = true) (h' : OneIs S j k m') (hk : beginsF (byteAt S k) = false) : RowIs S i k (.cat m m') := by
  intro N D g J hg
  unfold rowF rowS at hg
  split at hg
  · cases hg
  · rename_i m1 j1 hp
    obtain ⟨rfl, rfl⟩ := h N _ _ _ hp
    obtain ⟨z, hz⟩ : ∃ z, S.size = z + 1 := ⟨S.size - 1, by omega⟩
    rw [hz] at hg
    unfold rowX at hg
    rw [if_pos hj] at hg
    split at hg
    · cases hg
    · rename_i m2 j2 hp2
      obtain ⟨rfl, rfl⟩ := h' N _ _ _ hp2
      unfold rowX at hg
      rw [if_neg (by rw [hk]; decide)] at hg
      cases hg
      exact ⟨rfl, rfl⟩
theorem whole_one (h : RowIs S i j m) (hj : byteAt S j ≠ 43) : WholeIs S i j m := by
  intro N D g J hg
  cases N with
  | zero => cases hg
  | succ N =>
    unfold wholeF eitherS at hg
    split at hg
    · cases hg
    · rename_i m1 j1 hp
      obtain ⟨rfl, rfl⟩ := h N _ _ _ hp
      unfold eitherL at hg
      rw [if_neg hj] at hg
      cases hg
      exact ⟨rfl, rfl⟩
theorem whole_two {j1 : Nat} (h : RowIs S i j m) (hS : 1 ≤ S.size) (hj : byteAt S j = 43) (e : j1 = j + 1) (h' : RowIs S j1 k m') (hk : byteAt S k ≠ 43) : WholeIs S i k (.alt m m') := by
  intro N D g J hg
  subst e
  cases N with
  | zero => cases hg
  | succ N =>
    unfold wholeF eitherS at hg
    split at hg
    · cases hg
    · rename_i m1 j1 hp
      obtain ⟨rfl, rfl⟩ := h N _ _ _ hp
      obtain ⟨z, hz⟩ : ∃ z, S.size = z + 1 := ⟨S.size - 1, by omega⟩
      rw [hz] at hg
      unfold eitherL at hg
      rw [if_pos hj] at hg
      split at hg
      · cases hg
      · rename_i m2 j2 hp2
        obtain ⟨rfl, rfl⟩ := h' N _ _ _ hp2
        unfold eitherL at hg
        rw [if_neg hk] at hg
        cases hg
        exact ⟨rfl, rfl⟩
theorem parse_isR {g : Rx} {J : Nat} (h : WholeIs S 0 j m) (hp : parseR S = .good g J) : g = m := by
  obtain ⟨_, _, hw⟩ := parse_end hp
  exact (h _ _ _ _ hw).1
end texts

theorem byteAt_left {a b : ByteArray} {i : Nat} (h : i < a.size) : byteAt (a ++ b) i = byteAt a i := by
  unfold byteAt
  rw [dif_pos (by rw [ByteArray.size_append]; omega), dif_pos h, ByteArray.getElem_append_left h]
theorem byteAt_right {a b : ByteArray} {i : Nat} (h : a.size ≤ i) : byteAt (a ++ b) i = byteAt b (i - a.size) := by
  unfold byteAt
  by_cases hi : i < a.size + b.size
  · rw [dif_pos (by rw [ByteArray.size_append]; omega), dif_pos (by omega), ByteArray.getElem_append_right h]
  · rw [dif_neg (by rw [ByteArray.size_append]; omega), dif_neg (by omega)]
/-- The text p stands in S from place o on. -/
structure HasR (o : Nat) (p S : ByteArray) : Prop where
  fits : o + p.size ≤ S.size
  same : ∀ i, i < p.size → byteAt S (o + i) = byteAt p i
theorem HasR.self (A : ByteArray) : HasR 0 A A := ⟨by omega, fun i _ => by rw [Nat.zero_add]⟩
theorem HasR.last (A B : ByteArray) : HasR A.size B (A ++ B) := ⟨by rw [ByteArray.size_append]; omega, fun i _ => by rw [byteAt_right (by omega), Nat.add_sub_cancel_left]⟩
theorem HasR.more {o : Nat} {p A : ByteArray} (h : HasR o p A) (B : ByteArray) : HasR o p (A ++ B) := ⟨by have := h.fits; rw [ByteArray.size_append]; omega, fun i hi => by have := h.fits; rw [byteAt_left (by omega)]; exact h.same i hi⟩
theorem HasR.byte {o : Nat} {p S : ByteArray} (h : HasR o p S) {i c k : Nat} (hc : byteAt p i = c) (hi : i < p.size) (e : k = o + i) : byteAt S k = c := by rw [e, h.same i hi, hc]
theorem HasR.whole {o i j : Nat} {s S : ByteArray} {m : Rx} {js : Nat} (h : HasR o s S) (hp : parseR s = .good m js) (e : i = o) (e2 : j = o + s.size) (y : byteAt S j = 41) : WholeIs S i j m := by
  subst e e2
  exact whole_emb ⟨h.same, y⟩ (by have := h.fits; omega) hp rfl

section laws
variable {s t : ByteArray} {ms mt : Rx} {js jt : Nat}
abbrev sumT (s t : ByteArray) : ByteArray := ⟨#[40]⟩ ++ s ++ ⟨#[41, 43, 40]⟩ ++ t ++ ⟨#[41]⟩
abbrev starT (s : ByteArray) : ByteArray := ⟨#[40]⟩ ++ s ++ ⟨#[41, 42]⟩
abbrev starsT (s : ByteArray) : ByteArray := ⟨#[40, 40]⟩ ++ s ++ ⟨#[41, 42, 41, 42]⟩
abbrev moreT (s : ByteArray) : ByteArray := ⟨#[40]⟩ ++ s ++ ⟨#[41, 40, 49, 43, 40]⟩ ++ s ++ ⟨#[41, 42, 41]⟩
abbrev behindT (s : ByteArray) : ByteArray := ⟨#[40]⟩ ++ s ++ ⟨#[41, 42, 40]⟩ ++ s ++ ⟨#[41]⟩
theorem sum_parse (hs : parseR s = .good ms js) (ht : parseR t = .good mt jt) {g : Rx} {J : Nat} (h : parseR (sumT s t) = .good g J) : g = .alt ms mt := by
  have kA := (((HasR.self ⟨#[40]⟩).more s).more ⟨#[41, 43, 40]⟩ |>.more t).more ⟨#[41]⟩
  have kS := (((HasR.last ⟨#[40]⟩ s).more ⟨#[41, 43, 40]⟩).more t).more ⟨#[41]⟩
  have kB := ((HasR.last (⟨#[40]⟩ ++ s) ⟨#[41, 43, 40]⟩).more t).more ⟨#[41]⟩
  have kT := (HasR.last (⟨#[40]⟩ ++ s ++ ⟨#[41, 43, 40]⟩) t).more ⟨#[41]⟩
  have kC := HasR.last (⟨#[40]⟩ ++ s ++ ⟨#[41, 43, 40]⟩ ++ t) ⟨#[41]⟩
  have z1 : (⟨#[40]⟩ : ByteArray).size = 1 := rfl
  have z3 : (⟨#[41, 43, 40]⟩ : ByteArray).size = 3 := rfl
  have z4 : (⟨#[41]⟩ : ByteArray).size = 1 := rfl
  simp only [ByteArray.size_append, z1, z3] at kS kB kT kC
  have hz : (sumT s t).size = 1 + s.size + 3 + t.size + 1 := by simp only [sumT, ByteArray.size_append, z1, z3, z4]
  generalize hS : sumT s t = S at *
  simp only [sumT] at hS
  rw [hS] at kA kS kB kT kC
  have y0 : byteAt S 0 = 40 := kA.byte (i := 0) rfl (by decide) (by omega)
  have y1 : byteAt S (1 + s.size) = 41 := kB.byte (i := 0) rfl (by decide) (by omega)
  have y2 : byteAt S (1 + s.size + 1) = 43 := kB.byte (i := 1) rfl (by decide) (by omega)
  have y3 : byteAt S (1 + s.size + 2) = 40 := kB.byte (i := 2) rfl (by decide) (by omega)
  have y4 : byteAt S (1 + s.size + 3 + t.size) = 41 := kC.byte (i := 0) rfl (by decide) (by omega)
  have y5 : byteAt S (1 + s.size + 3 + t.size + 1) = 0 := byteAt_end (by omega)
  have p1 : PartIs S 0 (1 + s.size + 1) ms := part_br y0 (kS.whole hs (by omega) (by omega) y1) y1 rfl
  have p2 : PartIs S (1 + s.size + 2) (1 + s.size + 3 + t.size + 1) mt := part_br y3 (kT.whole ht (by omega) (by omega) y4) y4 rfl
  have r1 := row_one (one_plain p1 (by rw [y2]; decide)) (by rw [y2]; rfl)
  have r2 := row_one (one_plain p2 (by rw [y5]; decide)) (by rw [y5]; rfl)
  exact parse_isR (whole_two r1 (by omega) y2 (by omega) r2 (by rw [y5]; decide)) h
theorem star_parse (hs : parseR s = .good ms js) {g : Rx} {J : Nat} (h : parseR (starT s) = .good g J) : g = starS ms := by
  have kA := ((HasR.self ⟨#[40]⟩).more s).more ⟨#[41, 42]⟩
  have kS := (HasR.last ⟨#[40]⟩ s).more ⟨#[41, 42]⟩
  have kB := HasR.last (⟨#[40]⟩ ++ s) ⟨#[41, 42]⟩
  have z1 : (⟨#[40]⟩ : ByteArray).size = 1 := rfl
  have z3 : (⟨#[41, 42]⟩ : ByteArray).size = 2 := rfl
  simp only [ByteArray.size_append, z1] at kS kB
  have hz : (starT s).size = 1 + s.size + 2 := by simp only [starT, ByteArray.size_append, z1, z3]
  generalize hS : starT s = S at *
  simp only [starT] at hS
  rw [hS] at kA kS kB
  have y0 : byteAt S 0 = 40 := kA.byte (i := 0) rfl (by decide) (by omega)
  have y1 : byteAt S (1 + s.size) = 41 := kB.byte (i := 0) rfl (by decide) (by omega)
  have y2 : byteAt S (1 + s.size + 1) = 42 := kB.byte (i := 1) rfl (by decide) (by omega)
  have y3 : byteAt S (1 + s.size + 2) = 0 := byteAt_end (by omega)
  have p1 : PartIs S 0 (1 + s.size + 1) ms := part_br y0 (kS.whole hs (by omega) (by omega) y1) y1 rfl
  have o1 := one_star p1 (by omega) y2 (k := 1 + s.size + 2) (by rw [y3]; decide) (by omega)
  exact parse_isR (whole_one (row_one o1 (by rw [y3]; rfl)) (by rw [y3]; decide)) h
theorem stars_parse (hs : parseR s = .good ms js) {g : Rx} {J : Nat} (h : parseR (starsT s) = .good g J) : g = starS (starS ms) := by
  have kA := ((HasR.self ⟨#[40, 40]⟩).more s).more ⟨#[41, 42, 41, 42]⟩
  have kS := (HasR.last ⟨#[40, 40]⟩ s).more ⟨#[41, 42, 41, 42]⟩
  have kB := HasR.last (⟨#[40, 40]⟩ ++ s) ⟨#[41, 42, 41, 42]⟩
  have z1 : (⟨#[40, 40]⟩ : ByteArray).size = 2 := rfl
  have z3 : (⟨#[41, 42, 41, 42]⟩ : ByteArray).size = 4 := rfl
  simp only [ByteArray.size_append, z1] at kS kB
  have hz : (starsT s).size = 2 + s.size + 4 := by simp only [starsT, ByteArray.size_append, z1, z3]
  generalize hS : starsT s = S at *
  simp only [starsT] at hS
  rw [hS] at kA kS kB
  have y0 : byteAt S 0 = 40 := kA.byte (i := 0) rfl (by decide) (by omega)
  have y0' : byteAt S 1 = 40 := kA.byte (i := 1) rfl (by decide) (by omega)
  have y1 : byteAt S (2 + s.size) = 41 := kB.byte (i := 0) rfl (by decide) (by omega)
  have y2 : byteAt S (2 + s.size + 1) = 42 := kB.byte (i := 1) rfl (by decide) (by omega)
  have y3 : byteAt S (2 + s.size + 2) = 41 := kB.byte (i := 2) rfl (by decide) (by omega)
  have y4 : byteAt S (2 + s.size + 3) = 42 := kB.byte (i := 3) rfl (by decide) (by omega)
  have y5 : byteAt S (2 + s.size + 4) = 0 := byteAt_end (by omega)
  have p1 : PartIs S 1 (2 + s.size + 1) ms := part_br y0' (kS.whole hs (by omega) (by omega) y1) y1 rfl
  have o1 := one_star p1 (by omega) y2 (k := 2 + s.size + 2) (by rw [y3]; decide) (by omega)
  have w1 := whole_one (row_one o1 (by rw [y3]; rfl)) (by rw [y3]; decide)
  have p2 : PartIs S 0 (2 + s.size + 3) (starS ms) := part_br y0 w1 y3 rfl
  have o2 := one_star p2 (by omega) y4 (k := 2 + s.size + 4) (by rw [y5]; decide) (by omega)
  exact parse_isR (whole_one (row_one o2 (by rw [y5]; rfl)) (by rw [y5]; decide)) h
theorem more_parse (hs : parseR s = .good ms js) {g : Rx} {J : Nat} (h : parseR (moreT s) = .good g J) : g = .cat ms (.alt .empty (starS ms)) := by
  have kA := ((((HasR.self ⟨#[40]⟩).more s).more ⟨#[41, 40, 49, 43, 40]⟩).more s).more ⟨#[41, 42, 41]⟩
  have kS := (((HasR.last ⟨#[40]⟩ s).more ⟨#[41, 40, 49, 43, 40]⟩).more s).more ⟨#[41, 42, 41]⟩
  have kB := ((HasR.last (⟨#[40]⟩ ++ s) ⟨#[41, 40, 49, 43, 40]⟩).more s).more ⟨#[41, 42, 41]⟩
  have kT := (HasR.last (⟨#[40]⟩ ++ s ++ ⟨#[41, 40, 49, 43, 40]⟩) s).more ⟨#[41, 42, 41]⟩
  have kC := HasR.last (⟨#[40]⟩ ++ s ++ ⟨#[41, 40, 49, 43, 40]⟩ ++ s) ⟨#[41, 42, 41]⟩
  have z1 : (⟨#[40]⟩ : ByteArray).size = 1 := rfl
  have z3 : (⟨#[41, 40, 49, 43, 40]⟩ : ByteArray).size = 5 := rfl
  have z4 : (⟨#[41, 42, 41]⟩ : ByteArray).size = 3 := rfl
  simp only [ByteArray.size_append, z1, z3] at kS kB kT kC
  have hz : (moreT s).size = 1 + s.size + 5 + s.size + 3 := by simp only [moreT, ByteArray.size_append, z1, z3, z4]
  generalize hS : moreT s = S at *
  simp only [moreT] at hS
  rw [hS] at kA kS kB kT kC
  have y0 : byteAt S 0 = 40 := kA.byte (i := 0) rfl (by decide) (by omega)
  have y1 : byteAt S (1 + s.size) = 41 := kB.byte (i := 0) rfl (by decide) (by omega)
  have y2 : byteAt S (1 + s.size + 1) = 40 := kB.byte (i := 1) rfl (by decide) (by omega)
  have y3 : byteAt S (1 + s.size + 2) = 49 := kB.byte (i := 2) rfl (by decide) (by omega)
  have y4 : byteAt S (1 + s.size + 3) = 43 := kB.byte (i := 3) rfl (by decide) (by omega)
  have y5 : byteAt S (1 + s.size + 4) = 40 := kB.byte (i := 4) rfl (by decide) (by omega)
  have y6 : byteAt S (1 + s.size + 5 + s.size) = 41 := kC.byte (i := 0) rfl (by decide) (by omega)
  have y7 : byteAt S (1 + s.size + 5 + s.size + 1) = 42 := kC.byte (i := 1) rfl (by decide) (by omega)
  have y8 : byteAt S (1 + s.size + 5 + s.size + 2) = 41 := kC.byte (i := 2) rfl (by decide) (by omega)
  have y9 : byteAt S (1 + s.size + 5 + s.size + 3) = 0 := byteAt_end (by omega)
  have p1 : PartIs S 0 (1 + s.size + 1) ms := part_br y0 (kS.whole hs (by omega) (by omega) y1) y1 rfl
  have o1 := one_plain p1 (by rw [y2]; decide)
  have p2 : PartIs S (1 + s.size + 4) (1 + s.size + 5 + s.size + 1) ms := part_br y5 (kT.whole hs (by omega) (by omega) y6) y6 rfl
  have o2 := one_star p2 (by omega) y7 (k := 1 + s.size + 5 + s.size + 2) (by rw [y8]; decide) (by omega)
  have r2 := row_one o2 (by rw [y8]; rfl)
  have p3 : PartIs S (1 + s.size + 2) (1 + s.size + 3) .empty := part_empty y3 rfl
  have r3 := row_one (one_plain p3 (by rw [y4]; decide)) (by rw [y4]; rfl)
  have w1 := whole_two r3 (by omega) y4 (by omega) r2 (by rw [y8]; decide)
  have p4 : PartIs S (1 + s.size + 1) (1 + s.size + 5 + s.size + 3) (.alt .empty (starS ms)) := part_br y2 w1 y8 rfl
  have o4 := one_plain p4 (by rw [y9]; decide)
  exact parse_isR (whole_one (row_two o1 (by omega) (by rw [y2]; rfl) o4 (by rw [y9]; rfl)) (by rw [y9]; decide)) h
theorem behind_parse (hs : parseR s = .good ms js) {g : Rx} {J : Nat} (h : parseR (behindT s) = .good g J) : g = .cat (starS ms) ms := by
  have kA := ((((HasR.self ⟨#[40]⟩).more s).more ⟨#[41, 42, 40]⟩).more s).more ⟨#[41]⟩
  have kS := (((HasR.last ⟨#[40]⟩ s).more ⟨#[41, 42, 40]⟩).more s).more ⟨#[41]⟩
  have kB := ((HasR.last (⟨#[40]⟩ ++ s) ⟨#[41, 42, 40]⟩).more s).more ⟨#[41]⟩
  have kT := (HasR.last (⟨#[40]⟩ ++ s ++ ⟨#[41, 42, 40]⟩) s).more ⟨#[41]⟩
  have kC := HasR.last (⟨#[40]⟩ ++ s ++ ⟨#[41, 42, 40]⟩ ++ s) ⟨#[41]⟩
  have z1 : (⟨#[40]⟩ : ByteArray).size = 1 := rfl
  have z3 : (⟨#[41, 42, 40]⟩ : ByteArray).size = 3 := rfl
  have z4 : (⟨#[41]⟩ : ByteArray).size = 1 := rfl
  simp only [ByteArray.size_append, z1, z3] at kS kB kT kC
  have hz : (behindT s).size = 1 + s.size + 3 + s.size + 1 := by simp only [behindT, ByteArray.size_append, z1, z3, z4]
  generalize hS : behindT s = S at *
  simp only [behindT] at hS
  rw [hS] at kA kS kB kT kC
  have y0 : byteAt S 0 = 40 := kA.byte (i := 0) rfl (by decide) (by omega)
  have y1 : byteAt S (1 + s.size) = 41 := kB.byte (i := 0) rfl (by decide) (by omega)
  have y2 : byteAt S (1 + s.size + 1) = 42 := kB.byte (i := 1) rfl (by decide) (by omega)
  have y3 : byteAt S (1 + s.size + 2) = 40 := kB.byte (i := 2) rfl (by decide) (by omega)
  have y4 : byteAt S (1 + s.size + 3 + s.size) = 41 := kC.byte (i := 0) rfl (by decide) (by omega)
  have y5 : byteAt S (1 + s.size + 3 + s.size + 1) = 0 := byteAt_end (by omega)
  have p1 : PartIs S 0 (1 + s.size + 1) ms := part_br y0 (kS.whole hs (by omega) (by omega) y1) y1 rfl
  have o1 := one_star p1 (by omega) y2 (k := 1 + s.size + 2) (by rw [y3]; decide) (by omega)
  have p2 : PartIs S (1 + s.size + 2) (1 + s.size + 3 + s.size + 1) ms := part_br y3 (kT.whole hs (by omega) (by omega) y4) y4 rfl
  have o2 := one_plain p2 (by rw [y5]; decide)
  exact parse_isR (whole_one (row_two o1 (by omega) (by rw [y3]; rfl) o2 (by rw [y5]; rfl)) (by rw [y5]; decide)) h
end laws

end Go.Proofs.YtkkmdcnbifepjaaDoor
