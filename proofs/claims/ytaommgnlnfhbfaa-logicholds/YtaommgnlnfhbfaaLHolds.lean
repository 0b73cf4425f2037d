/- The program's Holds. -/
import Derived.Test.YtaommgnlnfhbfaaLAll
import Derived.Test.YtaommgnlnfhbfaaKParse
import Derived.Test.YtaommgnlnfhbfaaMay
namespace Go.Proofs.Ytaommgnlnfhbfaa
open Go.RowKit
set_option linter.unusedVariables false
set_option linter.unusedSimpArgs false

/-- A call that answers a known value and writes nothing that was there. -/
def SaysL (v : Value) (w : World) (e : Ending) (w' : World) : Prop := e = .returned v ∧ w.grownBy w' none

theorem KParsed.gr {w w' : World} {R : LRes} {e : Ending} (h : KParsed w R e w') : ∃ v, e = .returned (.tuple #[v, .agg #[.int .i64 (codeK R), .int .i64 (atK R)]]) ∧ w.grownBy w' none := by
  obtain ⟨hb, v, he, _⟩ := h
  exact ⟨v, he, grown_of_below hb⟩

set_option maxHeartbeats 1600000 in
theorem holdsP_bad (s : ByteArray) (aw : Option Addr) (cw : Nat) (zs : List Int) (w : World) (hm : s.size ≤ maxLen) (hc : codeK (parseK s) ≠ 0) :
    Calls Try.prog 7 #[.string s, .slice aw zs.length cw] w (SaysL (.tuple #[.bool false, .int .i64 4]) w) := by
  have H : Hid (Calls Try.prog 10 #[.string s] w fun e w' => ∃ v, e = .returned (.tuple #[v, .agg #[.int .i64 (codeK (parseK s)), .int .i64 (atK (parseK s))]]) ∧ w.grownBy w' none) := (readK_any s w hm).mono fun e w' h => h.gr
  generalize codeK (parseK s) = c at *
  generalize atK (parseK s) = a at *
  have f1 : (c != 0) = true := by simpa using hc
  have f2 : (c == 0) = false := by simpa using hc
  go_enter Try.func7, Try.ntmps7
  go_wp2_with fail
  refine H.out.mono ?_
  rintro e w2 ⟨v, rfl, hg⟩
  have G : Hid (∀ o, w.grownBy (w2.alloc o) none) := fun o => grown_trans hg (grown_alloc _ _)
  clear hg
  go_wp2_with fail
  go_ret2
  exact ⟨rfl, G.out _⟩

set_option maxHeartbeats 1600000 in
theorem holdsP_size (s : ByteArray) (aw : Option Addr) (cw : Nat) (zs : List Int) (w : World) (hm : s.size ≤ maxLen) (hc : codeK (parseK s) = 0) (hz : 6 < zs.length) (hzm : zs.length ≤ maxLen) :
    Calls Try.prog 7 #[.string s, .slice aw zs.length cw] w (SaysL (.tuple #[.bool false, .int .i64 1]) w) := by
  have H : Hid (Calls Try.prog 10 #[.string s] w fun e w' => ∃ v, e = .returned (.tuple #[v, .agg #[.int .i64 0, .int .i64 (atK (parseK s))]]) ∧ w.grownBy w' none) := (readK_any s w hm).mono fun e w' h => by have := h.gr; rwa [hc] at this
  generalize atK (parseK s) = a at *
  have hz' : (6 : Int) < (zs.length : Int) := by omega
  unfold maxLen at hzm
  clear hc
  go_enter Try.func7, Try.ntmps7
  go_wp2_with fail
  refine H.out.mono ?_
  rintro e w2 ⟨v, rfl, hg⟩
  have G : Hid (∀ o, w.grownBy (w2.alloc o) none) := fun o => grown_trans hg (grown_alloc _ _)
  clear hg
  go_wp2_with fail
  go_ret2
  exact ⟨rfl, G.out _⟩

set_option maxHeartbeats 1600000 in
theorem holdsP_may (s : ByteArray) (aw : Option Addr) (cw : Nat) (zs : List Int) (w : World) (hm : s.size ≤ maxLen) (hc : codeK (parseK s) = 0) (hz : ¬ 6 < zs.length) (hi : Ints w aw zs) (hy : mayF 2 zs ≠ 0) :
    Calls Try.prog 7 #[.string s, .slice aw zs.length cw] w (SaysL (.tuple #[.bool false, .int .i64 (mayF 2 zs)]) w) := by
  have H : Hid (Calls Try.prog 10 #[.string s] w fun e w' => ∃ v, e = .returned (.tuple #[v, .agg #[.int .i64 0, .int .i64 (atK (parseK s))]]) ∧ w.grownBy w' none) := (readK_any s w hm).mono fun e w' h => by have := h.gr; rwa [hc] at this
  have HM : Hid (∀ W, w.grownBy W none → Calls Try.prog 13 #[.int .i64 2, .slice aw zs.length cw] W fun e w' => e = .returned (.int .i64 (mayF 2 zs)) ∧ w' = W) := fun W hW => may_any 2 aw cw zs W (hi.grown hW) (by unfold maxLen; omega)
  generalize atK (parseK s) = a at *
  generalize mayF 2 zs = y at *
  have f1 : (y != 0) = true := by simpa using hy
  have f2 : (y == 0) = false := by simpa using hy
  have hz' : ¬ (6 : Int) < (zs.length : Int) := by omega
  clear hc hi
  go_enter Try.func7, Try.ntmps7
  go_wp2_with fail
  refine H.out.mono ?_
  rintro e w2 ⟨v, rfl, hg⟩
  have G : Hid (∀ o, w.grownBy (w2.alloc o) none) := fun o => grown_trans hg (grown_alloc _ _)
  clear hg
  go_wp2_with fail
  refine (HM.out _ (G.out _)).mono ?_
  rintro e w3 ⟨rfl, rfl⟩
  go_wp2_with fail
  go_ret2
  exact ⟨rfl, G.out _⟩

theorem rowW_of {w : World} {a : Option Addr} {ws : List Nat} (h : Ints w a (ws.map fun (x : Nat) => (x : Int))) : RowW w a ws := by
  rcases h with h | ⟨b, off, ha, hc⟩
  · exact .inl (by simpa using h)
  · refine .inr ⟨b, off, ha, fun k hk => ?_⟩
    have h1 := hc k (by simpa using hk)
    rw [h1]
    simp [List.getD, hk]

set_option maxHeartbeats 1600000 in
theorem holdsP_good (s : ByteArray) (aw : Option Addr) (cw : Nat) (ws : List Nat) (w : World) (hm : s.size ≤ maxLen) (f : Lf) (j n : Nat) (hp : parseK s = .good f j n) (hz : ws.length ≤ 6) (hi : Ints w aw (ws.map fun (x : Nat) => (x : Int))) (h2 : ∀ x ∈ ws, x < 2) (hy : mayF 2 (ws.map fun (x : Nat) => (x : Int)) = 0) :
    Calls Try.prog 7 #[.string s, .slice aw ws.length cw] w (SaysL (.tuple #[.bool (holdL ws f []), .int .i64 0]) w) := by
  have hwl := parseK_well hp
  have H : Hid (Calls Try.prog 10 #[.string s] w fun e w' => ∃ v, e = .returned (.tuple #[v, .agg #[.int .i64 0, .int .i64 0]]) ∧ w.grownBy w' none ∧ TreeL (fun k => w.heap.size ≤ k) w' v (trL f)) := (readK_any s w hm).mono fun e w' h => by
    rw [hp] at h
    obtain ⟨hb, v, he, ht⟩ := h
    exact ⟨v, he, grown_of_below hb, ht⟩
  have HM : Hid (∀ W, w.grownBy W none → Calls Try.prog 13 #[.int .i64 2, .slice aw ws.length cw] W fun e w' => e = .returned (.int .i64 0) ∧ w' = W) := fun W hW => by
    have h1 := may_any 2 aw cw (ws.map fun (x : Nat) => (x : Int)) W (hi.grown hW) (by rw [List.length_map]; unfold maxLen; omega)
    rwa [List.length_map, hy] at h1
  have HH : Hid (∀ W v, w.grownBy W none → TreeL (fun k => w.heap.size ≤ k) W v (trL f) → Calls Try.prog 14 #[v, .slice aw ws.length cw, .slice none 0 0] W fun e w' => e = .returned (.bool (holdL ws f [])) ∧ W.grownBy w' none) := fun W v hW ht => by
    have h1 := doesT_all (trL f) _ W v aw none cw 0 ws [] [] ht (wellT_trL f [] hwl) hz h2 (rowW_of (hi.grown hW)) (.inl rfl) ⟨fun _ => ⟨rfl, rfl⟩, Nat.le_refl _⟩ ⟨rfl, by simp, fun k hk => by simp at hk, fun k hk => by simp at hk⟩
    rw [holdT_trL ws f [] [] hwl] at h1
    exact h1
  generalize holdL ws f [] = b at *
  generalize trL f = t at *
  have hz' : ¬ (6 : Int) < (ws.length : Int) := by omega
  clear hp hi hy hwl
  go_enter Try.func7, Try.ntmps7
  go_wp2_with fail
  refine H.out.mono ?_
  rintro e w2 ⟨v, rfl, hg, ht⟩
  obtain ⟨p, rfl⟩ := ht.form
  have G : Hid (∀ o, w.grownBy (w2.alloc o) none) := fun o => grown_trans hg (grown_alloc _ _)
  have T : Hid (∀ o, TreeL (fun k => w.heap.size ≤ k) (w2.alloc o) (.pointer p) t) := fun o => ht.idle (grown_alloc _ _)
  clear hg ht
  go_wp2_with fail
  refine (HM.out _ (G.out _)).mono ?_
  rintro e w3 ⟨rfl, rfl⟩
  go_wp2_with fail
  refine (HH.out _ _ (G.out _) (T.out _)).mono ?_
  rintro e w4 ⟨rfl, hg4⟩
  have G4 : Hid (w.grownBy w4 none) := grown_trans (G.out _) hg4
  clear hg4
  go_wp2_with fail
  go_ret2
  exact ⟨rfl, G4.out⟩

end Go.Proofs.Ytaommgnlnfhbfaa
