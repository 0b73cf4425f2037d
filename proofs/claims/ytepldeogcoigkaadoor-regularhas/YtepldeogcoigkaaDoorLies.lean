/- What was read lies in memory as the program keeps it; and how it stays there. -/
import Derived.Test.YtepldeogcoigkaaDoorSpec
import Derived.Test.YtepldeogcoigkaaDoorPeek
namespace Go.Proofs.YtepldeogcoigkaaDoor
open Go.RowKit
set_option linter.unusedVariables false

/-- The value v is a part that tells m; the memory that it lies in is of blocks that are ok. -/
inductive Lies (ok : Nat → Prop) (w : World) : Value → Sense → Prop
  | letter (c : Nat) (hc : c < 4) : Lies ok w (.iface 53 (.int .i64 c)) (letterS c)
  | none (a : Option Addr) (cap : Nat) : Lies ok w (.iface 56 (.slice a 0 cap)) noneS
  | empty (a : Option Addr) (cap : Nat) : Lies ok w (.iface 58 (.slice a 0 cap)) emptyS
  | either (g cap : Nat) (vs : List Value) (ms : List Sense) (hok : ok g) (hn : ms.length ≤ 4001) (hc : ∀ k, k < ms.length → w.cell? ⟨g, k, none⟩ = some (vs.getD k .nilIface))
      (hl : ∀ k, k < ms.length → Lies ok w (vs.getD k .nilIface) (ms.getD k noneS)) : Lies ok w (.iface 56 (.slice (some ⟨g, 0, Option.none⟩) ms.length cap)) (eitherOf ms)
  | row (g cap : Nat) (vs : List Value) (ms : List Sense) (hok : ok g) (hn : ms.length ≤ 4001) (hc : ∀ k, k < ms.length → w.cell? ⟨g, k, none⟩ = some (vs.getD k .nilIface))
      (hl : ∀ k, k < ms.length → Lies ok w (vs.getD k .nilIface) (ms.getD k noneS)) : Lies ok w (.iface 58 (.slice (some ⟨g, 0, Option.none⟩) ms.length cap)) (rowOf ms)
  | star (v : Value) (m : Sense) (h : Lies ok w v m) : Lies ok w (.iface 61 (.agg #[v])) (starS m)

theorem Lies.kept {ok ok' : Nat → Prop} {w w' : World} {v : Value} {m : Sense} (h : Lies ok w v m) (hk : ∀ g, ok g → g < w.heap.size → ok' g ∧ w'.heap[g]? = w.heap[g]?) : Lies ok' w' v m := by
  have hc : ∀ (g : Nat) (o : Nat) (x : Value), ok g → w.cell? ⟨g, o, Option.none⟩ = some x → ok' g ∧ w'.cell? ⟨g, o, Option.none⟩ = some x := by
    intro g o x hg hx
    have hlt := World.block_lt_of_cell? w _ hx
    obtain ⟨k1, k2⟩ := hk g hg hlt
    exact ⟨k1, (World.cell?_of_block (a := ⟨g, o, Option.none⟩) k2).trans hx⟩
  induction h with
  | letter c hc => exact .letter c hc
  | none a cap => exact .none a cap
  | empty a cap => exact .empty a cap
  | either g cap vs ms hok hn hcs hl ih =>
    by_cases h0 : ms.length = 0
    · have : ms = [] := List.eq_nil_of_length_eq_zero h0
      subst this
      rw [eitherOf_nil]
      exact .none _ _
    · exact .either g cap vs ms (hc g 0 _ hok (hcs 0 (by omega))).1 hn (fun k hk => (hc g k _ hok (hcs k hk)).2) ih
  | row g cap vs ms hok hn hcs hl ih =>
    by_cases h0 : ms.length = 0
    · have : ms = [] := List.eq_nil_of_length_eq_zero h0
      subst this
      exact .empty _ _
    · exact .row g cap vs ms (hc g 0 _ hok (hcs 0 (by omega))).1 hn (fun k hk => (hc g k _ hok (hcs k hk)).2) ih
  | star v m _ ih => exact .star v m ih

theorem Lies.form {ok : Nat → Prop} {w : World} {v : Value} {m : Sense} (h : Lies ok w v m) : ∃ t x, v = .iface t x := by
  cases h <;> exact ⟨_, _, rfl⟩

/-- A list of parts that the call has made. -/
structure Kids (base : Nat) (w : World) (v : Value) (ms : List Sense) (vs : List Value) : Prop where
  own : w.ownsRow base 34 1 v ms.length vs
  lie : ∀ k, k < ms.length → Lies (fun q => base ≤ q ∧ v.ownBlock ≠ some q) w (vs.getD k .nilIface) (ms.getD k noneS)

theorem Kids.len {base : Nat} {w : World} {v : Value} {ms : List Sense} {vs : List Value} (h : Kids base w v ms vs) : vs.length = ms.length := by have := h.own.1; omega

theorem Kids.kept {base : Nat} {w w' : World} {v : Value} {ms : List Sense} {vs : List Value} {b : Nat} (h : Kids base w v ms vs) (hg : w.grownBy w' (some b)) (hb : b < base) : Kids base w' v ms vs := by
  refine ⟨h.own.kept hg ?_, fun k hk => (h.lie k hk).kept fun g hg' hlt => ⟨hg', hg.block g hlt (by simp; omega)⟩⟩
  cases hv : v.ownBlock with
  | none => simp
  | some q => have := h.own.lt q hv; simp; omega

/-- The first one. -/
theorem Kids.first {base : Nat} {w w0 : World} {v : Value} {m : Sense} (hv : Lies (fun k => w0.heap.size ≤ k) w v m) (hb : base ≤ w0.heap.size) (hs : w0.heap.size ≤ w.heap.size) :
    Kids base (w.alloc (.cells #[v] 34)) (.slice (some ⟨w.heap.size, 0, none⟩) 1 1) [m] [v] := by
  refine ⟨⟨rfl, .inr ⟨w.heap.size, 1, #[v], rfl, by omega, heap_alloc_new w _, by simp, by unfold maxLen; omega, rfl, by simp⟩⟩, fun k hk => ?_⟩
  have : k = 0 := by simpa using hk
  subst this
  refine hv.kept fun g hg hlt => ⟨⟨by omega, by simp [Value.ownBlock]; omega⟩, Below.heap_alloc _ _ _ hlt⟩

/-- One more: behind the append. -/
theorem Kids.push {base : Nat} {w2 w3 : World} {v v' x : Value} {ms : List Sense} {vs : List Value} {m : Sense} {n : Nat} (h : Kids base w2 v ms vs) (hn : n ≤ w2.heap.size) (hv : ∀ q, v.ownBlock = some q → q < n) (hbase : base ≤ n) (hx : Lies (fun k => n ≤ k) w2 x m)
    (ho : w3.ownsRow base 34 1 v' (ms.length + 1) (vs ++ [x])) (hg : (w2.alloc (.cells #[x] 34)).grownBy w3 v.ownBlock) (hat : v'.ownBlock = v.ownBlock ∨ v'.ownBlock = some (w2.heap.size + 1)) : Kids base w3 v' (ms ++ [m]) (vs ++ [x]) := by
  have hsz : (w2.alloc (.cells #[x] 34)).heap.size = w2.heap.size + 1 := by simp
  have hstep : ∀ q, q < w2.heap.size → v.ownBlock ≠ some q → w3.heap[q]? = w2.heap[q]? := fun q hq hne =>
    (hg.block q (by omega) (Ne.symm hne)).trans (Below.heap_alloc _ _ _ hq)
  have hout : ∀ q, q < w2.heap.size → v.ownBlock ≠ some q → v'.ownBlock ≠ some q := by
    intro q hq hne
    rcases hat with e | e
    · rw [e]; exact hne
    · rw [e]; simp; omega
  refine ⟨by simpa using ho, fun k hk => ?_⟩
  have hl := h.len
  by_cases hk' : k < ms.length
  · have e1 : (vs ++ [x]).getD k .nilIface = vs.getD k .nilIface := by simp [List.getD, List.getElem?_append_left (show k < vs.length by omega)]
    have e2 : (ms ++ [m]).getD k noneS = ms.getD k noneS := by simp [List.getD, List.getElem?_append_left hk']
    rw [e1, e2]
    exact (h.lie k hk').kept fun g ⟨hg1, hg2⟩ hlt => ⟨⟨hg1, hout g hlt hg2⟩, hstep g hlt hg2⟩
  · have hke : k = ms.length := by simp at hk; omega
    subst hke
    have e1 : (vs ++ [x]).getD ms.length .nilIface = x := by simp [List.getD, ← hl]
    have e2 : (ms ++ [m]).getD ms.length noneS = m := by simp [List.getD]
    rw [e1, e2]
    refine hx.kept fun g hg1 hlt => ?_
    have hne : v.ownBlock ≠ some g := fun e => by have := hv g e; omega
    exact ⟨⟨by omega, hout g hlt hne⟩, hstep g hlt hne⟩

/-- What a call of the program's reader leaves behind. -/
def Gives (s : ByteArray) (b d : Nat) (w : World) (R : Res) (e : Ending) (w' : World) : Prop :=
  w.grownBy w' (some b) ∧ match R with
  | .good m j => ∃ v, e = .returned v ∧ Rd w' b s j d ∧ Lies (fun k => w.heap.size ≤ k) w' v m
  | .bad c j => (c = 4 ∧ e = .panicked [{ v := .iface 47 (.int .i64 j), recovered := false }]) ∨ (c = 7 ∧ e = .panicked [{ v := .iface 48 (.int .i64 j), recovered := false }])

/-- A function of the program's reader reads as S says, at places with less than n bytes behind them. -/
def Does (f : Nat) (s : ByteArray) (S : Nat → Nat → Res) (n : Nat) : Prop :=
  ∀ (i d b : Nat) (w : World), i ≤ s.size → s.size - i < n → d ≤ 40 → Rd w b s i d → Calls Tryd.prog f #[.pointer (some ⟨b, 0, none⟩)] w (Gives s b d w (S i d))

/-- A bad end of a part of what is read is a bad end of the whole. -/
theorem Gives.bad_trans {s : ByteArray} {b d d' : Nat} {w w1 w2 : World} {c : Int} {j : Nat} {e : Ending} (h0 : w.grownBy w1 (some b)) (h : Gives s b d' w1 (.bad c j) e w2) : Gives s b d w (.bad c j) e w2 :=
  ⟨grown_trans h0 h.1, h.2⟩

theorem begins_any (c : Nat) (w : World) (hc : c < 256) : Calls Tryd.prog 30 #[.int .u8 c] w fun e w' => e = .returned (.bool (beginsF c)) ∧ w' = w := by
  by_cases h1 : c = 48
  · subst h1
    go_enter Tryd.func30, Tryd.ntmps30
    go_wp2
    go_ret
    exact ⟨ret_bool (by simp [beginsF]), rfl⟩
  · have h1' : ((c : Int) == 48) = false := by simp; omega
    by_cases h2 : c = 49
    · subst h2
      go_enter Tryd.func30, Tryd.ntmps30
      go_wp2
      go_ret
      exact ⟨ret_bool (by simp [beginsF]), rfl⟩
    · have h2' : ((c : Int) == 49) = false := by simp; omega
      by_cases h3 : c = 40
      · subst h3
        go_enter Tryd.func30, Tryd.ntmps30
        go_wp2
        go_ret
        exact ⟨ret_bool (by simp [beginsF]), rfl⟩
      · have h3' : ((c : Int) == 40) = false := by simp; omega
        by_cases h4 : 97 ≤ c
        · have h4' : (97 : Int) ≤ (c : Int) := by omega
          go_enter Tryd.func30, Tryd.ntmps30
          go_wp2
          go_ret
          refine ⟨ret_bool ?_, rfl⟩
          have e1 : (c == 48) = false := by simpa using h1
          have e2 : (c == 49) = false := by simpa using h2
          have e3 : (c == 40) = false := by simpa using h3
          simp only [beginsF, e1, e2, e3, Bool.false_or, decide_eq_true h4, Bool.true_and]
          by_cases h : c ≤ 100
          · rw [decide_eq_true h, decide_eq_true (by omega)]
          · rw [decide_eq_false h, decide_eq_false (by omega)]
        · have h4' : decide ((97 : Int) ≤ (c : Int)) = false := by simp; omega
          go_enter Tryd.func30, Tryd.ntmps30
          go_wp2
          go_ret
          exact ⟨ret_bool (by simp [beginsF, h1, h2, h3, h4]), rfl⟩

end Go.Proofs.YtepldeogcoigkaaDoor
