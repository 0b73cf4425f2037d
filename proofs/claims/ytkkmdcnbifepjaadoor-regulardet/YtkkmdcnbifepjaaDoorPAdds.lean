/- Which places can come behind others. -/
/- A text's letters are gathered: a letter. -/
/- A text's letters are gathered: an either, and a row. -/
/- A text's letters are gathered: a row. -/
/- A text's letters are gathered: whatever it is. -/
/- Where one is behind a letter; whether a word can end there. -/
/- The places of a whole text. -/
import Derived.Test.YtkkmdcnbifepjaaDoorPTab
import Derived.Deep.RegionWith
import Derived.BigRegion
import Derived.RegionTactic
import Derived.Test.YtkkmdcnbifepjaaDoorRdr
namespace Go.Proofs.YtkkmdcnbifepjaaDoor
open Go.RowKit
set_option linter.unusedVariables false

/-- While it goes: r is left. -/
def follR (p : Pl) (s t r : Nat) : Pl := { p with behind := fun j => if (s.testBit j && !r.testBit j) = true then p.behind j ||| t else p.behind j }
theorem follR_start (p : Pl) (s t : Nat) : follR p s t s = p := by
  unfold follR
  have : (fun j => if (s.testBit j && !s.testBit j) = true then p.behind j ||| t else p.behind j) = p.behind := by funext j; simp
  rw [this]
theorem follR_end (p : Pl) (s t : Nat) : follR p s t 0 = p.follow s t := by
  unfold follR Pl.follow
  congr 1
  funext j
  simp
def PlPost (b last : Nat) (p : Pl) (w : World) (E : Ending) (w' : World) : Prop := E = .returned (.tuple #[]) ∧ PlAt w' b p last ∧ w.grownBy w' (some b)

set_option maxHeartbeats 3200000 in
set_option maxRecDepth 100000 in
theorem follow_any (b s t last : Nat) (p : Pl) (w : World) (h : PlAt w b p last) (hT : Tab32 w) (hb : b ≠ 0) (hs : s < 2048) (ht : t < 2048) (hp : p.Ok) :
    Calls Tryd.prog 36 #[.pointer (some ⟨b, 0, none⟩), .int .u16 (s : Int), .int .u16 (t : Int)] w (PlPost b last (p.follow s t) w) := by
  have HT : Hid (∀ W, w.grownBy W (some b) → Tab32 W) := fun W hW => hT.kept hW (by simpa using hb)
  have H : Hid (PlAt w b p last) := h
  have OK : Hid p.Ok := hp
  obtain ⟨Po, hPo⟩ : ∃ Po, Po = PlPost b last (p.follow s t) w := ⟨_, rfl⟩
  have HPo : Hid (Po = PlPost b last (p.follow s t) w) := hPo
  rw [← hPo]
  clear h hT hp hPo
  go_enter Tryd.func36, Tryd.ntmps36
  go_wp2_with fail
  go_loopw [1] (fun v wr => ∃ r : Nat, v = .int .u16 (r : Int) ∧ r < 2048 ∧ (∀ j, r.testBit j = true → s.testBit j = true) ∧ PlAt wr b (follR p s t r) last ∧ w.grownBy wr (some b)) (fun v _ => (intOf v).toNat)
  case atStart => exact ⟨s, rfl, hs, fun _ e => e, by rw [follR_start]; exact H.out, grown_refl _ _⟩
  case round =>
    obtain ⟨r, rfl, hr, hrs, hpl, hg⟩ := hrel
    have P : Hid (PlAt wr b (follR p s t r) last) := hpl
    have G : Hid (w.grownBy wr (some b)) := hg
    have HRS : Hid (∀ j, r.testBit j = true → s.testBit j = true) := hrs
    clear hpl hg hrs
    by_cases h0 : r = 0
    · subst h0
      have PE : Hid (PlAt wr b (p.follow s t) last) := by rw [follR_end] at P; exact P.out
      go_wp2_with fail
      go_end0
      rw [HPo.out]
      exact ⟨rfl, PE.out, G.out⟩
    · have h0' : ((r : Int) != 0) = true := by simp; omega
      obtain ⟨l1, l2, l3, l4⟩ := low_set h0 hr
      have er : bits .and .u16 (r : Int) ((r : Int) - 1) = ((restP r : Nat) : Int) := by
        have e1 : ((r : Int) - 1) = ((r - 1 : Nat) : Int) := by omega
        rw [e1, bits_and_set hr (by omega)]; rfl
      have hri : (1 : Int) ≤ (r : Int) := by omega
      have HC : Hid (∀ W, wr.grownBy W none → Calls Tryd.prog 42 #[.int .u16 (r : Int)] W fun e w' => e = .returned (.int .i64 ((lowP r : Nat) : Int)) ∧ w' = W) := fun W hW => tz16_any r h0 hr W ((HT.out wr G.out).kept hW (by simp))
      have HR2 : Hid (∀ j, (restP r).testBit j = true → s.testBit j = true) := fun j hj => by
        rw [l2 j] at hj
        exact HRS.out j (by simp at hj; exact hj.1)
      have hbd : (follR p s t r).behind (lowP r) = p.behind (lowP r) := by simp [follR, l1]
      have hsl : s.testBit (lowP r) = true := HRS.out _ l1
      have HP2 : Hid (∀ W, PlAt W b (follR p s t r) last → PlAt (W.setCell ⟨b, 5 + lowP r, none⟩ (.int .u16 ((p.behind (lowP r) ||| t : Nat) : Int))) b (follR p s t (restP r)) last) := fun W hW => hW.setBehind l4 rfl rfl (by simp [follR, l2, hsl]) (fun k hk => by simp [follR, l2, hk])
      have HLt : Hid (restP r < r) := l3
      obtain ⟨c, hc⟩ : ∃ c, lowP r = c := ⟨_, rfl⟩
      rw [hc] at HC HP2 hbd l4
      have cb := P.out.behind l4
      have cf := P.out.fz (5 + c)
      rw [hbd] at cb
      have eo : bits .or .u16 ((p.behind c : Nat) : Int) (t : Int) = ((p.behind c ||| t : Nat) : Int) := bits_or_set (OK.out.behind c) ht
      have hci : (c : Int) < 11 := by omega
      have hrp : restP r < 2048 := by omega
      obtain ⟨r2, hr2⟩ : ∃ r2, restP r = r2 := ⟨_, rfl⟩
      rw [hr2] at er HR2 HP2 HLt hrp
      generalize p.behind c = pb at *
      clear l1 l2 l3 hc hbd hsl hr2
      go_wp2_with fail
      go_region_with (go_at_call 42; refine (HC.out _ (by first | exact grown_refl _ _ | exact grown_drew (grown_refl _ _) | exact grown_drewN (grown_refl _ _) _)).mono ?_; rintro E w5 ⟨rfl, rfl⟩)
      all_goals
        go_wp2_with fail
        refine ⟨⟨r2, rfl, hrp, HR2.out, (HP2.out _ P.out).kept (grown_drew (grown_refl _ _)), grown_drew (grown_trans G.out (grown_set _ _ _))⟩, ?_⟩
        simp only [intOf, Int.toNat_natCast]
        exact HLt.out

end Go.Proofs.YtkkmdcnbifepjaaDoor

namespace Go.Proofs.YtkkmdcnbifepjaaDoor
open Go.RowKit
set_option linter.unusedVariables false

abbrev rchV (r : Rch) : Value := .agg #[.int .u16 (r.first : Int), .int .u16 (r.last : Int), .bool r.empty]
def AddPost (b last : Nat) (m : Rx) (p : Pl) (w : World) (E : Ending) (w' : World) : Prop := E = .returned (rchV (glu m p).1) ∧ PlAt w' b (glu m p).2 last ∧ w.grownBy w' (some b)

/-- A box with a reach in it. -/
def rcF (r : Rch) (i : Nat) : Value := if i = 0 then .int .u16 (r.first : Int) else if i = 1 then .int .u16 (r.last : Int) else .bool r.empty
def RcAt (w : World) (g : Nat) (r : Rch) : Prop := RowB w g 85 3 3 (rcF r)
section
variable {w w' : World} {g : Nat} {r : Rch}
theorem RcAt.c0 (h : RcAt w g r) : w.cell? ⟨g, 0, none⟩ = some (.int .u16 (r.first : Int)) := RowB.cell h (i := 0) (by omega)
theorem RcAt.c1 (h : RcAt w g r) : w.cell? ⟨g, 1, none⟩ = some (.int .u16 (r.last : Int)) := RowB.cell h (i := 1) (by omega)
theorem RcAt.c2 (h : RcAt w g r) : w.cell? ⟨g, 2, none⟩ = some (.bool r.empty) := RowB.cell h (i := 2) (by omega)
theorem RcAt.fz (h : RcAt w g r) (i : Nat) : w.frozen? ⟨g, i, none⟩ = false := RowB.frozen h i
theorem RcAt.kept (h : RcAt w g r) (hg : w.grownBy w' none) : RcAt w' g r := RowB.kept h hg
theorem RcAt.far {b : Nat} (h : RcAt w g r) (hg : w.grownBy w' (some b)) (hne : g ≠ b) : RcAt w' g r := RowB.grown h hg hne
theorem RcAt.other (h : RcAt w g r) {g' i : Nat} (hne : g ≠ g') (v : Value) : RcAt (w.setCell ⟨g', i, none⟩ v) g r := RowB.other h hne v
theorem RcAt.lt (h : RcAt w g r) : g < w.heap.size := RowB.lt h
theorem RcAt.new (w : World) (a b : Nat) (e : Bool) : RcAt (w.alloc (.cells #[.int .u16 (a : Int), .int .u16 (b : Int), .bool e] 85)) w.heap.size ⟨a, b, e⟩ := ⟨_, heap_alloc_new _ _, rfl, Nat.le_refl _, fun i hi => by
  match i, hi with
  | 0, _ => rfl
  | 1, _ => rfl
  | 2, _ => rfl⟩
theorem RcAt.set (h : RcAt w g r) (a b : Nat) (e : Bool) : RcAt (((w.setCell ⟨g, 0, none⟩ (.int .u16 (a : Int))).setCell ⟨g, 1, none⟩ (.int .u16 (b : Int))).setCell ⟨g, 2, none⟩ (.bool e)) g ⟨a, b, e⟩ := by
  refine RowB.congr (RowB.set (RowB.set (RowB.set h (i := 0) (by omega) _) (i := 1) (by omega) _) (i := 2) (by omega) _) fun i hi => ?_
  match i, hi with
  | 0, _ => rfl
  | 1, _ => rfl
  | 2, _ => rfl
end

set_option maxHeartbeats 3200000 in
set_option maxRecDepth 100000 in
theorem addLetter_any (b l last : Nat) (p : Pl) (w : World) (h : PlAt w b p last) (hl : l < 4) (hp : p.Ok) (hm : p.many + 1 ≤ 10) :
    Calls Tryd.prog 53 #[.pointer (some ⟨b, 0, none⟩), .int .i64 (l : Int)] w (AddPost b last (.letter (l : Int)) p w) := by
  have hbw := h.lt
  obtain ⟨x, hx⟩ : ∃ x, 2 ^ p.many = x := ⟨_, rfl⟩
  have hx2 : x < 2048 := by
    have : 2 ^ p.many < 2 ^ 11 := Nat.pow_lt_pow_right (by decide) (by omega)
    rw [← hx]; simpa using this
  have ew : IntKind.u16.wrap ((2 : Int) ^ p.many) = (x : Int) := by
    have : ((2 : Int) ^ p.many) = ((2 ^ p.many : Nat) : Int) := by push_cast; rfl
    rw [this, hx, IntKind.wrap_u16]; omega
  have h0 := h.kept (grown_alloc w (.cells #[.int .u16 0, .int .u16 0, .bool false] 85))
  have R0 := RcAt.new w 0 0 false
  have c0 := h0.many
  have f0 := h0.fz 0
  have h1 := h0.setMany (p' := { p with many := p.many + 1 }) (x := p.many + 1) rfl rfl rfl
  have em : ((p.many + 1 : Nat) : Int) = (p.many : Int) + 1 := by omega
  rw [em] at h1
  have c1 := h1.of hl
  have f1 := h1.fz (1 + l)
  have eo : bits .or .u16 ((p.of l : Nat) : Int) (x : Int) = ((p.of l ||| x : Nat) : Int) := bits_or_set (hp.of l) hx2
  have h2 := h1.setOf (p' := (glu (.letter (l : Int)) p).2) (l := l) (x := p.of l ||| x) hl rfl rfl (by simp [glu, hx]) (fun k hk => by simp [glu, hk])
  obtain ⟨W2, hW2⟩ : ∃ W2, W2 = (((w.alloc (.cells #[.int .u16 0, .int .u16 0, .bool false] 85)).setCell ⟨b, 0, none⟩ (.int .i64 ((p.many : Int) + 1))).setCell ⟨b, 1 + l, none⟩ (.int .u16 ((p.of l ||| x : Nat) : Int))).drew := ⟨_, rfl⟩
  have P2 : Hid (PlAt W2 b (glu (.letter (l : Int)) p).2 last) := by show PlAt _ _ _ _; rw [hW2]; exact h2.kept (grown_drew (grown_refl _ _))
  have R2 : Hid (RcAt W2 w.heap.size ⟨0, 0, false⟩) := by show RcAt _ _ _; rw [hW2]; exact ((RcAt.other R0 (by omega) _).other (by omega) _).kept (grown_drew (grown_refl _ _))
  have G2 : Hid (w.grownBy W2 (some b)) := by show World.grownBy _ _ _; rw [hW2]; exact grown_drew (grown_trans (grown_trans (grown_some (grown_alloc _ _)) (grown_set _ _ _)) (grown_set _ _ _))
  have HW2 : Hid (W2 = _) := hW2
  have z0 := R2.out.c0
  have z1 := R2.out.c1
  have z2 := R2.out.c2
  have zf := R2.out.fz
  obtain ⟨W9, hW9⟩ : ∃ W9, W9 = ((W2.setCell ⟨w.heap.size, 0, none⟩ (.int .u16 (x : Int))).setCell ⟨w.heap.size, 1, none⟩ (.int .u16 (x : Int))).setCell ⟨w.heap.size, 2, none⟩ (.bool false) := ⟨_, rfl⟩
  have R9 : RcAt W9 w.heap.size ⟨x, x, false⟩ := by rw [hW9]; exact R2.out.set x x false
  have q0 := R9.c0
  have q1 := R9.c1
  have q2 := R9.c2
  have Fin : Hid (AddPost b last (.letter (l : Int)) p w (.returned (.agg #[.int .u16 (x : Int), .int .u16 (x : Int), .bool false])) W9) := by
    refine ⟨by simp [glu, rchV, hx], ?_, ?_⟩
    · rw [hW9]
      exact RowB.other (RowB.other (RowB.other P2.out (by omega) _) (by omega) _) (by omega) _
    · rw [hW9]
      exact grown_new (grown_new (grown_new G2.out (grown_set _ _ _) (Nat.le_refl _)) (grown_set _ _ _) (Nat.le_refl _)) (grown_set _ _ _) (Nat.le_refl _)
  obtain ⟨Po, hPo⟩ : ∃ Po, Po = AddPost b last (.letter (l : Int)) p w := ⟨_, rfl⟩
  have HPo : Hid (Po = AddPost b last (.letter (l : Int)) p w) := hPo
  rw [← hPo]
  have hmi : (p.many : Int) < 10 := by omega
  have hli : (l : Int) < 4 := by omega
  simp only at q0 q1 q2 z0 z1 z2
  clear h h0 h1 h2 R0 R9 hx hPo hW2 hbw
  go_enter Tryd.func53, Tryd.ntmps53
  go_wp2_with fail
  go_region
  all_goals
    rw [← HW2.out]
    go_wp2_with fail
    rw [← hW9]
    exact bodyPost_ret (v := .agg #[.int .u16 (x : Int), .int .u16 (x : Int), .bool false]) (by simp [results, Tryd.results53, go_sem, q0, q1, q2]) rfl (by rw [HPo.out]; exact Fin.out)

end Go.Proofs.YtkkmdcnbifepjaaDoor

namespace Go.Proofs.YtkkmdcnbifepjaaDoor
open Go.RowKit
set_option linter.unusedVariables false

theorem RcAt.upd {w : World} {g : Nat} {r r' : Rch} (h : RcAt w g r) {i : Nat} (hi : i < 3) {v : Value} (e1 : rcF r' i = v) (e2 : ∀ j, j < 3 → j ≠ i → rcF r' j = rcF r j) : RcAt (w.setCell ⟨g, i, none⟩ v) g r' := by
  refine RowB.congr (RowB.set h hi v) fun j hj => ?_
  by_cases e : j = i
  · subst e; simp [e1]
  · simp only [e, if_false]; exact (e2 j hj e).symm
theorem three {j : Nat} (h : j < 3) : j = 0 ∨ j = 1 ∨ j = 2 := by omega
theorem RcAt.setF {w : World} {g : Nat} {r : Rch} (h : RcAt w g r) (x : Nat) : RcAt (w.setCell ⟨g, 0, none⟩ (.int .u16 (x : Int))) g ⟨x, r.last, r.empty⟩ := h.upd (by omega) rfl (fun j hj e => by rcases three hj with rfl | rfl | rfl; exact absurd rfl e; rfl; rfl)
theorem RcAt.setL {w : World} {g : Nat} {r : Rch} (h : RcAt w g r) (x : Nat) : RcAt (w.setCell ⟨g, 1, none⟩ (.int .u16 (x : Int))) g ⟨r.first, x, r.empty⟩ := h.upd (by omega) rfl (fun j hj e => by rcases three hj with rfl | rfl | rfl; rfl; exact absurd rfl e; rfl)
theorem RcAt.setE {w : World} {g : Nat} {r : Rch} (h : RcAt w g r) (x : Bool) : RcAt (w.setCell ⟨g, 2, none⟩ (.bool x)) g ⟨r.first, r.last, x⟩ := h.upd (by omega) rfl (fun j hj e => by rcases three hj with rfl | rfl | rfl; rfl; rfl; exact absurd rfl e)
theorem grown_box {w W : World} {b g : Nat} (h : w.grownBy W (some b)) (hg : w.heap.size ≤ g) (i : Nat) (v : Value) : w.grownBy (W.setCell ⟨g, i, none⟩ v) (some b) := grown_new h (grown_set _ _ _) hg

/-- The contract of add at a kid. -/
def KidsAdd (b last : Nat) (w : World) (vs : List Value) (ms : List Rx) : Prop :=
  ∀ k, k < ms.length → ∀ (W : World) (q : Pl), w.grownBy W (some b) → PlAt W b q last → q.Ok → q.many + nlet (ms.getD k noneS) ≤ 10 → Calls Tryd.prog 35 #[.pointer (some ⟨b, 0, none⟩), vs.getD k .nilIface] W (AddPost b last (ms.getD k noneS) q W)

set_option maxHeartbeats 6400000 in
set_option maxRecDepth 100000 in
theorem addEither_any (b last : Nat) (ao : Option Addr) (g capg : Nat) (vs : List Value) (ms : List Rx) (p : Pl) (w : World) (h : PlAt w b p last) (hp : p.Ok) (hn : p.many + nlet (eitherOf ms) ≤ 10) (hms : ms.length ≤ 4001)
    (hao : 0 < ms.length → ao = some ⟨g, 0, none⟩ ∧ g ≠ b) (hv : ∀ k, k < ms.length → w.cell? ⟨g, k, none⟩ = some (vs.getD k .nilIface)) (hS : KidsAdd b last w vs ms) :
    Calls Tryd.prog 54 #[.pointer (some ⟨b, 0, none⟩), .slice ao ms.length capg] w (AddPost b last (eitherOf ms) p w) := by
  have HAO : Hid (0 < ms.length → ao = some ⟨g, 0, none⟩ ∧ g ≠ b) := hao
  have HV : Hid (∀ k, k < ms.length → w.cell? ⟨g, k, none⟩ = some (vs.getD k .nilIface)) := hv
  have HS : Hid (KidsAdd b last w vs ms) := hS
  have OK : Hid p.Ok := hp
  have HNl : Hid (p.many + nlet (eitherOf ms) ≤ 10) := hn
  have HBW : Hid (b < w.heap.size) := h.lt
  obtain ⟨W1, hW1⟩ : ∃ W1, W1 = (w.alloc (.cells #[.int .u16 0, .int .u16 0, .bool false] 85)).alloc (.cells #[.int .u16 0, .int .u16 0, .bool false] 85) := ⟨_, rfl⟩
  have HW1 : Hid (W1 = _) := hW1
  have G1 : Hid (w.grownBy W1 (some b)) := by show World.grownBy _ _ _; rw [hW1]; exact grown_some (grown_trans (grown_alloc _ _) (grown_alloc _ _))
  have P1 : Hid (PlAt W1 b p last) := by show PlAt _ _ _ _; rw [hW1]; exact h.kept (grown_trans (grown_alloc _ _) (grown_alloc _ _))
  have R1 : Hid (RcAt W1 w.heap.size ⟨0, 0, false⟩) := by show RcAt _ _ _; rw [hW1]; exact (RcAt.new w 0 0 false).kept (grown_alloc _ _)
  have X1 : Hid (RcAt W1 (w.heap.size + 1) ⟨0, 0, false⟩) := by
    show RcAt _ _ _
    have := RcAt.new (w.alloc (.cells #[.int .u16 0, .int .u16 0, .bool false] 85)) 0 0 false
    rw [World.size_alloc] at this
    rw [hW1]; exact this
  obtain ⟨Po, hPo⟩ : ∃ Po, Po = AddPost b last (eitherOf ms) p w := ⟨_, rfl⟩
  have HPo : Hid (Po = AddPost b last (eitherOf ms) p w) := hPo
  rw [← hPo]
  obtain ⟨n, hnn⟩ : ∃ n, ms.length = n := ⟨_, rfl⟩
  have HN : Hid (ms.length = n) := hnn
  rw [hnn] at hms ⊢
  clear h hp hn hao hv hS hW1 hPo hnn
  go_enter Tryd.func54, Tryd.ntmps54
  go_wp2_with fail
  rw [← HW1.out]
  obtain ⟨k0, hk0⟩ : ∃ k0, w.heap.size = k0 := ⟨_, rfl⟩
  have HK0 : Hid (w.heap.size = k0) := hk0
  rw [hk0] at R1 X1 HBW ⊢
  clear hk0 HW1
  go_loopw [12] (fun v wr => ∃ k : Nat, k ≤ n ∧ v = .int .i64 k ∧ RcAt wr k0 ⟨0, 0, false⟩ ∧ RcAt wr (k0 + 1) (glu (eitherOf (ms.take k)) p).1 ∧ PlAt wr b (glu (eitherOf (ms.take k)) p).2 last ∧ w.grownBy wr (some b)) (fun v _ => n - (intOf v).toNat)
  case atStart => exact ⟨0, by omega, rfl, R1.out, X1.out, P1.out, G1.out⟩
  case round =>
    clear R1 X1 P1 G1
    obtain ⟨k, hk, rfl, hr, hx, hpl, hg⟩ := hrel
    have R : Hid (RcAt wr k0 ⟨0, 0, false⟩) := hr
    have X : Hid (RcAt wr (k0 + 1) (glu (eitherOf (ms.take k)) p).1) := hx
    have P : Hid (PlAt wr b (glu (eitherOf (ms.take k)) p).2 last) := hpl
    have G : Hid (w.grownBy wr (some b)) := hg
    clear hr hx hpl hg
    by_cases hlt : k < n
    · have hki : (k : Int) < (n : Int) := by omega
      have hkl : k < ms.length := by rw [HN.out]; exact hlt
      obtain ⟨rfl, hgb⟩ := HAO.out (by omega)
      have hc : wr.cell? ⟨g, k, none⟩ = some (vs.getD k .nilIface) := G.out.cell (HV.out k hkl) (by simpa using hgb)
      have hle := nlet_either_le (ms := ms) (ms.length - (k + 1)) (k + 1) (by omega)
      have hne := nlet_either hkl
      have hok := glu_ok (eitherOf (ms.take k)) p OK.out (by have := HNl.out; omega)
      have C : Hid (Calls Tryd.prog 35 #[.pointer (some ⟨b, 0, none⟩), vs.getD k .nilIface] wr (AddPost b last (ms.getD k noneS) (glu (eitherOf (ms.take k)) p).2 wr)) := HS.out k hkl wr _ G.out P.out hok.2.1 (by have := HNl.out; have := hok.2.2; omega)
      have hok2 := glu_ok (ms.getD k noneS) (glu (eitherOf (ms.take k)) p).2 hok.2.1 (by have := HNl.out; have := hok.2.2; omega)
      have HE : Hid (glu (eitherOf (ms.take (k + 1))) p = (altR (glu (eitherOf (ms.take k)) p).1 (glu (ms.getD k noneS) (glu (eitherOf (ms.take k)) p).2).1, (glu (ms.getD k noneS) (glu (eitherOf (ms.take k)) p).2).2)) := glu_either hkl p
      have ho1 := hok.1
      have ho2 := hok2.1
      obtain ⟨T, hT⟩ : ∃ T, glu (eitherOf (ms.take k)) p = T := ⟨_, rfl⟩
      rw [hT] at X P C HE ho1 ho2
      obtain ⟨⟨rf, rl, re⟩, q⟩ := T
      obtain ⟨S, hSe⟩ : ∃ S, glu (ms.getD k noneS) q = S := ⟨_, rfl⟩
      have HSe : Hid (glu (ms.getD k noneS) q = S) := hSe
      simp only at X P C HE ho2
      rw [hSe] at HE ho2
      obtain ⟨⟨sf, sl, se⟩, q'⟩ := S
      simp only [altR] at HE
      have eo1 : bits .or .u16 (rf : Int) (sf : Int) = ((rf ||| sf : Nat) : Int) := bits_or_set ho1.1 ho2.1
      have eo2 : bits .or .u16 (rl : Int) (sl : Int) = ((rl ||| sl : Nat) : Int) := bits_or_set ho1.2 ho2.2
      have HBK : Hid (b < k0) := HBW.out
      generalize vs.getD k .nilIface = vk at *
      generalize ms.getD k noneS = mk at *
      clear hle hne hok hok2 hSe hT ho1 ho2 hgb
      go_wp2_with fail
      refine C.out.mono ?_
      rintro E w3 ⟨rfl, hpl3, hg3⟩
      rw [HSe.out] at hpl3 ⊢
      simp only at hpl3
      have G3 : Hid (w.grownBy w3 (some b)) := grown_trans G.out hg3
      have R3 : RcAt w3 k0 ⟨0, 0, false⟩ := R.out.far hg3 (by have := HBK.out; omega)
      have X3 : RcAt w3 (k0 + 1) ⟨rf, rl, re⟩ := X.out.far hg3 (by have := HBK.out; omega)
      have hlt3 := X3.lt
      have gA := grown_alloc w3 (.cells #[.int .u16 (sf : Int), .int .u16 (sl : Int), .bool se] 85)
      obtain ⟨W4, hW4⟩ : ∃ W4, W4 = w3.alloc (.cells #[.int .u16 (sf : Int), .int .u16 (sl : Int), .bool se] 85) := ⟨_, rfl⟩
      have HW4 : Hid (W4 = w3.alloc (.cells #[.int .u16 (sf : Int), .int .u16 (sl : Int), .bool se] 85)) := hW4
      have Y4 : RcAt W4 w3.heap.size ⟨sf, sl, se⟩ := hW4 ▸ RcAt.new w3 sf sl se
      rw [← hW4] at gA
      have X4 := X3.kept gA
      have R4 := R3.kept gA
      have P4 := hpl3.kept gA
      have G4 := grown_trans G3.out (grown_some gA)
      obtain ⟨g4, hg4⟩ : ∃ g4, w3.heap.size = g4 := ⟨_, rfl⟩
      rw [hg4] at Y4 hlt3
      have hn4 : k0 + 1 ≠ g4 := by omega
      have hkw : w.heap.size ≤ k0 + 1 := by rw [HK0.out]; omega
      -- the three fields, one behind the other
      have X5 := X4.setF (rf ||| sf)
      have Y5 := Y4.other (g' := k0 + 1) (i := 0) (Ne.symm hn4) (.int .u16 ((rf ||| sf : Nat) : Int))
      have X6 := X5.setL (rl ||| sl)
      have Y6 := Y5.other (g' := k0 + 1) (i := 1) (Ne.symm hn4) (.int .u16 ((rl ||| sl : Nat) : Int))
      have X7 := X6.setE (re || se)
      have RF : Hid (RcAt (((W4.setCell ⟨k0 + 1, 0, none⟩ (.int .u16 ((rf ||| sf : Nat) : Int))).setCell ⟨k0 + 1, 1, none⟩ (.int .u16 ((rl ||| sl : Nat) : Int))).setCell ⟨k0 + 1, 2, none⟩ (.bool (re || se))) k0 ⟨0, 0, false⟩) := ((R4.other (by omega) _).other (by omega) _).other (by omega) _
      have XF : Hid (RcAt (((W4.setCell ⟨k0 + 1, 0, none⟩ (.int .u16 ((rf ||| sf : Nat) : Int))).setCell ⟨k0 + 1, 1, none⟩ (.int .u16 ((rl ||| sl : Nat) : Int))).setCell ⟨k0 + 1, 2, none⟩ (.bool (re || se))) (k0 + 1) ⟨rf ||| sf, rl ||| sl, re || se⟩) := X7
      have PF : Hid (PlAt (((W4.setCell ⟨k0 + 1, 0, none⟩ (.int .u16 ((rf ||| sf : Nat) : Int))).setCell ⟨k0 + 1, 1, none⟩ (.int .u16 ((rl ||| sl : Nat) : Int))).setCell ⟨k0 + 1, 2, none⟩ (.bool (re || se))) b q' last) := RowB.other (RowB.other (RowB.other P4 (by have := HBK.out; omega) _) (by have := HBK.out; omega) _) (by have := HBK.out; omega) _
      have GF : Hid (w.grownBy (((W4.setCell ⟨k0 + 1, 0, none⟩ (.int .u16 ((rf ||| sf : Nat) : Int))).setCell ⟨k0 + 1, 1, none⟩ (.int .u16 ((rl ||| sl : Nat) : Int))).setCell ⟨k0 + 1, 2, none⟩ (.bool (re || se))) (some b)) := grown_box (grown_box (grown_box G4 hkw _ _) hkw _ _) hkw _ _
      have x0 := X4.c0
      have xf0 := X4.fz 0
      have y0 := Y4.c0
      have x1 := X5.c1
      have xf1 := X5.fz 1
      have y1 := Y5.c1
      have x2 := X6.c2
      have xf2 := X6.fz 2
      have y2 := Y6.c2
      simp only at x0 y0 x1 y1 x2 y2
      clear hpl3 hg3 R3 X3 hlt3 gA Y4 X4 R4 P4 G4 X5 Y5 X6 Y6 X7 C hc hW4 R X P G
      rw [HW4.out] at x0 xf0 y0 x1 xf1 y1 x2 xf2 y2 RF XF PF GF
      cases re with
      | true =>
        simp only [Bool.true_or] at RF XF PF GF HE
        clear y2
        go_wp2_with fail
        go_roundw
        case rel => exact ⟨k + 1, by omega, by go_num, RF.out, by rw [HE.out]; exact XF.out, by rw [HE.out]; exact PF.out, GF.out⟩
        case measure => simp [intOf]; omega
      | false =>
        simp only [Bool.false_or] at RF XF PF GF HE
        go_wp2_with fail
        go_roundw
        case rel => exact ⟨k + 1, by omega, by go_num, RF.out, by rw [HE.out]; exact XF.out, by rw [HE.out]; exact PF.out, GF.out⟩
        case measure => simp [intOf]; omega
    · have hki : ¬ (k : Int) < (n : Int) := by omega
      rw [List.take_of_length_le (by rw [HN.out]; omega)] at X P
      obtain ⟨T, hT⟩ : ∃ T, glu (eitherOf ms) p = T := ⟨_, rfl⟩
      have HTe : Hid (glu (eitherOf ms) p = T) := hT
      rw [hT] at X P
      obtain ⟨⟨rf, rl, re⟩, q⟩ := T
      simp only at X P
      have x0 := X.out.c0
      have x1 := X.out.c1
      have x2 := X.out.c2
      have z0 := R.out.c0
      have z1 := R.out.c1
      have z2 := R.out.c2
      have zf0 := R.out.fz 0
      have zf1 := R.out.fz 1
      have zf2 := R.out.fz 2
      obtain ⟨W9, hW9⟩ : ∃ W9, W9 = ((wr.setCell ⟨k0, 0, none⟩ (.int .u16 (rf : Int))).setCell ⟨k0, 1, none⟩ (.int .u16 (rl : Int))).setCell ⟨k0, 2, none⟩ (.bool re) := ⟨_, rfl⟩
      have R9 : RcAt W9 k0 ⟨rf, rl, re⟩ := by rw [hW9]; exact R.out.set rf rl re
      have q0 := R9.c0
      have q1 := R9.c1
      have q2 := R9.c2
      have Fin : Hid (AddPost b last (eitherOf ms) p w (.returned (.agg #[.int .u16 (rf : Int), .int .u16 (rl : Int), .bool re])) W9) := by
        refine ⟨by rw [HTe.out], ?_, ?_⟩
        · rw [hW9, HTe.out]
          exact RowB.other (RowB.other (RowB.other P.out (by have := HBW.out; omega) _) (by have := HBW.out; omega) _) (by have := HBW.out; omega) _
        · rw [hW9]
          have hkw : w.heap.size ≤ k0 := by rw [HK0.out]; exact Nat.le_refl _
          exact grown_box (grown_box (grown_box G.out hkw _ _) hkw _ _) hkw _ _
      simp only at x0 x1 x2 z0 z1 z2 q0 q1 q2
      clear hT R9 R X P G
      go_wp2_with fail
      rw [← hW9]
      exact bodyPost_ret (v := .agg #[.int .u16 (rf : Int), .int .u16 (rl : Int), .bool re]) (by simp [results, Tryd.results54, go_sem, q0, q1, q2]) rfl (by rw [HPo.out]; exact Fin.out)

end Go.Proofs.YtkkmdcnbifepjaaDoor

namespace Go.Proofs.YtkkmdcnbifepjaaDoor
open Go.RowKit
set_option linter.unusedVariables false

set_option maxHeartbeats 6400000 in
set_option maxRecDepth 100000 in
theorem addRow_any (b last : Nat) (ao : Option Addr) (g capg : Nat) (vs : List Value) (ms : List Rx) (p : Pl) (w : World) (h : PlAt w b p last) (hp : p.Ok) (hn : p.many + nlet (rowOf ms) ≤ 10) (hms : ms.length ≤ 4001)
    (hao : 0 < ms.length → ao = some ⟨g, 0, none⟩ ∧ g ≠ b) (hv : ∀ k, k < ms.length → w.cell? ⟨g, k, none⟩ = some (vs.getD k .nilIface)) (hS : KidsAdd b last w vs ms) (hTb : Tab32 w) (hb0 : b ≠ 0) :
    Calls Tryd.prog 55 #[.pointer (some ⟨b, 0, none⟩), .slice ao ms.length capg] w (AddPost b last (rowOf ms) p w) := by
  have HAO : Hid (0 < ms.length → ao = some ⟨g, 0, none⟩ ∧ g ≠ b) := hao
  have HV : Hid (∀ k, k < ms.length → w.cell? ⟨g, k, none⟩ = some (vs.getD k .nilIface)) := hv
  have HS : Hid (KidsAdd b last w vs ms) := hS
  have OK : Hid p.Ok := hp
  have HTb : Hid (∀ W, w.grownBy W (some b) → Tab32 W) := fun W hW => hTb.kept hW (by simpa using hb0)
  have HNl : Hid (p.many + nlet (rowOf ms) ≤ 10) := hn
  have HBW : Hid (b < w.heap.size) := h.lt
  obtain ⟨W1, hW1⟩ : ∃ W1, W1 = (w.alloc (.cells #[.int .u16 0, .int .u16 0, .bool false] 85)).alloc (.cells #[.int .u16 0, .int .u16 0, .bool true] 85) := ⟨_, rfl⟩
  have HW1 : Hid (W1 = _) := hW1
  have G1 : Hid (w.grownBy W1 (some b)) := by show World.grownBy _ _ _; rw [hW1]; exact grown_some (grown_trans (grown_alloc _ _) (grown_alloc _ _))
  have P1 : Hid (PlAt W1 b p last) := by show PlAt _ _ _ _; rw [hW1]; exact h.kept (grown_trans (grown_alloc _ _) (grown_alloc _ _))
  have R1 : Hid (RcAt W1 w.heap.size ⟨0, 0, false⟩) := by show RcAt _ _ _; rw [hW1]; exact (RcAt.new w 0 0 false).kept (grown_alloc _ _)
  have X1 : Hid (RcAt W1 (w.heap.size + 1) ⟨0, 0, true⟩) := by
    show RcAt _ _ _
    have := RcAt.new (w.alloc (.cells #[.int .u16 0, .int .u16 0, .bool false] 85)) 0 0 true
    rw [World.size_alloc] at this
    rw [hW1]; exact this
  obtain ⟨Po, hPo⟩ : ∃ Po, Po = AddPost b last (rowOf ms) p w := ⟨_, rfl⟩
  have HPo : Hid (Po = AddPost b last (rowOf ms) p w) := hPo
  rw [← hPo]
  obtain ⟨n, hnn⟩ : ∃ n, ms.length = n := ⟨_, rfl⟩
  have HN : Hid (ms.length = n) := hnn
  rw [hnn] at hms ⊢
  clear h hp hn hao hv hS hW1 hPo hnn hTb
  go_enter Tryd.func55, Tryd.ntmps55
  go_wp2_with fail
  rw [← HW1.out]
  obtain ⟨k0, hk0⟩ : ∃ k0, w.heap.size = k0 := ⟨_, rfl⟩
  have HK0 : Hid (w.heap.size = k0) := hk0
  rw [hk0] at R1 X1 HBW ⊢
  clear hk0 HW1
  go_loopw [12] (fun v wr => ∃ k : Nat, k ≤ n ∧ v = .int .i64 k ∧ RcAt wr k0 ⟨0, 0, false⟩ ∧ RcAt wr (k0 + 1) (glu (rowOf (ms.take k)) p).1 ∧ PlAt wr b (glu (rowOf (ms.take k)) p).2 last ∧ w.grownBy wr (some b)) (fun v _ => n - (intOf v).toNat)
  case atStart => exact ⟨0, by omega, rfl, R1.out, X1.out, P1.out, G1.out⟩
  case round =>
    clear R1 X1 P1 G1
    obtain ⟨k, hk, rfl, hr, hx, hpl, hg⟩ := hrel
    have R : Hid (RcAt wr k0 ⟨0, 0, false⟩) := hr
    have X : Hid (RcAt wr (k0 + 1) (glu (rowOf (ms.take k)) p).1) := hx
    have P : Hid (PlAt wr b (glu (rowOf (ms.take k)) p).2 last) := hpl
    have G : Hid (w.grownBy wr (some b)) := hg
    clear hr hx hpl hg
    by_cases hlt : k < n
    · have hki : (k : Int) < (n : Int) := by omega
      have hkl : k < ms.length := by rw [HN.out]; exact hlt
      obtain ⟨rfl, hgb⟩ := HAO.out (by omega)
      have hc : wr.cell? ⟨g, k, none⟩ = some (vs.getD k .nilIface) := G.out.cell (HV.out k hkl) (by simpa using hgb)
      have hle := nlet_row_le (ms := ms) (ms.length - (k + 1)) (k + 1) (by omega)
      have hne := nlet_row hkl
      have hok := glu_ok (rowOf (ms.take k)) p OK.out (by have := HNl.out; omega)
      have C : Hid (Calls Tryd.prog 35 #[.pointer (some ⟨b, 0, none⟩), vs.getD k .nilIface] wr (AddPost b last (ms.getD k noneS) (glu (rowOf (ms.take k)) p).2 wr)) := HS.out k hkl wr _ G.out P.out hok.2.1 (by have := HNl.out; have := hok.2.2; omega)
      have hok2 := glu_ok (ms.getD k noneS) (glu (rowOf (ms.take k)) p).2 hok.2.1 (by have := HNl.out; have := hok.2.2; omega)
      have HE : Hid (glu (rowOf (ms.take (k + 1))) p = (catR (glu (rowOf (ms.take k)) p).1 (glu (ms.getD k noneS) (glu (rowOf (ms.take k)) p).2).1, (glu (ms.getD k noneS) (glu (rowOf (ms.take k)) p).2).2.follow (glu (rowOf (ms.take k)) p).1.last (glu (ms.getD k noneS) (glu (rowOf (ms.take k)) p).2).1.first)) := glu_row hkl p
      have ho1 := hok.1
      have ho2 := hok2.1
      have ho3 := hok2.2.1
      obtain ⟨T, hT⟩ : ∃ T, glu (rowOf (ms.take k)) p = T := ⟨_, rfl⟩
      rw [hT] at X P C HE ho1 ho2 ho3
      obtain ⟨⟨rf, rl, re⟩, q⟩ := T
      obtain ⟨S, hSe⟩ : ∃ S, glu (ms.getD k noneS) q = S := ⟨_, rfl⟩
      have HSe : Hid (glu (ms.getD k noneS) q = S) := hSe
      simp only at X P C HE ho2 ho3
      rw [hSe] at HE ho2 ho3
      obtain ⟨⟨sf, sl, se⟩, q'⟩ := S
      simp only at ho3
      have HO3 : Hid (q'.Ok ∧ rl < 2048 ∧ sf < 2048) := ⟨ho3, ho1.2, ho2.1⟩
      have eo1 : bits .or .u16 (rf : Int) (sf : Int) = ((rf ||| sf : Nat) : Int) := bits_or_set ho1.1 ho2.1
      have eo2 : bits .or .u16 (rl : Int) (sl : Int) = ((rl ||| sl : Nat) : Int) := bits_or_set ho1.2 ho2.2
      have HBK : Hid (b < k0) := HBW.out
      generalize vs.getD k .nilIface = vk at *
      generalize ms.getD k noneS = mk at *
      clear hle hne hok hok2 hSe hT ho1 ho2 ho3 hgb
      go_wp2_with fail
      refine C.out.mono ?_
      rintro E w3 ⟨rfl, hpl3, hg3⟩
      rw [HSe.out] at hpl3 ⊢
      simp only at hpl3
      have G3 : Hid (w.grownBy w3 (some b)) := grown_trans G.out hg3
      have R3 : RcAt w3 k0 ⟨0, 0, false⟩ := R.out.far hg3 (by have := HBK.out; omega)
      have X3 : RcAt w3 (k0 + 1) ⟨rf, rl, re⟩ := X.out.far hg3 (by have := HBK.out; omega)
      have hlt3 := X3.lt
      have gA := grown_alloc w3 (.cells #[.int .u16 (sf : Int), .int .u16 (sl : Int), .bool se] 85)
      obtain ⟨W4, hW4⟩ : ∃ W4, W4 = w3.alloc (.cells #[.int .u16 (sf : Int), .int .u16 (sl : Int), .bool se] 85) := ⟨_, rfl⟩
      have HW4 : Hid (W4 = w3.alloc (.cells #[.int .u16 (sf : Int), .int .u16 (sl : Int), .bool se] 85)) := hW4
      have Y4 : RcAt W4 w3.heap.size ⟨sf, sl, se⟩ := hW4 ▸ RcAt.new w3 sf sl se
      rw [← hW4] at gA
      have X4 := X3.kept gA
      have R4 := R3.kept gA
      have P4 := hpl3.kept gA
      have G4 := grown_trans G3.out (grown_some gA)
      obtain ⟨g4, hg4⟩ : ∃ g4, w3.heap.size = g4 := ⟨_, rfl⟩
      rw [hg4] at Y4 hlt3
      have hn4 : k0 + 1 ≠ g4 := by omega
      have hkw : w.heap.size ≤ k0 + 1 := by rw [HK0.out]; omega
      have x1 := X4.c1
      have y0 := Y4.c0
      have CF : Hid (Calls Tryd.prog 36 #[.pointer (some ⟨b, 0, none⟩), .int .u16 (rl : Int), .int .u16 (sf : Int)] W4 (PlPost b last (q'.follow rl sf) W4)) := follow_any b rl sf last q' W4 P4 (HTb.out W4 G4) hb0 HO3.out.2.1 HO3.out.2.2 HO3.out.1
      have KX : Hid (RcAt W4 k0 ⟨0, 0, false⟩ ∧ RcAt W4 (k0 + 1) ⟨rf, rl, re⟩ ∧ RcAt W4 g4 ⟨sf, sl, se⟩ ∧ w.grownBy W4 (some b)) := ⟨R4, X4, Y4, G4⟩
      have HBG : Hid (b ≠ g4) := by show _ ≠ _; have := HBK.out; omega
      simp only at x1 y0
      rw [HW4.out] at x1 y0
      clear hpl3 hg3 R3 X3 hlt3 gA Y4 X4 R4 P4 G4 C hc hW4 R X P G
      go_wp2_with fail
      rw [← HW4.out]
      refine CF.out.mono ?_
      rintro E w5 ⟨rfl, hpl5, hg5⟩
      obtain ⟨kr, kx, ky, kg⟩ := KX.out
      have R5 := kr.far hg5 (by have := HBK.out; omega)
      have X5 := kx.far hg5 (by have := HBK.out; omega)
      have Y5 := ky.far hg5 (Ne.symm HBG.out)
      have G5 := grown_trans kg hg5
      have P5 : Hid (PlAt w5 b (q'.follow rl sf) last) := hpl5
      clear CF kr kx ky kg KX hg5 hpl5 x1 y0 HW4
      have HKW : Hid (w.heap.size ≤ k0 + 1) := hkw
      have HN4 : Hid (k0 + 1 ≠ g4) := hn4
      clear hkw hn4 hg4
      cases re <;> cases se
      · have X6 := X5.setL sl
        have Y6 := Y5.other (g' := k0 + 1) (i := 1) (Ne.symm HN4.out) (.int .u16 (sl : Int))
        have X7 := X6.setE false
        have Y7 := Y6.other (g' := k0 + 1) (i := 2) (Ne.symm HN4.out) (.bool false)
        have a00 := X5.c0
        have b00 := Y5.c0
        have a01 := X5.c1
        have b01 := Y5.c1
        have a02 := X5.c2
        have b02 := Y5.c2
        have f0 := X5.fz
        have a10 := X6.c0
        have b10 := Y6.c0
        have a11 := X6.c1
        have b11 := Y6.c1
        have a12 := X6.c2
        have b12 := Y6.c2
        have f1 := X6.fz
        have RF : Hid (RcAt ((w5.setCell ⟨k0 + 1, 1, none⟩ (.int .u16 (sl : Int))).setCell ⟨k0 + 1, 2, none⟩ (.bool false)) k0 ⟨0, 0, false⟩) := (RowB.other (RowB.other R5 (by omega) _) (by omega) _)
        have XF : Hid (RcAt ((w5.setCell ⟨k0 + 1, 1, none⟩ (.int .u16 (sl : Int))).setCell ⟨k0 + 1, 2, none⟩ (.bool false)) (k0 + 1) (catR ⟨rf, rl, false⟩ ⟨sf, sl, false⟩)) := X7
        have PF : Hid (PlAt ((w5.setCell ⟨k0 + 1, 1, none⟩ (.int .u16 (sl : Int))).setCell ⟨k0 + 1, 2, none⟩ (.bool false)) b (q'.follow rl sf) last) := (RowB.other (RowB.other P5.out (by have := HBK.out; omega) _) (by have := HBK.out; omega) _)
        have GF : Hid (w.grownBy ((w5.setCell ⟨k0 + 1, 1, none⟩ (.int .u16 (sl : Int))).setCell ⟨k0 + 1, 2, none⟩ (.bool false)) (some b)) := (grown_box (grown_box G5 HKW.out _ _) HKW.out _ _)
        simp only at a00 b00 a01 b01 a02 b02 a10 b10 a11 b11 a12 b12
        clear R5 G5 P5 X5 X6 X7 Y5 Y6 Y7
        go_wp2_with fail
        go_roundw
        case rel => exact ⟨k + 1, by omega, by go_num, RF.out, by rw [HE.out]; exact XF.out, by rw [HE.out]; exact PF.out, GF.out⟩
        case measure => simp [intOf]; omega
      · have X6 := X5.setL (rl ||| sl)
        have Y6 := Y5.other (g' := k0 + 1) (i := 1) (Ne.symm HN4.out) (.int .u16 ((rl ||| sl : Nat) : Int))
        have X7 := X6.setE false
        have Y7 := Y6.other (g' := k0 + 1) (i := 2) (Ne.symm HN4.out) (.bool false)
        have a00 := X5.c0
        have b00 := Y5.c0
        have a01 := X5.c1
        have b01 := Y5.c1
        have a02 := X5.c2
        have b02 := Y5.c2
        have f0 := X5.fz
        have a10 := X6.c0
        have b10 := Y6.c0
        have a11 := X6.c1
        have b11 := Y6.c1
        have a12 := X6.c2
        have b12 := Y6.c2
        have f1 := X6.fz
        have RF : Hid (RcAt ((w5.setCell ⟨k0 + 1, 1, none⟩ (.int .u16 ((rl ||| sl : Nat) : Int))).setCell ⟨k0 + 1, 2, none⟩ (.bool false)) k0 ⟨0, 0, false⟩) := (RowB.other (RowB.other R5 (by omega) _) (by omega) _)
        have XF : Hid (RcAt ((w5.setCell ⟨k0 + 1, 1, none⟩ (.int .u16 ((rl ||| sl : Nat) : Int))).setCell ⟨k0 + 1, 2, none⟩ (.bool false)) (k0 + 1) (catR ⟨rf, rl, false⟩ ⟨sf, sl, true⟩)) := X7
        have PF : Hid (PlAt ((w5.setCell ⟨k0 + 1, 1, none⟩ (.int .u16 ((rl ||| sl : Nat) : Int))).setCell ⟨k0 + 1, 2, none⟩ (.bool false)) b (q'.follow rl sf) last) := (RowB.other (RowB.other P5.out (by have := HBK.out; omega) _) (by have := HBK.out; omega) _)
        have GF : Hid (w.grownBy ((w5.setCell ⟨k0 + 1, 1, none⟩ (.int .u16 ((rl ||| sl : Nat) : Int))).setCell ⟨k0 + 1, 2, none⟩ (.bool false)) (some b)) := (grown_box (grown_box G5 HKW.out _ _) HKW.out _ _)
        simp only at a00 b00 a01 b01 a02 b02 a10 b10 a11 b11 a12 b12
        clear R5 G5 P5 X5 X6 X7 Y5 Y6 Y7
        go_wp2_with fail
        go_roundw
        case rel => exact ⟨k + 1, by omega, by go_num, RF.out, by rw [HE.out]; exact XF.out, by rw [HE.out]; exact PF.out, GF.out⟩
        case measure => simp [intOf]; omega
      · have X6 := X5.setF (rf ||| sf)
        have Y6 := Y5.other (g' := k0 + 1) (i := 0) (Ne.symm HN4.out) (.int .u16 ((rf ||| sf : Nat) : Int))
        have X7 := X6.setL sl
        have Y7 := Y6.other (g' := k0 + 1) (i := 1) (Ne.symm HN4.out) (.int .u16 (sl : Int))
        have X8 := X7.setE false
        have Y8 := Y7.other (g' := k0 + 1) (i := 2) (Ne.symm HN4.out) (.bool false)
        have a00 := X5.c0
        have b00 := Y5.c0
        have a01 := X5.c1
        have b01 := Y5.c1
        have a02 := X5.c2
        have b02 := Y5.c2
        have f0 := X5.fz
        have a10 := X6.c0
        have b10 := Y6.c0
        have a11 := X6.c1
        have b11 := Y6.c1
        have a12 := X6.c2
        have b12 := Y6.c2
        have f1 := X6.fz
        have a20 := X7.c0
        have b20 := Y7.c0
        have a21 := X7.c1
        have b21 := Y7.c1
        have a22 := X7.c2
        have b22 := Y7.c2
        have f2 := X7.fz
        have RF : Hid (RcAt (((w5.setCell ⟨k0 + 1, 0, none⟩ (.int .u16 ((rf ||| sf : Nat) : Int))).setCell ⟨k0 + 1, 1, none⟩ (.int .u16 (sl : Int))).setCell ⟨k0 + 1, 2, none⟩ (.bool false)) k0 ⟨0, 0, false⟩) := (RowB.other (RowB.other (RowB.other R5 (by omega) _) (by omega) _) (by omega) _)
        have XF : Hid (RcAt (((w5.setCell ⟨k0 + 1, 0, none⟩ (.int .u16 ((rf ||| sf : Nat) : Int))).setCell ⟨k0 + 1, 1, none⟩ (.int .u16 (sl : Int))).setCell ⟨k0 + 1, 2, none⟩ (.bool false)) (k0 + 1) (catR ⟨rf, rl, true⟩ ⟨sf, sl, false⟩)) := X8
        have PF : Hid (PlAt (((w5.setCell ⟨k0 + 1, 0, none⟩ (.int .u16 ((rf ||| sf : Nat) : Int))).setCell ⟨k0 + 1, 1, none⟩ (.int .u16 (sl : Int))).setCell ⟨k0 + 1, 2, none⟩ (.bool false)) b (q'.follow rl sf) last) := (RowB.other (RowB.other (RowB.other P5.out (by have := HBK.out; omega) _) (by have := HBK.out; omega) _) (by have := HBK.out; omega) _)
        have GF : Hid (w.grownBy (((w5.setCell ⟨k0 + 1, 0, none⟩ (.int .u16 ((rf ||| sf : Nat) : Int))).setCell ⟨k0 + 1, 1, none⟩ (.int .u16 (sl : Int))).setCell ⟨k0 + 1, 2, none⟩ (.bool false)) (some b)) := (grown_box (grown_box (grown_box G5 HKW.out _ _) HKW.out _ _) HKW.out _ _)
        simp only at a00 b00 a01 b01 a02 b02 a10 b10 a11 b11 a12 b12 a20 b20 a21 b21 a22 b22
        clear R5 G5 P5 X5 X6 X7 X8 Y5 Y6 Y7 Y8
        go_wp2_with fail
        go_roundw
        case rel => exact ⟨k + 1, by omega, by go_num, RF.out, by rw [HE.out]; exact XF.out, by rw [HE.out]; exact PF.out, GF.out⟩
        case measure => simp [intOf]; omega
      · have X6 := X5.setF (rf ||| sf)
        have Y6 := Y5.other (g' := k0 + 1) (i := 0) (Ne.symm HN4.out) (.int .u16 ((rf ||| sf : Nat) : Int))
        have X7 := X6.setL (rl ||| sl)
        have Y7 := Y6.other (g' := k0 + 1) (i := 1) (Ne.symm HN4.out) (.int .u16 ((rl ||| sl : Nat) : Int))
        have X8 := X7.setE true
        have Y8 := Y7.other (g' := k0 + 1) (i := 2) (Ne.symm HN4.out) (.bool true)
        have a00 := X5.c0
        have b00 := Y5.c0
        have a01 := X5.c1
        have b01 := Y5.c1
        have a02 := X5.c2
        have b02 := Y5.c2
        have f0 := X5.fz
        have a10 := X6.c0
        have b10 := Y6.c0
        have a11 := X6.c1
        have b11 := Y6.c1
        have a12 := X6.c2
        have b12 := Y6.c2
        have f1 := X6.fz
        have a20 := X7.c0
        have b20 := Y7.c0
        have a21 := X7.c1
        have b21 := Y7.c1
        have a22 := X7.c2
        have b22 := Y7.c2
        have f2 := X7.fz
        have RF : Hid (RcAt (((w5.setCell ⟨k0 + 1, 0, none⟩ (.int .u16 ((rf ||| sf : Nat) : Int))).setCell ⟨k0 + 1, 1, none⟩ (.int .u16 ((rl ||| sl : Nat) : Int))).setCell ⟨k0 + 1, 2, none⟩ (.bool true)) k0 ⟨0, 0, false⟩) := (RowB.other (RowB.other (RowB.other R5 (by omega) _) (by omega) _) (by omega) _)
        have XF : Hid (RcAt (((w5.setCell ⟨k0 + 1, 0, none⟩ (.int .u16 ((rf ||| sf : Nat) : Int))).setCell ⟨k0 + 1, 1, none⟩ (.int .u16 ((rl ||| sl : Nat) : Int))).setCell ⟨k0 + 1, 2, none⟩ (.bool true)) (k0 + 1) (catR ⟨rf, rl, true⟩ ⟨sf, sl, true⟩)) := X8
        have PF : Hid (PlAt (((w5.setCell ⟨k0 + 1, 0, none⟩ (.int .u16 ((rf ||| sf : Nat) : Int))).setCell ⟨k0 + 1, 1, none⟩ (.int .u16 ((rl ||| sl : Nat) : Int))).setCell ⟨k0 + 1, 2, none⟩ (.bool true)) b (q'.follow rl sf) last) := (RowB.other (RowB.other (RowB.other P5.out (by have := HBK.out; omega) _) (by have := HBK.out; omega) _) (by have := HBK.out; omega) _)
        have GF : Hid (w.grownBy (((w5.setCell ⟨k0 + 1, 0, none⟩ (.int .u16 ((rf ||| sf : Nat) : Int))).setCell ⟨k0 + 1, 1, none⟩ (.int .u16 ((rl ||| sl : Nat) : Int))).setCell ⟨k0 + 1, 2, none⟩ (.bool true)) (some b)) := (grown_box (grown_box (grown_box G5 HKW.out _ _) HKW.out _ _) HKW.out _ _)
        simp only at a00 b00 a01 b01 a02 b02 a10 b10 a11 b11 a12 b12 a20 b20 a21 b21 a22 b22
        clear R5 G5 P5 X5 X6 X7 X8 Y5 Y6 Y7 Y8
        go_wp2_with fail
        go_roundw
        case rel => exact ⟨k + 1, by omega, by go_num, RF.out, by rw [HE.out]; exact XF.out, by rw [HE.out]; exact PF.out, GF.out⟩
        case measure => simp [intOf]; omega
    · have hki : ¬ (k : Int) < (n : Int) := by omega
      rw [List.take_of_length_le (by rw [HN.out]; omega)] at X P
      obtain ⟨T, hT⟩ : ∃ T, glu (rowOf ms) p = T := ⟨_, rfl⟩
      have HTe : Hid (glu (rowOf ms) p = T) := hT
      rw [hT] at X P
      obtain ⟨⟨rf, rl, re⟩, q⟩ := T
      simp only at X P
      have x0 := X.out.c0
      have x1 := X.out.c1
      have x2 := X.out.c2
      have z0 := R.out.c0
      have z1 := R.out.c1
      have z2 := R.out.c2
      have zf0 := R.out.fz 0
      have zf1 := R.out.fz 1
      have zf2 := R.out.fz 2
      obtain ⟨W9, hW9⟩ : ∃ W9, W9 = ((wr.setCell ⟨k0, 0, none⟩ (.int .u16 (rf : Int))).setCell ⟨k0, 1, none⟩ (.int .u16 (rl : Int))).setCell ⟨k0, 2, none⟩ (.bool re) := ⟨_, rfl⟩
      have R9 : RcAt W9 k0 ⟨rf, rl, re⟩ := by rw [hW9]; exact R.out.set rf rl re
      have q0 := R9.c0
      have q1 := R9.c1
      have q2 := R9.c2
      have Fin : Hid (AddPost b last (rowOf ms) p w (.returned (.agg #[.int .u16 (rf : Int), .int .u16 (rl : Int), .bool re])) W9) := by
        refine ⟨by rw [HTe.out], ?_, ?_⟩
        · rw [hW9, HTe.out]
          exact RowB.other (RowB.other (RowB.other P.out (by have := HBW.out; omega) _) (by have := HBW.out; omega) _) (by have := HBW.out; omega) _
        · rw [hW9]
          have hkw : w.heap.size ≤ k0 := by rw [HK0.out]; exact Nat.le_refl _
          exact grown_box (grown_box (grown_box G.out hkw _ _) hkw _ _) hkw _ _
      simp only at x0 x1 x2 z0 z1 z2 q0 q1 q2
      clear hT R9 R X P G
      go_wp2_with fail
      rw [← hW9]
      exact bodyPost_ret (v := .agg #[.int .u16 (rf : Int), .int .u16 (rl : Int), .bool re]) (by simp [results, Tryd.results55, go_sem, q0, q1, q2]) rfl (by rw [HPo.out]; exact Fin.out)

end Go.Proofs.YtkkmdcnbifepjaaDoor

namespace Go.Proofs.YtkkmdcnbifepjaaDoor
open Go.RowKit
set_option linter.unusedVariables false

theorem asLLp (w : World) (v : Value) : (Instr.typeAssert (.iface 109 v) 44 109 true).run Tryd.prog w = .ok (.tuple #[v, .bool true]) w := by kernel_rfl
theorem asELp (w : World) (v : Value) : (Instr.typeAssert (.iface 108 v) 44 109 true).run Tryd.prog w = .ok (.tuple #[.int .i64 0, .bool false]) w := by kernel_rfl
theorem asEEp (w : World) (v : Value) : (Instr.typeAssert (.iface 108 v) 44 108 true).run Tryd.prog w = .ok (.tuple #[v, .bool true]) w := by kernel_rfl
theorem asRLp (w : World) (v : Value) : (Instr.typeAssert (.iface 112 v) 44 109 true).run Tryd.prog w = .ok (.tuple #[.int .i64 0, .bool false]) w := by kernel_rfl
theorem asREp (w : World) (v : Value) : (Instr.typeAssert (.iface 112 v) 44 108 true).run Tryd.prog w = .ok (.tuple #[.slice none 0 0, .bool false]) w := by kernel_rfl
theorem asRRp (w : World) (v : Value) : (Instr.typeAssert (.iface 112 v) 44 112 true).run Tryd.prog w = .ok (.tuple #[v, .bool true]) w := by kernel_rfl
theorem asSLp (w : World) (v : Value) : (Instr.typeAssert (.iface 115 v) 44 109 true).run Tryd.prog w = .ok (.tuple #[.int .i64 0, .bool false]) w := by kernel_rfl
theorem asSEp (w : World) (v : Value) : (Instr.typeAssert (.iface 115 v) 44 108 true).run Tryd.prog w = .ok (.tuple #[.slice none 0 0, .bool false]) w := by kernel_rfl
theorem asSRp (w : World) (v : Value) : (Instr.typeAssert (.iface 115 v) 44 112 true).run Tryd.prog w = .ok (.tuple #[.slice none 0 0, .bool false]) w := by kernel_rfl
theorem asSSp (w : World) (v : Value) : (Instr.typeAssert (.iface 115 v) 44 115 true).run Tryd.prog w = .ok (.tuple #[v, .bool true]) w := by kernel_rfl

/-- What a box that is filled in the end leaves. -/
theorem box_fin {W w2 : World} {b last : Nat} {m : Rx} {p q : Pl} {r : Rch} (hb : b < W.heap.size) (he : glu m p = (r, q)) (hR : RcAt w2 W.heap.size ⟨0, 0, false⟩) (hP : PlAt w2 b q last) (hg : W.grownBy w2 (some b)) :
    ∃ W9, W9 = ((w2.setCell ⟨W.heap.size, 0, none⟩ (.int .u16 (r.first : Int))).setCell ⟨W.heap.size, 1, none⟩ (.int .u16 (r.last : Int))).setCell ⟨W.heap.size, 2, none⟩ (.bool r.empty) ∧ W9.cell? ⟨W.heap.size, 0, none⟩ = some (.int .u16 (r.first : Int)) ∧ W9.cell? ⟨W.heap.size, 1, none⟩ = some (.int .u16 (r.last : Int)) ∧ W9.cell? ⟨W.heap.size, 2, none⟩ = some (.bool r.empty) ∧
      Hid (AddPost b last m p W (.returned (.agg #[.int .u16 (r.first : Int), .int .u16 (r.last : Int), .bool r.empty])) W9) := by
  have R9 := hR.set r.first r.last r.empty
  refine ⟨_, rfl, R9.c0, R9.c1, R9.c2, by rw [he], ?_, grown_box (grown_box (grown_box hg (Nat.le_refl _) _ _) (Nat.le_refl _) _ _) (Nat.le_refl _) _ _⟩
  rw [he]
  exact RowB.other (RowB.other (RowB.other hP (by omega) _) (by omega) _) (by omega) _

set_option maxHeartbeats 6400000 in
set_option maxRecDepth 100000 in
theorem add_any {ok : Nat → Prop} {w : World} {v : Value} {m : Rx} (h : Lies ok w v m) (b last : Nat) (hok0 : ∀ g, ok g → g ≠ b) (hb0 : b ≠ 0) :
    ∀ (W : World) (p : Pl), w.grownBy W (some b) → Tab32 W → PlAt W b p last → p.Ok → p.many + nlet m ≤ 10 → Calls Tryd.prog 35 #[.pointer (some ⟨b, 0, none⟩), v] W (AddPost b last m p W) := by
  have hlie := h
  induction h with
  | letter c hc =>
    intro W p hg hT hP hp hn
    have hbl := hP.lt
    obtain ⟨W1, hW1⟩ : ∃ W1, W1 = W.alloc (.cells #[.int .u16 0, .int .u16 0, .bool false] 85) := ⟨_, rfl⟩
    have HW1 : Hid (W1 = W.alloc (.cells #[.int .u16 0, .int .u16 0, .bool false] 85)) := hW1
    have g1 : W.grownBy W1 none := hW1 ▸ grown_alloc _ _
    have R1 : Hid (RcAt W1 W.heap.size ⟨0, 0, false⟩) := hW1 ▸ RcAt.new W 0 0 false
    have G1 : Hid (W.grownBy W1 (some b)) := grown_some g1
    have C : Hid (Calls Tryd.prog 53 #[.pointer (some ⟨b, 0, none⟩), .int .i64 (c : Int)] W1 (AddPost b last (.letter (c : Int)) p W1)) := addLetter_any b c last p W1 (hP.kept g1) hc hp (by simpa [letterS, nlet] using hn)
    have HBl : Hid (b < W.heap.size) := hbl
    obtain ⟨Po, hPo⟩ : ∃ Po, Po = AddPost b last (.letter (c : Int)) p W := ⟨_, rfl⟩
    have HPo : Hid (Po = AddPost b last (.letter (c : Int)) p W) := hPo
    obtain ⟨T, hT2⟩ : ∃ T, glu (.letter (c : Int)) p = T := ⟨_, rfl⟩
    have HTe : Hid (glu (.letter (c : Int)) p = T) := hT2
    show Calls _ _ _ _ (AddPost b last (.letter (c : Int)) p W)
    rw [← hPo]
    have a1 := asLLp W1 (.int .i64 (c : Int))
    rw [hW1] at a1
    clear hlie hg hT hP hp hn hbl hW1 g1 hPo hT2
    go_enter Tryd.func35, Tryd.ntmps35
    go_wp2_with fail
    rw [← HW1.out]
    refine C.out.mono ?_
    rintro E w2 ⟨rfl, hp2, hg2⟩
    rw [HTe.out] at hp2 ⊢
    obtain ⟨⟨rf, rl, re⟩, q⟩ := T
    have R2 := R1.out.far hg2 (by have := HBl.out; omega)
    obtain ⟨W9, hW9, q0, q1, q2, Fin⟩ := box_fin HBl.out HTe.out R2 hp2 (grown_trans G1.out hg2)
    have z0 := R2.c0
    have z1 := R2.c1
    have z2 := R2.c2
    have zf := R2.fz
    simp only at z0 z1 z2 q0 q1 q2 hW9
    clear hp2 hg2 R2 C R1 G1 a1
    go_wp2_with fail
    rw [← hW9]
    exact bodyPost_ret (v := .agg #[.int .u16 (rf : Int), .int .u16 (rl : Int), .bool re]) (by simp [results, Tryd.results35, go_sem, q0, q1, q2]) rfl (by rw [HPo.out]; exact Fin.out)
  | none a' cap' =>
    intro W p hg hT hP hp hn
    have hbl := hP.lt
    obtain ⟨W1, hW1⟩ : ∃ W1, W1 = W.alloc (.cells #[.int .u16 0, .int .u16 0, .bool false] 85) := ⟨_, rfl⟩
    have HW1 : Hid (W1 = W.alloc (.cells #[.int .u16 0, .int .u16 0, .bool false] 85)) := hW1
    have g1 : W.grownBy W1 none := hW1 ▸ grown_alloc _ _
    have R1 : Hid (RcAt W1 W.heap.size ⟨0, 0, false⟩) := hW1 ▸ RcAt.new W 0 0 false
    have G1 : Hid (W.grownBy W1 (some b)) := grown_some g1
    have C : Hid (Calls Tryd.prog 54 #[.pointer (some ⟨b, 0, none⟩), .slice a' 0 cap'] W1 (AddPost b last (.none) p W1)) := addEither_any b last a' 0 cap' [] [] p W1 (hP.kept g1) hp hn (by simp) (fun h => by simp at h) (fun k hk => by simp at hk) (fun k hk => by simp at hk)
    have HBl : Hid (b < W.heap.size) := hbl
    obtain ⟨Po, hPo⟩ : ∃ Po, Po = AddPost b last (.none) p W := ⟨_, rfl⟩
    have HPo : Hid (Po = AddPost b last (.none) p W) := hPo
    obtain ⟨T, hT2⟩ : ∃ T, glu (.none) p = T := ⟨_, rfl⟩
    have HTe : Hid (glu (.none) p = T) := hT2
    show Calls _ _ _ _ (AddPost b last (.none) p W)
    rw [← hPo]
    have a1 := asELp W1 (.slice a' 0 cap')
    have a2 := asEEp W1 (.slice a' 0 cap')
    rw [hW1] at a1 a2
    clear hlie hg hT hP hp hn hbl hW1 g1 hPo hT2
    go_enter Tryd.func35, Tryd.ntmps35
    go_wp2_with fail
    rw [← HW1.out]
    refine C.out.mono ?_
    rintro E w2 ⟨rfl, hp2, hg2⟩
    rw [HTe.out] at hp2 ⊢
    obtain ⟨⟨rf, rl, re⟩, q⟩ := T
    have R2 := R1.out.far hg2 (by have := HBl.out; omega)
    obtain ⟨W9, hW9, q0, q1, q2, Fin⟩ := box_fin HBl.out HTe.out R2 hp2 (grown_trans G1.out hg2)
    have z0 := R2.c0
    have z1 := R2.c1
    have z2 := R2.c2
    have zf := R2.fz
    simp only at z0 z1 z2 q0 q1 q2 hW9
    clear hp2 hg2 R2 C R1 G1 a1
    go_wp2_with fail
    rw [← hW9]
    exact bodyPost_ret (v := .agg #[.int .u16 (rf : Int), .int .u16 (rl : Int), .bool re]) (by simp [results, Tryd.results35, go_sem, q0, q1, q2]) rfl (by rw [HPo.out]; exact Fin.out)
  | empty a' cap' =>
    intro W p hg hT hP hp hn
    have hbl := hP.lt
    obtain ⟨W1, hW1⟩ : ∃ W1, W1 = W.alloc (.cells #[.int .u16 0, .int .u16 0, .bool false] 85) := ⟨_, rfl⟩
    have HW1 : Hid (W1 = W.alloc (.cells #[.int .u16 0, .int .u16 0, .bool false] 85)) := hW1
    have g1 : W.grownBy W1 none := hW1 ▸ grown_alloc _ _
    have R1 : Hid (RcAt W1 W.heap.size ⟨0, 0, false⟩) := hW1 ▸ RcAt.new W 0 0 false
    have G1 : Hid (W.grownBy W1 (some b)) := grown_some g1
    have C : Hid (Calls Tryd.prog 55 #[.pointer (some ⟨b, 0, none⟩), .slice a' 0 cap'] W1 (AddPost b last (.empty) p W1)) := addRow_any b last a' 0 cap' [] [] p W1 (hP.kept g1) hp hn (by simp) (fun h => by simp at h) (fun k hk => by simp at hk) (fun k hk => by simp at hk) (hT.kept g1 (by simp)) hb0
    have HBl : Hid (b < W.heap.size) := hbl
    obtain ⟨Po, hPo⟩ : ∃ Po, Po = AddPost b last (.empty) p W := ⟨_, rfl⟩
    have HPo : Hid (Po = AddPost b last (.empty) p W) := hPo
    obtain ⟨T, hT2⟩ : ∃ T, glu (.empty) p = T := ⟨_, rfl⟩
    have HTe : Hid (glu (.empty) p = T) := hT2
    show Calls _ _ _ _ (AddPost b last (.empty) p W)
    rw [← hPo]
    have a1 := asRLp W1 (.slice a' 0 cap')
    have a2 := asREp W1 (.slice a' 0 cap')
    have a3 := asRRp W1 (.slice a' 0 cap')
    rw [hW1] at a1 a2 a3
    clear hlie hg hT hP hp hn hbl hW1 g1 hPo hT2
    go_enter Tryd.func35, Tryd.ntmps35
    go_wp2_with fail
    rw [← HW1.out]
    refine C.out.mono ?_
    rintro E w2 ⟨rfl, hp2, hg2⟩
    rw [HTe.out] at hp2 ⊢
    obtain ⟨⟨rf, rl, re⟩, q⟩ := T
    have R2 := R1.out.far hg2 (by have := HBl.out; omega)
    obtain ⟨W9, hW9, q0, q1, q2, Fin⟩ := box_fin HBl.out HTe.out R2 hp2 (grown_trans G1.out hg2)
    have z0 := R2.c0
    have z1 := R2.c1
    have z2 := R2.c2
    have zf := R2.fz
    simp only at z0 z1 z2 q0 q1 q2 hW9
    clear hp2 hg2 R2 C R1 G1 a1
    go_wp2_with fail
    rw [← hW9]
    exact bodyPost_ret (v := .agg #[.int .u16 (rf : Int), .int .u16 (rl : Int), .bool re]) (by simp [results, Tryd.results35, go_sem, q0, q1, q2]) rfl (by rw [HPo.out]; exact Fin.out)
  | either g capg vs ms hok hm hc hl ih =>
    intro W p hg hT hP hp hn
    have hbl := hP.lt
    obtain ⟨W1, hW1⟩ : ∃ W1, W1 = W.alloc (.cells #[.int .u16 0, .int .u16 0, .bool false] 85) := ⟨_, rfl⟩
    have HW1 : Hid (W1 = W.alloc (.cells #[.int .u16 0, .int .u16 0, .bool false] 85)) := hW1
    have g1 : W.grownBy W1 none := hW1 ▸ grown_alloc _ _
    have R1 : Hid (RcAt W1 W.heap.size ⟨0, 0, false⟩) := hW1 ▸ RcAt.new W 0 0 false
    have G1 : Hid (W.grownBy W1 (some b)) := grown_some g1
    have C : Hid (Calls Tryd.prog 54 #[.pointer (some ⟨b, 0, none⟩), .slice (some ⟨g, 0, none⟩) ms.length capg] W1 (AddPost b last (eitherOf ms) p W1)) := addEither_any b last _ g capg vs ms p W1 (hP.kept g1) hp hn hm (fun _ => ⟨rfl, hok0 g hok⟩) (fun k hk => (grown_trans hg G1.out).cell (hc k hk) (by simpa using hok0 g hok)) (fun k hk W2 q2 hg2 hp2 hq2 hn2 => ih k hk (hl k hk) W2 q2 (grown_trans (grown_trans hg G1.out) hg2) ((hT.kept g1 (by simp)).kept hg2 (by simpa using hb0)) hp2 hq2 hn2)
    have HBl : Hid (b < W.heap.size) := hbl
    obtain ⟨Po, hPo⟩ : ∃ Po, Po = AddPost b last (eitherOf ms) p W := ⟨_, rfl⟩
    have HPo : Hid (Po = AddPost b last (eitherOf ms) p W) := hPo
    obtain ⟨T, hT2⟩ : ∃ T, glu (eitherOf ms) p = T := ⟨_, rfl⟩
    have HTe : Hid (glu (eitherOf ms) p = T) := hT2
    show Calls _ _ _ _ (AddPost b last (eitherOf ms) p W)
    rw [← hPo]
    have a1 := asELp W1 (.slice (some ⟨g, 0, none⟩) ms.length capg)
    have a2 := asEEp W1 (.slice (some ⟨g, 0, none⟩) ms.length capg)
    rw [hW1] at a1 a2
    clear hlie hg hT hP hp hn hbl hW1 g1 hPo hT2 ih hl hc hok
    go_enter Tryd.func35, Tryd.ntmps35
    go_wp2_with fail
    rw [← HW1.out]
    refine C.out.mono ?_
    rintro E w2 ⟨rfl, hp2, hg2⟩
    rw [HTe.out] at hp2 ⊢
    obtain ⟨⟨rf, rl, re⟩, q⟩ := T
    have R2 := R1.out.far hg2 (by have := HBl.out; omega)
    obtain ⟨W9, hW9, q0, q1, q2, Fin⟩ := box_fin HBl.out HTe.out R2 hp2 (grown_trans G1.out hg2)
    have z0 := R2.c0
    have z1 := R2.c1
    have z2 := R2.c2
    have zf := R2.fz
    simp only at z0 z1 z2 q0 q1 q2 hW9
    clear hp2 hg2 R2 C R1 G1 a1
    go_wp2_with fail
    rw [← hW9]
    exact bodyPost_ret (v := .agg #[.int .u16 (rf : Int), .int .u16 (rl : Int), .bool re]) (by simp [results, Tryd.results35, go_sem, q0, q1, q2]) rfl (by rw [HPo.out]; exact Fin.out)
  | row g capg vs ms hok hm hc hl ih =>
    intro W p hg hT hP hp hn
    have hbl := hP.lt
    obtain ⟨W1, hW1⟩ : ∃ W1, W1 = W.alloc (.cells #[.int .u16 0, .int .u16 0, .bool false] 85) := ⟨_, rfl⟩
    have HW1 : Hid (W1 = W.alloc (.cells #[.int .u16 0, .int .u16 0, .bool false] 85)) := hW1
    have g1 : W.grownBy W1 none := hW1 ▸ grown_alloc _ _
    have R1 : Hid (RcAt W1 W.heap.size ⟨0, 0, false⟩) := hW1 ▸ RcAt.new W 0 0 false
    have G1 : Hid (W.grownBy W1 (some b)) := grown_some g1
    have C : Hid (Calls Tryd.prog 55 #[.pointer (some ⟨b, 0, none⟩), .slice (some ⟨g, 0, none⟩) ms.length capg] W1 (AddPost b last (rowOf ms) p W1)) := addRow_any b last _ g capg vs ms p W1 (hP.kept g1) hp hn hm (fun _ => ⟨rfl, hok0 g hok⟩) (fun k hk => (grown_trans hg G1.out).cell (hc k hk) (by simpa using hok0 g hok)) (fun k hk W2 q2 hg2 hp2 hq2 hn2 => ih k hk (hl k hk) W2 q2 (grown_trans (grown_trans hg G1.out) hg2) ((hT.kept g1 (by simp)).kept hg2 (by simpa using hb0)) hp2 hq2 hn2) (hT.kept g1 (by simp)) hb0
    have HBl : Hid (b < W.heap.size) := hbl
    obtain ⟨Po, hPo⟩ : ∃ Po, Po = AddPost b last (rowOf ms) p W := ⟨_, rfl⟩
    have HPo : Hid (Po = AddPost b last (rowOf ms) p W) := hPo
    obtain ⟨T, hT2⟩ : ∃ T, glu (rowOf ms) p = T := ⟨_, rfl⟩
    have HTe : Hid (glu (rowOf ms) p = T) := hT2
    show Calls _ _ _ _ (AddPost b last (rowOf ms) p W)
    rw [← hPo]
    have a1 := asRLp W1 (.slice (some ⟨g, 0, none⟩) ms.length capg)
    have a2 := asREp W1 (.slice (some ⟨g, 0, none⟩) ms.length capg)
    have a3 := asRRp W1 (.slice (some ⟨g, 0, none⟩) ms.length capg)
    rw [hW1] at a1 a2 a3
    clear hlie hg hT hP hp hn hbl hW1 g1 hPo hT2 ih hl hc hok
    go_enter Tryd.func35, Tryd.ntmps35
    go_wp2_with fail
    rw [← HW1.out]
    refine C.out.mono ?_
    rintro E w2 ⟨rfl, hp2, hg2⟩
    rw [HTe.out] at hp2 ⊢
    obtain ⟨⟨rf, rl, re⟩, q⟩ := T
    have R2 := R1.out.far hg2 (by have := HBl.out; omega)
    obtain ⟨W9, hW9, q0, q1, q2, Fin⟩ := box_fin HBl.out HTe.out R2 hp2 (grown_trans G1.out hg2)
    have z0 := R2.c0
    have z1 := R2.c1
    have z2 := R2.c2
    have zf := R2.fz
    simp only at z0 z1 z2 q0 q1 q2 hW9
    clear hp2 hg2 R2 C R1 G1 a1
    go_wp2_with fail
    rw [← hW9]
    exact bodyPost_ret (v := .agg #[.int .u16 (rf : Int), .int .u16 (rl : Int), .bool re]) (by simp [results, Tryd.results35, go_sem, q0, q1, q2]) rfl (by rw [HPo.out]; exact Fin.out)
  | star v m h ih =>
    intro W p hg hT hP hp hn
    have hbl := hP.lt
    obtain ⟨t, x, rfl⟩ := h.form
    obtain ⟨W1, hW1⟩ : ∃ W1, W1 = W.alloc (.cells #[.int .u16 0, .int .u16 0, .bool false] 85) := ⟨_, rfl⟩
    obtain ⟨W2, hW2⟩ : ∃ W2, W2 = W1.alloc (.cells #[.iface t x] 115) := ⟨_, rfl⟩
    have HW2 : Hid (W2 = (W.alloc (.cells #[.int .u16 0, .int .u16 0, .bool false] 85)).alloc (.cells #[.iface t x] 115)) := by show _ = _; rw [hW2, hW1]
    have g1 : W.grownBy W1 none := hW1 ▸ grown_alloc _ _
    have g2 : W1.grownBy W2 none := hW2 ▸ grown_alloc _ _
    have g12 := grown_trans g1 g2
    have R2 : Hid (RcAt W2 W.heap.size ⟨0, 0, false⟩) := (show RcAt W1 W.heap.size ⟨0, 0, false⟩ from hW1 ▸ RcAt.new W 0 0 false).kept g2
    have G2 : Hid (W.grownBy W2 (some b)) := grown_some g12
    rw [nlet_star] at hn
    have C : Hid (Calls Tryd.prog 35 #[.pointer (some ⟨b, 0, none⟩), .iface t x] W2 (AddPost b last m p W2)) := ih h W2 p (grown_trans hg G2.out) (hT.kept g12 (by simp)) (hP.kept g12) hp hn
    have HTb : Hid (∀ W', W.grownBy W' (some b) → Tab32 W') := fun W' hW' => hT.kept hW' (by simpa using hb0)
    have hok := glu_ok m p hp hn
    have HBl : Hid (b < W.heap.size) := hbl
    obtain ⟨Po, hPo⟩ : ∃ Po, Po = AddPost b last (starS m) p W := ⟨_, rfl⟩
    have HPo : Hid (Po = AddPost b last (starS m) p W) := hPo
    have HGs := glu_star m p
    obtain ⟨T, hT2⟩ : ∃ T, glu m p = T := ⟨_, rfl⟩
    have HTe : Hid (glu m p = T) := hT2
    rw [hT2] at hok HGs
    obtain ⟨⟨rf, rl, re⟩, q⟩ := T
    have HOk : Hid ((Rch.Ok ⟨rf, rl, re⟩) ∧ q.Ok) := ⟨hok.1, hok.2.1⟩
    have HGe : Hid (glu (starS m) p = (⟨rf, rl, true⟩, q.follow rl rf)) := HGs
    show Calls _ _ _ _ (AddPost b last (starS m) p W)
    rw [← hPo]
    have a1 := asSLp W1 (.agg #[.iface t x])
    have a2 := asSEp W1 (.agg #[.iface t x])
    have a3 := asSRp W1 (.agg #[.iface t x])
    have a4 := asSSp W1 (.agg #[.iface t x])
    rw [hW1] at a1 a2 a3 a4
    clear hlie hg hT hP hp hn hbl hW1 hW2 g1 g2 g12 hPo hT2 ih h hok HGs
    go_enter Tryd.func35, Tryd.ntmps35
    go_wp2_with fail
    rw [← HW2.out]
    clear a1 a2 a3 a4
    refine C.out.mono ?_
    rintro E w3 ⟨rfl, hp3, hg3⟩
    rw [HTe.out] at hp3 ⊢
    have R3 := R2.out.far hg3 (by have := HBl.out; omega)
    have G3 := grown_trans G2.out hg3
    obtain ⟨W4, hW4⟩ : ∃ W4, W4 = w3.alloc (.cells #[.int .u16 (rf : Int), .int .u16 (rl : Int), .bool re] 85) := ⟨_, rfl⟩
    have HW4 : Hid (W4 = w3.alloc (.cells #[.int .u16 (rf : Int), .int .u16 (rl : Int), .bool re] 85)) := hW4
    have g4 : w3.grownBy W4 none := hW4 ▸ grown_alloc _ _
    have Y4 : RcAt W4 w3.heap.size ⟨rf, rl, re⟩ := hW4 ▸ RcAt.new w3 rf rl re
    have R4 := R3.kept g4
    have P4 : PlAt W4 b q last := hp3.kept g4
    have G4 := grown_trans G3 (grown_some g4)
    have hb3 : b < w3.heap.size := hp3.lt
    have CF : Hid (Calls Tryd.prog 36 #[.pointer (some ⟨b, 0, none⟩), .int .u16 (rl : Int), .int .u16 (rf : Int)] W4 (PlPost b last (q.follow rl rf) W4)) := follow_any b rl rf last q W4 P4 (HTb.out W4 G4) hb0 HOk.out.1.2 HOk.out.1.1 HOk.out.2
    obtain ⟨g9, hg9⟩ : ∃ g9, w3.heap.size = g9 := ⟨_, rfl⟩
    rw [hg9] at Y4 hb3
    have KX : Hid (RcAt W4 W.heap.size ⟨0, 0, false⟩ ∧ RcAt W4 g9 ⟨rf, rl, re⟩ ∧ W.grownBy W4 (some b) ∧ b < g9) := ⟨R4, Y4, G4, hb3⟩
    have y0 := Y4.c0
    have y1 := Y4.c1
    simp only at y0 y1
    rw [hW4] at y0 y1
    clear hp3 hg3 R3 G3 g4 Y4 R4 P4 G4 hb3 hW4 C R2 G2
    go_wp2_with fail
    rw [← HW4.out]
    clear y0 y1 HW4 hg9
    refine CF.out.mono ?_
    rintro E w5 ⟨rfl, hp5, hg5⟩
    obtain ⟨kr, ky, kg, kb⟩ := KX.out
    have R5 := kr.far hg5 (by have := HBl.out; omega)
    have Y5 := ky.far hg5 (by omega)
    obtain ⟨W9, hW9, q0, q1, q2, Fin⟩ := box_fin HBl.out HGe.out R5 hp5 (grown_trans kg hg5)
    have y0 := Y5.c0
    have y1 := Y5.c1
    have z0 := R5.c0
    have z1 := R5.c1
    have z2 := R5.c2
    have zf := R5.fz
    simp only at z0 z1 z2 q0 q1 q2 hW9 y0 y1
    clear hp5 hg5 R5 Y5 CF kr ky kg kb KX
    go_wp2_with fail
    rw [← hW9]
    exact bodyPost_ret (v := .agg #[.int .u16 (rf : Int), .int .u16 (rl : Int), .bool true]) (by simp [results, Tryd.results35, go_sem, q0, q1, q2]) rfl (by rw [HPo.out]; exact Fin.out)

end Go.Proofs.YtkkmdcnbifepjaaDoor

namespace Go.Proofs.YtkkmdcnbifepjaaDoor
open Go.RowKit
set_option linter.unusedVariables false

/-- All that f says of the places of s. -/
def uni (f : Nat → Nat) (s : Nat) : Nat → Nat
  | 0 => 0
  | n + 1 => if s.testBit n = true then uni f s n ||| f n else uni f s n
theorem uni_bit (f : Nat → Nat) (s : Nat) : ∀ (n k : Nat), (uni f s n).testBit k = true ↔ ∃ j, j < n ∧ s.testBit j = true ∧ (f j).testBit k = true
  | 0, k => by simp [uni]
  | n + 1, k => by
    have ih := uni_bit f s n k
    unfold uni
    constructor
    · intro h
      by_cases hs : s.testBit n = true
      · rw [if_pos hs, Nat.testBit_or, Bool.or_eq_true] at h
        rcases h with h | h
        · obtain ⟨j, h1, h2, h3⟩ := ih.1 h
          exact ⟨j, by omega, h2, h3⟩
        · exact ⟨n, by omega, hs, h⟩
      · rw [if_neg hs] at h
        obtain ⟨j, h1, h2, h3⟩ := ih.1 h
        exact ⟨j, by omega, h2, h3⟩
    · rintro ⟨j, h1, h2, h3⟩
      by_cases hj : j = n
      · subst hj
        rw [if_pos h2, Nat.testBit_or, h3, Bool.or_true]
      · have := ih.2 ⟨j, by omega, h2, h3⟩
        split
        · rw [Nat.testBit_or, this, Bool.true_or]
        · exact this
theorem uni_lt {f : Nat → Nat} (s : Nat) (h : ∀ j, f j < 2048) : ∀ n, uni f s n < 2048
  | 0 => by simp [uni]
  | n + 1 => by
    unfold uni
    split
    · exact or_2048 (uni_lt s h n) (h n)
    · exact uni_lt s h n
def Pl.next (p : Pl) (s l : Nat) : Nat := uni p.behind s 11 &&& p.of l
theorem and_2048 {a : Nat} (b : Nat) (h : a < 2048) : a &&& b < 2048 := Nat.lt_of_le_of_lt Nat.and_le_left h
theorem Pl.next_lt {p : Pl} (h : p.Ok) (s l : Nat) : p.next s l < 2048 := and_2048 _ (uni_lt s h.behind 11)
/-- What has been gathered: r is left. -/
def Gath (f : Nat → Nat) (s r o : Nat) : Prop := ∀ k, o.testBit k = true ↔ ∃ j, j < 11 ∧ s.testBit j = true ∧ r.testBit j = false ∧ (f j).testBit k = true
theorem Gath.start (f : Nat → Nat) (s : Nat) : Gath f s s 0 := fun k => by
  constructor
  · intro h; simp at h
  · rintro ⟨j, h1, h2, h3, h4⟩; rw [h2] at h3; cases h3
theorem Gath.done {f : Nat → Nat} {s o : Nat} (h : Gath f s 0 o) : o = uni f s 11 := by
  refine Nat.eq_of_testBit_eq fun k => ?_
  have h1 := h k
  have h2 := uni_bit f s 11 k
  cases e1 : o.testBit k <;> cases e2 : (uni f s 11).testBit k
  · rfl
  · rw [e1] at h1; rw [e2] at h2
    obtain ⟨j, a, b, c⟩ := h2.1 rfl
    exact h1.2 ⟨j, a, b, by simp, c⟩
  · rw [e1] at h1; rw [e2] at h2
    obtain ⟨j, a, b, _, c⟩ := h1.1 rfl
    exact (h2.2 ⟨j, a, b, c⟩).symm
  · rfl
theorem Gath.step {f : Nat → Nat} {s r o : Nat} (h : Gath f s r o) (h0 : r ≠ 0) (hr : r < 2048) (hs : ∀ j, r.testBit j = true → s.testBit j = true) : Gath f s (restP r) (o ||| f (lowP r)) := by
  obtain ⟨l1, l2, l3, l4⟩ := low_set h0 hr
  intro k
  rw [Nat.testBit_or, Bool.or_eq_true]
  constructor
  · rintro (e | e)
    · obtain ⟨j, a, b, c, d⟩ := (h k).1 e
      exact ⟨j, a, b, by rw [l2, c]; rfl, d⟩
    · exact ⟨lowP r, l4, hs _ l1, by rw [l2]; simp, e⟩
  · rintro ⟨j, a, b, c, d⟩
    by_cases e : j = lowP r
    · subst e; exact .inr d
    · refine .inl ((h k).2 ⟨j, a, b, ?_, d⟩)
      rw [l2] at c
      simpa [e] using c

set_option maxHeartbeats 3200000 in
set_option maxRecDepth 100000 in
theorem next_any (b s l last : Nat) (p : Pl) (w : World) (h : PlAt w b p last) (hT : Tab32 w) (hs : s < 2048) (hl : l < 4) (hp : p.Ok) :
    Calls Tryd.prog 21 #[.pointer (some ⟨b, 0, none⟩), .int .u16 (s : Int), .int .i64 (l : Int)] w fun E w' => E = .returned (.int .u16 ((p.next s l : Nat) : Int)) ∧ w.grownBy w' none := by
  have HT : Hid (∀ W, w.grownBy W none → Tab32 W) := fun W hW => hT.kept hW (by simp)
  have H : Hid (∀ W, w.grownBy W none → PlAt W b p last) := fun W hW => h.kept hW
  have OK : Hid p.Ok := hp
  have hli : (l : Int) < 4 := by omega
  have hx : p.next s l = uni p.behind s 11 &&& p.of l := rfl
  have ef : bits .and .u16 ((uni p.behind s 11 : Nat) : Int) ((p.of l : Nat) : Int) = ((p.next s l : Nat) : Int) := bits_and_set (uni_lt s hp.behind 11) (hp.of l)
  generalize p.next s l = x at *
  clear h hT hp hx
  go_enter Tryd.func21, Tryd.ntmps21
  go_wp2_with fail
  go_loopw [1, 7] (fun v u wr => ∃ r o : Nat, v = .int .u16 (r : Int) ∧ u = .int .u16 (o : Int) ∧ r < 2048 ∧ o < 2048 ∧ (∀ j, r.testBit j = true → s.testBit j = true) ∧ Gath p.behind s r o ∧ w.grownBy wr none) (fun v _ _ => (intOf v).toNat)
  case atStart => exact ⟨s, 0, rfl, rfl, hs, by omega, fun _ e => e, Gath.start _ _, grown_refl _ _⟩
  case round =>
    obtain ⟨r, o, rfl, rfl, hr, ho, hrs, hga, hg⟩ := hrel
    have G : Hid (w.grownBy wr none) := hg
    have GA : Hid (Gath p.behind s r o) := hga
    have HRS : Hid (∀ j, r.testBit j = true → s.testBit j = true) := hrs
    have P := H.out wr hg
    clear hg hrs hga
    by_cases h0 : r = 0
    · subst h0
      have eo := GA.out.done
      subst eo
      have co := P.of hl
      clear P GA
      go_wp2_with fail
      go_ret
      exact ⟨rfl, G.out⟩
    · have h0' : ((r : Int) != 0) = true := by simp; omega
      obtain ⟨l1, l2, l3, l4⟩ := low_set h0 hr
      have er : bits .and .u16 (r : Int) ((r : Int) - 1) = ((restP r : Nat) : Int) := by
        have e1 : ((r : Int) - 1) = ((r - 1 : Nat) : Int) := by omega
        rw [e1, bits_and_set hr (by omega)]; rfl
      have hri : (1 : Int) ≤ (r : Int) := by omega
      have HC : Hid (∀ W, wr.grownBy W none → Calls Tryd.prog 42 #[.int .u16 (r : Int)] W fun e w' => e = .returned (.int .i64 ((lowP r : Nat) : Int)) ∧ w' = W) := fun W hW => tz16_any r h0 hr W ((HT.out wr G.out).kept hW (by simp))
      have HR2 : Hid (∀ j, (restP r).testBit j = true → s.testBit j = true) := fun j hj => by
        rw [l2 j] at hj
        exact HRS.out j (by simp at hj; exact hj.1)
      have HG2 : Hid (Gath p.behind s (restP r) (o ||| p.behind (lowP r))) := GA.out.step h0 hr HRS.out
      have HLt : Hid (restP r < r) := l3
      obtain ⟨c, hc⟩ : ∃ c, lowP r = c := ⟨_, rfl⟩
      rw [hc] at HC l4 HG2
      have cb := P.behind l4
      have eo : bits .or .u16 (o : Int) ((p.behind c : Nat) : Int) = ((o ||| p.behind c : Nat) : Int) := bits_or_set ho (OK.out.behind c)
      have ho2 : o ||| p.behind c < 2048 := or_2048 ho (OK.out.behind c)
      have hci : (c : Int) < 11 := by omega
      have hrp : restP r < 2048 := by omega
      obtain ⟨r2, hr2⟩ : ∃ r2, restP r = r2 := ⟨_, rfl⟩
      rw [hr2] at er HR2 HG2 HLt hrp
      clear l1 l2 l3 hc hr2 P GA
      go_wp2_with fail
      go_region_with (go_at_call 42; refine (HC.out _ (by first | exact grown_refl _ _ | exact grown_drew (grown_refl _ _) | exact grown_drewN (grown_refl _ _) _)).mono ?_; rintro E w5 ⟨rfl, rfl⟩)
      all_goals
        go_wp2_with fail
        refine ⟨⟨r2, o ||| p.behind c, rfl, rfl, hrp, ho2, HR2.out, HG2.out, by first | exact grown_drew G.out | exact G.out⟩, ?_⟩
        simp only [intOf, Int.toNat_natCast]
        exact HLt.out

set_option maxHeartbeats 3200000 in
set_option maxRecDepth 100000 in
theorem ends_any (b s last : Nat) (p : Pl) (w : World) (h : PlAt w b p last) (hs : s < 2048) (hl : last < 2048) :
    Calls Tryd.prog 22 #[.pointer (some ⟨b, 0, none⟩), .int .u16 (s : Int)] w fun E w' => E = .returned (.bool (decide (s &&& last ≠ 0))) ∧ w' = w := by
  have c := h.lastC
  have e := bits_and_set hs hl
  clear h
  obtain ⟨x, hx⟩ : ∃ x, s &&& last = x := ⟨_, rfl⟩
  rw [hx] at e ⊢
  go_enter Tryd.func22, Tryd.ntmps22
  go_wp2_with fail
  go_ret
  refine ⟨?_, rfl⟩
  by_cases h0 : x = 0
  · subst h0; rfl
  · have : ((x : Int) != 0) = true := by simp; omega
    simp [this, h0]

end Go.Proofs.YtkkmdcnbifepjaaDoor

namespace Go.Proofs.YtkkmdcnbifepjaaDoor
open Go.RowKit
set_option linter.unusedVariables false

def pl0 : Pl := ⟨0, fun _ => 0, fun _ => 0⟩
theorem pl0_ok : pl0.Ok := ⟨by simp [pl0], fun l => by simp [pl0], fun l => by simp [pl0]⟩
def gluP (m : Rx) : Pl := (glu m pl0).2.follow 1024 (glu m pl0).1.first
def gluL (m : Rx) : Nat := if (glu m pl0).1.empty = true then (glu m pl0).1.last ||| 1024 else (glu m pl0).1.last
theorem gluP_ok {m : Rx} (h : nlet m ≤ 10) : (gluP m).Ok := by
  obtain ⟨h1, h2, h3⟩ := glu_ok m pl0 pl0_ok (by simp only [pl0]; omega)
  exact h2.follow _ h1.1
theorem gluL_lt {m : Rx} (h : nlet m ≤ 10) : gluL m < 2048 := by
  obtain ⟨h1, h2, h3⟩ := glu_ok m pl0 pl0_ok (by simp only [pl0]; omega)
  unfold gluL
  split
  · exact or_2048 h1.2 (by omega)
  · exact h1.2
abbrev zPl : Array Value := #[.int .i64 0, .int .u16 0, .int .u16 0, .int .u16 0, .int .u16 0, .int .u16 0, .int .u16 0, .int .u16 0, .int .u16 0, .int .u16 0, .int .u16 0, .int .u16 0, .int .u16 0, .int .u16 0, .int .u16 0, .int .u16 0, .int .u16 0]
theorem PlAt.new (w : World) : PlAt (w.alloc (.cells zPl 83)) w.heap.size pl0 0 := ⟨zPl, heap_alloc_new _ _, rfl, Nat.le_refl _, fun i hi => by
  match i, hi with
  | 0, _ => rfl
  | 1, _ => rfl
  | 2, _ => rfl
  | 3, _ => rfl
  | 4, _ => rfl
  | 5, _ => rfl
  | 6, _ => rfl
  | 7, _ => rfl
  | 8, _ => rfl
  | 9, _ => rfl
  | 10, _ => rfl
  | 11, _ => rfl
  | 12, _ => rfl
  | 13, _ => rfl
  | 14, _ => rfl
  | 15, _ => rfl
  | 16, _ => rfl
  | k + 17, h => exact absurd h (by omega)⟩
def POfPost (m : Rx) (w : World) (E : Ending) (w' : World) : Prop := ∃ b, E = .returned (.pointer (some ⟨b, 0, none⟩)) ∧ w.heap.size ≤ b ∧ PlAt w' b (gluP m) (gluL m) ∧ w.grownBy w' none

set_option maxHeartbeats 6400000 in
set_option maxRecDepth 100000 in
theorem placesOf_any {ok : Nat → Prop} {w : World} {v : Value} {m : Rx} (h : Lies ok w v m) (hT : Tab32 w) (hn : nlet m ≤ 10) :
    Calls Tryd.prog 18 #[v] w (POfPost m w) := by
  have h00 : 0 < w.heap.size := World.block_lt_of_cell? w _ (hT 0 (by decide))
  have h1 : Lies (fun g => g < w.heap.size) w v m := h.kept fun g _ hg => ⟨hg, rfl⟩
  obtain ⟨W1, hW1⟩ : ∃ W1, W1 = w.alloc (.cells zPl 83) := ⟨_, rfl⟩
  have HW1 : Hid (W1 = w.alloc (.cells zPl 83)) := hW1
  have g1 : w.grownBy W1 none := hW1 ▸ grown_alloc _ _
  have P1 : PlAt W1 w.heap.size pl0 0 := hW1 ▸ PlAt.new w
  have hLim : pl0.many + nlet m ≤ 10 := by simp only [pl0]; omega
  have C : Hid (Calls Tryd.prog 35 #[.pointer (some ⟨w.heap.size, 0, none⟩), v] W1 (AddPost w.heap.size 0 m pl0 W1)) := add_any h1 w.heap.size 0 (fun g hg e => by omega) (by omega) W1 pl0 (grown_some g1) (hT.kept g1 (by simp)) P1 pl0_ok hLim
  have hok := glu_ok m pl0 pl0_ok hLim
  obtain ⟨T, hT2⟩ : ∃ T, glu m pl0 = T := ⟨_, rfl⟩
  have HTb : Hid (∀ W, w.grownBy W (some w.heap.size) → Tab32 W) := fun W hW => hT.kept hW (fun e => by injection e; omega)
  obtain ⟨Po, hPo⟩ : ∃ Po, Po = POfPost m w := ⟨_, rfl⟩
  have HPo : Hid (Po = POfPost m w) := hPo
  rw [← hPo]
  have HFin : Hid (∀ (q : Pl) (last : Nat) (W9 : World), q = gluP m → last = gluL m → PlAt W9 w.heap.size q last → w.grownBy W9 (some w.heap.size) → Po (.returned (.pointer (some ⟨w.heap.size, 0, none⟩))) W9) := by
    intro q last W9 e1 e2 k1 k2
    rw [HPo.out]
    exact ⟨_, rfl, Nat.le_refl _, e1 ▸ e2 ▸ k1, grown_new (grown_refl _ _) k2 (Nat.le_refl _)⟩
  have e1 : gluP m = T.2.follow 1024 T.1.first := by rw [← hT2]; rfl
  have e2 : gluL m = if T.1.empty = true then T.1.last ||| 1024 else T.1.last := by rw [← hT2]; rfl
  rw [hT2] at hok
  have HTe : Hid (glu m pl0 = T) := hT2
  have HE : Hid (gluP m = T.2.follow 1024 T.1.first ∧ gluL m = if T.1.empty = true then T.1.last ||| 1024 else T.1.last) := ⟨e1, e2⟩
  have HOk : Hid (T.1.Ok ∧ T.2.Ok) := ⟨hok.1, hok.2.1⟩
  have G1 : Hid (w.grownBy W1 (some w.heap.size)) := grown_some g1
  have H00 : Hid (0 < w.heap.size) := h00
  clear h hT hn h00 h1 hW1 g1 P1 hok hT2 hPo e1 e2 hLim
  go_enter Tryd.func18, Tryd.ntmps18
  go_wp2_with fail
  rw [← HW1.out]
  refine C.out.mono ?_
  rintro E w2 ⟨rfl, hp2, hg2⟩
  rw [HTe.out] at hp2 ⊢
  obtain ⟨⟨rf, rl, re⟩, q⟩ := T
  have G2 := grown_trans G1.out hg2
  obtain ⟨W4, hW4⟩ : ∃ W4, W4 = w2.alloc (.cells #[.int .u16 (rf : Int), .int .u16 (rl : Int), .bool re] 85) := ⟨_, rfl⟩
  have HW4 : Hid (W4 = w2.alloc (.cells #[.int .u16 (rf : Int), .int .u16 (rl : Int), .bool re] 85)) := hW4
  have g4 : w2.grownBy W4 none := hW4 ▸ grown_alloc _ _
  have Y4 : RcAt W4 w2.heap.size ⟨rf, rl, re⟩ := hW4 ▸ RcAt.new w2 rf rl re
  have P4 := hp2.kept g4
  have G4 := grown_trans G2 (grown_some g4)
  have hb3 : w.heap.size < w2.heap.size := hp2.lt
  have CF : Hid (Calls Tryd.prog 36 #[.pointer (some ⟨w.heap.size, 0, none⟩), .int .u16 ((1024 : Nat) : Int), .int .u16 (rf : Int)] W4 (PlPost w.heap.size 0 (q.follow 1024 rf) W4)) := follow_any w.heap.size 1024 rf 0 q W4 P4 (HTb.out W4 G4) (by have := H00.out; omega) (by omega) HOk.out.1.1 HOk.out.2
  obtain ⟨g9, hg9⟩ : ∃ g9, w2.heap.size = g9 := ⟨_, rfl⟩
  rw [hg9] at Y4 hb3
  have KX : Hid (RcAt W4 g9 ⟨rf, rl, re⟩ ∧ w.grownBy W4 (some w.heap.size) ∧ w.heap.size < g9) := ⟨Y4, G4, hb3⟩
  have y0 := Y4.c0
  simp only at y0
  rw [hW4] at y0
  clear hp2 hg2 G2 g4 Y4 P4 G4 hb3 hW4 C
  go_wp2_with fail
  rw [← HW4.out]
  clear y0 HW4 hg9
  refine CF.out.mono ?_
  rintro E w5 ⟨rfl, hp5, hg5⟩
  obtain ⟨ky, kg, kb⟩ := KX.out
  have G5 : Hid (w.grownBy w5 (some w.heap.size)) := grown_trans kg hg5
  have Y5 : RcAt w5 g9 ⟨rf, rl, re⟩ := ky.far hg5 (by omega)
  have y1 := Y5.c1
  have y2 := Y5.c2
  have f16 := hp5.fz 16
  have c16 := hp5.lastC
  have P6 := hp5.setLast rl
  obtain ⟨W6, hW6⟩ : ∃ W6, W6 = w5.setCell ⟨w.heap.size, 16, none⟩ (.int .u16 (rl : Int)) := ⟨_, rfl⟩
  have HW6 : Hid (W6 = w5.setCell ⟨w.heap.size, 16, none⟩ (.int .u16 (rl : Int))) := hW6
  rw [← hW6] at P6
  have y62 : W6.cell? ⟨g9, 2, none⟩ = some (.bool re) := by rw [hW6]; exact (RcAt.other Y5 (by omega) _).c2
  have hne : g9 ≠ w.heap.size := by omega
  have G6 : Hid (w.grownBy W6 (some w.heap.size)) := by show World.grownBy _ _ _; rw [hW6]; exact grown_trans G5.out (grown_set _ _ _)
  simp only at y1 y2
  cases re with
  | false =>
    have F := HFin.out _ _ W6 HE.out.1.symm (by rw [HE.out.2]; rfl) P6 G6.out
    rw [hW6] at y62
    clear hp5 hg5 Y5 P6 hW6 CF ky kg kb KX
    go_wp2_with fail
    rw [← HW6.out]
    exact F
  | true =>
    have P7 := P6.setLast (rl ||| 1024)
    have c67 := P6.lastC
    have f67 := P6.fz 16
    have eo : bits .or .u16 (rl : Int) 1024 = ((rl ||| 1024 : Nat) : Int) := bits_or_set (b := 1024) HOk.out.1.2 (by decide)
    obtain ⟨W7, hW7⟩ : ∃ W7, W7 = W6.setCell ⟨w.heap.size, 16, none⟩ (.int .u16 ((rl ||| 1024 : Nat) : Int)) := ⟨_, rfl⟩
    rw [← hW7] at P7
    have F := HFin.out _ _ W7 HE.out.1.symm (by rw [HE.out.2]; rfl) P7 (by rw [hW7]; exact grown_trans G6.out (grown_set _ _ _))
    rw [hW6] at y62 c67 f67 hW7
    clear hp5 hg5 Y5 P6 P7 CF ky kg kb KX hW6
    go_wp2_with fail
    rw [← hW7]
    exact F

end Go.Proofs.YtkkmdcnbifepjaaDoor
