/- What is wrong with a tree: the program's take and Tree. -/
import Derived.Test.YtofjmakmbmndoaaTrTreeD
import Derived.Test.YtofjmakmbmndoaaTrCheck
namespace Go.Proofs.Ytofjmakmbmndoaa
open Go.RowKit
set_option linter.unusedVariables false

def takeS (i : Nat) (s : Nat → Bool) (l r : Int) : Bool × (Nat → Bool) :=
  if l = -1 ∧ r = -1 then (true, s)
  else if canTake i s l = false then (false, s)
  else if canTake i (setB s l.toNat) r = false then (false, setB s l.toNat)
  else (true, setB (setB s l.toNat) r.toNat)
theorem nodeF_take {l : Int} {i : Nat} {s : Nat → Bool} {n : NodeI} (h : ¬ (n.1 < 0 ∨ l ≤ n.1)) : nodeF l i s n = if (takeS i s n.2.1 n.2.2).1 = true then (0, (takeS i s n.2.1 n.2.2).2) else (3, s) := by
  unfold nodeF takeS
  rw [if_neg h]
  split
  · simp
  · split
    · simp
    · split <;> simp
def TakePost (g n : Nat) (q : Bool × (Nat → Bool)) (w : World) (E : Ending) (w' : World) : Prop := E = .returned (.bool q.1) ∧ BRow w' g n q.2 ∧ w.grownBy w' (some g)
theorem canTake_no {i : Nat} {s : Nat → Bool} {c : Int} (h : ofB c i = false) : canTake i s c = false := by
  unfold canTake
  unfold ofB at h
  rw [h]; rfl
theorem canTake_of {i : Nat} {s : Nat → Bool} {c : Int} (h : ofB c i = true) : canTake i s c = !s c.toNat := by
  unfold canTake
  unfold ofB at h
  rw [h]; rfl

theorem idx2_0 (l r : Int) (w : World) : (Instr.index 58 (.agg #[.int .i64 l, .int .i64 r]) (.int .i64 0)).run Try.prog w = .ok (.int .i64 l) w := by kernel_rfl
theorem idx2_1 (l r : Int) (w : World) : (Instr.index 58 (.agg #[.int .i64 l, .int .i64 r]) (.int .i64 1)).run Try.prog w = .ok (.int .i64 r) w := by kernel_rfl

/-- While a node takes its two children. -/
structure TkAt (W1 wr : World) (g n i k : Nat) (s : Nat → Bool) (l r : Int) : Prop where
  le : k ≤ 2
  row : BRow wr g n (if k = 0 then s else if k = 1 then setB s l.toNat else setB (setB s l.toNat) r.toNat)
  gr : W1.grownBy wr (some g)
  a : 1 ≤ k → canTake i s l = true
  b : 2 ≤ k → canTake i (setB s l.toNat) r = true

set_option maxHeartbeats 3200000 in
set_option maxRecDepth 100000 in
theorem take_any (g n i : Nat) (s : Nat → Bool) (x : NodeI) (w : World) (h : BRow w g n s) (hi : i ≤ n) (hn : n ≤ 1000) :
    Calls Try.prog 22 #[.slice (some ⟨g, 0, none⟩) i n, nodeV x] w (TakePost g n (takeS i s x.2.1 x.2.2) w) := by
  have HB : Hid (BRow w g n s) := h
  have hglt := h.lt
  have HOf : Hid (∀ x n W, Calls Try.prog 21 #[.int .i64 x, .int .i64 n] W fun e w' => e = .returned (.bool (ofB x n)) ∧ w' = W) := fun x n W => isOf_any x n W
  obtain ⟨y, l, r⟩ := x
  simp only [nodeV]
  obtain ⟨W1, hW1, g1, s1, bx1⟩ := box3_new w (.int .i64 y) (.int .i64 l) (.int .i64 r) 50
  have HW1 : Hid (W1 = _) := hW1
  have G1 : Hid (w.grownBy W1 none) := g1
  have HR1 : Hid (BRow W1 g n s) := h.kept g1
  obtain ⟨q, hq⟩ : ∃ q, takeS i s l r = q := ⟨_, rfl⟩
  rw [hq]
  have HQ : Hid (takeS i s l r = q) := hq
  have Hlt : Hid (g < w.heap.size) := hglt
  clear h hW1 g1 s1 bx1 hq hglt
  by_cases e1 : l = -1 ∧ r = -1
  · have d1 : (l == -1) = true := by simpa using e1.1
    have d2 : (r == -1) = true := by simpa using e1.2
    have Hz : Hid (q = (true, s)) := by show _ = _; rw [← HQ.out]; unfold takeS; rw [if_pos e1]
    clear e1
    go_enter Try.func22, Try.ntmps22
    go_wp2_with fail
    rw [← HW1.out]
    go_ret
    rw [Hz.out]
    exact ⟨rfl, HR1.out, grown_some G1.out⟩
  have Hne : Hid (¬ (l = -1 ∧ r = -1)) := e1
  have HQ1 : Hid (canTake i s l = false → q = (false, s)) := fun hh => by rw [← HQ.out]; unfold takeS; rw [if_neg Hne.out, if_pos hh]
  have HQ2 : Hid (canTake i s l = true → canTake i (setB s l.toNat) r = false → q = (false, setB s l.toNat)) := fun h1 hh => by rw [← HQ.out]; unfold takeS; rw [if_neg Hne.out, if_neg (by rw [h1]; simp), if_pos hh]
  have HQ3 : Hid (canTake i s l = true → canTake i (setB s l.toNat) r = true → q = (true, setB (setB s l.toNat) r.toNat)) := fun h1 hh => by rw [← HQ.out]; unfold takeS; rw [if_neg Hne.out, if_neg (by rw [h1]; simp), if_neg (by rw [hh]; simp)]
  clear HQ
  obtain ⟨m1, hm1⟩ : ∃ m, (l == -1) = m := ⟨_, rfl⟩
  have hm2 : m1 = true → (r == -1) = false := fun e => by
    rw [e] at hm1
    have : l = -1 := by simpa using hm1
    simp
    intro h2
    exact e1 ⟨this, h2⟩
  have Body : Hid (∀ (wq : World), TkAt W1 wq g n i 0 s l r) → True := fun _ => trivial
  clear Body e1
  have D1 : Hid (l = -1 → m1 = true) := fun e => by rw [← hm1]; simpa using e
  cases m1
  all_goals
    try have hm3 := hm2 rfl
    clear hm2
    go_enter Try.func22, Try.ntmps22
    go_wp2_with fail
    rw [← HW1.out]
    go_loopw [20] (fun v wr => ∃ k : Nat, v = .int .i64 k ∧ TkAt W1 wr g n i k s l r) (fun v _ => 2 - (intOf v).toNat)
    case atStart => exact ⟨0, rfl, by omega, by simpa using HR1.out, grown_refl _ _, fun e => by omega, fun e => by omega⟩
    case round =>
      obtain ⟨k, rfl, hT⟩ := hrel
      have TK : Hid (TkAt W1 wr g n i k s l r) := hT
      have hk := hT.le
      clear hT
      rcases (by omega : k = 0 ∨ k = 1 ∨ k = 2) with rfl | rfl | rfl
      · have HRow : Hid (BRow wr g n s) := by
          show BRow _ _ _ _
          simpa using TK.out.row
        have HGr : Hid (W1.grownBy wr (some g)) := TK.out.gr
        obtain ⟨o, ho⟩ : ∃ o, ofB l i = o := ⟨_, rfl⟩
        have HO : Hid (ofB l i = o) := ho
        have HC : Hid (∀ W, Calls Try.prog 21 #[.int .i64 l, .int .i64 (i : Int)] W fun e w' => e = .returned (.bool o) ∧ w' = W) := fun W => ho ▸ HOf.out l i W
        have hix := idx2_0 l r wr
        clear ho TK
        go_wp2_with fail
        clear hix
        refine (HC.out _).mono ?_
        rintro E w2 ⟨rfl, rfl⟩
        cases o
        · have Hz : Hid _ := HQ1.out (canTake_no HO.out)
          go_wp2_with fail
          go_ret
          rw [Hz.out]
          exact ⟨rfl, HRow.out, grown_trans (grown_some G1.out) HGr.out⟩
        · have hin := (ofB_iff _ _).1 HO.out
          obtain ⟨c, rfl⟩ : ∃ c : Nat, l = c := ⟨l.toNat, by omega⟩
          have HCT : Hid (canTake i s (c : Int) = !s c) := by
            have := canTake_of (s := s) HO.out
            show _ = _
            simpa using this
          have hci : (c : Int) < (i : Int) := hin.2
          have hx := HRow.out.cell (i := c) (by omega)
          have hf := HRow.out.frozen c
          obtain ⟨t, ht⟩ : ∃ t, s c = t := ⟨_, rfl⟩
          rw [ht] at hx HCT
          clear hin
          cases t
          · have HN : Hid (TkAt W1 (w2.setCell ⟨g, c, none⟩ (.bool true)) g n i 1 s (c : Int) r) := ⟨by omega, by
              have := HRow.out.set (i := c) (by omega) true
              simp only [Int.toNat_natCast]
              exact this, grown_trans HGr.out (grown_set _ _ _), fun _ => HCT.out, fun e => by omega⟩
            clear ht
            go_wp2_with fail
            go_roundw
            case rel => exact ⟨1, by go_num, HN.out⟩
            case measure => simp [intOf]
          · have Hz : Hid _ := HQ1.out HCT.out
            clear ht
            go_wp2_with fail
            go_ret
            rw [Hz.out]
            exact ⟨rfl, HRow.out, grown_trans (grown_some G1.out) HGr.out⟩
      · have HRow : Hid (BRow wr g n (setB s l.toNat)) := by
          show BRow _ _ _ _
          simpa using TK.out.row
        have HGr : Hid (W1.grownBy wr (some g)) := TK.out.gr
        have HA : Hid (canTake i s l = true) := TK.out.a (by omega)
        generalize hs' : setB s l.toNat = s' at *
        have HS' : Hid (setB s l.toNat = s') := hs'
        obtain ⟨o, ho⟩ : ∃ o, ofB r i = o := ⟨_, rfl⟩
        have HO : Hid (ofB r i = o) := ho
        have HC : Hid (∀ W, Calls Try.prog 21 #[.int .i64 r, .int .i64 (i : Int)] W fun e w' => e = .returned (.bool o) ∧ w' = W) := fun W => ho ▸ HOf.out r i W
        have hix := idx2_1 l r wr
        clear ho TK hs'
        go_wp2_with fail
        clear hix
        refine (HC.out _).mono ?_
        rintro E w2 ⟨rfl, rfl⟩
        cases o
        · have Hz : Hid _ := HQ2.out HA.out (canTake_no HO.out)
          go_wp2_with fail
          go_ret
          rw [Hz.out]
          exact ⟨rfl, HRow.out, grown_trans (grown_some G1.out) HGr.out⟩
        · have hin := (ofB_iff _ _).1 HO.out
          obtain ⟨c, rfl⟩ : ∃ c : Nat, r = c := ⟨r.toNat, by omega⟩
          have HCT : Hid (canTake i s' (c : Int) = !s' c) := by
            have := canTake_of (s := s') HO.out
            show _ = _
            simpa using this
          have hci : (c : Int) < (i : Int) := hin.2
          have hx := HRow.out.cell (i := c) (by omega)
          have hf := HRow.out.frozen c
          obtain ⟨t, ht⟩ : ∃ t, s' c = t := ⟨_, rfl⟩
          rw [ht] at hx HCT
          clear hin
          cases t
          · have HN : Hid (TkAt W1 (w2.setCell ⟨g, c, none⟩ (.bool true)) g n i 2 s l (c : Int)) := ⟨by omega, by
              have := HRow.out.set (i := c) (by omega) true
              simp only [Int.toNat_natCast, HS'.out]
              exact this, grown_trans HGr.out (grown_set _ _ _), fun _ => HA.out, fun _ => by rw [HS'.out]; exact HCT.out⟩
            clear ht
            go_wp2_with fail
            go_roundw
            case rel => exact ⟨2, by go_num, HN.out⟩
            case measure => simp [intOf]
          · have Hz : Hid _ := HQ2.out HA.out HCT.out
            clear ht
            go_wp2_with fail
            go_ret
            rw [Hz.out]
            exact ⟨rfl, HRow.out, grown_trans (grown_some G1.out) HGr.out⟩
      · have HRow : Hid (BRow wr g n (setB (setB s l.toNat) r.toNat)) := by
          show BRow _ _ _ _
          simpa using TK.out.row
        have HGr : Hid (W1.grownBy wr (some g)) := TK.out.gr
        have Hz : Hid _ := HQ3.out (TK.out.a (by omega)) (TK.out.b (by omega))
        clear TK
        go_wp2_with fail
        go_ret
        rw [Hz.out]
        exact ⟨rfl, HRow.out, grown_trans (grown_some G1.out) HGr.out⟩

end Go.Proofs.Ytofjmakmbmndoaa
