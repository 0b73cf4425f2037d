/- regular.Det: the least automaton of a text. -/
/- What a text tells, word by word; and that its places tell the same (Glushkov). No program is in it. -/
/- regular.Det where it refuses; and all that it answers. -/
import Derived.Test.YtkkmdcnbifepjaaDoorPCm
import Derived.Test.YtkkmdcnbifepjaaDoorLOfU
import Derived.Test.YtkkmdcnbifepjaaDoorLReach
import Derived.Test.YtkkmdcnbifepjaaDoorHWr
import Derived.Test.YtkkmdcnbifepjaaDoorRdr
import Derived.Test.YtkkmdcnbifepjaaDoorTls
namespace Go.Proofs.YtkkmdcnbifepjaaDoor
open Go.RowKit
set_option linter.unusedVariables false

/-- The sets of places as states. -/
def setNx (m : Rx) (s a : Nat) : Nat := (gluP m).next s a
def setMk (m : Rx) (s : Nat) : Bool := decide (s &&& gluL m ≠ 0)
theorem setNx_lt {m : Rx} (h : nlet m ≤ 10) (s a : Nat) : setNx m s a < 2048 := Pl.next_lt (gluP_ok h) s a

set_option maxHeartbeats 6400000 in
set_option maxRecDepth 100000 in
theorem detE_good (s : ByteArray) (l j : Nat) (m : Rx) (w : World) (hT : Tab32 w) (hp : parseR s = .good m j) (hs : s.size ≤ 4000) (hl1 : 1 ≤ l) (hl : l ≤ 4) (hg : greatL s s.size ≤ l) (hm : manyL s s.size ≤ 10) (hn : nlet m ≤ 10) :
    Calls Tryd.prog 5 #[.int .i64 (l : Int), .string s] w (LeastGPost (setNx m) (setMk m) 2048 l 1024 w) := by
  have hmf : ∀ (fn : Fn) (first cap : Array Value) (w : World), (Instr.makeFunc fn first cap).run Tryd.prog w = .ok (.func fn first cap) w := fun _ _ _ _ => rfl
  obtain ⟨W1, hW1⟩ : ∃ W1, W1 = w.alloc (.cells #[.int .i64 0, .int .i64 0, .slice none 0 0, .slice none 0 0] 25) := ⟨_, rfl⟩
  have HW1 : Hid (W1 = w.alloc (.cells #[.int .i64 0, .int .i64 0, .slice none 0 0, .slice none 0 0] 25)) := hW1
  have hs1 : W1.heap.size = w.heap.size + 1 := by rw [hW1]; simp
  have B1 : Hid (W1.heap[w.heap.size]? = some (.cells #[.int .i64 0, .int .i64 0, .slice none 0 0, .slice none 0 0] 25 (0, 0))) := by show _ = _; rw [hW1]; exact heap_alloc_new w _
  have G1 : Hid (w.grownBy W1 none) := by show World.grownBy _ _ _; rw [hW1]; exact grown_alloc _ _
  have HS1 : Hid (W1.heap.size = w.heap.size + 1) := hs1
  have CP : Hid (Calls Tryd.prog 16 #[.string s] W1 (Parsed W1 (.good m j))) := by have := parse_any s W1 (by unfold maxLen; omega); rw [hp] at this; exact this
  have CL : Hid (∀ W, Calls Tryd.prog 17 #[.string s] W fun E w' => E = .returned (.tuple #[.int .i64 ((manyL s s.size : Nat) : Int), .int .i64 ((greatL s s.size : Nat) - 1 : Int)]) ∧ w' = W) := fun W => lettersOf_any s W hs
  have HT : Hid (∀ W, w.grownBy W none → Tab32 W) := fun W hW => hT.kept hW (by simp)
  have HN : Hid (nlet m ≤ 10) := hn
  obtain ⟨Po, hPo⟩ : ∃ Po, Po = LeastGPost (setNx m) (setMk m) 2048 l 1024 w := ⟨_, rfl⟩
  have HPo : Hid (Po = LeastGPost (setNx m) (setMk m) 2048 l 1024 w) := hPo
  rw [← hPo]
  obtain ⟨G, hG⟩ : ∃ G, greatL s s.size = G := ⟨_, rfl⟩
  obtain ⟨Mn, hMn⟩ : ∃ Mn, manyL s s.size = Mn := ⟨_, rfl⟩
  rw [hG, hMn] at CL
  rw [hG] at hg
  rw [hMn] at hm
  have i1 : ¬ (l : Int) < 1 := by omega
  have i2 : ¬ (4 : Int) < (l : Int) := by omega
  have i3 : ¬ (l : Int) ≤ (G : Int) - 1 := by omega
  have i4 : ¬ (10 : Int) < (Mn : Int) := by omega
  clear hT hp hs hW1 hs1 hn hPo hG hMn hg hm
  go_enter Tryd.func5, Tryd.ntmps5
  go_wp2_with fail
  rw [← HW1.out]
  refine CP.out.mono ?_
  rintro E w2 ⟨hb2, v, rfl, hl2⟩
  have g2 : W1.grownBy w2 none := grown_of_below hb2
  obtain ⟨W3, hW3⟩ : ∃ W3, W3 = w2.alloc (.cells #[.int .i64 0, .int .i64 0] 32) := ⟨_, rfl⟩
  have HW3 : Hid (W3 = w2.alloc (.cells #[.int .i64 0, .int .i64 0] 32)) := hW3
  have g3 : w2.grownBy W3 none := by rw [hW3]; exact grown_alloc _ _
  have L3 : Hid (Lies (fun k => W1.heap.size ≤ k) W3 v m) := hl2.kept fun g hg hlt => ⟨hg, g3.block g hlt (by simp)⟩
  have G3 : Hid (w.grownBy W3 none ∧ W1.grownBy W3 none) := ⟨grown_trans G1.out (grown_trans g2 g3), grown_trans g2 g3⟩
  have CO : Hid (Calls Tryd.prog 18 #[v] W3 (POfPost m W3)) := placesOf_any L3.out (HT.out W3 G3.out.1) HN.out
  clear hb2 hl2 g2 g3 hW3 CP L3
  go_wp2_with fail
  rw [← HW3.out]
  refine (CL.out _).mono ?_
  rintro E w4 ⟨rfl, rfl⟩
  clear HW3
  go_wp2_with fail
  refine CO.out.mono ?_
  rintro E w5 ⟨b, rfl, hb5, hp5, hg5⟩
  have G5 : Hid (w.grownBy w5 none ∧ W1.grownBy w5 none) := ⟨grown_trans G3.out.1 hg5, grown_trans G3.out.2 hg5⟩
  have P5 : Hid (PlAt w5 b (gluP m) (gluL m)) := hp5
  have CF : Hid (Calls Tryd.prog 20 #[.int .i64 (l : Int), .int .u16 ((1024 : Nat) : Int), .func (.func 21) #[.pointer (some ⟨b, 0, none⟩)] #[], .func (.func 22) #[.pointer (some ⟨b, 0, none⟩)] #[]] w5 (OfPost l 1024 2048 (setNx m) (setMk m) w5)) := by
    refine ofU_any l 1024 2048 (setNx m) (setMk m) (.pointer (some ⟨b, 0, none⟩)) (.pointer (some ⟨b, 0, none⟩)) w5 hl1 hl (by omega) (by omega) (fun s a _ _ => setNx_lt HN.out s a) (fun W hW s a hs ha => ?_) (fun W hW s hs => ?_)
    · exact next_any b s a (gluL m) (gluP m) W (P5.out.kept hW) (HT.out W (grown_trans G5.out.1 hW)) hs (by omega) (gluP_ok HN.out)
    · refine (ends_any b s (gluL m) (gluP m) W (P5.out.kept hW) hs (gluL_lt HN.out)).mono ?_
      rintro E w' ⟨rfl, rfl⟩
      exact ⟨rfl, grown_refl _ _⟩
  clear hb5 hp5 hg5 CO P5
  go_wp2_with fail
  refine CF.out.mono ?_
  rintro E w6 ⟨k0, vR, vM, rs, he0, hk0, rfl, hrs, ho6, hg6⟩
  obtain ⟨_, aR, cR, hvR⟩ := ho6.head
  obtain ⟨_, aM, cM, hvM⟩ := ho6.tail.head
  simp only [List.length_map] at hvR
  simp only [vals_len] at hvM
  subst hvR hvM
  have hD : ∀ s a, s < 2048 → a < l → setNx m s a < 2048 := fun s a _ _ => setNx_lt HN.out s a
  have hrl : rs.length = k0 := by
    have h1 : (rs.map (·.2)).length = k0 := by rw [hrs]; simp [resR, he0.len]
    simpa using h1
  have hml : (resM (setMk m) (bfsL id (setNx m) l 1024 k0)).length = k0 := by simp [resM, he0.len]
  have GR : Good (reachD (setNx m) (setMk m) l 1024 k0) := reachD_good hl1 hl (n := 2048) (by omega) hD (by omega) he0 hk0
  have D6 : DetAt w6 (reachD (setNx m) (setMk m) l 1024 k0) aR aM := by
    have h3 := det_of_owns (L := (l : Int)) (S := 0) (its := []) (by rw [List.append_nil]; exact ho6) (fun x hx => by
        have h4 : x.2 ∈ rs.map (·.2) := List.mem_map.2 ⟨x, hx, rfl⟩
        rw [hrs] at h4
        obtain ⟨y, _, hy⟩ := List.mem_map.1 h4
        rw [← hy]; simp [rowR, maxLen]; omega) (by rw [hrl]; unfold maxLen; omega) (by rw [hml]; unfold maxLen; omega)
    rw [hrs] at h3
    exact h3
  have CQ : Hid (Calls Tryd.prog 19 #[.agg #[.int .i64 l, .int .i64 0, .slice aR k0 cR, .slice aM k0 cM]] w6 (LeastGPost (reachD (setNx m) (setMk m) l 1024 k0).nx (reachD (setNx m) (setMk m) l 1024 k0).mk1 k0 l 0 w6)) := by
    have h1 := leastE_good l 0 (resR id (setNx m) l (bfsL id (setNx m) l 1024 k0)) (resM (setMk m) (bfsL id (setNx m) l 1024 k0)) aR aM cR cM w6 D6 GR
    have e1 : (resR id (setNx m) l (bfsL id (setNx m) l 1024 k0)).length = k0 := by simp [resR, he0.len]
    rw [e1, hml] at h1
    exact h1
  have HE0 : Hid (IsEnd (bfsL id (setNx m) l 1024) k0) := he0
  have HD : Hid (∀ s a, s < 2048 → a < l → setNx m s a < 2048) := hD
  have G6 : Hid (w.grownBy w6 none ∧ W1.grownBy w6 none) := ⟨grown_trans G5.out.1 hg6, grown_trans G5.out.2 hg6⟩
  rw [hrl, hml]
  clear he0 hrs ho6 hg6 hrl hml GR D6 CF hD
  go_wp2_with fail
  refine CQ.out.mono ?_
  rintro E w7 ⟨vL, rfl, aR7, cR7, aM7, cM7, rs7, M7, he7, hlo, hn7, hm7, hr7, ho7, hg7⟩
  simp only [Ending.returned.injEq] at he7
  subst he7
  have hlo2 := least_reach HD.out (by omega) HE0.out hlo
  have K7 : w7.heap[w.heap.size]? = some (.cells #[.int .i64 0, .int .i64 0, .slice none 0 0, .slice none 0 0] 25 (0, 0)) := ((grown_trans G6.out.2 hg7).block _ (by rw [HS1.out]; omega) (by simp)).trans B1.out
  obtain ⟨r0, r1, r2, r3, rz⟩ := block_cells K7
  have rz0 := rz 0
  have rz1 := rz 1
  have rz2 := rz 2
  have rz3 := rz 3
  obtain ⟨W9, hW9, hg9, q0, q1, q2, q3⟩ := det_store K7 (.int .i64 (l : Int)) (.int .i64 0) (.slice aR7 rs7.length cR7) (.slice aM7 M7.length cM7)
  have hsz6 : w.heap.size < w6.heap.size := by have h1 := G6.out.2.size; have h2 := HS1.out; omega
  have Fin : Hid (Po (.returned (.tuple #[.agg #[.int .i64 l, .int .i64 0, .slice aR7 rs7.length cR7, .slice aM7 M7.length cM7], .int .i64 0])) W9) := by
    show Po _ _
    rw [HPo.out]
    exact ⟨_, rfl, aR7, cR7, aM7, cM7, rs7, M7, rfl, hlo2, by omega, hm7, hr7, (ho7.below hg9 (by omega)).base (by omega), grown_new (grown_trans G6.out.1 hg7) hg9 (Nat.le_refl _)⟩
  clear hlo hlo2 hn7 hm7 hr7 ho7 hg7 hg9 rz K7 CQ
  generalize rs7.length = nr at *
  generalize M7.length = nm at *
  go_wp2_with fail
  rw [← hW9]
  exact bodyPost_ret (v := .tuple #[.agg #[.int .i64 l, .int .i64 0, .slice aR7 nr cR7, .slice aM7 nm cM7], .int .i64 0]) (by simp [results, Tryd.results5, go_sem, q0, q1, q2, q3]) rfl Fin.out

end Go.Proofs.YtkkmdcnbifepjaaDoor

namespace Go.Proofs.YtkkmdcnbifepjaaDoor
set_option linter.unusedVariables false

/-- Words of a set, one behind the other. -/
def StarW (L : List Nat → Prop) (w : List Nat) : Prop := ∃ ws : List (List Nat), (∀ x, x ∈ ws → L x) ∧ w = ws.flatten
theorem StarW.nil (L : List Nat → Prop) : StarW L [] := ⟨[], fun x h => by simp at h, rfl⟩
theorem StarW.put {L : List Nat → Prop} {u v : List Nat} (h1 : L u) (h2 : StarW L v) : StarW L (u ++ v) := by
  obtain ⟨ws, h, rfl⟩ := h2
  exact ⟨u :: ws, fun x hx => by rcases List.mem_cons.1 hx with rfl | hx; exact h1; exact h x hx, by simp⟩
theorem StarW.one {L : List Nat → Prop} {u : List Nat} (h : L u) : StarW L u := by
  have := h; have h2 := StarW.put h (StarW.nil L); simpa using h2
theorem StarW.app {L : List Nat → Prop} {u v : List Nat} (h1 : StarW L u) (h2 : StarW L v) : StarW L (u ++ v) := by
  obtain ⟨ws, h, rfl⟩ := h1
  obtain ⟨vs, h', rfl⟩ := h2
  exact ⟨ws ++ vs, fun x hx => (List.mem_append.1 hx).elim (h x) (h' x), by simp⟩
theorem StarW.first {L : List Nat → Prop} {c : Nat} {w : List Nat} (h : StarW L (c :: w)) : ∃ x r, w = x ++ r ∧ L (c :: x) ∧ StarW L r := by
  obtain ⟨ws, h, e⟩ := h
  induction ws with
  | nil => simp at e
  | cons y ws ih =>
    cases y with
    | nil => exact ih (fun x hx => h x (by simp [hx])) (by simpa using e)
    | cons d y =>
      simp only [List.flatten_cons, List.cons_append, List.cons.injEq] at e
      obtain ⟨rfl, rfl⟩ := e
      exact ⟨y, ws.flatten, rfl, h _ (by simp), ws, fun x hx => h x (by simp [hx]), rfl⟩
theorem StarW.mono {L L' : List Nat → Prop} (h : ∀ x, L x → L' x) {w : List Nat} (hw : StarW L w) : StarW L' w := by
  obtain ⟨ws, h1, e⟩ := hw
  exact ⟨ws, fun x hx => h x (h1 x hx), e⟩
theorem StarW.again {L : List Nat → Prop} {w : List Nat} (h : StarW (StarW L) w) : StarW L w := by
  obtain ⟨ws, h1, rfl⟩ := h
  induction ws with
  | nil => exact StarW.nil L
  | cons y ws ih => exact StarW.app (h1 y (by simp)) (ih (fun x hx => h1 x (by simp [hx])))

def tells : Rx → List Nat → Prop
  | .none, _ => False
  | .empty, w => w = []
  | .letter c, w => w = [c.toNat]
  | .alt a b, w => tells a w ∨ tells b w
  | .cat a b, w => ∃ u v, w = u ++ v ∧ tells a u ∧ tells b v
  | .star a, w => StarW (tells a) w
theorem tells_star (m : Rx) (w : List Nat) : tells (starS m) w ↔ StarW (tells m) w := by
  cases m with
  | star m => exact ⟨fun h => StarW.one h, fun h => StarW.again h⟩
  | _ => exact Iff.rfl

/-- The places of a text whose first place is k. -/
def emP : Rx → Bool
  | .none => false
  | .empty => true
  | .letter _ => false
  | .alt a b => emP a || emP b
  | .cat a b => emP a && emP b
  | .star _ => true
def fsP : Rx → Nat → Nat → Prop
  | .none, _, _ => False
  | .empty, _, _ => False
  | .letter _, k, j => j = k
  | .alt a b, k, j => fsP a k j ∨ fsP b (k + nlet a) j
  | .cat a b, k, j => fsP a k j ∨ (emP a = true ∧ fsP b (k + nlet a) j)
  | .star a, k, j => fsP a k j
def lsP : Rx → Nat → Nat → Prop
  | .none, _, _ => False
  | .empty, _, _ => False
  | .letter _, k, j => j = k
  | .alt a b, k, j => lsP a k j ∨ lsP b (k + nlet a) j
  | .cat a b, k, j => lsP b (k + nlet a) j ∨ (emP b = true ∧ lsP a k j)
  | .star a, k, j => lsP a k j
def flP : Rx → Nat → Nat → Nat → Prop
  | .none, _, _, _ => False
  | .empty, _, _, _ => False
  | .letter _, _, _, _ => False
  | .alt a b, k, i, j => flP a k i j ∨ flP b (k + nlet a) i j
  | .cat a b, k, i, j => flP a k i j ∨ flP b (k + nlet a) i j ∨ (lsP a k i ∧ fsP b (k + nlet a) j)
  | .star a, k, i, j => flP a k i j ∨ (lsP a k i ∧ fsP a k j)
/-- The letter c stands at the place j. -/
def ltP : Rx → Nat → Nat → Nat → Prop
  | .none, _, _, _ => False
  | .empty, _, _, _ => False
  | .letter c, k, j, l => j = k ∧ l = c.toNat
  | .alt a b, k, j, l => ltP a k j l ∨ ltP b (k + nlet a) j l
  | .cat a b, k, j, l => ltP a k j l ∨ ltP b (k + nlet a) j l
  | .star a, k, j, l => ltP a k j l

theorem fsP_in : ∀ (m : Rx) (k j : Nat), fsP m k j → k ≤ j ∧ j < k + nlet m
  | .none, k, j, h => h.elim
  | .empty, k, j, h => h.elim
  | .letter c, k, j, h => by simp only [fsP] at h; simp only [nlet]; omega
  | .alt a b, k, j, h => by
    simp only [nlet]
    rcases h with h | h
    · have := fsP_in a k j h; omega
    · have := fsP_in b _ j h; omega
  | .cat a b, k, j, h => by
    simp only [nlet]
    rcases h with h | ⟨_, h⟩
    · have := fsP_in a k j h; omega
    · have := fsP_in b _ j h; omega
  | .star a, k, j, h => fsP_in a k j h
theorem lsP_in : ∀ (m : Rx) (k j : Nat), lsP m k j → k ≤ j ∧ j < k + nlet m
  | .none, k, j, h => h.elim
  | .empty, k, j, h => h.elim
  | .letter c, k, j, h => by simp only [lsP] at h; simp only [nlet]; omega
  | .alt a b, k, j, h => by
    simp only [nlet]
    rcases h with h | h
    · have := lsP_in a k j h; omega
    · have := lsP_in b _ j h; omega
  | .cat a b, k, j, h => by
    simp only [nlet]
    rcases h with h | ⟨_, h⟩
    · have := lsP_in b _ j h; omega
    · have := lsP_in a k j h; omega
  | .star a, k, j, h => lsP_in a k j h
theorem flP_in : ∀ (m : Rx) (k i j : Nat), flP m k i j → (k ≤ i ∧ i < k + nlet m) ∧ (k ≤ j ∧ j < k + nlet m)
  | .none, k, i, j, h => h.elim
  | .empty, k, i, j, h => h.elim
  | .letter c, k, i, j, h => h.elim
  | .alt a b, k, i, j, h => by
    simp only [nlet]
    rcases h with h | h
    · have := flP_in a k i j h; omega
    · have := flP_in b _ i j h; omega
  | .cat a b, k, i, j, h => by
    simp only [nlet]
    rcases h with h | h | ⟨h, h'⟩
    · have := flP_in a k i j h; omega
    · have := flP_in b _ i j h; omega
    · have := lsP_in a k i h; have := fsP_in b _ j h'; omega
  | .star a, k, i, j, h => by
    simp only [nlet]
    rcases h with h | ⟨h, h'⟩
    · exact flP_in a k i j h
    · exact ⟨lsP_in a k i h, fsP_in a k j h'⟩
theorem ltP_in : ∀ (m : Rx) (k j l : Nat), ltP m k j l → k ≤ j ∧ j < k + nlet m
  | .none, k, j, l, h => h.elim
  | .empty, k, j, l, h => h.elim
  | .letter c, k, j, l, h => by have := h.1; simp only [nlet]; omega
  | .alt a b, k, j, l, h => by
    simp only [nlet]
    rcases h with h | h
    · have := ltP_in a k j l h; omega
    · have := ltP_in b _ j l h; omega
  | .cat a b, k, j, l, h => by
    simp only [nlet]
    rcases h with h | h
    · have := ltP_in a k j l h; omega
    · have := ltP_in b _ j l h; omega
  | .star a, k, j, l, h => ltP_in a k j l h

/-- Behind the place i the word w can come, and be at an end. -/
def runP (m : Rx) (k : Nat) : Nat → List Nat → Prop
  | i, [] => lsP m k i
  | i, c :: w => ∃ j, flP m k i j ∧ ltP m k j c ∧ runP m k j w
def accP (m : Rx) (k : Nat) : List Nat → Prop
  | [] => emP m = true
  | c :: w => ∃ j, fsP m k j ∧ ltP m k j c ∧ runP m k j w
theorem runP_in (m : Rx) (k : Nat) {i : Nat} {w : List Nat} (h : runP m k i w) : k ≤ i ∧ i < k + nlet m := by
  cases w with
  | nil => exact lsP_in m k i h
  | cons c w => obtain ⟨j, h1, _⟩ := h; exact (flP_in m k i j h1).1

section alt
variable {a b : Rx} {k : Nat}
theorem run_altL : ∀ (w : List Nat) (i : Nat), i < k + nlet a → (runP (.alt a b) k i w ↔ runP a k i w) := by
  intro w
  induction w with
  | nil =>
    intro i hi
    refine ⟨fun h => ?_, fun h => .inl h⟩
    rcases h with h | h
    · exact h
    · have := lsP_in b _ _ h; omega
  | cons c w ih =>
    intro i hi
    constructor
    · rintro ⟨j, h1, h2, h3⟩
      have h4 : flP a k i j := by
        rcases h1 with h1 | h1
        · exact h1
        · have := flP_in b _ _ _ h1; omega
      have hj := (flP_in a _ _ _ h4).2
      refine ⟨j, h4, ?_, (ih j hj.2).1 h3⟩
      rcases h2 with h2 | h2
      · exact h2
      · have := ltP_in b _ _ _ h2; omega
    · rintro ⟨j, h1, h2, h3⟩
      exact ⟨j, .inl h1, .inl h2, (ih j (flP_in a _ _ _ h1).2.2).2 h3⟩
theorem run_altR : ∀ (w : List Nat) (i : Nat), k + nlet a ≤ i → (runP (.alt a b) k i w ↔ runP b (k + nlet a) i w) := by
  intro w
  induction w with
  | nil =>
    intro i hi
    refine ⟨fun h => ?_, fun h => .inr h⟩
    rcases h with h | h
    · have := lsP_in a _ _ h; omega
    · exact h
  | cons c w ih =>
    intro i hi
    constructor
    · rintro ⟨j, h1, h2, h3⟩
      have h4 : flP b (k + nlet a) i j := by
        rcases h1 with h1 | h1
        · have := flP_in a _ _ _ h1; omega
        · exact h1
      have hj := (flP_in b _ _ _ h4).2
      refine ⟨j, h4, ?_, (ih j hj.1).1 h3⟩
      rcases h2 with h2 | h2
      · have := ltP_in a _ _ _ h2; omega
      · exact h2
    · rintro ⟨j, h1, h2, h3⟩
      exact ⟨j, .inr h1, .inr h2, (ih j (flP_in b _ _ _ h1).2.1).2 h3⟩
theorem acc_alt (w : List Nat) : accP (.alt a b) k w ↔ accP a k w ∨ accP b (k + nlet a) w := by
  cases w with
  | nil => simp [accP, emP]
  | cons c w =>
    constructor
    · rintro ⟨j, h1, h2, h3⟩
      rcases h1 with h1 | h1
      · have hj := fsP_in a _ _ h1
        refine .inl ⟨j, h1, ?_, (run_altL w j hj.2).1 h3⟩
        rcases h2 with h2 | h2
        · exact h2
        · have := ltP_in b _ _ _ h2; omega
      · have hj := fsP_in b _ _ h1
        refine .inr ⟨j, h1, ?_, (run_altR w j hj.1).1 h3⟩
        rcases h2 with h2 | h2
        · have := ltP_in a _ _ _ h2; omega
        · exact h2
    · rintro (⟨j, h1, h2, h3⟩ | ⟨j, h1, h2, h3⟩)
      · exact ⟨j, .inl h1, .inl h2, (run_altL w j (fsP_in a _ _ h1).2).2 h3⟩
      · exact ⟨j, .inr h1, .inr h2, (run_altR w j (fsP_in b _ _ h1).1).2 h3⟩
end alt

section cat
variable {a b : Rx} {k : Nat}
theorem run_catR : ∀ (w : List Nat) (i : Nat), k + nlet a ≤ i → (runP (.cat a b) k i w ↔ runP b (k + nlet a) i w) := by
  intro w
  induction w with
  | nil =>
    intro i hi
    refine ⟨fun h => ?_, fun h => .inl h⟩
    rcases h with h | ⟨_, h⟩
    · exact h
    · have := lsP_in a _ _ h; omega
  | cons c w ih =>
    intro i hi
    constructor
    · rintro ⟨j, h1, h2, h3⟩
      have h4 : flP b (k + nlet a) i j := by
        rcases h1 with h1 | h1 | ⟨h1, _⟩
        · have := flP_in a _ _ _ h1; omega
        · exact h1
        · have := lsP_in a _ _ h1; omega
      have hj := (flP_in b _ _ _ h4).2
      refine ⟨j, h4, ?_, (ih j hj.1).1 h3⟩
      rcases h2 with h2 | h2
      · have := ltP_in a _ _ _ h2; omega
      · exact h2
    · rintro ⟨j, h1, h2, h3⟩
      exact ⟨j, .inr (.inl h1), .inr h2, (ih j (flP_in b _ _ _ h1).2.1).2 h3⟩
theorem run_catL : ∀ (w : List Nat) (i : Nat), i < k + nlet a → (runP (.cat a b) k i w ↔ ∃ u v, w = u ++ v ∧ runP a k i u ∧ accP b (k + nlet a) v) := by
  intro w
  induction w with
  | nil =>
    intro i hi
    constructor
    · intro h
      rcases h with h | ⟨h1, h2⟩
      · have := lsP_in b _ _ h; omega
      · exact ⟨[], [], rfl, h2, h1⟩
    · rintro ⟨u, v, e, h1, h2⟩
      obtain ⟨rfl, rfl⟩ := List.append_eq_nil_iff.1 e.symm
      exact .inr ⟨h2, h1⟩
  | cons c w ih =>
    intro i hi
    constructor
    · rintro ⟨j, h1, h2, h3⟩
      rcases h1 with h1 | h1 | ⟨h1, h1'⟩
      · have hj := (flP_in a _ _ _ h1).2
        obtain ⟨u, v, rfl, h5, h6⟩ := (ih j hj.2).1 h3
        refine ⟨c :: u, v, rfl, ⟨j, h1, ?_, h5⟩, h6⟩
        rcases h2 with h2 | h2
        · exact h2
        · have := ltP_in b _ _ _ h2; omega
      · have := flP_in b _ _ _ h1; omega
      · have hj := fsP_in b _ _ h1'
        refine ⟨[], c :: w, rfl, h1, j, h1', ?_, (run_catR w j hj.1).1 h3⟩
        rcases h2 with h2 | h2
        · have := ltP_in a _ _ _ h2; omega
        · exact h2
    · rintro ⟨u, v, e, h1, h2⟩
      cases u with
      | nil =>
        simp only [List.nil_append] at e
        subst e
        obtain ⟨j, h3, h4, h5⟩ := h2
        exact ⟨j, .inr (.inr ⟨h1, h3⟩), .inr h4, (run_catR w j (fsP_in b _ _ h3).1).2 h5⟩
      | cons d u =>
        simp only [List.cons_append, List.cons.injEq] at e
        obtain ⟨rfl, rfl⟩ := e
        obtain ⟨j, h3, h4, h5⟩ := h1
        exact ⟨j, .inl h3, .inl h4, (ih j (flP_in a _ _ _ h3).2.2).2 ⟨u, v, rfl, h5, h2⟩⟩
theorem acc_cat (w : List Nat) : accP (.cat a b) k w ↔ ∃ u v, w = u ++ v ∧ accP a k u ∧ accP b (k + nlet a) v := by
  cases w with
  | nil =>
    constructor
    · intro h
      simp only [accP, emP, Bool.and_eq_true] at h
      exact ⟨[], [], rfl, h.1, h.2⟩
    · rintro ⟨u, v, e, h1, h2⟩
      obtain ⟨rfl, rfl⟩ := List.append_eq_nil_iff.1 e.symm
      simp only [accP, emP, Bool.and_eq_true] at h1 h2 ⊢
      exact ⟨h1, h2⟩
  | cons c w =>
    constructor
    · rintro ⟨j, h1, h2, h3⟩
      rcases h1 with h1 | ⟨h0, h1⟩
      · have hj := fsP_in a _ _ h1
        obtain ⟨u, v, rfl, h5, h6⟩ := (run_catL w j hj.2).1 h3
        refine ⟨c :: u, v, rfl, ⟨j, h1, ?_, h5⟩, h6⟩
        rcases h2 with h2 | h2
        · exact h2
        · have := ltP_in b _ _ _ h2; omega
      · have hj := fsP_in b _ _ h1
        refine ⟨[], c :: w, rfl, h0, j, h1, ?_, (run_catR w j hj.1).1 h3⟩
        rcases h2 with h2 | h2
        · have := ltP_in a _ _ _ h2; omega
        · exact h2
    · rintro ⟨u, v, e, h1, h2⟩
      cases u with
      | nil =>
        simp only [List.nil_append] at e
        subst e
        obtain ⟨j, h3, h4, h5⟩ := h2
        exact ⟨j, .inr ⟨h1, h3⟩, .inr h4, (run_catR w j (fsP_in b _ _ h3).1).2 h5⟩
      | cons d u =>
        simp only [List.cons_append, List.cons.injEq] at e
        obtain ⟨rfl, rfl⟩ := e
        obtain ⟨j, h3, h4, h5⟩ := h1
        exact ⟨j, .inl h3, .inl h4, (run_catL _ j (fsP_in a _ _ h3).2).2 ⟨u, v, rfl, h5, h2⟩⟩
end cat

section star
variable {a : Rx} {k : Nat}
theorem run_star : ∀ (w : List Nat) (i : Nat), (runP (.star a) k i w ↔ ∃ u v, w = u ++ v ∧ runP a k i u ∧ StarW (accP a k) v) := by
  intro w
  induction w with
  | nil =>
    intro i
    constructor
    · intro h
      exact ⟨[], [], rfl, h, StarW.nil _⟩
    · rintro ⟨u, v, e, h1, h2⟩
      obtain ⟨rfl, rfl⟩ := List.append_eq_nil_iff.1 e.symm
      exact h1
  | cons c w ih =>
    intro i
    constructor
    · rintro ⟨j, h1, h2, h3⟩
      obtain ⟨u, v, rfl, h5, h6⟩ := (ih j).1 h3
      rcases h1 with h1 | ⟨h1, h1'⟩
      · exact ⟨c :: u, v, rfl, ⟨j, h1, h2, h5⟩, h6⟩
      · exact ⟨[], c :: (u ++ v), rfl, h1, StarW.put (u := c :: u) ⟨j, h1', h2, h5⟩ h6⟩
    · rintro ⟨u, v, e, h1, h2⟩
      cases u with
      | nil =>
        simp only [List.nil_append] at e
        subst e
        obtain ⟨x, r, rfl, ⟨j, h3, h4, h5⟩, h6⟩ := h2.first
        exact ⟨j, .inr ⟨h1, h3⟩, h4, (ih j).2 ⟨x, r, rfl, h5, h6⟩⟩
      | cons d u =>
        simp only [List.cons_append, List.cons.injEq] at e
        obtain ⟨rfl, rfl⟩ := e
        obtain ⟨j, h3, h4, h5⟩ := h1
        exact ⟨j, .inl h3, h4, (ih j).2 ⟨u, v, rfl, h5, h2⟩⟩
theorem acc_star (w : List Nat) : accP (.star a) k w ↔ StarW (accP a k) w := by
  cases w with
  | nil => exact ⟨fun _ => StarW.nil _, fun _ => rfl⟩
  | cons c w =>
    constructor
    · rintro ⟨j, h1, h2, h3⟩
      obtain ⟨u, v, rfl, h5, h6⟩ := (run_star w j).1 h3
      exact StarW.put (u := c :: u) ⟨j, h1, h2, h5⟩ h6
    · intro h
      obtain ⟨x, r, rfl, ⟨j, h3, h4, h5⟩, h6⟩ := h.first
      exact ⟨j, h3, h4, (run_star _ j).2 ⟨x, r, rfl, h5, h6⟩⟩
end star

/-- Glushkov: the places tell what the text tells. -/
theorem acc_tells : ∀ (m : Rx) (k : Nat) (w : List Nat), accP m k w ↔ tells m w
  | .none, k, w => by cases w with
    | nil => simp [accP, emP, tells]
    | cons c w => exact ⟨fun ⟨j, h, _⟩ => h.elim, fun h => h.elim⟩
  | .empty, k, w => by cases w with
    | nil => simp [accP, emP, tells]
    | cons c w => exact ⟨fun ⟨j, h, _⟩ => h.elim, fun h => by simp [tells] at h⟩
  | .letter c, k, w => by
    cases w with
    | nil => simp [accP, emP, tells]
    | cons d w =>
      constructor
      · rintro ⟨j, h1, h2, h3⟩
        obtain ⟨_, rfl⟩ := h2
        cases w with
        | nil => rfl
        | cons e w => obtain ⟨_, h, _⟩ := h3; exact h.elim
      · intro h
        simp only [tells, List.cons.injEq] at h
        obtain ⟨rfl, rfl⟩ := h
        exact ⟨k, rfl, ⟨rfl, rfl⟩, rfl⟩
  | .alt a b, k, w => by rw [acc_alt, acc_tells a k w, acc_tells b _ w]; rfl
  | .cat a b, k, w => by
    rw [acc_cat]
    constructor
    · rintro ⟨u, v, rfl, h1, h2⟩
      exact ⟨u, v, rfl, (acc_tells a k u).1 h1, (acc_tells b _ v).1 h2⟩
    · rintro ⟨u, v, rfl, h1, h2⟩
      exact ⟨u, v, rfl, (acc_tells a k u).2 h1, (acc_tells b _ v).2 h2⟩
  | .star a, k, w => by
    rw [acc_star]
    exact ⟨StarW.mono fun x h => (acc_tells a k x).1 h, StarW.mono fun x h => (acc_tells a k x).2 h⟩

/-- What is gathered in bits is just that. -/
structure GluIs (m : Rx) (p : Pl) : Prop where
  em : (glu m p).1.empty = emP m
  fs : ∀ j, (glu m p).1.first.testBit j = true ↔ fsP m p.many j
  ls : ∀ j, (glu m p).1.last.testBit j = true ↔ lsP m p.many j
  fl : ∀ i j, ((glu m p).2.behind i).testBit j = true ↔ (p.behind i).testBit j = true ∨ flP m p.many i j
  lt : ∀ l j, ((glu m p).2.of l).testBit j = true ↔ (p.of l).testBit j = true ∨ ltP m p.many j l
  mn : (glu m p).2.many = p.many + nlet m
theorem follow_bit (p : Pl) (s t i j : Nat) : ((p.follow s t).behind i).testBit j = true ↔ (p.behind i).testBit j = true ∨ (s.testBit i = true ∧ t.testBit j = true) := by
  show (if s.testBit i = true then p.behind i ||| t else p.behind i).testBit j = true ↔ _
  by_cases h : s.testBit i = true
  · rw [if_pos h, Nat.testBit_or]; simp [h]
  · rw [if_neg h]; simp [h]
theorem glu_is : ∀ (m : Rx) (p : Pl), GluIs m p
  | .none, p => ⟨rfl, fun j => by simp [glu, fsP], fun j => by simp [glu, lsP], fun i j => by simp [glu, flP], fun l j => by simp [glu, ltP], rfl⟩
  | .empty, p => ⟨rfl, fun j => by simp [glu, fsP], fun j => by simp [glu, lsP], fun i j => by simp [glu, flP], fun l j => by simp [glu, ltP], rfl⟩
  | .letter c, p => by
    refine ⟨rfl, fun j => ?_, fun j => ?_, fun i j => by simp [glu, flP], fun l j => ?_, rfl⟩
    · simp only [glu, fsP, Nat.testBit_two_pow, decide_eq_true_eq]; exact eq_comm
    · simp only [glu, lsP, Nat.testBit_two_pow, decide_eq_true_eq]; exact eq_comm
    · show (if l = c.toNat then p.of l ||| 2 ^ p.many else p.of l).testBit j = true ↔ _
      by_cases h : l = c.toNat
      · rw [if_pos h, Nat.testBit_or, Nat.testBit_two_pow]
        simp only [Bool.or_eq_true, decide_eq_true_eq, ltP]
        exact or_congr Iff.rfl ⟨fun e => ⟨e.symm, h⟩, fun e => e.1.symm⟩
      · rw [if_neg h]; simp [ltP, h]
  | .alt a b, p => by
    have ha := glu_is a p
    have hb := glu_is b (glu a p).2
    have e := ha.mn
    refine ⟨?_, fun j => ?_, fun j => ?_, fun i j => ?_, fun l j => ?_, ?_⟩
    · simp only [glu, altR, emP, ha.em, hb.em]
    · simp only [glu, altR, Nat.testBit_or, Bool.or_eq_true, fsP]; rw [ha.fs, hb.fs, e]
    · simp only [glu, altR, Nat.testBit_or, Bool.or_eq_true, lsP]; rw [ha.ls, hb.ls, e]
    · simp only [glu, flP]; rw [hb.fl, ha.fl, e, or_assoc]
    · simp only [glu, ltP]; rw [hb.lt, ha.lt, e, or_assoc]
    · simp only [glu, nlet]; rw [hb.mn, e]; omega
  | .cat a b, p => by
    have ha := glu_is a p
    have hb := glu_is b (glu a p).2
    have e := ha.mn
    refine ⟨?_, fun j => ?_, fun j => ?_, fun i j => ?_, fun l j => ?_, ?_⟩
    · simp only [glu, catR, emP, ha.em, hb.em]
    · simp only [glu, catR, fsP, ha.em]
      cases h : emP a with
      | true => rw [if_pos rfl, Nat.testBit_or, Bool.or_eq_true, ha.fs, hb.fs, e]; simp
      | false => rw [if_neg (by simp), ha.fs]; simp
    · simp only [glu, catR, lsP, hb.em]
      cases h : emP b with
      | true => rw [if_pos rfl, Nat.testBit_or, Bool.or_eq_true, ha.ls, hb.ls, e]; simp [or_comm]
      | false => rw [if_neg (by simp), hb.ls, e]; simp
    · simp only [glu, flP]
      rw [follow_bit, hb.fl, ha.fl, e, ha.ls, hb.fs, e]
      simp only [or_assoc]
    · show ((glu b (glu a p).2).2.of l).testBit j = true ↔ _
      simp only [ltP]; rw [hb.lt, ha.lt, e, or_assoc]
    · show (glu b (glu a p).2).2.many = _
      simp only [nlet]; rw [hb.mn, e]; omega
  | .star a, p => by
    have ha := glu_is a p
    refine ⟨rfl, fun j => ha.fs j, fun j => ha.ls j, fun i j => ?_, fun l j => ha.lt l j, ha.mn⟩
    simp only [glu, flP]
    rw [follow_bit, ha.fl, ha.ls, ha.fs, or_assoc]

/-- From a set of places a word leads to an end. -/
def leadsP (m : Rx) (i : Nat) (w : List Nat) : Prop := if i = 10 then accP m 0 w else runP m 0 i w
theorem next_bit (m : Rx) (s l j : Nat) : (setNx m s l).testBit j = true ↔ ∃ i, i < 11 ∧ s.testBit i = true ∧ (flP m 0 i j ∨ (i = 10 ∧ fsP m 0 j)) ∧ ltP m 0 j l := by
  have hg := glu_is m pl0
  show (uni (gluP m).behind s 11 &&& (gluP m).of l).testBit j = true ↔ _
  rw [Nat.testBit_and, Bool.and_eq_true, uni_bit]
  have ho : ((gluP m).of l).testBit j = true ↔ ltP m 0 j l := by
    show ((glu m pl0).2.of l).testBit j = true ↔ _
    rw [hg.lt]; simp [pl0]
  have hf : ∀ i, ((gluP m).behind i).testBit j = true ↔ flP m 0 i j ∨ (i = 10 ∧ fsP m 0 j) := fun i => by
    show (((glu m pl0).2.follow 1024 (glu m pl0).1.first).behind i).testBit j = true ↔ _
    rw [follow_bit, hg.fl, hg.fs]
    have e : (1024 : Nat).testBit i = true ↔ i = 10 := by
      rw [show (1024 : Nat) = 2 ^ 10 from rfl, Nat.testBit_two_pow, decide_eq_true_eq]; exact eq_comm
    rw [e]; simp [pl0]
  rw [ho]
  constructor
  · rintro ⟨⟨i, h1, h2, h3⟩, h4⟩
    exact ⟨i, h1, h2, (hf i).1 h3, h4⟩
  · rintro ⟨i, h1, h2, h3, h4⟩
    exact ⟨⟨i, h1, h2, (hf i).2 h3⟩, h4⟩
theorem last_bit (m : Rx) (i : Nat) : (gluL m).testBit i = true ↔ lsP m 0 i ∨ (i = 10 ∧ emP m = true) := by
  have hg := glu_is m pl0
  have e : (1024 : Nat).testBit i = true ↔ i = 10 := by
    rw [show (1024 : Nat) = 2 ^ 10 from rfl, Nat.testBit_two_pow, decide_eq_true_eq]; exact eq_comm
  have h0 : lsP m pl0.many i ↔ lsP m 0 i := Iff.rfl
  unfold gluL
  rw [hg.em]
  cases h : emP m with
  | true => rw [if_pos rfl, Nat.testBit_or, Bool.or_eq_true, hg.ls, e]; simp [h0]
  | false => rw [if_neg (by simp), hg.ls]; simp [h0]
theorem and_ne {a b : Nat} : a &&& b ≠ 0 ↔ ∃ i, a.testBit i = true ∧ b.testBit i = true := by
  constructor
  · intro h
    obtain ⟨i, hi⟩ := Nat.exists_testBit_of_ne_zero h
    rw [Nat.testBit_and, Bool.and_eq_true] at hi
    exact ⟨i, hi⟩
  · rintro ⟨i, h1, h2⟩ h
    have : (a &&& b).testBit i = true := by rw [Nat.testBit_and, h1, h2]; rfl
    rw [h] at this
    simp at this
theorem set_leads {m : Rx} (hn : nlet m ≤ 10) : ∀ (w : List Nat) (s : Nat), s < 2048 → (setMk m (w.foldl (setNx m) s) = true ↔ ∃ i, i < 11 ∧ s.testBit i = true ∧ leadsP m i w) := by
  intro w
  induction w with
  | nil =>
    intro s hs
    have e0 : setMk m s = true ↔ s &&& gluL m ≠ 0 := decide_eq_true_iff
    rw [List.foldl_nil, e0, and_ne]
    constructor
    · rintro ⟨i, h1, h2⟩
      have hi : i < 11 := by
        rcases Nat.lt_or_ge i 11 with h | h
        · exact h
        · rw [Nat.testBit_lt_two_pow (Nat.lt_of_lt_of_le hs (Nat.pow_le_pow_right (by omega) h : 2 ^ 11 ≤ 2 ^ i))] at h1
          cases h1
      refine ⟨i, hi, h1, ?_⟩
      unfold leadsP
      rcases (last_bit m i).1 h2 with h | ⟨e, h⟩
      · have := lsP_in m 0 i h
        rw [if_neg (by omega)]; exact h
      · rw [if_pos e]; exact h
    · rintro ⟨i, hi, h1, h2⟩
      refine ⟨i, h1, (last_bit m i).2 ?_⟩
      unfold leadsP at h2
      split at h2
      · next e => exact .inr ⟨e, h2⟩
      · exact .inl h2
  | cons c w ih =>
    intro s hs
    rw [List.foldl_cons, ih _ (setNx_lt hn s c)]
    constructor
    · rintro ⟨j, hj, h1, h2⟩
      obtain ⟨i, hi, h3, h4, h5⟩ := (next_bit m s c j).1 h1
      have hjl := ltP_in m 0 j c h5
      unfold leadsP at h2
      rw [if_neg (by omega)] at h2
      refine ⟨i, hi, h3, ?_⟩
      unfold leadsP
      rcases h4 with h4 | ⟨e, h4⟩
      · have := flP_in m 0 i j h4
        rw [if_neg (by omega)]
        exact ⟨j, h4, h5, h2⟩
      · rw [if_pos e]
        exact ⟨j, h4, h5, h2⟩
    · rintro ⟨i, hi, h1, h2⟩
      unfold leadsP at h2
      split at h2
      · next e =>
        obtain ⟨j, h3, h4, h5⟩ := h2
        have := ltP_in m 0 j c h4
        refine ⟨j, by omega, (next_bit m s c j).2 ⟨i, hi, h1, .inr ⟨e, h3⟩, h4⟩, ?_⟩
        unfold leadsP
        rw [if_neg (by omega)]; exact h5
      · obtain ⟨j, h3, h4, h5⟩ := h2
        have := ltP_in m 0 j c h4
        refine ⟨j, by omega, (next_bit m s c j).2 ⟨i, hi, h1, .inl h3, h4⟩, ?_⟩
        unfold leadsP
        rw [if_neg (by omega)]; exact h5
/-- The sets of places accept just the words that the text tells. -/
theorem set_tells {m : Rx} (hn : nlet m ≤ 10) (w : List Nat) : setMk m (w.foldl (setNx m) 1024) = true ↔ tells m w := by
  rw [set_leads hn w 1024 (by omega)]
  constructor
  · rintro ⟨i, hi, h1, h2⟩
    have e : i = 10 := by
      rw [show (1024 : Nat) = 2 ^ 10 from rfl, Nat.testBit_two_pow, decide_eq_true_eq] at h1; omega
    unfold leadsP at h2
    rw [if_pos e] at h2
    exact (acc_tells m 0 w).1 h2
  · intro h
    exact ⟨10, by omega, by decide, by unfold leadsP; rw [if_pos rfl]; exact (acc_tells m 0 w).2 h⟩

end Go.Proofs.YtkkmdcnbifepjaaDoor

namespace Go.Proofs.YtkkmdcnbifepjaaDoor
open Go.RowKit
set_option linter.unusedVariables false

/-- What regular.Det refuses. -/
def detC (L : Int) (s : ByteArray) : Int :=
  match parseR s with
  | .bad _ _ => 4
  | .good _ _ => if L < 1 ∨ 4 < L ∨ L ≤ (greatL s s.size : Int) - 1 then 2 else if 10 < manyL s s.size then 7 else 0

set_option maxHeartbeats 1600000 in
set_option maxRecDepth 100000 in
theorem detE_syntax (s : ByteArray) (L c : Int) (j : Nat) (w : World) (hm : s.size ≤ maxLen) (hp : parseR s = .bad c j) : Calls Tryd.prog 5 #[.int .i64 L, .string s] w (Says (.tuple #[.agg #[.int .i64 0, .int .i64 0, .slice none 0 0, .slice none 0 0], .int .i64 4]) w) := by
  obtain ⟨W1, hW1⟩ : ∃ W1, W1 = w.alloc (.cells #[.int .i64 0, .int .i64 0, .slice none 0 0, .slice none 0 0] 25) := ⟨_, rfl⟩
  have HW1 : Hid (W1 = w.alloc (.cells #[.int .i64 0, .int .i64 0, .slice none 0 0, .slice none 0 0] 25)) := hW1
  have G1 : Hid (w.grownBy W1 none) := by show World.grownBy _ _ _; rw [hW1]; exact grown_alloc _ _
  have BK : Hid (∀ W, W1.grownBy W none → W.heap[w.heap.size]? = some (.cells #[.int .i64 0, .int .i64 0, .slice none 0 0, .slice none 0 0] 25 (0, 0))) := fun W hW => (hW.block _ (by rw [hW1]; simp) (by simp)).trans (by rw [hW1]; exact heap_alloc_new w _)
  have CP : Hid (Calls Tryd.prog 16 #[.string s] W1 (Parsed W1 (.bad c j))) := by have := parse_any s W1 hm; rw [hp] at this; exact this
  have f1 : (c != 0) = true := by simpa using parseR_nz hp
  clear hp hW1
  go_enter Tryd.func5, Tryd.ntmps5
  go_wp2_with fail
  rw [← HW1.out]
  refine CP.out.mono ?_
  rintro E w2 ⟨hb2, rfl⟩
  have g2 : W1.grownBy w2 none := grown_of_below hb2
  obtain ⟨W3, hW3⟩ : ∃ W3, W3 = w2.alloc (.cells #[.int .i64 c, .int .i64 (j : Int)] 32) := ⟨_, rfl⟩
  have HW3 : Hid (W3 = w2.alloc (.cells #[.int .i64 c, .int .i64 (j : Int)] 32)) := hW3
  have G9W : Hid (W1.grownBy W3 none) := by show World.grownBy _ _ _; rw [hW3]; exact grown_trans g2 (grown_alloc _ _)
  have k3 := heap_alloc_new w2 (.cells #[.int .i64 c, .int .i64 (j : Int)] 32)
  have z0 : (w2.alloc (.cells #[.int .i64 c, .int .i64 (j : Int)] 32)).cell? ⟨w2.heap.size, 0, none⟩ = some (.int .i64 c) := by rw [cell_of_row _ _ 0 _ _ (0, 0) k3]; rfl
  clear hb2 g2 k3 CP
  have K9 : W3.heap[w.heap.size]? = some (.cells #[.int .i64 0, .int .i64 0, .slice none 0 0, .slice none 0 0] 25 (0, 0)) := BK.out _ G9W.out
  obtain ⟨r0, r1, r2, r3, rz⟩ := block_cells K9
  have rz0 := rz 0
  have rz1 := rz 1
  have rz2 := rz 2
  have rz3 := rz 3
  obtain ⟨W9, hW9, hg9, q0, q1, q2, q3⟩ := det_store K9 (.int .i64 0) (.int .i64 0) (.slice none 0 0) (.slice none 0 0)
  have G9 : Hid (w.grownBy W9 none) := grown_new (grown_trans G1.out G9W.out) hg9 (Nat.le_refl _)
  clear K9 rz hg9
  rw [hW3] at r0 r1 r2 r3 rz0 rz1 rz2 rz3 hW9
  go_wp2_with fail
  rw [← hW9]
  exact bodyPost_ret (v := .tuple #[.agg #[.int .i64 0, .int .i64 0, .slice none 0 0, .slice none 0 0], .int .i64 4]) (by simp [results, Tryd.results5, go_sem, q0, q1, q2, q3]) rfl ⟨rfl, G9.out⟩

set_option maxHeartbeats 1600000 in
set_option maxRecDepth 100000 in
theorem detE_range1 (s : ByteArray) (L : Int) (j : Nat) (m : Rx) (w : World) (hp : parseR s = .good m j) (h1 : L < 1) : Calls Tryd.prog 5 #[.int .i64 L, .string s] w (Says (.tuple #[.agg #[.int .i64 0, .int .i64 0, .slice none 0 0, .slice none 0 0], .int .i64 2]) w) := by
  obtain ⟨W1, hW1⟩ : ∃ W1, W1 = w.alloc (.cells #[.int .i64 0, .int .i64 0, .slice none 0 0, .slice none 0 0] 25) := ⟨_, rfl⟩
  have HW1 : Hid (W1 = w.alloc (.cells #[.int .i64 0, .int .i64 0, .slice none 0 0, .slice none 0 0] 25)) := hW1
  have G1 : Hid (w.grownBy W1 none) := by show World.grownBy _ _ _; rw [hW1]; exact grown_alloc _ _
  have BK : Hid (∀ W, W1.grownBy W none → W.heap[w.heap.size]? = some (.cells #[.int .i64 0, .int .i64 0, .slice none 0 0, .slice none 0 0] 25 (0, 0))) := fun W hW => (hW.block _ (by rw [hW1]; simp) (by simp)).trans (by rw [hW1]; exact heap_alloc_new w _)
  have hs : s.size ≤ 4000 := (parse_end hp).1
  have CP : Hid (Calls Tryd.prog 16 #[.string s] W1 (Parsed W1 (.good m j))) := by have := parse_any s W1 (by unfold maxLen; omega); rw [hp] at this; exact this
  have CL : Hid (∀ W, Calls Tryd.prog 17 #[.string s] W fun E w' => E = .returned (.tuple #[.int .i64 ((manyL s s.size : Nat) : Int), .int .i64 ((greatL s s.size : Nat) - 1 : Int)]) ∧ w' = W) := fun W => lettersOf_any s W hs
  obtain ⟨G, hG⟩ : ∃ G, greatL s s.size = G := ⟨_, rfl⟩
  obtain ⟨Mn, hMn⟩ : ∃ Mn, manyL s s.size = Mn := ⟨_, rfl⟩
  rw [hG, hMn] at CL
  have i1 : decide (L < 1) = true := by simpa using h1
  clear hp hW1 hs hG hMn
  go_enter Tryd.func5, Tryd.ntmps5
  go_wp2_with fail
  rw [← HW1.out]
  refine CP.out.mono ?_
  rintro E w2 ⟨hb2, v, rfl, hl2⟩
  have g2 : W1.grownBy w2 none := grown_of_below hb2
  obtain ⟨W3, hW3⟩ : ∃ W3, W3 = w2.alloc (.cells #[.int .i64 0, .int .i64 0] 32) := ⟨_, rfl⟩
  have HW3 : Hid (W3 = w2.alloc (.cells #[.int .i64 0, .int .i64 0] 32)) := hW3
  have G9W : Hid (W1.grownBy W3 none) := by show World.grownBy _ _ _; rw [hW3]; exact grown_trans g2 (grown_alloc _ _)
  clear hb2 hl2 g2 hW3 CP
  go_wp2_with fail
  rw [← HW3.out]
  refine (CL.out _).mono ?_
  rintro E w4 ⟨rfl, rfl⟩
  clear HW3
  have K9 : w4.heap[w.heap.size]? = some (.cells #[.int .i64 0, .int .i64 0, .slice none 0 0, .slice none 0 0] 25 (0, 0)) := BK.out _ G9W.out
  obtain ⟨r0, r1, r2, r3, rz⟩ := block_cells K9
  have rz0 := rz 0
  have rz1 := rz 1
  have rz2 := rz 2
  have rz3 := rz 3
  obtain ⟨W9, hW9, hg9, q0, q1, q2, q3⟩ := det_store K9 (.int .i64 0) (.int .i64 0) (.slice none 0 0) (.slice none 0 0)
  have G9 : Hid (w.grownBy W9 none) := grown_new (grown_trans G1.out G9W.out) hg9 (Nat.le_refl _)
  clear K9 rz hg9
  go_wp2_with fail
  rw [← hW9]
  exact bodyPost_ret (v := .tuple #[.agg #[.int .i64 0, .int .i64 0, .slice none 0 0, .slice none 0 0], .int .i64 2]) (by simp [results, Tryd.results5, go_sem, q0, q1, q2, q3]) rfl ⟨rfl, G9.out⟩

set_option maxHeartbeats 1600000 in
set_option maxRecDepth 100000 in
theorem detE_range2 (s : ByteArray) (L : Int) (j : Nat) (m : Rx) (w : World) (hp : parseR s = .good m j) (h1 : ¬ L < 1) (h2 : 4 < L) : Calls Tryd.prog 5 #[.int .i64 L, .string s] w (Says (.tuple #[.agg #[.int .i64 0, .int .i64 0, .slice none 0 0, .slice none 0 0], .int .i64 2]) w) := by
  obtain ⟨W1, hW1⟩ : ∃ W1, W1 = w.alloc (.cells #[.int .i64 0, .int .i64 0, .slice none 0 0, .slice none 0 0] 25) := ⟨_, rfl⟩
  have HW1 : Hid (W1 = w.alloc (.cells #[.int .i64 0, .int .i64 0, .slice none 0 0, .slice none 0 0] 25)) := hW1
  have G1 : Hid (w.grownBy W1 none) := by show World.grownBy _ _ _; rw [hW1]; exact grown_alloc _ _
  have BK : Hid (∀ W, W1.grownBy W none → W.heap[w.heap.size]? = some (.cells #[.int .i64 0, .int .i64 0, .slice none 0 0, .slice none 0 0] 25 (0, 0))) := fun W hW => (hW.block _ (by rw [hW1]; simp) (by simp)).trans (by rw [hW1]; exact heap_alloc_new w _)
  have hs : s.size ≤ 4000 := (parse_end hp).1
  have CP : Hid (Calls Tryd.prog 16 #[.string s] W1 (Parsed W1 (.good m j))) := by have := parse_any s W1 (by unfold maxLen; omega); rw [hp] at this; exact this
  have CL : Hid (∀ W, Calls Tryd.prog 17 #[.string s] W fun E w' => E = .returned (.tuple #[.int .i64 ((manyL s s.size : Nat) : Int), .int .i64 ((greatL s s.size : Nat) - 1 : Int)]) ∧ w' = W) := fun W => lettersOf_any s W hs
  obtain ⟨G, hG⟩ : ∃ G, greatL s s.size = G := ⟨_, rfl⟩
  obtain ⟨Mn, hMn⟩ : ∃ Mn, manyL s s.size = Mn := ⟨_, rfl⟩
  rw [hG, hMn] at CL
  have i1 : decide (L < 1) = false := by simpa using h1
  have i2 : decide (4 < L) = true := by simpa using h2
  clear hp hW1 hs hG hMn
  go_enter Tryd.func5, Tryd.ntmps5
  go_wp2_with fail
  rw [← HW1.out]
  refine CP.out.mono ?_
  rintro E w2 ⟨hb2, v, rfl, hl2⟩
  have g2 : W1.grownBy w2 none := grown_of_below hb2
  obtain ⟨W3, hW3⟩ : ∃ W3, W3 = w2.alloc (.cells #[.int .i64 0, .int .i64 0] 32) := ⟨_, rfl⟩
  have HW3 : Hid (W3 = w2.alloc (.cells #[.int .i64 0, .int .i64 0] 32)) := hW3
  have G9W : Hid (W1.grownBy W3 none) := by show World.grownBy _ _ _; rw [hW3]; exact grown_trans g2 (grown_alloc _ _)
  clear hb2 hl2 g2 hW3 CP
  go_wp2_with fail
  rw [← HW3.out]
  refine (CL.out _).mono ?_
  rintro E w4 ⟨rfl, rfl⟩
  clear HW3
  have K9 : w4.heap[w.heap.size]? = some (.cells #[.int .i64 0, .int .i64 0, .slice none 0 0, .slice none 0 0] 25 (0, 0)) := BK.out _ G9W.out
  obtain ⟨r0, r1, r2, r3, rz⟩ := block_cells K9
  have rz0 := rz 0
  have rz1 := rz 1
  have rz2 := rz 2
  have rz3 := rz 3
  obtain ⟨W9, hW9, hg9, q0, q1, q2, q3⟩ := det_store K9 (.int .i64 0) (.int .i64 0) (.slice none 0 0) (.slice none 0 0)
  have G9 : Hid (w.grownBy W9 none) := grown_new (grown_trans G1.out G9W.out) hg9 (Nat.le_refl _)
  clear K9 rz hg9
  go_wp2_with fail
  rw [← hW9]
  exact bodyPost_ret (v := .tuple #[.agg #[.int .i64 0, .int .i64 0, .slice none 0 0, .slice none 0 0], .int .i64 2]) (by simp [results, Tryd.results5, go_sem, q0, q1, q2, q3]) rfl ⟨rfl, G9.out⟩

set_option maxHeartbeats 1600000 in
set_option maxRecDepth 100000 in
theorem detE_range3 (s : ByteArray) (L : Int) (j : Nat) (m : Rx) (w : World) (hp : parseR s = .good m j) (h1 : ¬ L < 1) (h2 : ¬ 4 < L) (h3 : L ≤ (greatL s s.size : Int) - 1) : Calls Tryd.prog 5 #[.int .i64 L, .string s] w (Says (.tuple #[.agg #[.int .i64 0, .int .i64 0, .slice none 0 0, .slice none 0 0], .int .i64 2]) w) := by
  obtain ⟨W1, hW1⟩ : ∃ W1, W1 = w.alloc (.cells #[.int .i64 0, .int .i64 0, .slice none 0 0, .slice none 0 0] 25) := ⟨_, rfl⟩
  have HW1 : Hid (W1 = w.alloc (.cells #[.int .i64 0, .int .i64 0, .slice none 0 0, .slice none 0 0] 25)) := hW1
  have G1 : Hid (w.grownBy W1 none) := by show World.grownBy _ _ _; rw [hW1]; exact grown_alloc _ _
  have BK : Hid (∀ W, W1.grownBy W none → W.heap[w.heap.size]? = some (.cells #[.int .i64 0, .int .i64 0, .slice none 0 0, .slice none 0 0] 25 (0, 0))) := fun W hW => (hW.block _ (by rw [hW1]; simp) (by simp)).trans (by rw [hW1]; exact heap_alloc_new w _)
  have hs : s.size ≤ 4000 := (parse_end hp).1
  have CP : Hid (Calls Tryd.prog 16 #[.string s] W1 (Parsed W1 (.good m j))) := by have := parse_any s W1 (by unfold maxLen; omega); rw [hp] at this; exact this
  have CL : Hid (∀ W, Calls Tryd.prog 17 #[.string s] W fun E w' => E = .returned (.tuple #[.int .i64 ((manyL s s.size : Nat) : Int), .int .i64 ((greatL s s.size : Nat) - 1 : Int)]) ∧ w' = W) := fun W => lettersOf_any s W hs
  obtain ⟨G, hG⟩ : ∃ G, greatL s s.size = G := ⟨_, rfl⟩
  obtain ⟨Mn, hMn⟩ : ∃ Mn, manyL s s.size = Mn := ⟨_, rfl⟩
  rw [hG, hMn] at CL
  rw [hG] at h3
  have i1 : decide (L < 1) = false := by simpa using h1
  have i2 : decide (4 < L) = false := by simpa using h2
  have i3 : decide (L ≤ (G : Int) - 1) = true := by simpa using h3
  clear hp hW1 hs hG hMn
  go_enter Tryd.func5, Tryd.ntmps5
  go_wp2_with fail
  rw [← HW1.out]
  refine CP.out.mono ?_
  rintro E w2 ⟨hb2, v, rfl, hl2⟩
  have g2 : W1.grownBy w2 none := grown_of_below hb2
  obtain ⟨W3, hW3⟩ : ∃ W3, W3 = w2.alloc (.cells #[.int .i64 0, .int .i64 0] 32) := ⟨_, rfl⟩
  have HW3 : Hid (W3 = w2.alloc (.cells #[.int .i64 0, .int .i64 0] 32)) := hW3
  have G9W : Hid (W1.grownBy W3 none) := by show World.grownBy _ _ _; rw [hW3]; exact grown_trans g2 (grown_alloc _ _)
  clear hb2 hl2 g2 hW3 CP
  go_wp2_with fail
  rw [← HW3.out]
  refine (CL.out _).mono ?_
  rintro E w4 ⟨rfl, rfl⟩
  clear HW3
  have K9 : w4.heap[w.heap.size]? = some (.cells #[.int .i64 0, .int .i64 0, .slice none 0 0, .slice none 0 0] 25 (0, 0)) := BK.out _ G9W.out
  obtain ⟨r0, r1, r2, r3, rz⟩ := block_cells K9
  have rz0 := rz 0
  have rz1 := rz 1
  have rz2 := rz 2
  have rz3 := rz 3
  obtain ⟨W9, hW9, hg9, q0, q1, q2, q3⟩ := det_store K9 (.int .i64 0) (.int .i64 0) (.slice none 0 0) (.slice none 0 0)
  have G9 : Hid (w.grownBy W9 none) := grown_new (grown_trans G1.out G9W.out) hg9 (Nat.le_refl _)
  clear K9 rz hg9
  go_wp2_with fail
  rw [← hW9]
  exact bodyPost_ret (v := .tuple #[.agg #[.int .i64 0, .int .i64 0, .slice none 0 0, .slice none 0 0], .int .i64 2]) (by simp [results, Tryd.results5, go_sem, q0, q1, q2, q3]) rfl ⟨rfl, G9.out⟩

set_option maxHeartbeats 1600000 in
set_option maxRecDepth 100000 in
theorem detE_full (s : ByteArray) (L : Int) (j : Nat) (m : Rx) (w : World) (hp : parseR s = .good m j) (h1 : ¬ L < 1) (h2 : ¬ 4 < L) (h3 : ¬ L ≤ (greatL s s.size : Int) - 1) (h4 : 10 < manyL s s.size) : Calls Tryd.prog 5 #[.int .i64 L, .string s] w (Says (.tuple #[.agg #[.int .i64 0, .int .i64 0, .slice none 0 0, .slice none 0 0], .int .i64 7]) w) := by
  obtain ⟨W1, hW1⟩ : ∃ W1, W1 = w.alloc (.cells #[.int .i64 0, .int .i64 0, .slice none 0 0, .slice none 0 0] 25) := ⟨_, rfl⟩
  have HW1 : Hid (W1 = w.alloc (.cells #[.int .i64 0, .int .i64 0, .slice none 0 0, .slice none 0 0] 25)) := hW1
  have G1 : Hid (w.grownBy W1 none) := by show World.grownBy _ _ _; rw [hW1]; exact grown_alloc _ _
  have BK : Hid (∀ W, W1.grownBy W none → W.heap[w.heap.size]? = some (.cells #[.int .i64 0, .int .i64 0, .slice none 0 0, .slice none 0 0] 25 (0, 0))) := fun W hW => (hW.block _ (by rw [hW1]; simp) (by simp)).trans (by rw [hW1]; exact heap_alloc_new w _)
  have hs : s.size ≤ 4000 := (parse_end hp).1
  have CP : Hid (Calls Tryd.prog 16 #[.string s] W1 (Parsed W1 (.good m j))) := by have := parse_any s W1 (by unfold maxLen; omega); rw [hp] at this; exact this
  have CL : Hid (∀ W, Calls Tryd.prog 17 #[.string s] W fun E w' => E = .returned (.tuple #[.int .i64 ((manyL s s.size : Nat) : Int), .int .i64 ((greatL s s.size : Nat) - 1 : Int)]) ∧ w' = W) := fun W => lettersOf_any s W hs
  obtain ⟨G, hG⟩ : ∃ G, greatL s s.size = G := ⟨_, rfl⟩
  obtain ⟨Mn, hMn⟩ : ∃ Mn, manyL s s.size = Mn := ⟨_, rfl⟩
  rw [hG, hMn] at CL
  rw [hG] at h3
  rw [hMn] at h4
  have i1 : decide (L < 1) = false := by simpa using h1
  have i2 : decide (4 < L) = false := by simpa using h2
  have i3 : decide (L ≤ (G : Int) - 1) = false := by simpa using h3
  have i4 : decide ((10 : Int) < (Mn : Int)) = true := by simp; omega
  clear hp hW1 hs hG hMn
  go_enter Tryd.func5, Tryd.ntmps5
  go_wp2_with fail
  rw [← HW1.out]
  refine CP.out.mono ?_
  rintro E w2 ⟨hb2, v, rfl, hl2⟩
  have g2 : W1.grownBy w2 none := grown_of_below hb2
  obtain ⟨W3, hW3⟩ : ∃ W3, W3 = w2.alloc (.cells #[.int .i64 0, .int .i64 0] 32) := ⟨_, rfl⟩
  have HW3 : Hid (W3 = w2.alloc (.cells #[.int .i64 0, .int .i64 0] 32)) := hW3
  have G9W : Hid (W1.grownBy W3 none) := by show World.grownBy _ _ _; rw [hW3]; exact grown_trans g2 (grown_alloc _ _)
  clear hb2 hl2 g2 hW3 CP
  go_wp2_with fail
  rw [← HW3.out]
  refine (CL.out _).mono ?_
  rintro E w4 ⟨rfl, rfl⟩
  clear HW3
  have K9 : w4.heap[w.heap.size]? = some (.cells #[.int .i64 0, .int .i64 0, .slice none 0 0, .slice none 0 0] 25 (0, 0)) := BK.out _ G9W.out
  obtain ⟨r0, r1, r2, r3, rz⟩ := block_cells K9
  have rz0 := rz 0
  have rz1 := rz 1
  have rz2 := rz 2
  have rz3 := rz 3
  obtain ⟨W9, hW9, hg9, q0, q1, q2, q3⟩ := det_store K9 (.int .i64 0) (.int .i64 0) (.slice none 0 0) (.slice none 0 0)
  have G9 : Hid (w.grownBy W9 none) := grown_new (grown_trans G1.out G9W.out) hg9 (Nat.le_refl _)
  clear K9 rz hg9
  go_wp2_with fail
  rw [← hW9]
  exact bodyPost_ret (v := .tuple #[.agg #[.int .i64 0, .int .i64 0, .slice none 0 0, .slice none 0 0], .int .i64 7]) (by simp [results, Tryd.results5, go_sem, q0, q1, q2, q3]) rfl ⟨rfl, G9.out⟩

theorem detE_bad (s : ByteArray) (L : Int) (w : World) (hm : s.size ≤ maxLen) (hb : detC L s ≠ 0) : Calls Tryd.prog 5 #[.int .i64 L, .string s] w (Says (.tuple #[.agg #[.int .i64 0, .int .i64 0, .slice none 0 0, .slice none 0 0], .int .i64 (detC L s)]) w) := by
  cases hp : parseR s with
  | bad c j =>
    have e : detC L s = 4 := by unfold detC; rw [hp]
    rw [e]; exact detE_syntax s L c j w hm hp
  | good m j =>
    have e : detC L s = if L < 1 ∨ 4 < L ∨ L ≤ (greatL s s.size : Int) - 1 then 2 else if 10 < manyL s s.size then 7 else 0 := by unfold detC; rw [hp]
    by_cases h1 : L < 1
    · rw [e, if_pos (.inl h1)]; exact detE_range1 s L j m w hp h1
    by_cases h2 : 4 < L
    · rw [e, if_pos (.inr (.inl h2))]; exact detE_range2 s L j m w hp h1 h2
    by_cases h3 : L ≤ (greatL s s.size : Int) - 1
    · rw [e, if_pos (.inr (.inr h3))]; exact detE_range3 s L j m w hp h1 h2 h3
    have h5 : ¬ (L < 1 ∨ 4 < L ∨ L ≤ (greatL s s.size : Int) - 1) := by omega
    rw [if_neg h5] at e
    by_cases h4 : 10 < manyL s s.size
    · rw [if_pos h4] at e; rw [e]; exact detE_full s L j m w hp h1 h2 h3 h4
    · rw [if_neg h4] at e; exact absurd e hb
/-- Where nothing is refused. -/
structure DetOk (L : Int) (s : ByteArray) (l : Nat) (m : Rx) : Prop where
  parse : ∃ j, parseR s = .good m j
  let_ : L = (l : Int)
  l1 : 1 ≤ l
  l4 : l ≤ 4
  great : greatL s s.size ≤ l
  many : nlet m ≤ 10
theorem detC_ok {L : Int} {s : ByteArray} (h : detC L s = 0) : ∃ l m, DetOk L s l m := by
  unfold detC at h
  split at h
  · omega
  · next m j hp =>
    split at h
    · omega
    · next h1 =>
      split at h
      · omega
      · next h2 => exact ⟨L.toNat, m, ⟨j, hp⟩, by omega, by omega, by omega, by omega, by rw [parse_many hp]; omega⟩
theorem detE_ok {s : ByteArray} {L : Int} {l : Nat} {m : Rx} (h : DetOk L s l m) (w : World) (hT : Tab32 w) : Calls Tryd.prog 5 #[.int .i64 L, .string s] w (LeastGPost (setNx m) (setMk m) 2048 l 1024 w) := by
  obtain ⟨j, hp⟩ := h.parse
  have hn := h.many
  rw [h.let_]
  exact detE_good s l j m w hT hp (parse_end hp).1 h.l1 h.l4 h.great (by rw [← parse_many hp]; exact hn) hn

end Go.Proofs.YtkkmdcnbifepjaaDoor
