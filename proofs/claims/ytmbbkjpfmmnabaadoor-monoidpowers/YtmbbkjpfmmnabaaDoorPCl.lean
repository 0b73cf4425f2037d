/- regular.Det: the least automaton of a text. -/
/- The closed fact: '(a+b)*a' over two letters has a least automaton of two states. -/
import Derived.Test.YtmbbkjpfmmnabaaDoorPLet
import Derived.Test.YtmbbkjpfmmnabaaDoorLOfU
import Derived.Test.YtmbbkjpfmmnabaaDoorLReach
import Derived.Test.YtmbbkjpfmmnabaaDoorHWr
import Derived.Test.YtmbbkjpfmmnabaaDoorLMath
import Derived.Test.YtmbbkjpfmmnabaaDoorTls
namespace Go.Proofs.YtmbbkjpfmmnabaaDoor
open Go.RowKit
set_option linter.unusedVariables false

/-- The sets of places as states. -/
def setNx (m : Rx) (s a : Nat) : Nat := (gluP m).next s a
def setMk (m : Rx) (s : Nat) : Bool := decide (s &&& gluL m ≠ 0)
theorem setNx_lt {m : Rx} (h : nlet m ≤ 10) (s a : Nat) : setNx m s a < 2048 := Pl.next_lt (gluP_ok h) s a

set_option maxHeartbeats 6400000 in
set_option maxRecDepth 100000 in
theorem detE_good (s : ByteArray) (l j : Nat) (m : Rx) (w : World) (hT : Tab32 w) (hp : parseR s = .good m j) (hs : s.size ≤ 4000) (hl1 : 1 ≤ l) (hl : l ≤ 4) (hg : greatL s s.size ≤ l) (hm : manyL s s.size ≤ 10) (hn : nlet m ≤ 10) :
    Calls Tryd.prog 6 #[.int .i64 (l : Int), .string s] w (LeastGPost (setNx m) (setMk m) 2048 l 1024 w) := by
  have hmf : ∀ (fn : Fn) (first cap : Array Value) (w : World), (Instr.makeFunc fn first cap).run Tryd.prog w = .ok (.func fn first cap) w := fun _ _ _ _ => rfl
  obtain ⟨W1, hW1⟩ : ∃ W1, W1 = w.alloc (.cells #[.int .i64 0, .int .i64 0, .slice none 0 0, .slice none 0 0] 25) := ⟨_, rfl⟩
  have HW1 : Hid (W1 = w.alloc (.cells #[.int .i64 0, .int .i64 0, .slice none 0 0, .slice none 0 0] 25)) := hW1
  have hs1 : W1.heap.size = w.heap.size + 1 := by rw [hW1]; simp
  have B1 : Hid (W1.heap[w.heap.size]? = some (.cells #[.int .i64 0, .int .i64 0, .slice none 0 0, .slice none 0 0] 25 (0, 0))) := by show _ = _; rw [hW1]; exact heap_alloc_new w _
  have G1 : Hid (w.grownBy W1 none) := by show World.grownBy _ _ _; rw [hW1]; exact grown_alloc _ _
  have HS1 : Hid (W1.heap.size = w.heap.size + 1) := hs1
  have CP : Hid (Calls Tryd.prog 21 #[.string s] W1 (Parsed W1 (.good m j))) := by have := parse_any s W1 (by unfold maxLen; omega); rw [hp] at this; exact this
  have CL : Hid (∀ W, Calls Tryd.prog 22 #[.string s] W fun E w' => E = .returned (.tuple #[.int .i64 ((manyL s s.size : Nat) : Int), .int .i64 ((greatL s s.size : Nat) - 1 : Int)]) ∧ w' = W) := fun W => lettersOf_any s W hs
  have HT : Hid (∀ W, w.grownBy W none → Tab32 W) := fun W hW => hT.kept hW (by simp)
  have HN : Hid (nlet m ≤ 10) := hn
  obtain ⟨Po, hPo⟩ : ∃ Po, Po = LeastGPost (setNx m) (setMk m) 2048 l 1024 w := ⟨_, rfl⟩
  have HPo : Hid (Po = LeastGPost (setNx m) (setMk m) 2048 l 1024 w) := hPo
  rw [← hPo]
  obtain ⟨G, hG⟩ : ∃ G, greatL s s.size = G := ⟨_, rfl⟩
  obtain ⟨Mn, hMn⟩ : ∃ Mn, manyL s s.size = Mn := ⟨_, rfl⟩
  rw [hG, hMn] at CL
  rw [hG] at hg
  rw [hMn] at hm
  have i1 : ¬ (l : Int) < 1 := by omega
  have i2 : ¬ (4 : Int) < (l : Int) := by omega
  have i3 : ¬ (l : Int) ≤ (G : Int) - 1 := by omega
  have i4 : ¬ (10 : Int) < (Mn : Int) := by omega
  clear hT hp hs hW1 hs1 hn hPo hG hMn hg hm
  go_enter Tryd.func6, Tryd.ntmps6
  go_wp2_with fail
  rw [← HW1.out]
  refine CP.out.mono ?_
  rintro E w2 ⟨hb2, v, rfl, hl2⟩
  have g2 : W1.grownBy w2 none := grown_of_below hb2
  obtain ⟨W3, hW3⟩ : ∃ W3, W3 = w2.alloc (.cells #[.int .i64 0, .int .i64 0] 32) := ⟨_, rfl⟩
  have HW3 : Hid (W3 = w2.alloc (.cells #[.int .i64 0, .int .i64 0] 32)) := hW3
  have g3 : w2.grownBy W3 none := by rw [hW3]; exact grown_alloc _ _
  have L3 : Hid (Lies (fun k => W1.heap.size ≤ k) W3 v m) := hl2.kept fun g hg hlt => ⟨hg, g3.block g hlt (by simp)⟩
  have G3 : Hid (w.grownBy W3 none ∧ W1.grownBy W3 none) := ⟨grown_trans G1.out (grown_trans g2 g3), grown_trans g2 g3⟩
  have CO : Hid (Calls Tryd.prog 23 #[v] W3 (POfPost m W3)) := placesOf_any L3.out (HT.out W3 G3.out.1) HN.out
  clear hb2 hl2 g2 g3 hW3 CP L3
  go_wp2_with fail
  rw [← HW3.out]
  refine (CL.out _).mono ?_
  rintro E w4 ⟨rfl, rfl⟩
  clear HW3
  go_wp2_with fail
  refine CO.out.mono ?_
  rintro E w5 ⟨b, rfl, hb5, hp5, hg5⟩
  have G5 : Hid (w.grownBy w5 none ∧ W1.grownBy w5 none) := ⟨grown_trans G3.out.1 hg5, grown_trans G3.out.2 hg5⟩
  have P5 : Hid (PlAt w5 b (gluP m) (gluL m)) := hp5
  have CF : Hid (Calls Tryd.prog 24 #[.int .i64 (l : Int), .int .u16 ((1024 : Nat) : Int), .func (.func 25) #[.pointer (some ⟨b, 0, none⟩)] #[], .func (.func 26) #[.pointer (some ⟨b, 0, none⟩)] #[]] w5 (OfPost l 1024 2048 (setNx m) (setMk m) w5)) := by
    refine ofU_any l 1024 2048 (setNx m) (setMk m) (.pointer (some ⟨b, 0, none⟩)) (.pointer (some ⟨b, 0, none⟩)) w5 hl1 hl (by omega) (by omega) (fun s a _ _ => setNx_lt HN.out s a) (fun W hW s a hs ha => ?_) (fun W hW s hs => ?_)
    · exact next_any b s a (gluL m) (gluP m) W (P5.out.kept hW) (HT.out W (grown_trans G5.out.1 hW)) hs (by omega) (gluP_ok HN.out)
    · refine (ends_any b s (gluL m) (gluP m) W (P5.out.kept hW) hs (gluL_lt HN.out)).mono ?_
      rintro E w' ⟨rfl, rfl⟩
      exact ⟨rfl, grown_refl _ _⟩
  clear hb5 hp5 hg5 CO P5
  go_wp2_with fail
  refine CF.out.mono ?_
  rintro E w6 ⟨k0, vR, vM, rs, he0, hk0, rfl, hrs, ho6, hg6⟩
  obtain ⟨_, aR, cR, hvR⟩ := ho6.head
  obtain ⟨_, aM, cM, hvM⟩ := ho6.tail.head
  simp only [List.length_map] at hvR
  simp only [vals_len] at hvM
  subst hvR hvM
  have hD : ∀ s a, s < 2048 → a < l → setNx m s a < 2048 := fun s a _ _ => setNx_lt HN.out s a
  have hrl : rs.length = k0 := by
    have h1 : (rs.map (·.2)).length = k0 := by rw [hrs]; simp [resR, he0.len]
    simpa using h1
  have hml : (resM (setMk m) (bfsL id (setNx m) l 1024 k0)).length = k0 := by simp [resM, he0.len]
  have GR : Good (reachD (setNx m) (setMk m) l 1024 k0) := reachD_good hl1 hl (n := 2048) (by omega) hD (by omega) he0 hk0
  have D6 : DetAt w6 (reachD (setNx m) (setMk m) l 1024 k0) aR aM := by
    have h3 := det_of_owns (L := (l : Int)) (S := 0) (its := []) (by rw [List.append_nil]; exact ho6) (fun x hx => by
        have h4 : x.2 ∈ rs.map (·.2) := List.mem_map.2 ⟨x, hx, rfl⟩
        rw [hrs] at h4
        obtain ⟨y, _, hy⟩ := List.mem_map.1 h4
        rw [← hy]; simp [rowR, maxLen]; omega) (by rw [hrl]; unfold maxLen; omega) (by rw [hml]; unfold maxLen; omega)
    rw [hrs] at h3
    exact h3
  have CQ : Hid (Calls Tryd.prog 16 #[.agg #[.int .i64 l, .int .i64 0, .slice aR k0 cR, .slice aM k0 cM]] w6 (LeastGPost (reachD (setNx m) (setMk m) l 1024 k0).nx (reachD (setNx m) (setMk m) l 1024 k0).mk1 k0 l 0 w6)) := by
    have h1 := leastE_good l 0 (resR id (setNx m) l (bfsL id (setNx m) l 1024 k0)) (resM (setMk m) (bfsL id (setNx m) l 1024 k0)) aR aM cR cM w6 D6 GR
    have e1 : (resR id (setNx m) l (bfsL id (setNx m) l 1024 k0)).length = k0 := by simp [resR, he0.len]
    rw [e1, hml] at h1
    exact h1
  have HE0 : Hid (IsEnd (bfsL id (setNx m) l 1024) k0) := he0
  have HD : Hid (∀ s a, s < 2048 → a < l → setNx m s a < 2048) := hD
  have G6 : Hid (w.grownBy w6 none ∧ W1.grownBy w6 none) := ⟨grown_trans G5.out.1 hg6, grown_trans G5.out.2 hg6⟩
  rw [hrl, hml]
  clear he0 hrs ho6 hg6 hrl hml GR D6 CF hD
  go_wp2_with fail
  refine CQ.out.mono ?_
  rintro E w7 ⟨vL, rfl, aR7, cR7, aM7, cM7, rs7, M7, he7, hlo, hn7, hm7, hr7, ho7, hg7⟩
  simp only [Ending.returned.injEq] at he7
  subst he7
  have hlo2 := least_reach HD.out (by omega) HE0.out hlo
  have K7 : w7.heap[w.heap.size]? = some (.cells #[.int .i64 0, .int .i64 0, .slice none 0 0, .slice none 0 0] 25 (0, 0)) := ((grown_trans G6.out.2 hg7).block _ (by rw [HS1.out]; omega) (by simp)).trans B1.out
  obtain ⟨r0, r1, r2, r3, rz⟩ := block_cells K7
  have rz0 := rz 0
  have rz1 := rz 1
  have rz2 := rz 2
  have rz3 := rz 3
  obtain ⟨W9, hW9, hg9, q0, q1, q2, q3⟩ := det_store K7 (.int .i64 (l : Int)) (.int .i64 0) (.slice aR7 rs7.length cR7) (.slice aM7 M7.length cM7)
  have hsz6 : w.heap.size < w6.heap.size := by have h1 := G6.out.2.size; have h2 := HS1.out; omega
  have Fin : Hid (Po (.returned (.tuple #[.agg #[.int .i64 l, .int .i64 0, .slice aR7 rs7.length cR7, .slice aM7 M7.length cM7], .int .i64 0])) W9) := by
    show Po _ _
    rw [HPo.out]
    exact ⟨_, rfl, aR7, cR7, aM7, cM7, rs7, M7, rfl, hlo2, by omega, hm7, hr7, (ho7.below hg9 (by omega)).base (by omega), grown_new (grown_trans G6.out.1 hg7) hg9 (Nat.le_refl _)⟩
  clear hlo hlo2 hn7 hm7 hr7 ho7 hg7 hg9 rz K7 CQ
  generalize rs7.length = nr at *
  generalize M7.length = nm at *
  go_wp2_with fail
  rw [← hW9]
  exact bodyPost_ret (v := .tuple #[.agg #[.int .i64 l, .int .i64 0, .slice aR7 nr cR7, .slice aM7 nm cM7], .int .i64 0]) (by simp [results, Tryd.results6, go_sem, q0, q1, q2, q3]) rfl Fin.out

end Go.Proofs.YtmbbkjpfmmnabaaDoor

namespace Go.Proofs.YtmbbkjpfmmnabaaDoor
open Go.RowKit
set_option linter.unusedVariables false

abbrev clT : ByteArray := { data := #[40, 97, 43, 98, 41, 42, 97] }
def clM : Rx := .cat (.star (.alt (.letter 0) (.letter 1))) (.letter 0)
theorem cl_parse : parseR clT = .good clM 7 := by kernel_rfl
theorem cl_great : greatL clT clT.size = 2 := by decide +kernel
theorem cl_many : manyL clT clT.size = 3 := by decide +kernel
theorem cl_a : setNx clM 1024 0 = 5 ∧ setNx clM 1024 1 = 2 ∧ setNx clM 5 0 = 5 ∧ setNx clM 5 1 = 2 ∧ setNx clM 2 0 = 5 ∧ setNx clM 2 1 = 2 := by decide +kernel
theorem cl_m : setMk clM 1024 = false ∧ setMk clM 5 = true ∧ setMk clM 2 = false := by decide +kernel
theorem cl_two {R : List (List Int)} {M : List Int} (h : LeastOf (setNx clM) (setMk clM) 2048 2 1024 R M) : R.length = 2 := by
  obtain ⟨κ, hκ⟩ := ner_key (setNx clM) (setMk clM) 2048 2
  obtain ⟨k, he, hR, _⟩ := h κ hκ
  obtain ⟨a1, a2, a3, a4, a5, a6⟩ := cl_a
  obtain ⟨m1, m2, m3⟩ := cl_m
  have k1 : κ 1024 = κ 2 := (hκ 1024 2 (by omega) (by omega)).2 fun z hz => by
    cases z with
    | nil => simp [m1, m3]
    | cons x z =>
      have hx := hz x (by simp)
      have : setNx clM 1024 x = setNx clM 2 x := by
        have : x = 0 ∨ x = 1 := by omega
        rcases this with rfl | rfl
        · rw [a1, a5]
        · rw [a2, a6]
      simp only [List.foldl_cons, this]
  have k2 : κ 1024 ≠ κ 5 := fun e => by
    have := ((hκ 1024 5 (by omega) (by omega)).1 e).mark
    rw [m1, m2] at this; cases this
  have b1 : bfsL κ (setNx clM) 2 1024 1 = [1024, 5] := by
    have e : bfsL κ (setNx clM) 2 1024 1 = rowL κ (setNx clM) 1024 2 [1024] := if_pos (show 0 < [1024].length by decide)
    rw [e]
    show ins κ (ins κ [1024] (setNx clM 1024 0)) (setNx clM 1024 1) = _
    rw [a1, a2, ins_new (y := 5) (fun ⟨r, hr, hk⟩ => k2 (by rw [List.mem_singleton.1 hr] at hk; exact hk))]
    exact ins_old ⟨1024, List.mem_cons_self, k1⟩
  have b2 : bfsL κ (setNx clM) 2 1024 2 = [1024, 5] := by
    have e : bfsL κ (setNx clM) 2 1024 2 = if 1 < (bfsL κ (setNx clM) 2 1024 1).length then rowL κ (setNx clM) ((bfsL κ (setNx clM) 2 1024 1).getD 1 0) 2 (bfsL κ (setNx clM) 2 1024 1) else bfsL κ (setNx clM) 2 1024 1 := rfl
    rw [e, b1, if_pos (by decide)]
    show ins κ (ins κ [1024, 5] (setNx clM 5 0)) (setNx clM 5 1) = _
    rw [a3, a4, ins_old (y := 5) ⟨5, by simp, rfl⟩, ins_old ⟨1024, List.mem_cons_self, k1⟩]
  have e2 : IsEnd (bfsL κ (setNx clM) 2 1024) 2 := ⟨by rw [b2]; rfl, fun i hi => by
    have : i = 0 ∨ i = 1 := by omega
    rcases this with rfl | rfl
    · simp [bfsL]
    · rw [b1]; simp⟩
  obtain rfl := he.one e2
  rw [hR, b2]
  rfl

set_option maxHeartbeats 3200000 in
set_option maxRecDepth 100000 in
theorem closed_any (w : World) (hT : Tab32 w) : Calls Tryd.prog 14 #[] w fun E w' => E = .returned (.bool true) ∧ w.grownBy w' none := by
  have C : Hid (Calls Tryd.prog 6 #[.int .i64 ((2 : Nat) : Int), .string clT] w (LeastGPost (setNx clM) (setMk clM) 2048 2 1024 w)) := detE_good clT 2 7 clM w hT cl_parse (by decide) (by omega) (by omega) (by rw [cl_great]; omega) (by rw [cl_many]; omega) (by decide)
  clear hT
  go_enter Tryd.func14, Tryd.ntmps14
  go_wp2_with fail
  refine C.out.mono ?_
  rintro E w7 ⟨vL, rfl, aR7, cR7, aM7, cM7, rs7, M7, he7, hlo, hn7, hm7, hr7, ho7, hg7⟩
  simp only [Ending.returned.injEq] at he7
  subst he7
  have hl := cl_two hlo
  simp only [List.length_map] at hl
  rw [hl]
  have G : Hid (w.grownBy w7 none) := hg7
  clear hlo hn7 hm7 hr7 ho7 hg7 hl
  go_wp2_with fail
  go_ret
  exact ⟨rfl, grown_trans G.out (grown_alloc _ _)⟩

end Go.Proofs.YtmbbkjpfmmnabaaDoor
