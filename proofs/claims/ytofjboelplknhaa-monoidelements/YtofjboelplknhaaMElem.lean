/- monoid.Elements. -/
import Derived.Test.YtofjboelplknhaaMSeekE
import Derived.Test.YtofjboelplknhaaMLookE
import Derived.Test.YtofjboelplknhaaMSmall
namespace Go.Proofs.Ytofjboelplknhaa
open Go.RowKit
set_option linter.unusedVariables false

/-- All rows that words do, in their order. -/
def elemR (κ : List Nat → Nat) (n l k : Nat) : List (List Int) := (bfsW κ l k).map fun u => natInts (doesL n (κ u))
def ElemPost (κ : List Nat → Nat) (n l : Nat) (w : World) (E : Ending) (w' : World) : Prop :=
  ∃ (k : Nat) (aR : Option Addr) (cR : Nat), EndW κ l k ∧ k ≤ 3125 ∧ E = .returned (.tuple #[.slice aR k cR, .int .i64 0]) ∧ RowsAt w' aR (elemR κ n l k) ∧ w.grownBy w' none

theorem rows_of_owns {B : Nat} {w : World} {aR : Option Addr} {cR nR : Nat} {rs : List (Value × List Int)} {its : List Item} (h : Owns B w ((23, .slice aR nR cR, rs.map (·.1)) :: (rowItems rs ++ its))) (hm : ∀ x, x ∈ rs → x.2.length ≤ maxLen) (hR : rs.length ≤ maxLen) : RowsAt w aR (rs.map (·.2)) := by
  have h1 := det_of_owns (L := 0) (S := 0) (M := []) (aM := none) (cM := 0) (nM := 0) (to_2 (h.empty 3)) hm hR (by simp)
  exact h1.rows

set_option maxHeartbeats 1600000 in
set_option maxRecDepth 100000 in
theorem elem_bad (L S y : Int) (a a' : Option Addr) (n m c c' : Nat) (w : World) (hy : y ≠ 0)
    (HL : Hid (∀ W, w.grownBy W none → Calls Try.prog 50 #[detV L S a n c a' m c'] W (LeastBPost y W))) :
    Calls Try.prog 22 #[detV L S a n c a' m c'] w (Says (.tuple #[.slice none 0 0, .int .i64 y]) w) := by
  have f1 : (y != 0) = true := by simpa using hy
  have G1 : Hid (∀ o, w.grownBy (w.alloc o) none) := fun o => grown_alloc _ _
  clear hy
  go_enter Try.func22, Try.ntmps22
  go_wp2_with fail
  refine (HL.out _ (G1.out _)).mono ?_
  rintro E w2 ⟨rfl, hg2⟩
  have GE : Hid (∀ o, w.grownBy (w2.alloc o) none) := fun o => grown_trans (grown_trans (grown_alloc _ _) hg2) (grown_alloc _ _)
  clear hg2
  go_wp2_with fail
  exact bodyPost_ret (v := .tuple #[.slice none 0 0, .int .i64 y]) (by simp [results, Try.results22, go_sem]) rfl ⟨rfl, GE.out _⟩

set_option maxHeartbeats 1600000 in
set_option maxRecDepth 100000 in
theorem elem_ok (L S : Int) (l : Nat) (a a' : Option Addr) (n m c c' : Nat) (w : World) (δ : Nat → Nat → Nat) (mk : Nat → Bool) (nn s0 : Nat) (RL : List (List Int)) (ML : List Int) (hG : Good ⟨l, 0, RL, ML⟩) (h5 : RL.length ≤ 5) (hU : ∀ R M, LeastOf δ mk nn l s0 R M → R = RL ∧ M = ML)
    (HL : Hid (∀ W, w.grownBy W none → Calls Try.prog 50 #[detV L S a n c a' m c'] W (LeastGPost δ mk nn l s0 W))) :
    Calls Try.prog 22 #[detV L S a n c a' m c'] w (ElemPost (deed (Dfa.nx ⟨l, 0, RL, ML⟩) RL.length) RL.length l w) := by
  have hmf : ∀ (fn : Fn) (first cap : Array Value) (w : World), (Instr.makeFunc fn first cap).run Try.prog w = .ok (.func fn first cap) w := fun _ _ _ _ => rfl
  have G1 : Hid (∀ o, w.grownBy (w.alloc o) none) := fun o => grown_alloc _ _
  have HU : Hid (∀ R M, LeastOf δ mk nn l s0 R M → R = RL ∧ M = ML) := hU
  have GD : Hid (Good ⟨l, 0, RL, ML⟩) := hG
  clear hU hG
  go_enter Try.func22, Try.ntmps22
  go_wp2_with fail
  refine (HL.out _ (G1.out _)).mono ?_
  rintro E w2 ⟨v, rfl, aL, cL, aN, cN, rs, M9, hv, hlo, hrn, hml, hrl, ho, hg2⟩
  cases hv
  obtain ⟨e1, e2⟩ := HU.out _ _ hlo
  have hn1 : 1 ≤ RL.length := GD.out.n1
  have hl4 : l ≤ 4 := by have := GD.out.l4; simp only at this; omega
  have hmR : M9.length = RL.length := by rw [e2]; exact GD.out.ml
  have hrR : rs.length = RL.length := by rw [← e1, List.length_map]
  have gw2 : w.grownBy w2 none := grown_trans (G1.out _) hg2
  obtain ⟨W3, hW3, g3, s3, bx3⟩ := box_new w2 (.int .i64 l) (.int .i64 0) (.slice aL rs.length cL) (.slice aN M9.length cN) 25
  obtain ⟨W4, hW4⟩ : ∃ W4, W4 = W3.alloc (.cells #[.slice none 0 0] 22) := ⟨_, rfl⟩
  have s4 : W4.heap.size = w2.heap.size + 1 + 1 := by rw [hW4, World.size_alloc, s3]
  have g4 : W3.grownBy W4 none := by rw [hW4]; exact grown_alloc _ _
  have gat0 : Gat RL.length W3.heap.size (w2.heap.size + 1) [] W4 (blocksOf (gatIts (w2.heap.size + 1) none 0 0 [])) := by
    refine ⟨none, 0, [], rfl, ?_, rfl⟩
    have h1 := ((Owns.no W3.heap.size W3).empty 23).made (arr := #[.slice none 0 0]) (n := 1) (Nat.le_refl _) 22 rfl (by unfold maxLen; omega)
    rw [← hW4, s3] at h1
    rw [s3]
    exact h1
  have hS0 : ∀ b, blocksOf (gatIts (w2.heap.size + 1) none 0 0 []) b → b = w2.heap.size + 1 := by
    rintro b ⟨it, hm, hb⟩
    simp only [gatIts, List.map_nil, List.mem_cons, List.not_mem_nil, or_false] at hm
    rcases hm with rfl | rfl
    · simpa [Value.ownBlock, eq_comm] using hb
    · cases hb
  have hDet : ∀ W, Turn (blocksOf (gatIts (w2.heap.size + 1) none 0 0 [])) W4 W → DetAt W ⟨l, 0, RL, ML⟩ aL aN := fun W ht => by
    have o4 := (ho.kept (grown_trans g3 g4)).turn ht (fun it hm g hg hS => by
      have h1 := (ho.lt hm hg).2
      have h2 := hS0 g hS
      omega)
    have h3 := det_of_owns (L := (l : Int)) (S := 0) (its := []) (by rw [List.append_nil]; exact o4) (fun x hx => by rw [hrl x hx]; unfold maxLen; omega) (by rw [hrR]; unfold maxLen; omega) (by rw [hmR]; unfold maxLen; omega)
    rw [e1, e2] at h3
    exact h3
  have hb2 : ∀ W, Turn (blocksOf (gatIts (w2.heap.size + 1) none 0 0 [])) W4 W → W.cell? ⟨w2.heap.size, 2, none⟩ = some (.slice aL rs.length cL) := fun W ht => by
    have h1 : W4.heap[w2.heap.size]? = some (.cells #[.int .i64 l, .int .i64 0, .slice aL rs.length cL, .slice aN M9.length cN] 25 (0, 0)) := (g4.block _ (by rw [s3]; omega) (by simp)).trans (by rw [hW3]; exact heap_alloc_new _ _)
    have h2 := (ht.block w2.heap.size (by rw [s4]; omega) (fun hS => by have := hS0 _ hS; omega)).trans h1
    exact (block_cells h2).2.2.1
  have HSk : Hid (Calls Try.prog 51 #[detV l 0 aL RL.length cL aN RL.length cN, .func (.func 52) #[] #[.pointer (some ⟨w2.heap.size + 1, 0, none⟩), .pointer (some ⟨w2.heap.size, 0, none⟩)]] W4 (SeekNo (deed (Dfa.nx ⟨l, 0, RL, ML⟩) RL.length) l (Gat RL.length W3.heap.size (w2.heap.size + 1)) (blocksOf (gatIts (w2.heap.size + 1) none 0 0 [])) (fun _ => false) W4)) := by
    have h1 := seekE_any 0 l RL ML aL aN cL cN (.pointer (some ⟨w2.heap.size + 1, 0, none⟩)) (.pointer (some ⟨w2.heap.size, 0, none⟩)) W4 (blocksOf (gatIts (w2.heap.size + 1) none 0 0 [])) (Gat RL.length W3.heap.size (w2.heap.size + 1)) (fun _ => false) (fun _ => rfl) GD.out h5 hDet (gat_stable _ _ _ _ _) gat0 (fun b hb => by rw [hS0 b hb, s4]; omega)
      (fun seen cc W S' hJ hsl hS ht hc hd => by
        have hb := hb2 W ht
        rw [hrR] at hb
        exact lookE_any RL.length W3.heap.size (w2.heap.size + 1) w2.heap.size cc seen aL cL W S' hJ hS hb hn1 h5 (by omega) (by have := ht.size; omega))
    have e3 : ML.length = RL.length := GD.out.ml
    rw [e3] at h1
    exact h1
  have HW4 : Hid (W4 = (w2.alloc (.cells #[.int .i64 l, .int .i64 0, .slice aL RL.length cL, .slice aN RL.length cN] 25)).alloc (.cells #[.slice none 0 0] 22)) := by show _ = _; rw [hW4, hW3, hrR, hmR]
  have GW4 : Hid (w.grownBy W4 none) := grown_trans gw2 (grown_trans g3 g4)
  have HS0 : Hid (∀ b, blocksOf (gatIts (w2.heap.size + 1) none 0 0 []) b → w.heap.size ≤ b) := fun b hb => by rw [hS0 b hb]; have := gw2.size; omega
  have HS3 : Hid (W3.heap.size = w2.heap.size + 1) := s3
  rw [hrR, hmR]
  clear hlo hrn hml hrl ho hg2 e1 e2 hmR hrR gw2 hW3 g3 s3 bx3 hW4 s4 g4 gat0 hS0 hDet hb2
  go_wp2_with fail
  rw [← HW4.out]
  refine HSk.out.mono ?_
  rintro E w5 ⟨rfl, k, hend, hno, ⟨S5, hJ5, hj3, hj2⟩, ht5⟩
  obtain ⟨aR, cR, rs5, er5, ho5, rfl⟩ := hJ5
  have hkl : (List.map (deed (Dfa.nx ⟨l, 0, RL, ML⟩) RL.length) (bfsW (deed (Dfa.nx ⟨l, 0, RL, ML⟩) RL.length) l k)).length = k := by rw [List.length_map]; exact hend.len
  rw [hkl] at ho5
  have x1 := ho5.cell (i := 0) rfl
  have hk3 : k ≤ 3125 := by
    have h1 := words_few (bfsW_nodup (κ := deed (Dfa.nx ⟨l, 0, RL, ML⟩) RL.length) (l := l) k) (fun u hu => (deed_facts h5 (fun s a hs ha => GD.out.nx_lt hs (by simp; exact ha)) u (bfsW_letters k u hu)).1)
    rw [hend.len] at h1
    exact h1
  have hrl5 : rs5.length = k := by have := congrArg List.length er5; simp only [List.length_map] at this; rw [this]; exact hend.len
  have hR5 : RowsAt w5 aR (elemR (deed (Dfa.nx ⟨l, 0, RL, ML⟩) RL.length) RL.length l k) := by
    have h1 := rows_of_owns (its := []) (by rw [List.append_nil]; exact ho5.tail) (fun x hx => by
      have h2 : x.2 ∈ rs5.map (·.2) := List.mem_map.2 ⟨x, hx, rfl⟩
      rw [er5] at h2
      obtain ⟨y, _, hy⟩ := List.mem_map.1 h2
      rw [← hy]; simp [doesL, maxLen]; omega) (by rw [hrl5]; unfold maxLen; omega)
    rw [er5, List.map_map] at h1
    exact h1
  have Fin : Hid (ElemPost (deed (Dfa.nx ⟨l, 0, RL, ML⟩) RL.length) RL.length l w (.returned (.tuple #[.slice aR k cR, .int .i64 0])) w5) := ⟨k, aR, cR, hend, hk3, rfl, hR5, ((Turn.of (S := fun b => w.heap.size ≤ b) GW4.out).trans ht5 (fun x hx => .inl (HS0.out x hx))).grown (fun x hx => hx)⟩
  clear hend hno hj3 hj2 ht5 ho5 er5 hkl hrl5 hR5
  go_wp2_with fail
  exact bodyPost_ret (v := .tuple #[.slice aR k cR, .int .i64 0]) (by simp [results, Try.results22, go_sem]) rfl Fin.out

end Go.Proofs.Ytofjboelplknhaa
