/- Who gathers all rows: monoid.Elements$1. -/
import Derived.Test.YtofjboelplknhaaMSeekD
import Derived.Test.YtofjboelplknhaaHClone
import Derived.Test.YtofjboelplknhaaRLeast
import Derived.Deep.RegionWith
namespace Go.Proofs.Ytofjboelplknhaa
open Go.RowKit
set_option linter.unusedVariables false
attribute [local go_sem ↓] app_fold

theorem Owns.heap {B : Nat} {a b : World} {its : List Item} (h : Owns B a its) (hb : ∀ it, it ∈ its → ∀ g, it.2.1.ownBlock = some g → b.heap[g]? = a.heap[g]?) : Owns B b its := by
  refine ⟨fun it hm => ⟨?_, (h.1 it hm).2⟩, h.2⟩
  obtain ⟨h1, h2⟩ := (h.1 it hm).1
  refine ⟨h1, ?_⟩
  rcases h2 with h2 | ⟨g, cap, cur, h3, h4, h5, h6⟩
  · exact .inl h2
  · exact .inr ⟨g, cap, cur, h3, h4, (hb it hm g (by rw [h3]; rfl)).trans h5, h6⟩
/-- The rows that are gathered. -/
abbrev gatIts (b1 : Nat) (aR : Option Addr) (N cR : Nat) (rs : List (Value × List Int)) : List Item :=
  (22, .slice (some ⟨b1, 0, none⟩) 1 1, [.slice aR N cR]) :: (23, .slice aR N cR, rs.map (·.1)) :: rowItems rs
def blocksOf (its : List Item) (b : Nat) : Prop := ∃ it, it ∈ its ∧ it.2.1.ownBlock = some b
/-- All rows that were seen are gathered. -/
def Gat (n B b1 : Nat) (seen : List Nat) (W : World) (S : Nat → Prop) : Prop :=
  ∃ (aR : Option Addr) (cR : Nat) (rs : List (Value × List Int)), rs.map (·.2) = seen.map (fun c => natInts (doesL n c)) ∧ Owns B W (gatIts b1 aR seen.length cR rs) ∧ S = blocksOf (gatIts b1 aR seen.length cR rs)
theorem gat_stable (n B b1 : Nat) (w0 : World) (S0 : Nat → Prop) : Stable w0 S0 (Gat n B b1) := by
  rintro seen W W' S ⟨aR, cR, rs, h1, h2, rfl⟩ hb ht
  exact ⟨aR, cR, rs, h1, h2.heap (fun it hm g hg => hb g ⟨it, hm, hg⟩), rfl⟩

/-- One row more. -/
theorem gat_push {n B b1 c : Nat} {seen : List Nat} {W w3 : World} {S : Nat → Prop} {g cap : Nat} (hJ : Gat n B b1 seen W S) (hS : ∀ b, S b → b < W.heap.size) (hB : B ≤ W.heap.size) (hsl : seen.length ≤ 4000) (hg3 : W.grownBy w3 none) (ho3 : Owns W.heap.size w3 [(3, .slice (some ⟨g, 0, none⟩) n cap, vals (natInts (doesL n c)))]) :
    ∃ (aR : Option Addr) (cR : Nat), (W.cell? ⟨b1, 0, none⟩ = some (.slice aR seen.length cR)) ∧ ∃ g' cap' w', (AppS #[22, 22] 22 #[.slice aR seen.length cR, .slice (some ⟨w3.heap.size, 0, none⟩) 1 1]).run Try.prog (w3.alloc (.cells #[.slice (some ⟨g, 0, none⟩) n cap] 23)) = .ok (.slice (some ⟨g', 0, none⟩) (seen.length + 1) cap') w' ∧
      w'.cell? ⟨b1, 0, none⟩ = some (.slice aR seen.length cR) ∧ w'.frozen? ⟨b1, 0, none⟩ = false ∧ LookPost (Gat n B b1) seen c S (fun _ => false) W (.returned (.bool false)) (w'.setCell ⟨b1, 0, none⟩ (.slice (some ⟨g', 0, none⟩) (seen.length + 1) cap')) := by
  obtain ⟨aR, cR, rs, h1, h2, rfl⟩ := hJ
  refine ⟨aR, cR, h2.cell (i := 0) rfl, ?_⟩
  have hrl : rs.length = seen.length := by have := congrArg List.length h1; simpa using this
  have hj : Owns B w3 ((3, .slice (some ⟨g, 0, none⟩) n cap, vals (natInts (doesL n c))) :: gatIts b1 aR seen.length cR rs) := h2.join hg3 ho3 hB
  have hgW : W.heap.size ≤ g := ho3.ge.1
  obtain ⟨i0, hio, hz0, hz1, hz2⟩ := info_parts Try.infoS
  have h' := (at_3 hj).kept (grown_alloc w3 (.cells #[.slice (some ⟨g, 0, none⟩) n cap] 23))
  have hr := h'.row
  rw [List.length_map, hrl] at hr
  have hs3 := hg3.size
  obtain ⟨g', cap', w5, hrun, ho5, hg5, hat5, hlt5⟩ := run_append_lies (P := Try.prog) (w3.alloc (.cells #[.slice (some ⟨g, 0, none⟩) n cap] 23)) 22 22 B 23 i0 (.slice none 0 0) 1 24 Try.underlying22 hio hz0 hz1 hz2 rfl (by decide) (.slice aR seen.length cR) seen.length (rs.map (·.1)) hr ⟨w3.heap.size, 0, none⟩ 1 1 [.slice (some ⟨g, 0, none⟩) n cap] rfl (cell_one_new _ _ _) (by intro u hu; simp at hu; subst hu; rfl) (by omega) (by unfold maxLen; omega) (by omega) (by simp; omega) _ rfl
  have h5 := h'.append ho5 (by simp [hrl]) hg5 hat5 rfl
  have h6 := at_3 h5
  refine ⟨g', cap', w5, hrun, h6.cell (i := 0) rfl, h6.fz 0, rfl, ?_⟩
  have h7 := h6.set (i := 0) (by omega) (.slice (some ⟨g', 0, none⟩) (seen.length + 1) cap')
  have h8 : Owns B (w5.setCell ⟨b1, 0, none⟩ (.slice (some ⟨g', 0, none⟩) (seen.length + 1) cap')) (gatIts b1 (some ⟨g', 0, none⟩) (seen ++ [c]).length cap' (rs ++ [(.slice (some ⟨g, 0, none⟩) n cap, natInts (doesL n c))])) := by
    rw [List.length_append, List.length_singleton]
    refine h7.perm (List.Perm.cons _ ?_)
    simp only [List.map_append, List.map_cons, List.map_nil]
    refine List.Perm.cons _ ?_
    exact List.perm_append_comm (l₁ := [(3, .slice (some ⟨g, 0, none⟩) n cap, vals (natInts (doesL n c)))]) (l₂ := rowItems rs)
  have hb1 : blocksOf (gatIts b1 aR seen.length cR rs) b1 := ⟨_, List.mem_cons_self, rfl⟩
  have t1 : Turn (blocksOf (gatIts b1 aR seen.length cR rs)) W (w3.alloc (.cells #[.slice (some ⟨g, 0, none⟩) n cap] 23)) := Turn.of (grown_trans hg3 (grown_alloc _ _))
  have t2 : Turn (blocksOf (gatIts b1 aR seen.length cR rs)) W w5 := by
    cases hv : (Value.slice aR seen.length cR).ownBlock with
    | none => rw [hv] at hg5; exact t1.grow hg5
    | some q => rw [hv] at hg5; exact t1.step hg5 (.inl ⟨_, List.mem_cons_of_mem _ List.mem_cons_self, hv⟩)
  refine ⟨_, ⟨some ⟨g', 0, none⟩, cap', _, by rw [List.map_append, List.map_append, h1]; rfl, h8, rfl⟩, t2.step (grown_set _ _ _) (.inl hb1), ?_, ?_⟩
  · rintro b ⟨it, hm, hb⟩
    rcases List.mem_cons.1 hm with rfl | hm
    · left; exact ⟨_, List.mem_cons_self, hb⟩
    · rcases List.mem_cons.1 hm with rfl | hm
      · have e : g' = b := by simpa [Value.ownBlock] using hb
        subst e
        rcases hat5 with e | e
        · left; exact ⟨_, List.mem_cons_of_mem _ List.mem_cons_self, e⟩
        · right; rw [e, World.size_alloc]; omega
      · simp only [List.map_append, List.map_cons, List.map_nil, List.mem_append, List.mem_singleton] at hm
        rcases hm with hm | rfl
        · left; exact ⟨it, List.mem_cons_of_mem _ (List.mem_cons_of_mem _ hm), hb⟩
        · have e : g = b := by simpa [Value.ownBlock] using hb
          right; omega
  · rintro b ⟨it, hm, hb⟩
    exact (h8.lt hm hb).2

set_option maxHeartbeats 1600000 in
set_option maxRecDepth 100000 in
theorem lookE_any (n B b1 b2 c : Nat) (seen : List Nat) (aN : Option Addr) (cN : Nat) (W : World) (S : Nat → Prop) (hJ : Gat n B b1 seen W S) (hS : ∀ b, S b → b < W.heap.size) (hb2 : W.cell? ⟨b2, 2, none⟩ = some (.slice aN n cN)) (hn1 : 1 ≤ n) (hn : n ≤ 5) (hsl : seen.length ≤ 4000) (hB : B ≤ W.heap.size) :
    Calls Try.prog 52 #[rowV c, .pointer (some ⟨b1, 0, none⟩), .pointer (some ⟨b2, 0, none⟩)] W (LookPost (Gat n B b1) seen c S (fun _ => false) W) := by
  obtain ⟨W1, hW1⟩ : ∃ W1, W1 = W.alloc (.cells #[.int .i64 ((dg c 0 : Nat) : Int), .int .i64 ((dg c 1 : Nat) : Int), .int .i64 ((dg c 2 : Nat) : Int), .int .i64 ((dg c 3 : Nat) : Int), .int .i64 ((dg c 4 : Nat) : Int)] 83) := ⟨_, rfl⟩
  have g1 : W.grownBy W1 none := by rw [hW1]; exact grown_alloc _ _
  have hk1 := heap_alloc_new W (.cells #[.int .i64 ((dg c 0 : Nat) : Int), .int .i64 ((dg c 1 : Nat) : Int), .int .i64 ((dg c 2 : Nat) : Int), .int .i64 ((dg c 3 : Nat) : Int), .int .i64 ((dg c 4 : Nat) : Int)] 83)
  rw [← hW1] at hk1
  obtain ⟨k0, k1, k2, k3, k4, _⟩ := block_cells5 hk1
  have HCl : Hid (∀ W', W1.grownBy W' none → Calls Try.prog 53 #[.slice (some ⟨W.heap.size, 0, none⟩) n 5] W' (ClonePost (natInts (doesL n c)) W')) := fun W' hW' => by
    have h1 := clone_any W.heap.size 0 5 (natInts (doesL n c)) W' (fun i hi => by
      have hi' : i < n := by simpa [doesL] using hi
      have e : (natInts (doesL n c)).getD i 0 = ((dg c i : Nat) : Int) := by simp [natInts, doesL, List.getD, hi']
      rw [Nat.zero_add, e]
      refine hW'.cell ?_ (by simp)
      rcases five (show i < 5 by omega) with rfl | rfl | rfl | rfl | rfl <;> assumption) (by simp [doesL]; omega) (by simp [doesL]; omega)
    have e : (natInts (doesL n c)).length = n := by simp [doesL]
    rw [e] at h1
    exact h1
  obtain ⟨aR, cR, hc1, _⟩ : ∃ (aR : Option Addr) (cR : Nat), W.cell? ⟨b1, 0, none⟩ = some (.slice aR seen.length cR) ∧ True := by
    obtain ⟨aR, cR, rs, _, h2, _⟩ := hJ
    exact ⟨aR, cR, h2.cell (i := 0) rfl, trivial⟩
  have HC1 : Hid (W.cell? ⟨b1, 0, none⟩ = some (.slice aR seen.length cR)) := hc1
  have x1 : W1.cell? ⟨b1, 0, none⟩ = some (.slice aR seen.length cR) := g1.cell hc1 (by simp)
  have x2 := g1.cell hb2 (by simp)
  have HP : Hid (∀ g cap w3, W1.grownBy w3 none → Owns W1.drew.heap.size w3 [(3, .slice (some ⟨g, 0, none⟩) n cap, vals (natInts (doesL n c)))] → w3.cell? ⟨b1, 0, none⟩ = some (.slice aR seen.length cR) ∧ (∀ ob, (w3.alloc ob).cell? ⟨b1, 0, none⟩ = some (.slice aR seen.length cR)) ∧ ∃ g' cap' w', (AppS #[22, 22] 22 #[.slice aR seen.length cR, .slice (some ⟨w3.heap.size, 0, none⟩) 1 1]).run Try.prog (w3.alloc (.cells #[.slice (some ⟨g, 0, none⟩) n cap] 23)) = .ok (.slice (some ⟨g', 0, none⟩) (seen.length + 1) cap') w' ∧
      w'.cell? ⟨b1, 0, none⟩ = some (.slice aR seen.length cR) ∧ w'.frozen? ⟨b1, 0, none⟩ = false ∧ LookPost (Gat n B b1) seen c S (fun _ => false) W (.returned (.bool false)) (w'.setCell ⟨b1, 0, none⟩ (.slice (some ⟨g', 0, none⟩) (seen.length + 1) cap'))) := fun g cap w3 hg ho => by
    obtain ⟨aR', cR', e1, h1⟩ := gat_push hJ hS hB hsl (grown_trans g1 hg) (ho.base g1.size)
    rw [hc1] at e1
    simp only [Option.some.injEq, Value.slice.injEq] at e1
    obtain ⟨rfl, _, rfl⟩ := e1
    exact ⟨hg.cell x1 (by simp), fun ob => (grown_trans hg (grown_alloc _ _)).cell x1 (by simp), h1⟩
  have HG1 : Hid (W1.grownBy W1.drew none) := grown_drew (grown_refl _ _)
  have HW1 : Hid (W1 = _) := hW1
  have hni : (n : Int) ≤ 5 := by omega
  unfold ClonePost at HCl
  have HLn : Hid ((natInts (doesL n c)).length = n) := by show _ = _; simp [doesL]
  rw [HLn.out] at HCl
  clear hJ hS hb2 hB g1 hk1 k0 k1 k2 k3 k4 hW1 hc1
  go_enter Try.func52, Try.ntmps52
  go_wp2_with fail
  rw [← HW1.out]
  go_region_with (go_at_call 53; refine (HCl.out _ HG1.out).mono ?_; rintro E w3 ⟨g, cap, rfl, ho3, hg3⟩; have hp3 := HP.out g cap w3 (grown_trans HG1.out hg3) ho3; obtain ⟨y1, y2, g', cap', w5, hrun5, y3, y4, fin⟩ := hp3; have Fin : Hid _ := fin; clear ho3 hg3 fin)
  all_goals
    go_wp2_with fail
    go_ret
    exact ⟨rfl, Fin.out.2⟩

end Go.Proofs.Ytofjboelplknhaa
