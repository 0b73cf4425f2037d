/- Two automata and a table: all pairs of states, numbered (no program). -/
/- The reference's Mixed: what holds while it goes. -/
import Derived.Test.YtofjboelplknhaaBClos
import Derived.Test.YtofjboelplknhaaHLeastD
import Derived.Test.YtofjboelplknhaaLMath
import Derived.Test.YtofjboelplknhaaBBes
namespace Go.Proofs.Ytofjboelplknhaa
open Go.RowKit
set_option linter.unusedVariables false

section
variable {δ δ' : Nat → Nat → Nat} {m m' : Nat → Bool} {n l S : Nat}
theorem fold_congr (hδ : ∀ s a, s < n → a < l → δ s a < n) (e1 : ∀ s a, s < n → a < l → δ s a = δ' s a) (z : List Nat) : ∀ s, s < n → (∀ x, x ∈ z → x < l) → z.foldl δ s = z.foldl δ' s ∧ z.foldl δ s < n := by
  induction z with
  | nil => intro s hs _; exact ⟨rfl, hs⟩
  | cons a z ih =>
    intro s hs hz
    simp only [List.foldl_cons]
    rw [← e1 s a hs (hz a (by simp))]
    exact ih _ (hδ _ _ hs (hz a (by simp))) (fun x hx => hz x (by simp [hx]))
theorem ner_congr (hδ : ∀ s a, s < n → a < l → δ s a < n) (e1 : ∀ s a, s < n → a < l → δ s a = δ' s a) (e2 : ∀ s, s < n → m s = m' s) {p q : Nat} (hp : p < n) (hq : q < n) : Ner δ m l p q ↔ Ner δ' m' l p q := by
  have key : ∀ z : List Nat, (∀ a, a ∈ z → a < l) → m (z.foldl δ p) = m' (z.foldl δ' p) ∧ m (z.foldl δ q) = m' (z.foldl δ' q) := fun z hz => by
    obtain ⟨h1, h2⟩ := fold_congr hδ e1 z p hp hz
    obtain ⟨h3, h4⟩ := fold_congr hδ e1 z q hq hz
    exact ⟨by rw [← h1]; exact e2 _ h2, by rw [← h3]; exact e2 _ h4⟩
  constructor
  · intro h z hz
    obtain ⟨h1, h2⟩ := key z hz
    rw [← h1, ← h2]; exact h z hz
  · intro h z hz
    obtain ⟨h1, h2⟩ := key z hz
    rw [h1, h2]; exact h z hz
theorem LeastOf.congr {R : List (List Int)} {M : List Int} (hδ : ∀ s a, s < n → a < l → δ s a < n) (hS : S < n) (e1 : ∀ s a, s < n → a < l → δ s a = δ' s a) (e2 : ∀ s, s < n → m s = m' s) (h : LeastOf δ m n l S R M) : LeastOf δ' m' n l S R M := by
  intro κ hκ
  obtain ⟨k, e, r1, m1⟩ := h κ (fun p q hp hq => (hκ p q hp hq).trans (ner_congr hδ e1 e2 hp hq).symm)
  have h0 : S < n ∧ S = S := ⟨hS, rfl⟩
  have hs : ∀ x y a, (x < n ∧ x = y) → a < l → (δ x a < n ∧ δ x a = δ' y a) := fun x y a hx ha => ⟨hδ _ _ hx.1 ha, by rw [← hx.2]; exact e1 _ _ hx.1 ha⟩
  have hk : ∀ x y x' y', (x < n ∧ x = y) → (x' < n ∧ x' = y') → (κ x = κ x' ↔ κ y = κ y') := fun x y x' y' h1 h2 => by rw [h1.2, h2.2]
  have hb := beside_bfs (κ1 := κ) (κ2 := κ) (δ1 := δ) (δ2 := δ') (l := l) (ρ := fun x y => x < n ∧ x = y) h0 hs hk
  have e' : IsEnd (bfsL κ δ' l S) k := ⟨by rw [← (hb k).1]; exact e.len, fun i hi => by rw [← (hb i).1]; exact e.go i hi⟩
  obtain ⟨r2, m2⟩ := beside_res (m1 := m) (m2 := m') (ρ := fun x y => x < n ∧ x = y) h0 hs hk (fun x y h1 => by rw [← h1.2]; exact e2 _ h1.1) e e'
  exact ⟨k, e', r1.trans r2, m1.trans m2⟩
end

/-- All pairs. -/
def prodR (d e : Dfa) (l : Nat) : List (List Int) := (List.range (d.R.length * e.R.length)).map fun s => (List.range l).map fun b => ((nx2 d e e.R.length s b : Nat) : Int)
def prodM (t : Int) (d e : Dfa) : List Int := (List.range (d.R.length * e.R.length)).map fun s => bitOf t (d.M.getD (pxx e.R.length s) 0) (e.M.getD (pyy e.R.length s) 0)
section
variable {d e : Dfa} {l s : Nat} {s0 t : Int}
theorem prodR_len : (prodR d e l).length = d.R.length * e.R.length := by simp [prodR]
theorem prodM_len : (prodM t d e).length = d.R.length * e.R.length := by simp [prodM]
theorem prodR_get (hs : s < d.R.length * e.R.length) : (prodR d e l).getD s [] = (List.range l).map fun b => ((nx2 d e e.R.length s b : Nat) : Int) := by simp [prodR, List.getD, hs]
theorem prodM_get (hs : s < d.R.length * e.R.length) : (prodM t d e).getD s 0 = bitOf t (d.M.getD (pxx e.R.length s) 0) (e.M.getD (pyy e.R.length s) 0) := by simp [prodM, List.getD, hs]
theorem prod_nx {b : Nat} (hs : s < d.R.length * e.R.length) (hb : b < l) : Dfa.nx ⟨l, s0, prodR d e l, prodM t d e⟩ s b = nx2 d e e.R.length s b := by
  unfold Dfa.nx
  simp only
  rw [prodR_get hs]
  simp [List.getD, hb]
theorem prod_mk (hs : s < d.R.length * e.R.length) : Dfa.mk1 ⟨l, s0, prodR d e l, prodM t d e⟩ s = mk2 t d e e.R.length s := by
  show decide ((prodM t d e).getD s 0 = 1) = mk2 t d e e.R.length s
  rw [prodM_get hs]
  unfold mk2
  rfl
end

/-- A table's number is 0 or 1. -/
theorem bit_01 {t x y : Int} (ht : 0 ≤ t ∧ t ≤ 15) (hx : x = 0 ∨ x = 1) (hy : y = 0 ∨ y = 1) : bitOf t x y = 0 ∨ bitOf t x y = 1 := by
  have h : t = 0 ∨ t = 1 ∨ t = 2 ∨ t = 3 ∨ t = 4 ∨ t = 5 ∨ t = 6 ∨ t = 7 ∨ t = 8 ∨ t = 9 ∨ t = 10 ∨ t = 11 ∨ t = 12 ∨ t = 13 ∨ t = 14 ∨ t = 15 := by omega
  rcases hx with rfl | rfl <;> rcases hy with rfl | rfl <;> rcases h with rfl | rfl | rfl | rfl | rfl | rfl | rfl | rfl | rfl | rfl | rfl | rfl | rfl | rfl | rfl | rfl <;> first | exact .inl rfl | exact .inr rfl | (left; decide) | (right; decide)
theorem prod_good {d e : Dfa} {l st st' : Nat} {t : Int} (hG : Good d) (hG2 : Good e) (hl : d.L = l) (hl2 : e.L = l) (hN : d.R.length * e.R.length ≤ 3000) (ht : 0 ≤ t ∧ t ≤ 15) (hs : st < d.R.length) (hs' : st' < e.R.length) : Good ⟨l, ((st * e.R.length + st' : Nat) : Int), prodR d e l, prodM t d e⟩ := by
  have h0 := cod_lt hs hs'
  have l1 := hG.l1
  have l4 := hG.l4
  refine ⟨by simp only; omega, by simp only; omega, by simp only [prodR_len]; omega, by simp only [prodR_len]; exact hN, by simp only [prodR_len, prodM_len], fun i hi => ?_, fun i hi b hb => ?_, by simp only [prodR_len]; omega, fun i hi => ?_⟩
  · simp only [prodR_len] at hi ⊢
    rw [prodR_get hi]; simp
  · simp only [prodR_len] at hi ⊢
    simp only at hb
    rw [prodR_get hi] at hb ⊢
    have hbl : b < l := by simpa using hb
    have := cod_lt (hG.nx_lt (s := pxx e.R.length i) (a := b) (pxx_lt hi) (by omega)) (hG2.nx_lt (s := pyy e.R.length i) (a := b) (pyy_lt hi) (by omega))
    have e1 : ((List.range l).map fun b => ((nx2 d e e.R.length i b : Nat) : Int)).getD b 0 = ((nx2 d e e.R.length i b : Nat) : Int) := by simp [List.getD, hbl]
    rw [e1]
    unfold nx2
    omega
  · simp only [prodM_len] at hi ⊢
    rw [prodM_get hi]
    exact bit_01 ht (hG.m _ (by rw [hG.ml]; exact pxx_lt hi)) (hG2.m _ (by rw [hG2.ml]; exact pyy_lt hi))

end Go.Proofs.Ytofjboelplknhaa

namespace Go.Proofs.Ytofjboelplknhaa
open Go.RowKit
set_option linter.unusedVariables false

section
variable {bo l : Nat} {S : Int} {W1 w : World} {aN : Option Addr} {nN cN : Nat} {aM : Option Addr} {nM cM : Nat} {F : List Value} {Ms : List Int} {mvs : List (Value × List Int)} {D : List Item}
theorem BsAt.bare (h : BsAt bo l S W1 w aN nN cN aM nM cM F Ms mvs []) : BsAt bo l S W1 w aN nN cN aM nM cM F Ms mvs [(3, .slice none 0 0, vals [])] := ⟨to_4 (h.own.empty 3), h.old⟩
theorem BsAt.putI {ag : Option Addr} {n c H : Nat} {zs : List Int} (h : BsAt bo l S W1 w aN nN cN aM nM cM F Ms mvs [(3, .slice ag n c, vals zs)]) (hH : w.heap.size = H) (hl : zs.length ≤ 100000000) (x : Int) :
    ∃ g cap w', (AppS #[23, 23] 23 #[.slice ag n c, .slice (some ⟨H, 0, none⟩) 1 1]).run Try.prog (w.alloc (.cells #[.int .i64 x] 3)) = .ok (.slice (some ⟨g, 0, none⟩) (n + 1) cap) w' ∧
      BsAt bo l S W1 w' aN nN cN aM nM cM F Ms mvs [(3, .slice (some ⟨g, 0, none⟩) (n + 1) cap, vals (zs ++ [x]))] := by
  obtain ⟨g, cap, w', hr, ho, hk⟩ := push_int (at_4 h.own) h.old.size hH hl x
  exact ⟨g, cap, w', hr, ⟨to_4 ho, hk W1 (Nat.le_refl _) h.old⟩⟩
theorem BsAt.putM {H : Nat} (h : BsAt bo l S W1 w aN nN cN aM nM cM F Ms mvs D) (hH : w.heap.size = H) (hl : Ms.length ≤ 100000000) (x : Int) :
    ∃ g cap w', (AppS #[23, 23] 23 #[.slice aM nM cM, .slice (some ⟨H, 0, none⟩) 1 1]).run Try.prog (w.alloc (.cells #[.int .i64 x] 3)) = .ok (.slice (some ⟨g, 0, none⟩) (nM + 1) cap) w' ∧ w'.cell? ⟨bo, 3, none⟩ = some (.slice aM nM cM) ∧ w'.frozen? ⟨bo, 3, none⟩ = false ∧
      BsAt bo l S W1 (w'.setCell ⟨bo, 3, none⟩ (.slice (some ⟨g, 0, none⟩) (nM + 1) cap)) aN nN cN (some ⟨g, 0, none⟩) (nM + 1) cap F (Ms ++ [x]) mvs D := by
  obtain ⟨g, cap, w', hr, ho, hk⟩ := push_int (at_3 h.own) h.old.size hH hl x
  have h2 := to_3 ho
  exact ⟨g, cap, w', hr, h2.cell rfl, h2.fz 3, ⟨h2.set (i := 3) (by decide) _, (hk.set h2.ge.1 _ _) W1 (Nat.le_refl _) h.old⟩⟩
end

/-- All pairs up to the N-th are there. -/
structure MxAt (d e : Dfa) (t : Int) (bo l : Nat) (S : Int) (W1 : World) (N : Nat) (w : World) (aN : Option Addr) (cN : Nat) (aM : Option Addr) (cM : Nat) (mvs : List (Value × List Int)) (D : List Item) : Prop where
  at_ : BsAt bo l S W1 w aN N cN aM N cM (mvs.map (·.1)) ((prodM t d e).take N) mvs D
  len : mvs.length = N
  rows : mvs.map (·.2) = (prodR d e l).take N
/-- The first numbers of a row. -/
def mxRow (d e : Dfa) (N x : Nat) : List Int := (List.range x).map fun b => ((nx2 d e e.R.length N b : Nat) : Int)
theorem mxRow_len (d e : Dfa) (N x : Nat) : (mxRow d e N x).length = x := by simp [mxRow]
theorem mxRow_snoc (d e : Dfa) (N x : Nat) : mxRow d e N x ++ [((nx2 d e e.R.length N x : Nat) : Int)] = mxRow d e N (x + 1) := by simp [mxRow, List.range_succ]
/-- A row is there, its mark is not. -/
structure MyAt (d e : Dfa) (t : Int) (bo l : Nat) (S : Int) (W1 : World) (N : Nat) (w : World) (aN : Option Addr) (cN : Nat) (aM : Option Addr) (cM : Nat) (mvs : List (Value × List Int)) : Prop where
  at_ : BsAt bo l S W1 w aN (N + 1) cN aM N cM (mvs.map (·.1)) ((prodM t d e).take N) mvs []
  len : mvs.length = N + 1
  rows : mvs.map (·.2) = (prodR d e l).take (N + 1)
section
variable {d e : Dfa} {t S : Int} {bo l N : Nat} {W1 w : World} {aN aM : Option Addr} {cN cM : Nat} {mvs : List (Value × List Int)} {D : List Item}
theorem MxAt.bare (h : MxAt d e t bo l S W1 N w aN cN aM cM mvs []) : MxAt d e t bo l S W1 N w aN cN aM cM mvs [(3, .slice none 0 0, vals (mxRow d e N 0))] := ⟨h.at_.bare, h.len, h.rows⟩
theorem MxAt.kept {w' : World} (h : MxAt d e t bo l S W1 N w aN cN aM cM mvs D) (hg : w.grownBy w' none) : MxAt d e t bo l S W1 N w' aN cN aM cM mvs D := ⟨h.at_.kept hg, h.len, h.rows⟩
theorem MxAt.putI {ag : Option Addr} {x c H : Nat} (h : MxAt d e t bo l S W1 N w aN cN aM cM mvs [(3, .slice ag x c, vals (mxRow d e N x))]) (hH : w.heap.size = H) (hx : x ≤ 10) :
    ∃ g cap w', (AppS #[23, 23] 23 #[.slice ag x c, .slice (some ⟨H, 0, none⟩) 1 1]).run Try.prog (w.alloc (.cells #[.int .i64 ((nx2 d e e.R.length N x : Nat) : Int)] 3)) = .ok (.slice (some ⟨g, 0, none⟩) (x + 1) cap) w' ∧
      MxAt d e t bo l S W1 N w' aN cN aM cM mvs [(3, .slice (some ⟨g, 0, none⟩) (x + 1) cap, vals (mxRow d e N (x + 1)))] := by
  obtain ⟨g, cap, w', hr, hb⟩ := h.at_.putI hH (by rw [mxRow_len]; omega) ((nx2 d e e.R.length N x : Nat) : Int)
  rw [mxRow_snoc] at hb
  exact ⟨g, cap, w', hr, ⟨hb, h.len, h.rows⟩⟩
theorem MxAt.putR {ag : Option Addr} {c H : Nat} (h : MxAt d e t bo l S W1 N w aN cN aM cM mvs [(3, .slice ag l c, vals (mxRow d e N l))]) (hH : w.heap.size = H) (hl : 1 ≤ l) (hN : N < d.R.length * e.R.length) (hN3 : N ≤ 100000000) :
    ∃ g, ag = some ⟨g, 0, none⟩ ∧ ∃ g' cap w', (AppS #[22, 22] 22 #[.slice aN N cN, .slice (some ⟨H, 0, none⟩) 1 1]).run Try.prog (w.alloc (.cells #[.slice (some ⟨g, 0, none⟩) l c] 23)) = .ok (.slice (some ⟨g', 0, none⟩) (N + 1) cap) w' ∧ w'.cell? ⟨bo, 2, none⟩ = some (.slice aN N cN) ∧ w'.frozen? ⟨bo, 2, none⟩ = false ∧
      MyAt d e t bo l S W1 N (w'.setCell ⟨bo, 2, none⟩ (.slice (some ⟨g', 0, none⟩) (N + 1) cap)) (some ⟨g', 0, none⟩) cap aM cM (mvs ++ [(.slice (some ⟨g, 0, none⟩) l c, mxRow d e N l)]) := by
  obtain ⟨g, rfl⟩ := (at_4 h.at_.own).formM List.mem_cons_self (by rw [vals_len, mxRow_len]; omega)
  refine ⟨g, rfl, ?_⟩
  obtain ⟨g', cap, w', hr, hc, hf, hb⟩ := h.at_.putR hH (by rw [List.length_map, h.len]; exact hN3)
  refine ⟨g', cap, w', hr, hc, hf, ⟨?_, by simp [h.len], ?_⟩⟩
  · rw [List.map_append]; exact hb
  · have e1 : (prodR d e l)[N]? = some (mxRow d e N l) := by simp [prodR, mxRow, hN]
    rw [List.map_append, h.rows, List.take_add_one, e1]
    rfl
theorem MyAt.box (h : MyAt d e t bo l S W1 N w aN cN aM cM mvs) : w.cell? ⟨bo, 3, none⟩ = some (.slice aM N cM) := h.at_.box.2.2.2.1
theorem MyAt.kept {w' : World} (h : MyAt d e t bo l S W1 N w aN cN aM cM mvs) (hg : w.grownBy w' none) : MyAt d e t bo l S W1 N w' aN cN aM cM mvs := ⟨h.at_.kept hg, h.len, h.rows⟩
theorem MyAt.putM {H : Nat} (h : MyAt d e t bo l S W1 N w aN cN aM cM mvs) (hH : w.heap.size = H) (hN : N < d.R.length * e.R.length) (hN3 : N ≤ 100000000) {x : Int} (hx : bitOf t (d.M.getD (pxx e.R.length N) 0) (e.M.getD (pyy e.R.length N) 0) = x) :
    ∃ g cap w', (AppS #[23, 23] 23 #[.slice aM N cM, .slice (some ⟨H, 0, none⟩) 1 1]).run Try.prog (w.alloc (.cells #[.int .i64 x] 3)) = .ok (.slice (some ⟨g, 0, none⟩) (N + 1) cap) w' ∧ w'.cell? ⟨bo, 3, none⟩ = some (.slice aM N cM) ∧ w'.frozen? ⟨bo, 3, none⟩ = false ∧
      MxAt d e t bo l S W1 (N + 1) (w'.setCell ⟨bo, 3, none⟩ (.slice (some ⟨g, 0, none⟩) (N + 1) cap)) aN cN (some ⟨g, 0, none⟩) cap mvs [] := by
  obtain ⟨g, cap, w', hr, hc, hf, hb⟩ := h.at_.putM hH (by rw [List.length_take]; omega) x
  refine ⟨g, cap, w', hr, hc, hf, ⟨?_, h.len, h.rows⟩⟩
  have e1 : (prodM t d e)[N]? = some x := by
    rw [← hx]; simp [prodM, hN]
  rw [List.take_add_one, e1]
  exact hb
/-- All are there. -/
theorem MxAt.whole (h : MxAt d e t bo l S W1 N w aN cN aM cM mvs []) (hN : N = d.R.length * e.R.length) (hN3 : N ≤ 3000) (hl : l ≤ 4) : DetAt w ⟨l, S, prodR d e l, prodM t d e⟩ aN aM := by
  have e1 : (prodR d e l).take N = prodR d e l := List.take_of_length_le (by rw [prodR_len]; omega)
  have e2 : (prodM t d e).take N = prodM t d e := List.take_of_length_le (by rw [prodM_len]; omega)
  have h1 := h.at_.own
  rw [e2] at h1
  have h2 : Owns W1.heap.size w ((23, .slice aN N cN, mvs.map (·.1)) :: (3, .slice aM N cM, vals (prodM t d e)) :: (rowItems mvs ++ [(25, .slice (some ⟨bo, 0, none⟩) 4 4, [.int .i64 (l : Int), .int .i64 S, .slice aN N cN, .slice aM N cM])])) := by
    refine h1.perm ?_
    rw [List.nil_append]
    exact List.perm_append_comm (l₁ := [(25, .slice (some ⟨bo, 0, none⟩) 4 4, [.int .i64 (l : Int), .int .i64 S, .slice aN N cN, .slice aM N cM])]) (l₂ := (23, .slice aN N cN, mvs.map (·.1)) :: (3, .slice aM N cM, vals (prodM t d e)) :: rowItems mvs)
  have h3 := det_of_owns (L := (l : Int)) (S := S) h2 (fun x hx => by
    have h4 : x.2 ∈ mvs.map (·.2) := List.mem_map.2 ⟨x, hx, rfl⟩
    rw [h.rows, e1] at h4
    obtain ⟨y, _, hy⟩ := List.mem_map.1 h4
    rw [← hy]; simp [maxLen]; omega) (by rw [h.len]; unfold maxLen; omega) (by rw [prodM_len]; unfold maxLen; omega)
  rw [h.rows, e1] at h3
  exact h3
end

end Go.Proofs.Ytofjboelplknhaa
