/- Numbers by thirteen parts: no program. -/
import Derived.Test.YtjinibofbpgfjaaDoorWeSpec
namespace Go.Proofs.YtjinibofbpgfjaaDoor
set_option linter.unusedVariables false

def bbN (i : Nat) : Int := 1000000000 ^ i
theorem bbN_pos (i : Nat) : 0 < bbN i := Int.pow_pos (by decide)
theorem bbN_succ (i : Nat) : bbN (i + 1) = bbN i * 1000000000 := Int.pow_succ _ _
theorem bbN_div (v : Int) (i : Nat) : v / bbN (i + 1) = v / bbN i / 1000000000 := by
  rw [bbN_succ, Int.ediv_ediv_of_nonneg (Int.le_of_lt (bbN_pos i))]
/-- The parts of a number. -/
def ptF (v : Int) (i : Nat) : Int := if i < 12 then v / bbN i % 1000000000 else v / bbN 12
/-- What parts from i on (as many as n) are together. -/
def tlF (l : Nat → Int) : Nat → Nat → Int
  | 0, _ => 0
  | n + 1, i => l i + 1000000000 * tlF l n (i + 1)
def valT (l : Nat → Int) : Int := tlF l 13 0
theorem tl_pt (v : Int) : ∀ n i, n + i = 13 → 0 < n → tlF (ptF v) n i = v / bbN i := by
  intro n
  induction n with
  | zero => intro i _ h; omega
  | succ n ih =>
    intro i h _
    unfold tlF
    by_cases h0 : n = 0
    · subst h0
      have e : i = 12 := by omega
      subst e
      show ptF v 12 + 1000000000 * 0 = v / bbN 12
      unfold ptF
      simp
    · rw [ih (i + 1) (by omega) (by omega)]
      have e : ptF v i = v / bbN i % 1000000000 := by unfold ptF; rw [if_pos (by omega)]
      rw [e, bbN_div]
      omega
theorem val_pt (v : Int) : valT (ptF v) = v := by
  have h := tl_pt v 13 0 rfl (by omega)
  have e : bbN 0 = 1 := rfl
  rw [e, Int.ediv_one] at h
  exact h
theorem tl_add (l m : Nat → Int) (t : Int) : ∀ n i, tlF (fun k => l k + m k * t) n i = tlF l n i + tlF m n i * t := by
  intro n
  induction n with
  | zero => intro i; show (0 : Int) = 0 + 0 * t; simp
  | succ n ih =>
    intro i
    show l i + m i * t + 1000000000 * tlF (fun k => l k + m k * t) n (i + 1) = l i + 1000000000 * tlF l n (i + 1) + (m i + 1000000000 * tlF m n (i + 1)) * t
    rw [ih, Int.mul_add, Int.add_mul, Int.mul_assoc]
    omega
theorem tl_congr {l m : Nat → Int} : ∀ n i, (∀ k, i ≤ k → k < i + n → l k = m k) → tlF l n i = tlF m n i := by
  intro n
  induction n with
  | zero => intro i _; rfl
  | succ n ih =>
    intro i h
    show l i + 1000000000 * tlF l n (i + 1) = m i + 1000000000 * tlF m n (i + 1)
    rw [h i (Nat.le_refl _) (by omega), ih (i + 1) fun k h1 h2 => h k (by omega) (by omega)]
/-- What is carried. -/
def cS (l : Nat → Int) : Nat → Int
  | 0 => l 0
  | i + 1 => l (i + 1) + cS l i / 1000000000
theorem cS_tl (l : Nat → Int) : ∀ i, i ≤ 12 → cS l i + 1000000000 * tlF l (12 - i) (i + 1) = valT l / bbN i := by
  intro i
  induction i with
  | zero =>
    intro _
    have e : bbN 0 = 1 := rfl
    rw [e, Int.ediv_one]
    rfl
  | succ i ih =>
    intro h
    rw [bbN_div, ← ih (by omega)]
    have e : 12 - i = (12 - (i + 1)) + 1 := by omega
    rw [e]
    show l (i + 1) + cS l i / 1000000000 + 1000000000 * tlF l (12 - (i + 1)) (i + 1 + 1) = (cS l i + 1000000000 * (l (i + 1) + 1000000000 * tlF l (12 - (i + 1)) (i + 1 + 1))) / 1000000000
    omega
def carN (l : Nat → Int) (i j : Nat) : Int := if j < i then cS l j % 1000000000 else if j = i then cS l i else l j
theorem carN_zero (l : Nat → Int) (j : Nat) : carN l 0 j = l j := by
  unfold carN
  rw [if_neg (by omega)]
  by_cases h : j = 0
  · subst h; rfl
  · rw [if_neg h]
theorem carN_end (l : Nat → Int) {j : Nat} (hj : j < 13) : carN l 12 j = ptF (valT l) j := by
  have h := cS_tl l j (by omega)
  unfold carN ptF
  by_cases h1 : j < 12
  · rw [if_pos h1, if_pos h1, ← h]
    omega
  · have e : j = 12 := by omega
    subst e
    rw [if_neg (by omega), if_pos rfl, if_neg (by omega), ← h]
    show cS l 12 = cS l 12 + 1000000000 * 0
    omega
theorem carN_step (l : Nat → Int) (i j : Nat) : carN l (i + 1) j = if j = i + 1 then l (i + 1) + cS l i / 1000000000 else if j = i then cS l i % 1000000000 else carN l i j := by
  unfold carN
  by_cases h1 : j = i + 1
  · subst h1
    rw [if_neg (by omega), if_pos rfl, if_pos rfl]
    rfl
  · by_cases h2 : j = i
    · subst h2
      rw [if_pos (by omega), if_neg h1, if_pos rfl]
    · by_cases h3 : j < i
      · rw [if_pos (by omega), if_neg h1, if_neg h2, if_pos h3]
      · rw [if_neg (by omega), if_neg h1, if_neg h1, if_neg h2, if_neg h3, if_neg h2]
theorem cS_bd {l : Nat → Int} (h : ∀ k, k < 13 → -1000000000000000 ≤ l k ∧ l k ≤ 1000000000000000) : ∀ i, i < 13 → -2000000000000000 ≤ cS l i ∧ cS l i ≤ 2000000000000000 := by
  intro i
  induction i with
  | zero => intro hi; have := h 0 hi; show -2000000000000000 ≤ l 0 ∧ l 0 ≤ _; omega
  | succ i ih =>
    intro hi
    have h1 := h (i + 1) hi
    have h2 := ih (by omega)
    show -2000000000000000 ≤ l (i + 1) + cS l i / 1000000000 ∧ l (i + 1) + cS l i / 1000000000 ≤ _
    omega
/-- A number that has room in thirteen parts. -/
def RoomN (v : Int) : Prop := -bbN 13 ≤ v ∧ v < bbN 13
theorem pt_bd {v : Int} (h : RoomN v) (k : Nat) : -1000000000 ≤ ptF v k ∧ ptF v k < 1000000000 := by
  unfold ptF
  by_cases h1 : k < 12
  · rw [if_pos h1]; omega
  · rw [if_neg h1]
    have e : bbN 13 = 1000000000 * bbN 12 := by rw [bbN_succ, Int.mul_comm]
    obtain ⟨h2, h3⟩ := h
    rw [e] at h2 h3
    have hp := bbN_pos 12
    constructor
    · rw [Int.le_ediv_iff_mul_le hp]
      rw [Int.neg_mul]; exact h2
    · exact Int.ediv_lt_of_lt_mul hp h3
theorem pt_nonneg {v : Int} (h : 0 ≤ v) (k : Nat) : 0 ≤ ptF v k := by
  unfold ptF
  split
  · omega
  · exact Int.ediv_nonneg h (Int.le_of_lt (bbN_pos 12))
theorem pt_last (v : Int) : ptF v 12 < 0 ↔ v < 0 := by
  have hp := bbN_pos 12
  unfold ptF
  rw [if_neg (by omega)]
  constructor
  · intro h
    rcases Int.lt_or_le v 0 with h1 | h1
    · exact h1
    · have := Int.ediv_nonneg h1 (Int.le_of_lt hp); omega
  · intro h
    exact Int.ediv_neg_of_neg_of_pos h hp
/-- What has been added up when i of a row are taken. -/
def totF (V t : List Int) (i k : Nat) : Int := (List.range i).foldl (fun s m => s + ptF (V.getD m 0) k * t.getD m 0) 0
theorem totF_zero (V t : List Int) (k : Nat) : totF V t 0 k = 0 := rfl
theorem totF_succ (V t : List Int) (i k : Nat) : totF V t (i + 1) k = totF V t i k + ptF (V.getD i 0) k * t.getD i 0 := by unfold totF; rw [List.range_succ, List.foldl_append]; rfl
theorem totF_bd {V t : List Int} (hV : ∀ v, v ∈ V → RoomN v) (ht : InW t 9) (hl : t.length = V.length) (k : Nat) : ∀ i, i ≤ V.length → -((i : Int) * 9000000000) ≤ totF V t i k ∧ totF V t i k ≤ (i : Int) * 9000000000 := by
  intro i
  induction i with
  | zero => intro _; rw [totF_zero]; omega
  | succ i ih =>
    intro hi
    have h := ih (by omega)
    rw [totF_succ]
    have e1 : V.getD i 0 ∈ V := by rw [List.getD_eq_getElem?_getD, List.getElem?_eq_getElem (by omega)]; exact List.getElem_mem _
    have e2 : t.getD i 0 ∈ t := by rw [List.getD_eq_getElem?_getD, List.getElem?_eq_getElem (by omega)]; exact List.getElem_mem _
    have h1 := pt_bd (hV _ e1) k
    have h2 := ht _ e2
    have e : ((ptF (V.getD i 0) k) * t.getD i 0).natAbs ≤ 1000000000 * 9 := by rw [Int.natAbs_mul]; exact Nat.mul_le_mul (by omega) (by omega)
    omega
theorem dot_snocV {V t : List Int} (hl : t.length = V.length) {i : Nat} (hi : i < V.length) : dotW (V.take (i + 1)) (t.take (i + 1)) = dotW (V.take i) (t.take i) + V.getD i 0 * t.getD i 0 := by
  have e : ∀ l : List Int, i < l.length → l.take (i + 1) = l.take i ++ [l.getD i 0] := fun l h => by
    rw [List.take_add_one, List.getElem?_eq_getElem h, List.getD_eq_getElem?_getD, List.getElem?_eq_getElem h]; rfl
  rw [e V hi, e t (by omega), dotW_app (by simp; omega)]
  show _ + (V.getD i 0 * t.getD i 0 + 0) = _
  omega
theorem tot_val {V t : List Int} (hl : t.length = V.length) : ∀ i, i ≤ V.length → valT (totF V t i) = dotW (V.take i) (t.take i) := by
  intro i
  induction i with
  | zero =>
    intro _
    show tlF (fun k => 0) 13 0 = 0
    rfl
  | succ i ih =>
    intro hi
    rw [dot_snocV hl (by omega), ← ih (by omega)]
    have e : totF V t (i + 1) = fun k => totF V t i k + ptF (V.getD i 0) k * t.getD i 0 := funext fun k => totF_succ V t i k
    rw [e]
    unfold valT
    rw [tl_add]
    have := val_pt (V.getD i 0)
    unfold valT at this
    rw [this]
theorem tot_end {V t : List Int} (hl : t.length = V.length) : valT (totF V t V.length) = dotW V t := by
  have h := tot_val hl V.length (Nat.le_refl _)
  have e : t.take V.length = t := by rw [← hl, List.take_length]
  rwa [List.take_length, e] at h
/-- How large what words weigh is. -/
def h72 (k : Nat) : Int := 9 * 72 ^ k
theorem h72_pos (k : Nat) : 0 < h72 k := by have : (0 : Int) < 72 ^ k := Int.pow_pos (by decide); unfold h72; omega
theorem h72_succ (k : Nat) : h72 (k + 1) = h72 k * 72 := by unfold h72; rw [Int.pow_succ]; omega
def Bd72 (r : List Int) (k : Nat) : Prop := ∀ x, x ∈ r → (x.natAbs : Int) ≤ h72 k
theorem bd72_dot {r c : List Int} {k : Nat} (hr : Bd72 r k) (hc : InW c 9) (hl : c.length ≤ 8) : ((dotW r c).natAbs : Int) ≤ h72 (k + 1) := by
  have hp := h72_pos k
  have h := abs_dot (P := h72 k) hr (by omega) hc
  have e : 9 * h72 k * (c.length : Int) ≤ 9 * h72 k * 8 := Int.mul_le_mul_of_nonneg_left (by omega) (by omega)
  rw [h72_succ]
  omega
theorem bd72_by {x : WgI} (h : GoodWg x) {r : List Int} {l k : Nat} (hl : l < x.S.length) (hr : Bd72 r k) : Bd72 (byW r (tabW x l)) (k + 1) := fun z hz => by
  unfold byW at hz
  obtain ⟨i, hi, rfl⟩ := List.mem_map.1 hz
  have s := h.shape.2.2 _ (tabW_mem hl)
  exact bd72_dot hr (colW_in (n := 0) (h.within.2.2 _ (tabW_mem hl)) (fun r hr => by rw [s.2 r hr, ← s.1]; exact List.mem_range.1 hi)) (by rw [colW_len, s.1]; exact h.size.2)
theorem h72_room {k : Nat} (h : k ≤ 61) : h72 k < bbN 13 := by
  have e : h72 k ≤ h72 61 := by
    unfold h72
    have h2 : (72 : Nat) ^ k ≤ 72 ^ 61 := Nat.pow_le_pow_right (by decide) h
    have e1 : ((72 ^ k : Nat) : Int) = (72 : Int) ^ k := by rw [Int.natCast_pow]; rfl
    have e2 : ((72 ^ 61 : Nat) : Int) = (72 : Int) ^ 61 := by rw [Int.natCast_pow]; rfl
    have : (72 : Int) ^ k ≤ 72 ^ 61 := by rw [← e1, ← e2]; exact Int.ofNat_le.2 h2
    omega
  have e2 : h72 61 < bbN 13 := by decide
  omega
theorem room72 {v : Int} {k : Nat} (h : (v.natAbs : Int) ≤ h72 k) (hk : k ≤ 61) : RoomN v := by
  have := h72_room hk
  unfold RoomN
  omega
end Go.Proofs.YtjinibofbpgfjaaDoor
