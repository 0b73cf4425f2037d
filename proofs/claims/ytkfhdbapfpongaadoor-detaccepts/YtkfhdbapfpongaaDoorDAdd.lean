/- Numbers in digits, as the reference adds them up. -/
import Derived.Test.YtkfhdbapfpongaaDoorDDigits
namespace Go.Proofs.YtkfhdbapfpongaaDoor
open Go.RowKit
set_option linter.unusedVariables false

/-- Numbers that lie in memory of one's own, from block B on. -/
def Own (B : Nat) (w : World) (v : Value) (zs : List Int) : Prop := w.ownsRow B 3 1 v zs.length (zs.map (Value.int .i64)) ∧ ∃ a c, v = .slice a zs.length c

theorem Own.nil (B : Nat) (w : World) : Own B w (.slice none 0 0) [] := ⟨World.ownsRow_nil w B 3 1, none, 0, rfl⟩
theorem Own.kept {B : Nat} {w w' : World} {v : Value} {zs : List Int} (h : Own B w v zs) (hg : w.grownBy w' none) : Own B w' v zs := ⟨h.1.kept hg (by cases v.ownBlock <;> simp), h.2⟩
theorem Own.ints {B : Nat} {w : World} {a : Option Addr} {n c : Nat} {zs : List Int} (h : Own B w (.slice a n c) zs) : n = zs.length ∧ Ints w a zs := by
  obtain ⟨h1, a', c', e⟩ := h
  cases e
  refine ⟨rfl, ?_⟩
  by_cases h0 : zs.length = 0
  · left; exact List.length_eq_zero_iff.1 h0
  · right
    obtain ⟨g, cap, e, _, _⟩ := h1.form (by omega)
    cases e
    refine ⟨g, 0, rfl, fun i hi => ?_⟩
    have := h1.cells (g := g) rfl i (.int .i64 (zs.getD i 0)) (by simp [List.getD, hi])
    rwa [add_off] at this
theorem ownsRow_base {B B' n size : Nat} {w : World} {e : TypeId} {v : Value} {xs : List Value} (h : w.ownsRow B e size v n xs) (hB : B' ≤ B) : w.ownsRow B' e size v n xs := by
  obtain ⟨h1, h2⟩ := h
  refine ⟨h1, ?_⟩
  rcases h2 with h2 | ⟨g, cap, cur, h3, h4, h5⟩
  · exact .inl h2
  · exact .inr ⟨g, cap, cur, h3, Nat.le_trans hB h4, h5⟩
theorem Own.base {B B' : Nat} {w : World} {v : Value} {zs : List Int} (h : Own B w v zs) (hB : B' ≤ B) : Own B' w v zs := ⟨ownsRow_base h.1 hB, h.2⟩
/-- What was old stays, where memory of one's own was written. -/
theorem Own.frame {B : Nat} {w W w' : World} {v : Value} {zs : List Int} (h : Own B W v zs) (hB : w.heap.size ≤ B) (h1 : w.grownBy W none) (h2 : W.grownBy w' v.ownBlock) : w.grownBy w' none :=
  grown_of_below ((below_of_grown h1).grown h2 h1.size (fun k hk => Nat.le_trans hB (h.1.lt k hk).1))

theorem add_step (x y p : Nat) (hp : 0 < p) : (x + y) / p = x / p + y / p + (x % p + y % p) / p := by
  have h1 := Nat.div_add_mod x p
  have h2 := Nat.div_add_mod y p
  have e : x + y = (x % p + y % p) + p * (x / p + y / p) := by rw [Nat.mul_add]; omega
  have h3 : (x + y) / p = ((x % p + y % p) + p * (x / p + y / p)) / p := by rw [← e]
  rw [h3, Nat.add_mul_div_left _ _ hp]
  omega

theorem add_digit (x y i : Nat) : ((x % 10 ^ i + y % 10 ^ i) / 10 ^ i + x / 10 ^ i % 10 + y / 10 ^ i % 10) % 10 = (x + y) / 10 ^ i % 10 := by
  rw [add_step x y (10 ^ i) (Nat.pow_pos (by decide))]
  omega

theorem add_carry (x y i : Nat) : ((x % 10 ^ i + y % 10 ^ i) / 10 ^ i + x / 10 ^ i % 10 + y / 10 ^ i % 10) / 10 = (x % 10 ^ (i + 1) + y % 10 ^ (i + 1)) / 10 ^ (i + 1) := by
  have hp : 0 < 10 ^ i := Nat.pow_pos (by decide)
  rw [Nat.mod_pow_succ, Nat.mod_pow_succ, Nat.pow_succ, ← Nat.div_div_eq_div_mul]
  congr 1
  have e : x % 10 ^ i + 10 ^ i * (x / 10 ^ i % 10) + (y % 10 ^ i + 10 ^ i * (y / 10 ^ i % 10)) = (x % 10 ^ i + y % 10 ^ i) + 10 ^ i * (x / 10 ^ i % 10 + y / 10 ^ i % 10) := by rw [Nat.mul_add]; omega
  rw [e, Nat.add_mul_div_left _ _ hp]
  omega

/-- The first i digits of a number. -/
def dig (z i : Nat) : List Int := (List.range i).map fun j => ((z / 10 ^ j % 10 : Nat) : Int)
theorem dig_len (z i : Nat) : (dig z i).length = i := by simp [dig]
theorem dig_snoc (z i : Nat) : (dig z i).map (Value.int .i64) ++ [Value.int .i64 ((z / 10 ^ i % 10 : Nat) : Int)] = (dig z (i + 1)).map (Value.int .i64) := by simp [dig, List.range_succ]

theorem dig_snoc2 (z i : Nat) : dig z i ++ [((z / 10 ^ i % 10 : Nat) : Int)] = dig z (i + 1) := by simp [dig, List.range_succ]

theorem Tryd.info3i : (Tryd.prog.info? 3).map (fun i => (i.zero, i.size, i.bytes)) = some (some (.int .i64 0), 1, 8) := by kernel_rfl

/-- An append of one number to numbers of one's own. -/
theorem own_snoc {B : Nat} {w : World} {v : Value} {zs zs' : List Int} {g cap n : Nat} {x : Int} (h : w.ownsRow B 3 1 (.slice (some ⟨g, 0, none⟩) n cap) n (zs.map (Value.int .i64) ++ [Value.int .i64 x])) (hn : n = zs.length + 1) (e : zs ++ [x] = zs') : Own B w (.slice (some ⟨g, 0, none⟩) n cap) zs' := by
  subst e hn
  have e2 : (zs ++ [x]).length = zs.length + 1 := by simp
  refine ⟨?_, _, _, by rw [e2]⟩
  rw [e2, List.map_append]
  exact h

theorem cell_one_new (w : World) (u : Value) (t : TypeId) : ∀ j x, [u][j]? = some x → (w.alloc (.cells #[u] t)).cell? ((⟨w.heap.size, 0, none⟩ : Addr).add j) = some x := by
  intro j x hj
  have hb := heap_alloc_new w (.cells #[u] t)
  have h0 : j = 0 := by
    cases j with
    | zero => rfl
    | succ j => simp at hj
  subst h0
  rw [add_off, cell_of_row _ _ _ _ _ (0, 0) hb]
  simpa using hj

set_option maxHeartbeats 3200000 in
set_option maxRecDepth 100000 in
theorem added_any (x y : Nat) (a b : Option Addr) (c d : Nat) (w : World) (ha : Ints w a (dl x)) (hb : Ints w b (dl y)) (hxy : x + y < 10000000000000000000000000000000000000) :
    Calls Tryd.prog 16 #[.slice a (dl x).length c, .slice b (dl y).length d] w fun e w' => ∃ v, e = .returned v ∧ Own w.heap.size w' v (dl (x + y)) ∧ w.grownBy w' none := by
  have H37 : Hid (∀ i, 10 ^ i ≤ x + y → i < 37) := fun i hi => by
    by_cases h : i < 37
    · exact h
    · have : 10 ^ 37 ≤ 10 ^ i := Nat.pow_le_pow_right (by decide) (by omega)
      have e : (10 : Nat) ^ 37 = 10000000000000000000000000000000000000 := by decide
      omega
  have hlx : (dl x).length ≤ 37 := dl_len_le (by have e : (10 : Nat) ^ 37 = 10000000000000000000000000000000000000 := (by decide); omega)
  have hly : (dl y).length ≤ 37 := dl_len_le (by have e : (10 : Nat) ^ 37 = 10000000000000000000000000000000000000 := (by decide); omega)
  have HX : Hid (∀ i, (i < (dl x).length ↔ 10 ^ i ≤ x) ∧ (dl x).getD i 0 = ((x / 10 ^ i % 10 : Nat) : Int)) := fun i => ⟨dl_len i x, dl_get i x⟩
  have HY : Hid (∀ i, (i < (dl y).length ↔ 10 ^ i ≤ y) ∧ (dl y).getD i 0 = ((y / 10 ^ i % 10 : Nat) : Int)) := fun i => ⟨dl_len i y, dl_get i y⟩
  have HA : Hid (Ints w a (dl x)) := ha
  have HB : Hid (Ints w b (dl y)) := hb
  have HE : Hid (∀ i z, z < 10 ^ i → (i = 0 ∨ 10 ^ (i - 1) ≤ z) → dig z i = dl z) := fun i z h1 h2 => dl_of i z h1 h2
  obtain ⟨i0, hi, hz0, hz1, hz2⟩ := info_parts Tryd.info3i
  generalize hX : dl x = X at *
  generalize hY : dl y = Y at *
  clear ha hb hX hY hxy
  have HW : Hid (∃ Q : Value → World → Prop, Q = fun v w' => Own w.heap.size w' v (dl (x + y)) ∧ w.grownBy w' none) := ⟨_, rfl⟩
  obtain ⟨Q, hQ⟩ := HW.out
  refine Calls.mono (R := fun e w' => ∃ v, e = .returned v ∧ Q v w') ?_ (fun e w' ⟨v, h1, h2⟩ => ⟨v, h1, by rw [hQ] at h2; exact h2⟩)
  have HQ : Hid (Q = fun v w' => Own w.heap.size w' v (dl (x + y)) ∧ w.grownBy w' none) := hQ
  clear hQ HW
  go_enter Tryd.func16, Tryd.ntmps16
  go_wp2_with fail
  go_loopw [5, 6, 7] (fun v m i wr => ∃ (k : Nat) (a0 : Option Addr) (d0 : Nat), k ≤ 38 ∧ v = .slice a0 k d0 ∧ m = .int .i64 (((x % 10 ^ k + y % 10 ^ k) / 10 ^ k : Nat) : Int) ∧ i = .int .i64 k ∧ Own w.heap.size wr (.slice a0 k d0) (dig (x + y) k) ∧ (k = 0 ∨ 10 ^ (k - 1) ≤ x + y) ∧ w.grownBy wr none) (fun _ _ i _ => 40 - (intOf i).toNat)
  case atStart => exact ⟨0, none, 0, by omega, rfl, by simp, rfl, Own.nil _ _, .inl rfl, grown_refl _ _⟩
  case round =>
    obtain ⟨k, a0, d0, hk, rfl, rfl, rfl, ho, hp, hg⟩ := hrel
    have O : Hid (Own w.heap.size wr (.slice a0 k d0) (dig (x + y) k)) := ho
    have G : Hid (w.grownBy wr none) := hg
    have P1 : Hid (k = 0 ∨ 10 ^ (k - 1) ≤ x + y) := hp
    have hsz := hg.size
    have hdg := add_digit x y k
    have hcy := add_carry x y k
    obtain ⟨hx1, hx2⟩ := HX.out k
    obtain ⟨hy1, hy2⟩ := HY.out k
    have hpp : 0 < 10 ^ k := Nat.pow_pos (by decide)
    have hmx : x % 10 ^ k ≤ x := Nat.mod_le _ _
    have hmy : y % 10 ^ k ≤ y := Nat.mod_le _ _
    have hcl : (x % 10 ^ k + y % 10 ^ k) / 10 ^ k ≤ 1 := by
      have h1 : x % 10 ^ k < 10 ^ k := Nat.mod_lt _ hpp
      have h2 : y % 10 ^ k < 10 ^ k := Nat.mod_lt _ hpp
      exact Nat.le_of_lt_succ ((Nat.div_lt_iff_lt_mul hpp).2 (by omega))
    have hgo : (k < X.length ∨ k < Y.length ∨ 0 < (x % 10 ^ k + y % 10 ^ k) / 10 ^ k) → 10 ^ k ≤ x + y := by
      intro h
      rcases h with h | h | h
      · have := hx1.1 h; omega
      · have := hy1.1 h; omega
      · have := (Nat.div_pos_iff).1 h; omega
    have hxz : ¬ k < X.length → x / 10 ^ k % 10 = 0 := fun h => by
      have : x < 10 ^ k := by have := mt hx1.2 h; omega
      rw [Nat.div_eq_of_lt this]
    have hyz : ¬ k < Y.length → y / 10 ^ k % 10 = 0 := fun h => by
      have : y < 10 ^ k := by have := mt hy1.2 h; omega
      rw [Nat.div_eq_of_lt this]
    have hend : ¬ (k < X.length ∨ k < Y.length ∨ 0 < (x % 10 ^ k + y % 10 ^ k) / 10 ^ k) → x + y < 10 ^ k := fun h => by
      have h1 : x < 10 ^ k := by have := mt hx1.2 (fun e => h (.inl e)); omega
      have h2 : y < 10 ^ k := by have := mt hy1.2 (fun e => h (.inr (.inl e))); omega
      have h3 : (x % 10 ^ k + y % 10 ^ k) / 10 ^ k = 0 := Nat.eq_zero_of_not_pos fun e => h (.inr (.inr e))
      rw [Nat.mod_eq_of_lt h1, Nat.mod_eq_of_lt h2] at h3
      have := Nat.div_eq_zero_iff.1 h3
      omega
    generalize hc0 : (x % 10 ^ k + y % 10 ^ k) / 10 ^ k = cy at *
    generalize hc1 : (x % 10 ^ (k + 1) + y % 10 ^ (k + 1)) / 10 ^ (k + 1) = cy1 at *
    generalize hq0 : x / 10 ^ k % 10 = xd at *
    generalize hq1 : y / 10 ^ k % 10 = yd at *
    have HD : Hid ((cy + xd + yd) % 10 = (x + y) / 10 ^ k % 10) := hdg
    have HCy : Hid ((cy + xd + yd) / 10 = cy1) := hcy
    have hxd : xd < 10 := by rw [← hq0]; omega
    have hyd : yd < 10 := by rw [← hq1]; omega
    have hcy1 : cy1 ≤ 3 := by rw [← hcy]; omega
    have HGo : Hid ((k < X.length ∨ k < Y.length ∨ 0 < cy) → 10 ^ k ≤ x + y) := hgo
    have HEn : Hid (¬ (k < X.length ∨ k < Y.length ∨ 0 < cy) → x + y < 10 ^ k) := hend
    have HC1 : Hid ((x % 10 ^ (k + 1) + y % 10 ^ (k + 1)) / 10 ^ (k + 1) = cy1) := hc1
    clear hdg hcy hx1 hy1 hmx hmy hgo hend hc0 hc1 hq0 hq1 hp ho hg hpp
    have hO2 : Hid (∀ o, (wr.alloc o).ownsRow w.heap.size 3 1 (.slice a0 k d0) k ((dig (x + y) k).map (Value.int .i64))) := fun o => by
      have := (O.out.kept (grown_alloc wr o)).1
      rw [dig_len] at this
      exact this
    by_cases hX : k < X.length
    · by_cases hY : k < Y.length
      · have h38 : k < 37 := H37.out k (HGo.out (.inl hX))
        obtain ⟨ba, oa, rfl, hca⟩ := HA.out.at hX
        have hca' : wr.cell? ⟨ba, oa + k, none⟩ = some (.int .i64 (xd : Int)) := by rw [← hx2]; exact G.out.cell (hca k hX) (by simp)
        have dX : decide ((k : Int) < (X.length : Int)) = true := by simp; omega
        clear hca
        obtain ⟨bb, ob, rfl, hcb⟩ := HB.out.at hY
        have hcb' : wr.cell? ⟨bb, ob + k, none⟩ = some (.int .i64 (yd : Int)) := by rw [← hy2]; exact G.out.cell (hcb k hY) (by simp)
        have dY : decide ((k : Int) < (Y.length : Int)) = true := by simp; omega
        clear hcb
        have eR : Int.tmod ((cy : Int) + (xd : Int) + (yd : Int)) 10 = (((x + y) / 10 ^ k % 10 : Nat) : Int) := by rw [← HD.out, Int.tmod_eq_emod_of_nonneg (by omega)]; omega
        have eQ : Int.tdiv ((cy : Int) + (xd : Int) + (yd : Int)) 10 = (cy1 : Int) := by rw [← HCy.out, Int.tdiv_eq_ediv_of_nonneg (by omega)]; omega
        generalize hdg : (x + y) / 10 ^ k % 10 = dgt at *
        have HDg : Hid ((x + y) / 10 ^ k % 10 = dgt) := hdg
        clear hdg hxz hyz hx2 hy2 H37
        go_wp2_with (at_builtin; refine wpList_append_lies _ rfl (.tmp 46) (.tmp 49) 23 rfl w.heap.size 3 i0 (.int .i64 0) 1 8 Tryd.underlying23 hi hz0 hz1 hz2 rfl (by decide) (.slice a0 k d0) k _ rfl (hO2.out _) ⟨wr.heap.size, 0, none⟩ 1 1 [.int .i64 (dgt : Int)] rfl rfl (cell_one_new _ _ _) (by intro u hu; simp at hu; subst hu; rfl) (by omega) (by unfold maxLen; omega) (by omega) (by simp; omega) (wr.heap.size + 1) (by simp) ?_; intro g cap w3 ho3 hg3 hat3 _; have O3 : Hid (Own w.heap.size w3 (.slice (some ⟨g, 0, none⟩) (k + 1) cap) (dig (x + y) (k + 1))) := (own_snoc (v := .slice none 0 0) ho3 (by rw [dig_len]) (by rw [← HDg.out]; exact dig_snoc2 _ _)); have G3 : Hid (w.grownBy w3 none) := ((O.out.kept (grown_alloc wr _)).frame (Nat.le_refl _) (grown_trans G.out (grown_alloc wr _)) hg3); clear ho3 hg3 hat3)
        go_roundw
        case rel => exact ⟨k + 1, some ⟨g, 0, none⟩, cap, by omega, rfl, by rw [HC1.out], by go_num, O3.out, .inr (HGo.out (.inl hX)), G3.out⟩
        case measure => simp [intOf]; omega
      · have h38 : k < 37 := H37.out k (HGo.out (.inl hX))
        obtain ⟨ba, oa, rfl, hca⟩ := HA.out.at hX
        have hca' : wr.cell? ⟨ba, oa + k, none⟩ = some (.int .i64 (xd : Int)) := by rw [← hx2]; exact G.out.cell (hca k hX) (by simp)
        have dX : decide ((k : Int) < (X.length : Int)) = true := by simp; omega
        clear hca
        have dY : decide ((k : Int) < (Y.length : Int)) = false := by simp; omega
        have ey := hyz hY
        subst ey
        have eR : Int.tmod ((cy : Int) + (xd : Int)) 10 = (((x + y) / 10 ^ k % 10 : Nat) : Int) := by rw [← HD.out, Int.tmod_eq_emod_of_nonneg (by omega)]; omega
        have eQ : Int.tdiv ((cy : Int) + (xd : Int)) 10 = (cy1 : Int) := by rw [← HCy.out, Int.tdiv_eq_ediv_of_nonneg (by omega)]; omega
        generalize hdg : (x + y) / 10 ^ k % 10 = dgt at *
        have HDg : Hid ((x + y) / 10 ^ k % 10 = dgt) := hdg
        clear hdg hxz hyz hx2 hy2 H37
        go_wp2_with (at_builtin; refine wpList_append_lies _ rfl (.tmp 46) (.tmp 49) 23 rfl w.heap.size 3 i0 (.int .i64 0) 1 8 Tryd.underlying23 hi hz0 hz1 hz2 rfl (by decide) (.slice a0 k d0) k _ rfl (hO2.out _) ⟨wr.heap.size, 0, none⟩ 1 1 [.int .i64 (dgt : Int)] rfl rfl (cell_one_new _ _ _) (by intro u hu; simp at hu; subst hu; rfl) (by omega) (by unfold maxLen; omega) (by omega) (by simp; omega) (wr.heap.size + 1) (by simp) ?_; intro g cap w3 ho3 hg3 hat3 _; have O3 : Hid (Own w.heap.size w3 (.slice (some ⟨g, 0, none⟩) (k + 1) cap) (dig (x + y) (k + 1))) := (own_snoc (v := .slice none 0 0) ho3 (by rw [dig_len]) (by rw [← HDg.out]; exact dig_snoc2 _ _)); have G3 : Hid (w.grownBy w3 none) := ((O.out.kept (grown_alloc wr _)).frame (Nat.le_refl _) (grown_trans G.out (grown_alloc wr _)) hg3); clear ho3 hg3 hat3)
        go_roundw
        case rel => exact ⟨k + 1, some ⟨g, 0, none⟩, cap, by omega, rfl, by rw [HC1.out], by go_num, O3.out, .inr (HGo.out (.inl hX)), G3.out⟩
        case measure => simp [intOf]; omega
    · by_cases hY : k < Y.length
      · have h38 : k < 37 := H37.out k (HGo.out (.inr (.inl hY)))
        have dX : decide ((k : Int) < (X.length : Int)) = false := by simp; omega
        have ex := hxz hX
        subst ex
        obtain ⟨bb, ob, rfl, hcb⟩ := HB.out.at hY
        have hcb' : wr.cell? ⟨bb, ob + k, none⟩ = some (.int .i64 (yd : Int)) := by rw [← hy2]; exact G.out.cell (hcb k hY) (by simp)
        have dY : decide ((k : Int) < (Y.length : Int)) = true := by simp; omega
        clear hcb
        have eR : Int.tmod ((cy : Int) + (yd : Int)) 10 = (((x + y) / 10 ^ k % 10 : Nat) : Int) := by rw [← HD.out, Int.tmod_eq_emod_of_nonneg (by omega)]; omega
        have eQ : Int.tdiv ((cy : Int) + (yd : Int)) 10 = (cy1 : Int) := by rw [← HCy.out, Int.tdiv_eq_ediv_of_nonneg (by omega)]; omega
        generalize hdg : (x + y) / 10 ^ k % 10 = dgt at *
        have HDg : Hid ((x + y) / 10 ^ k % 10 = dgt) := hdg
        clear hdg hxz hyz hx2 hy2 H37
        go_wp2_with (at_builtin; refine wpList_append_lies _ rfl (.tmp 46) (.tmp 49) 23 rfl w.heap.size 3 i0 (.int .i64 0) 1 8 Tryd.underlying23 hi hz0 hz1 hz2 rfl (by decide) (.slice a0 k d0) k _ rfl (hO2.out _) ⟨wr.heap.size, 0, none⟩ 1 1 [.int .i64 (dgt : Int)] rfl rfl (cell_one_new _ _ _) (by intro u hu; simp at hu; subst hu; rfl) (by omega) (by unfold maxLen; omega) (by omega) (by simp; omega) (wr.heap.size + 1) (by simp) ?_; intro g cap w3 ho3 hg3 hat3 _; have O3 : Hid (Own w.heap.size w3 (.slice (some ⟨g, 0, none⟩) (k + 1) cap) (dig (x + y) (k + 1))) := (own_snoc (v := .slice none 0 0) ho3 (by rw [dig_len]) (by rw [← HDg.out]; exact dig_snoc2 _ _)); have G3 : Hid (w.grownBy w3 none) := ((O.out.kept (grown_alloc wr _)).frame (Nat.le_refl _) (grown_trans G.out (grown_alloc wr _)) hg3); clear ho3 hg3 hat3)
        go_roundw
        case rel => exact ⟨k + 1, some ⟨g, 0, none⟩, cap, by omega, rfl, by rw [HC1.out], by go_num, O3.out, .inr (HGo.out (.inr (.inl hY))), G3.out⟩
        case measure => simp [intOf]; omega
      · by_cases hC : 0 < cy
        · have dC : decide ((0 : Int) < (cy : Int)) = true := by simp; omega
          have h38 : k < 37 := H37.out k (HGo.out (.inr (.inr (by omega))))
          have dX : decide ((k : Int) < (X.length : Int)) = false := by simp; omega
          have ex := hxz hX
          subst ex
          have dY : decide ((k : Int) < (Y.length : Int)) = false := by simp; omega
          have ey := hyz hY
          subst ey
          have eR : Int.tmod ((cy : Int)) 10 = (((x + y) / 10 ^ k % 10 : Nat) : Int) := by rw [← HD.out, Int.tmod_eq_emod_of_nonneg (by omega)]; omega
          have eQ : Int.tdiv ((cy : Int)) 10 = (cy1 : Int) := by rw [← HCy.out, Int.tdiv_eq_ediv_of_nonneg (by omega)]; omega
          generalize hdg : (x + y) / 10 ^ k % 10 = dgt at *
          have HDg : Hid ((x + y) / 10 ^ k % 10 = dgt) := hdg
          clear hdg hxz hyz hx2 hy2 H37
          go_wp2_with (at_builtin; refine wpList_append_lies _ rfl (.tmp 46) (.tmp 49) 23 rfl w.heap.size 3 i0 (.int .i64 0) 1 8 Tryd.underlying23 hi hz0 hz1 hz2 rfl (by decide) (.slice a0 k d0) k _ rfl (hO2.out _) ⟨wr.heap.size, 0, none⟩ 1 1 [.int .i64 (dgt : Int)] rfl rfl (cell_one_new _ _ _) (by intro u hu; simp at hu; subst hu; rfl) (by omega) (by unfold maxLen; omega) (by omega) (by simp; omega) (wr.heap.size + 1) (by simp) ?_; intro g cap w3 ho3 hg3 hat3 _; have O3 : Hid (Own w.heap.size w3 (.slice (some ⟨g, 0, none⟩) (k + 1) cap) (dig (x + y) (k + 1))) := (own_snoc (v := .slice none 0 0) ho3 (by rw [dig_len]) (by rw [← HDg.out]; exact dig_snoc2 _ _)); have G3 : Hid (w.grownBy w3 none) := ((O.out.kept (grown_alloc wr _)).frame (Nat.le_refl _) (grown_trans G.out (grown_alloc wr _)) hg3); clear ho3 hg3 hat3)
          go_roundw
          case rel => exact ⟨k + 1, some ⟨g, 0, none⟩, cap, by omega, rfl, by rw [HC1.out], by go_num, O3.out, .inr (HGo.out (.inr (.inr (by omega)))), G3.out⟩
          case measure => simp [intOf]; omega
        · have dC : decide ((0 : Int) < (cy : Int)) = false := by simp; omega
          have dX : decide ((k : Int) < (X.length : Int)) = false := by simp; omega
          have dY : decide ((k : Int) < (Y.length : Int)) = false := by simp; omega
          have hlt : Hid (x + y < 10 ^ k) := HEn.out (by omega)
          go_wp2_with fail
          go_ret
          refine ⟨_, rfl, ?_⟩
          rw [HQ.out]
          have hE := HE.out k (x + y) hlt.out P1.out
          exact ⟨hE ▸ O.out, G.out⟩

end Go.Proofs.YtkfhdbapfpongaaDoor
