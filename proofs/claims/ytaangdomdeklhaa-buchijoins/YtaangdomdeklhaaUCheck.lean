/- What is wrong with an automaton that need not know its way: the program's Check. -/
import Derived.Test.YtaangdomdeklhaaUBase
import Derived.Test.YtaangdomdeklhaaDSays
import Derived.Deep.RegionWith
import Derived.Deep.RegionHeld3
namespace Go.Proofs.Ytaangdomdeklhaa
open Go.RowKit
set_option linter.unusedVariables false

theorem isNaN_any (x : Int) (w : World) : Calls Try.prog 55 #[.int .i64 x] w fun e w' => e = .returned (.bool false) ∧ w' = w := by
  go_enter Try.func55, Try.ntmps55
  go_wp2
  go_ret
  simp

def cmpF (x y : Int) : Int := if x < y then -1 else if y < x then 1 else 0
theorem cmpF_ge (x y : Int) : 0 ≤ cmpF x y ↔ ¬ x < y := by unfold cmpF; split <;> (try split) <;> omega

theorem compare_any (x y : Int) (w : World) : Calls Try.prog 37 #[.int .i64 x, .int .i64 y] w fun e w' => e = .returned (.int .i64 (cmpF x y)) ∧ w' = w := by
  obtain ⟨z, hz⟩ : ∃ z, cmpF x y = z := ⟨_, rfl⟩
  rw [hz]
  have HN : Hid (∀ x W, Calls Try.prog 55 #[.int .i64 x] W fun e w' => e = .returned (.bool false) ∧ w' = W) := fun x W => isNaN_any x W
  have HZ : Hid (cmpF x y = z) := hz
  clear hz
  go_enter Try.func37, Try.ntmps37
  go_wp2_with fail
  refine (HN.out _ _).mono ?_
  rintro e w' ⟨rfl, rfl⟩
  go_wp2_with fail
  refine (HN.out _ _).mono ?_
  rintro e w' ⟨rfl, rfl⟩
  rcases Int.lt_trichotomy x y with c | c | c
  · go_wp2_with fail
    go_ret
    rw [← HZ.out]
    exact ⟨by simp [cmpF, c], rfl⟩
  · subst c
    have c1 : ¬ x < x := by omega
    go_wp2_with fail
    go_ret
    rw [← HZ.out]
    exact ⟨by simp [cmpF], rfl⟩
  · have c1 : ¬ x < y := by omega
    go_wp2_with fail
    go_ret
    rw [← HZ.out]
    exact ⟨by simp [cmpF, c, c1], rfl⟩

set_option maxHeartbeats 800000 in
theorem within_any (zs : List Int) (n : Int) (a : Option Addr) (c : Nat) (w : World) (h : Ints w a zs) (hm : zs.length ≤ maxLen) :
    Calls Try.prog 34 #[.slice a zs.length c, .int .i64 n] w (TellsB (InR zs n) w) := by
  unfold maxLen at hm
  have HZ : Hid (Ints w a zs) := h
  clear h
  go_enter Try.func34, Try.ntmps34
  go_wp2_with fail
  go_loop [9] (fun v => ∃ k : Nat, k ≤ zs.length ∧ v = .int .i64 k ∧ ∀ j, j < k → 0 ≤ zs.getD j 0 ∧ zs.getD j 0 < n) (fun v => zs.length - (intOf v).toNat)
  case atStart => exact ⟨0, Nat.zero_le _, rfl, fun j hj => by omega⟩
  case round =>
    obtain ⟨k, hk, rfl, hg⟩ := hrel
    have HJ : Hid (∀ j, j < k → 0 ≤ zs.getD j 0 ∧ zs.getD j 0 < n) := hg
    clear hg
    by_cases hlt : k < zs.length
    · obtain ⟨b, off, rfl, hc⟩ := HZ.out.at hlt
      have hck := hc k hlt
      clear hc
      obtain ⟨x, hx⟩ : ∃ x, zs.getD k 0 = x := ⟨_, rfl⟩
      rw [hx] at hck
      have HX : Hid (zs.getD k 0 = x) := hx
      clear hx
      by_cases g1 : x < 0
      · go_wp2
        go_ret
        exact tellsB false rfl ⟨(fun e => by cases e), fun e => absurd (e k hlt).1 (by rw [HX.out]; omega)⟩ (grown_refl _ _)
      · by_cases g2 : n ≤ x
        · go_wp2
          go_ret
          exact tellsB false rfl ⟨(fun e => by cases e), fun e => absurd (e k hlt).2 (by rw [HX.out]; omega)⟩ (grown_refl _ _)
        · go_wp2
          go_round
          case rel =>
            refine ⟨k + 1, by omega, by go_num, fun j hj => ?_⟩
            by_cases hjk : j = k
            · subst hjk; rw [HX.out]; omega
            · exact HJ.out j (by omega)
          case measure => simp [intOf]; omega
    · go_wp2
      go_ret
      exact tellsB true rfl ⟨fun _ => fun i hi => HJ.out i (by omega), fun _ => rfl⟩ (grown_refl _ _)

/-- A step as a value. -/
abbrev stepV (x : StepI) : Value := .agg #[.int .i64 x.1, .int .i64 x.2.1, .int .i64 x.2.2]

set_option maxHeartbeats 800000 in
theorem number_any (f l t L N : Int) (ba : Nat) (w : World) (h0 : w.cell? ⟨ba, 0, none⟩ = some (.int .i64 L)) (h1 : w.cell? ⟨ba, 1, none⟩ = some (.int .i64 N)) (hl : L ≤ 4) (hl1 : 1 ≤ L) (hn1 : 1 ≤ N) (hn : N ≤ 300) (h : StIn L N (f, l, t)) :
    Calls Try.prog 56 #[.agg #[.int .i64 f, .int .i64 l, .int .i64 t], .pointer (some ⟨ba, 0, none⟩)] w (Says (.int .i64 (numS L N (f, l, t))) w) := by
  obtain ⟨r1, r2, r3, r4, r5, r6⟩ := numS_range hl hl1 hn1 hn h
  simp only [numS] at r1 r2 r3 r4 r5 r6 ⊢
  have c0 : ∀ o, (w.alloc o).cell? ⟨ba, 0, none⟩ = some (.int .i64 L) := fun o => (grown_alloc w o).cell h0 (by simp)
  have c1 : ∀ o, (w.alloc o).cell? ⟨ba, 1, none⟩ = some (.int .i64 N) := fun o => (grown_alloc w o).cell h1 (by simp)
  have hb : 0 ≤ l ∧ l < L := h.2.2
  have G : Hid (∀ o, w.grownBy (w.alloc o) none) := fun o => grown_alloc w o
  have w1 : IntKind.i64.wrap (f * L) = f * L := by rw [IntKind.wrap_i64]; omega
  have w2 : IntKind.i64.wrap (f * L + l) = f * L + l := by rw [IntKind.wrap_i64]; omega
  have w3 : IntKind.i64.wrap ((f * L + l) * N) = (f * L + l) * N := by rw [IntKind.wrap_i64]; omega
  have w4 : IntKind.i64.wrap ((f * L + l) * N + t) = (f * L + l) * N + t := by rw [IntKind.wrap_i64]; omega
  clear h r1 r2 r3 r4 r5 r6 h0 h1
  go_enter Try.func56, Try.ntmps56
  go_wp2_with fail
  go_ret
  exact ⟨rfl, G.out _⟩

/-- The closure that numbers steps lies in a box, the automaton in another one. -/
structure OrdAt (w : World) (bn ba : Nat) (L N : Int) : Prop where
  fn : w.cell? ⟨bn, 0, none⟩ = some (.func (.func 56) #[] #[.pointer (some ⟨ba, 0, none⟩)])
  l : w.cell? ⟨ba, 0, none⟩ = some (.int .i64 L)
  n : w.cell? ⟨ba, 1, none⟩ = some (.int .i64 N)
theorem OrdAt.grown {w w' : World} {bn ba : Nat} {L N : Int} (h : OrdAt w bn ba L N) (hg : w.grownBy w' none) : OrdAt w' bn ba L N := ⟨hg.cell h.fn (by simp), hg.cell h.l (by simp), hg.cell h.n (by simp)⟩

/-- The two steps' boxes and the closure stay. -/
abbrev KeepO (P W : World) (b bn ba : Nat) (f l t f' l' t' : Int) : Prop :=
  P.grownBy W none ∧ W.cell? ⟨b, 0, none⟩ = some (.int .i64 f) ∧ W.cell? ⟨b, 1, none⟩ = some (.int .i64 l) ∧ W.cell? ⟨b, 2, none⟩ = some (.int .i64 t) ∧
      W.cell? ⟨b + 1, 0, none⟩ = some (.int .i64 f') ∧ W.cell? ⟨b + 1, 1, none⟩ = some (.int .i64 l') ∧ W.cell? ⟨b + 1, 2, none⟩ = some (.int .i64 t') ∧ W.cell? ⟨bn, 0, none⟩ = some (.func (.func 56) #[] #[.pointer (some ⟨ba, 0, none⟩)])
section
variable {P W W' : World} {b bn ba : Nat} {f l t f' l' t' : Int}
theorem KeepO.call (h : KeepO P W b bn ba f l t f' l' t') (hg : W.grownBy W' none) : KeepO P W' b bn ba f l t f' l' t' := by
  obtain ⟨h0, h1, h2, h3, h4, h5, h6, h7⟩ := h
  exact ⟨grown_trans h0 hg, hg.cell h1 (by simp), hg.cell h2 (by simp), hg.cell h3 (by simp), hg.cell h4 (by simp), hg.cell h5 (by simp), hg.cell h6 (by simp), hg.cell h7 (by simp)⟩
theorem KeepO.drew (h : KeepO P W b bn ba f l t f' l' t') : KeepO P W.drew b bn ba f l t f' l' t' := h.call (grown_drew (grown_refl _ _))
theorem KeepO.gr {w : World} (h : KeepO P W b bn ba f l t f' l' t') (hw : w.grownBy P none) : w.grownBy W none := grown_trans hw h.1
end

set_option maxHeartbeats 1600000 in
set_option maxRecDepth 100000 in
theorem order2_any (x y : StepI) (L N : Int) (bn ba : Nat) (w : World) (h : OrdAt w bn ba L N) (hl : L ≤ 4) (hl1 : 1 ≤ L) (hn1 : 1 ≤ N) (hn : N ≤ 300) (hx : StIn L N x) (hy : StIn L N y) :
    Calls Try.prog 57 #[stepV x, stepV y, .pointer (some ⟨bn, 0, none⟩)] w (Says (.int .i64 (cmpF (numS L N x) (numS L N y))) w) := by
  obtain ⟨f, l, t⟩ := x
  obtain ⟨f', l', t'⟩ := y
  simp only [stepV]
  obtain ⟨W1, hW1⟩ : ∃ W1, W1 = w.alloc (.cells #[.int .i64 f, .int .i64 l, .int .i64 t] 53) := ⟨_, rfl⟩
  obtain ⟨W2, hW2⟩ : ∃ W2, W2 = W1.alloc (.cells #[.int .i64 f', .int .i64 l', .int .i64 t'] 53) := ⟨_, rfl⟩
  have HW2 : Hid (W2 = (w.alloc (.cells #[.int .i64 f, .int .i64 l, .int .i64 t] 53)).alloc (.cells #[.int .i64 f', .int .i64 l', .int .i64 t'] 53)) := by show _ = _; rw [hW2, hW1]
  have G2 : Hid (w.grownBy W2 none) := by rw [hW2, hW1]; exact grown_trans (grown_alloc _ _) (grown_alloc _ _)
  have Bx : Hid (∀ W, W2.grownBy W none → W.cell? ⟨w.heap.size, 0, none⟩ = some (.int .i64 f) ∧ W.cell? ⟨w.heap.size, 1, none⟩ = some (.int .i64 l) ∧ W.cell? ⟨w.heap.size, 2, none⟩ = some (.int .i64 t) ∧
      W.cell? ⟨w.heap.size + 1, 0, none⟩ = some (.int .i64 f') ∧ W.cell? ⟨w.heap.size + 1, 1, none⟩ = some (.int .i64 l') ∧ W.cell? ⟨w.heap.size + 1, 2, none⟩ = some (.int .i64 t') ∧ W.cell? ⟨bn, 0, none⟩ = some (.func (.func 56) #[] #[.pointer (some ⟨ba, 0, none⟩)])) := fun W hW => by
    have h1 := heap_alloc_new w (.cells #[.int .i64 f, .int .i64 l, .int .i64 t] 53)
    have h2 := heap_alloc_new W1 (.cells #[.int .i64 f', .int .i64 l', .int .i64 t'] 53)
    rw [← hW1] at h1
    rw [← hW2, hW1, World.size_alloc] at h2
    have g12 : W1.grownBy W none := grown_trans (by rw [hW2]; exact grown_alloc _ _) hW
    have hc : ∀ k v, #[Value.int .i64 f, .int .i64 l, .int .i64 t][k]? = some v → W.cell? ⟨w.heap.size, k, none⟩ = some v := fun k v hv => g12.cell (by rw [cell_of_row _ _ k _ _ (0, 0) h1]; exact hv) (by simp)
    have hd : ∀ k v, #[Value.int .i64 f', .int .i64 l', .int .i64 t'][k]? = some v → W.cell? ⟨w.heap.size + 1, k, none⟩ = some v := fun k v hv => hW.cell (by rw [cell_of_row _ _ k _ _ (0, 0) h2]; exact hv) (by simp)
    exact ⟨hc 0 _ rfl, hc 1 _ rfl, hc 2 _ rfl, hd 0 _ rfl, hd 1 _ rfl, hd 2 _ rfl, (grown_trans G2.out hW).cell h.fn (by simp)⟩
  obtain ⟨p, hp⟩ : ∃ p, numS L N (f, l, t) = p := ⟨_, rfl⟩
  obtain ⟨q, hq⟩ : ∃ q, numS L N (f', l', t') = q := ⟨_, rfl⟩
  rw [hp, hq]
  have HP : Hid (∀ W, w.grownBy W none → Calls Try.prog 56 #[.agg #[.int .i64 f, .int .i64 l, .int .i64 t], .pointer (some ⟨ba, 0, none⟩)] W (Says (.int .i64 p) W)) := fun W hW => hp ▸ number_any f l t L N ba W (h.grown hW).l (h.grown hW).n hl hl1 hn1 hn hx
  have HQ : Hid (∀ W, w.grownBy W none → Calls Try.prog 56 #[.agg #[.int .i64 f', .int .i64 l', .int .i64 t'], .pointer (some ⟨ba, 0, none⟩)] W (Says (.int .i64 q) W)) := fun W hW => hq ▸ number_any f' l' t' L N ba W (h.grown hW).l (h.grown hW).n hl hl1 hn1 hn hy
  have HC : Hid (∀ W, Calls Try.prog 37 #[.int .i64 p, .int .i64 q] W fun e w' => e = .returned (.int .i64 (cmpF p q)) ∧ w' = W) := fun W => compare_any p q W
  generalize cmpF p q = z at HC ⊢
  clear h hW1 hW2 hp hq hx hy
  have K0 : Hid (KeepO W2 W2 w.heap.size bn ba f l t f' l' t') := by
    obtain ⟨x0, x1, x2, y0, y1, y2, fn⟩ := Bx.out W2 (grown_refl _ _)
    exact ⟨grown_refl _ _, x0, x1, x2, y0, y1, y2, fn⟩
  clear Bx
  go_enter Try.func57, Try.ntmps57
  go_wp2_with fail
  rw [← HW2.out]
  clear HW2
  generalize w.heap.size = b0 at *
  go_region_held3 (fun W => KeepO W2 W b0 bn ba f l t f' l' t')
    (first | (with_reducible exact KeepO.drew K0.out) | (with_reducible exact KeepO.call (by assumption) hgA) | (with_reducible exact KeepO.call (by assumption) hgB) | (with_reducible exact KeepO.drew (by assumption)) | assumption)
    (first
    | (go_at_call_of 56 (Value.agg #[.int .i64 f, .int .i64 l, .int .i64 t]); refine (HP.out _ (KeepO.gr (show KeepO W2 _ b0 bn ba f l t f' l' t' from by assumption) G2.out)).mono ?_; rintro e wA ⟨rfl, hgA⟩)
    | (go_at_call_of 56 (Value.agg #[.int .i64 f', .int .i64 l', .int .i64 t']); refine (HQ.out _ (KeepO.gr (show KeepO W2 _ b0 bn ba f l t f' l' t' from by assumption) G2.out)).mono ?_; rintro e wB ⟨rfl, hgB⟩)
    | (go_at_call 37; refine (HC.out _).mono ?_; rintro e w5 ⟨rfl, rfl⟩))
  all_goals
    have GF : Hid (w.grownBy w5 none) := KeepO.gr (show KeepO W2 _ b0 bn ba f l t f' l' t' from by assumption) G2.out
    go_wp2_with fail
    go_ret
    exact ⟨rfl, GF.out⟩

theorem rise_step {zs : List Int} {k : Nat} (hk : 1 ≤ k) (hlt : k < zs.length) (hg : ∀ j, j + 1 < k → zs.getD j 0 < zs.getD (j + 1) 0) (h : zs.getD (k - 1) 0 < zs.getD k 0) : ∀ j, j + 1 < k + 1 → zs.getD j 0 < zs.getD (j + 1) 0 := by
  intro j hj
  by_cases e : j + 1 = k
  · have : j = k - 1 := by omega
    subst this
    rw [show k - 1 + 1 = k by omega]; exact h
  · exact hg j (by omega)

set_option maxHeartbeats 1600000 in
set_option maxRecDepth 100000 in
theorem riseI_any (zs : List Int) (a : Option Addr) (c : Nat) (w : World) (h : Ints w a zs) (hm : zs.length ≤ maxLen) :
    Calls Try.prog 36 #[.slice a zs.length c, .func (.func 37) #[] #[]] w (TellsB (Rise zs) w) := by
  unfold maxLen at hm
  have HZ : Hid (Ints w a zs) := h
  have HC : Hid (∀ p q W, Calls Try.prog 37 #[.int .i64 p, .int .i64 q] W fun e w' => e = .returned (.int .i64 (cmpF p q)) ∧ w' = W) := fun p q W => compare_any p q W
  clear h
  go_enter Try.func36, Try.ntmps36
  go_wp2_with fail
  go_loopw [5] (fun v wr => ∃ k : Nat, 1 ≤ k ∧ (k ≤ zs.length ∨ k = 1) ∧ v = .int .i64 k ∧ w.grownBy wr none ∧ ∀ j, j + 1 < k → zs.getD j 0 < zs.getD (j + 1) 0) (fun v _ => zs.length - (intOf v).toNat)
  case atStart => exact ⟨1, by omega, .inr rfl, rfl, grown_refl _ _, fun j hj => by omega⟩
  case round =>
    obtain ⟨k, hk1, hk, rfl, hgw, hg⟩ := hrel
    have HJ : Hid (∀ j, j + 1 < k → zs.getD j 0 < zs.getD (j + 1) 0) := hg
    have G : Hid (w.grownBy wr none) := hgw
    clear hg
    by_cases hlt : k < zs.length
    · obtain ⟨b, off, rfl, hc⟩ := (HZ.out.grown hgw).at hlt
      have hck := hc k hlt
      obtain ⟨p, hp⟩ : ∃ p, k - 1 = p := ⟨_, rfl⟩
      have hcp := hc p (by omega)
      clear hc hgw
      obtain ⟨x, hx⟩ : ∃ x, zs.getD k 0 = x := ⟨_, rfl⟩
      obtain ⟨y, hy⟩ : ∃ y, zs.getD p 0 = y := ⟨_, rfl⟩
      rw [hx] at hck
      rw [hy] at hcp
      have HX : Hid (zs.getD k 0 = x) := hx
      have HY : Hid (zs.getD p 0 = y) := hy
      have HP : Hid (k - 1 = p) := hp
      have hwp : IntKind.i64.wrap ((k : Int) - 1) = (p : Int) := by rw [IntKind.wrap_i64]; omega
      have HCxy : Hid (∀ W, Calls Try.prog 37 #[.int .i64 y, .int .i64 x] W fun e w' => e = .returned (.int .i64 (cmpF y x)) ∧ w' = W) := fun W => HC.out y x W
      have HGE : Hid (0 ≤ cmpF y x ↔ ¬ y < x) := cmpF_ge y x
      generalize cmpF y x = z at HCxy HGE
      have hpl : p < zs.length := by omega
      have hki : (k : Int) < (zs.length : Int) := by omega
      clear hx hy HC hp
      by_cases g1 : z ≥ 0
      · go_wp2_with fail
        go_quiet ((go_at_call 37; refine Calls.quiet_of_same (HCxy.out _)))
        go_wp2_with fail
        go_ret
        exact tellsB false rfl ⟨(fun e => by cases e), fun e => absurd (e (k - 1) (by omega)) (by rw [show k - 1 + 1 = k by omega, HX.out, HP.out, HY.out]; have := HGE.out; omega)⟩ (by first | exact G.out | exact grown_drewN G.out _ | exact grown_drew G.out)
      · go_wp2_with fail
        go_quiet ((go_at_call 37; refine Calls.quiet_of_same (HCxy.out _)))
        go_wp2_with fail
        go_roundw
        case rel =>
          refine ⟨k + 1, by omega, .inl (by omega), by go_num, by first | exact G.out | exact grown_drewN G.out _ | exact grown_drew G.out, ?_⟩
          refine rise_step hk1 hlt HJ.out ?_
          rw [HP.out, HX.out, HY.out]
          rcases Int.lt_or_le y x with h1 | h1
          · exact h1
          · have := HGE.out; omega
        case measure => simp [intOf]; omega
    · have hki : ¬ (k : Int) < (zs.length : Int) := by omega
      go_wp2_with fail
      go_ret
      exact tellsB true rfl ⟨fun _ => fun i hi => HJ.out i (by omega), fun _ => rfl⟩ G.out

theorem riseT_step {T : List StepI} {k : Nat} (hk : 1 ≤ k) (hlt : k < T.length) (hg : ∀ j, j + 1 < k → Lex (T.getD j (0, 0, 0)) (T.getD (j + 1) (0, 0, 0))) (h : Lex (T.getD (k - 1) (0, 0, 0)) (T.getD k (0, 0, 0))) : ∀ j, j + 1 < k + 1 → Lex (T.getD j (0, 0, 0)) (T.getD (j + 1) (0, 0, 0)) := by
  intro j hj
  by_cases e : j + 1 = k
  · have : j = k - 1 := by omega
    subst this
    rw [show k - 1 + 1 = k by omega]; exact h
  · exact hg j (by omega)

set_option maxHeartbeats 1600000 in
set_option maxRecDepth 100000 in
theorem riseT_any (T : List StepI) (L N : Int) (a : Option Addr) (c bn ba : Nat) (w : World) (h : StepsAt w a T) (hm : T.length ≤ maxLen) (hO : OrdAt w bn ba L N) (hl : L ≤ 4) (hl1 : 1 ≤ L) (hn1 : 1 ≤ N) (hn : N ≤ 300) (hin : InT T L N) :
    Calls Try.prog 38 #[.slice a T.length c, .func (.func 57) #[] #[.pointer (some ⟨bn, 0, none⟩)]] w (TellsB (RiseT T) w) := by
  unfold maxLen at hm
  have HZ : Hid (StepsAt w a T) := h
  have HC : Hid (∀ i j, i < T.length → j < T.length → ∀ W, w.grownBy W none → Calls Try.prog 57 #[stepV (T.getD i (0, 0, 0)), stepV (T.getD j (0, 0, 0)), .pointer (some ⟨bn, 0, none⟩)] W (Says (.int .i64 (cmpF (numS L N (T.getD i (0, 0, 0))) (numS L N (T.getD j (0, 0, 0))))) W) ∧ (0 ≤ cmpF (numS L N (T.getD i (0, 0, 0))) (numS L N (T.getD j (0, 0, 0))) ↔ ¬ Lex (T.getD i (0, 0, 0)) (T.getD j (0, 0, 0)))) := fun i j hi hj W hW => ⟨order2_any _ _ L N bn ba W (hO.grown hW) hl hl1 hn1 hn (hin i hi) (hin j hj), by rw [cmpF_ge, numS_iff hl1 hn1 (hin i hi) (hin j hj)]⟩
  clear h hO hin
  go_enter Try.func38, Try.ntmps38
  go_wp2_with fail
  go_loopw [5] (fun v wr => ∃ k : Nat, 1 ≤ k ∧ (k ≤ T.length ∨ k = 1) ∧ v = .int .i64 k ∧ w.grownBy wr none ∧ ∀ j, j + 1 < k → Lex (T.getD j (0, 0, 0)) (T.getD (j + 1) (0, 0, 0))) (fun v _ => T.length - (intOf v).toNat)
  case atStart => exact ⟨1, by omega, .inr rfl, rfl, grown_refl _ _, fun j hj => by omega⟩
  case round =>
    obtain ⟨k, hk1, hk, rfl, hgw, hg⟩ := hrel
    have HJ : Hid (∀ j, j + 1 < k → Lex (T.getD j (0, 0, 0)) (T.getD (j + 1) (0, 0, 0))) := hg
    have G : Hid (w.grownBy wr none) := hgw
    clear hg
    by_cases hlt : k < T.length
    · obtain ⟨b, off, rfl, hc⟩ := (HZ.out.grown hgw).at hlt
      obtain ⟨p, hp⟩ : ∃ p, k - 1 = p := ⟨_, rfl⟩
      have HP : Hid (k - 1 = p) := hp
      obtain ⟨y0, y1, y2⟩ := hc k hlt
      obtain ⟨x0, x1, x2⟩ := hc p (by omega)
      have hwp : IntKind.i64.wrap ((k : Int) - 1) = (p : Int) := by rw [IntKind.wrap_i64]; omega
      have hpl : p < T.length := by omega
      have hki : (k : Int) < (T.length : Int) := by omega
      obtain ⟨z, hz⟩ : ∃ z, cmpF (numS L N (T.getD p (0, 0, 0))) (numS L N (T.getD k (0, 0, 0))) = z := ⟨_, rfl⟩
      have HCx : Hid (∀ W, w.grownBy W none → Calls Try.prog 57 #[stepV (T.getD p (0, 0, 0)), stepV (T.getD k (0, 0, 0)), .pointer (some ⟨bn, 0, none⟩)] W (Says (.int .i64 z) W)) := fun W hW => hz ▸ (HC.out p k hpl hlt W hW).1
      have HGE : Hid (0 ≤ z ↔ ¬ Lex (T.getD p (0, 0, 0)) (T.getD k (0, 0, 0))) := hz ▸ (HC.out p k hpl hlt wr hgw).2
      clear hz hc hgw HC hp
      have HJ2 : Hid (Lex (T.getD p (0, 0, 0)) (T.getD k (0, 0, 0)) → ∀ j, j + 1 < k + 1 → Lex (T.getD j (0, 0, 0)) (T.getD (j + 1) (0, 0, 0))) := fun hx => riseT_step hk1 hlt HJ.out (by rw [HP.out]; exact hx)
      have HN2 : Hid (¬ Lex (T.getD p (0, 0, 0)) (T.getD k (0, 0, 0)) → ¬ RiseT T) := fun hx e => hx (by have := e (k - 1) (by omega); rw [show k - 1 + 1 = k by omega, HP.out] at this; exact this)
      generalize T.getD p (0, 0, 0) = x at *
      generalize T.getD k (0, 0, 0) = y at *
      obtain ⟨f, l, t⟩ := x
      obtain ⟨f', l', t'⟩ := y
      simp only [stepV] at HCx x0 x1 x2 y0 y1 y2
      by_cases g1 : z ≥ 0
      · go_wp2_with fail
        go_region_with (go_at_call 57; refine (HCx.out _ (by first | exact G.out | exact grown_drewN G.out _ | exact grown_drew G.out)).mono ?_; rintro e w3 ⟨rfl, hg3⟩; have G3 : Hid (w.grownBy w3 none) := grown_trans (by first | exact G.out | exact grown_drewN G.out _ | exact grown_drew G.out) hg3)
        all_goals
          go_wp2_with fail
          go_ret
          exact tellsB false rfl ⟨(fun e => by cases e), fun e => absurd e (HN2.out (HGE.out.1 g1))⟩ G3.out
      · go_wp2_with fail
        go_region_with (go_at_call 57; refine (HCx.out _ (by first | exact G.out | exact grown_drewN G.out _ | exact grown_drew G.out)).mono ?_; rintro e w3 ⟨rfl, hg3⟩; have G3 : Hid (w.grownBy w3 none) := grown_trans (by first | exact G.out | exact grown_drewN G.out _ | exact grown_drew G.out) hg3)
        all_goals
          go_wp2_with fail
          go_roundw
          case rel =>
            refine ⟨k + 1, by omega, .inl (by omega), by go_num, G3.out, HJ2.out ?_⟩
            exact Classical.byContradiction fun h1 => by have := HGE.out.2 h1; omega
          case measure => simp [intOf]; omega
    · have hki : ¬ (k : Int) < (T.length : Int) := by omega
      go_wp2_with fail
      go_ret
      exact tellsB true rfl ⟨fun _ => fun i hi => HJ.out i (by omega), fun _ => rfl⟩ G.out

end Go.Proofs.Ytaangdomdeklhaa
