/- What is wrong with an automaton that need not know its way: the program's Check. -/
/- What is wrong with an automaton that need not know its way: the program's Check, put together. -/
import Derived.Test.YtcgkflddipflbaaUBase
import Derived.Test.YtcgkflddipflbaaTls
import Derived.Deep.RegionWith
import Derived.Deep.RegionHeld3
import Derived.Laws.EntriesVeiled
namespace Go.Proofs.Ytcgkflddipflbaa
open Go.RowKit
set_option linter.unusedVariables false

theorem isNaN_any (x : Int) (w : World) : Calls Try.prog 59 #[.int .i64 x] w fun e w' => e = .returned (.bool false) ∧ w' = w := by
  go_enter Try.func59, Try.ntmps59
  go_wp2
  go_ret
  simp

def cmpF (x y : Int) : Int := if x < y then -1 else if y < x then 1 else 0
theorem cmpF_ge (x y : Int) : 0 ≤ cmpF x y ↔ ¬ x < y := by unfold cmpF; split <;> (try split) <;> omega

theorem compare_any (x y : Int) (w : World) : Calls Try.prog 47 #[.int .i64 x, .int .i64 y] w fun e w' => e = .returned (.int .i64 (cmpF x y)) ∧ w' = w := by
  obtain ⟨z, hz⟩ : ∃ z, cmpF x y = z := ⟨_, rfl⟩
  rw [hz]
  have HN : Hid (∀ x W, Calls Try.prog 59 #[.int .i64 x] W fun e w' => e = .returned (.bool false) ∧ w' = W) := fun x W => isNaN_any x W
  have HZ : Hid (cmpF x y = z) := hz
  clear hz
  go_enter Try.func47, Try.ntmps47
  go_wp2_with fail
  refine (HN.out _ _).mono ?_
  rintro e w' ⟨rfl, rfl⟩
  go_wp2_with fail
  refine (HN.out _ _).mono ?_
  rintro e w' ⟨rfl, rfl⟩
  rcases Int.lt_trichotomy x y with c | c | c
  · go_wp2_with fail
    go_ret
    rw [← HZ.out]
    exact ⟨by simp [cmpF, c], rfl⟩
  · subst c
    have c1 : ¬ x < x := by omega
    go_wp2_with fail
    go_ret
    rw [← HZ.out]
    exact ⟨by simp [cmpF], rfl⟩
  · have c1 : ¬ x < y := by omega
    go_wp2_with fail
    go_ret
    rw [← HZ.out]
    exact ⟨by simp [cmpF, c, c1], rfl⟩

set_option maxHeartbeats 800000 in
theorem within_any (zs : List Int) (n : Int) (a : Option Addr) (c : Nat) (w : World) (h : Ints w a zs) (hm : zs.length ≤ maxLen) :
    Calls Try.prog 44 #[.slice a zs.length c, .int .i64 n] w (TellsB (InR zs n) w) := by
  unfold maxLen at hm
  have HZ : Hid (Ints w a zs) := h
  clear h
  go_enter Try.func44, Try.ntmps44
  go_wp2_with fail
  go_loop [9] (fun v => ∃ k : Nat, k ≤ zs.length ∧ v = .int .i64 k ∧ ∀ j, j < k → 0 ≤ zs.getD j 0 ∧ zs.getD j 0 < n) (fun v => zs.length - (intOf v).toNat)
  case atStart => exact ⟨0, Nat.zero_le _, rfl, fun j hj => by omega⟩
  case round =>
    obtain ⟨k, hk, rfl, hg⟩ := hrel
    have HJ : Hid (∀ j, j < k → 0 ≤ zs.getD j 0 ∧ zs.getD j 0 < n) := hg
    clear hg
    by_cases hlt : k < zs.length
    · obtain ⟨b, off, rfl, hc⟩ := HZ.out.at hlt
      have hck := hc k hlt
      clear hc
      obtain ⟨x, hx⟩ : ∃ x, zs.getD k 0 = x := ⟨_, rfl⟩
      rw [hx] at hck
      have HX : Hid (zs.getD k 0 = x) := hx
      clear hx
      by_cases g1 : x < 0
      · go_wp2
        go_ret
        exact tellsB false rfl ⟨(fun e => by cases e), fun e => absurd (e k hlt).1 (by rw [HX.out]; omega)⟩ (grown_refl _ _)
      · by_cases g2 : n ≤ x
        · go_wp2
          go_ret
          exact tellsB false rfl ⟨(fun e => by cases e), fun e => absurd (e k hlt).2 (by rw [HX.out]; omega)⟩ (grown_refl _ _)
        · go_wp2
          go_round
          case rel =>
            refine ⟨k + 1, by omega, by go_num, fun j hj => ?_⟩
            by_cases hjk : j = k
            · subst hjk; rw [HX.out]; omega
            · exact HJ.out j (by omega)
          case measure => simp [intOf]; omega
    · go_wp2
      go_ret
      exact tellsB true rfl ⟨fun _ => fun i hi => HJ.out i (by omega), fun _ => rfl⟩ (grown_refl _ _)

/-- A step as a value. -/
abbrev stepV (x : StepI) : Value := .agg #[.int .i64 x.1, .int .i64 x.2.1, .int .i64 x.2.2]

set_option maxHeartbeats 800000 in
theorem number_any (f l t L N : Int) (ba : Nat) (w : World) (h0 : w.cell? ⟨ba, 0, none⟩ = some (.int .i64 L)) (h1 : w.cell? ⟨ba, 1, none⟩ = some (.int .i64 N)) (hl : L ≤ 4) (hl1 : 1 ≤ L) (hn1 : 1 ≤ N) (hn : N ≤ 300) (h : StIn L N (f, l, t)) :
    Calls Try.prog 60 #[.agg #[.int .i64 f, .int .i64 l, .int .i64 t], .pointer (some ⟨ba, 0, none⟩)] w (Says (.int .i64 (numS L N (f, l, t))) w) := by
  obtain ⟨r1, r2, r3, r4, r5, r6⟩ := numS_range hl hl1 hn1 hn h
  simp only [numS] at r1 r2 r3 r4 r5 r6 ⊢
  have c0 : ∀ o, (w.alloc o).cell? ⟨ba, 0, none⟩ = some (.int .i64 L) := fun o => (grown_alloc w o).cell h0 (by simp)
  have c1 : ∀ o, (w.alloc o).cell? ⟨ba, 1, none⟩ = some (.int .i64 N) := fun o => (grown_alloc w o).cell h1 (by simp)
  have hb : 0 ≤ l ∧ l < L := h.2.2
  have G : Hid (∀ o, w.grownBy (w.alloc o) none) := fun o => grown_alloc w o
  have w1 : IntKind.i64.wrap (f * L) = f * L := by rw [IntKind.wrap_i64]; omega
  have w2 : IntKind.i64.wrap (f * L + l) = f * L + l := by rw [IntKind.wrap_i64]; omega
  have w3 : IntKind.i64.wrap ((f * L + l) * N) = (f * L + l) * N := by rw [IntKind.wrap_i64]; omega
  have w4 : IntKind.i64.wrap ((f * L + l) * N + t) = (f * L + l) * N + t := by rw [IntKind.wrap_i64]; omega
  clear h r1 r2 r3 r4 r5 r6 h0 h1
  go_enter Try.func60, Try.ntmps60
  go_wp2_with fail
  go_ret
  exact ⟨rfl, G.out _⟩

/-- The closure that numbers steps lies in a box, the automaton in another one. -/
structure OrdAt (w : World) (bn ba : Nat) (L N : Int) : Prop where
  fn : w.cell? ⟨bn, 0, none⟩ = some (.func (.func 60) #[] #[.pointer (some ⟨ba, 0, none⟩)])
  l : w.cell? ⟨ba, 0, none⟩ = some (.int .i64 L)
  n : w.cell? ⟨ba, 1, none⟩ = some (.int .i64 N)
theorem OrdAt.grown {w w' : World} {bn ba : Nat} {L N : Int} (h : OrdAt w bn ba L N) (hg : w.grownBy w' none) : OrdAt w' bn ba L N := ⟨hg.cell h.fn (by simp), hg.cell h.l (by simp), hg.cell h.n (by simp)⟩

/-- The two steps' boxes and the closure stay. -/
abbrev KeepO (P W : World) (b bn ba : Nat) (f l t f' l' t' : Int) : Prop :=
  P.grownBy W none ∧ W.cell? ⟨b, 0, none⟩ = some (.int .i64 f) ∧ W.cell? ⟨b, 1, none⟩ = some (.int .i64 l) ∧ W.cell? ⟨b, 2, none⟩ = some (.int .i64 t) ∧
      W.cell? ⟨b + 1, 0, none⟩ = some (.int .i64 f') ∧ W.cell? ⟨b + 1, 1, none⟩ = some (.int .i64 l') ∧ W.cell? ⟨b + 1, 2, none⟩ = some (.int .i64 t') ∧ W.cell? ⟨bn, 0, none⟩ = some (.func (.func 60) #[] #[.pointer (some ⟨ba, 0, none⟩)])
section
variable {P W W' : World} {b bn ba : Nat} {f l t f' l' t' : Int}
theorem KeepO.call (h : KeepO P W b bn ba f l t f' l' t') (hg : W.grownBy W' none) : KeepO P W' b bn ba f l t f' l' t' := by
  obtain ⟨h0, h1, h2, h3, h4, h5, h6, h7⟩ := h
  exact ⟨grown_trans h0 hg, hg.cell h1 (by simp), hg.cell h2 (by simp), hg.cell h3 (by simp), hg.cell h4 (by simp), hg.cell h5 (by simp), hg.cell h6 (by simp), hg.cell h7 (by simp)⟩
theorem KeepO.drew (h : KeepO P W b bn ba f l t f' l' t') : KeepO P W.drew b bn ba f l t f' l' t' := h.call (grown_drew (grown_refl _ _))
theorem KeepO.gr {w : World} (h : KeepO P W b bn ba f l t f' l' t') (hw : w.grownBy P none) : w.grownBy W none := grown_trans hw h.1
end

set_option maxHeartbeats 1600000 in
set_option maxRecDepth 100000 in
theorem order2_any (x y : StepI) (L N : Int) (bn ba : Nat) (w : World) (h : OrdAt w bn ba L N) (hl : L ≤ 4) (hl1 : 1 ≤ L) (hn1 : 1 ≤ N) (hn : N ≤ 300) (hx : StIn L N x) (hy : StIn L N y) :
    Calls Try.prog 61 #[stepV x, stepV y, .pointer (some ⟨bn, 0, none⟩)] w (Says (.int .i64 (cmpF (numS L N x) (numS L N y))) w) := by
  obtain ⟨f, l, t⟩ := x
  obtain ⟨f', l', t'⟩ := y
  simp only [stepV]
  obtain ⟨W1, hW1⟩ : ∃ W1, W1 = w.alloc (.cells #[.int .i64 f, .int .i64 l, .int .i64 t] 78) := ⟨_, rfl⟩
  obtain ⟨W2, hW2⟩ : ∃ W2, W2 = W1.alloc (.cells #[.int .i64 f', .int .i64 l', .int .i64 t'] 78) := ⟨_, rfl⟩
  have HW2 : Hid (W2 = (w.alloc (.cells #[.int .i64 f, .int .i64 l, .int .i64 t] 78)).alloc (.cells #[.int .i64 f', .int .i64 l', .int .i64 t'] 78)) := by show _ = _; rw [hW2, hW1]
  have G2 : Hid (w.grownBy W2 none) := by rw [hW2, hW1]; exact grown_trans (grown_alloc _ _) (grown_alloc _ _)
  have Bx : Hid (∀ W, W2.grownBy W none → W.cell? ⟨w.heap.size, 0, none⟩ = some (.int .i64 f) ∧ W.cell? ⟨w.heap.size, 1, none⟩ = some (.int .i64 l) ∧ W.cell? ⟨w.heap.size, 2, none⟩ = some (.int .i64 t) ∧
      W.cell? ⟨w.heap.size + 1, 0, none⟩ = some (.int .i64 f') ∧ W.cell? ⟨w.heap.size + 1, 1, none⟩ = some (.int .i64 l') ∧ W.cell? ⟨w.heap.size + 1, 2, none⟩ = some (.int .i64 t') ∧ W.cell? ⟨bn, 0, none⟩ = some (.func (.func 60) #[] #[.pointer (some ⟨ba, 0, none⟩)])) := fun W hW => by
    have h1 := heap_alloc_new w (.cells #[.int .i64 f, .int .i64 l, .int .i64 t] 78)
    have h2 := heap_alloc_new W1 (.cells #[.int .i64 f', .int .i64 l', .int .i64 t'] 78)
    rw [← hW1] at h1
    rw [← hW2, hW1, World.size_alloc] at h2
    have g12 : W1.grownBy W none := grown_trans (by rw [hW2]; exact grown_alloc _ _) hW
    have hc : ∀ k v, #[Value.int .i64 f, .int .i64 l, .int .i64 t][k]? = some v → W.cell? ⟨w.heap.size, k, none⟩ = some v := fun k v hv => g12.cell (by rw [cell_of_row _ _ k _ _ (0, 0) h1]; exact hv) (by simp)
    have hd : ∀ k v, #[Value.int .i64 f', .int .i64 l', .int .i64 t'][k]? = some v → W.cell? ⟨w.heap.size + 1, k, none⟩ = some v := fun k v hv => hW.cell (by rw [cell_of_row _ _ k _ _ (0, 0) h2]; exact hv) (by simp)
    exact ⟨hc 0 _ rfl, hc 1 _ rfl, hc 2 _ rfl, hd 0 _ rfl, hd 1 _ rfl, hd 2 _ rfl, (grown_trans G2.out hW).cell h.fn (by simp)⟩
  obtain ⟨p, hp⟩ : ∃ p, numS L N (f, l, t) = p := ⟨_, rfl⟩
  obtain ⟨q, hq⟩ : ∃ q, numS L N (f', l', t') = q := ⟨_, rfl⟩
  rw [hp, hq]
  have HP : Hid (∀ W, w.grownBy W none → Calls Try.prog 60 #[.agg #[.int .i64 f, .int .i64 l, .int .i64 t], .pointer (some ⟨ba, 0, none⟩)] W (Says (.int .i64 p) W)) := fun W hW => hp ▸ number_any f l t L N ba W (h.grown hW).l (h.grown hW).n hl hl1 hn1 hn hx
  have HQ : Hid (∀ W, w.grownBy W none → Calls Try.prog 60 #[.agg #[.int .i64 f', .int .i64 l', .int .i64 t'], .pointer (some ⟨ba, 0, none⟩)] W (Says (.int .i64 q) W)) := fun W hW => hq ▸ number_any f' l' t' L N ba W (h.grown hW).l (h.grown hW).n hl hl1 hn1 hn hy
  have HC : Hid (∀ W, Calls Try.prog 47 #[.int .i64 p, .int .i64 q] W fun e w' => e = .returned (.int .i64 (cmpF p q)) ∧ w' = W) := fun W => compare_any p q W
  generalize cmpF p q = z at HC ⊢
  clear h hW1 hW2 hp hq hx hy
  have K0 : Hid (KeepO W2 W2 w.heap.size bn ba f l t f' l' t') := by
    obtain ⟨x0, x1, x2, y0, y1, y2, fn⟩ := Bx.out W2 (grown_refl _ _)
    exact ⟨grown_refl _ _, x0, x1, x2, y0, y1, y2, fn⟩
  clear Bx
  go_enter Try.func61, Try.ntmps61
  go_wp2_with fail
  rw [← HW2.out]
  clear HW2
  generalize w.heap.size = b0 at *
  go_region_held3 (fun W => KeepO W2 W b0 bn ba f l t f' l' t')
    (first | (with_reducible exact KeepO.drew K0.out) | (with_reducible exact KeepO.call (by assumption) hgA) | (with_reducible exact KeepO.call (by assumption) hgB) | (with_reducible exact KeepO.drew (by assumption)) | assumption)
    (first
    | (go_at_call_of 60 (Value.agg #[.int .i64 f, .int .i64 l, .int .i64 t]); refine (HP.out _ (KeepO.gr (show KeepO W2 _ b0 bn ba f l t f' l' t' from by assumption) G2.out)).mono ?_; rintro e wA ⟨rfl, hgA⟩)
    | (go_at_call_of 60 (Value.agg #[.int .i64 f', .int .i64 l', .int .i64 t']); refine (HQ.out _ (KeepO.gr (show KeepO W2 _ b0 bn ba f l t f' l' t' from by assumption) G2.out)).mono ?_; rintro e wB ⟨rfl, hgB⟩)
    | (go_at_call 47; refine (HC.out _).mono ?_; rintro e w5 ⟨rfl, rfl⟩))
  all_goals
    have GF : Hid (w.grownBy w5 none) := KeepO.gr (show KeepO W2 _ b0 bn ba f l t f' l' t' from by assumption) G2.out
    go_wp2_with fail
    go_ret
    exact ⟨rfl, GF.out⟩

theorem rise_step {zs : List Int} {k : Nat} (hk : 1 ≤ k) (hlt : k < zs.length) (hg : ∀ j, j + 1 < k → zs.getD j 0 < zs.getD (j + 1) 0) (h : zs.getD (k - 1) 0 < zs.getD k 0) : ∀ j, j + 1 < k + 1 → zs.getD j 0 < zs.getD (j + 1) 0 := by
  intro j hj
  by_cases e : j + 1 = k
  · have : j = k - 1 := by omega
    subst this
    rw [show k - 1 + 1 = k by omega]; exact h
  · exact hg j (by omega)

set_option maxHeartbeats 1600000 in
set_option maxRecDepth 100000 in
theorem riseI_any (zs : List Int) (a : Option Addr) (c : Nat) (w : World) (h : Ints w a zs) (hm : zs.length ≤ maxLen) :
    Calls Try.prog 46 #[.slice a zs.length c, .func (.func 47) #[] #[]] w (TellsB (Rise zs) w) := by
  unfold maxLen at hm
  have HZ : Hid (Ints w a zs) := h
  have HC : Hid (∀ p q W, Calls Try.prog 47 #[.int .i64 p, .int .i64 q] W fun e w' => e = .returned (.int .i64 (cmpF p q)) ∧ w' = W) := fun p q W => compare_any p q W
  clear h
  go_enter Try.func46, Try.ntmps46
  go_wp2_with fail
  go_loopw [5] (fun v wr => ∃ k : Nat, 1 ≤ k ∧ (k ≤ zs.length ∨ k = 1) ∧ v = .int .i64 k ∧ w.grownBy wr none ∧ ∀ j, j + 1 < k → zs.getD j 0 < zs.getD (j + 1) 0) (fun v _ => zs.length - (intOf v).toNat)
  case atStart => exact ⟨1, by omega, .inr rfl, rfl, grown_refl _ _, fun j hj => by omega⟩
  case round =>
    obtain ⟨k, hk1, hk, rfl, hgw, hg⟩ := hrel
    have HJ : Hid (∀ j, j + 1 < k → zs.getD j 0 < zs.getD (j + 1) 0) := hg
    have G : Hid (w.grownBy wr none) := hgw
    clear hg
    by_cases hlt : k < zs.length
    · obtain ⟨b, off, rfl, hc⟩ := (HZ.out.grown hgw).at hlt
      have hck := hc k hlt
      obtain ⟨p, hp⟩ : ∃ p, k - 1 = p := ⟨_, rfl⟩
      have hcp := hc p (by omega)
      clear hc hgw
      obtain ⟨x, hx⟩ : ∃ x, zs.getD k 0 = x := ⟨_, rfl⟩
      obtain ⟨y, hy⟩ : ∃ y, zs.getD p 0 = y := ⟨_, rfl⟩
      rw [hx] at hck
      rw [hy] at hcp
      have HX : Hid (zs.getD k 0 = x) := hx
      have HY : Hid (zs.getD p 0 = y) := hy
      have HP : Hid (k - 1 = p) := hp
      have hwp : IntKind.i64.wrap ((k : Int) - 1) = (p : Int) := by rw [IntKind.wrap_i64]; omega
      have HCxy : Hid (∀ W, Calls Try.prog 47 #[.int .i64 y, .int .i64 x] W fun e w' => e = .returned (.int .i64 (cmpF y x)) ∧ w' = W) := fun W => HC.out y x W
      have HGE : Hid (0 ≤ cmpF y x ↔ ¬ y < x) := cmpF_ge y x
      generalize cmpF y x = z at HCxy HGE
      have hpl : p < zs.length := by omega
      have hki : (k : Int) < (zs.length : Int) := by omega
      clear hx hy HC hp
      by_cases g1 : z ≥ 0
      · go_wp2_with fail
        go_quiet ((go_at_call 47; refine Calls.quiet_of_same (HCxy.out _)))
        go_wp2_with fail
        go_ret
        exact tellsB false rfl ⟨(fun e => by cases e), fun e => absurd (e (k - 1) (by omega)) (by rw [show k - 1 + 1 = k by omega, HX.out, HP.out, HY.out]; have := HGE.out; omega)⟩ (by first | exact G.out | exact grown_drewN G.out _ | exact grown_drew G.out)
      · go_wp2_with fail
        go_quiet ((go_at_call 47; refine Calls.quiet_of_same (HCxy.out _)))
        go_wp2_with fail
        go_roundw
        case rel =>
          refine ⟨k + 1, by omega, .inl (by omega), by go_num, by first | exact G.out | exact grown_drewN G.out _ | exact grown_drew G.out, ?_⟩
          refine rise_step hk1 hlt HJ.out ?_
          rw [HP.out, HX.out, HY.out]
          rcases Int.lt_or_le y x with h1 | h1
          · exact h1
          · have := HGE.out; omega
        case measure => simp [intOf]; omega
    · have hki : ¬ (k : Int) < (zs.length : Int) := by omega
      go_wp2_with fail
      go_ret
      exact tellsB true rfl ⟨fun _ => fun i hi => HJ.out i (by omega), fun _ => rfl⟩ G.out

theorem riseT_step {T : List StepI} {k : Nat} (hk : 1 ≤ k) (hlt : k < T.length) (hg : ∀ j, j + 1 < k → Lex (T.getD j (0, 0, 0)) (T.getD (j + 1) (0, 0, 0))) (h : Lex (T.getD (k - 1) (0, 0, 0)) (T.getD k (0, 0, 0))) : ∀ j, j + 1 < k + 1 → Lex (T.getD j (0, 0, 0)) (T.getD (j + 1) (0, 0, 0)) := by
  intro j hj
  by_cases e : j + 1 = k
  · have : j = k - 1 := by omega
    subst this
    rw [show k - 1 + 1 = k by omega]; exact h
  · exact hg j (by omega)

set_option maxHeartbeats 1600000 in
set_option maxRecDepth 100000 in
theorem riseT_any (T : List StepI) (L N : Int) (a : Option Addr) (c bn ba : Nat) (w : World) (h : StepsAt w a T) (hm : T.length ≤ maxLen) (hO : OrdAt w bn ba L N) (hl : L ≤ 4) (hl1 : 1 ≤ L) (hn1 : 1 ≤ N) (hn : N ≤ 300) (hin : InT T L N) :
    Calls Try.prog 48 #[.slice a T.length c, .func (.func 61) #[] #[.pointer (some ⟨bn, 0, none⟩)]] w (TellsB (RiseT T) w) := by
  unfold maxLen at hm
  have HZ : Hid (StepsAt w a T) := h
  have HC : Hid (∀ i j, i < T.length → j < T.length → ∀ W, w.grownBy W none → Calls Try.prog 61 #[stepV (T.getD i (0, 0, 0)), stepV (T.getD j (0, 0, 0)), .pointer (some ⟨bn, 0, none⟩)] W (Says (.int .i64 (cmpF (numS L N (T.getD i (0, 0, 0))) (numS L N (T.getD j (0, 0, 0))))) W) ∧ (0 ≤ cmpF (numS L N (T.getD i (0, 0, 0))) (numS L N (T.getD j (0, 0, 0))) ↔ ¬ Lex (T.getD i (0, 0, 0)) (T.getD j (0, 0, 0)))) := fun i j hi hj W hW => ⟨order2_any _ _ L N bn ba W (hO.grown hW) hl hl1 hn1 hn (hin i hi) (hin j hj), by rw [cmpF_ge, numS_iff hl1 hn1 (hin i hi) (hin j hj)]⟩
  clear h hO hin
  go_enter Try.func48, Try.ntmps48
  go_wp2_with fail
  go_loopw [5] (fun v wr => ∃ k : Nat, 1 ≤ k ∧ (k ≤ T.length ∨ k = 1) ∧ v = .int .i64 k ∧ w.grownBy wr none ∧ ∀ j, j + 1 < k → Lex (T.getD j (0, 0, 0)) (T.getD (j + 1) (0, 0, 0))) (fun v _ => T.length - (intOf v).toNat)
  case atStart => exact ⟨1, by omega, .inr rfl, rfl, grown_refl _ _, fun j hj => by omega⟩
  case round =>
    obtain ⟨k, hk1, hk, rfl, hgw, hg⟩ := hrel
    have HJ : Hid (∀ j, j + 1 < k → Lex (T.getD j (0, 0, 0)) (T.getD (j + 1) (0, 0, 0))) := hg
    have G : Hid (w.grownBy wr none) := hgw
    clear hg
    by_cases hlt : k < T.length
    · obtain ⟨b, off, rfl, hc⟩ := (HZ.out.grown hgw).at hlt
      obtain ⟨p, hp⟩ : ∃ p, k - 1 = p := ⟨_, rfl⟩
      have HP : Hid (k - 1 = p) := hp
      obtain ⟨y0, y1, y2⟩ := hc k hlt
      obtain ⟨x0, x1, x2⟩ := hc p (by omega)
      have hwp : IntKind.i64.wrap ((k : Int) - 1) = (p : Int) := by rw [IntKind.wrap_i64]; omega
      have hpl : p < T.length := by omega
      have hki : (k : Int) < (T.length : Int) := by omega
      obtain ⟨z, hz⟩ : ∃ z, cmpF (numS L N (T.getD p (0, 0, 0))) (numS L N (T.getD k (0, 0, 0))) = z := ⟨_, rfl⟩
      have HCx : Hid (∀ W, w.grownBy W none → Calls Try.prog 61 #[stepV (T.getD p (0, 0, 0)), stepV (T.getD k (0, 0, 0)), .pointer (some ⟨bn, 0, none⟩)] W (Says (.int .i64 z) W)) := fun W hW => hz ▸ (HC.out p k hpl hlt W hW).1
      have HGE : Hid (0 ≤ z ↔ ¬ Lex (T.getD p (0, 0, 0)) (T.getD k (0, 0, 0))) := hz ▸ (HC.out p k hpl hlt wr hgw).2
      clear hz hc hgw HC hp
      have HJ2 : Hid (Lex (T.getD p (0, 0, 0)) (T.getD k (0, 0, 0)) → ∀ j, j + 1 < k + 1 → Lex (T.getD j (0, 0, 0)) (T.getD (j + 1) (0, 0, 0))) := fun hx => riseT_step hk1 hlt HJ.out (by rw [HP.out]; exact hx)
      have HN2 : Hid (¬ Lex (T.getD p (0, 0, 0)) (T.getD k (0, 0, 0)) → ¬ RiseT T) := fun hx e => hx (by have := e (k - 1) (by omega); rw [show k - 1 + 1 = k by omega, HP.out] at this; exact this)
      generalize T.getD p (0, 0, 0) = x at *
      generalize T.getD k (0, 0, 0) = y at *
      obtain ⟨f, l, t⟩ := x
      obtain ⟨f', l', t'⟩ := y
      simp only [stepV] at HCx x0 x1 x2 y0 y1 y2
      by_cases g1 : z ≥ 0
      · go_wp2_with fail
        go_region_with (go_at_call 61; refine (HCx.out _ (by first | exact G.out | exact grown_drewN G.out _ | exact grown_drew G.out)).mono ?_; rintro e w3 ⟨rfl, hg3⟩; have G3 : Hid (w.grownBy w3 none) := grown_trans (by first | exact G.out | exact grown_drewN G.out _ | exact grown_drew G.out) hg3)
        all_goals
          go_wp2_with fail
          go_ret
          exact tellsB false rfl ⟨(fun e => by cases e), fun e => absurd e (HN2.out (HGE.out.1 g1))⟩ G3.out
      · go_wp2_with fail
        go_region_with (go_at_call 61; refine (HCx.out _ (by first | exact G.out | exact grown_drewN G.out _ | exact grown_drew G.out)).mono ?_; rintro e w3 ⟨rfl, hg3⟩; have G3 : Hid (w.grownBy w3 none) := grown_trans (by first | exact G.out | exact grown_drewN G.out _ | exact grown_drew G.out) hg3)
        all_goals
          go_wp2_with fail
          go_roundw
          case rel =>
            refine ⟨k + 1, by omega, .inl (by omega), by go_num, G3.out, HJ2.out ?_⟩
            exact Classical.byContradiction fun h1 => by have := HGE.out.2 h1; omega
          case measure => simp [intOf]; omega
    · have hki : ¬ (k : Int) < (T.length : Int) := by omega
      go_wp2_with fail
      go_ret
      exact tellsB true rfl ⟨fun _ => fun i hi => HJ.out i (by omega), fun _ => rfl⟩ G.out

end Go.Proofs.Ytcgkflddipflbaa

namespace Go.Proofs.Ytcgkflddipflbaa
open Go.RowKit
set_option linter.unusedVariables false

/-- A box of five. -/
theorem box5 {w wr : World} {v0 v1 v2 v3 v4 : Value} {t : TypeId} (h : (w.alloc (.cells #[v0, v1, v2, v3, v4] t)).grownBy wr none) :
    wr.cell? ⟨w.heap.size, 0, none⟩ = some v0 ∧ wr.cell? ⟨w.heap.size, 1, none⟩ = some v1 ∧ wr.cell? ⟨w.heap.size, 2, none⟩ = some v2 ∧ wr.cell? ⟨w.heap.size, 3, none⟩ = some v3 ∧ wr.cell? ⟨w.heap.size, 4, none⟩ = some v4 := by
  have hb := heap_alloc_new w (.cells #[v0, v1, v2, v3, v4] t)
  have hc : ∀ k v, #[v0, v1, v2, v3, v4][k]? = some v → wr.cell? ⟨w.heap.size, k, none⟩ = some v := fun k v hv => h.cell (by rw [cell_of_row _ _ k _ _ (0, 0) hb]; exact hv) (by simp)
  exact ⟨hc 0 _ rfl, hc 1 _ rfl, hc 2 _ rfl, hc 3 _ rfl, hc 4 _ rfl⟩
theorem boxA_new (w : World) (L N : Int) (a : Option Addr) (n c : Nat) (b : Option Addr) (k d : Nat) (e : Option Addr) (m f : Nat) : ∃ W, W = w.alloc (.cells #[.int .i64 L, .int .i64 N, .slice a n c, .slice b k d, .slice e m f] 75) ∧ w.grownBy W none ∧ W.heap.size = w.heap.size + 1 ∧ ∀ W', W.grownBy W' none → W'.cell? ⟨w.heap.size, 0, none⟩ = some (.int .i64 L) ∧ W'.cell? ⟨w.heap.size, 1, none⟩ = some (.int .i64 N) ∧ W'.cell? ⟨w.heap.size, 2, none⟩ = some (.slice a n c) ∧ W'.cell? ⟨w.heap.size, 3, none⟩ = some (.slice b k d) ∧ W'.cell? ⟨w.heap.size, 4, none⟩ = some (.slice e m f) :=
  ⟨_, rfl, grown_alloc _ _, by simp, fun W' h => box5 h⟩

theorem inR2 (f t n : Int) : InR [f, t] n ↔ (0 ≤ f ∧ f < n) ∧ (0 ≤ t ∧ t < n) := by
  constructor
  · intro h; exact ⟨by simpa using h 0 (by simp), by simpa using h 1 (by simp)⟩
  · rintro ⟨h1, h2⟩ i hi
    simp only [List.length_cons, List.length_nil] at hi
    have : i = 0 ∨ i = 1 := by omega
    rcases this with rfl | rfl
    · simpa using h1
    · simpa using h2
theorem inR1 (f n : Int) : InR [f] n ↔ (0 ≤ f ∧ f < n) := by
  constructor
  · intro h; simpa using h 0 (by simp)
  · intro h1 i hi
    simp only [List.length_cons, List.length_nil] at hi
    have : i = 0 := by omega
    subst this; simpa using h1

set_option maxHeartbeats 1600000 in
set_option maxRecDepth 100000 in
theorem stepsWithin_any (L N : Int) (a b e : Option Addr) (n c d m f : Nat) (T : List StepI) (w : World) (h : StepsAt w b T) (hm : T.length ≤ maxLen) :
    Calls Try.prog 45 #[autV L N a n c b T.length d e m f] w (TellsB (InT T L N) w) := by
  unfold maxLen at hm
  have HZ : Hid (StepsAt w b T) := h
  have HI2 : Hid (∀ (f t : Int) (g : Nat) W, W.heap[g]? = some (.cells #[.int .i64 f, .int .i64 t] 3 (0, 0)) → Calls Try.prog 44 #[.slice (some ⟨g, 0, none⟩) 2 2, .int .i64 N] W (TellsB (InR [f, t] N) W)) := fun f t g W hg => within_any [f, t] N (some ⟨g, 0, none⟩) 2 W (.inr ⟨g, 0, rfl, fun i hi => by
    simp only [List.length_cons, List.length_nil] at hi
    have : i = 0 ∨ i = 1 := by omega
    rw [Nat.zero_add, cell_of_row _ _ i _ _ (0, 0) hg]
    rcases this with rfl | rfl <;> rfl⟩) (by simp [maxLen])
  have HI1 : Hid (∀ (f : Int) (g : Nat) W, W.heap[g]? = some (.cells #[.int .i64 f] 3 (0, 0)) → Calls Try.prog 44 #[.slice (some ⟨g, 0, none⟩) 1 1, .int .i64 L] W (TellsB (InR [f] L) W)) := fun f g W hg => within_any [f] L (some ⟨g, 0, none⟩) 1 W (.inr ⟨g, 0, rfl, fun i hi => by
    simp only [List.length_cons, List.length_nil] at hi
    have : i = 0 := by omega
    rw [Nat.zero_add, cell_of_row _ _ i _ _ (0, 0) hg]
    subst this; rfl⟩) (by simp [maxLen])
  obtain ⟨W1, hW1, g1, s1, bx1⟩ := boxA_new w L N a n c b T.length d e m f
  have HW1 : Hid (W1 = _) := hW1
  have G1 : Hid (w.grownBy W1 none) := g1
  have B1 : Hid (∀ W', W1.grownBy W' none → W'.cell? ⟨w.heap.size, 0, none⟩ = some (.int .i64 L) ∧ W'.cell? ⟨w.heap.size, 1, none⟩ = some (.int .i64 N) ∧ W'.cell? ⟨w.heap.size, 2, none⟩ = some (.slice a n c) ∧ W'.cell? ⟨w.heap.size, 3, none⟩ = some (.slice b T.length d) ∧ W'.cell? ⟨w.heap.size, 4, none⟩ = some (.slice e m f)) := bx1
  clear h hW1 g1 s1 bx1
  go_enter Try.func45, Try.ntmps45
  go_wp2_with fail
  rw [← HW1.out]
  go_loopw [8] (fun v wr => ∃ k : Nat, k ≤ T.length ∧ v = .int .i64 k ∧ W1.grownBy wr none ∧ ∀ j, j < k → StIn L N (T.getD j (0, 0, 0))) (fun v _ => T.length - (intOf v).toNat)
  case atStart => exact ⟨0, by omega, rfl, grown_refl _ _, fun j hj => by omega⟩
  case round =>
    obtain ⟨k, hk, rfl, hgw, hg⟩ := hrel
    have HJ : Hid (∀ j, j < k → StIn L N (T.getD j (0, 0, 0))) := hg
    have G : Hid (W1.grownBy wr none) := hgw
    clear hg
    by_cases hlt : k < T.length
    · obtain ⟨bb, off, rfl, hc⟩ := (HZ.out.grown (grown_trans G1.out hgw)).at hlt
      obtain ⟨y0, y1, y2⟩ := hc k hlt
      have hki : (k : Int) < (T.length : Int) := by omega
      have HNo : Hid (¬ StIn L N (T.getD k (0, 0, 0)) → ¬ InT T L N) := fun hx e => hx (e k hlt)
      have HYes : Hid (StIn L N (T.getD k (0, 0, 0)) → ∀ j, j < k + 1 → StIn L N (T.getD j (0, 0, 0))) := fun hx j hj => by
        by_cases e : j = k
        · subst e; exact hx
        · exact HJ.out j (by omega)
      clear hc
      generalize T.getD k (0, 0, 0) = x at *
      obtain ⟨ff, ll, tt⟩ := x
      simp only at y0 y1 y2
      have cN : ∀ o o', ((wr.alloc o).alloc o').cell? ⟨w.heap.size, 1, none⟩ = some (.int .i64 N) := fun o o' => (B1.out _ (grown_trans hgw (grown_trans (grown_alloc _ o) (grown_alloc _ o')))).2.1
      have HNew : Hid (∀ o x y, (((wr.alloc o).alloc (.cells #[x, y] 3)).heap[wr.heap.size + 1]? = some (.cells #[x, y] 3 (0, 0)))) := fun o x y => by
        have h1 := heap_alloc_new (wr.alloc o) (.cells #[x, y] 3)
        rw [World.size_alloc] at h1
        exact h1
      have HX : Hid (∀ o W, (wr.alloc o).grownBy W none → ∀ c0 t0, o = .cells c0 t0 (0, 0) → W.heap[wr.heap.size]? = some (.cells c0 t0 (0, 0))) := fun o W hW c0 t0 ho => by
        have h1 := heap_alloc_new wr o
        rw [ho] at h1
        exact (hW.block _ (by simp) (by simp)).trans (by rw [ho]; exact h1)
      clear hgw
      go_wp2_with fail
      refine (HI2.out ff tt _ _ (HNew.out _ _ _)).mono ?_
      rintro E w3 ⟨b1, rfl, hb1, hg3⟩
      have G3 : Hid (W1.grownBy w3 none) := grown_trans G.out (grown_trans (grown_trans (grown_alloc _ _) (grown_alloc _ _)) hg3)
      have hst := HX.out _ w3 (grown_trans (grown_alloc _ _) hg3) _ _ rfl
      rw [inR2] at hb1
      cases b1 with
      | false =>
        have HF : Hid (¬ InT T L N) := HNo.out (fun e => by have := hb1.2 ⟨e.1, e.2.1⟩; cases this)
        clear hb1 hg3 hst cN
        go_wp2_with fail
        go_ret
        exact tellsB false rfl ⟨(fun e => by cases e), fun e => absurd e HF.out⟩ (grown_trans G1.out G3.out)
      | true =>
        have HB1 : Hid ((0 ≤ ff ∧ ff < N) ∧ (0 ≤ tt ∧ tt < N)) := hb1.1 rfl
        have c1 : w3.cell? ⟨wr.heap.size, 1, none⟩ = some (.int .i64 ll) := by rw [cell_of_row _ _ 1 _ _ (0, 0) hst]; rfl
        have cL : ∀ o, (w3.alloc o).cell? ⟨w.heap.size, 0, none⟩ = some (.int .i64 L) := fun o => (B1.out _ (grown_trans G3.out (grown_alloc _ o))).1
        have HNew3 : Hid (∀ x, ((w3.alloc (.cells #[x] 3)).heap[w3.heap.size]? = some (.cells #[x] 3 (0, 0)))) := fun x => heap_alloc_new w3 (.cells #[x] 3)
        clear hb1 hg3 hst cN
        go_wp2_with fail
        refine (HI1.out ll _ _ (HNew3.out _)).mono ?_
        rintro E w4 ⟨b2, rfl, hb2, hg4⟩
        have G4 : Hid (W1.grownBy w4 none) := grown_trans G3.out (grown_trans (grown_alloc _ _) hg4)
        rw [inR1] at hb2
        clear hg4 c1 cL
        cases b2 with
        | false =>
          have HF : Hid (¬ InT T L N) := HNo.out (fun e => by have := hb2.2 e.2.2; cases this)
          clear hb2
          go_wp2_with fail
          go_ret
          exact tellsB false rfl ⟨(fun e => by cases e), fun e => absurd e HF.out⟩ (grown_trans G1.out G4.out)
        | true =>
          have HB2 : Hid (0 ≤ ll ∧ ll < L) := hb2.1 rfl
          clear hb2
          go_wp2_with fail
          go_roundw
          case rel => exact ⟨k + 1, by omega, by go_num, G4.out, HYes.out ⟨HB1.out.1, HB1.out.2, HB2.out⟩⟩
          case measure => simp [intOf]; omega
    · have hki : ¬ (k : Int) < (T.length : Int) := by omega
      go_wp2_with fail
      go_ret
      exact tellsB true rfl ⟨fun _ => fun i hi => HJ.out i (by omega), fun _ => rfl⟩ (grown_trans G1.out G.out)

/-- An operation whose guard is off is passed over. -/
theorem skip_op {o : Oper} {y : Nat → Option Bool} {A E : Prop} (hw : Region.wanted o y = false) (h : E) : if Region.wanted o y = true then A else E := by rw [hw]; simpa using h

/-- What order answers. -/
def OrdPost (L N : Int) (w : World) (e : Ending) (w' : World) : Prop := ∃ bn ba, e = .returned (.func (.func 61) #[] #[.pointer (some ⟨bn, 0, none⟩)]) ∧ OrdAt w' bn ba L N ∧ w.grownBy w' none

set_option maxHeartbeats 800000 in
theorem order_any (L N : Int) (a b e : Option Addr) (n c k d m f : Nat) (w : World) : Calls Try.prog 49 #[autV L N a n c b k d e m f] w (OrdPost L N w) := by
  have HB : Hid (∀ (g : Nat) o, g = w.heap.size + 1 → OrdAt ((w.alloc (.cells #[.int .i64 L, .int .i64 N, .slice a n c, .slice b k d, .slice e m f] 75)).alloc (.cells #[.func (.func 60) #[] #[.pointer (some ⟨w.heap.size, 0, none⟩)]] o)) g w.heap.size L N) := fun g o hg => by
    obtain ⟨h0, h1, _⟩ := box5 (grown_alloc (w.alloc (.cells #[.int .i64 L, .int .i64 N, .slice a n c, .slice b k d, .slice e m f] 75)) (.cells #[.func (.func 60) #[] #[.pointer (some ⟨w.heap.size, 0, none⟩)]] o))
    refine ⟨?_, h0, h1⟩
    have h2 := heap_alloc_new (w.alloc (.cells #[.int .i64 L, .int .i64 N, .slice a n c, .slice b k d, .slice e m f] 75)) (.cells #[.func (.func 60) #[] #[.pointer (some ⟨w.heap.size, 0, none⟩)]] o)
    rw [World.size_alloc, ← hg] at h2
    rw [cell_of_row _ _ 0 _ _ (0, 0) h2]
    rfl
  have G : Hid (∀ o o', w.grownBy ((w.alloc o).alloc o') none) := fun o o' => grown_trans (grown_alloc _ _) (grown_alloc _ _)
  go_enter Try.func49, Try.ntmps49
  go_wp2_with fail
  go_ret
  exact ⟨_, _, rfl, HB.out _ _ rfl, G.out _ _⟩

abbrev KeepC (P W : World) (b : Nat) (L N : Int) (vS vT vF : Value) : Prop :=
  P.grownBy W none ∧ W.cell? ⟨b, 0, none⟩ = some (.int .i64 L) ∧ W.cell? ⟨b, 1, none⟩ = some (.int .i64 N) ∧ W.cell? ⟨b, 2, none⟩ = some vS ∧ W.cell? ⟨b, 3, none⟩ = some vT ∧ W.cell? ⟨b, 4, none⟩ = some vF
section
variable {P W W' : World} {b : Nat} {L N : Int} {vS vT vF : Value}
theorem KeepC.call (h : KeepC P W b L N vS vT vF) (hg : W.grownBy W' none) : KeepC P W' b L N vS vT vF := by
  obtain ⟨h0, h1, h2, h3, h4, h5⟩ := h
  exact ⟨grown_trans h0 hg, hg.cell h1 (by simp), hg.cell h2 (by simp), hg.cell h3 (by simp), hg.cell h4 (by simp), hg.cell h5 (by simp)⟩
theorem KeepC.drew (h : KeepC P W b L N vS vT vF) : KeepC P W.drew b L N vS vT vF := h.call (grown_drew (grown_refl _ _))
theorem KeepC.gr {w : World} (h : KeepC P W b L N vS vT vF) (hw : w.grownBy P none) : w.grownBy W none := grown_trans hw h.1
end

set_option maxHeartbeats 3200000 in
set_option maxRecDepth 100000 in
theorem checkB_any (x : Aut) (a b e : Option Addr) (c d f : Nat) (w : World) (h : AutAt w x a b e) :
    Calls Try.prog 41 #[autV x.L x.N a x.S.length c b x.T.length d e x.F.length f] w (Says (.int .i64 (checkA x)) w) := by
  have HS1 : Hid (∀ W, w.grownBy W none → Calls Try.prog 44 #[.slice a x.S.length c, .int .i64 x.N] W (TellsB (InR x.S x.N) W)) := fun W hW => within_any _ _ _ _ _ (h.grown hW).start h.ms
  have HF1 : Hid (∀ W, w.grownBy W none → Calls Try.prog 44 #[.slice e x.F.length f, .int .i64 x.N] W (TellsB (InR x.F x.N) W)) := fun W hW => within_any _ _ _ _ _ (h.grown hW).final h.mf
  have HT1 : Hid (∀ W, w.grownBy W none → Calls Try.prog 45 #[autV x.L x.N a x.S.length c b x.T.length d e x.F.length f] W (TellsB (InT x.T x.L x.N) W)) := fun W hW => stepsWithin_any _ _ _ _ _ _ _ _ _ _ _ _ (h.grown hW).steps h.mt
  have HS2 : Hid (∀ W, w.grownBy W none → Calls Try.prog 46 #[.slice a x.S.length c, .func (.func 47) #[] #[]] W (TellsB (Rise x.S) W)) := fun W hW => riseI_any _ _ _ _ (h.grown hW).start h.ms
  have HF2 : Hid (∀ W, w.grownBy W none → Calls Try.prog 46 #[.slice e x.F.length f, .func (.func 47) #[] #[]] W (TellsB (Rise x.F) W)) := fun W hW => riseI_any _ _ _ _ (h.grown hW).final h.mf
  have HO : Hid (∀ W, w.grownBy W none → Calls Try.prog 49 #[autV x.L x.N a x.S.length c b x.T.length d e x.F.length f] W (OrdPost x.L x.N W)) := fun W hW => order_any _ _ _ _ _ _ _ _ _ _ _ _
  have HT2 : Hid (∀ W bn ba, w.grownBy W none → OrdAt W bn ba x.L x.N → x.L ≤ 4 → 1 ≤ x.L → 1 ≤ x.N → x.N ≤ 300 → InT x.T x.L x.N → Calls Try.prog 48 #[.slice b x.T.length d, .func (.func 61) #[] #[.pointer (some ⟨bn, 0, none⟩)]] W (TellsB (RiseT x.T) W)) := fun W bn ba hW hO h1 h2 h3 h4 h5 => riseT_any _ _ _ _ _ _ _ _ (h.grown hW).steps h.mt hO h1 h2 h3 h4 h5
  have hmt := h.mt
  unfold maxLen at hmt
  obtain ⟨W1, hW1, g1, s1, bx1⟩ := boxA_new w x.L x.N a x.S.length c b x.T.length d e x.F.length f
  have HW1 : Hid (W1 = _) := hW1
  have G1 : Hid (w.grownBy W1 none) := g1
  have K1 : Hid (∀ W', W1.grownBy W' none → KeepC W1 W' w.heap.size x.L x.N (.slice a x.S.length c) (.slice b x.T.length d) (.slice e x.F.length f)) := fun W' hW' => ⟨hW', bx1 W' hW'⟩
  obtain ⟨z, hz⟩ : ∃ z, checkA x = z := ⟨_, rfl⟩
  rw [hz]
  have HZ : Hid (checkA x = z) := hz
  clear h hW1 g1 s1 bx1 hz
  obtain ⟨L, N, S, T, F⟩ := x
  simp only at *
  have HA : Hid (L < 1 ∨ 4 < L → z = 2) := fun h => by rw [← HZ.out]; exact checkA_range h
  have HB : Hid (¬ (L < 1 ∨ 4 < L) → N < 1 ∨ 300 < N ∨ 40000 < T.length → z = 1) := fun h h2 => by rw [← HZ.out]; exact checkA_size h h2
  have HC : Hid (¬ (L < 1 ∨ 4 < L) → ¬ (N < 1 ∨ 300 < N ∨ 40000 < T.length) → ¬ (InR S N ∧ InR F N ∧ InT T L N) → z = 2) := fun h h2 h3 => by rw [← HZ.out]; exact checkA_in h h2 h3
  have HD : Hid (¬ (L < 1 ∨ 4 < L) → ¬ (N < 1 ∨ 300 < N ∨ 40000 < T.length) → InR S N ∧ InR F N ∧ InT T L N → ¬ (Rise S ∧ Rise F ∧ RiseT T) → z = 3) := fun h h2 h3 h4 => by rw [← HZ.out]; exact checkA_rise h h2 h3 h4
  have HE : Hid (¬ (L < 1 ∨ 4 < L) → ¬ (N < 1 ∨ 300 < N ∨ 40000 < T.length) → InR S N ∧ InR F N ∧ InT T L N → (Rise S ∧ Rise F ∧ RiseT T) → z = 0) := fun h h2 h3 h4 => by
    rw [← HZ.out]; exact checkA_good ⟨by simp only; omega, by simp only; omega, by simp only; omega, by simp only; omega, by simp only; omega, h3.1, h3.2.1, h3.2.2, h4.1, h4.2.1, h4.2.2⟩
  generalize S.length = nS at *
  generalize T.length = nT at *
  generalize F.length = nF at *
  clear HZ
  obtain ⟨_, x0, x1, x2, x3, x4⟩ := K1.out W1 (grown_refl _ _)
  have KK : Hid (∀ W', W1.grownBy W' none → W'.cell? ⟨w.heap.size, 0, none⟩ = some (.int .i64 L) ∧ W'.cell? ⟨w.heap.size, 1, none⟩ = some (.int .i64 N) ∧ W'.cell? ⟨w.heap.size, 2, none⟩ = some (.slice a nS c) ∧ W'.cell? ⟨w.heap.size, 3, none⟩ = some (.slice b nT d) ∧ W'.cell? ⟨w.heap.size, 4, none⟩ = some (.slice e nF f)) := fun W' hW' => (K1.out W' hW').2
  by_cases c1 : L < 1 ∨ 4 < L
  · rw [HA.out c1]
    have GF := G1.out
    clear HA HB HC HD HE HS1 HF1 HT1 HS2 HF2 HO HT2
    rcases c1 with c1 | c1
    · go_enter Try.func41, Try.ntmps41
      go_wp2_with fail
      rw [← HW1.out]
      go_ret
      exact ⟨rfl, GF⟩
    · have c2 : ¬ L < 1 := by omega
      go_enter Try.func41, Try.ntmps41
      go_wp2_with fail
      rw [← HW1.out]
      go_ret
      exact ⟨rfl, GF⟩
  have HNc1 : Hid (¬ (L < 1 ∨ 4 < L)) := c1
  have l1 : ¬ L < 1 := by omega
  have l2 : ¬ 4 < L := by omega
  clear c1
  by_cases c2 : N < 1 ∨ 300 < N ∨ 40000 < nT
  · rw [HB.out HNc1.out c2]
    have GF := G1.out
    clear HA HB HC HD HE HS1 HF1 HT1 HS2 HF2 HO HT2
    rcases c2 with c2 | c2 | c2
    · go_enter Try.func41, Try.ntmps41
      go_wp2_with fail
      rw [← HW1.out]
      go_ret
      exact ⟨rfl, GF⟩
    · have c3 : ¬ N < 1 := by omega
      go_enter Try.func41, Try.ntmps41
      go_wp2_with fail
      rw [← HW1.out]
      go_ret
      exact ⟨rfl, GF⟩
    · by_cases c3 : N < 1
      · go_enter Try.func41, Try.ntmps41
        go_wp2_with fail
        rw [← HW1.out]
        go_ret
        exact ⟨rfl, GF⟩
      · by_cases c4 : 300 < N
        · go_enter Try.func41, Try.ntmps41
          go_wp2_with fail
          rw [← HW1.out]
          go_ret
          exact ⟨rfl, GF⟩
        · have c5 : (40000 : Int) < (nT : Int) := by omega
          go_enter Try.func41, Try.ntmps41
          go_wp2_with fail
          rw [← HW1.out]
          go_ret
          exact ⟨rfl, GF⟩
  have HNc2 : Hid (¬ (N < 1 ∨ 300 < N ∨ 40000 < nT)) := c2
  have n1 : ¬ N < 1 := by omega
  have n2 : ¬ 300 < N := by omega
  have n3 : ¬ (40000 : Int) < (nT : Int) := by omega
  clear c2 HA HB
  go_enter Try.func41, Try.ntmps41
  go_wp2_with fail
  rw [← HW1.out]
  refine (HS1.out _ G1.out).mono ?_
  rintro E w2 ⟨b2, rfl, hb2, hg2⟩
  have G2 : Hid (W1.grownBy w2 none) := hg2
  obtain ⟨y0, y1, y2, y3, y4⟩ := KK.out w2 hg2
  clear hg2 x0 x1 x2 x3 x4
  cases b2 with
  | false =>
    have Hz : Hid (z = 2) := HC.out HNc1.out HNc2.out (fun e => by have := hb2.2 e.1; cases this)
    have GF := grown_trans G1.out G2.out
    clear hb2
    go_wp2_with fail
    go_ret
    exact ⟨by rw [Hz.out]; rfl, GF⟩
  | true =>
  have H2 : Hid (InR S N) := hb2.1 rfl
  clear hb2
  go_wp2_with fail
  refine (HF1.out _ (grown_trans G1.out G2.out)).mono ?_
  rintro E w3 ⟨b3, rfl, hb3, hg3⟩
  have G3 : Hid (W1.grownBy w3 none) := grown_trans G2.out hg3
  obtain ⟨x0, x1, x2, x3, x4⟩ := KK.out w3 G3.out
  clear hg3 y0 y1 y2 y3 y4
  cases b3 with
  | false =>
    have Hz : Hid (z = 2) := HC.out HNc1.out HNc2.out (fun e => by have := hb3.2 e.2.1; cases this)
    have GF := grown_trans G1.out G3.out
    clear hb3
    go_wp2_with fail
    go_ret
    exact ⟨by rw [Hz.out]; rfl, GF⟩
  | true =>
  have H3 : Hid (InR F N) := hb3.1 rfl
  clear hb3
  go_wp2_with fail
  refine (HT1.out _ (grown_trans G1.out G3.out)).mono ?_
  rintro E w4 ⟨b4, rfl, hb4, hg4⟩
  have G4 : Hid (W1.grownBy w4 none) := grown_trans G3.out hg4
  obtain ⟨y0, y1, y2, y3, y4⟩ := KK.out w4 G4.out
  clear hg4 x0 x1 x2 x3 x4
  cases b4 with
  | false =>
    have Hz : Hid (z = 2) := HC.out HNc1.out HNc2.out (fun e => by have := hb4.2 e.2.2; cases this)
    have GF := grown_trans G1.out G4.out
    clear hb4
    go_wp2_with fail
    go_ret
    exact ⟨by rw [Hz.out]; rfl, GF⟩
  | true =>
  have H4 : Hid (InT T L N) := hb4.1 rfl
  have HIn : Hid (InR S N ∧ InR F N ∧ InT T L N) := ⟨H2.out, H3.out, H4.out⟩
  clear hb4 HC
  go_wp2_with fail
  have K4 : Hid (KeepC W1 w4 w.heap.size L N (.slice a nS c) (.slice b nT d) (.slice e nF f)) := K1.out w4 G4.out
  clear y0 y1 y2 y3 y4
  have HT3 : Hid (∀ W bn ba, w.grownBy W none → OrdAt W bn ba L N → Calls Try.prog 48 #[.slice b nT d, .func (.func 61) #[] #[.pointer (some ⟨bn, 0, none⟩)]] W (TellsB (RiseT T) W)) := fun W bn ba hW hO => HT2.out W bn ba hW hO (by omega) (by omega) (by omega) (by omega) H4.out
  clear HT2
  generalize w.heap.size = b0 at *
  by_cases r1 : Rise S
  · have Q1 : Hid (∀ W, w.grownBy W none → Calls Try.prog 46 #[.slice a nS c, .func (.func 47) #[] #[]] W (Says (.bool true) W)) := fun W hW => (HS2.out W hW).mono fun e w' h => says_of_tells h r1
    have R1 : Hid (Rise S) := r1
    clear r1 HS2
    by_cases r2 : Rise F
    · have Q2 : Hid (∀ W, w.grownBy W none → Calls Try.prog 46 #[.slice e nF f, .func (.func 47) #[] #[]] W (Says (.bool true) W)) := fun W hW => (HF2.out W hW).mono fun e w' h => says_of_tells h r2
      have R2 : Hid (Rise F) := r2
      clear r2 HF2
      by_cases r3 : RiseT T
      · have Q3 : Hid (∀ W bn ba, w.grownBy W none → OrdAt W bn ba L N → Calls Try.prog 48 #[.slice b nT d, .func (.func 61) #[] #[.pointer (some ⟨bn, 0, none⟩)]] W (Says (.bool true) W)) := fun W bn ba hW hO => (HT3.out W bn ba hW hO).mono fun e w' h => says_of_tells h r3
        have Hz : Hid (z = 0) := HE.out HNc1.out HNc2.out HIn.out ⟨R1.out, R2.out, r3⟩
        clear r3 HT3
        go_region_held3 (fun W => KeepC W1 W b0 L N (.slice a nS c) (.slice b nT d) (.slice e nF f))
            (first | (with_reducible exact KeepC.drew K4.out) | (with_reducible exact KeepC.call (by assumption) hgA) | (with_reducible exact KeepC.drew (by assumption)) | assumption)
            (first
            | (go_at_call_of 46 (Value.slice a nS c); refine (Q1.out _ (KeepC.gr (show KeepC W1 _ b0 L N (.slice a nS c) (.slice b nT d) (.slice e nF f) from by assumption) G1.out)).mono ?_; rintro E wA ⟨rfl, hgA⟩)
            | (go_at_call_of 46 (Value.slice e nF f); refine (Q2.out _ (KeepC.gr (show KeepC W1 _ b0 L N (.slice a nS c) (.slice b nT d) (.slice e nF f) from by assumption) G1.out)).mono ?_; rintro E wA ⟨rfl, hgA⟩)
            | (go_at_call 49; refine (HO.out _ (KeepC.gr (show KeepC W1 _ b0 L N (.slice a nS c) (.slice b nT d) (.slice e nF f) from by assumption) G1.out)).mono ?_; rintro E wA ⟨bn, ba, rfl, hO, hgA⟩; have HOA : Hid (OrdAt wA bn ba L N) := hO)
            | (go_at_call 48; refine (Q3.out _ bn ba (KeepC.gr (show KeepC W1 _ b0 L N (.slice a nS c) (.slice b nT d) (.slice e nF f) from by assumption) G1.out) HOA.out).mono ?_; rintro E wA ⟨rfl, hgA⟩))
        all_goals
          have GF : Hid (w.grownBy _ none) := (KeepC.gr (show KeepC W1 _ b0 L N (.slice a nS c) (.slice b nT d) (.slice e nF f) from by assumption) G1.out)
          go_wp2_with fail
          go_ret
          exact ⟨by rw [Hz.out]; rfl, GF.out⟩
      · have Q3 : Hid (∀ W bn ba, w.grownBy W none → OrdAt W bn ba L N → Calls Try.prog 48 #[.slice b nT d, .func (.func 61) #[] #[.pointer (some ⟨bn, 0, none⟩)]] W (Says (.bool false) W)) := fun W bn ba hW hO => (HT3.out W bn ba hW hO).mono fun e w' h => says_not h r3
        have Hz : Hid (z = 3) := HD.out HNc1.out HNc2.out HIn.out (fun e => r3 e.2.2)
        clear r3 HT3
        go_region_held3 (fun W => KeepC W1 W b0 L N (.slice a nS c) (.slice b nT d) (.slice e nF f))
            (first | (with_reducible exact KeepC.drew K4.out) | (with_reducible exact KeepC.call (by assumption) hgA) | (with_reducible exact KeepC.drew (by assumption)) | assumption)
            (first
            | (go_at_call_of 46 (Value.slice a nS c); refine (Q1.out _ (KeepC.gr (show KeepC W1 _ b0 L N (.slice a nS c) (.slice b nT d) (.slice e nF f) from by assumption) G1.out)).mono ?_; rintro E wA ⟨rfl, hgA⟩)
            | (go_at_call_of 46 (Value.slice e nF f); refine (Q2.out _ (KeepC.gr (show KeepC W1 _ b0 L N (.slice a nS c) (.slice b nT d) (.slice e nF f) from by assumption) G1.out)).mono ?_; rintro E wA ⟨rfl, hgA⟩)
            | (go_at_call 49; refine (HO.out _ (KeepC.gr (show KeepC W1 _ b0 L N (.slice a nS c) (.slice b nT d) (.slice e nF f) from by assumption) G1.out)).mono ?_; rintro E wA ⟨bn, ba, rfl, hO, hgA⟩; have HOA : Hid (OrdAt wA bn ba L N) := hO)
            | (go_at_call 48; refine (Q3.out _ bn ba (KeepC.gr (show KeepC W1 _ b0 L N (.slice a nS c) (.slice b nT d) (.slice e nF f) from by assumption) G1.out) HOA.out).mono ?_; rintro E wA ⟨rfl, hgA⟩))
        all_goals
          have GF : Hid (w.grownBy _ none) := (KeepC.gr (show KeepC W1 _ b0 L N (.slice a nS c) (.slice b nT d) (.slice e nF f) from by assumption) G1.out)
          go_wp2_with fail
          go_ret
          exact ⟨by rw [Hz.out]; rfl, GF.out⟩
    · have Q2 : Hid (∀ W, w.grownBy W none → Calls Try.prog 46 #[.slice e nF f, .func (.func 47) #[] #[]] W (Says (.bool false) W)) := fun W hW => (HF2.out W hW).mono fun e w' h => says_not h r2
      have Hz : Hid (z = 3) := HD.out HNc1.out HNc2.out HIn.out (fun e => r2 e.2.1)
      clear r2 HF2
      obtain ⟨_, y0, y1, y2, y3, y4⟩ := K4.out
      first
      | (go_region_with (first
        | (refine skip_op (by rfl) ?_)
        | (go_at_call_of 46 (Value.slice a nS c); refine (Q1.out _ (grown_drew (grown_trans G1.out G4.out))).mono ?_; rintro E wA ⟨rfl, hgA⟩; have KA : Hid (KeepC W1 wA b0 L N (.slice a nS c) (.slice b nT d) (.slice e nF f)) := (KeepC.drew K4.out).call hgA; obtain ⟨_, y0, y1, y2, y3, y4⟩ := KA.out)
        | (go_at_call_of 46 (Value.slice e nF f); refine (Q2.out _ (KA.out.gr G1.out)).mono ?_; rintro E wB ⟨rfl, hgB⟩; have GF : Hid (w.grownBy wB none) := grown_trans (KA.out.gr G1.out) hgB)))
      | fail
      all_goals
        go_wp2_with fail
        go_ret
        exact ⟨by rw [Hz.out]; rfl, GF.out⟩
  · have Q1 : Hid (∀ W, w.grownBy W none → Calls Try.prog 46 #[.slice a nS c, .func (.func 47) #[] #[]] W (Says (.bool false) W)) := fun W hW => (HS2.out W hW).mono fun e w' h => says_not h r1
    have Hz : Hid (z = 3) := HD.out HNc1.out HNc2.out HIn.out (fun e => r1 e.1)
    clear r1 HS2
    obtain ⟨_, y0, y1, y2, y3, y4⟩ := K4.out
    first
    | (go_region_with (first | (refine skip_op (by rfl) ?_) | (go_at_call_of 46 (Value.slice a nS c); refine (Q1.out _ (grown_drew (grown_trans G1.out G4.out))).mono ?_; rintro E wA ⟨rfl, hgA⟩; have GF : Hid (w.grownBy wA none) := grown_trans (grown_drew (grown_trans G1.out G4.out)) hgA)))
    | fail
    all_goals
      go_wp2_with fail
      go_ret
      exact ⟨by rw [Hz.out]; rfl, GF.out⟩

end Go.Proofs.Ytcgkflddipflbaa
