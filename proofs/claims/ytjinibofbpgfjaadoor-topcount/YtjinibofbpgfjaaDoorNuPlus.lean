/- Figures added up, taken away, compared. -/
import Derived.Test.YtjinibofbpgfjaaDoorNuBase
namespace Go.Proofs.YtjinibofbpgfjaaDoor
open Go.RowKit
set_option linter.unusedVariables false
set_option linter.unusedSimpArgs false

/-- Figures of one's own. -/
structure OwnN (W1 W : World) (a : Option Addr) (c : Nat) (zs : List Int) : Prop where
  own : W.ownsRow W1.heap.size 3 1 (.slice a zs.length c) zs.length (numsI zs)
  gr : W1.grownBy W none
theorem OwnN.nil {W1 W : World} (g : W1.grownBy W none) : OwnN W1 W none 0 [] := ⟨World.ownsRow_nil W _ _ _, g⟩
theorem OwnN.ints {W1 W : World} {a : Option Addr} {c : Nat} {zs : List Int} (h : OwnN W1 W a c zs) : Ints W a zs := ints_of_row h.own
theorem OwnN.new {W1 W : World} {a : Option Addr} {c : Nat} {zs : List Int} (h : OwnN W1 W a c zs) : ∀ y, a = some y → W1.heap.size ≤ y.block := new_of_row h.own
theorem OwnN.grown {W1 W W' : World} {a : Option Addr} {c : Nat} {zs : List Int} (h : OwnN W1 W a c zs) (g : W.grownBy W' none) : OwnN W1 W' a c zs := ⟨h.own.kept g (by cases (Value.slice a zs.length c).ownBlock <;> simp), grown_trans h.gr g⟩
theorem OwnN.cap {W1 W : World} {a : Option Addr} {c : Nat} {zs : List Int} (h : OwnN W1 W a c zs) : zs.length ≤ c := by
  rcases h.own.2 with ⟨h1, h3⟩ | ⟨g, cap, cur, h1, _, h5, h6, _⟩
  · simp only [Value.slice.injEq] at h1; omega
  · simp only [Value.slice.injEq] at h1
    rw [h1.2.2]; omega
theorem OwnN.one {W1 W : World} {a : Option Addr} {c n : Nat} {zs : List Int} (h : OwnN W1 W a c zs) (hn : zs.length = n) (hl : n ≤ 900) (z : Int) :
    ∃ a1 c1 W', (AppY #[22, 22] 22 #[.slice a n c, .slice (some ⟨W.heap.size, 0, none⟩) 1 1]).run Tryd.prog (W.alloc (.cells #[.int .i64 z] 3)) = .ok (.slice a1 (n + 1) c1) W' ∧ OwnN W1 W' a1 c1 (zs ++ [z]) := by
  subst hn
  have h1 := h.grown (grown_alloc W (.cells #[.int .i64 z] 3))
  have hi : Ints (W.alloc (.cells #[.int .i64 z] 3)) (some ⟨W.heap.size, 0, none⟩) [z] := by
    refine .inr ⟨W.heap.size, 0, rfl, fun i hi => ?_⟩
    have : i = 0 := by have : i < 1 := hi; omega
    subst this
    have hb := heap_alloc_new W (.cells #[.int .i64 z] 3)
    rw [cell_of_row _ _ _ _ _ (0, 0) hb]
    rfl
  obtain ⟨a1, c1, w', hr, ho, hg⟩ := app_anyY (c := 1) h1.own h1.gr.size hi (by simp; omega)
  refine ⟨a1, c1, w', hr, ⟨ho, grown_of_below ((below_of_grown h1.gr).grown hg h1.gr.size (fun k hk => (h1.own.lt k hk).1))⟩⟩

def DigP (z : Int) (w : World) (e : Ending) (w' : World) : Prop := ∃ a n c l, e = .returned (.slice a n c) ∧ List.length l = n ∧ n ≤ c ∧ n ≤ 401 ∧ Ints w' a l ∧ WfN l ∧ valN l = z ∧ w.grownBy w' none ∧ ∀ y, a = some y → w.heap.size ≤ y.block

structure PlSt (l1 l2 : List Int) (w : World) (k : Nat) (cr : Int) (a : Option Addr) (c : Nat) (zs : List Int) (W : World) : Prop where
  own : OwnN w W a c zs
  len : zs.length = k
  wf : WfN zs
  crr : 0 ≤ cr ∧ cr ≤ 1
  val : valN zs + pwN k * cr = valN (l1.take k) + valN (l2.take k)
theorem plus_step {l1 l2 : List Int} {w W W' : World} {k : Nat} {cr : Int} {a a1 : Option Addr} {c c1 : Nat} {zs : List Int} (h1 : WfN l1) (h2 : WfN l2) (h : PlSt l1 l2 w k cr a c zs W) (ho : OwnN w W' a1 c1 (zs ++ [(cr + l1.getD k 0 + l2.getD k 0) % 10000])) : PlSt l1 l2 w (k + 1) ((cr + l1.getD k 0 + l2.getD k 0) / 10000) a1 c1 (zs ++ [(cr + l1.getD k 0 + l2.getD k 0) % 10000]) W' := by
  have d1 := h1.at k
  have d2 := h2.at k
  have hc := h.crr
  obtain ⟨s, hs⟩ : ∃ s, cr + l1.getD k 0 + l2.getD k 0 = s := ⟨_, rfl⟩
  rw [hs] at ho ⊢
  refine ⟨ho, by rw [List.length_append, h.len]; rfl, h.wf.app (fun d hd => by rw [List.mem_singleton.1 hd]; omega), by omega, ?_⟩
  rw [valN_app, takeN_snoc l1, takeN_snoc l2, h.len, pwN_succ]
  show valN zs + pwN k * (s % 10000 + 10000 * 0) + 10000 * pwN k * (s / 10000) = _
  have e1 := h.val
  have e2 : s = s % 10000 + 10000 * (s / 10000) := by omega
  have e3 : pwN k * s = pwN k * (s % 10000) + 10000 * pwN k * (s / 10000) := by
    conv => lhs; rw [e2]
    rw [Int.mul_add, Int.mul_comm 10000 (pwN k), Int.mul_assoc]
  have e4 : pwN k * s = pwN k * cr + pwN k * l1.getD k 0 + pwN k * l2.getD k 0 := by rw [← hs, Int.mul_add, Int.mul_add]
  rw [Int.mul_zero, Int.add_zero]
  omega

attribute [local go_sem ↓] appY_fold in
set_option maxHeartbeats 1600000 in
set_option maxRecDepth 100000 in
theorem plus_any (l1 l2 : List Int) (a1 a2 : Option Addr) (n1 n2 c1 c2 : Nat) (w : World) (h1 : Ints w a1 l1) (h2 : Ints w a2 l2) (w1 : WfN l1) (w2 : WfN l2) (e1 : l1.length = n1) (e2 : l2.length = n2) (m1 : n1 ≤ 400) (m2 : n2 ≤ 400) :
    Calls Tryd.prog 53 #[.slice a1 n1 c1, .slice a2 n2 c2] w (DigP (valN l1 + valN l2) w) := by
  have H1 : Hid (Ints w a1 l1) := h1
  have H2 : Hid (Ints w a2 l2) := h2
  have F1 : Hid (WfN l1 ∧ WfN l2) := ⟨w1, w2⟩
  have E : Hid (l1.length = n1 ∧ l2.length = n2) := ⟨e1, e2⟩
  obtain ⟨Po, hPo⟩ : ∃ P, P = DigP (valN l1 + valN l2) w := ⟨_, rfl⟩
  have HPo : Hid (Po = DigP (valN l1 + valN l2) w) := hPo
  rw [← hPo]
  clear h1 h2 w1 w2 e1 e2 hPo
  go_enter Tryd.func53, Tryd.ntmps53
  go_wp2_with fail
  go_loopw [7, 6, 5] (fun v v6 v5 W => ∃ (k : Nat) (cr : Int) (a : Option Addr) (c : Nat) (zs : List Int), v = .int .i64 (k : Int) ∧ v6 = .int .i64 cr ∧ v5 = .slice a k c ∧ k ≤ max n1 n2 + 1 ∧ (k = max n1 n2 + 1 → cr = 0) ∧ PlSt l1 l2 w k cr a c zs W) (fun v _ _ _ => max n1 n2 + 1 - (intOf v).toNat)
  case atStart => exact ⟨0, 0, none, 0, [], rfl, rfl, rfl, by omega, fun _ => rfl, OwnN.nil (grown_refl _ _), rfl, (fun d hd => by simp at hd), by omega, rfl⟩
  case round =>
    obtain ⟨k, cr, a, c, zs, rfl, rfl, rfl, hk, hk2, hst⟩ := hrel
    have ST : Hid (PlSt l1 l2 w k cr a c zs wr) := hst
    have hcr := hst.crr
    clear hst
    by_cases hgo : k < n1 ∨ k < n2 ∨ 0 < cr
    · have hkm : k ≤ max n1 n2 := by
        rcases hgo with h | h | h
        · omega
        · omega
        · by_cases e : k = max n1 n2 + 1
          · have := hk2 e; omega
          · omega
      obtain ⟨a', c', W', hrun, ho'⟩ := ST.out.own.one ST.out.len (by omega) ((cr + l1.getD k 0 + l2.getD k 0) % 10000)
      have ST2 : Hid (PlSt l1 l2 w (k + 1) ((cr + l1.getD k 0 + l2.getD k 0) / 10000) a' c' (zs ++ [(cr + l1.getD k 0 + l2.getD k 0) % 10000]) W') := plus_step F1.out.1 F1.out.2 ST.out ho'
      have D1 : Hid (0 ≤ l1.getD k 0 ∧ l1.getD k 0 < 10000 ∧ (¬ k < n1 → l1.getD k 0 = 0)) := ⟨(F1.out.1.at k).1, (F1.out.1.at k).2, fun h => by rw [← E.out.1] at h; simp [List.getD, h]⟩
      have D2 : Hid (0 ≤ l2.getD k 0 ∧ l2.getD k 0 < 10000 ∧ (¬ k < n2 → l2.getD k 0 = 0)) := ⟨(F1.out.2.at k).1, (F1.out.2.at k).2, fun h => by rw [← E.out.2] at h; simp [List.getD, h]⟩
      have HE : Hid (k + 1 = max n1 n2 + 1 → (cr + l1.getD k 0 + l2.getD k 0) / 10000 = 0) := fun h => by
        have h3 := D1.out.2.2 (by omega)
        have h4 := D2.out.2.2 (by omega)
        omega
      have K1 : Hid (k < n1 → ∃ b off, a1 = some ⟨b, off, none⟩ ∧ wr.cell? ⟨b, off + k, none⟩ = some (.int .i64 (l1.getD k 0))) := fun h => by
        obtain ⟨b, off, e, hc⟩ := H1.out.at (k := k) (by rw [E.out.1]; exact h)
        exact ⟨b, off, e, ST.out.own.gr.cell (hc k (by rw [E.out.1]; exact h)) (by simp)⟩
      have K2 : Hid (k < n2 → ∃ b off, a2 = some ⟨b, off, none⟩ ∧ wr.cell? ⟨b, off + k, none⟩ = some (.int .i64 (l2.getD k 0))) := fun h => by
        obtain ⟨b, off, e, hc⟩ := H2.out.at (k := k) (by rw [E.out.2]; exact h)
        exact ⟨b, off, e, ST.out.own.gr.cell (hc k (by rw [E.out.2]; exact h)) (by simp)⟩
      clear ho' H1 H2
      generalize l1.getD k 0 = d1 at *
      generalize l2.getD k 0 = d2 at *
      by_cases g1 : k < n1
      · by_cases g2 : k < n2
        · obtain ⟨b1, o1, rfl, q1⟩ := K1.out g1
          have i1 : (k : Int) < (n1 : Int) := by omega
          have b1l := D1.out.1
          have b1h := D1.out.2.1
          obtain ⟨b2, o2, rfl, q2⟩ := K2.out g2
          have i2 : (k : Int) < (n2 : Int) := by omega
          have b2l := D2.out.1
          have b2h := D2.out.2.1
          clear K1 K2 D1 D2 g1 g2 hgo hk2
          go_wp2_with fail
          go_roundw
          case rel => exact ⟨k + 1, _, a', c', _, rfl, rfl, rfl, by omega, HE.out, ST2.out⟩
          case measure => simp [intOf]; omega
        · obtain ⟨b1, o1, rfl, q1⟩ := K1.out g1
          have i1 : (k : Int) < (n1 : Int) := by omega
          have b1l := D1.out.1
          have b1h := D1.out.2.1
          have i2 : ¬ (k : Int) < (n2 : Int) := by omega
          have z2 : d2 = 0 := D2.out.2.2 g2
          subst z2
          rw [Int.add_zero] at hrun ST2 HE
          clear K1 K2 D1 D2 g1 g2 hgo hk2
          go_wp2_with fail
          go_roundw
          case rel => exact ⟨k + 1, _, a', c', _, rfl, rfl, rfl, by omega, HE.out, ST2.out⟩
          case measure => simp [intOf]; omega
      · by_cases g2 : k < n2
        · have i1 : ¬ (k : Int) < (n1 : Int) := by omega
          have z1 : d1 = 0 := D1.out.2.2 g1
          obtain ⟨b2, o2, rfl, q2⟩ := K2.out g2
          have i2 : (k : Int) < (n2 : Int) := by omega
          have b2l := D2.out.1
          have b2h := D2.out.2.1
          subst z1
          rw [Int.add_zero] at hrun ST2 HE
          clear K1 K2 D1 D2 g1 g2 hgo hk2
          go_wp2_with fail
          go_roundw
          case rel => exact ⟨k + 1, _, a', c', _, rfl, rfl, rfl, by omega, HE.out, ST2.out⟩
          case measure => simp [intOf]; omega
        · have i1 : ¬ (k : Int) < (n1 : Int) := by omega
          have z1 : d1 = 0 := D1.out.2.2 g1
          have i2 : ¬ (k : Int) < (n2 : Int) := by omega
          have z2 : d2 = 0 := D2.out.2.2 g2
          have i3 : 0 < cr := by rcases hgo with h | h | h <;> omega
          subst z1
          rw [Int.add_zero] at hrun ST2 HE
          subst z2
          rw [Int.add_zero] at hrun ST2 HE
          clear K1 K2 D1 D2 g1 g2 hgo hk2
          go_wp2_with fail
          go_roundw
          case rel => exact ⟨k + 1, _, a', c', _, rfl, rfl, rfl, by omega, HE.out, ST2.out⟩
          case measure => simp [intOf]; omega
    · have z0 : cr = 0 := by omega
      subst z0
      have i1 : ¬ (k : Int) < (n1 : Int) := by omega
      have i2 : ¬ (k : Int) < (n2 : Int) := by omega
      have F : Hid (Po (.returned (.slice a k c)) wr) := by
        show Po _ _
        rw [HPo.out]
        have hv := ST.out.val
        rw [Int.mul_zero, Int.add_zero, List.take_of_length_le (by rw [E.out.1]; omega), List.take_of_length_le (by rw [E.out.2]; omega)] at hv
        have hcap := ST.out.own.cap
        rw [ST.out.len] at hcap
        exact ⟨a, k, c, zs, rfl, ST.out.len, hcap, by omega, ST.out.own.ints, ST.out.wf, hv, ST.out.own.gr, ST.out.own.new⟩
      clear hgo hk2
      go_wp2_with fail
      first | exact F.out | (go_ret; exact F.out)

end Go.Proofs.YtjinibofbpgfjaaDoor
