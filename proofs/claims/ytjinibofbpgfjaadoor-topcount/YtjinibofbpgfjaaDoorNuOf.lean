/- Whole numbers out of small ones; the opposite; sums, differences; which is greater. -/
import Derived.Test.YtjinibofbpgfjaaDoorNuMin
namespace Go.Proofs.YtjinibofbpgfjaaDoor
open Go.RowKit
set_option linter.unusedVariables false
set_option linter.unusedSimpArgs false

/-- A new whole number. -/
def WhN (z : Int) (w : World) (e : Ending) (w' : World) : Prop := ∃ b a n c, e = .returned (whV b a n c) ∧ WhAt w' b a n c z ∧ n ≤ 401 ∧ w.grownBy w' none ∧ ∀ y, a = some y → w.heap.size ≤ y.block
theorem mul_lt_pw {k : Nat} {u z : Int} (hu : 0 < u) (h : pwN k * u ≤ z) (hz : z < pwN 6) : k < 6 := by
  have h1 : pwN k * 1 ≤ pwN k * u := Int.mul_le_mul_of_nonneg_left (by omega) (by have := pwN_pos k; omega)
  rcases Nat.lt_or_ge k 6 with h2 | h2
  · exact h2
  · have := pwN_mono h2
    omega
structure OfSt (z : Int) (w : World) (k : Nat) (u : Int) (a : Option Addr) (c : Nat) (zs : List Int) (W : World) : Prop where
  own : OwnN w W a c zs
  len : zs.length = k
  wf : WfN zs
  u0 : 0 ≤ u ∧ u ≤ z
  val : valN zs + pwN k * u = z
theorem of_step {z u : Int} {w W W' : World} {k : Nat} {a a1 : Option Addr} {c c1 : Nat} {zs : List Int} (h : OfSt z w k u a c zs W) (ho : OwnN w W' a1 c1 (zs ++ [u % 10000])) : OfSt z w (k + 1) (u / 10000) a1 c1 (zs ++ [u % 10000]) W' := by
  have h0 := h.u0
  refine ⟨ho, by rw [List.length_append, h.len]; rfl, h.wf.app (fun d hd => by rw [List.mem_singleton.1 hd]; omega), by omega, ?_⟩
  rw [valN_app, h.len, pwN_succ]
  show valN zs + pwN k * (u % 10000 + 10000 * 0) + 10000 * pwN k * (u / 10000) = z
  have e1 := h.val
  have e2 : u = u % 10000 + 10000 * (u / 10000) := by omega
  have e3 : pwN k * u = pwN k * (u % 10000) + 10000 * pwN k * (u / 10000) := by
    conv => lhs; rw [e2]
    rw [Int.mul_add, Int.mul_comm 10000 (pwN k), Int.mul_assoc]
  rw [Int.mul_zero, Int.add_zero]
  omega

attribute [local go_sem ↓] appY_fold in
set_option maxHeartbeats 1600000 in
set_option maxRecDepth 100000 in
theorem of_any (z : Int) (w : World) (hz : -1000000000000000000 < z ∧ z < 1000000000000000000) :
    Calls Tryd.prog 34 #[.int .i64 z] w (WhN z w) := by
  obtain ⟨W1, hW1, g1, s1, bx, hrb⟩ := box2_new w false none 0 0
  have HRB : Hid (∀ W, W1.grownBy W none → W.heap[w.heap.size]? = some (.cells #[.bool false, .slice none 0 0] 32 (0, 0))) := fun W hW => (hW.block _ (by omega) (by simp)).trans hrb
  have HW1 : Hid (W1 = _) := hW1
  have G1 : Hid (w.grownBy W1 none) := g1
  have S1 : Hid (W1.heap.size = w.heap.size + 1) := s1
  obtain ⟨Po, hPo⟩ : ∃ P, P = WhN z w := ⟨_, rfl⟩
  have HPo : Hid (Po = WhN z w) := hPo
  rw [← hPo]
  clear hW1 g1 s1 bx hrb hPo
  obtain ⟨bs, hbs⟩ : ∃ bs, decide (z < 0) = bs := ⟨_, rfl⟩
  obtain ⟨t, ht⟩ : ∃ t : Int, t = if z < 0 then - z else z := ⟨_, rfl⟩
  have ht0 : 0 ≤ t ∧ t < 1000000000000000000 := by rw [ht]; split <;> omega
  have HT : Hid (wvN bs [] = 0 ∧ ∀ l, valN l = t → wvN bs l = z) := by
    refine ⟨by unfold wvN; cases bs <;> rfl, fun l hl => ?_⟩
    unfold wvN
    rw [hl, ht, ← hbs]
    by_cases h : z < 0 <;> simp [h]
  have HTr : Hid (∀ (l : List Int) (a : Option Addr) (c m : Nat) (W : World), Ints W a l → WfN l → l.length = m → m ≤ c → m ≤ 100000 → Calls Tryd.prog 52 #[.bool bs, .slice a m c] W (TrimP bs l a c W)) := fun l a c m W h1 h2 h3 h4 h5 => trim_any bs l a c m W h1 h2 h3 h4 h5
  have hp6 : (1000000000000000000 : Int) < pwN 6 := by decide
  have main : ∀ (bs' : Bool), bs' = bs → True := fun _ _ => trivial
  clear main
  by_cases hneg : z < 0
  case' pos =>
    have eb : bs = true := by rw [← hbs]; simp [hneg]
    have et : t = - z := by rw [ht, if_pos hneg]
  case' neg =>
    have eb : bs = false := by rw [← hbs]; simp [hneg]
    have et : t = z := by rw [ht, if_neg hneg]
  all_goals
    subst eb
    clear hbs ht
    go_enter Tryd.func34, Tryd.ntmps34
    go_wp2_with fail
    rw [← HW1.out]
    go_loopw [0, 4] (fun v v4 W => ∃ (k : Nat) (u : Int) (a : Option Addr) (c : Nat) (zs : List Int), v = .int .i64 u ∧ v4 = .slice a k c ∧ k ≤ 6 ∧ OfSt t W1 k u a c zs W) (fun v _ _ => (intOf v).toNat)
    case atStart => exact ⟨0, t, none, 0, [], (by rw [et]), rfl, by omega, OwnN.nil (grown_refl _ _), rfl, (fun d hd => by simp at hd), by omega, by show (0 : Int) + 1 * t = t; omega⟩
    case round =>
      obtain ⟨k, u, a, c, zs, rfl, rfl, hk, hst⟩ := hrel
      have ST : Hid (OfSt t W1 k u a c zs wr) := hst
      have hu := hst.u0
      clear hst
      by_cases hgo : 0 < u
      · have hk6 : k < 6 := mul_lt_pw hgo (z := t) (by have := ST.out.val; have := (valN_range ST.out.wf).1; omega) (by omega)
        obtain ⟨a', c', W', hrun, ho'⟩ := ST.out.own.one ST.out.len (by omega) (u % 10000)
        have ST2 : Hid (OfSt t W1 (k + 1) (u / 10000) a' c' (zs ++ [u % 10000]) W') := of_step ST.out ho'
        have hu2 : u < 1000000000000000000 := by omega
        have HK : Hid (k + 1 ≤ 6) := by show _ ≤ _; omega
        clear ho' hk6
        go_wp2_with fail
        go_roundw
        case rel => exact ⟨k + 1, _, a', c', _, rfl, rfl, HK.out, ST2.out⟩
        case measure => simp [intOf]; omega
      · have hu0 : u = 0 := by omega
        have hv := ST.out.val
        rw [hu0, Int.mul_zero, Int.add_zero] at hv
        have hcap := ST.out.own.cap
        rw [ST.out.len] at hcap
        have HV : Hid (valN zs = t) := hv
        have HTq := HTr.out zs a c k wr ST.out.own.ints ST.out.wf ST.out.len hcap (by omega)
        have HTc : Hid (Calls Tryd.prog 52 _ wr _) := HTq
        clear hv hcap HTq
        go_wp2_with fail
        refine HTc.out.mono ?_
        rintro E w5 ⟨bb, n, rfl, hwh, hg5, hn5⟩
        obtain ⟨⟨p0, p1⟩, fz, W5, hW5, g5, y0, y1, _⟩ := two_store (HRB.out w5 (grown_trans ST.out.own.gr hg5)) (.bool bb) (.slice a n c)
        have HW5 : Hid (W5 = _) := hW5
        have F : Hid (Po (.returned (whV bb a n c)) W5) := by
          show Po _ _
          rw [HPo.out]
          have hnew : ∀ y, a = some y → w.heap.size + 1 ≤ y.block := fun y hy => by have := ST.out.own.new y hy; have := S1.out; omega
          have hz := HT.out.2 zs HV.out
          rw [hz] at hwh
          exact ⟨bb, a, n, c, rfl, hwh.far g5 (fun y hy => by have := hnew y hy; omega), by have := ST.out.len; omega, grown_new (grown_trans G1.out (grown_trans ST.out.own.gr hg5)) g5 (by omega), fun y hy => by have := hnew y hy; omega⟩
        have f0 := fz 0
        have f1 := fz 1
        clear fz hW5 g5 hwh hg5 hn5
        go_wp2_with fail
        rw [← HW5.out]
        exact bodyPost_ret (v := whV bb a n c) (by simp [results, Tryd.results34, go_sem, y0, y1]) rfl F.out

end Go.Proofs.YtjinibofbpgfjaaDoor
