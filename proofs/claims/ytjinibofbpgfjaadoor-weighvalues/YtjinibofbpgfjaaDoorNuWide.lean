/- Rows of numbers made rows of whole numbers. -/
import Derived.Test.YtjinibofbpgfjaaDoorNuRow
import Derived.Test.YtjinibofbpgfjaaDoorWeIn
namespace Go.Proofs.YtjinibofbpgfjaaDoor
open Go.RowKit
set_option linter.unusedVariables false
set_option linter.unusedSimpArgs false

/-- A row of whole numbers is answered. -/
def RowP (l : List Int) (w : World) (e : Ending) (w' : World) : Prop := ∃ a c qs, e = .returned (.slice a l.length c) ∧ OwnWh w w' a c qs ∧ qs.map WhQ.z = l
structure WdSt (l : List Int) (w : World) (k : Nat) (a : Option Addr) (c : Nat) (qs : List WhQ) (W : World) : Prop where
  own : OwnWh w W a c qs
  len : qs.length = k
  val : qs.map WhQ.z = l.take k
theorem take_snocZ {l : List Int} {k : Nat} (hk : k < l.length) : l.take (k + 1) = l.take k ++ [l.getD k 0] := by
  rw [List.take_add_one, List.getElem?_eq_getElem hk, List.getD_eq_getElem?_getD, List.getElem?_eq_getElem hk]
  rfl

/-- A number that has just been made comes behind a row of one's own. -/
theorem wd_push {l : List Int} {w wi w2 : World} {k : Nat} {a : Option Addr} {c : Nat} {qs : List WhQ} (h : WdSt l w k a c qs wi) (hk : k ≤ 900) (hg2 : wi.grownBy w2 none) {q : WhQ} (hwh : whLies w2 q) (hnew : ∀ y, q.a = some y → wi.heap.size ≤ y.block) :
    ∃ a1 c1 W', (AppY #[49, 49] 49 #[.slice a k c, .slice (some ⟨w2.heap.size + 1, 0, none⟩) 1 1]).run Tryd.prog ((w2.alloc (whO q.b q.a q.n q.c)).alloc (whO q.b q.a q.n q.c)) = .ok (.slice a1 (k + 1) c1) W' ∧ OwnWh w W' a1 c1 (qs ++ [q]) := by
  have h3 := h.own.grown (grown_trans hg2 (grown_alloc w2 (whO q.b q.a q.n q.c)))
  have hq : whLies (w2.alloc (whO q.b q.a q.n q.c)) q := WhAt.grown hwh (grown_alloc _ _)
  obtain ⟨a1, c1, W', hr, ho⟩ := h3.one h.len hk q hq (fun _ y hy hc => by
    have h5 := h.own.own.lt y.block (by rw [h.len] at hc ⊢; exact hc)
    have := hnew y hy
    omega)
  have e : (w2.alloc (whO q.b q.a q.n q.c)).heap.size = w2.heap.size + 1 := by simp
  rw [e] at hr
  exact ⟨a1, c1, W', hr, ho⟩

attribute [local go_sem ↓] appY_fold in
set_option maxHeartbeats 1600000 in
set_option maxRecDepth 100000 in
theorem wide_any (l : List Int) (a : Option Addr) (n c : Nat) (w : World) (h : Ints w a l) (hn : l.length = n) (hm : n ≤ 900) (hb : InW l 1000) :
    Calls Tryd.prog 20 #[.slice a n c] w (RowP l w) := by
  have H : Hid (Ints w a l) := h
  have E : Hid (l.length = n) := hn
  have B : Hid (InW l 1000) := hb
  obtain ⟨Po, hPo⟩ : ∃ P, P = RowP l w := ⟨_, rfl⟩
  have HPo : Hid (Po = RowP l w) := hPo
  rw [← hPo]
  clear h hn hb hPo
  go_enter Tryd.func20, Tryd.ntmps20
  go_wp2_with fail
  go_loopw [4, 3] (fun v u W => ∃ (k : Nat) (a' : Option Addr) (c' : Nat) (qs : List WhQ), v = .int .i64 k ∧ u = .slice a' k c' ∧ k ≤ n ∧ WdSt l w k a' c' qs W) (fun v _ _ => n - (intOf v).toNat)
  case atStart => exact ⟨0, none, 0, [], rfl, rfl, Nat.zero_le _, OwnWh.nil (grown_refl _ _), rfl, rfl⟩
  case round =>
    obtain ⟨wi, hwi⟩ : ∃ W, W = wr := ⟨_, rfl⟩
    subst hwi
    obtain ⟨k, a', c', qs, rfl, rfl, hk, hst⟩ := hrel
    have HS : Hid (WdSt l w k a' c' qs wi) := hst
    clear hst
    by_cases hlt : k < n
    · have i1 : (k : Int) < (n : Int) := by omega
      obtain ⟨b, off, rfl, hc⟩ := (H.out.grown HS.out.own.gr).at (k := k) (by rw [E.out]; exact hlt)
      have q1 := hc k (by rw [E.out]; exact hlt)
      obtain ⟨z, hz⟩ : ∃ z, l.getD k 0 = z := ⟨_, rfl⟩
      have HZ : Hid (l.getD k 0 = z) := hz
      rw [hz] at q1
      have hb := B.out.at (k := k) (by rw [E.out]; exact hlt)
      rw [hz] at hb
      have HO : Hid (Calls Tryd.prog 34 #[.int .i64 z] wi (WhN z wi)) := of_any z wi (by omega)
      clear hc hz hb
      go_wp2_with fail
      refine HO.out.mono ?_
      rintro E' w2 ⟨b2, a2, n2, c2, rfl, hwh, hn2, hg2, hnew⟩
      obtain ⟨a4, c4, w5, hr5, hown⟩ := wd_push HS.out (by omega) hg2 (q := ⟨b2, a2, n2, c2, z⟩) hwh hnew
      have HST : Hid (WdSt l w (k + 1) a4 c4 (qs ++ [⟨b2, a2, n2, c2, z⟩]) w5) := ⟨hown, by rw [List.length_append, HS.out.len]; rfl, by rw [List.map_append, HS.out.val, take_snocZ (by rw [E.out]; exact hlt), HZ.out]; rfl⟩
      clear q1 HO hwh hg2 hnew hown hn2
      go_wp2_with fail
      go_roundw
      case rel => exact ⟨k + 1, a4, c4, _, by go_num, rfl, by omega, HST.out⟩
      case measure => simp [intOf]; omega
    · have i1 : ¬ (k : Int) < (n : Int) := by omega
      have F : Hid (Po (.returned (.slice a' k c')) wi) := by
        show Po _ _
        rw [HPo.out]
        have hv := HS.out.val
        have e : l.take k = l := List.take_of_length_le (by rw [E.out]; omega)
        rw [e] at hv
        have ek : k = l.length := by rw [E.out]; omega
        exact ⟨a', c', qs, by rw [ek], HS.out.own, hv⟩
      go_wp2_with fail
      first | exact F.out | (go_ret; exact F.out)
end Go.Proofs.YtjinibofbpgfjaaDoor
