/- Figures taken away; which of two is greater. -/
import Derived.Test.YtjinibofbpgfjaaDoorNuPlus
namespace Go.Proofs.YtjinibofbpgfjaaDoor
open Go.RowKit
set_option linter.unusedVariables false
set_option linter.unusedSimpArgs false

structure MiSt (l1 l2 : List Int) (w : World) (k : Nat) (cr : Int) (a : Option Addr) (c : Nat) (zs : List Int) (W : World) : Prop where
  own : OwnN w W a c zs
  len : zs.length = k
  wf : WfN zs
  crr : 0 ≤ cr ∧ cr ≤ 1
  val : valN zs - pwN k * cr = valN (l1.take k) - valN (l2.take k)
theorem minus_step {l1 l2 : List Int} {w W W' : World} {k : Nat} {cr u : Int} {a a1 : Option Addr} {c c1 : Nat} {zs : List Int} (h : MiSt l1 l2 w k cr a c zs W) (cr2 : Int) (hc2 : 0 ≤ cr2 ∧ cr2 ≤ 1) (hu : 0 ≤ u ∧ u < 10000) (he : u = l1.getD k 0 - cr - l2.getD k 0 + 10000 * cr2) (ho : OwnN w W' a1 c1 (zs ++ [u])) : MiSt l1 l2 w (k + 1) cr2 a1 c1 (zs ++ [u]) W' := by
  refine ⟨ho, by rw [List.length_append, h.len]; rfl, h.wf.app (fun d hd => by rw [List.mem_singleton.1 hd]; omega), hc2, ?_⟩
  rw [valN_app, takeN_snoc l1, takeN_snoc l2, h.len, pwN_succ]
  show valN zs + pwN k * (u + 10000 * 0) - 10000 * pwN k * cr2 = _
  have e1 := h.val
  have e3 : pwN k * u = pwN k * l1.getD k 0 - pwN k * cr - pwN k * l2.getD k 0 + 10000 * pwN k * cr2 := by
    rw [he, Int.mul_add, Int.mul_sub, Int.mul_sub, Int.mul_comm 10000 (pwN k), Int.mul_assoc]
  rw [Int.mul_zero, Int.add_zero]
  omega

attribute [local go_sem ↓] appY_fold in
set_option maxHeartbeats 1600000 in
set_option maxRecDepth 100000 in
theorem minus_any (l1 l2 : List Int) (a1 a2 : Option Addr) (n1 n2 c1 c2 : Nat) (w : World) (h1 : Ints w a1 l1) (h2 : Ints w a2 l2) (w1 : WfN l1) (w2 : WfN l2) (e1 : l1.length = n1) (e2 : l2.length = n2) (m1 : n1 ≤ 400) (m2 : n2 ≤ n1) (hv : valN l2 ≤ valN l1) :
    Calls Tryd.prog 55 #[.slice a1 n1 c1, .slice a2 n2 c2] w (DigP (valN l1 - valN l2) w) := by
  have H1 : Hid (Ints w a1 l1) := h1
  have H2 : Hid (Ints w a2 l2) := h2
  have F1 : Hid (WfN l1 ∧ WfN l2) := ⟨w1, w2⟩
  have E : Hid (l1.length = n1 ∧ l2.length = n2) := ⟨e1, e2⟩
  have HV : Hid (valN l2 ≤ valN l1) := hv
  obtain ⟨Po, hPo⟩ : ∃ P, P = DigP (valN l1 - valN l2) w := ⟨_, rfl⟩
  have HPo : Hid (Po = DigP (valN l1 - valN l2) w) := hPo
  rw [← hPo]
  clear h1 h2 w1 w2 e1 e2 hPo hv
  go_enter Tryd.func55, Tryd.ntmps55
  go_wp2_with fail
  go_loopw [7, 6, 5] (fun v v6 v5 W => ∃ (k : Nat) (cr : Int) (a : Option Addr) (c : Nat) (zs : List Int), v = .int .i64 (k : Int) ∧ v6 = .int .i64 cr ∧ v5 = .slice a k c ∧ k ≤ n1 ∧ MiSt l1 l2 w k cr a c zs W) (fun v _ _ _ => n1 - (intOf v).toNat)
  case atStart => exact ⟨0, 0, none, 0, [], rfl, rfl, rfl, by omega, OwnN.nil (grown_refl _ _), rfl, (fun d hd => by simp at hd), by omega, rfl⟩
  case round =>
    obtain ⟨k, cr, a, c, zs, rfl, rfl, rfl, hk, hst⟩ := hrel
    have ST : Hid (MiSt l1 l2 w k cr a c zs wr) := hst
    have hcr := hst.crr
    clear hst
    by_cases g1 : k < n1
    · have i1 : (k : Int) < (n1 : Int) := by omega
      obtain ⟨b1, o1, rfl, hq1⟩ := H1.out.at (k := k) (by rw [E.out.1]; exact g1)
      have q1 := ST.out.own.gr.cell (hq1 k (by rw [E.out.1]; exact g1)) (by simp)
      have D1 : Hid (0 ≤ l1.getD k 0 ∧ l1.getD k 0 < 10000) := F1.out.1.at k
      have D2 : Hid (0 ≤ l2.getD k 0 ∧ l2.getD k 0 < 10000 ∧ (¬ k < n2 → l2.getD k 0 = 0)) := ⟨(F1.out.2.at k).1, (F1.out.2.at k).2, fun h => by rw [← E.out.2] at h; simp [List.getD, h]⟩
      have K2 : Hid (k < n2 → ∃ b off, a2 = some ⟨b, off, none⟩ ∧ wr.cell? ⟨b, off + k, none⟩ = some (.int .i64 (l2.getD k 0))) := fun h => by
        obtain ⟨b, off, e, hc⟩ := H2.out.at (k := k) (by rw [E.out.2]; exact h)
        exact ⟨b, off, e, ST.out.own.gr.cell (hc k (by rw [E.out.2]; exact h)) (by simp)⟩
      have HStep : Hid (∀ (u cr2 : Int) (a1 : Option Addr) (c1 : Nat) (W' : World), 0 ≤ cr2 ∧ cr2 ≤ 1 → 0 ≤ u ∧ u < 10000 → u = l1.getD k 0 - cr - l2.getD k 0 + 10000 * cr2 → OwnN w W' a1 c1 (zs ++ [u]) → MiSt l1 l2 w (k + 1) cr2 a1 c1 (zs ++ [u]) W') := fun u cr2 a1 c1 W' h3 h4 h5 h6 => minus_step ST.out cr2 h3 h4 h5 h6
      clear hq1 H1 H2
      generalize l1.getD k 0 = d1 at *
      generalize l2.getD k 0 = d2 at *
      have b1l := D1.out.1
      have b1h := D1.out.2
      by_cases g2 : k < n2
      · obtain ⟨b2, o2, rfl, q2⟩ := K2.out g2
        have i2 : (k : Int) < (n2 : Int) := by omega
        have b2l := D2.out.1
        have b2h := D2.out.2.1
        by_cases hn : d1 - cr - d2 < 0
        · obtain ⟨a', c', W', hrun, ho'⟩ := ST.out.own.one ST.out.len (by omega) (d1 - cr - d2 + 10000)
          have ST2 : Hid (MiSt l1 l2 w (k + 1) 1 a' c' (zs ++ [d1 - cr - d2 + 10000]) W') := HStep.out _ 1 _ _ _ (by omega) (by omega) (by omega) ho'
          clear ho' K2 D1 D2 HStep
          go_wp2_with fail
          go_roundw
          case rel => exact ⟨k + 1, _, a', c', _, rfl, rfl, rfl, by omega, ST2.out⟩
          case measure => simp [intOf]; omega
        · obtain ⟨a', c', W', hrun, ho'⟩ := ST.out.own.one ST.out.len (by omega) (d1 - cr - d2)
          have ST2 : Hid (MiSt l1 l2 w (k + 1) 0 a' c' (zs ++ [d1 - cr - d2]) W') := HStep.out _ 0 _ _ _ (by omega) (by omega) (by omega) ho'
          clear ho' K2 D1 D2 HStep
          go_wp2_with fail
          go_roundw
          case rel => exact ⟨k + 1, _, a', c', _, rfl, rfl, rfl, by omega, ST2.out⟩
          case measure => simp [intOf]; omega
      · have i2 : ¬ (k : Int) < (n2 : Int) := by omega
        have z2 : d2 = 0 := D2.out.2.2 g2
        subst z2
        by_cases hn : d1 - cr < 0
        · obtain ⟨a', c', W', hrun, ho'⟩ := ST.out.own.one ST.out.len (by omega) (d1 - cr + 10000)
          have ST2 : Hid (MiSt l1 l2 w (k + 1) 1 a' c' (zs ++ [d1 - cr + 10000]) W') := HStep.out _ 1 _ _ _ (by omega) (by omega) (by omega) ho'
          clear ho' K2 D1 D2 HStep
          go_wp2_with fail
          go_roundw
          case rel => exact ⟨k + 1, _, a', c', _, rfl, rfl, rfl, by omega, ST2.out⟩
          case measure => simp [intOf]; omega
        · obtain ⟨a', c', W', hrun, ho'⟩ := ST.out.own.one ST.out.len (by omega) (d1 - cr)
          have ST2 : Hid (MiSt l1 l2 w (k + 1) 0 a' c' (zs ++ [d1 - cr]) W') := HStep.out _ 0 _ _ _ (by omega) (by omega) (by omega) ho'
          clear ho' K2 D1 D2 HStep
          go_wp2_with fail
          go_roundw
          case rel => exact ⟨k + 1, _, a', c', _, rfl, rfl, rfl, by omega, ST2.out⟩
          case measure => simp [intOf]; omega
    · have i1 : ¬ (k : Int) < (n1 : Int) := by omega
      have ek : k = n1 := by omega
      have F : Hid (Po (.returned (.slice a k c)) wr) := by
        show Po _ _
        rw [HPo.out]
        have hv := ST.out.val
        rw [List.take_of_length_le (by rw [E.out.1]; omega), List.take_of_length_le (by rw [E.out.2]; omega)] at hv
        have hcap := ST.out.own.cap
        rw [ST.out.len] at hcap
        have hr := valN_range ST.out.wf
        rw [ST.out.len] at hr
        have hvv := HV.out
        have hc0 : cr = 0 := by
          rcases Int.lt_or_le 0 cr with h | h
          · have : cr = 1 := by omega
            subst this
            rw [Int.mul_one] at hv
            omega
          · omega
        rw [hc0, Int.mul_zero] at hv
        exact ⟨a, k, c, zs, rfl, ST.out.len, hcap, by omega, ST.out.own.ints, ST.out.wf, by omega, ST.out.own.gr, ST.out.own.new⟩
      clear ek
      go_wp2_with fail
      first | exact F.out | (go_ret; exact F.out)

def SizeP (z : Int) (w : World) (e : Ending) (w' : World) : Prop := e = .returned (.int .i64 (sgN z)) ∧ w.grownBy w' none
set_option maxHeartbeats 1600000 in
set_option maxRecDepth 100000 in
theorem size_any (p q : Bool) (l1 l2 : List Int) (a1 a2 : Option Addr) (n1 n2 c1 c2 : Nat) (w : World) (h1 : Ints w a1 l1) (h2 : Ints w a2 l2) (w1 : Nm p l1) (w2 : Nm q l2) (e1 : l1.length = n1) (e2 : l2.length = n2) (m1 : n1 ≤ 100000) :
    Calls Tryd.prog 54 #[.slice a1 n1 c1, .slice a2 n2 c2] w (SizeP (valN l1 - valN l2) w) := by
  have H1 : Hid (Ints w a1 l1) := h1
  have H2 : Hid (Ints w a2 l2) := h2
  have F1 : Hid (Nm p l1 ∧ Nm q l2) := ⟨w1, w2⟩
  have E : Hid (l1.length = n1 ∧ l2.length = n2) := ⟨e1, e2⟩
  have lt : valN l1 < valN l2 → sgN (valN l1 - valN l2) = -1 := fun h => by unfold sgN; rw [if_pos (by omega)]
  have gt : valN l2 < valN l1 → sgN (valN l1 - valN l2) = 1 := fun h => by unfold sgN; rw [if_neg (by omega), if_neg (by omega)]
  have LT : Hid (valN l1 < valN l2 → sgN (valN l1 - valN l2) = -1) := lt
  have GT : Hid (valN l2 < valN l1 → sgN (valN l1 - valN l2) = 1) := gt
  have EQ : Hid (l1 = l2 → sgN (valN l1 - valN l2) = 0) := fun h => by subst h; unfold sgN; rw [if_neg (by omega), if_pos (by omega)]
  obtain ⟨s, hs⟩ : ∃ s, sgN (valN l1 - valN l2) = s := ⟨_, rfl⟩
  obtain ⟨Po, hPo⟩ : ∃ P, P = SizeP (valN l1 - valN l2) w := ⟨_, rfl⟩
  have HP : Hid (∀ W, w.grownBy W none → Po (.returned (.int .i64 s)) W) := fun W hW => by rw [hPo, ← hs]; exact ⟨rfl, hW⟩
  rw [hs] at LT GT EQ
  rw [← hPo]
  clear h1 h2 w1 w2 e1 e2 hPo lt gt hs
  by_cases hne : n1 = n2
  case neg =>
    have d0 : ((n1 : Int) != (n2 : Int)) = true := by simp; omega
    by_cases hlt : n1 < n2
    · have i1 : (n1 : Int) < (n2 : Int) := by omega
      have e0 : s = -1 := LT.out (Nm.shorter F1.out.1 F1.out.2 (by rw [E.out.1, E.out.2]; exact hlt))
      subst e0
      go_enter Tryd.func54, Tryd.ntmps54
      go_wp2_with fail
      first | exact HP.out _ (grown_refl _ _) | (go_ret; exact HP.out _ (grown_refl _ _))
    · have i1 : ¬ (n1 : Int) < (n2 : Int) := by omega
      have e0 : s = 1 := GT.out (Nm.shorter F1.out.2 F1.out.1 (by rw [E.out.1, E.out.2]; omega))
      subst e0
      go_enter Tryd.func54, Tryd.ntmps54
      go_wp2_with fail
      first | exact HP.out _ (grown_refl _ _) | (go_ret; exact HP.out _ (grown_refl _ _))
  subst hne
  have d0 : ((n1 : Int) != (n1 : Int)) = false := by simp
  go_enter Tryd.func54, Tryd.ntmps54
  go_wp2_with fail
  go_loopw [5] (fun v W => ∃ k : Nat, v = .int .i64 ((k : Int) - 1) ∧ k ≤ n1 ∧ (∀ j, k ≤ j → j < n1 → l1.getD j 0 = l2.getD j 0) ∧ w.grownBy W none) (fun v _ => (intOf v + 1).toNat)
  case atStart => exact ⟨n1, rfl, Nat.le_refl _, fun j h1 h2 => by omega, grown_refl _ _⟩
  case round =>
    obtain ⟨k, rfl, hk, hz, hg⟩ := hrel
    have HZ : Hid (∀ j, k ≤ j → j < n1 → l1.getD j 0 = l2.getD j 0) := hz
    have G : Hid (w.grownBy wr none) := hg
    clear hz hg
    cases k with
    | zero =>
      have e0 : s = 0 := EQ.out (all_eq (by rw [E.out.1, E.out.2]) (fun j hj => HZ.out j (Nat.zero_le _) (by rw [← E.out.1]; exact hj)))
      subst e0
      go_wp2_with fail
      first | exact HP.out _ G.out | (go_ret; exact HP.out _ G.out)
    | succ k =>
      have ek : (((k + 1 : Nat) : Int) - 1) = (k : Int) := by omega
      rw [ek]
      obtain ⟨b1, o1, rfl, hq1⟩ := H1.out.at (k := k) (by rw [E.out.1]; omega)
      have q1 := G.out.cell (hq1 k (by rw [E.out.1]; omega)) (by simp)
      obtain ⟨b2, o2, rfl, hq2⟩ := H2.out.at (k := k) (by rw [E.out.2]; omega)
      have q2 := G.out.cell (hq2 k (by rw [E.out.2]; omega)) (by simp)
      have r1 := (grown_drew (grown_refl wr none)).cell q1 (by simp)
      have r2 := (grown_drew (grown_refl wr none)).cell q2 (by simp)
      have i1 : (k : Int) < (n1 : Int) := by omega
      have hk0 : (0 : Int) ≤ (k : Int) := by omega
      clear hq1 hq2
      obtain ⟨d1, hd1⟩ : ∃ d, l1.getD k 0 = d := ⟨_, rfl⟩
      obtain ⟨d2, hd2⟩ : ∃ d, l2.getD k 0 = d := ⟨_, rfl⟩
      have HD : Hid (l1.getD k 0 = d1 ∧ l2.getD k 0 = d2) := ⟨hd1, hd2⟩
      rw [hd1] at q1 r1
      rw [hd2] at q2 r2
      clear hd1 hd2
      by_cases hd : d1 = d2
      · have u1 : (d1 != d2) = false := by simpa using hd
        have HZ2 : Hid (∀ j, k ≤ j → j < n1 → l1.getD j 0 = l2.getD j 0) := fun j h1 h2 => by
          by_cases e : j = k
          · subst e; rw [HD.out.1, HD.out.2]; exact hd
          · exact HZ.out j (by omega) h2
        clear hd
        go_wp2_with fail
        go_quiet (fail)
        go_wp2_with fail
        go_roundw
        case rel => exact ⟨k, by go_num, by omega, HZ2.out, grown_drewN G.out _⟩
        case measure => first | (simp [intOf]; done) | (simp [intOf]; omega)
      · have u1 : (d1 != d2) = true := by simpa using hd
        by_cases hlt : d1 < d2
        · have e0 : s = -1 := LT.out (cmp_at F1.out.1.wf F1.out.2.wf (by rw [E.out.1, E.out.2]) (i := k) (by rw [E.out.1]; omega) (fun j h1 h2 => HZ.out j (by omega) (by rw [← E.out.1]; exact h2)) (by rw [HD.out.1, HD.out.2]; exact hlt))
          subst e0
          go_wp2_with fail
          go_quiet (fail)
          go_wp2_with fail
          go_quiet (fail)
          go_wp2_with fail
          first | exact HP.out _ (grown_drewN (grown_drewN G.out _) _) | (go_ret; exact HP.out _ (grown_drewN (grown_drewN G.out _) _))
        · have e0 : s = 1 := GT.out (cmp_at F1.out.2.wf F1.out.1.wf (by rw [E.out.1, E.out.2]) (i := k) (by rw [E.out.2]; omega) (fun j h1 h2 => (HZ.out j (by omega) (by rw [← E.out.2]; exact h2)).symm) (by rw [HD.out.1, HD.out.2]; omega))
          subst e0
          go_wp2_with fail
          go_quiet (fail)
          go_wp2_with fail
          go_quiet (fail)
          go_wp2_with fail
          first | exact HP.out _ (grown_drewN (grown_drewN G.out _) _) | (go_ret; exact HP.out _ (grown_drewN (grown_drewN G.out _) _))

end Go.Proofs.YtjinibofbpgfjaaDoor
