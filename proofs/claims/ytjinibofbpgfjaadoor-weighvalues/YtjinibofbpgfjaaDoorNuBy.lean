/- A row times a table. -/
import Derived.Test.YtjinibofbpgfjaaDoorNuDot
import Derived.Test.YtjinibofbpgfjaaDoorWeChk
namespace Go.Proofs.YtjinibofbpgfjaaDoor
open Go.RowKit
set_option linter.unusedVariables false
set_option linter.unusedSimpArgs false

theorem byW_get {r : List Int} {t : List (List Int)} {k : Nat} (hk : k < t.length) : (byW r t).getD k 0 = dotW r (colW t k) := by
  unfold byW
  simp [List.getD, hk]
theorem colW_get {t : List (List Int)} {k i : Nat} (hi : i < t.length) : (colW t k).getD i 0 = (t.getD i []).getD k 0 := by
  unfold colW
  simp [List.getD, hi]

attribute [local go_sem ↓] appY_fold in
set_option maxHeartbeats 3200000 in
set_option maxRecDepth 100000 in
theorem by_any (qr : List WhQ) (T : List (List Int)) (ar at' : Option Addr) (kr kt n m : Nat) (w : World) (hr : RowWh w ar qr) (ht : RowsAt w at' T) (l1 : qr.length = n) (l2 : T.length = n) (l3 : ∀ r, r ∈ T → r.length = n) (hn : n ≤ 8) (hb : BdW (qr.map WhQ.z) m) (hi : ∀ r, r ∈ T → InW r 9) (hm : m ≤ 90) :
    Calls Tryd.prog 33 #[.slice ar n kr, .slice at' n kt] w (RowP (byW (qr.map WhQ.z) T) w) := by
  have HR : Hid (RowWh w ar qr) := hr
  have HT : Hid (RowsAt w at' T) := ht
  have HL : Hid (qr.length = n ∧ T.length = n ∧ ∀ r, r ∈ T → r.length = n) := ⟨l1, l2, l3⟩
  have HB : Hid (BdW (qr.map WhQ.z) m ∧ (∀ r, r ∈ T → InW r 9) ∧ m ≤ 90) := ⟨hb, hi, hm⟩
  obtain ⟨L, hLd⟩ : ∃ L, byW (qr.map WhQ.z) T = L := ⟨_, rfl⟩
  have HLd : Hid (byW (qr.map WhQ.z) T = L) := hLd
  have HLL : Hid (L.length = n) := by show _ = _; rw [← hLd, byW_len, l2]
  rw [hLd]
  obtain ⟨Po, hPo⟩ : ∃ P, P = RowP L w := ⟨_, rfl⟩
  have HPo : Hid (Po = RowP L w) := hPo
  rw [← hPo]
  clear hr ht l1 l2 l3 hb hi hm hLd hPo
  go_enter Tryd.func33, Tryd.ntmps33
  go_wp2_with fail
  go_loopw [6, 5] (fun v u W => ∃ (k : Nat) (a' : Option Addr) (c' : Nat) (qs : List WhQ), v = .int .i64 k ∧ u = .slice a' k c' ∧ k ≤ n ∧ WdSt L w k a' c' qs W) (fun v _ _ => n - (intOf v).toNat)
  case atStart => exact ⟨0, none, 0, [], rfl, rfl, Nat.zero_le _, OwnWh.nil (grown_refl _ _), rfl, rfl⟩
  case round =>
    obtain ⟨wo, hwo⟩ : ∃ W, W = wr := ⟨_, rfl⟩
    subst hwo
    obtain ⟨k, a', c', qs, rfl, rfl, hk, hst⟩ := hrel
    have HS : Hid (WdSt L w k a' c' qs wo) := hst
    clear hst
    by_cases hlt : k < n
    · have i1 : (k : Int) < (n : Int) := by omega
      go_wp2_with fail
      go_loopw [8, 7] (fun v u W => ∃ (i : Nat) (a : Option Addr) (c : Nat) (zs : List Int), v = .int .i64 i ∧ u = .slice a i c ∧ i ≤ n ∧ OwnN wo W a c zs ∧ zs.length = i ∧ zs = (colW T k).take i) (fun v _ _ => n - (intOf v).toNat)
      case atStart => exact ⟨0, none, 0, [], rfl, rfl, Nat.zero_le _, OwnN.nil (grown_refl _ _), rfl, rfl⟩
      case round =>
        obtain ⟨wi, hwi⟩ : ∃ W, W = wr := ⟨_, rfl⟩
        subst hwi
        obtain ⟨i, a2, c2, zs, rfl, rfl, hi, hown, hzl, hzs⟩ := hrel
        have HO : Hid (OwnN wo wi a2 c2 zs) := hown
        have HZS : Hid (zs.length = i ∧ zs = (colW T k).take i) := ⟨hzl, hzs⟩
        clear hown hzl hzs
        by_cases hli : i < n
        · have i2 : (i : Int) < (n : Int) := by omega
          have hiT : i < T.length := by rw [HL.out.2.1]; exact hli
          obtain ⟨b4, o4, rfl, hc4⟩ := ((HT.out.grown HS.out.own.gr).grown HO.out.gr).at hiT
          obtain ⟨r4, k4, c4', hr4, hm4⟩ := hc4 i hiT
          have hrl : (T.getD i []).length = n := HL.out.2.2 _ (mem_getD hiT)
          obtain ⟨z, hz⟩ : ∃ z, (T.getD i []).getD k 0 = z := ⟨_, rfl⟩
          obtain ⟨b5, o5, rfl, hc5⟩ := hr4.at (k := k) (by rw [hrl]; exact hlt)
          have c5 := hc5 k (by rw [hrl]; exact hlt)
          rw [hz] at c5
          rw [hrl] at c4'
          obtain ⟨a6, c6, w6, hrun, hown⟩ := HO.out.one HZS.out.1 (by omega) z
          have HO6 : Hid (OwnN wo w6 a6 c6 (zs ++ [z])) := hown
          have HZ6 : Hid ((zs ++ [z]).length = i + 1 ∧ zs ++ [z] = (colW T k).take (i + 1)) := ⟨by rw [List.length_append, HZS.out.1]; rfl, by rw [take_snocZ (by rw [colW_len]; exact hiT), ← HZS.out.2, colW_get hiT, hz]⟩
          clear hc4 hr4 hm4 hrl hz hc5 hown
          go_wp2_with fail
          go_roundw
          case rel => exact ⟨i + 1, a6, c6, _, by go_num, rfl, by omega, HO6.out, HZ6.out.1, HZ6.out.2⟩
          case measure => simp [intOf]; omega
        · have i2 : ¬ (i : Int) < (n : Int) := by omega
          have EI : Hid (i = n) := by show _ = _; omega
          have hz : zs = colW T k := by
            rw [HZS.out.2]
            exact List.take_of_length_le (by rw [colW_len, HL.out.2.1]; omega)
          have hin : InW zs 9 := by
            rw [hz]
            exact colW_in (n := 0) HB.out.2.1 (fun r hr => by rw [HL.out.2.2 r hr]; exact hlt)
          have HW0 : Hid (Calls Tryd.prog 20 #[.slice a2 i c2] wi (RowP zs wi)) := wide_any zs a2 i c2 wi HO.out.ints HZS.out.1 (by omega) (fun x hx => by have := hin x hx; omega)
          have HIN : Hid (InW zs 9 ∧ zs = colW T k) := ⟨hin, hz⟩
          clear hz hin
          go_wp2_with fail
          refine HW0.out.mono ?_
          rintro E w6 ⟨a6, c6, q6, rfl, ho6, hq6⟩
          have hzl : zs.length = n := by rw [HZS.out.1]; exact EI.out
          rw [hzl]
          have G6 : Hid (wo.grownBy w6 none) := grown_trans HO.out.gr ho6.gr
          have HD0 := dot_any qr q6 ar a6 kr c6 n m w6 ((HR.out.grown HS.out.own.gr).grown G6.out) ho6.row HL.out.1 (by rw [← List.length_map (f := WhQ.z), hq6, hzl]) hn HB.out.1 (by rw [hq6]; exact HIN.out.1) HB.out.2.2
          rw [hq6] at HD0
          have HD : Hid (Calls Tryd.prog 21 #[.slice ar n kr, .slice a6 n c6] w6 (WhN (dotW (qr.map WhQ.z) zs) w6)) := HD0
          clear HD0 ho6 hq6 hzl HW0
          go_wp2_with fail
          refine HD.out.mono ?_
          rintro E w7 ⟨b7, a7, n7, c7, rfl, hwh, hn7, hg7, hnew⟩
          obtain ⟨a8, c8, w8, hr8, hown⟩ := wd_push HS.out (by omega) (grown_trans G6.out hg7) (q := ⟨b7, a7, n7, c7, dotW (qr.map WhQ.z) zs⟩) hwh (fun y hy => by have := hnew y hy; have := G6.out.size; omega)
          have HST : Hid (WdSt L w (k + 1) a8 c8 (qs ++ [⟨b7, a7, n7, c7, dotW (qr.map WhQ.z) zs⟩]) w8) := ⟨hown, by rw [List.length_append, HS.out.len]; rfl, by rw [List.map_append, HS.out.val, take_snocZ (by rw [HLL.out]; exact hlt), ← HLd.out, byW_get (by rw [HL.out.2.1]; exact hlt), ← HIN.out.2]; rfl⟩
          clear hwh hg7 hnew hown hn7 HD
          go_wp2_with fail
          go_roundw
          case rel => exact ⟨k + 1, a8, c8, _, by go_num, rfl, by omega, HST.out⟩
          case measure => simp [intOf]; omega
    · have i1 : ¬ (k : Int) < (n : Int) := by omega
      have F : Hid (Po (.returned (.slice a' k c')) wo) := by
        show Po _ _
        rw [HPo.out]
        have hv := HS.out.val
        have e : L.take k = L := List.take_of_length_le (by rw [HLL.out]; omega)
        rw [e] at hv
        have ek : k = L.length := by rw [HLL.out]; omega
        exact ⟨a', c', qs, by rw [ek], HS.out.own, hv⟩
      go_wp2_with fail
      first | exact F.out | (go_ret; exact F.out)
end Go.Proofs.YtjinibofbpgfjaaDoor
